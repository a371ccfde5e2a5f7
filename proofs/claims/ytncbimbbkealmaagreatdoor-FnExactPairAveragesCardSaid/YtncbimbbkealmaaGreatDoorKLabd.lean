/-
  A GRAPH WITH SOME LABELS, AS A FLAG: the program's.
-/
import Derived.Test.YtncbimbbkealmaaGreatDoorKLab
import Derived.Test.YtncbimbbkealmaaGreatDoorLeast
namespace Go.Proofs.YtncbimbbkealmaaGreatDoor
open Go.RowKit Go.Shelf
set_option maxRecDepth 100000

section
variable (w : World)
theorem ordF_end (n : Nat) (x : List Nat) : x ++ rest x n = ordF n x := rfl
theorem row_see {w0 w : World} {v : Value} {l : Nat} {x : List Nat} (h : w.ownsRow w0.heap.size 2 1 v l (rowN x)) (hl : x.length = l) : See x v w := by
  have h' : w.ownsRow w0.heap.size 2 1 v l ((List.range l).map fun i => .int .i64 (lf x i)) := by rw [← hl, ← rowN_lf, hl]; exact h
  exact (own_of_row h').see hl
set_option maxHeartbeats 4000000 in
theorem labd_any (n e k : Nat) (x : List Nat) (h : VG n e) (hk3 : k ≤ 3) (hx : okList n k x = true) :
    Calls Tryz.prog 53 #[.agg #[.int .i64 n, .int .u32 e], .int .i64 k, arr x] w fun r w' => r = .returned (.agg #[.int .i64 k, .int .i64 n, .int .u32 (onL e (ordF n x) : Nat)]) ∧ Below w.heap.size w w' := by
  have he : e < 4294967296 := by have := h.2.2.2; have := eMax_le n; simp at *; omega
  have hn5 : n ≤ 5 := by have := h.2.1; omega
  have hxl := ok_length hx
  have hok := ordF_ok hn5 hk3 hx
  obtain ⟨i0, hi, hz0, hz1, hz2⟩ := info_parts info_i64
  obtain ⟨wb, hwb⟩ : ∃ wb, wb = ((w.alloc (.cells #[.int .i64 n, .int .u32 e] 32)).alloc (.cells #[.int .i64 ((x[0]?.getD 0 : Nat) : Int), .int .i64 ((x[1]?.getD 0 : Nat) : Int), .int .i64 ((x[2]?.getD 0 : Nat) : Int)] 85)).alloc (.cells #[.int .i64 0, .int .i64 0, .int .u32 0] 43) := ⟨_, rfl⟩
  have s1 : ∀ (W : World) (o : Obj), (W.alloc o).heap.size = W.heap.size + 1 := fun W o => by simp
  have hbz : wb.heap.size = w.heap.size + 3 := by rw [hwb, s1, s1, s1]
  have g0 : wb.cell? ⟨w.heap.size, 0, none⟩ = some (.int .i64 n) := by rw [hwb, cOld _ _ _ _ (by rw [s1, s1]; omega), cOld _ _ _ _ (by rw [s1]; omega), cNew _ _ _ _ _ rfl]; rfl
  have g1 : wb.cell? ⟨w.heap.size, 1, none⟩ = some (.int .u32 e) := by rw [hwb, cOld _ _ _ _ (by rw [s1, s1]; omega), cOld _ _ _ _ (by rw [s1]; omega), cNew _ _ _ _ _ rfl]; rfl
  have ha : ∀ i, i < k → wb.cell? ⟨w.heap.size + 1, 0 + i, none⟩ = some (.int .i64 ((x[i]?.getD 0 : Nat) : Int)) := fun i hi => by
    rw [Nat.zero_add, hwb, cOld _ _ _ _ (by rw [s1, s1]; omega), cNew _ _ _ _ _ (by rw [s1])]
    have hc : i = 0 ∨ i = 1 ∨ i = 2 := by omega
    rcases hc with rfl | rfl | rfl <;> rfl
  have hr : FC wb (w.heap.size + 2) 0 0 0 := by
    have := FC.made ((w.alloc (.cells #[.int .i64 n, .int .u32 e] 32)).alloc (.cells #[.int .i64 ((x[0]?.getD 0 : Nat) : Int), .int .i64 ((x[1]?.getD 0 : Nat) : Int), .int .i64 ((x[2]?.getD 0 : Nat) : Int)] 85)) 0 0 0 43
    rw [s1, s1, ← hwb] at this
    exact this
  have hfz : ∀ i, wb.frozen? ⟨w.heap.size + 2, i, none⟩ = false := fun i => by rw [hwb, fNew _ _ _ _ _ (by rw [s1, s1])]
  have hB0 : Below w.heap.size w wb := by rw [hwb]; (repeat (first | exact Below.refl _ _ | assumption | refine bchain (by assumption) ?_ | refine balloc ?_ _ | apply Below.drew | apply below_drewN | (refine Below.alloc ?_ (by (try simp) <;> omega) _) | (refine Below.setCell ?_ (by (try simp) <;> omega) _)))
  have hsee : ∀ W, Below wb.heap.size wb W → See x (.slice (some ⟨w.heap.size + 1, 0, none⟩) k 3) W := fun W hW =>
    ⟨some ⟨w.heap.size + 1, 0, none⟩, 3, by rw [zl_length, hxl], by rw [zl_length]; omega, by omega, fun _ => ⟨w.heap.size + 1, 0, rfl, by have := hW.size; omega, fun i hi => by
      rw [zl_length] at hi
      rw [zl_get, hW.cell (p := ⟨w.heap.size + 1, 0 + i, none⟩) (by show w.heap.size + 1 < _; omega)]
      exact ha i (by omega)⟩⟩
  have hCl := Lib.hid (clone_any wb (w.heap.size + 1) 0 3 k x hxl (by omega) ha (.inr (by omega)))
  have hOn := Lib.hid (fun W v (hs : See (ordF n x) v W) => ionL_any W v (ordF n x) n n e hs hn5 he hok)
  have hol : (ordF n x).length = n := ok_length hok
  obtain ⟨y, hy⟩ : ∃ y, onL e (ordF n x) = y := ⟨_, rfl⟩
  rw [hy] at hOn ⊢
  have hal : Tryz.prog.arrayLen 85 = 3 := by simp [Program.arrayLen, Tryz.underlying85]
  have hsl : ∀ W, (Instr.sliceAt 85 (.pointer (some ⟨w.heap.size + 1, 0, none⟩)) none (some (.int .i64 (k : Int))) none).run Tryz.prog W = .ok (.slice (some ⟨w.heap.size + 1, 0, none⟩) k 3) W := fun W => by
    rw [run_sliceAt_array_h W 85 ⟨w.heap.size + 1, 0, none⟩ (by simp [Program.arrayLen, Program.elem, Tryz.underlying85]) .i64 (k : Int) (by omega) (by rw [hal]; omega)]
    go_simp
  clear hal
  replace hi := Lib.hid hi
  replace hz0 := Lib.hid hz0
  replace hz1 := Lib.hid hz1
  replace hz2 := Lib.hid hz2
  replace hsee := Lib.hid hsee
  replace hol := Lib.hid hol
  replace hxl := Lib.hid hxl
  replace hfz := Lib.hid hfz
  replace hr := Lib.hid hr
  replace hx := Lib.hid hx
  replace h := Lib.hid h
  clear ha hok hy s1
  unfold arr
  go_enter Tryz.func53, Tryz.ntmps53
  go_wp2_with fail
  rw [← hwb]
  replace hwb := Lib.hid hwb
  refine hCl.out.mono ?_
  rintro r1 w1 ⟨⟨u, rfl, hown0⟩, hb1⟩
  have q0 := (hb1.cell (p := ⟨w.heap.size, 0, none⟩) (by show w.heap.size < _; omega)).trans g0
  go_wp2_with fail
  go_loopw [7, 8, 14] (fun o _ c wr => ∃ j : Nat, j ≤ n ∧ c = .int .i64 j ∧ Hid (wr.ownsRow wb.heap.size 2 1 o (x ++ rest x j).length (rowN (x ++ rest x j))) ∧ Below wb.heap.size wb wr) (fun _ _ c _ => n - (intOf c).toNat)
  case atStart =>
    refine ⟨0, by omega, rfl, ?_, hb1⟩
    show World.ownsRow _ _ _ _ _ _ _
    rw [show x ++ rest x 0 = x by simp [rest], hxl.out]
    exact hown0.out
  case round =>
    clear q0 hown0 hb1
    obtain ⟨j, hj, rfl, hown, hb⟩ := hrel
    by_cases hlt : j < n
    · have hC := contains_any wr (.slice (some ⟨w.heap.size + 1, 0, none⟩) k 3) x j (hsee.out wr hb) (by have := hxl.out; omega)
      have hge := hb.size
      cases hbb : x.contains j
      · rw [hbb] at hC
        replace hC := Lib.hid hC
        have hx := Lib.hid (rest_f hbb)
        have hlen := rest_le x j
        have hll : (x ++ rest x j).length ≤ 10 := by have := hxl.out; rw [List.length_append]; omega
        clear hbb hlen
        obtain ⟨L, hL⟩ : ∃ L, (x ++ rest x j).length = L := ⟨_, rfl⟩
        rw [hL] at hown hll
        go_wp2_with (first
          | (go_at_call 74; refine (hC.out).mono ?_; rintro r3 w3 ⟨rfl, rfl⟩)
          | (at_builtin; refine wpList_append_own _ rfl _ _ 69 rfl wb.heap.size 2 i0 (.int .i64 0) 1 8 Tryz.underlying69 hi.out hz0.out hz1.out hz2.out rfl (by decide) _ _ _ rfl (hown.out.alloc _) ⟨wr.heap.size, 0, none⟩ 1 1 [.int .i64 j] rfl rfl (fun q u hq => by cases q with | zero => simp at hq; subst hq; rw [show (⟨wr.heap.size, 0, none⟩ : Addr).add 0 = ⟨wr.heap.size, 0, none⟩ from rfl, World.cell?_alloc_new]; rfl | succ q => simp at hq) (fun u hu => by simp at hu; subst hu; rfl) (by unfold maxLen; omega) (by omega) (by simp; omega) ?_; intro v' w4 hown' hgrow _))
        have hown2 : Hid (w4.ownsRow wb.heap.size 2 1 v' (x ++ rest x (j + 1)).length (rowN (x ++ rest x (j + 1)))) := by
          show w4.ownsRow wb.heap.size 2 1 v' _ _
          rw [hx.out, ← List.append_assoc, rowN_snoc, List.length_append, hL]
          exact hown'
        have hb2 : Below wb.heap.size wb w4 := (hb.alloc hge _).grown hgrow (by simp; omega) (fun k hk => (hown.out.lt k hk).1)
        clear hown' hgrow hown
        go_wp2
        go_roundw
        case rel => exact ⟨j + 1, by omega, by go_num, hown2, hb2⟩
        case measure => simp [intOf]; omega
      · rw [hbb] at hC
        replace hC := Lib.hid hC
        have hx := Lib.hid (rest_t hbb)
        clear hbb
        go_wp2_with (go_at_call 74; refine (hC.out).mono ?_; rintro r3 w3 ⟨rfl, rfl⟩)
        go_roundw
        case rel => exact ⟨j + 1, by omega, by go_num, by rw [hx.out]; exact hown, hb⟩
        case measure => simp [intOf]; omega
    · obtain rfl : j = n := by omega
      have hdd := decide_eq_false (show ¬ ((j : Int) < (j : Int)) by omega)
      have hS : See (ordF j x) _ wr := row_see (w0 := wb) hown.out rfl
      replace hS := Lib.hid hS
      have e0 := (hb.cell (p := ⟨w.heap.size, 0, none⟩) (by show w.heap.size < _; omega)).trans g0
      have e1 := (hb.cell (p := ⟨w.heap.size, 1, none⟩) (by show w.heap.size < _; omega)).trans g1
      clear hown
      go_wp2_with fail
      refine (hOn.out _ _ hS.out).mono ?_
      rintro r5 w5 ⟨rfl, hb5⟩
      have hbw5 : Below wb.heap.size wb w5 := hb.trans (hb5.mono hb.size)
      have hfc : FC w5 (w.heap.size + 1 + 1) 0 0 0 := hr.out.under hbw5 (by omega)
      have hf0 := (hbw5.frozen (p := ⟨w.heap.size + 1 + 1, 0, none⟩) (by show w.heap.size + 1 + 1 < _; omega)).trans (hfz.out 0)
      have hf1 := (hbw5.frozen (p := ⟨w.heap.size + 1 + 1, 1, none⟩) (by show w.heap.size + 1 + 1 < _; omega)).trans (hfz.out 1)
      have hf2 := (hbw5.frozen (p := ⟨w.heap.size + 1 + 1, 2, none⟩) (by show w.heap.size + 1 + 1 < _; omega)).trans (hfz.out 2)
      have hbw : Below w.heap.size w w5 := hB0.trans (hbw5.mono (by omega))
      obtain ⟨_, t0, t1, t2⟩ := id hfc
      replace hfc := Lib.hid hfc
      clear e0 e1 hb5 hbw5 hb hB0
      go_wp2
      replace hfc := hfc.out
      have hF := hfc.put (k) (j) (y)
      have hBB := (((hbw.setCell (p := ⟨w.heap.size + 1 + 1, 0, none⟩) (by show w.heap.size ≤ w.heap.size + 1 + 1; omega) (.int .i64 (k))).setCell (p := ⟨w.heap.size + 1 + 1, 1, none⟩) (by show w.heap.size ≤ w.heap.size + 1 + 1; omega) (.int .i64 (j))).setCell (p := ⟨w.heap.size + 1 + 1, 2, none⟩) (by show w.heap.size ≤ w.heap.size + 1 + 1; omega) (.int .u32 (y)))
      obtain ⟨WW, hWW⟩ : ∃ WW, WW = (((w5.setCell ⟨w.heap.size + 1 + 1, 0, none⟩ (.int .i64 (k))).setCell ⟨w.heap.size + 1 + 1, 1, none⟩ (.int .i64 (j))).setCell ⟨w.heap.size + 1 + 1, 2, none⟩ (.int .u32 (y))) := ⟨_, rfl⟩
      rw [← hWW] at hF hBB ⊢
      clear hWW
      obtain ⟨_, hF0, hF1, hF2⟩ := hF
      exact bodyPost_ret (v := .agg #[.int .i64 (k), .int .i64 (j), .int .u32 (y)]) (by simp [results, Tryz.results53, go_sem, hF0, hF1, hF2]) rfl ⟨rfl, hBB⟩
end
end Go.Proofs.YtncbimbbkealmaaGreatDoor
