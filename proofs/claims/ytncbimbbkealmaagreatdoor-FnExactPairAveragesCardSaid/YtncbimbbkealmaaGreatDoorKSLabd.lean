/-
  A GRAPH WITH SOME LABELS, AS A FLAG: the model's; and a list of numbers, copied: it is never nil.
-/
import Derived.Test.YtncbimbbkealmaaGreatDoorKLabd
import Derived.Test.YtncbimbbkealmaaGreatDoorSLeast
namespace Go.Proofs.YtncbimbbkealmaaGreatDoor
open Go.RowKit Go.Shelf
set_option maxRecDepth 100000

/-- a list that is not nil -/
def SlS (w : World) (v : Value) (zs : List Int) : Prop := SlI w v zs ∧ ∃ ad cap, v = .slice (some ad) zs.length cap
theorem SlS.below {w w' : World} {v : Value} {zs : List Int} (h : SlS w v zs) (hb : Below w.heap.size w w') : SlS w' v zs := ⟨h.1.below hb, h.2⟩
section
variable (w : World)
theorem samong_any (v : Value) (x : List Nat) (u : Nat) (h : See x v w) (hl : x.length ≤ 1048576) :
    Calls Tryz.prog 63 #[v, .int .i64 u] w fun e w' => e = .returned (.bool (x.contains u)) ∧ w = w' := by
  obtain ⟨a, cap, rfl, h1, h2, h3⟩ := h
  rw [zl_length]
  cases x with
  | nil => exact among_zero w a cap u
  | cons y ys =>
    obtain ⟨b, off, rfl, hb, hc⟩ := h3 (by simp [zl])
    exact among_some w b off cap u (y :: ys) _ rfl _ rfl hl (fun i hi => by rw [hc i (by rw [zl_length]; exact hi), zl_get])

set_option maxHeartbeats 4000000 in
theorem slabd_any (n e k : Nat) (x : List Nat) (v : Value) (h : VG n e) (hk3 : k ≤ 3) (hx : okList n k x = true) (hS : SlS w v (zl x)) :
    Calls Tryz.prog 36 #[.agg #[.int .i64 n, .int .u32 e], v] w fun r w' => r = .returned (.agg #[.int .i64 k, .int .i64 n, .int .u32 (onL e (ordF n x) : Nat)]) ∧ Below w.heap.size w w' := by
  have he : e < 4294967296 := by have := h.2.2.2; have := eMax_le n; simp at *; omega
  have hn5 : n ≤ 5 := by have := h.2.1; omega
  have hxl := ok_length hx
  have hok := ordF_ok hn5 hk3 hx
  obtain ⟨i0, hi, hz0, hz1, hz2⟩ := info_parts info_i64
  obtain ⟨hS1, ad, cap, hv⟩ := hS
  rw [zl_length, hxl] at hv
  obtain ⟨wb, hwb⟩ : ∃ wb, wb = (w.alloc (.cells #[.int .i64 n, .int .u32 e] 32)).alloc (.cells #[.int .i64 0, .int .i64 0, .int .u32 0] 43) := ⟨_, rfl⟩
  have s1 : ∀ (W : World) (o : Obj), (W.alloc o).heap.size = W.heap.size + 1 := fun W o => by simp
  have hbz : wb.heap.size = w.heap.size + 2 := by rw [hwb, s1, s1]
  have g0 : wb.cell? ⟨w.heap.size, 0, none⟩ = some (.int .i64 n) := by rw [hwb, cOld _ _ _ _ (by rw [s1]; omega), cNew _ _ _ _ _ rfl]; rfl
  have g1 : wb.cell? ⟨w.heap.size, 1, none⟩ = some (.int .u32 e) := by rw [hwb, cOld _ _ _ _ (by rw [s1]; omega), cNew _ _ _ _ _ rfl]; rfl
  have hr : FC wb (w.heap.size + 1) 0 0 0 := by
    have := FC.made (w.alloc (.cells #[.int .i64 n, .int .u32 e] 32)) 0 0 0 43
    rw [s1, ← hwb] at this
    exact this
  have hfz : ∀ i, wb.frozen? ⟨w.heap.size + 1, i, none⟩ = false := fun i => by rw [hwb, fNew _ _ _ _ _ (by rw [s1])]
  have hB0 : Below w.heap.size w wb := by rw [hwb]; (repeat (first | exact Below.refl _ _ | assumption | refine bchain (by assumption) ?_ | refine balloc ?_ _ | apply Below.drew | apply below_drewN | (refine Below.alloc ?_ (by (try simp) <;> omega) _) | (refine Below.setCell ?_ (by (try simp) <;> omega) _)))
  have hsee : ∀ W, Below wb.heap.size wb W → See x v W := fun W hW => SlI.below (SlI.below hS1 hB0) hW
  have hsrc : ∀ q u, (rowN x)[q]? = some u → (wb.alloc (.cells #[] 2)).cell? (ad.add q) = some u := fun q u hq => by
    obtain ⟨q1, q2⟩ := rowN_get hq
    obtain ⟨a', cap', e1, _, _, e3⟩ := SlI.below (SlI.below hS1 hB0) ((Below.refl _ wb).alloc (Nat.le_refl _) (.cells #[] 2))
    obtain ⟨b, off, rfl, hb, hc⟩ := e3 (by intro c; rw [← List.length_eq_zero_iff, zl_length] at c; omega)
    rw [hv] at e1
    injection e1 with e1 _ _
    injection e1 with e1
    rw [e1, add_none, hc q (by rw [zl_length]; exact q1), zl_get, q2]
  have hOn := Lib.hid (fun W v (hs : See (ordF n x) v W) => sonL_any W v (ordF n x) n n e hs hn5 he hok)
  obtain ⟨y, hy⟩ : ∃ y, onL e (ordF n x) = y := ⟨_, rfl⟩
  rw [hy] at hOn ⊢
  have hown0 : (wb.alloc (.cells #[] 2)).ownsRow wb.heap.size 2 1 (.slice (some ⟨w.heap.size + 1 + 1, 0, none⟩) 0 0) 0 [] := by
    rw [show w.heap.size + 1 + 1 = wb.heap.size by omega]
    exact World.ownsRow_made wb #[] 0 (Nat.le_refl _) (by omega) rfl
  replace hown0 := Lib.hid hown0
  subst hv
  replace hwb := Lib.hid hwb
  replace hi := Lib.hid hi
  replace hz0 := Lib.hid hz0
  replace hz1 := Lib.hid hz1
  replace hz2 := Lib.hid hz2
  replace hsee := Lib.hid hsee
  replace hsrc := Lib.hid hsrc
  replace hxl := Lib.hid hxl
  replace hfz := Lib.hid hfz
  replace hr := Lib.hid hr
  replace hx := Lib.hid hx
  replace h := Lib.hid h
  clear hok hy s1 hS1
  go_enter Tryz.func36, Tryz.ntmps36
  go_wp2_with (at_builtin; rw [← hwb.out]; refine wpList_append_own _ rfl _ _ 69 rfl wb.heap.size 2 i0 (.int .i64 0) 1 8 Tryz.underlying69 hi.out hz0.out hz1.out hz2.out rfl (by decide) _ _ _ rfl hown0.out ad k cap (rowN x) rfl (by rw [rowN_length, hxl.out]; omega) hsrc.out (fun u hu => by unfold rowN at hu; rw [List.mem_map] at hu; obtain ⟨_, _, rfl⟩ := hu; rfl) (by unfold maxLen; omega) (by omega) (by simp) ?_; intro v1 w1 hown1 hgrow1 _)
  have hb1 : Below wb.heap.size wb w1 := ((Below.refl _ wb).alloc (Nat.le_refl _) _).grown hgrow1 (by simp) (fun k hk => by cases hk; show wb.heap.size ≤ w.heap.size + 1 + 1; omega)
  rw [Nat.zero_add] at hown1
  replace hown1 := Lib.hid hown1
  clear hgrow1
  go_wp2_with fail
  go_loopw [5, 6] (fun o c wr => ∃ j : Nat, j ≤ n ∧ c = .int .i64 j ∧ Hid (wr.ownsRow wb.heap.size 2 1 o (x ++ rest x j).length (rowN (x ++ rest x j))) ∧ Below wb.heap.size wb wr) (fun _ c _ => n - (intOf c).toNat)
  case atStart =>
    refine ⟨0, by omega, rfl, ?_, hb1⟩
    show World.ownsRow _ _ _ _ _ _ _
    rw [show x ++ rest x 0 = x by simp [rest], hxl.out]
    exact hown1.out
  case round =>
    clear hown1 hb1 hown0
    obtain ⟨j, hj, rfl, hown, hb⟩ := hrel
    have e0 := (hb.cell (p := ⟨w.heap.size, 0, none⟩) (by show w.heap.size < _; omega)).trans g0
    by_cases hlt : j < n
    · have hC := samong_any wr (.slice (some ad) k cap) x j (hsee.out wr hb) (by have := hxl.out; omega)
      have hge := hb.size
      cases hbb : x.contains j
      · rw [hbb] at hC
        replace hC := Lib.hid hC
        have hx := Lib.hid (rest_f hbb)
        have hlen := rest_le x j
        have hll : (x ++ rest x j).length ≤ 10 := by have := hxl.out; rw [List.length_append]; omega
        clear hbb hlen
        obtain ⟨L, hL⟩ : ∃ L, (x ++ rest x j).length = L := ⟨_, rfl⟩
        rw [hL] at hown hll
        go_wp2_with (first
          | (go_at_call 63; refine (hC.out).mono ?_; rintro r3 w3 ⟨rfl, rfl⟩)
          | (at_builtin; refine wpList_append_own _ rfl _ _ 69 rfl wb.heap.size 2 i0 (.int .i64 0) 1 8 Tryz.underlying69 hi.out hz0.out hz1.out hz2.out rfl (by decide) _ _ _ rfl (hown.out.alloc _) ⟨wr.heap.size, 0, none⟩ 1 1 [.int .i64 j] rfl rfl (fun q u hq => by cases q with | zero => simp at hq; subst hq; rw [show (⟨wr.heap.size, 0, none⟩ : Addr).add 0 = ⟨wr.heap.size, 0, none⟩ from rfl, World.cell?_alloc_new]; rfl | succ q => simp at hq) (fun u hu => by simp at hu; subst hu; rfl) (by unfold maxLen; omega) (by omega) (by simp; omega) ?_; intro v' w4 hown' hgrow _))
        have hown2 : Hid (w4.ownsRow wb.heap.size 2 1 v' (x ++ rest x (j + 1)).length (rowN (x ++ rest x (j + 1)))) := by
          show w4.ownsRow wb.heap.size 2 1 v' _ _
          rw [hx.out, ← List.append_assoc, rowN_snoc, List.length_append, hL]
          exact hown'
        have hb2 : Below wb.heap.size wb w4 := (hb.alloc hge _).grown hgrow (by simp; omega) (fun k hk => (hown.out.lt k hk).1)
        clear hown' hgrow hown
        go_wp2
        go_roundw
        case rel => exact ⟨j + 1, by omega, by go_num, hown2, hb2⟩
        case measure => simp [intOf]; omega
      · rw [hbb] at hC
        replace hC := Lib.hid hC
        have hx := Lib.hid (rest_t hbb)
        clear hbb
        go_wp2_with (go_at_call 63; refine (hC.out).mono ?_; rintro r3 w3 ⟨rfl, rfl⟩)
        go_roundw
        case rel => exact ⟨j + 1, by omega, by go_num, by rw [hx.out]; exact hown, hb⟩
        case measure => simp [intOf]; omega
    · obtain rfl : j = n := by omega
      have hdd := decide_eq_false (show ¬ ((j : Int) < (j : Int)) by omega)
      have hS : See (ordF j x) _ wr := row_see (w0 := wb) hown.out rfl
      replace hS := Lib.hid hS
      have e1 := (hb.cell (p := ⟨w.heap.size, 1, none⟩) (by show w.heap.size < _; omega)).trans g1
      clear hown
      go_wp2_with fail
      refine (hOn.out _ _ hS.out).mono ?_
      rintro r5 w5 ⟨rfl, hb5⟩
      have hbw5 : Below wb.heap.size wb w5 := hb.trans (hb5.mono hb.size)
      have hfc : FC w5 (w.heap.size + 1) 0 0 0 := hr.out.under hbw5 (by omega)
      have hf0 := (hbw5.frozen (p := ⟨w.heap.size + 1, 0, none⟩) (by show w.heap.size + 1 < _; omega)).trans (hfz.out 0)
      have hf1 := (hbw5.frozen (p := ⟨w.heap.size + 1, 1, none⟩) (by show w.heap.size + 1 < _; omega)).trans (hfz.out 1)
      have hf2 := (hbw5.frozen (p := ⟨w.heap.size + 1, 2, none⟩) (by show w.heap.size + 1 < _; omega)).trans (hfz.out 2)
      have hbw : Below w.heap.size w w5 := hB0.trans (hbw5.mono (by omega))
      obtain ⟨_, t0, t1, t2⟩ := id hfc
      replace hfc := Lib.hid hfc
      clear e0 e1 hb5 hbw5 hb hB0
      go_wp2
      replace hfc := hfc.out
      have hF := hfc.put (k) (j) (y)
      have hBB := (((hbw.setCell (p := ⟨w.heap.size + 1, 0, none⟩) (by show w.heap.size ≤ w.heap.size + 1; omega) (.int .i64 (k))).setCell (p := ⟨w.heap.size + 1, 1, none⟩) (by show w.heap.size ≤ w.heap.size + 1; omega) (.int .i64 (j))).setCell (p := ⟨w.heap.size + 1, 2, none⟩) (by show w.heap.size ≤ w.heap.size + 1; omega) (.int .u32 (y)))
      obtain ⟨WW, hWW⟩ : ∃ WW, WW = (((w5.setCell ⟨w.heap.size + 1, 0, none⟩ (.int .i64 (k))).setCell ⟨w.heap.size + 1, 1, none⟩ (.int .i64 (j))).setCell ⟨w.heap.size + 1, 2, none⟩ (.int .u32 (y))) := ⟨_, rfl⟩
      rw [← hWW] at hF hBB ⊢
      clear hWW
      obtain ⟨_, hF0, hF1, hF2⟩ := hF
      exact bodyPost_ret (v := .agg #[.int .i64 (k), .int .i64 (j), .int .u32 (y)]) (by simp [results, Tryz.results36, go_sem, hF0, hF1, hF2]) rfl ⟨rfl, hBB⟩
end
end Go.Proofs.YtncbimbbkealmaaGreatDoor
