/-
  ROWS THAT A FUNCTION TELLS, where the function reads what its maker holds, and may throw: the program's matrixOf.
-/
import Derived.Test.YtdibcchhamapjacFMatO
import Derived.Test.YtdibcchhamapjacLim
import Derived.Deep.RegionHeld2
namespace Go.Proofs.Ytdibcchhamapjac
open Go.RowKit
set_option maxRecDepth 100000
/-- a way of a region that is not gone -/
theorem fakeM_call {P : Program} {f : FuncId} {args : Array Value} {w : World} {Q : Ending → World → Prop} {v : Value} (hf : Hid False) (_ : Q (.returned v) w) : Calls P f args w Q := hf.out.elim
/-- a call that panics -/
theorem panicM_call {P : Program} {f : FuncId} {args : Array Value} {w : World} {Q : Ending → World → Prop} {c : List PanicEntry} (h : Calls P f args w fun e w' => e = .panicked c ∧ Below w.heap.size w w')
    (hq : ∀ w', Below w.heap.size w w' → Q (.panicked c) w') : Calls P f args w Q := h.mono fun _ w' ⟨he, hb⟩ => by rw [he]; exact hq w' hb
section
variable (w : World)
set_option maxHeartbeats 2000000 in
theorem imatB_ok (G : FuncId) (caps : Array Value) (eg : ∀ args w, (callFunc G args).run Try.prog w = .ok (.enter G args) w) (n : Nat) (hn : n ≤ 8) (g : Nat → Nat → Int × Int)
    (hG : ∀ W (i j : Nat), i < n → j < n → Below w.heap.size w W → Calls Try.prog G (#[.int .i64 i, .int .i64 j] ++ caps) W fun r w' => r = .returned (.agg #[.int .i64 (g i j).1, .int .i64 (g i j).2]) ∧ Below W.heap.size W w') :
    Calls Try.prog 66 #[.int .i64 n, .func (.func G) #[] caps] w fun r w' => r = .returned (.slice (some ⟨w.heap.size + 1, 0, none⟩) n n) ∧ Below w.heap.size w w' ∧ CF w' w.heap.size (n * n * 2) (gv n g) ∧ RowsIn w' (w.heap.size + 1) w.heap.size n ∧ (∀ c, w'.frozen? ⟨w.heap.size, c, none⟩ = false) ∧ w.heap.size + 1 < w'.heap.size := by
  obtain ⟨i0, hi0, hz0, hs0, hb0⟩ := info_parts info_graph
  obtain ⟨i1, hi1, hz1, hs1, hb1⟩ := info_parts info_row
  obtain ⟨N, hN⟩ : ∃ N : Nat, n * n = N := ⟨_, rfl⟩
  have hN64 : N ≤ 64 := by rw [← hN]; exact Nat.mul_le_mul hn hn
  obtain ⟨O, hO⟩ : ∃ O, O = Obj.cells (madeCells #[.int .i64 0, .int .i64 0] (N * 2)) 36 := ⟨_, rfl⟩
  obtain ⟨O1, hO1⟩ : ∃ O, O = Obj.cells (madeCells #[.slice none 0 0] (n * 1)) 42 := ⟨_, rfl⟩
  have hmk : ∀ W : World, (Instr.makeSlice 42 (.int .i64 N) (.int .i64 N)).run Try.prog W = .ok (.slice (some ⟨W.heap.size, 0, none⟩) N N) (W.alloc O) := fun W => by
    have hr := run_make (P := Try.prog) W 42 36 i0 (.agg #[.int .i64 0, .int .i64 0]) Try.underlying42 hi0 hz0 .i64 .i64 (N : Int) (N : Int) (by omega) (by omega) (by rw [hb0]; omega) (by omega)
    simp only [Int.toNat_natCast, hs0] at hr
    rw [hO]
    exact hr
  have hmk1 : ∀ W : World, (Instr.makeSlice 22 (.int .i64 n) (.int .i64 n)).run Try.prog W = .ok (.slice (some ⟨W.heap.size, 0, none⟩) n n) (W.alloc O1) := fun W => by
    have hr := run_make (P := Try.prog) W 22 42 i1 (.slice none 0 0) Try.underlying22 hi1 hz1 .i64 .i64 (n : Int) (n : Int) (by omega) (by omega) (by rw [hb1]; omega) (by omega)
    simp only [Int.toNat_natCast, hs1] at hr
    rw [hO1]
    exact hr
  clear hi0 hz0 hs0 hb0 hi1 hz1 hs1 hb1
  replace hO := Lib.hid hO
  replace hO1 := Lib.hid hO1
  replace hG := Lib.hid hG
  have hNN : (n : Int) * (n : Int) = (N : Int) := by rw [← hN]; simp
  replace hN := Lib.hid hN
  go_enter Try.func66, Try.ntmps66
  go_wp2
  go_loopw [7, 8, 17, 41] (fun _ _ q _ wr => ∃ i : Nat, i ≤ n ∧ q = .int .i64 i ∧ CF wr w.heap.size (N * 2) (upTo n g (i * n * 2)) ∧ RowsTo wr (w.heap.size + 1) w.heap.size n i ∧ (∀ c, wr.frozen? ⟨w.heap.size, c, none⟩ = false) ∧ (∀ c, wr.frozen? ⟨w.heap.size + 1, c, none⟩ = false) ∧ w.heap.size + 1 < wr.heap.size ∧ Below w.heap.size w wr) (fun _ _ q _ _ => n - (intOf q).toNat)
  case atStart => exact ⟨0, by omega, by rfl, madeCF w N _ O O1 n g hO.out, madeRows w n _ _ O O1 hO1.out, fun c => by rw [hO.out, hO1.out]; simp, fun c => by rw [hO1.out, hO.out]; simp, by simp, by (repeat (first | exact Below.refl _ _ | assumption | refine bchain (by assumption) ?_ | refine balloc ?_ _ | apply Below.drew | apply below_drewN | (refine Below.alloc ?_ (by (try simp) <;> omega) _) | (refine Below.setCell ?_ (by (try simp) <;> omega) _)))⟩
  case round =>
    obtain ⟨i, hi, rfl, hC, hR, hF, hF1, hz, hb⟩ := hrel
    by_cases hlt : i < n
    · have r0 := hR i hlt
      rw [if_neg (by omega)] at r0
      have f1 := hF1 i
      obtain ⟨t, ht⟩ : ∃ t, i * n = t := ⟨_, rfl⟩
      have hm1 : (i : Int) * (n : Int) = (t : Int) := by rw [← ht]; simp
      have hm2 : ((i : Int) + 1) * (n : Int) = (t : Int) + (n : Int) := by rw [Int.add_mul, Int.one_mul, hm1]
      have ht2 : t + n ≤ N := by
        have h1 : (i + 1) * n ≤ n * n := Nat.mul_le_mul (by omega) (Nat.le_refl n)
        rw [Nat.add_mul, Nat.one_mul, ht, hN.out] at h1
        exact h1
      replace hC := Lib.hid hC
      replace hR := Lib.hid hR
      replace hF := Lib.hid hF
      replace hF1 := Lib.hid hF1
      have hin : i < n := hlt
      go_wp2
      simp only [Nat.add_sub_cancel_left]
      go_loopw [8, 41] (fun _ q wr => ∃ j : Nat, j ≤ n ∧ q = .int .i64 j ∧ CF wr w.heap.size (N * 2) (upTo n g (t * 2 + j * 2)) ∧ RowsTo wr (w.heap.size + 1) w.heap.size n (i + 1) ∧ (∀ c, wr.frozen? ⟨w.heap.size, c, none⟩ = false) ∧ (∀ c, wr.frozen? ⟨w.heap.size + 1, c, none⟩ = false) ∧ w.heap.size + 1 < wr.heap.size ∧ Below w.heap.size w wr) (fun _ q _ => n - (intOf q).toNat)
      case atStart =>
        obtain ⟨n1, n2, n3, n4⟩ := row_next ht hin hC.out hR.out hF.out hF1.out _ rfl
        exact ⟨0, by omega, by rfl, n1, n2, n3, n4, by simp; omega, hb.setCell (by simp <;> omega) _⟩
      case round =>
        clear f1 hC hR hF hF1 hz hb r0
        obtain ⟨j, hj, rfl, hC, hR, hF, hF1, hz, hb⟩ := hrel
        by_cases hjn : j < n
        · have r1 := hR i hin
          rw [if_pos (by omega), ht] at r1
          have c0 := hC (t * 2 + j * 2) (by omega)
          have c1 := hC (t * 2 + j * 2 + 1) (by omega)
          have f0 := hF (t * 2 + j * 2)
          have f1 := hF (t * 2 + j * 2 + 1)
          obtain ⟨z0, hz0⟩ : ∃ z, upTo n g (t * 2 + j * 2) (t * 2 + j * 2) = z := ⟨_, rfl⟩
          obtain ⟨z1, hz1⟩ : ∃ z, upTo n g (t * 2 + j * 2) (t * 2 + j * 2 + 1) = z := ⟨_, rfl⟩
          rw [hz0] at c0
          rw [hz1] at c1
          obtain ⟨x, y, hxy⟩ : ∃ x y, g i j = (x, y) := ⟨_, _, rfl⟩
          have hQ := Lib.hid (fun W (hbW : Below w.heap.size w W) => hG.out W i j hin hjn hbW)
          rw [hxy] at hQ
          have hE := Lib.hid (fun W (h : Below wr.heap.size wr W) => mat_next (w := w) h hjn ht ht2 hxy hC hR hF hF1 hz hb _ rfl)
          clear hz0 hz1
          have zA : w.heap.size + 1 < wr.heap.size := hz
          have zB : w.heap.size < wr.heap.size := by omega
          replace hC := Lib.hid hC
          replace hR := Lib.hid hR
          replace hF := Lib.hid hF
          replace hF1 := Lib.hid hF1
          go_wp2
          go_region_held3 (fun W => W.cell? ⟨w.heap.size + 1, i, none⟩ = some (.slice (some ⟨w.heap.size, t * 2, none⟩) n n) ∧ W.cell? ⟨w.heap.size, t * 2 + j * 2, none⟩ = some (cellOf W ⟨w.heap.size, t * 2 + j * 2, none⟩) ∧ W.cell? ⟨w.heap.size, t * 2 + j * 2 + 1, none⟩ = some (cellOf W ⟨w.heap.size, t * 2 + j * 2 + 1, none⟩) ∧ W.frozen? ⟨w.heap.size, t * 2 + j * 2, none⟩ = false ∧ W.frozen? ⟨w.heap.size, t * 2 + j * 2 + 1, none⟩ = false)
            (first
              | exact held_store rfl zA zB r1 c0 c1 f0 f1 (by (repeat (first | exact Below.refl _ _ | assumption | refine bchain (by assumption) ?_ | refine balloc ?_ _ | apply Below.drew | apply below_drewN | (refine Below.alloc ?_ (by (try simp) <;> omega) _) | (refine Below.setCell ?_ (by (try simp) <;> omega) _)))) _ rfl
              | exact ⟨old_cell zA r1 (by (repeat (first | exact Below.refl _ _ | assumption | refine bchain (by assumption) ?_ | refine balloc ?_ _ | apply Below.drew | apply below_drewN | (refine Below.alloc ?_ (by (try simp) <;> omega) _) | (refine Below.setCell ?_ (by (try simp) <;> omega) _)))), cellOf_of (old_cell zB c0 (by (repeat (first | exact Below.refl _ _ | assumption | refine bchain (by assumption) ?_ | refine balloc ?_ _ | apply Below.drew | apply below_drewN | (refine Below.alloc ?_ (by (try simp) <;> omega) _) | (refine Below.setCell ?_ (by (try simp) <;> omega) _))))), cellOf_of (old_cell zB c1 (by (repeat (first | exact Below.refl _ _ | assumption | refine bchain (by assumption) ?_ | refine balloc ?_ _ | apply Below.drew | apply below_drewN | (refine Below.alloc ?_ (by (try simp) <;> omega) _) | (refine Below.setCell ?_ (by (try simp) <;> omega) _))))), (Below.frozen (p := ⟨w.heap.size, t * 2 + j * 2, none⟩) (by (repeat (first | exact Below.refl _ _ | assumption | refine bchain (by assumption) ?_ | refine balloc ?_ _ | apply Below.drew | apply below_drewN | (refine Below.alloc ?_ (by (try simp) <;> omega) _) | (refine Below.setCell ?_ (by (try simp) <;> omega) _)))) zB).trans f0, (Below.frozen (p := ⟨w.heap.size, t * 2 + j * 2 + 1, none⟩) (by (repeat (first | exact Below.refl _ _ | assumption | refine bchain (by assumption) ?_ | refine balloc ?_ _ | apply Below.drew | apply below_drewN | (refine Below.alloc ?_ (by (try simp) <;> omega) _) | (refine Below.setCell ?_ (by (try simp) <;> omega) _)))) zB).trans f1⟩)
            (first | (refine (hQ.out _ (by (repeat (first | exact Below.refl _ _ | assumption | refine bchain (by assumption) ?_ | refine balloc ?_ _ | apply Below.drew | apply below_drewN | (refine Below.alloc ?_ (by (try simp) <;> omega) _) | (refine Below.setCell ?_ (by (try simp) <;> omega) _))))).mono ?_; rintro r w3 ⟨rfl, hb3⟩))
          obtain ⟨n1, n2, n3, n4, n5, n6⟩ := hE.out w3 (by (repeat (first | exact Below.refl _ _ | assumption | refine bchain (by assumption) ?_ | refine balloc ?_ _ | apply Below.drew | apply below_drewN | (refine Below.alloc ?_ (by (try simp) <;> omega) _) | (refine Below.setCell ?_ (by (try simp) <;> omega) _))))
          replace n1 := Lib.hid n1
          replace n2 := Lib.hid n2
          replace n3 := Lib.hid n3
          replace n4 := Lib.hid n4
          go_wp2
          go_roundw
          case rel => exact ⟨j + 1, by omega, by go_num, n1.out, n2.out, n3.out, n4.out, n5, n6⟩
          case measure => simp [intOf]; omega
        · obtain rfl : j = n := by omega
          have hd := decide_eq_false (show ¬ ((j : Int) < (j : Int)) by omega)
          rw [show t * 2 + j * 2 = (i + 1) * j * 2 by rw [Nat.add_mul, Nat.one_mul, ht]; omega] at hC
          replace hC := Lib.hid hC
          replace hR := Lib.hid hR
          replace hF := Lib.hid hF
          replace hF1 := Lib.hid hF1
          go_wp2
          go_roundw
          case rel => exact ⟨i + 1, by omega, by go_num, hC.out, hR.out, hF.out, hF1.out, hz, hb⟩
          case measure => simp [intOf]; omega
    · obtain rfl : i = n := by omega
      have hd := decide_eq_false (show ¬ ((i : Int) < (i : Int)) by omega)
      replace hC := Lib.hid hC
      replace hR := Lib.hid hR
      replace hF := Lib.hid hF
      replace hF1 := Lib.hid hF1
      go_wp2
      go_ret
      refine ⟨rfl, hb, ?_, fun k hk => ?_, hF.out, hz⟩
      · have h := hC.out
        rw [hN.out] at h ⊢
        exact h.congr (fun c hc => by unfold upTo; rw [if_pos hc])
      · have h := hR.out k hk
        rwa [if_pos hk] at h
end
end Go.Proofs.Ytdibcchhamapjac
