/-
  CONTRACTS: a flag of the laws' own as the program's; which flags are valid (the program's word and the model's); flags held against each other.
-/
import Derived.Test.YtncbimbbkealmaaGreatDoorMade
import Derived.Deep.DeepCutAuto
import Derived.Deep.RegionWith
namespace Go.Proofs.YtncbimbbkealmaaGreatDoor
open Go.RowKit
set_option maxRecDepth 100000

/-- k labels, n vertices and the bits e are a valid flag -/
def VK (k n e : Int) : Prop := VG n e ∧ 0 ≤ k ∧ k ≤ 3 ∧ k ≤ n
theorem old_lt {wS W : World} {B : Nat} (h : B < wS.heap.size) (hb : Below wS.heap.size wS W) : B < W.heap.size := Nat.lt_of_lt_of_le h hb.size
theorem old_cell {wS W : World} {B o : Nat} {v : Value} (h : B < wS.heap.size) (hc : wS.cell? ⟨B, o, none⟩ = some v) (hb : Below wS.heap.size wS W) : W.cell? ⟨B, o, none⟩ = some v := (hb.cell (p := ⟨B, o, none⟩) h).trans hc
/-- the cells of a flag -/
structure FC (W : World) (B : Nat) (k n e : Int) : Prop where
  lt : B < W.heap.size
  c0 : W.cell? ⟨B, 0, none⟩ = some (.int .i64 k)
  c1 : W.cell? ⟨B, 1, none⟩ = some (.int .i64 n)
  c2 : W.cell? ⟨B, 2, none⟩ = some (.int .u32 e)
theorem FC.block {W W' : World} {B : Nat} {k n e : Int} (h : FC W B k n e) (hz : W.heap.size ≤ W'.heap.size) (hs : W'.heap[B]? = W.heap[B]?) : FC W' B k n e :=
  ⟨Nat.lt_of_lt_of_le h.lt hz, (World.cell?_of_block (a := ⟨B, 0, none⟩) hs).trans h.c0, (World.cell?_of_block (a := ⟨B, 1, none⟩) hs).trans h.c1, (World.cell?_of_block (a := ⟨B, 2, none⟩) hs).trans h.c2⟩
theorem FC.under {W W' : World} {B C : Nat} {k n e : Int} (h : FC W B k n e) (hb : Below C W W') (hB : B < C) : FC W' B k n e := h.block hb.size (hb.block _ hB)
theorem FC.below {W W' : World} {B : Nat} {k n e : Int} (h : FC W B k n e) (hb : Below W.heap.size W W') : FC W' B k n e := h.under hb h.lt
theorem FC.made (W : World) (k n e : Int) (t : TypeId) : FC (W.alloc (.cells #[.int .i64 k, .int .i64 n, .int .u32 e] t)) W.heap.size k n e :=
  ⟨by simp, by rw [World.cell?_alloc_new]; rfl, by rw [World.cell?_alloc_new]; rfl, by rw [World.cell?_alloc_new]; rfl⟩
theorem FC.other {W : World} {B : Nat} {k n e : Int} (h : FC W B k n e) {p : Addr} (v : Value) (hp : p.block ≠ B) : FC (W.setCell p v) B k n e :=
  h.block (by simp) (Below.heap_setCell _ _ _ _ (by omega))
/-- a flag, stored over another one -/
theorem FC.put {W : World} {B : Nat} {k n e : Int} (h : FC W B k n e) (k' n' e' : Int) : FC (((W.setCell ⟨B, 0, none⟩ (.int .i64 k')).setCell ⟨B, 1, none⟩ (.int .i64 n')).setCell ⟨B, 2, none⟩ (.int .u32 e')) B k' n' e' where
  lt := by have := h.lt; simpa using this
  c0 := (World.cell?_setCell_other _ _ _ _ (by simp)).trans ((World.cell?_setCell_other _ _ _ _ (by simp)).trans (World.cell?_setCell_same _ _ _ h.c0))
  c1 := (World.cell?_setCell_other _ _ _ _ (by simp)).trans (World.cell?_setCell_same _ _ _ ((World.cell?_setCell_other _ _ _ _ (by simp)).trans h.c1))
  c2 := World.cell?_setCell_same _ _ _ ((World.cell?_setCell_other _ _ _ _ (by simp)).trans ((World.cell?_setCell_other _ _ _ _ (by simp)).trans h.c2))

section
variable (w : World)
theorem toFlag_any (k n e : Int) :
    Calls Tryz.prog 18 #[.agg #[.int .i64 k, .int .i64 n, .int .u32 e]] w fun r w' => r = .returned (.agg #[.int .i64 k, .int .i64 n, .int .u32 e]) ∧ Below w.heap.size w w' := by
  go_enter Tryz.func18, Tryz.ntmps18
  go_wp2_with fail
  refine (toGraph_any _ n e).mono ?_
  rintro r1 w1 ⟨rfl, hb1⟩
  obtain ⟨hc1_0, hz1_0⟩ := bkeep hb1 (w.heap.size + 1) (by (try simp) <;> omega)
  have hf1_0 := bkeepz hb1 (w.heap.size + 1) (by (try simp) <;> omega)
  obtain ⟨hc1_1, hz1_1⟩ := bkeep hb1 (w.heap.size + 1 + 1) (by (try simp) <;> omega)
  have hf1_1 := bkeepz hb1 (w.heap.size + 1 + 1) (by (try simp) <;> omega)
  go_wp2
  have h0 : FC w1 (w.heap.size + 1) 0 0 0 := ⟨hz1_0, by rw [hc1_0]; simp [go_sem], by rw [hc1_0]; simp [go_sem], by rw [hc1_0]; simp [go_sem]⟩
  have h := ((h0.other (p := ⟨w.heap.size + 1 + 1, 1, none⟩) (.int .i64 n) (by show w.heap.size + 1 + 1 ≠ w.heap.size + 1; omega)).other (p := ⟨w.heap.size + 1 + 1, 2, none⟩) (.int .u32 e) (by show w.heap.size + 1 + 1 ≠ w.heap.size + 1; omega)).put k n e
  have hB : Below w.heap.size w w1 := by (repeat (first | exact Below.refl _ _ | assumption | refine bchain (by assumption) ?_ | refine balloc ?_ _ | apply Below.drew | apply below_drewN | (refine Below.alloc ?_ (by (try simp) <;> omega) _) | (refine Below.setCell ?_ (by (try simp) <;> omega) _)))
  have hB5 := ((((hB.setCell (p := ⟨w.heap.size + 1 + 1, 1, none⟩) (by show w.heap.size ≤ w.heap.size + 1 + 1; omega) (.int .i64 n)).setCell (p := ⟨w.heap.size + 1 + 1, 2, none⟩) (by show w.heap.size ≤ w.heap.size + 1 + 1; omega) (.int .u32 e)).setCell (p := ⟨w.heap.size + 1, 0, none⟩) (by show w.heap.size ≤ w.heap.size + 1; omega) (.int .i64 k)).setCell (p := ⟨w.heap.size + 1, 1, none⟩) (by show w.heap.size ≤ w.heap.size + 1; omega) (.int .i64 n)).setCell (p := ⟨w.heap.size + 1, 2, none⟩) (by show w.heap.size ≤ w.heap.size + 1; omega) (.int .u32 e)
  obtain ⟨W, hW⟩ : ∃ W, W = (((((w1.setCell ⟨w.heap.size + 1 + 1, 1, none⟩ (.int .i64 n)).setCell ⟨w.heap.size + 1 + 1, 2, none⟩ (.int .u32 e)).setCell ⟨w.heap.size + 1, 0, none⟩ (.int .i64 k)).setCell ⟨w.heap.size + 1, 1, none⟩ (.int .i64 n)).setCell ⟨w.heap.size + 1, 2, none⟩ (.int .u32 e)) := ⟨_, rfl⟩
  rw [← hW] at h hB5 ⊢
  clear hW h0 hB hb1 hc1_0 hc1_1 hf1_0 hf1_1 hz1_0 hz1_1
  obtain ⟨_, h0, h1, h2⟩ := h
  exact bodyPost_ret (v := .agg #[.int .i64 k, .int .i64 n, .int .u32 e]) (by simp [results, Tryz.results18, go_sem, h0, h1, h2]) rfl ⟨rfl, hB5⟩
theorem eqFlag_any (k n e : Int) : Calls Tryz.prog 27 #[.agg #[.int .i64 k, .int .i64 n, .int .u32 e], .agg #[.int .i64 k, .int .i64 n, .int .u32 e]] w fun r w' => r = .returned (.bool true) ∧ Below w.heap.size w w' := by
  go_enter Tryz.func27, Tryz.ntmps27
  go_wp2_with fail
  refine (eqGraph_any _ _ _).mono ?_
  rintro r1 w1 ⟨rfl, hb1⟩
  go_wp2
  go_ret
  exact ⟨rfl, by (repeat (first | exact Below.refl _ _ | assumption | refine bchain (by assumption) ?_ | refine balloc ?_ _ | apply Below.drew | apply below_drewN | (refine Below.alloc ?_ (by (try simp) <;> omega) _) | (refine Below.setCell ?_ (by (try simp) <;> omega) _)))⟩

theorem ivk_bad (k n e : Int) (hn : e < 4294967296) (he0 : 0 ≤ e) (h : ¬ VG n e) :
    Calls Tryz.prog 41 #[.agg #[.int .i64 k, .int .i64 n, .int .u32 e]] w fun r w' => r = .returned (.bool false) ∧ Below w.heap.size w w' := by
  go_enter Tryz.func41, Tryz.ntmps41
  go_wp2_with fail
  refine (valid_f _ n e hn he0 h).mono ?_
  rintro r1 w1 ⟨rfl, hb1⟩
  obtain ⟨hc1_0, hz1_0⟩ := bkeep hb1 (w.heap.size) (by (try simp) <;> omega)
  go_wp2
  go_ret
  exact ⟨rfl, by (repeat (first | exact Below.refl _ _ | assumption | refine bchain (by assumption) ?_ | refine balloc ?_ _ | apply Below.drew | apply below_drewN | (refine Below.alloc ?_ (by (try simp) <;> omega) _) | (refine Below.setCell ?_ (by (try simp) <;> omega) _)))⟩
theorem ivk_neg (k n e : Int) (h : VG n e) (hk : k < 0) :
    Calls Tryz.prog 41 #[.agg #[.int .i64 k, .int .i64 n, .int .u32 e]] w fun r w' => r = .returned (.bool false) ∧ Below w.heap.size w w' := by
  have hd : decide (0 ≤ k) = false := decide_eq_false (by omega)
  go_enter Tryz.func41, Tryz.ntmps41
  go_wp2_with fail
  refine (valid_t _ n e h).mono ?_
  rintro r1 w1 ⟨rfl, hb1⟩
  obtain ⟨hc1_0, hz1_0⟩ := bkeep hb1 (w.heap.size) (by (try simp) <;> omega)
  go_wp2
  go_ret
  exact ⟨rfl, by (repeat (first | exact Below.refl _ _ | assumption | refine bchain (by assumption) ?_ | refine balloc ?_ _ | apply Below.drew | apply below_drewN | (refine Below.alloc ?_ (by (try simp) <;> omega) _) | (refine Below.setCell ?_ (by (try simp) <;> omega) _)))⟩
theorem ivk_oth (k n e : Int) (h : VG n e) (hk : 0 ≤ k) (b : Bool) (hb : b = decide (k ≤ 3 ∧ k ≤ n)) :
    Calls Tryz.prog 41 #[.agg #[.int .i64 k, .int .i64 n, .int .u32 e]] w fun r w' => r = .returned (.bool b) ∧ Below w.heap.size w w' := by
  have hd : decide (0 ≤ k) = true := decide_eq_true hk
  replace hb := Lib.hid hb
  go_enter Tryz.func41, Tryz.ntmps41
  go_wp2_with fail
  refine (valid_t _ n e h).mono ?_
  rintro r1 w1 ⟨rfl, hb1⟩
  obtain ⟨hc1_0, hz1_0⟩ := bkeep hb1 (w.heap.size) (by (try simp) <;> omega)
  go_wp2
  all_goals go_ret
  all_goals exact ⟨by show Ending.returned (Value.bool (decide _)) = Ending.returned (Value.bool b); rw [hb.out]; congr 2; rw [decide_eq_decide]; omega, by (repeat (first | exact Below.refl _ _ | assumption | refine bchain (by assumption) ?_ | refine balloc ?_ _ | apply Below.drew | apply below_drewN | (refine Below.alloc ?_ (by (try simp) <;> omega) _) | (refine Below.setCell ?_ (by (try simp) <;> omega) _)))⟩

theorem sok_bad (k n e : Int) (hn : e < 4294967296) (he0 : 0 ≤ e) (h : ¬ VG n e) :
    Calls Tryz.prog 32 #[.agg #[.int .i64 k, .int .i64 n, .int .u32 e]] w fun r w' => r = .returned (.bool false) ∧ Below w.heap.size w w' := by
  go_enter Tryz.func32, Tryz.ntmps32
  go_wp2_with fail
  refine (ok_f _ n e hn he0 h).mono ?_
  rintro r1 w1 ⟨rfl, hb1⟩
  obtain ⟨hc1_0, hz1_0⟩ := bkeep hb1 (w.heap.size) (by (try simp) <;> omega)
  go_wp2
  go_ret
  exact ⟨rfl, by (repeat (first | exact Below.refl _ _ | assumption | refine bchain (by assumption) ?_ | refine balloc ?_ _ | apply Below.drew | apply below_drewN | (refine Below.alloc ?_ (by (try simp) <;> omega) _) | (refine Below.setCell ?_ (by (try simp) <;> omega) _)))⟩
theorem sok_rng (k n e : Int) (h : VG n e) (hk : k < 0 ∨ 3 < k) :
    Calls Tryz.prog 32 #[.agg #[.int .i64 k, .int .i64 n, .int .u32 e]] w fun r w' => r = .returned (.bool false) ∧ Below w.heap.size w w' := by
  go_enter Tryz.func32, Tryz.ntmps32
  go_wp2_with fail
  refine (ok_t _ n e h).mono ?_
  rintro r1 w1 ⟨rfl, hb1⟩
  obtain ⟨hc1_0, hz1_0⟩ := bkeep hb1 (w.heap.size) (by (try simp) <;> omega)
  go_wp2_with (go_at_call 30; refine (in_f _ _ _ _ hk).mono ?_; rintro r2 w2 ⟨rfl, rfl⟩)
  go_ret
  exact ⟨rfl, by (repeat (first | exact Below.refl _ _ | assumption | refine bchain (by assumption) ?_ | refine balloc ?_ _ | apply Below.drew | apply below_drewN | (refine Below.alloc ?_ (by (try simp) <;> omega) _) | (refine Below.setCell ?_ (by (try simp) <;> omega) _)))⟩
theorem sok_oth (k n e : Int) (h : VG n e) (hk : 0 ≤ k) (hk3 : k ≤ 3) (b : Bool) (hb : b = decide (k ≤ n)) :
    Calls Tryz.prog 32 #[.agg #[.int .i64 k, .int .i64 n, .int .u32 e]] w fun r w' => r = .returned (.bool b) ∧ Below w.heap.size w w' := by
  replace hb := Lib.hid hb
  go_enter Tryz.func32, Tryz.ntmps32
  go_wp2_with fail
  refine (ok_t _ n e h).mono ?_
  rintro r1 w1 ⟨rfl, hb1⟩
  obtain ⟨hc1_0, hz1_0⟩ := bkeep hb1 (w.heap.size) (by (try simp) <;> omega)
  go_wp2_with (go_at_call 30; refine (in_t _ _ _ _ hk hk3).mono ?_; rintro r2 w2 ⟨rfl, rfl⟩)
  go_ret
  exact ⟨by show Ending.returned (Value.bool (decide _)) = Ending.returned (Value.bool b); rw [hb.out], by (repeat (first | exact Below.refl _ _ | assumption | refine bchain (by assumption) ?_ | refine balloc ?_ _ | apply Below.drew | apply below_drewN | (refine Below.alloc ?_ (by (try simp) <;> omega) _) | (refine Below.setCell ?_ (by (try simp) <;> omega) _)))⟩
theorem ivk_t (k n e : Int) (h : VK k n e) : Calls Tryz.prog 41 #[.agg #[.int .i64 k, .int .i64 n, .int .u32 e]] w fun r w' => r = .returned (.bool true) ∧ Below w.heap.size w w' :=
  ivk_oth w k n e h.1 h.2.1 true (decide_eq_true h.2.2).symm
theorem sok_t (k n e : Int) (h : VK k n e) : Calls Tryz.prog 32 #[.agg #[.int .i64 k, .int .i64 n, .int .u32 e]] w fun r w' => r = .returned (.bool true) ∧ Below w.heap.size w w' :=
  sok_oth w k n e h.1 h.2.1 h.2.2.1 true (decide_eq_true h.2.2.2).symm
theorem ivk_f (k n e : Int) (hn : e < 4294967296) (he0 : 0 ≤ e) (h : ¬ VK k n e) : Calls Tryz.prog 41 #[.agg #[.int .i64 k, .int .i64 n, .int .u32 e]] w fun r w' => r = .returned (.bool false) ∧ Below w.heap.size w w' := by
  by_cases hg : VG n e
  · by_cases hk : k < 0
    · exact ivk_neg w k n e hg hk
    · exact ivk_oth w k n e hg (by omega) false (decide_eq_false fun c => h ⟨hg, by omega, c⟩).symm
  · exact ivk_bad w k n e hn he0 hg
theorem sok_f (k n e : Int) (hn : e < 4294967296) (he0 : 0 ≤ e) (h : ¬ VK k n e) : Calls Tryz.prog 32 #[.agg #[.int .i64 k, .int .i64 n, .int .u32 e]] w fun r w' => r = .returned (.bool false) ∧ Below w.heap.size w w' := by
  by_cases hg : VG n e
  · by_cases hk : k < 0 ∨ 3 < k
    · exact sok_rng w k n e hg hk
    · exact sok_oth w k n e hg (by omega) (by omega) false (decide_eq_false fun c => h ⟨hg, by omega, by omega, c⟩).symm
  · exact sok_bad w k n e hn he0 hg
theorem ok3_both (k n e : Int) (hn : e < 4294967296) (he0 : 0 ≤ e) : ∃ b : Bool, (b = true ↔ VK k n e) ∧
    (∀ W, Calls Tryz.prog 32 #[.agg #[.int .i64 k, .int .i64 n, .int .u32 e]] W fun r w' => r = .returned (.bool b) ∧ Below W.heap.size W w') ∧
    (∀ W, Calls Tryz.prog 41 #[.agg #[.int .i64 k, .int .i64 n, .int .u32 e]] W fun r w' => r = .returned (.bool b) ∧ Below W.heap.size W w') := by
  by_cases h : VK k n e
  · exact ⟨true, by simp [h], fun W => sok_t W k n e h, fun W => ivk_t W k n e h⟩
  · exact ⟨false, by simp [h], fun W => sok_f W k n e hn he0 h, fun W => ivk_f W k n e hn he0 h⟩
end
end Go.Proofs.YtncbimbbkealmaaGreatDoor
