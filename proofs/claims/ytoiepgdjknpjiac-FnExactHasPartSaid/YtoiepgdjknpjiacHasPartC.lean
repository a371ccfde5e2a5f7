/-
  HasPart: the program's and the model's contracts.
-/
import Derived.Test.YtoiepgdjknpjiacSPart
namespace Go.Proofs.Ytoiepgdjknpjiac
open Go.RowKit
set_option maxRecDepth 100000

section
variable (w : World)

theorem ihp_inv1 (n e m f : Int) (hn : e < 4294967296) (he0 : 0 ≤ e) (h : ¬ VG n e) :
    Calls Try.prog 23 #[.agg #[.int .i64 n, .int .u32 e], .agg #[.int .i64 m, .int .u32 f]] w fun r w' => r = .returned (.tuple #[.bool false, .int .i64 1]) ∧ Below w.heap.size w w' := by
  go_enter Try.func23, Try.ntmps23
  go_wp2_with fail
  refine (valid_f _ n e hn he0 h).mono ?_
  rintro r1 w1 ⟨rfl, hb1⟩
  go_wp2
  go_ret2
  exact ⟨rfl, by (repeat (first | exact Below.refl _ _ | assumption | refine bchain (by assumption) ?_ | refine balloc ?_ _ | apply Below.drew | apply below_drewN | (refine Below.alloc ?_ (by (try simp) <;> omega) _) | (refine Below.setCell ?_ (by (try simp) <;> omega) _)))⟩
theorem ihp_inv2 (n e m f : Int) (h : VG n e) (hn : f < 4294967296) (he0 : 0 ≤ f) (h2 : ¬ VG m f) :
    Calls Try.prog 23 #[.agg #[.int .i64 n, .int .u32 e], .agg #[.int .i64 m, .int .u32 f]] w fun r w' => r = .returned (.tuple #[.bool false, .int .i64 1]) ∧ Below w.heap.size w w' := by
  go_enter Try.func23, Try.ntmps23
  go_wp2_with fail
  refine (valid_t _ n e h).mono ?_
  rintro r1 w1 ⟨rfl, hb1⟩
  obtain ⟨hc1_0, hz1_0⟩ := bkeep hb1 (w.heap.size + 1) (by (try simp) <;> omega)
  go_wp2_with fail
  refine (valid_f _ m f hn he0 h2).mono ?_
  rintro r2 w2 ⟨rfl, hb2⟩
  go_wp2
  go_ret2
  exact ⟨rfl, by (repeat (first | exact Below.refl _ _ | assumption | refine bchain (by assumption) ?_ | refine balloc ?_ _ | apply Below.drew | apply below_drewN | (refine Below.alloc ?_ (by (try simp) <;> omega) _) | (refine Below.setCell ?_ (by (try simp) <;> omega) _)))⟩
theorem ihp_ok (n e m f : Nat) (h : VG n e) (h2 : VG m f) :
    Calls Try.prog 23 #[.agg #[.int .i64 n, .int .u32 e], .agg #[.int .i64 m, .int .u32 f]] w fun r w' => r = .returned (.tuple #[.bool (partB n e m f), .int .i64 0]) ∧ Below w.heap.size w w' := by
  have hL := Lib.hid (fun W => part_any W n e m f h h2)
  obtain ⟨b, hb⟩ : ∃ b, partB n e m f = b := ⟨_, rfl⟩
  rw [hb] at hL ⊢
  clear hb
  go_enter Try.func23, Try.ntmps23
  go_wp2_with fail
  refine (valid_t _ n e h).mono ?_
  rintro r1 w1 ⟨rfl, hb1⟩
  obtain ⟨hc1_0, hz1_0⟩ := bkeep hb1 (w.heap.size) (by (try simp) <;> omega)
  obtain ⟨hc1_1, hz1_1⟩ := bkeep hb1 (w.heap.size + 1) (by (try simp) <;> omega)
  go_wp2_with fail
  refine (valid_t _ m f h2).mono ?_
  rintro r2 w2 ⟨rfl, hb2⟩
  obtain ⟨hc2_0, hz2_0⟩ := bkeep hb2 (w.heap.size) (by (try simp) <;> omega)
  obtain ⟨hc2_1, hz2_1⟩ := bkeep hb2 (w.heap.size + 1) (by (try simp) <;> omega)
  go_wp2_with fail
  refine (hL.out _).mono ?_
  rintro r3 w3 ⟨rfl, hb3⟩
  go_wp2
  go_ret2
  exact ⟨rfl, by (repeat (first | exact Below.refl _ _ | assumption | refine bchain (by assumption) ?_ | refine balloc ?_ _ | apply Below.drew | apply below_drewN | (refine Below.alloc ?_ (by (try simp) <;> omega) _) | (refine Below.setCell ?_ (by (try simp) <;> omega) _)))⟩

theorem shp_inv1 (n e m f : Int) (hn : e < 4294967296) (he0 : 0 ≤ e) (h : ¬ VG n e) :
    Calls Try.prog 22 #[.agg #[.int .i64 n, .int .u32 e], .agg #[.int .i64 m, .int .u32 f]] w fun r w' => r = .returned (.tuple #[.bool false, .int .i64 1]) ∧ Below w.heap.size w w' := by
  go_enter Try.func22, Try.ntmps22
  go_wp2_with fail
  refine (ok_f _ n e hn he0 h).mono ?_
  rintro r1 w1 ⟨rfl, hb1⟩
  go_wp2
  go_ret2
  exact ⟨rfl, by (repeat (first | exact Below.refl _ _ | assumption | refine bchain (by assumption) ?_ | refine balloc ?_ _ | apply Below.drew | apply below_drewN | (refine Below.alloc ?_ (by (try simp) <;> omega) _) | (refine Below.setCell ?_ (by (try simp) <;> omega) _)))⟩
theorem shp_inv2 (n e m f : Int) (h : VG n e) (hn : f < 4294967296) (he0 : 0 ≤ f) (h2 : ¬ VG m f) :
    Calls Try.prog 22 #[.agg #[.int .i64 n, .int .u32 e], .agg #[.int .i64 m, .int .u32 f]] w fun r w' => r = .returned (.tuple #[.bool false, .int .i64 1]) ∧ Below w.heap.size w w' := by
  go_enter Try.func22, Try.ntmps22
  go_wp2_with fail
  refine (ok_t _ n e h).mono ?_
  rintro r1 w1 ⟨rfl, hb1⟩
  obtain ⟨hc1_0, hz1_0⟩ := bkeep hb1 (w.heap.size + 1) (by (try simp) <;> omega)
  go_wp2_with fail
  refine (ok_f _ m f hn he0 h2).mono ?_
  rintro r2 w2 ⟨rfl, hb2⟩
  go_wp2
  go_ret2
  exact ⟨rfl, by (repeat (first | exact Below.refl _ _ | assumption | refine bchain (by assumption) ?_ | refine balloc ?_ _ | apply Below.drew | apply below_drewN | (refine Below.alloc ?_ (by (try simp) <;> omega) _) | (refine Below.setCell ?_ (by (try simp) <;> omega) _)))⟩
theorem shp_ok (n e m f : Nat) (h : VG n e) (h2 : VG m f) :
    Calls Try.prog 22 #[.agg #[.int .i64 n, .int .u32 e], .agg #[.int .i64 m, .int .u32 f]] w fun r w' => r = .returned (.tuple #[.bool (partB n e m f), .int .i64 0]) ∧ Below w.heap.size w w' := by
  have hL := Lib.hid (fun W => spart_any W n e m f h h2)
  obtain ⟨b, hb⟩ : ∃ b, partB n e m f = b := ⟨_, rfl⟩
  rw [hb] at hL ⊢
  clear hb
  go_enter Try.func22, Try.ntmps22
  go_wp2_with fail
  refine (ok_t _ n e h).mono ?_
  rintro r1 w1 ⟨rfl, hb1⟩
  obtain ⟨hc1_0, hz1_0⟩ := bkeep hb1 (w.heap.size) (by (try simp) <;> omega)
  obtain ⟨hc1_1, hz1_1⟩ := bkeep hb1 (w.heap.size + 1) (by (try simp) <;> omega)
  go_wp2_with fail
  refine (ok_t _ m f h2).mono ?_
  rintro r2 w2 ⟨rfl, hb2⟩
  obtain ⟨hc2_0, hz2_0⟩ := bkeep hb2 (w.heap.size) (by (try simp) <;> omega)
  obtain ⟨hc2_1, hz2_1⟩ := bkeep hb2 (w.heap.size + 1) (by (try simp) <;> omega)
  go_wp2_with fail
  refine (hL.out _).mono ?_
  rintro r3 w3 ⟨rfl, hb3⟩
  go_wp2
  go_ret2
  exact ⟨rfl, by (repeat (first | exact Below.refl _ _ | assumption | refine bchain (by assumption) ?_ | refine balloc ?_ _ | apply Below.drew | apply below_drewN | (refine Below.alloc ?_ (by (try simp) <;> omega) _) | (refine Below.setCell ?_ (by (try simp) <;> omega) _)))⟩
end
theorem hp_both (n e m f : Int) (hn : e < 4294967296) (he0 : 0 ≤ e) (hm : f < 4294967296) (hf0 : 0 ≤ f) : ∃ (b : Bool) (c : Int),
    (∀ W, Calls Try.prog 22 #[.agg #[.int .i64 n, .int .u32 e], .agg #[.int .i64 m, .int .u32 f]] W fun r w' => r = .returned (.tuple #[.bool b, .int .i64 c]) ∧ Below W.heap.size W w') ∧
    (∀ W, Calls Try.prog 23 #[.agg #[.int .i64 n, .int .u32 e], .agg #[.int .i64 m, .int .u32 f]] W fun r w' => r = .returned (.tuple #[.bool b, .int .i64 c]) ∧ Below W.heap.size W w') := by
  by_cases h : VG n e
  · obtain ⟨n', rfl⟩ : ∃ k : Nat, n = k := ⟨n.toNat, by have := h.1; omega⟩
    obtain ⟨e', rfl⟩ : ∃ k : Nat, e = k := ⟨e.toNat, by omega⟩
    by_cases h2 : VG m f
    · obtain ⟨m', rfl⟩ : ∃ k : Nat, m = k := ⟨m.toNat, by have := h2.1; omega⟩
      obtain ⟨f', rfl⟩ : ∃ k : Nat, f = k := ⟨f.toNat, by omega⟩
      exact ⟨_, _, fun W => shp_ok W n' e' m' f' h h2, fun W => ihp_ok W n' e' m' f' h h2⟩
    · exact ⟨_, _, fun W => shp_inv2 W _ _ m f h hm hf0 h2, fun W => ihp_inv2 W _ _ m f h hm hf0 h2⟩
  · exact ⟨_, _, fun W => shp_inv1 W n e m f hn he0 h, fun W => ihp_inv1 W n e m f hn he0 h⟩
end Go.Proofs.Ytoiepgdjknpjiac
