/-
  CONTRACTS OF AreAlikeFlags: the program's and the model's.
-/
import Derived.Test.YtdibcchhamapjaaKSLeast
import Derived.Test.YtdibcchhamapjaaKEq
import Derived.Deep.RegionHeld3
namespace Go.Proofs.Ytdibcchhamapjaa
open Go.RowKit
set_option maxRecDepth 100000

section
variable (w : World)
theorem iak_inv1 (k n e l m f : Int) (hn : e < 4294967296) (he0 : 0 ≤ e) (h : ¬ VK k n e) :
    Calls Try.prog 33 #[.agg #[.int .i64 k, .int .i64 n, .int .u32 e], .agg #[.int .i64 l, .int .i64 m, .int .u32 f]] w fun r w' => r = .returned (.tuple #[.bool false, .int .i64 1]) ∧ Below w.heap.size w w' := by
  go_enter Try.func33, Try.ntmps33
  go_wp2_with fail
  refine (ivk_f _ k n e hn he0 h).mono ?_
  rintro r1 w1 ⟨rfl, hb1⟩
  go_wp2
  go_ret2
  exact ⟨rfl, by (repeat (first | exact Below.refl _ _ | assumption | refine bchain (by assumption) ?_ | refine balloc ?_ _ | apply Below.drew | apply below_drewN | (refine Below.alloc ?_ (by (try simp) <;> omega) _) | (refine Below.setCell ?_ (by (try simp) <;> omega) _)))⟩
theorem iak_inv2 (k n e l m f : Int) (h : VK k n e) (hn : f < 4294967296) (he0 : 0 ≤ f) (h2 : ¬ VK l m f) :
    Calls Try.prog 33 #[.agg #[.int .i64 k, .int .i64 n, .int .u32 e], .agg #[.int .i64 l, .int .i64 m, .int .u32 f]] w fun r w' => r = .returned (.tuple #[.bool false, .int .i64 1]) ∧ Below w.heap.size w w' := by
  go_enter Try.func33, Try.ntmps33
  go_wp2_with fail
  refine (ivk_t _ k n e h).mono ?_
  rintro r1 w1 ⟨rfl, hb1⟩
  obtain ⟨hc1_0, hz1_0⟩ := bkeep hb1 (w.heap.size + 1) (by (try simp) <;> omega)
  go_wp2_with fail
  refine (ivk_f _ l m f hn he0 h2).mono ?_
  rintro r2 w2 ⟨rfl, hb2⟩
  go_wp2
  go_ret2
  exact ⟨rfl, by (repeat (first | exact Below.refl _ _ | assumption | refine bchain (by assumption) ?_ | refine balloc ?_ _ | apply Below.drew | apply below_drewN | (refine Below.alloc ?_ (by (try simp) <;> omega) _) | (refine Below.setCell ?_ (by (try simp) <;> omega) _)))⟩
set_option maxHeartbeats 1000000 in
theorem iak_ok (k n e l m f : Nat) (h : VK k n e) (h2 : VK l m f) :
    Calls Try.prog 33 #[.agg #[.int .i64 k, .int .i64 n, .int .u32 e], .agg #[.int .i64 l, .int .i64 m, .int .u32 f]] w fun r w' => r = .returned (.tuple #[.bool ((k : Int) == l && ((n : Int) == m && (leastK n k e : Int) == leastK m l f)), .int .i64 0]) ∧ Below w.heap.size w w' := by
  have hL := Lib.hid (fun W => leastK_any W k n e h)
  have hM := Lib.hid (fun W => leastK_any W l m f h2)
  have hq := fun W => eqFl W k l n m (leastK n k e) (leastK m l f)
  obtain ⟨b, hb⟩ : ∃ b, ((k : Int) == l && ((n : Int) == m && (leastK n k e : Int) == leastK m l f)) = b := ⟨_, rfl⟩
  rw [hb] at hq ⊢
  obtain ⟨x, hx⟩ : ∃ x, leastK n k e = x := ⟨_, rfl⟩
  obtain ⟨y, hy⟩ : ∃ y, leastK m l f = y := ⟨_, rfl⟩
  rw [hx] at hq hL
  rw [hy] at hq hM
  clear hb hx hy
  go_enter Try.func33, Try.ntmps33
  go_wp2_with fail
  refine (ivk_t _ k n e h).mono ?_
  rintro r1 w1 ⟨rfl, hb1⟩
  obtain ⟨hc1_0, hz1_0⟩ := bkeep hb1 (w.heap.size) (by (try simp) <;> omega)
  obtain ⟨hc1_1, hz1_1⟩ := bkeep hb1 (w.heap.size + 1) (by (try simp) <;> omega)
  go_wp2_with fail
  refine (ivk_t _ l m f h2).mono ?_
  rintro r2 w2 ⟨rfl, hb2⟩
  obtain ⟨hc2_0, hz2_0⟩ := bkeep hb2 (w.heap.size) (by (try simp) <;> omega)
  obtain ⟨hc2_1, hz2_1⟩ := bkeep hb2 (w.heap.size + 1) (by (try simp) <;> omega)
  go_wp2_with fail
  go_region_with (first
    | (go_at_call 53; (with_reducible refine (hL.out _).mono ?_); rintro r3 w3 ⟨rfl, hb3⟩; obtain ⟨hc3, hz3⟩ := bkeep hb3 (w.heap.size + 1) (by first | exact hz2_1 | (have h4 := hb4.size; simp at h4; omega)))
    | (go_at_call 53; (with_reducible refine (hM.out _).mono ?_); rintro r4 w4 ⟨rfl, hb4⟩; obtain ⟨hc4, hz4⟩ := bkeep hb4 (w.heap.size) (by first | exact hz2_0 | (have h3 := hb3.size; simp at h3; omega))))
  all_goals go_wp2
  all_goals go_ret2
  all_goals exact ⟨rfl, by (repeat (first | exact Below.refl _ _ | assumption | refine bchain (by assumption) ?_ | refine balloc ?_ _ | apply Below.drew | apply below_drewN | (refine Below.alloc ?_ (by (try simp) <;> omega) _) | (refine Below.setCell ?_ (by (try simp) <;> omega) _)))⟩
theorem sak_inv1 (k n e l m f : Int) (hn : e < 4294967296) (he0 : 0 ≤ e) (h : ¬ VK k n e) :
    Calls Try.prog 32 #[.agg #[.int .i64 k, .int .i64 n, .int .u32 e], .agg #[.int .i64 l, .int .i64 m, .int .u32 f]] w fun r w' => r = .returned (.tuple #[.bool false, .int .i64 1]) ∧ Below w.heap.size w w' := by
  go_enter Try.func32, Try.ntmps32
  go_wp2_with fail
  refine (sok_f _ k n e hn he0 h).mono ?_
  rintro r1 w1 ⟨rfl, hb1⟩
  go_wp2
  go_ret2
  exact ⟨rfl, by (repeat (first | exact Below.refl _ _ | assumption | refine bchain (by assumption) ?_ | refine balloc ?_ _ | apply Below.drew | apply below_drewN | (refine Below.alloc ?_ (by (try simp) <;> omega) _) | (refine Below.setCell ?_ (by (try simp) <;> omega) _)))⟩
theorem sak_inv2 (k n e l m f : Int) (h : VK k n e) (hn : f < 4294967296) (he0 : 0 ≤ f) (h2 : ¬ VK l m f) :
    Calls Try.prog 32 #[.agg #[.int .i64 k, .int .i64 n, .int .u32 e], .agg #[.int .i64 l, .int .i64 m, .int .u32 f]] w fun r w' => r = .returned (.tuple #[.bool false, .int .i64 1]) ∧ Below w.heap.size w w' := by
  go_enter Try.func32, Try.ntmps32
  go_wp2_with fail
  refine (sok_t _ k n e h).mono ?_
  rintro r1 w1 ⟨rfl, hb1⟩
  obtain ⟨hc1_0, hz1_0⟩ := bkeep hb1 (w.heap.size + 1) (by (try simp) <;> omega)
  go_wp2_with fail
  refine (sok_f _ l m f hn he0 h2).mono ?_
  rintro r2 w2 ⟨rfl, hb2⟩
  go_wp2
  go_ret2
  exact ⟨rfl, by (repeat (first | exact Below.refl _ _ | assumption | refine bchain (by assumption) ?_ | refine balloc ?_ _ | apply Below.drew | apply below_drewN | (refine Below.alloc ?_ (by (try simp) <;> omega) _) | (refine Below.setCell ?_ (by (try simp) <;> omega) _)))⟩
set_option maxHeartbeats 1000000 in
theorem sak_ok (k n e l m f : Nat) (h : VK k n e) (h2 : VK l m f) :
    Calls Try.prog 32 #[.agg #[.int .i64 k, .int .i64 n, .int .u32 e], .agg #[.int .i64 l, .int .i64 m, .int .u32 f]] w fun r w' => r = .returned (.tuple #[.bool ((k : Int) == l && ((n : Int) == m && (leastK n k e : Int) == leastK m l f)), .int .i64 0]) ∧ Below w.heap.size w w' := by
  have hL := Lib.hid (fun W => sleastK_any W k n e h)
  have hM := Lib.hid (fun W => sleastK_any W l m f h2)
  have hq := fun W => eqFl W k l n m (leastK n k e) (leastK m l f)
  obtain ⟨b, hb⟩ : ∃ b, ((k : Int) == l && ((n : Int) == m && (leastK n k e : Int) == leastK m l f)) = b := ⟨_, rfl⟩
  rw [hb] at hq ⊢
  obtain ⟨x, hx⟩ : ∃ x, leastK n k e = x := ⟨_, rfl⟩
  obtain ⟨y, hy⟩ : ∃ y, leastK m l f = y := ⟨_, rfl⟩
  rw [hx] at hq hL
  rw [hy] at hq hM
  clear hb hx hy
  go_enter Try.func32, Try.ntmps32
  go_wp2_with fail
  refine (sok_t _ k n e h).mono ?_
  rintro r1 w1 ⟨rfl, hb1⟩
  obtain ⟨hc1_0, hz1_0⟩ := bkeep hb1 (w.heap.size) (by (try simp) <;> omega)
  obtain ⟨hc1_1, hz1_1⟩ := bkeep hb1 (w.heap.size + 1) (by (try simp) <;> omega)
  go_wp2_with fail
  refine (sok_t _ l m f h2).mono ?_
  rintro r2 w2 ⟨rfl, hb2⟩
  obtain ⟨hc2_0, hz2_0⟩ := bkeep hb2 (w.heap.size) (by (try simp) <;> omega)
  obtain ⟨hc2_1, hz2_1⟩ := bkeep hb2 (w.heap.size + 1) (by (try simp) <;> omega)
  go_wp2_with fail
  go_region_with (first
    | (go_at_call 52; (with_reducible refine (hL.out _).mono ?_); rintro r3 w3 ⟨rfl, hb3⟩; obtain ⟨hc3, hz3⟩ := bkeep hb3 (w.heap.size + 1) (by first | exact hz2_1 | (have h4 := hb4.size; simp at h4; omega)))
    | (go_at_call 52; (with_reducible refine (hM.out _).mono ?_); rintro r4 w4 ⟨rfl, hb4⟩; obtain ⟨hc4, hz4⟩ := bkeep hb4 (w.heap.size) (by first | exact hz2_0 | (have h3 := hb3.size; simp at h3; omega))))
  all_goals go_wp2
  all_goals go_ret2
  all_goals exact ⟨rfl, by (repeat (first | exact Below.refl _ _ | assumption | refine bchain (by assumption) ?_ | refine balloc ?_ _ | apply Below.drew | apply below_drewN | (refine Below.alloc ?_ (by (try simp) <;> omega) _) | (refine Below.setCell ?_ (by (try simp) <;> omega) _)))⟩
end
theorem ak_both (k n e l m f : Int) (hn : e < 4294967296) (he0 : 0 ≤ e) (hm : f < 4294967296) (hf0 : 0 ≤ f) : ∃ (b : Bool) (c : Int),
    (∀ W, Calls Try.prog 32 #[.agg #[.int .i64 k, .int .i64 n, .int .u32 e], .agg #[.int .i64 l, .int .i64 m, .int .u32 f]] W fun r w' => r = .returned (.tuple #[.bool b, .int .i64 c]) ∧ Below W.heap.size W w') ∧
    (∀ W, Calls Try.prog 33 #[.agg #[.int .i64 k, .int .i64 n, .int .u32 e], .agg #[.int .i64 l, .int .i64 m, .int .u32 f]] W fun r w' => r = .returned (.tuple #[.bool b, .int .i64 c]) ∧ Below W.heap.size W w') := by
  by_cases h : VK k n e
  · obtain ⟨k', rfl⟩ : ∃ x : Nat, k = x := ⟨k.toNat, by have := h.2.1; omega⟩
    obtain ⟨n', rfl⟩ : ∃ x : Nat, n = x := ⟨n.toNat, by have := h.1.1; omega⟩
    obtain ⟨e', rfl⟩ : ∃ x : Nat, e = x := ⟨e.toNat, by omega⟩
    by_cases h2 : VK l m f
    · obtain ⟨l', rfl⟩ : ∃ x : Nat, l = x := ⟨l.toNat, by have := h2.2.1; omega⟩
      obtain ⟨m', rfl⟩ : ∃ x : Nat, m = x := ⟨m.toNat, by have := h2.1.1; omega⟩
      obtain ⟨f', rfl⟩ : ∃ x : Nat, f = x := ⟨f.toNat, by omega⟩
      exact ⟨_, _, fun W => sak_ok W k' n' e' l' m' f' h h2, fun W => iak_ok W k' n' e' l' m' f' h h2⟩
    · exact ⟨_, _, fun W => sak_inv2 W _ _ _ l m f h hm hf0 h2, fun W => iak_inv2 W _ _ _ l m f h hm hf0 h2⟩
  · exact ⟨_, _, fun W => sak_inv1 W k n e l m f hn he0 h, fun W => iak_inv1 W k n e l m f hn he0 h⟩
end Go.Proofs.Ytdibcchhamapjaa
