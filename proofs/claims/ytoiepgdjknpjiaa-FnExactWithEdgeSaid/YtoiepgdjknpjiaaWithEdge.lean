/-
  PROVED: for every graph, valid or not, every two numbers and both choices, WithEdge of the program answers as the model's does. Conditions: none.
-/
import Derived.Test.YtoiepgdjknpjiaaOpen
import Derived.Test.YtoiepgdjknpjiaaPair
import Derived.Deep.RegionWith
namespace Go.Proofs.Ytoiepgdjknpjiaa
open Go.ChangeShapes Go.WideShapes Go.ChangeAt Go.RowKit
set_option maxRecDepth 100000

namespace WithEdgeLaw
/-- the bits with a pair's bit, and then without it -/
def on (e i j : Nat) : Nat := e ||| pb i j
def off (e i j : Nat) : Nat := (e ||| pb i j) ^^^ pb i j
theorem andNot_pb (e i j : Nat) (he : e < 4294967296) (hi : i ≤ 4) (hj : j ≤ 4) : bits .andNot .u32 (e : Int) (pb i j : Int) = (off e i j : Int) := by
  have h1 := pb_le i j hi hj
  rw [u32_andNot_nat e _ he (by omega)]
  congr 1
  unfold off
  apply Nat.eq_of_testBit_eq
  intro t
  have ht := pp_le i j hi hj
  rw [Nat.testBit_and, Nat.testBit_xor, Nat.testBit_or, show 4294967295 - pb i j = 2 ^ 32 - (pb i j + 1) by omega, Nat.testBit_two_pow_sub_succ (by omega)]
  have hp : (pb i j).testBit t = decide (pp i j = t) := by unfold pb; exact Nat.testBit_two_pow
  rw [hp]
  by_cases c : pp i j = t
  · simp [c]
  · by_cases d : t < 32
    · simp [c, d]
    · have : e.testBit t = false := Nat.testBit_lt_two_pow (Nat.lt_of_lt_of_le (show e < 2 ^ 32 by omega) (Nat.pow_le_pow_right (by omega) (by omega)))
      simp [c, d, this]

theorem impl_inv (n e i j : Int) (b : Bool) (hn : e < 4294967296) (he0 : 0 ≤ e) (h : ¬ VG n e) (w : World) :
    Calls Try.prog 42 #[.agg #[.int .i64 n, .int .u32 e], .int .i64 i, .int .i64 j, .bool b] w fun r w' => r = .returned (.tuple #[.agg #[.int .i64 0, .int .u32 0], .int .i64 1]) ∧ Below w.heap.size w w' := by
  go_enter Try.func42, Try.ntmps42
  go_wp2_with (go_at_call 38; refine (valid_f _ n e hn he0 h).mono ?_; rintro r w1 ⟨rfl, hb1⟩; obtain ⟨hc2, hz2⟩ := bkeep hb1 (w.heap.size + 1) (by (try simp) <;> omega); have hf2 := bkeepz hb1 (w.heap.size + 1) (by (try simp) <;> omega))
  exact bodyPost_ret (v := .tuple #[.agg #[.int .i64 0, .int .u32 0], .int .i64 1]) (by simp [results, Try.results42, go_sem, hc2]) rfl ⟨rfl, by (repeat (first | exact Below.refl _ _ | assumption | refine bchain (by assumption) ?_ | apply Below.drew | apply below_drewN | (refine Below.alloc ?_ (by (try simp) <;> omega) _) | (refine Below.setCell ?_ (by (try simp) <;> omega) _)))⟩

theorem impl_rng (n e i j : Int) (b : Bool) (h : VG n e) (hp : ¬ IsP n i j) (w : World) :
    Calls Try.prog 42 #[.agg #[.int .i64 n, .int .u32 e], .int .i64 i, .int .i64 j, .bool b] w fun r w' => r = .returned (.tuple #[.agg #[.int .i64 0, .int .u32 0], .int .i64 2]) ∧ Below w.heap.size w w' := by
  go_enter Try.func42, Try.ntmps42
  go_wp2_with (first
    | (go_at_call 38; refine (valid_t _ n e h).mono ?_; rintro r w1 ⟨rfl, hb1⟩; obtain ⟨hc1, hz1⟩ := bkeep hb1 w.heap.size (by (try simp) <;> omega); obtain ⟨hc2, hz2⟩ := bkeep hb1 (w.heap.size + 1) (by (try simp) <;> omega); have hf2 := bkeepz hb1 (w.heap.size + 1) (by (try simp) <;> omega))
    | (go_at_call 73; refine (ip_f _ n i j hp).mono ?_; rintro r w2 ⟨rfl, rfl⟩))
  exact bodyPost_ret (v := .tuple #[.agg #[.int .i64 0, .int .u32 0], .int .i64 2]) (by simp [results, Try.results42, go_sem, hc2]) rfl ⟨rfl, by (repeat (first | exact Below.refl _ _ | assumption | refine bchain (by assumption) ?_ | apply Below.drew | apply below_drewN | (refine Below.alloc ?_ (by (try simp) <;> omega) _) | (refine Below.setCell ?_ (by (try simp) <;> omega) _)))⟩

theorem impl_on (n e i j : Nat) (h : VG n e) (hp : IsP n i j) (w : World) :
    Calls Try.prog 42 #[.agg #[.int .i64 n, .int .u32 e], .int .i64 i, .int .i64 j, .bool true] w fun r w' => r = .returned (.tuple #[.agg #[.int .i64 n, .int .u32 (on e i j : Nat)], .int .i64 0]) ∧ Below w.heap.size w w' := by
  have he : e < 4294967296 := by have := h.2.2.2; have := eMax_le n; simp at *; omega
  have hi : i ≤ 4 := by have := h.2.1; have := hp.2.1; omega
  have hj : j ≤ 4 := by have := h.2.1; have := hp.2.2.2.1; omega
  have h5 := h.2.1
  have hl := pb_le i j hi hj
  have hop : bits .or .u32 (e : Int) (pb i j : Int) = (on e i j : Int) := u32_or_nat e (pb i j) he (by omega)
  have hJ := Lib.hid (fun W => pbit_any W i j hi hj)
  obtain ⟨x, hx⟩ : ∃ x, on e i j = x := ⟨_, rfl⟩
  rw [hx] at hop ⊢
  clear hx
  obtain ⟨z, hz⟩ : ∃ z, pb i j = z := ⟨_, rfl⟩
  rw [hz] at hop hJ hl
  clear hz
  clear he hi hj hl
  go_enter Try.func42, Try.ntmps42
  go_wp2_with (first
    | (go_at_call 38; refine (valid_t _ n e h).mono ?_; rintro r w1 ⟨rfl, hb1⟩; obtain ⟨hc1, hz1⟩ := bkeep hb1 w.heap.size (by (try simp) <;> omega); obtain ⟨hc2, hz2⟩ := bkeep hb1 (w.heap.size + 1) (by (try simp) <;> omega); have hf1 := bkeepz hb1 w.heap.size (by (try simp) <;> omega); have hf2 := bkeepz hb1 (w.heap.size + 1) (by (try simp) <;> omega))
    | (go_at_call 73; refine (ip_t _ n i j hp).mono ?_; rintro r w2 ⟨rfl, rfl⟩))
  go_region_with (go_at_call 69; refine (hJ.out _).mono ?_; rintro r w3 ⟨rfl, rfl⟩)
  all_goals go_wp2
  all_goals exact bodyPost_ret (v := .tuple #[.agg #[.int .i64 n, .int .u32 x], .int .i64 0]) (by simp [results, Try.results42, go_sem, hc2]) rfl ⟨rfl, by (repeat (first | exact Below.refl _ _ | assumption | refine bchain (by assumption) ?_ | apply Below.drew | apply below_drewN | (refine Below.alloc ?_ (by (try simp) <;> omega) _) | (refine Below.setCell ?_ (by (try simp) <;> omega) _)))⟩

theorem impl_off (n e i j : Nat) (h : VG n e) (hp : IsP n i j) (w : World) :
    Calls Try.prog 42 #[.agg #[.int .i64 n, .int .u32 e], .int .i64 i, .int .i64 j, .bool false] w fun r w' => r = .returned (.tuple #[.agg #[.int .i64 n, .int .u32 (off e i j : Nat)], .int .i64 0]) ∧ Below w.heap.size w w' := by
  have he : e < 4294967296 := by have := h.2.2.2; have := eMax_le n; simp at *; omega
  have hi : i ≤ 4 := by have := h.2.1; have := hp.2.1; omega
  have hj : j ≤ 4 := by have := h.2.1; have := hp.2.2.2.1; omega
  have h5 := h.2.1
  have hl := pb_le i j hi hj
  have hop := andNot_pb e i j he hi hj
  have hJ := Lib.hid (fun W => pbit_any W i j hi hj)
  obtain ⟨x, hx⟩ : ∃ x, off e i j = x := ⟨_, rfl⟩
  rw [hx] at hop ⊢
  clear hx
  obtain ⟨z, hz⟩ : ∃ z, pb i j = z := ⟨_, rfl⟩
  rw [hz] at hop hJ hl
  clear hz
  clear he hi hj hl
  go_enter Try.func42, Try.ntmps42
  go_wp2_with (first
    | (go_at_call 38; refine (valid_t _ n e h).mono ?_; rintro r w1 ⟨rfl, hb1⟩; obtain ⟨hc1, hz1⟩ := bkeep hb1 w.heap.size (by (try simp) <;> omega); obtain ⟨hc2, hz2⟩ := bkeep hb1 (w.heap.size + 1) (by (try simp) <;> omega); have hf1 := bkeepz hb1 w.heap.size (by (try simp) <;> omega); have hf2 := bkeepz hb1 (w.heap.size + 1) (by (try simp) <;> omega))
    | (go_at_call 73; refine (ip_t _ n i j hp).mono ?_; rintro r w2 ⟨rfl, rfl⟩))
  go_region_with (go_at_call 69; refine (hJ.out _).mono ?_; rintro r w3 ⟨rfl, rfl⟩)
  all_goals go_wp2
  all_goals exact bodyPost_ret (v := .tuple #[.agg #[.int .i64 n, .int .u32 x], .int .i64 0]) (by simp [results, Try.results42, go_sem, hc2]) rfl ⟨rfl, by (repeat (first | exact Below.refl _ _ | assumption | refine bchain (by assumption) ?_ | apply Below.drew | apply below_drewN | (refine Below.alloc ?_ (by (try simp) <;> omega) _) | (refine Below.setCell ?_ (by (try simp) <;> omega) _)))⟩

theorem spec_inv (n e i j : Int) (b : Bool) (hn : e < 4294967296) (he0 : 0 ≤ e) (h : ¬ VG n e) (w : World) :
    Calls Try.prog 41 #[.agg #[.int .i64 n, .int .u32 e], .int .i64 i, .int .i64 j, .bool b] w fun r w' => r = .returned (.tuple #[.agg #[.int .i64 0, .int .u32 0], .int .i64 1]) ∧ Below w.heap.size w w' := by
  go_enter Try.func41, Try.ntmps41
  go_wp2_with (go_at_call 57; refine (ok_f _ n e hn he0 h).mono ?_; rintro r w1 ⟨rfl, hb1⟩; obtain ⟨hc2, hz2⟩ := bkeep hb1 (w.heap.size + 1) (by (try simp) <;> omega); have hf2 := bkeepz hb1 (w.heap.size + 1) (by (try simp) <;> omega))
  exact bodyPost_ret (v := .tuple #[.agg #[.int .i64 0, .int .u32 0], .int .i64 1]) (by simp [results, Try.results41, go_sem, hc2]) rfl ⟨rfl, by (repeat (first | exact Below.refl _ _ | assumption | refine bchain (by assumption) ?_ | apply Below.drew | apply below_drewN | (refine Below.alloc ?_ (by (try simp) <;> omega) _) | (refine Below.setCell ?_ (by (try simp) <;> omega) _)))⟩

theorem spec_rng (n e i j : Int) (b : Bool) (h : VG n e) (hp : ¬ IsP n i j) (w : World) :
    Calls Try.prog 41 #[.agg #[.int .i64 n, .int .u32 e], .int .i64 i, .int .i64 j, .bool b] w fun r w' => r = .returned (.tuple #[.agg #[.int .i64 0, .int .u32 0], .int .i64 2]) ∧ Below w.heap.size w w' := by
  have h5 := h.2.1
  have h0 := h.1
  go_enter Try.func41, Try.ntmps41
  go_wp2_with (first
    | (go_at_call 57; refine (ok_t _ n e h).mono ?_; rintro r w1 ⟨rfl, hb1⟩; obtain ⟨hc1, hz1⟩ := bkeep hb1 w.heap.size (by (try simp) <;> omega); obtain ⟨hc2, hz2⟩ := bkeep hb1 (w.heap.size + 1) (by (try simp) <;> omega); have hf2 := bkeepz hb1 (w.heap.size + 1) (by (try simp) <;> omega))
    | (go_at_call 71; refine (sp_f _ n i j hp h5 h0).mono ?_; rintro r w2 ⟨rfl, rfl⟩))
  exact bodyPost_ret (v := .tuple #[.agg #[.int .i64 0, .int .u32 0], .int .i64 2]) (by simp [results, Try.results41, go_sem, hc2]) rfl ⟨rfl, by (repeat (first | exact Below.refl _ _ | assumption | refine bchain (by assumption) ?_ | apply Below.drew | apply below_drewN | (refine Below.alloc ?_ (by (try simp) <;> omega) _) | (refine Below.setCell ?_ (by (try simp) <;> omega) _)))⟩

theorem spec_on (n e i j : Nat) (h : VG n e) (hp : IsP n i j) (w : World) :
    Calls Try.prog 41 #[.agg #[.int .i64 n, .int .u32 e], .int .i64 i, .int .i64 j, .bool true] w fun r w' => r = .returned (.tuple #[.agg #[.int .i64 n, .int .u32 (on e i j : Nat)], .int .i64 0]) ∧ Below w.heap.size w w' := by
  have he : e < 4294967296 := by have := h.2.2.2; have := eMax_le n; simp at *; omega
  have hi : i ≤ 4 := by have := h.2.1; have := hp.2.1; omega
  have hj : j ≤ 4 := by have := h.2.1; have := hp.2.2.2.1; omega
  have h5 := h.2.1
  have hl := pb_le i j hi hj
  have hop : bits .or .u32 (e : Int) (pb i j : Int) = (on e i j : Int) := u32_or_nat e (pb i j) he (by omega)
  have hJ := Lib.hid (fun W => sbit_any W i j hi hj)
  obtain ⟨x, hx⟩ : ∃ x, on e i j = x := ⟨_, rfl⟩
  rw [hx] at hop ⊢
  clear hx
  obtain ⟨z, hz⟩ : ∃ z, pb i j = z := ⟨_, rfl⟩
  rw [hz] at hop hJ hl
  clear hz
  clear he hi hj hl
  go_enter Try.func41, Try.ntmps41
  go_wp2_with (first
    | (go_at_call 57; refine (ok_t _ n e h).mono ?_; rintro r w1 ⟨rfl, hb1⟩; obtain ⟨hc1, hz1⟩ := bkeep hb1 w.heap.size (by (try simp) <;> omega); obtain ⟨hc2, hz2⟩ := bkeep hb1 (w.heap.size + 1) (by (try simp) <;> omega); have hf1 := bkeepz hb1 w.heap.size (by (try simp) <;> omega); have hf2 := bkeepz hb1 (w.heap.size + 1) (by (try simp) <;> omega))
    | (go_at_call 71; refine (sp_t _ n i j hp h5).mono ?_; rintro r w2 ⟨rfl, rfl⟩))
  go_region_with (go_at_call 75; refine (hJ.out _).mono ?_; rintro r w3 ⟨rfl, rfl⟩)
  all_goals go_wp2
  all_goals exact bodyPost_ret (v := .tuple #[.agg #[.int .i64 n, .int .u32 x], .int .i64 0]) (by simp [results, Try.results41, go_sem, hc2]) rfl ⟨rfl, by (repeat (first | exact Below.refl _ _ | assumption | refine bchain (by assumption) ?_ | apply Below.drew | apply below_drewN | (refine Below.alloc ?_ (by (try simp) <;> omega) _) | (refine Below.setCell ?_ (by (try simp) <;> omega) _)))⟩

set_option maxHeartbeats 1000000 in
theorem spec_off (n e i j : Nat) (h : VG n e) (hp : IsP n i j) (w : World) :
    Calls Try.prog 41 #[.agg #[.int .i64 n, .int .u32 e], .int .i64 i, .int .i64 j, .bool false] w fun r w' => r = .returned (.tuple #[.agg #[.int .i64 n, .int .u32 (off e i j : Nat)], .int .i64 0]) ∧ Below w.heap.size w w' := by
  have he : e < 4294967296 := by have := h.2.2.2; have := eMax_le n; simp at *; omega
  have hi : i ≤ 4 := by have := h.2.1; have := hp.2.1; omega
  have hj : j ≤ 4 := by have := h.2.1; have := hp.2.2.2.1; omega
  have h5 := h.2.1
  have hl := pb_le i j hi hj
  have hop : bits .or .u32 (e : Int) (pb i j : Int) = (on e i j : Int) := u32_or_nat e (pb i j) he (by omega)
  have hxo : bits .xor .u32 (on e i j : Int) (pb i j : Int) = (off e i j : Int) := u32_xor_nat (on e i j) (pb i j) (Nat.or_lt_two_pow (n := 32) he (by omega)) (by omega)
  have hJ := Lib.hid (fun W => sbit_any W i j hi hj)
  obtain ⟨x, hx⟩ : ∃ x, off e i j = x := ⟨_, rfl⟩
  rw [hx] at hxo ⊢
  clear hx
  obtain ⟨y, hy⟩ : ∃ y, on e i j = y := ⟨_, rfl⟩
  rw [hy] at hop hxo
  clear hy
  obtain ⟨z, hz⟩ : ∃ z, pb i j = z := ⟨_, rfl⟩
  rw [hz] at hop hxo hJ hl
  clear hz
  clear he hi hj hl
  go_enter Try.func41, Try.ntmps41
  go_wp2_with (first
    | (go_at_call 57; refine (ok_t _ n e h).mono ?_; rintro r w1 ⟨rfl, hb1⟩; obtain ⟨hc1, hz1⟩ := bkeep hb1 w.heap.size (by (try simp) <;> omega); obtain ⟨hc2, hz2⟩ := bkeep hb1 (w.heap.size + 1) (by (try simp) <;> omega); have hf1 := bkeepz hb1 w.heap.size (by (try simp) <;> omega); have hf2 := bkeepz hb1 (w.heap.size + 1) (by (try simp) <;> omega))
    | (go_at_call 71; refine (sp_t _ n i j hp h5).mono ?_; rintro r w2 ⟨rfl, rfl⟩))
  go_region_with (go_at_call 75; refine (hJ.out _).mono ?_; rintro r w3 ⟨rfl, rfl⟩)
  all_goals go_wp2
  all_goals (go_region_with (go_at_call 75; refine (hJ.out _).mono ?_; rintro r w3 ⟨rfl, rfl⟩))
  all_goals go_wp2
  all_goals exact bodyPost_ret (v := .tuple #[.agg #[.int .i64 n, .int .u32 x], .int .i64 0]) (by simp [results, Try.results41, go_sem, hc2]) rfl ⟨rfl, by (repeat (first | exact Below.refl _ _ | assumption | refine bchain (by assumption) ?_ | apply Below.drew | apply below_drewN | (refine Below.alloc ?_ (by (try simp) <;> omega) _) | (refine Below.setCell ?_ (by (try simp) <;> omega) _)))⟩

theorem both (n e i j : Int) (b : Bool) (hn : e < 4294967296) (he0 : 0 ≤ e) : ∃ (m f c : Int),
    (∀ W, Calls Try.prog 41 #[.agg #[.int .i64 n, .int .u32 e], .int .i64 i, .int .i64 j, .bool b] W fun r w' => r = .returned (.tuple #[.agg #[.int .i64 m, .int .u32 f], .int .i64 c]) ∧ Below W.heap.size W w') ∧
    (∀ W, Calls Try.prog 42 #[.agg #[.int .i64 n, .int .u32 e], .int .i64 i, .int .i64 j, .bool b] W fun r w' => r = .returned (.tuple #[.agg #[.int .i64 m, .int .u32 f], .int .i64 c]) ∧ Below W.heap.size W w') := by
  by_cases h : VG n e
  · by_cases hp : IsP n i j
    · obtain ⟨n', rfl⟩ : ∃ k : Nat, n = k := ⟨n.toNat, by have := h.1; omega⟩
      obtain ⟨e', rfl⟩ : ∃ k : Nat, e = k := ⟨e.toNat, by omega⟩
      obtain ⟨i', rfl⟩ : ∃ k : Nat, i = k := ⟨i.toNat, by have := hp.1; omega⟩
      obtain ⟨j', rfl⟩ : ∃ k : Nat, j = k := ⟨j.toNat, by have := hp.2.2.1; omega⟩
      cases b
      · exact ⟨_, _, _, spec_off n' e' i' j' h hp, impl_off n' e' i' j' h hp⟩
      · exact ⟨_, _, _, spec_on n' e' i' j' h hp, impl_on n' e' i' j' h hp⟩
    · exact ⟨_, _, _, spec_rng n e i j b h hp, impl_rng n e i j b h hp⟩
  · exact ⟨_, _, _, spec_inv n e i j b hn he0 h, impl_inv n e i j b hn he0 h⟩

theorem eq_any (m f : Int) (w : World) : Calls Try.prog 43 #[.agg #[.int .i64 m, .int .u32 f], .agg #[.int .i64 m, .int .u32 f]] w fun r w' => r = .returned (.bool true) ∧ Below w.heap.size w w' := by
  go_enter Try.func43, Try.ntmps43
  go_wp2
  go_ret
  exact ⟨rfl, by (repeat (first | exact Below.refl _ _ | assumption | refine bchain (by assumption) ?_ | apply Below.drew | apply below_drewN | (refine Below.alloc ?_ (by (try simp) <;> omega) _) | (refine Below.setCell ?_ (by (try simp) <;> omega) _)))⟩

theorem walk (n e : Int) (_hn : (Lit.int .i64 n).wf = true) (he : (Lit.int .u32 e).wf = true) (i : Int) (_hi : (Lit.int .i64 i).wf = true) (j : Int) (_hj : (Lit.int .i64 j).wf = true) (b : Bool) (w : World) :
    Calls Try.prog 9 #[.agg #[.int .i64 n, .int .u32 e], .int .i64 i, .int .i64 j, .bool b] w fun r w' => r = .returned (.bool true) ∧ Below w.heap.size w w' := by
  have bd := bounds_u32 he
  obtain ⟨m, f, c, hs, hi⟩ := both n e i j b (by omega) bd.1
  have hs := Lib.hid hs
  have hi := Lib.hid hi
  clear he _hn bd _hi _hj
  go_enter Try.func9, Try.ntmps9
  go_wp2_with fail
  refine (toGraph_any _ n e).mono ?_
  rintro r1 w1 ⟨rfl, hb1⟩
  obtain ⟨hc1_0, hz1_0⟩ := bkeep hb1 (w.heap.size) (by (try simp) <;> omega)
  go_wp2_with fail
  refine (hs.out _).mono ?_
  rintro r2 w2 ⟨rfl, hb2⟩
  obtain ⟨hc2_0, hz2_0⟩ := bkeep hb2 (w.heap.size) (by (try simp) <;> omega)
  go_wp2_with fail
  refine (toGraph_any _ n e).mono ?_
  rintro r3 w3 ⟨rfl, hb3⟩
  obtain ⟨hc3_0, hz3_0⟩ := bkeep hb3 (w.heap.size) (by (try simp) <;> omega)
  obtain ⟨hc3_1, hz3_1⟩ := bkeep hb3 (w2.heap.size) (by (try simp) <;> omega)
  go_wp2_with fail
  refine (hi.out _).mono ?_
  rintro r4 w4 ⟨rfl, hb4⟩
  obtain ⟨hc4_0, hz4_0⟩ := bkeep hb4 (w2.heap.size) (by (try simp) <;> omega)
  go_wp2_with fail
  refine (eq_any _ _ _).mono ?_
  rintro r5 w5 ⟨rfl, hb5⟩
  go_wp2
  go_ret
  exact ⟨rfl, by (repeat (first | exact Below.refl _ _ | assumption | refine bchain (by assumption) ?_ | apply Below.drew | apply below_drewN | (refine Below.alloc ?_ (by (try simp) <;> omega) _) | (refine Below.setCell ?_ (by (try simp) <;> omega) _)))⟩
end WithEdgeLaw
theorem WithEdgeLaw.lifted (os : Os) (started : os.Started) (H : Type) (enc : TypeId × Value → H) :
    ReturnsInHanded {} Try.checked os 9 .any (Rows.fnExactWithEdgeSpec.pre6 enc Try.prog Try.f9 Rows.fnExactWithEdgeRow.domain false)
      (Rows.fnExactWithEdgeSpec.post enc Try.prog Try.f9 false true false false) := by
  refine fr_lift (C := Try.checked) own started (by kernel_rfl) Try.func9 laid_out rfl (by kernel_rfl) (tb := 4) rfl Try.underlying4 ?hs
    (ChangeSpec.witness6 (enc := enc) (C := Try.checked) false ⟨#[], #[.agg #[.int .i64 0, .int .u32 0], .int .i64 0, .int .i64 0, .bool false], []⟩ 8 (by kernel_rfl) (by kernel_rfl) (by kernel_rfl) (by kernel_rfl)) ?_
  case hs =>
    intro ds h
    match ds, h with
    | [d0, d1, d2, d3], _ => rfl
  intro W base args ds p hval0 hA0 hlt hsz
  have hval : ∀ (j : Nat) t v, Try.f9.params[j]? = some t → args[j]? = some v → Value.okWide Try.prog W .any base t v := hval0
  have hA : DataW.TrodAll enc Try.prog W 0 (fun _ => true) true Try.f9.params.toList args.toList ds p := hA0
  rw [Try.params9] at hA hval
  obtain ⟨v0, vs0, d0, ds0, p0, q0, hargs, rfl, rfl, h0, r0⟩ := trodAll_cons hA
  obtain ⟨v1, vs1, d1, ds1, p1, q1, rfl, rfl, rfl, h1, r1⟩ := trodAll_cons r0
  obtain ⟨v2, vs2, d2, ds2, p2, q2, rfl, rfl, rfl, h2, r2⟩ := trodAll_cons r1
  obtain ⟨v3, vs3, d3, ds3, p3, q3, rfl, rfl, rfl, h3, r3⟩ := trodAll_cons r2
  obtain ⟨rfl, rfl, rfl⟩ := trodAll_nil r3
  obtain rfl : args = #[v0, v1, v2, v3] := by cases args; simp_all
  obtain ⟨a0, b0, rfl, w0, u0⟩ := open_lgraph (hval 0 52 v0 rfl rfl) h0
  obtain ⟨a1, rfl, w1⟩ := open_i64 (hval 1 2 v1 rfl rfl) h1
  obtain ⟨a2, rfl, w2⟩ := open_i64 (hval 2 2 v2 rfl rfl) h2
  obtain ⟨a3, rfl⟩ := open_b (hval 3 4 v3 rfl rfl) h3
  exact WithEdgeLaw.walk a0 b0 w0 u0 a1 w1 a2 w2 a3 W

theorem withEdge_holds : Rows.FnExactWithEdgeSaid :=
  OpenClaim.holds_of_wide 9 Try.f9 rfl rfl rfl rfl rfl rfl rfl ⟨rfl, rfl, rfl, rfl, rfl⟩ rfl rfl rfl rfl rfl (by kernel_rfl) Try.func9 (by kernel_rfl)
    (of_decide_eq_true (by kernel_rfl)) (by unfold Func.isWrapper; rw [if_neg (of_decide_eq_false (by kernel_rfl))]; exact ⟨rfl, rfl⟩)
    (fun os started H enc _ => WithEdgeLaw.lifted os started H enc)
#print axioms withEdge_holds
end Go.Proofs.Ytoiepgdjknpjiaa
