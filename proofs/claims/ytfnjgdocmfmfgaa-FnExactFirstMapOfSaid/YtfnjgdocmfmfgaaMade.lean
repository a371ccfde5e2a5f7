/-
  CONTRACTS OF THE GRAPHS THAT ARE BUILT FROM A NUMBER: complete graphs, paths, stars and cycles: the program's and the model's, for every number.
-/
import Derived.Test.YtfnjgdocmfmfgaaEdge
import Derived.Deep.RegionWith
import Derived.Lib.Hide
namespace Go.Proofs.Ytfnjgdocmfmfgaa
open Go.RowKit
set_option maxRecDepth 100000

/-- the bits of a path through the vertices before k -/
def pathE : Nat → Nat | 0 => 0 | 1 => 0 | k + 2 => pathE (k + 1) ||| pb k (k + 1)
theorem pathE_lt (k : Nat) (h : k ≤ 5) : pathE k < 1024 := by
  have hc : k = 0 ∨ k = 1 ∨ k = 2 ∨ k = 3 ∨ k = 4 ∨ k = 5 := by omega
  rcases hc with rfl | rfl | rfl | rfl | rfl | rfl <;> decide
/-- the bits of a star with the vertices before k -/
def starE : Nat → Nat | 0 => 0 | 1 => 0 | k + 2 => starE (k + 1) ||| pb 0 (k + 1)
theorem starE_lt (k : Nat) (h : k ≤ 5) : starE k < 1024 := by
  have hc : k = 0 ∨ k = 1 ∨ k = 2 ∨ k = 3 ∨ k = 4 ∨ k = 5 := by omega
  rcases hc with rfl | rfl | rfl | rfl | rfl | rfl <;> decide
/-- the bits of a cycle -/
def cycleE (k : Nat) : Nat := pathE k ||| pb 0 (k - 1)

section
variable (w : World)

theorem eqGraph_any (m f : Int) : Calls Try.prog 32 #[.agg #[.int .i64 m, .int .u32 f], .agg #[.int .i64 m, .int .u32 f]] w fun r w' => r = .returned (.bool true) ∧ Below w.heap.size w w' := by
  go_enter Try.func32, Try.ntmps32
  go_wp2
  go_ret
  exact ⟨rfl, by (repeat (first | exact Below.refl _ _ | assumption | refine bchain (by assumption) ?_ | refine balloc ?_ _ | apply Below.drew | apply below_drewN | (refine Below.alloc ?_ (by (try simp) <;> omega) _) | (refine Below.setCell ?_ (by (try simp) <;> omega) _)))⟩

theorem complete_in (k : Nat) (h : k ≤ 5) : Calls Try.prog 64 #[.int .i64 k] w fun r w' => r = .returned (.tuple #[.agg #[.int .i64 k, .int .u32 ((eMax k - 1 : Nat) : Int)], .int .i64 0]) ∧ Below w.heap.size w w' := by
  have hA := Lib.hid (fun W => ae_any W k h)
  obtain ⟨x, hx⟩ : ∃ x : Nat, eMax k - 1 = x := ⟨_, rfl⟩
  rw [hx] at hA ⊢
  clear hx
  go_enter Try.func64, Try.ntmps64
  go_wp2_with (first
    | (go_at_call 87; refine (vc_t _ _ (by omega) (by omega)).mono ?_; rintro r w1 ⟨rfl, rfl⟩)
    | (go_at_call 88; refine (hA.out _).mono ?_; rintro r w2 ⟨rfl, rfl⟩))
  exact bodyPost_ret (v := .tuple #[.agg #[.int .i64 k, .int .u32 x], .int .i64 0]) (by simp [results, Try.results64, go_sem]) rfl ⟨rfl, by (repeat (first | exact Below.refl _ _ | assumption | refine bchain (by assumption) ?_ | refine balloc ?_ _ | apply Below.drew | apply below_drewN | (refine Below.alloc ?_ (by (try simp) <;> omega) _) | (refine Below.setCell ?_ (by (try simp) <;> omega) _)))⟩
theorem scomplete_in (k : Nat) (h : k ≤ 5) : Calls Try.prog 63 #[.int .i64 k] w fun r w' => r = .returned (.tuple #[.agg #[.int .i64 k, .int .u32 ((eMax k - 1 : Nat) : Int)], .int .i64 0]) ∧ Below w.heap.size w w' := by
  have hA := Lib.hid (fun W => bits_any W k h)
  have hsh := shl_pc k h
  have hmx := eMax_le k
  have hmn : 1 ≤ eMax k := by
    rw [eMax_pow k h]; exact Nat.pow_pos (by omega)
  obtain ⟨x, hx⟩ : ∃ x : Nat, eMax k = x := ⟨_, rfl⟩
  have hx1 := Lib.hid (show ((eMax k - 1 : Nat) : Int) = (x : Int) - 1 by omega)
  rw [hx] at hsh hmx hmn
  clear hx
  go_enter Try.func63, Try.ntmps63
  go_wp2_with (first
    | (go_at_call 62; refine (in_t _ _ _ _ (by omega) (by omega)).mono ?_; rintro r w1 ⟨rfl, rfl⟩)
    | (go_at_call 92; refine (hA.out _).mono ?_; rintro r w2 ⟨rfl, rfl⟩))
  exact bodyPost_ret (v := .tuple #[.agg #[.int .i64 k, .int .u32 ((x : Int) - 1)], .int .i64 0]) (by simp [results, Try.results63, go_sem]) rfl ⟨by rw [hx1.out], by (repeat (first | exact Below.refl _ _ | assumption | refine bchain (by assumption) ?_ | refine balloc ?_ _ | apply Below.drew | apply below_drewN | (refine Below.alloc ?_ (by (try simp) <;> omega) _) | (refine Below.setCell ?_ (by (try simp) <;> omega) _)))⟩

theorem complete_out (n : Int) (h : ¬ (0 ≤ n ∧ n ≤ 5)) : Calls Try.prog 64 #[.int .i64 n] w fun r w' => r = .returned (.tuple #[.agg #[.int .i64 0, .int .u32 0], .int .i64 2]) ∧ Below w.heap.size w w' := by
  have hr : n < 0 ∨ 5 < n := by omega
  clear h
  go_enter Try.func64, Try.ntmps64
  go_wp2_with (go_at_call 87; refine (vc_f _ _ hr).mono ?_; rintro r w1 ⟨rfl, rfl⟩)
  exact bodyPost_ret (v := .tuple #[.agg #[.int .i64 0, .int .u32 0], .int .i64 2]) (by simp [results, Try.results64, go_sem]) rfl ⟨rfl, by (repeat (first | exact Below.refl _ _ | assumption | refine bchain (by assumption) ?_ | refine balloc ?_ _ | apply Below.drew | apply below_drewN | (refine Below.alloc ?_ (by (try simp) <;> omega) _) | (refine Below.setCell ?_ (by (try simp) <;> omega) _)))⟩

theorem scomplete_out (n : Int) (h : ¬ (0 ≤ n ∧ n ≤ 5)) : Calls Try.prog 63 #[.int .i64 n] w fun r w' => r = .returned (.tuple #[.agg #[.int .i64 0, .int .u32 0], .int .i64 2]) ∧ Below w.heap.size w w' := by
  have hr : n < 0 ∨ 5 < n := by omega
  clear h
  go_enter Try.func63, Try.ntmps63
  go_wp2_with (go_at_call 62; refine (in_f _ _ _ _ hr).mono ?_; rintro r w1 ⟨rfl, rfl⟩)
  exact bodyPost_ret (v := .tuple #[.agg #[.int .i64 0, .int .u32 0], .int .i64 2]) (by simp [results, Try.results63, go_sem]) rfl ⟨rfl, by (repeat (first | exact Below.refl _ _ | assumption | refine bchain (by assumption) ?_ | refine balloc ?_ _ | apply Below.drew | apply below_drewN | (refine Below.alloc ?_ (by (try simp) <;> omega) _) | (refine Below.setCell ?_ (by (try simp) <;> omega) _)))⟩

end
/-- a law that holds two functions of one number against each other -/
theorem complete_both (n : Int) : ∃ (m f c : Int),
    (∀ W, Calls Try.prog 63 #[.int .i64 n] W fun r w' => r = .returned (.tuple #[.agg #[.int .i64 m, .int .u32 f], .int .i64 c]) ∧ Below W.heap.size W w') ∧
    (∀ W, Calls Try.prog 64 #[.int .i64 n] W fun r w' => r = .returned (.tuple #[.agg #[.int .i64 m, .int .u32 f], .int .i64 c]) ∧ Below W.heap.size W w') := by
  by_cases h : 0 ≤ n ∧ n ≤ 5
  · obtain ⟨k, rfl⟩ : ∃ k : Nat, n = k := ⟨n.toNat, by omega⟩
    exact ⟨_, _, _, fun W => scomplete_in W k (by omega), fun W => complete_in W k (by omega)⟩
  · exact ⟨_, _, _, fun W => scomplete_out W n h, fun W => complete_out W n h⟩

end Go.Proofs.Ytfnjgdocmfmfgaa
