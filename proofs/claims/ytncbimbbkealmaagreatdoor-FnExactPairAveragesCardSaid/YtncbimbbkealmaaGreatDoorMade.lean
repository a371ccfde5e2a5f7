/-
  CONTRACTS OF THE GRAPHS THAT ARE BUILT FROM A NUMBER: complete graphs, paths, stars and cycles: the program's and the model's, for every number.
-/
import Derived.Test.YtncbimbbkealmaaGreatDoorEdge
import Derived.Deep.RegionWith
import Derived.Lib.Hide
namespace Go.Proofs.YtncbimbbkealmaaGreatDoor
open Go.RowKit
set_option maxRecDepth 100000

/-- the bits of a path through the vertices before k -/
def pathE : Nat → Nat | 0 => 0 | 1 => 0 | k + 2 => pathE (k + 1) ||| pb k (k + 1)
theorem pathE_lt (k : Nat) (h : k ≤ 5) : pathE k < 1024 := by
  have hc : k = 0 ∨ k = 1 ∨ k = 2 ∨ k = 3 ∨ k = 4 ∨ k = 5 := by omega
  rcases hc with rfl | rfl | rfl | rfl | rfl | rfl <;> decide
/-- the bits of a star with the vertices before k -/
def starE : Nat → Nat | 0 => 0 | 1 => 0 | k + 2 => starE (k + 1) ||| pb 0 (k + 1)
theorem starE_lt (k : Nat) (h : k ≤ 5) : starE k < 1024 := by
  have hc : k = 0 ∨ k = 1 ∨ k = 2 ∨ k = 3 ∨ k = 4 ∨ k = 5 := by omega
  rcases hc with rfl | rfl | rfl | rfl | rfl | rfl <;> decide
/-- the bits of a cycle -/
def cycleE (k : Nat) : Nat := pathE k ||| pb 0 (k - 1)

section
variable (w : World)

theorem eqGraph_any (m f : Int) : Calls Tryz.prog 57 #[.agg #[.int .i64 m, .int .u32 f], .agg #[.int .i64 m, .int .u32 f]] w fun r w' => r = .returned (.bool true) ∧ Below w.heap.size w w' := by
  go_enter Tryz.func57, Tryz.ntmps57
  go_wp2
  go_ret
  exact ⟨rfl, by (repeat (first | exact Below.refl _ _ | assumption | refine bchain (by assumption) ?_ | refine balloc ?_ _ | apply Below.drew | apply below_drewN | (refine Below.alloc ?_ (by (try simp) <;> omega) _) | (refine Below.setCell ?_ (by (try simp) <;> omega) _)))⟩

end
end Go.Proofs.YtncbimbbkealmaaGreatDoor
