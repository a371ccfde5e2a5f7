/-
  CONTRACTS: which numbers are two different vertices, and whether two are joined, for any numbers; HasEdge of both.
-/
import Derived.Test.YtncbimbbkealmaaGreatDoorEdge
import Derived.Lib.Hide
namespace Go.Proofs.YtncbimbbkealmaaGreatDoor
open Go.RowKit
set_option maxRecDepth 100000

def IsP (n i j : Int) : Prop := 0 ≤ i ∧ i < n ∧ 0 ≤ j ∧ j < n ∧ i ≠ j

section
variable (w : World)

theorem joined_any (n e i j : Nat) (he : e < 4294967296) (hi : i ≤ 4) (hj : j ≤ 4) :
    Calls Tryz.prog 96 #[.agg #[.int .i64 n, .int .u32 e], .int .i64 i, .int .i64 j] w fun r w' => r = .returned (.bool (jn e i j)) ∧ Below w.heap.size w w' := by
  have hx := and_pb e i j he hi hj
  have hl := pb_le i j hi hj
  have hg : ∃ b, b = jn e i j := ⟨_, rfl⟩
  obtain ⟨b, hb⟩ := hg
  rw [← hb] at hx ⊢
  clear hb
  go_enter Tryz.func96, Tryz.ntmps96
  go_wp2
  go_quiet ((go_at_call 97; exact quiet_eq (pbit_any _ i j hi hj)))
  go_wp2
  go_ret
  exact ⟨rfl, by (repeat (first | exact Below.refl _ _ | assumption | refine bchain (by assumption) ?_ | refine balloc ?_ _ | apply Below.drew | apply below_drewN | (refine Below.alloc ?_ (by (try simp) <;> omega) _) | (refine Below.setCell ?_ (by (try simp) <;> omega) _)))⟩
theorem sjoined_any (n e i j : Nat) (he : e < 4294967296) (hi : i ≤ 4) (hj : j ≤ 4) (hne : i ≠ j) :
    Calls Tryz.prog 77 #[.agg #[.int .i64 n, .int .u32 e], .int .i64 i, .int .i64 j] w fun r w' => r = .returned (.bool (jn e i j)) ∧ Below w.heap.size w w' := by
  have hx := and_pb e i j he hi hj
  have hl := pb_le i j hi hj
  have hg : ∃ b, b = jn e i j := ⟨_, rfl⟩
  obtain ⟨b, hb⟩ := hg
  rw [← hb] at hx ⊢
  clear hb
  have hd : ((i : Int) == (j : Int)) = false := by simp; omega
  have hd2 : ((i : Int) != (j : Int)) = true := by simp; omega
  go_enter Tryz.func77, Tryz.ntmps77
  go_wp2
  go_quiet ((go_at_call 78; exact quiet_eq (sbit_any _ i j hi hj)))
  go_wp2
  go_ret
  exact ⟨rfl, by (repeat (first | exact Below.refl _ _ | assumption | refine bchain (by assumption) ?_ | refine balloc ?_ _ | apply Below.drew | apply below_drewN | (refine Below.alloc ?_ (by (try simp) <;> omega) _) | (refine Below.setCell ?_ (by (try simp) <;> omega) _)))⟩
end
end Go.Proofs.YtncbimbbkealmaaGreatDoor
