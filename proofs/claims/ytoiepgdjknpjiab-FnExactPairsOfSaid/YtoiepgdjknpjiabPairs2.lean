/-
  LISTS OF PAIRS OF int64: what copies a pair and a list of pairs, and what holds two against each other.
-/
import Derived.Test.YtoiepgdjknpjiabBase
import Derived.Deep.OwnRows
import Derived.Lib.Hide
namespace Go.Proofs.Ytoiepgdjknpjiab
open Go.RowKit
set_option maxRecDepth 100000

theorem pNew (W : World) (c : Array Value) (t : TypeId) (B i : Nat) (hB : B = W.heap.size) : (W.alloc (.cells c t)).cell? ⟨B, i, none⟩ = c[i]? := by subst hB; exact World.cell?_alloc_new W c t i
theorem pOld (W : World) (o : Obj) (B i : Nat) (hB : B < W.heap.size) : (W.alloc o).cell? ⟨B, i, none⟩ = W.cell? ⟨B, i, none⟩ := World.cell?_alloc_lt W o _ hB
theorem pfNew (W : World) (c : Array Value) (t : TypeId) (B i : Nat) (hB : B = W.heap.size) : (W.alloc (.cells c t)).frozen? ⟨B, i, none⟩ = false := by subst hB; exact World.frozen?_alloc_new W c t i
theorem pfOld (W : World) (o : Obj) (B i : Nat) (hB : B < W.heap.size) : (W.alloc o).frozen? ⟨B, i, none⟩ = W.frozen? ⟨B, i, none⟩ := World.frozen?_alloc_old W o _ (Nat.ne_of_lt hB)

section
variable (w : World)
theorem eqA2_any (x y : Int) :
    Calls Try.prog 46 #[.agg #[.int .i64 x, .int .i64 y], .agg #[.int .i64 x, .int .i64 y]] w fun r w' => r = .returned (.bool true) ∧ Below w.heap.size w w' := by
  go_enter Try.func46, Try.ntmps46
  go_wp2
  go_loopw [5] (fun p wr => ∃ k : Nat, k ≤ 2 ∧ p = .int .i64 k ∧
    wr.cell? ⟨w.heap.size, 0, none⟩ = some (.int .i64 x) ∧ wr.cell? ⟨w.heap.size, 1, none⟩ = some (.int .i64 y) ∧
    wr.cell? ⟨w.heap.size + 1, 0, none⟩ = some (.int .i64 x) ∧ wr.cell? ⟨w.heap.size + 1, 1, none⟩ = some (.int .i64 y) ∧ Below w.heap.size w wr) (fun p _ => 2 - (intOf p).toNat)
  case atStart =>
    have s1 : ∀ (W : World) (o : Obj), (W.alloc o).heap.size = W.heap.size + 1 := fun W o => by simp
    refine ⟨0, by omega, rfl, ?_, ?_, ?_, ?_, by (repeat (first | exact Below.refl _ _ | assumption | refine bchain (by assumption) ?_ | refine balloc ?_ _ | apply Below.drew | apply below_drewN | (refine Below.alloc ?_ (by (try simp) <;> omega) _) | (refine Below.setCell ?_ (by (try simp) <;> omega) _)))⟩
    · rw [pOld _ _ _ _ (by rw [s1]; omega), pNew _ _ _ _ _ rfl]; rfl
    · rw [pOld _ _ _ _ (by rw [s1]; omega), pNew _ _ _ _ _ rfl]; rfl
    · rw [pNew _ _ _ _ _ (by rw [s1])]; rfl
    · rw [pNew _ _ _ _ _ (by rw [s1])]; rfl
  case round =>
    obtain ⟨k, hk, rfl, a0, a1, b0, b1, hb⟩ := hrel
    have hq : k = 0 ∨ k = 1 ∨ k = 2 := by omega
    rcases hq with rfl | rfl | rfl
    · go_wp2
      go_quiet (fail)
      go_wp2
      go_roundw
      case rel => exact ⟨1, by omega, by go_num, a0, a1, b0, b1, by (repeat (first | exact Below.refl _ _ | assumption | refine bchain (by assumption) ?_ | refine balloc ?_ _ | apply Below.drew | apply below_drewN | (refine Below.alloc ?_ (by (try simp) <;> omega) _) | (refine Below.setCell ?_ (by (try simp) <;> omega) _)))⟩
      case measure => simp [intOf]
    · go_wp2
      go_quiet (fail)
      go_wp2
      go_roundw
      case rel => exact ⟨2, by omega, by go_num, a0, a1, b0, b1, by (repeat (first | exact Below.refl _ _ | assumption | refine bchain (by assumption) ?_ | refine balloc ?_ _ | apply Below.drew | apply below_drewN | (refine Below.alloc ?_ (by (try simp) <;> omega) _) | (refine Below.setCell ?_ (by (try simp) <;> omega) _)))⟩
      case measure => simp [intOf]
    · go_wp2
      go_ret
      exact ⟨rfl, hb⟩
end
end Go.Proofs.Ytoiepgdjknpjiab
