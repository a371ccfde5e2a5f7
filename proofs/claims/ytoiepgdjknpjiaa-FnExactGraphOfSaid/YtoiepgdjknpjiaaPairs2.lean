/-
  LISTS OF PAIRS OF int64: what copies a pair and a list of pairs, and what holds two against each other.
-/
import Derived.Test.YtoiepgdjknpjiaaBase
import Derived.Deep.OwnRows
import Derived.Lib.Hide
namespace Go.Proofs.Ytoiepgdjknpjiaa
open Go.RowKit
set_option maxRecDepth 100000

theorem pNew (W : World) (c : Array Value) (t : TypeId) (B i : Nat) (hB : B = W.heap.size) : (W.alloc (.cells c t)).cell? ⟨B, i, none⟩ = c[i]? := by subst hB; exact World.cell?_alloc_new W c t i
theorem pOld (W : World) (o : Obj) (B i : Nat) (hB : B < W.heap.size) : (W.alloc o).cell? ⟨B, i, none⟩ = W.cell? ⟨B, i, none⟩ := World.cell?_alloc_lt W o _ hB
theorem pfNew (W : World) (c : Array Value) (t : TypeId) (B i : Nat) (hB : B = W.heap.size) : (W.alloc (.cells c t)).frozen? ⟨B, i, none⟩ = false := by subst hB; exact World.frozen?_alloc_new W c t i
theorem pfOld (W : World) (o : Obj) (B i : Nat) (hB : B < W.heap.size) : (W.alloc o).frozen? ⟨B, i, none⟩ = W.frozen? ⟨B, i, none⟩ := World.frozen?_alloc_old W o _ (Nat.ne_of_lt hB)

section
variable (w : World)
set_option maxHeartbeats 1000000 in
theorem toA2_any (x y : Int) :
    Calls Try.prog 76 #[.agg #[.int .i64 x, .int .i64 y]] w fun r w' => r = .returned (.agg #[.int .i64 x, .int .i64 y]) ∧ Below w.heap.size w w' := by
  go_enter Try.func76, Try.ntmps76
  go_wp2
  go_loopw [4] (fun p wr => ∃ k : Nat, k ≤ 2 ∧ p = .int .i64 k ∧
    wr.cell? ⟨w.heap.size, 0, none⟩ = some (.int .i64 x) ∧ wr.cell? ⟨w.heap.size, 1, none⟩ = some (.int .i64 y) ∧
    wr.cell? ⟨w.heap.size + 1, 0, none⟩ = some (.int .i64 0) ∧ wr.cell? ⟨w.heap.size + 1, 1, none⟩ = some (.int .i64 0) ∧ wr.frozen? ⟨w.heap.size + 1, 0, none⟩ = false ∧ wr.frozen? ⟨w.heap.size + 1, 1, none⟩ = false ∧
    wr.cell? ⟨w.heap.size + 2, 0, none⟩ = some (.int .i64 (if 0 < k then x else 0)) ∧ wr.cell? ⟨w.heap.size + 2, 1, none⟩ = some (.int .i64 (if 1 < k then y else 0)) ∧ wr.frozen? ⟨w.heap.size + 2, 0, none⟩ = false ∧ wr.frozen? ⟨w.heap.size + 2, 1, none⟩ = false ∧
    Below w.heap.size w wr) (fun p _ => 2 - (intOf p).toNat)
  case atStart =>
    have s1 : ∀ (W : World) (o : Obj), (W.alloc o).heap.size = W.heap.size + 1 := fun W o => by simp
    refine ⟨0, by omega, rfl, ?_, ?_, ?_, ?_, ?_, ?_, ?_, ?_, ?_, ?_, by (repeat (first | exact Below.refl _ _ | assumption | refine bchain (by assumption) ?_ | refine balloc ?_ _ | apply Below.drew | apply below_drewN | (refine Below.alloc ?_ (by (try simp) <;> omega) _) | (refine Below.setCell ?_ (by (try simp) <;> omega) _)))⟩
    · rw [pOld _ _ _ _ (by rw [s1, s1]; omega), pOld _ _ _ _ (by rw [s1]; omega), pNew _ _ _ _ _ rfl]; rfl
    · rw [pOld _ _ _ _ (by rw [s1, s1]; omega), pOld _ _ _ _ (by rw [s1]; omega), pNew _ _ _ _ _ rfl]; rfl
    · rw [pOld _ _ _ _ (by rw [s1, s1]; omega), pNew _ _ _ _ _ (by rw [s1])]; rfl
    · rw [pOld _ _ _ _ (by rw [s1, s1]; omega), pNew _ _ _ _ _ (by rw [s1])]; rfl
    · rw [pfOld _ _ _ _ (by rw [s1, s1]; omega), pfNew _ _ _ _ _ (by rw [s1])]
    · rw [pfOld _ _ _ _ (by rw [s1, s1]; omega), pfNew _ _ _ _ _ (by rw [s1])]
    · rw [pNew _ _ _ _ _ (by rw [s1, s1])]; rfl
    · rw [pNew _ _ _ _ _ (by rw [s1, s1])]; rfl
    · rw [pfNew _ _ _ _ _ (by rw [s1, s1])]
    · rw [pfNew _ _ _ _ _ (by rw [s1, s1])]
  case round =>
    obtain ⟨k, hk, rfl, a0, a1, b0, b1, f0, f1, c0, c1, g0, g1, hb⟩ := hrel
    have hq : k = 0 ∨ k = 1 ∨ k = 2 := by omega
    rcases hq with rfl | rfl | rfl
    · simp only [Nat.lt_irrefl, if_false, Nat.not_lt_zero] at c0 c1
      go_wp2
      go_roundw
      case rel => exact ⟨1, by omega, by go_num, (World.cell?_setCell_other _ _ _ _ (by simp)).trans a0, (World.cell?_setCell_other _ _ _ _ (by simp)).trans a1, (World.cell?_setCell_other _ _ _ _ (by simp)).trans b0, (World.cell?_setCell_other _ _ _ _ (by simp)).trans b1, by simp [f0], by simp [f1], by rw [World.cell?_setCell_same _ _ _ c0]; rfl, (World.cell?_setCell_other _ _ _ _ (by simp)).trans c1, by simp [g0], by simp [g1], by (repeat (first | exact Below.refl _ _ | assumption | refine bchain (by assumption) ?_ | refine balloc ?_ _ | apply Below.drew | apply below_drewN | (refine Below.alloc ?_ (by (try simp) <;> omega) _) | (refine Below.setCell ?_ (by (try simp) <;> omega) _)))⟩
      case measure => simp [intOf]
    · simp only [Nat.lt_irrefl, if_false] at c0 c1
      go_wp2
      go_roundw
      case rel => exact ⟨2, by omega, by go_num, (World.cell?_setCell_other _ _ _ _ (by simp)).trans a0, (World.cell?_setCell_other _ _ _ _ (by simp)).trans a1, (World.cell?_setCell_other _ _ _ _ (by simp)).trans b0, (World.cell?_setCell_other _ _ _ _ (by simp)).trans b1, by simp [f0], by simp [f1], (World.cell?_setCell_other _ _ _ _ (by simp)).trans c0, by rw [World.cell?_setCell_same _ _ _ c1]; rfl, by simp [g0], by simp [g1], by (repeat (first | exact Below.refl _ _ | assumption | refine bchain (by assumption) ?_ | refine balloc ?_ _ | apply Below.drew | apply below_drewN | (refine Below.alloc ?_ (by (try simp) <;> omega) _) | (refine Below.setCell ?_ (by (try simp) <;> omega) _)))⟩
      case measure => simp [intOf]
    · rw [if_pos (by omega)] at c0 c1
      go_wp2
      have h2 := twoCells b0 b1 (.int .i64 x) (.int .i64 y)
      exact bodyPost_ret (v := .agg #[.int .i64 x, .int .i64 y]) (by simp [results, Try.results76, go_sem, h2.1, h2.2]) rfl ⟨rfl, by (repeat (first | exact Below.refl _ _ | assumption | refine bchain (by assumption) ?_ | refine balloc ?_ _ | apply Below.drew | apply below_drewN | (refine Below.alloc ?_ (by (try simp) <;> omega) _) | (refine Below.setCell ?_ (by (try simp) <;> omega) _)))⟩

theorem eqA2_any (x y : Int) :
    Calls Try.prog 77 #[.agg #[.int .i64 x, .int .i64 y], .agg #[.int .i64 x, .int .i64 y]] w fun r w' => r = .returned (.bool true) ∧ Below w.heap.size w w' := by
  go_enter Try.func77, Try.ntmps77
  go_wp2
  go_loopw [5] (fun p wr => ∃ k : Nat, k ≤ 2 ∧ p = .int .i64 k ∧
    wr.cell? ⟨w.heap.size, 0, none⟩ = some (.int .i64 x) ∧ wr.cell? ⟨w.heap.size, 1, none⟩ = some (.int .i64 y) ∧
    wr.cell? ⟨w.heap.size + 1, 0, none⟩ = some (.int .i64 x) ∧ wr.cell? ⟨w.heap.size + 1, 1, none⟩ = some (.int .i64 y) ∧ Below w.heap.size w wr) (fun p _ => 2 - (intOf p).toNat)
  case atStart =>
    have s1 : ∀ (W : World) (o : Obj), (W.alloc o).heap.size = W.heap.size + 1 := fun W o => by simp
    refine ⟨0, by omega, rfl, ?_, ?_, ?_, ?_, by (repeat (first | exact Below.refl _ _ | assumption | refine bchain (by assumption) ?_ | refine balloc ?_ _ | apply Below.drew | apply below_drewN | (refine Below.alloc ?_ (by (try simp) <;> omega) _) | (refine Below.setCell ?_ (by (try simp) <;> omega) _)))⟩
    · rw [pOld _ _ _ _ (by rw [s1]; omega), pNew _ _ _ _ _ rfl]; rfl
    · rw [pOld _ _ _ _ (by rw [s1]; omega), pNew _ _ _ _ _ rfl]; rfl
    · rw [pNew _ _ _ _ _ (by rw [s1])]; rfl
    · rw [pNew _ _ _ _ _ (by rw [s1])]; rfl
  case round =>
    obtain ⟨k, hk, rfl, a0, a1, b0, b1, hb⟩ := hrel
    have hq : k = 0 ∨ k = 1 ∨ k = 2 := by omega
    rcases hq with rfl | rfl | rfl
    · go_wp2
      go_quiet (fail)
      go_wp2
      go_roundw
      case rel => exact ⟨1, by omega, by go_num, a0, a1, b0, b1, by (repeat (first | exact Below.refl _ _ | assumption | refine bchain (by assumption) ?_ | refine balloc ?_ _ | apply Below.drew | apply below_drewN | (refine Below.alloc ?_ (by (try simp) <;> omega) _) | (refine Below.setCell ?_ (by (try simp) <;> omega) _)))⟩
      case measure => simp [intOf]
    · go_wp2
      go_quiet (fail)
      go_wp2
      go_roundw
      case rel => exact ⟨2, by omega, by go_num, a0, a1, b0, b1, by (repeat (first | exact Below.refl _ _ | assumption | refine bchain (by assumption) ?_ | refine balloc ?_ _ | apply Below.drew | apply below_drewN | (refine Below.alloc ?_ (by (try simp) <;> omega) _) | (refine Below.setCell ?_ (by (try simp) <;> omega) _)))⟩
      case measure => simp [intOf]
    · go_wp2
      go_ret
      exact ⟨rfl, hb⟩
end
end Go.Proofs.Ytoiepgdjknpjiaa
