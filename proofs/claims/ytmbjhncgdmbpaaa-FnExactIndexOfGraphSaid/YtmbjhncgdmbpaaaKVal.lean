/-
  CONTRACTS: a flag of the laws' own as the program's; which flags are valid (the program's word and the model's); flags held against each other.
-/
import Derived.Test.YtmbjhncgdmbpaaaMade
import Derived.Deep.DeepCutAuto
import Derived.Deep.RegionWith
namespace Go.Proofs.Ytmbjhncgdmbpaaa
open Go.RowKit
set_option maxRecDepth 100000

/-- k labels, n vertices and the bits e are a valid flag -/
def VK (k n e : Int) : Prop := VG n e ∧ 0 ≤ k ∧ k ≤ 3 ∧ k ≤ n
theorem old_lt {wS W : World} {B : Nat} (h : B < wS.heap.size) (hb : Below wS.heap.size wS W) : B < W.heap.size := Nat.lt_of_lt_of_le h hb.size
theorem old_cell {wS W : World} {B o : Nat} {v : Value} (h : B < wS.heap.size) (hc : wS.cell? ⟨B, o, none⟩ = some v) (hb : Below wS.heap.size wS W) : W.cell? ⟨B, o, none⟩ = some v := (hb.cell (p := ⟨B, o, none⟩) h).trans hc
/-- the cells of a flag -/
structure FC (W : World) (B : Nat) (k n e : Int) : Prop where
  lt : B < W.heap.size
  c0 : W.cell? ⟨B, 0, none⟩ = some (.int .i64 k)
  c1 : W.cell? ⟨B, 1, none⟩ = some (.int .i64 n)
  c2 : W.cell? ⟨B, 2, none⟩ = some (.int .u32 e)
theorem FC.block {W W' : World} {B : Nat} {k n e : Int} (h : FC W B k n e) (hz : W.heap.size ≤ W'.heap.size) (hs : W'.heap[B]? = W.heap[B]?) : FC W' B k n e :=
  ⟨Nat.lt_of_lt_of_le h.lt hz, (World.cell?_of_block (a := ⟨B, 0, none⟩) hs).trans h.c0, (World.cell?_of_block (a := ⟨B, 1, none⟩) hs).trans h.c1, (World.cell?_of_block (a := ⟨B, 2, none⟩) hs).trans h.c2⟩
theorem FC.under {W W' : World} {B C : Nat} {k n e : Int} (h : FC W B k n e) (hb : Below C W W') (hB : B < C) : FC W' B k n e := h.block hb.size (hb.block _ hB)
theorem FC.below {W W' : World} {B : Nat} {k n e : Int} (h : FC W B k n e) (hb : Below W.heap.size W W') : FC W' B k n e := h.under hb h.lt
theorem FC.made (W : World) (k n e : Int) (t : TypeId) : FC (W.alloc (.cells #[.int .i64 k, .int .i64 n, .int .u32 e] t)) W.heap.size k n e :=
  ⟨by simp, by rw [World.cell?_alloc_new]; rfl, by rw [World.cell?_alloc_new]; rfl, by rw [World.cell?_alloc_new]; rfl⟩
theorem FC.other {W : World} {B : Nat} {k n e : Int} (h : FC W B k n e) {p : Addr} (v : Value) (hp : p.block ≠ B) : FC (W.setCell p v) B k n e :=
  h.block (by simp) (Below.heap_setCell _ _ _ _ (by omega))
/-- a flag, stored over another one -/
theorem FC.put {W : World} {B : Nat} {k n e : Int} (h : FC W B k n e) (k' n' e' : Int) : FC (((W.setCell ⟨B, 0, none⟩ (.int .i64 k')).setCell ⟨B, 1, none⟩ (.int .i64 n')).setCell ⟨B, 2, none⟩ (.int .u32 e')) B k' n' e' where
  lt := by have := h.lt; simpa using this
  c0 := (World.cell?_setCell_other _ _ _ _ (by simp)).trans ((World.cell?_setCell_other _ _ _ _ (by simp)).trans (World.cell?_setCell_same _ _ _ h.c0))
  c1 := (World.cell?_setCell_other _ _ _ _ (by simp)).trans (World.cell?_setCell_same _ _ _ ((World.cell?_setCell_other _ _ _ _ (by simp)).trans h.c1))
  c2 := World.cell?_setCell_same _ _ _ ((World.cell?_setCell_other _ _ _ _ (by simp)).trans ((World.cell?_setCell_other _ _ _ _ (by simp)).trans h.c2))

section
variable (w : World)
end
end Go.Proofs.Ytmbjhncgdmbpaaa
