/-
  LISTS OF PAIRS OF int64: what copies a pair and a list of pairs, and what holds two against each other.
-/
import Derived.Test.YtkmlgoklmmbmjaaDoorBase
import Derived.Deep.OwnRows
import Derived.Lib.Hide
namespace Go.Proofs.YtkmlgoklmmbmjaaDoor
open Go.RowKit
set_option maxRecDepth 100000

theorem pNew (W : World) (c : Array Value) (t : TypeId) (B i : Nat) (hB : B = W.heap.size) : (W.alloc (.cells c t)).cell? ⟨B, i, none⟩ = c[i]? := by subst hB; exact World.cell?_alloc_new W c t i
theorem pOld (W : World) (o : Obj) (B i : Nat) (hB : B < W.heap.size) : (W.alloc o).cell? ⟨B, i, none⟩ = W.cell? ⟨B, i, none⟩ := World.cell?_alloc_lt W o _ hB
theorem pfNew (W : World) (c : Array Value) (t : TypeId) (B i : Nat) (hB : B = W.heap.size) : (W.alloc (.cells c t)).frozen? ⟨B, i, none⟩ = false := by subst hB; exact World.frozen?_alloc_new W c t i
theorem pfOld (W : World) (o : Obj) (B i : Nat) (hB : B < W.heap.size) : (W.alloc o).frozen? ⟨B, i, none⟩ = W.frozen? ⟨B, i, none⟩ := World.frozen?_alloc_old W o _ (Nat.ne_of_lt hB)

section
variable (w : World)
end
end Go.Proofs.YtkmlgoklmmbmjaaDoor
