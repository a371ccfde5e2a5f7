/-
  PARTS OF GRAPHS: the program's contract.
-/
import Derived.Test.YtiedombphcdpbaaGreatDoorPartPlain
import Derived.Test.YtiedombphcdpbaaGreatDoorStillIn
import Derived.Test.YtiedombphcdpbaaGreatDoorSeesA
import Derived.Test.YtiedombphcdpbaaGreatDoorLeast
import Derived.Test.YtiedombphcdpbaaGreatDoorDeg
import Derived.Scope
import Derived.WalkMore
namespace Go.Proofs.YtiedombphcdpbaaGreatDoor
open Go.RowKit Go.Shelf
set_option maxRecDepth 100000
attribute [local go_sem] Oper.semAt_some

/-- the boxes of two graphs, and of the result -/
structure HB (wr : World) (G : Nat) (n e k f : Int) (b : Bool) : Prop where
  size : G + 2 < wr.heap.size
  g0 : wr.cell? ⟨G, 0, none⟩ = some (.int .i64 n)
  g1 : wr.cell? ⟨G, 1, none⟩ = some (.int .u32 e)
  h0 : wr.cell? ⟨G + 1, 0, none⟩ = some (.int .i64 k)
  h1 : wr.cell? ⟨G + 1, 1, none⟩ = some (.int .u32 f)
  r0 : wr.cell? ⟨G + 2, 0, none⟩ = some (.bool b)
  fr : wr.frozen? ⟨G + 2, 0, none⟩ = false
theorem HB.under {wr w' : World} {G B : Nat} {n e k f : Int} {b : Bool} (h : HB wr G n e k f b) (hb : Below B wr w') (hB : G + 2 < B) : HB w' G n e k f b where
  size := Nat.lt_of_lt_of_le h.size hb.size
  g0 := (hb.cell (p := ⟨G, 0, none⟩) (by show G < B; omega)).trans h.g0
  g1 := (hb.cell (p := ⟨G, 1, none⟩) (by show G < B; omega)).trans h.g1
  h0 := (hb.cell (p := ⟨G + 1, 0, none⟩) (by show G + 1 < B; omega)).trans h.h0
  h1 := (hb.cell (p := ⟨G + 1, 1, none⟩) (by show G + 1 < B; omega)).trans h.h1
  r0 := (hb.cell (p := ⟨G + 2, 0, none⟩) hB).trans h.r0
  fr := (hb.frozen (p := ⟨G + 2, 0, none⟩) hB).trans h.fr
theorem HB.set {wr : World} {G : Nat} {n e k f : Int} {b : Bool} (h : HB wr G n e k f b) (c : Bool) : HB (wr.setCell ⟨G + 2, 0, none⟩ (.bool c)) G n e k f c where
  size := by have := h.size; simpa using this
  g0 := (World.cell?_setCell_other _ _ _ _ (by simp)).trans h.g0
  g1 := (World.cell?_setCell_other _ _ _ _ (by simp)).trans h.g1
  h0 := (World.cell?_setCell_other _ _ _ _ (by simp)).trans h.h0
  h1 := (World.cell?_setCell_other _ _ _ _ (by simp)).trans h.h1
  r0 := World.cell?_setCell_same _ _ _ h.r0
  fr := by rw [World.frozen?_setCell]; exact h.fr
theorem HB.begin (w : World) (n e k f : Int) (t u : TypeId) : HB (((w.alloc (.cells #[.int .i64 n, .int .u32 e] t)).alloc (.cells #[.int .i64 k, .int .u32 f] t)).alloc (.cells #[.bool false] u)) w.heap.size n e k f false := by
  have s1 : ∀ (W : World) (o : Obj), (W.alloc o).heap.size = W.heap.size + 1 := fun W o => by simp
  constructor
  · rw [s1, s1, s1]; omega
  · rw [cOld _ _ _ _ (by rw [s1, s1]; omega), cOld _ _ _ _ (by rw [s1]; omega), cNew _ _ _ _ _ rfl]; rfl
  · rw [cOld _ _ _ _ (by rw [s1, s1]; omega), cOld _ _ _ _ (by rw [s1]; omega), cNew _ _ _ _ _ rfl]; rfl
  · rw [cOld _ _ _ _ (by rw [s1, s1]; omega), cNew _ _ _ _ _ (by rw [s1])]; rfl
  · rw [cOld _ _ _ _ (by rw [s1, s1]; omega), cNew _ _ _ _ _ (by rw [s1])]; rfl
  · rw [cNew _ _ _ _ _ (by rw [s1, s1])]; rfl
  · rw [fNew _ _ _ _ _ (by rw [s1, s1])]

def PartI (w : World) (n e k f : Nat) (G : Nat) (pre : List (List Nat)) (W : World) : Prop := HB W G n e k f false ∧ (∀ x ∈ pre, fits e f k x = false) ∧ Below G w W
def PartIx (w : World) (n e k f : Nat) (G : Nat) (c : Code) (_pre : List (List Nat)) (W : World) : Prop := c = .ret ∧ (∃ x, x ∈ lists n k ∧ fits e f k x = true) ∧ HB W G n e k f true ∧ Below G w W

end Go.Proofs.YtiedombphcdpbaaGreatDoor
