/-
  PARTS OF GRAPHS: the model's contract; HasPart of both.
-/
import Derived.Test.YtiedombphcdpbaaGreatDoorPart
import Derived.Test.YtiedombphcdpbaaGreatDoorSLeast
namespace Go.Proofs.YtiedombphcdpbaaGreatDoor
open Go.RowKit Go.Shelf
set_option maxRecDepth 100000

/-- the boxes of two graphs -/
structure H2 (wr : World) (G : Nat) (n e k f : Int) : Prop where
  size : G + 1 < wr.heap.size
  g0 : wr.cell? ⟨G, 0, none⟩ = some (.int .i64 n)
  g1 : wr.cell? ⟨G, 1, none⟩ = some (.int .u32 e)
  h0 : wr.cell? ⟨G + 1, 0, none⟩ = some (.int .i64 k)
  h1 : wr.cell? ⟨G + 1, 1, none⟩ = some (.int .u32 f)
theorem H2.under {wr w' : World} {G B : Nat} {n e k f : Int} (h : H2 wr G n e k f) (hb : Below B wr w') (hB : G + 1 < B) : H2 w' G n e k f where
  size := Nat.lt_of_lt_of_le h.size hb.size
  g0 := (hb.cell (p := ⟨G, 0, none⟩) (by show G < B; omega)).trans h.g0
  g1 := (hb.cell (p := ⟨G, 1, none⟩) (by show G < B; omega)).trans h.g1
  h0 := (hb.cell (p := ⟨G + 1, 0, none⟩) hB).trans h.h0
  h1 := (hb.cell (p := ⟨G + 1, 1, none⟩) hB).trans h.h1
theorem H2.begin (w : World) (n e k f : Int) (t : TypeId) : H2 ((w.alloc (.cells #[.int .i64 n, .int .u32 e] t)).alloc (.cells #[.int .i64 k, .int .u32 f] t)) w.heap.size n e k f := by
  have s1 : ∀ (W : World) (o : Obj), (W.alloc o).heap.size = W.heap.size + 1 := fun W o => by simp
  constructor
  · rw [s1, s1]; omega
  · rw [cOld _ _ _ _ (by rw [s1]; omega), cNew _ _ _ _ _ rfl]; rfl
  · rw [cOld _ _ _ _ (by rw [s1]; omega), cNew _ _ _ _ _ rfl]; rfl
  · rw [cNew _ _ _ _ _ (by rw [s1])]; rfl
  · rw [cNew _ _ _ _ _ (by rw [s1])]; rfl

end Go.Proofs.YtiedombphcdpbaaGreatDoor
