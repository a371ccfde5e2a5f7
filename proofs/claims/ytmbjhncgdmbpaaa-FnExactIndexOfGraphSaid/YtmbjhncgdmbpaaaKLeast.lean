/-
  THE LEAST FLAG THAT IS ALIKE: the program's contract.
-/
import Derived.Test.YtmbjhncgdmbpaaaKTurns
namespace Go.Proofs.Ytmbjhncgdmbpaaa
open Go.RowKit Go.Shelf
set_option maxRecDepth 100000
attribute [local go_sem] Oper.semAt_some

/-- the edges of the least flag that is alike -/
def leastK (n k e : Nat) : Nat := minE e (turns n k)
/-- the boxes of a walk for the least flag: the result's and the least one's -/
structure PK (W : World) (G : Nat) (k n acc : Int) : Prop where
  r : FC W (G + 1) 0 0 0
  p : FC W (G + 2) k n acc
  fr : ∀ i, W.frozen? ⟨G + 1, i, none⟩ = false
  fp : ∀ i, W.frozen? ⟨G + 2, i, none⟩ = false
theorem PK.block {W W' : World} {G : Nat} {k n acc : Int} (h : PK W G k n acc) (hz : W.heap.size ≤ W'.heap.size) (h1 : W'.heap[G + 1]? = W.heap[G + 1]?) (h2 : W'.heap[G + 2]? = W.heap[G + 2]?) : PK W' G k n acc :=
  ⟨h.r.block hz h1, h.p.block hz h2, fun i => (World.frozen?_of_block (a := ⟨G + 1, i, none⟩) h1).trans (h.fr i), fun i => (World.frozen?_of_block (a := ⟨G + 2, i, none⟩) h2).trans (h.fp i)⟩
theorem PK.under {W W' : World} {G B : Nat} {k n acc : Int} (h : PK W G k n acc) (hb : Below B W W') (hB : G + 2 < B) : PK W' G k n acc := h.block hb.size (hb.block _ (by omega)) (hb.block _ hB)
theorem PK.set {W : World} {G : Nat} {k n acc : Int} (h : PK W G k n acc) (x : Int) : PK (W.setCell ⟨G + 2, 2, none⟩ (.int .u32 x)) G k n x where
  r := h.r.other _ (by show G + 2 ≠ G + 1; omega)
  p := ⟨by have := h.p.lt; simpa using this, (World.cell?_setCell_other _ _ _ _ (by simp)).trans h.p.c0, (World.cell?_setCell_other _ _ _ _ (by simp)).trans h.p.c1, World.cell?_setCell_same _ _ _ h.p.c2⟩
  fr := fun i => by rw [World.frozen?_setCell]; exact h.fr i
  fp := fun i => by rw [World.frozen?_setCell]; exact h.fp i
theorem PK.begin (w : World) (k n e : Int) (c : Int) (l acc : Int) (t : TypeId) : PK (((w.alloc (.cells #[.int .i64 k, .int .i64 n, .int .u32 e] t)).alloc (.cells #[.int .i64 0, .int .i64 0, .int .u32 0] t)).alloc (.cells #[.int .i64 c, .int .i64 l, .int .u32 acc] t)) w.heap.size c l acc := by
  have s1 : ∀ (W : World) (o : Obj), (W.alloc o).heap.size = W.heap.size + 1 := fun W o => by simp
  have hr := (FC.made (w.alloc (.cells #[.int .i64 k, .int .i64 n, .int .u32 e] t)) 0 0 0 t).below ((Below.refl _ _).alloc (Nat.le_refl _) (.cells #[.int .i64 c, .int .i64 l, .int .u32 acc] t))
  have hp := FC.made ((w.alloc (.cells #[.int .i64 k, .int .i64 n, .int .u32 e] t)).alloc (.cells #[.int .i64 0, .int .i64 0, .int .u32 0] t)) c l acc t
  rw [s1] at hr
  rw [s1, s1] at hp
  refine ⟨hr, hp, fun i => ?_, fun i => ?_⟩
  · rw [fOld _ _ _ _ (by rw [s1, s1]; omega), fNew _ _ _ _ _ (by rw [s1])]
  · rw [fNew _ _ _ _ _ (by rw [s1, s1])]
theorem FC.cellular (B : Nat) (k n e : Int) : Cellular (fun W => FC W B k n e) := fun A l o o' h hl ho =>
  ⟨by have := h.lt; simpa [World.putObj] using this, cellular_cell _ _ A l o o' h.c0 hl ho, cellular_cell _ _ A l o o' h.c1 hl ho, cellular_cell _ _ A l o o' h.c2 hl ho⟩
section
variable (w : World)
end
end Go.Proofs.Ytmbjhncgdmbpaaa
