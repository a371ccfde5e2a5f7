/-
  readRow: what its loop keeps.
-/
import Derived.Test.YtdbidlnkaplekaaDoorRfI
import Derived.Test.YtdbidlnkaplekaaDoorLnC
import Derived.Deep.OwnRows
import Derived.ArgAppend
namespace Go.Proofs.YtdbidlnkaplekaaDoor
open Go.RowKit Go.Shelf
set_option maxRecDepth 100000
attribute [local go_sem] Oper.semAt_some
attribute [-go_sem] run_slice_string run_slice_string_l run_slice_string_h
def fW (f : Int × Int) : List UInt8 := fTL f.1 f.2.toNat
def flF (fs : List (Int × Int)) : List Value := fs.flatMap fun f => [.int .i64 f.1, .int .i64 f.2]
theorem flF_snoc (fs : List (Int × Int)) (f : Int × Int) : flF (fs ++ [f]) = flF fs ++ [.int .i64 f.1, .int .i64 f.2] := by simp [flF]
def AllF (fs : List (Int × Int)) : Prop := ∀ f ∈ fs, Fr.VF f.1 f.2
/-- the line is that of these fractions -/
def RowTx (l : List UInt8) (fs : List (Int × Int)) : Prop := AllF fs ∧ ∃ y, l = y ++ [10] ∧ splA 32 [] y = fs.map fW
/-- what the loop over the words keeps: two boxes of results, the list's box, the iterator's three (G+3 its text), the list's own cells from G+6 on -/
structure RwI (w : World) (G : Nat) (pre : List (List UInt8)) (W : World) : Prop where
  below : Below G w W
  lt : G + 5 < W.heap.size
  r0 : W.cell? ⟨G, 0, none⟩ = some (.slice none 0 0)
  f0 : W.frozen? ⟨G, 0, none⟩ = false
  r1 : W.cell? ⟨G + 1, 0, none⟩ = some (.bool false)
  f1 : W.frozen? ⟨G + 1, 0, none⟩ = false
  fM : W.frozen? ⟨G + 2, 0, none⟩ = false
  sp : SpInv (G + 4) (G + 5) W
  l : ∃ (fs : List (Int × Int)) (u : Value), pre = fs.map fW ∧ AllF fs ∧ W.cell? ⟨G + 2, 0, none⟩ = some u ∧ W.ownsRow (G + 6) 53 2 u fs.length (flF fs)
theorem RwI.keep {w : World} {G : Nat} {pre : List (List UInt8)} {W W' : World} (h : RwI w G pre W) (hb : Below G w W') (hz : W.heap.size ≤ W'.heap.size)
    (h1 : ∀ k, k < G + 6 → k ≠ G + 3 → W'.heap[k]? = W.heap[k]?) (h2 : ∀ g cur fz, G + 6 ≤ g → W.heap[g]? = some (.cells cur 53 fz) → W'.heap[g]? = W.heap[g]?) : RwI w G pre W' := by
  have e0 := h1 G (by omega) (by omega)
  have e1 := h1 (G + 1) (by omega) (by omega)
  have e2 := h1 (G + 2) (by omega) (by omega)
  have e4 := h1 (G + 4) (by omega) (by omega)
  have e5 := h1 (G + 5) (by omega) (by omega)
  refine ⟨hb, Nat.lt_of_lt_of_le h.lt hz, (World.cell?_of_block (a := ⟨G, 0, none⟩) e0).trans h.r0, (World.frozen?_of_block (a := ⟨G, 0, none⟩) e0).trans h.f0, (World.cell?_of_block (a := ⟨G + 1, 0, none⟩) e1).trans h.r1, (World.frozen?_of_block (a := ⟨G + 1, 0, none⟩) e1).trans h.f1,
    (World.frozen?_of_block (a := ⟨G + 2, 0, none⟩) e2).trans h.fM, ⟨(World.cell?_of_block (a := ⟨G + 4, 0, none⟩) e4).trans h.sp.1, (World.cell?_of_block (a := ⟨G + 5, 0, none⟩) e5).trans h.sp.2⟩, ?_⟩
  obtain ⟨fs, u, a1, a2, a3, a4, a5⟩ := h.l
  refine ⟨fs, u, a1, a2, (World.cell?_of_block (a := ⟨G + 2, 0, none⟩) e2).trans a3, a4, ?_⟩
  rcases a5 with hn | ⟨g, cap, cur, rfl, b1, b2, b3⟩
  · exact .inl hn
  · exact .inr ⟨g, cap, cur, rfl, b1, (h2 g cur _ b1 b2).trans b2, b3⟩
theorem RwI.own (w : World) (G : Nat) : OwnFrom (G + 6) (RwI w G) := fun pre W W' row h hg hr =>
  h.keep (h.below.grown hg (by have := h.lt; omega) (fun k e => by have := (hr k e).1; omega)) hg.size
    (fun k hk _ => hg.block k (by have := h.lt; omega) (fun e => by have := (hr k e.symm).1; omega))
    (fun g cur fz _ hc => hg.block g (Array.getElem?_eq_some_iff.1 hc).1 (fun e => by
      obtain ⟨_, o, ho, hn⟩ := hr g e.symm
      rw [hc] at ho
      obtain rfl := Option.some.inj ho
      cases hn))
theorem RwI.set (w : World) (G : Nat) : ∀ s A x, RwI w G s A → RwI w G s (A.setCell ⟨G + 3, 0, none⟩ x) := fun s A x h =>
  h.keep (h.below.setCell (p := ⟨G + 3, 0, none⟩) (by show G ≤ G + 3; omega) _) (by simp)
    (fun k _ hk => Below.heap_setCell _ _ _ _ hk) (fun g cur fz hg _ => Below.heap_setCell _ _ _ _ (by show g ≠ G + 3; omega))
theorem RwI.below_of {w : World} {G : Nat} {pre : List (List UInt8)} {W W' : World} (h : RwI w G pre W) (hb : Below W.heap.size W W') : RwI w G pre W' :=
  h.keep (h.below.trans (hb.mono (by have := h.lt; omega))) hb.size (fun k hk _ => hb.block k (by have := h.lt; omega)) (fun g cur fz _ hc => hb.block g (Array.getElem?_eq_some_iff.1 hc).1)
end Go.Proofs.YtdbidlnkaplekaaDoor
