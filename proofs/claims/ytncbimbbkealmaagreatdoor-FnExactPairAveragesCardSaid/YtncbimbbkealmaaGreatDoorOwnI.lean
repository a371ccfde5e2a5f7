/-
  LISTS OF int64 THAT A CALL MADE: 'OwnI w0 w v zs': v holds zs in a block that was not there in w0 and may be written; what writes marks into such a list, and what asks for them.
-/
import Derived.Test.YtncbimbbkealmaaGreatDoorInts
namespace Go.Proofs.YtncbimbbkealmaaGreatDoor
open Go.RowKit
set_option maxRecDepth 100000

/-- l cells of a block, by a function -/
def CF (w : World) (B l : Nat) (f : Nat → Int) : Prop := ∀ i, i < l → w.cell? ⟨B, i, none⟩ = some (.int .i64 (f i))
theorem CF.set {w : World} {B l : Nat} {f g : Nat → Int} {k : Nat} {x : Int} (h : CF w B l f) (hk : k < l) (hx : g k = x) (ho : ∀ i, i ≠ k → g i = f i) : CF (w.setCell ⟨B, k, none⟩ (.int .i64 x)) B l g := by
  intro i hi
  by_cases e : i = k
  · subst e
    rw [World.cell?_setCell_same _ _ _ (h i hi), hx]
  · rw [World.cell?_setCell_other _ _ _ _ (by simp), h i hi, ho i e]
theorem CF.below {w w' : World} {B l : Nat} {f : Nat → Int} (h : CF w B l f) (hb : Below w.heap.size w w') (hB : B < w.heap.size) : CF w' B l f := fun i hi => (hb.cell (p := ⟨B, i, none⟩) hB).trans (h i hi)
theorem CF.congr {w : World} {B l : Nat} {f g : Nat → Int} (h : CF w B l f) (hg : ∀ i, i < l → g i = f i) : CF w B l g := fun i hi => by rw [h i hi, hg i hi]

def OwnI (w0 w : World) (v : Value) (l : Nat) (f : Nat → Int) : Prop :=
  ∃ (a : Option Addr) (cap : Nat), v = .slice a l cap ∧ l ≤ cap ∧ cap ≤ 9223372036854775807 ∧ (0 < l → ∃ B, a = some ⟨B, 0, none⟩ ∧ w0.heap.size ≤ B ∧ B < w.heap.size ∧ CF w B l f ∧ ∀ o, o < l → w.frozen? ⟨B, o, none⟩ = false)
theorem OwnI.below {w0 w w' : World} {v : Value} {l : Nat} {f : Nat → Int} (h : OwnI w0 w v l f) (hb : Below w.heap.size w w') : OwnI w0 w' v l f := by
  obtain ⟨a, cap, e, h1, h2, h3⟩ := h
  refine ⟨a, cap, e, h1, h2, fun hz => ?_⟩
  obtain ⟨B, e2, h4, h5, h6, h7⟩ := h3 hz
  exact ⟨B, e2, h4, Nat.lt_of_lt_of_le h5 hb.size, h6.below hb h5, fun o ho => (hb.frozen (p := ⟨B, o, none⟩) h5).trans (h7 o ho)⟩
/-- the list of the first l values of f -/
def lst (l : Nat) (f : Nat → Int) : List Int := (List.range l).map f
theorem lst_length (l : Nat) (f : Nat → Int) : (lst l f).length = l := by simp [lst]
theorem lst_get (l : Nat) (f : Nat → Int) (i : Nat) (h : i < l) : (lst l f)[i]?.getD 0 = f i := by simp [lst, h]
theorem OwnI.sl {w0 w : World} {v : Value} {l : Nat} {f : Nat → Int} (h : OwnI w0 w v l f) : SlI w v (lst l f) := by
  obtain ⟨a, cap, e, h1, h2, h3⟩ := h
  refine ⟨a, cap, by rw [lst_length]; exact e, by rw [lst_length]; exact h1, h2, fun hz => ?_⟩
  have hl : 0 < l := by
    rcases Nat.eq_zero_or_pos l with h0 | h0
    · subst h0; exact absurd rfl hz
    · exact h0
  obtain ⟨B, e2, h4, h5, h6, h7⟩ := h3 hl
  exact ⟨B, 0, e2, h5, fun i hi => by rw [lst_length] at hi; rw [Nat.zero_add, lst_get _ _ _ hi]; exact h6 i hi⟩

section
variable (w : World)
end
end Go.Proofs.YtncbimbbkealmaaGreatDoor
