/-
  LISTS OF PAIRS: what holds two of them against each other, writes marks into one, and asks for them.
-/
import Derived.Test.YtkmlgoklmmbmjaaDoorPrs
import Derived.Test.YtkmlgoklmmbmjaaDoorPairs2
namespace Go.Proofs.YtkmlgoklmmbmjaaDoor
open Go.RowKit
set_option maxRecDepth 100000

theorem CA.set0 {w : World} {B n j : Nat} {f g : Nat → Int × Int} {x : Int} (h : CA w B n f) (hg : ∀ i, i < n → g i = if i = j then (x, (f j).2) else f i) : CA (w.setCell ⟨B, j * 2, none⟩ (.int .i64 x)) B n g := fun i hi => by
  rw [hg i hi]
  by_cases e : i = j
  · subst e
    rw [if_pos rfl]
    exact ⟨World.cell?_setCell_same _ _ _ (h i hi).1, (World.cell?_setCell_other _ _ _ _ (by simp)).trans (h i hi).2⟩
  · rw [if_neg e]
    exact ⟨(World.cell?_setCell_other _ _ _ _ (by simp <;> omega)).trans (h i hi).1, (World.cell?_setCell_other _ _ _ _ (by simp <;> omega)).trans (h i hi).2⟩
theorem CA.set1 {w : World} {B n j : Nat} {f g : Nat → Int × Int} {x : Int} (h : CA w B n f) (hg : ∀ i, i < n → g i = if i = j then ((f j).1, x) else f i) : CA (w.setCell ⟨B, j * 2 + 1, none⟩ (.int .i64 x)) B n g := fun i hi => by
  rw [hg i hi]
  by_cases e : i = j
  · subst e
    rw [if_pos rfl]
    exact ⟨(World.cell?_setCell_other _ _ _ _ (by simp)).trans (h i hi).1, World.cell?_setCell_same _ _ _ (h i hi).2⟩
  · rw [if_neg e]
    exact ⟨(World.cell?_setCell_other _ _ _ _ (by simp <;> omega)).trans (h i hi).1, (World.cell?_setCell_other _ _ _ _ (by simp <;> omega)).trans (h i hi).2⟩
/-- the marks from k on -/
def mk2 (k : Nat) (i : Nat) : Int × Int := (((k + 2 * i : Nat) : Int), ((k + 2 * i + 1 : Nat) : Int))
section
variable (w : World)
end
end Go.Proofs.YtkmlgoklmmbmjaaDoor
