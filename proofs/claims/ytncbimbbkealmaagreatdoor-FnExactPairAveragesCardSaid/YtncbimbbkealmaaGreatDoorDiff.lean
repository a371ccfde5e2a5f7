/-
  LISTS OF DIFFERENT VERTICES: the program's test and the model's, for every list.
-/
import Derived.Test.YtncbimbbkealmaaGreatDoorInts
namespace Go.Proofs.YtncbimbbkealmaaGreatDoor
open Go.RowKit
set_option maxRecDepth 100000

def zi (zs : List Int) (i : Nat) : Int := zs[i]?.getD 0
/-- the number at k is a vertex that did not come before -/
def Fresh (zs : List Int) (n : Int) (k : Nat) : Prop := 0 ≤ zi zs k ∧ zi zs k < n ∧ ∀ j, j < k → zi zs j ≠ zi zs k
def Diff (zs : List Int) (n : Int) : Prop := ∀ k, k < zs.length → Fresh zs n k

theorem not_diff {zs : List Int} {n : Int} (h : ¬ Diff zs n) : ∃ m, m < zs.length ∧ (∀ k, k < m → Fresh zs n k) ∧ ¬ Fresh zs n m := by
  have : ∀ m, m ≤ zs.length → (∀ k, k < m → Fresh zs n k) ∨ ∃ m', m' < zs.length ∧ (∀ k, k < m' → Fresh zs n k) ∧ ¬ Fresh zs n m' := by
    intro m
    induction m with
    | zero => intro _; exact .inl (fun k hk => by omega)
    | succ m ih =>
      intro hm
      rcases ih (by omega) with h1 | h1
      · by_cases hf : Fresh zs n m
        · refine .inl (fun k hk => ?_)
          by_cases e : k = m
          · rw [e]; exact hf
          · exact h1 k (by omega)
        · exact .inr ⟨m, by omega, h1, hf⟩
      · exact .inr h1
  rcases this zs.length (Nat.le_refl _) with h1 | h1
  · exact absurd h1 h
  · exact h1

section
variable (w : World)

open Classical in
/-- the vertex u came among the first k -/
def seenB (zs : List Int) : Nat → Nat → Bool | 0, _ => false | k + 1, u => seenB zs k u || (zi zs k == (u : Int))
theorem seenB_iff (zs : List Int) (k u : Nat) : seenB zs k u = true ↔ ∃ j, j < k ∧ zi zs j = (u : Int) := by
  induction k with
  | zero => simp [seenB]
  | succ k ih =>
    simp only [seenB, Bool.or_eq_true, ih, beq_iff_eq]
    constructor
    · rintro (⟨j, h1, h2⟩ | h)
      · exact ⟨j, by omega, h2⟩
      · exact ⟨k, by omega, h⟩
    · rintro ⟨j, h1, h2⟩
      by_cases e : j = k
      · subst e; exact .inr h2
      · exact .inl ⟨j, by omega, h2⟩
def Seen (w : World) (B : Nat) (zs : List Int) (k : Nat) : Prop := ∀ u, u < 5 → w.cell? ⟨B, u, none⟩ = some (.bool (seenB zs k u))
theorem Seen.set {w : World} {B k u : Nat} {zs : List Int} (h : Seen w B zs k) (hu : zi zs k = (u : Int)) (hu5 : u < 5) : Seen (w.setCell ⟨B, u, none⟩ (.bool true)) B zs (k + 1) := by
  intro x hx
  by_cases e : x = u
  · subst e
    rw [World.cell?_setCell_same _ _ _ (h x hx)]
    simp [seenB, hu]
  · rw [World.cell?_setCell_other _ _ _ _ (by simp), h x hx]
    have : (zi zs k == (x : Int)) = false := by rw [hu]; simp; omega
    simp [seenB, this]

open Classical in
open Classical in
open Classical in
open Classical in
open Classical in
end
end Go.Proofs.YtncbimbbkealmaaGreatDoor
