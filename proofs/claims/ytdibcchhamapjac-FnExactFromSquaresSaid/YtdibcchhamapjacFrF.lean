/-
  FromSquares: what the steps make, as a function; the matrices between are valid.
-/
import Derived.Test.YtdibcchhamapjacFEl
namespace Go.Proofs.Ytdibcchhamapjac
open Go.RowKit
set_option maxRecDepth 100000

theorem matL_at {n : Nat} (g : Nat → Nat → Int × Int) {i j : Nat} (hi : i < n) (hj : j < n) : gAt (rAt (matL n g) i) j = g i j := by rw [matL_row g hi, row_get _ hj]
/-- valid and symmetric, up to n -/
def VS (n : Nat) (g : Nat → Nat → Int × Int) : Prop := ∀ i j, i < n → j < n → VP (g i j) ∧ g i j = g j i
theorem VS.vm {n : Nat} {g : Nat → Nat → Int × Int} (h : VS n g) (hn : n ≤ 8) : VM (matL n g) := by
  refine ⟨by rw [matL_length]; exact hn, fun i hi => ?_, fun a b ha hb => ?_, fun b hb => absurd hb (by omega)⟩
  · rw [matL_length] at hi ⊢
    have hl : (rAt (matL n g) i).length = n := matL_rows n g i (by rw [matL_length]; exact hi)
    exact ⟨hl, fun j hj => by rw [hl] at hj; rw [matL_at g hi hj]; exact (h i j hi hj).1⟩
  · rw [matL_length] at ha
    rw [matL_at g ha (by omega), matL_at g (by omega) ha]
    exact (h a b ha (by omega)).2
theorem mulF_comm (a b : Int × Int) : mulF a b = mulF b a := by unfold mulF; rw [Int.mul_comm a.1, Int.mul_comm a.2]
theorem addF_swap {m m2 : List (List (Int × Int))} {i j : Nat} (h : gAt (rAt m i) j = gAt (rAt m j) i) (h2 : gAt (rAt m2 i) j = gAt (rAt m2 j) i) : adF m m2 i j = adF m m2 j i := by unfold adF; rw [h, h2]
def AllO (n : Nat) (o : Nat → Nat → Bool) : Prop := ∀ i j, i < n → j < n → o i j = true
theorem not_allO {n : Nat} {o : Nat → Nat → Bool} (h : ¬ AllO n o) : ∃ i j, i < n ∧ j < n ∧ o i j = false := by
  refine Classical.byContradiction fun hn => h fun i j hi hj => ?_
  cases hb : o i j with
  | true => rfl
  | false => exact absurd ⟨i, j, hi, hj, hb⟩ hn
theorem gO_some {F : Nat → Nat → Option (Int × Int)} {i j : Nat} (h : oO F i j = true) : F i j = some (gO F i j) := by
  unfold oO at h
  unfold gO
  cases hF : F i j with
  | none => rw [hF] at h; cases h
  | some m => rfl
theorem sq_vs {n : Nat} {xs : List (Int × Int)} (hn : xs.length = n) (hV : AllV xs) (ho : AllO n (oS xs)) : VS n (gS xs) := fun i j hi hj => by
  have h1 : mulF (gAt xs i) (gAt xs j) = some (gS xs i j) := by
    have h := ho i j hi hj
    unfold oS at h
    unfold gS
    cases hF : mulF (gAt xs i) (gAt xs j) with
    | none => rw [hF] at h; cases h
    | some m => rfl
  exact ⟨mul_vp (hV i (by omega)) (hV j (by omega)) h1, by unfold gS; rw [mulF_comm]⟩
theorem sc_vs {n : Nat} {g : Nat → Nat → Int × Int} {y : Int × Int} (h : VS n g) (hy : VP y) (ho : AllO n (oO (scF (matL n g) y))) : VS n (gO (scF (matL n g) y)) := fun i j hi hj => by
  have h1 := gO_some (ho i j hi hj)
  have h2 : scF (matL n g) y i j = scF (matL n g) y j i := by unfold scF; rw [matL_at g hi hj, matL_at g hj hi, (h i j hi hj).2]
  refine ⟨?_, by unfold gO; rw [h2]⟩
  unfold scF at h1
  rw [matL_at g hi hj] at h1
  exact mul_vp (h i j hi hj).1 hy h1
theorem ad_vs {n : Nat} {g f : Nat → Nat → Int × Int} (h : VS n g) (hf : VS n f) (ho : AllO n (oO (adF (matL n g) (matL n f)))) : VS n (gO (adF (matL n g) (matL n f))) := fun i j hi hj => by
  have h1 := gO_some (ho i j hi hj)
  have h2 : adF (matL n g) (matL n f) i j = adF (matL n g) (matL n f) j i := by unfold adF; rw [matL_at g hi hj, matL_at g hj hi, matL_at f hi hj, matL_at f hj hi, (h i j hi hj).2, (hf i j hi hj).2]
  refine ⟨?_, by unfold gO; rw [h2]⟩
  unfold adF at h1
  rw [matL_at g hi hj, matL_at f hi hj] at h1
  exact add_vp (h i j hi hj).1 (hf i j hi hj).1 h1
theorem zero_vs (n : Nat) : VS n (fun _ _ => (0, 1)) := fun _ _ _ _ => ⟨show VF 0 1 from ⟨by decide, by decide, by decide, by decide, by decide⟩, rfl⟩
/-- the square of a row, scaled: the cells -/
def sqG (n : Nat) (ps : List (Int × Int)) (rs : List (List (Int × Int))) (k : Nat) : Nat → Nat → Int × Int := gO (scF (matL n (gS (rAt rs k))) (gAt ps k))
/-- the sum of the first k steps, if no fraction on the way is too large -/
inductive FrS (n : Nat) (ps : List (Int × Int)) (rs : List (List (Int × Int))) : Nat → (Nat → Nat → Int × Int) → Prop
  | zero : FrS n ps rs 0 (fun _ _ => (0, 1))
  | succ {k : Nat} {s : Nat → Nat → Int × Int} (h : FrS n ps rs k s) (h1 : AllO n (oS (rAt rs k))) (h2 : AllO n (oO (scF (matL n (gS (rAt rs k))) (gAt ps k)))) (h3 : AllO n (oO (adF (matL n s) (matL n (sqG n ps rs k))))) :
      FrS n ps rs (k + 1) (gO (adF (matL n s) (matL n (sqG n ps rs k))))
theorem FrS.uniq {n : Nat} {ps : List (Int × Int)} {rs : List (List (Int × Int))} : ∀ {k : Nat} {s t : Nat → Nat → Int × Int}, FrS n ps rs k s → FrS n ps rs k t → s = t := by
  intro k
  induction k with
  | zero => intro s t hs ht; cases hs; cases ht; rfl
  | succ k ih =>
    intro s t hs ht
    cases hs with
    | succ h h1 h2 h3 => cases ht with
      | succ h' h1' h2' h3' => rw [ih h h']
theorem FrS.vs {n : Nat} {ps : List (Int × Int)} {rs : List (List (Int × Int))} (hp : AllV ps) (hpn : ps.length = n) (hr : ∀ i, i < n → (rAt rs i).length = n ∧ AllV (rAt rs i)) : ∀ {k : Nat} {s : Nat → Nat → Int × Int}, k ≤ n → FrS n ps rs k s → VS n s := by
  intro k
  induction k with
  | zero => intro s _ hs; cases hs; exact zero_vs n
  | succ k ih =>
    intro s hk hs
    cases hs with
    | succ h h1 h2 h3 => exact ad_vs (ih (by omega) h) (sc_vs (sq_vs (hr k (by omega)).1 (hr k (by omega)).2 h1) (hp k (by omega)) h2) h3
theorem FrS.prev {n : Nat} {ps : List (Int × Int)} {rs : List (List (Int × Int))} {k : Nat} {s : Nat → Nat → Int × Int} (h : FrS n ps rs (k + 1) s) : ∃ t, FrS n ps rs k t ∧ AllO n (oS (rAt rs k)) ∧ AllO n (oO (scF (matL n (gS (rAt rs k))) (gAt ps k))) ∧ AllO n (oO (adF (matL n t) (matL n (sqG n ps rs k)))) := by
  cases h with
  | succ h h1 h2 h3 => exact ⟨_, h, h1, h2, h3⟩
/-- a step that fails: no sum behind it -/
theorem FrS.stop {n : Nat} {ps : List (Int × Int)} {rs : List (List (Int × Int))} {k : Nat} (h : ∀ s, ¬ FrS n ps rs (k + 1) s) : ∀ l, k < l → ∀ s, ¬ FrS n ps rs l s := by
  intro l
  induction l with
  | zero => intro hl; omega
  | succ l ih =>
    intro hl s hs
    by_cases c : l = k
    · subst c; exact h s hs
    · obtain ⟨t, ht, _⟩ := hs.prev
      exact ih (by omega) t ht
end Go.Proofs.Ytdibcchhamapjac
