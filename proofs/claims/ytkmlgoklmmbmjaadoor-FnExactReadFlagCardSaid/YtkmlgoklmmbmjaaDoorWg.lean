/-
  THE WORDS OF A GRAPH's TEXT: pure facts.
-/
import Derived.Test.YtkmlgoklmmbmjaaDoorGtS
import Derived.Test.YtkmlgoklmmbmjaaDoorPd
import Derived.Test.YtkmlgoklmmbmjaaDoorGraphOfC
namespace Go.Proofs.YtkmlgoklmmbmjaaDoor
open Go.RowKit
set_option maxRecDepth 100000
theorem splA_count0 (x : UInt8) : ∀ (a acc : List UInt8), 1 ≤ (splA x acc a).length ∧ (splA x acc a).length ≤ a.length + 1
  | [], acc => by simp [splA]
  | c :: r, acc => by
    have h1 := splA_count0 x r []
    have h2 := splA_count0 x r (acc ++ [c])
    rw [splA]
    split
    · simp only [List.length_cons]; omega
    · simp only [List.length_cons]; omega
theorem splA_count (x : UInt8) (l acc : List UInt8) : 1 ≤ (splA x acc l).length ∧ (splA x acc l).length ≤ l.length + 1 := splA_count0 x l acc
def gWord : List UInt8 := [103, 114, 97, 112, 104]
/-- a pair's word -/
def pWord (p : Nat × Nat) : List UInt8 := Lib.decDigits p.1 ++ 45 :: Lib.decDigits p.2
theorem dec_no (n : Nat) (x : UInt8) (hx : x.toNat < 48) : ∀ c ∈ Lib.decDigits n, c ≠ x := fun c hc e => by
  subst e
  have := (dec_dig n _ hc).1
  omega
theorem pWord_no (p : Nat × Nat) : ∀ c ∈ pWord p, c ≠ 32 := fun c hc => by
  unfold pWord at hc
  rcases List.mem_append.1 hc with h | h
  · exact dec_no p.1 32 (by decide) c h
  · rcases List.mem_cons.1 h with rfl | h
    · decide
    · exact dec_no p.2 32 (by decide) c h
theorem words_ps : ∀ (ps : List (Nat × Nat)) (a : List UInt8), (∀ c ∈ a, c ≠ 32) → splA 32 [] (a ++ ps.flatMap gPair) = a :: ps.map pWord
  | [], a, h => by simp [splA_not 32 a [] h]
  | p :: ps, a, h => by
    have : a ++ (p :: ps).flatMap gPair = a ++ 32 :: (pWord p ++ ps.flatMap gPair) := by simp [gPair, pWord]
    rw [this, splA_at 32 _ a [] h, words_ps ps (pWord p) (pWord_no p)]
    simp
/-- the words of a graph's text -/
theorem words_g (n : Nat) (ps : List (Nat × Nat)) : splA 32 [] (gText n ps) = gWord :: Lib.decDigits n :: ps.map pWord := by
  have h : gText n ps = gWord ++ 32 :: (Lib.decDigits n ++ ps.flatMap gPair) := rfl
  rw [h, splA_at 32 _ gWord [] (by decide), words_ps ps _ (dec_no n 32 (by decide))]
  rfl
theorem ends_p (p : Nat × Nat) : splA 45 [] (pWord p) = [Lib.decDigits p.1, Lib.decDigits p.2] := by
  unfold pWord
  rw [splA_at 45 _ _ [] (dec_no p.1 45 (by decide)), splA_not 45 _ [] (dec_no p.2 45 (by decide))]
  rfl
theorem cut_p (p : Nat × Nat) : Lib.cut (pWord p) [45] = (Lib.decDigits p.1, Lib.decDigits p.2, true) := cut_at _ _ 45 (dec_no p.1 45 (by decide))
theorem prE_isP {n e : Nat} (hn : n ≤ 5) : ∀ p ∈ prE n e, IsP (n : Int) (p.1 : Int) (p.2 : Int) := fun p hp => by
  have : ∀ n, n ≤ 5 → ∀ p ∈ prs n, p.1 < p.2 ∧ p.2 < n := by decide
  have := this n hn p (List.mem_filter.1 hp).1
  refine ⟨?_, ?_, ?_, ?_, ?_⟩ <;> omega
def gFold (ps : List (Nat × Nat)) : Nat := ps.foldl (fun a p => a ||| pb p.1 p.2) 0
theorem gFold_all : ∀ n, n ≤ 5 → ∀ e, e < eMax n → gFold (prE n e) = e := by decide +kernel
theorem geE_take (ps : List (Nat × Nat)) : ∀ k, k ≤ ps.length → geE (pAt ps) k = gFold (ps.take k) := by
  intro k
  induction k with
  | zero => intro _; rfl
  | succ k ih =>
    intro hk
    have hk' : k < ps.length := hk
    rw [geE, ih (by omega), List.take_add_one, List.getElem?_eq_getElem hk']
    unfold gFold
    rw [show (some ps[k]).toList = [ps[k]] from rfl, List.foldl_append]
    simp [pAt, List.getElem?_eq_getElem hk']
/-- the pairs of a graph make it again -/
theorem geE_all {n e : Nat} (h : VG n e) : geE (pAt (prE n e)) (prE n e).length = e := by
  rw [geE_take _ _ (Nat.le_refl _), List.take_length]
  have h4 := h.2.2.2
  rw [Int.toNat_natCast] at h4
  exact gFold_all n (by have := h.2.1; omega) e (by omega)
end Go.Proofs.YtkmlgoklmmbmjaaDoor
