/-
  THE LEAST GRAPHS WITH SO MANY VERTICES, as a list: plain facts.
-/
import Derived.Test.YtmbjhncgdmbpaaaOrbL
import Derived.Test.YtmbjhncgdmbpaaaLeast
namespace Go.Proofs.Ytmbjhncgdmbpaaa
set_option maxRecDepth 100000

theorem eMax_posG : ∀ n, n ≤ 5 → 1 ≤ eMax n := by decide
/-- is a graph the least of those that are alike -/
def isG (n j : Nat) : Bool := leastE n j == j
def lG (n m : Nat) : List (Int × Int) := ((List.range m).filter (isG n)).map fun (j : Nat) => ((n : Int), (j : Int))
theorem lG_t {n m : Nat} (h : isG n m = true) : lG n (m + 1) = lG n m ++ [((n : Int), (m : Int))] := by simp [lG, List.range_succ, List.filter_append, h]
theorem lG_f {n m : Nat} (h : isG n m = false) : lG n (m + 1) = lG n m := by simp [lG, List.range_succ, List.filter_append, h]
theorem lG_len (n m : Nat) : (lG n m).length ≤ m := by
  unfold lG
  rw [List.length_map]
  have := List.length_filter_le (isG n) (List.range m)
  simpa using this
def seenG (n i : Nat) : List Nat := seenS n 0 0 i
theorem kE00 (i : Nat) : kE 0 0 i = i := by
  unfold kE
  rw [show pc 0 = 0 by decide]
  simp
theorem kM0 (n : Nat) (hn : n ≤ 5) : kM 0 n = eMax n := by
  unfold kM
  rw [show pc 0 = 0 by decide, eMax_pc n hn]
  rfl
theorem seenG_t {n i : Nat} (h : leastE n i = i) : seenG n (i + 1) = seenG n i ++ (lists n n).map (onL i) := by
  have := seenS_t (n := n) (k := 0) (t := 0) (i := i) (by rw [kE00]; exact h)
  rw [kE00] at this
  exact this
theorem seenG_f {n i : Nat} (h : leastE n i ≠ i) : seenG n (i + 1) = seenG n i := seenS_f (n := n) (k := 0) (t := 0) (i := i) (by rw [kE00]; exact h)
theorem seenG_iff {n i : Nat} (hn : n ≤ 5) (hi : i < eMax n) : i ∈ seenG n i ↔ leastE n i ≠ i := by
  have := seen_iff (n := n) (k := 0) (t := 0) hn (by omega) (by omega) (by decide) (i := i) (by rw [kM0 n hn]; exact hi)
  rw [kE00] at this
  exact this
end Go.Proofs.Ytmbjhncgdmbpaaa
