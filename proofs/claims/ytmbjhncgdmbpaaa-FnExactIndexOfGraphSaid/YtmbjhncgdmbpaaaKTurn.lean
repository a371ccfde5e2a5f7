/-
  A FLAG WITH ITS UNLABELLED VERTICES IN EVERY ORDER: the program's iterator.
-/
import Derived.Test.YtmbjhncgdmbpaaaKSees
import Derived.Test.YtmbjhncgdmbpaaaIter
import Derived.Test.YtmbjhncgdmbpaaaLeast
import Derived.Test.YtmbjhncgdmbpaaaKVal
namespace Go.Proofs.Ytmbjhncgdmbpaaa
open Go.RowKit Go.Shelf
set_option maxRecDepth 100000
attribute [local go_sem] Oper.semAt_some

/-- the orders of n vertices that keep the first k -/
def turns (n k : Nat) : List (List Nat) := ext n (n - k) (List.range k)
theorem turns_all : ∀ n, n ≤ 5 → ∀ k, k ≤ 3 → k ≤ n → (turns n k).all (okList n n) = true := by decide +kernel
theorem turns_ok {n k : Nat} (hn : n ≤ 5) (hk : k ≤ 3) (hkn : k ≤ n) {x : List Nat} (hx : x ∈ turns n k) : okList n n x = true := List.all_eq_true.1 (turns_all n hn k hk hkn) x hx
section
variable (w : World)
end
end Go.Proofs.Ytmbjhncgdmbpaaa
