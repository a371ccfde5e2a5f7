/-
  TWO LISTS OF ROWS HELD AGAINST EACH OTHER: the program's and the model's contracts.
-/
import Derived.Test.YtdibcchhamapjacMs
import Derived.Test.YtdibcchhamapjacFWh
import Derived.Deep.RegionHeld3
namespace Go.Proofs.Ytdibcchhamapjac
open Go.RowKit
set_option maxRecDepth 100000

theorem gAt_ext {xs ys : List (Int × Int)} (hl : xs.length = ys.length) (h : ∀ i, i < xs.length → gAt xs i = gAt ys i) : xs = ys := by
  apply List.ext_getElem hl
  intro i h1 h2
  have := h i h1
  simpa [gAt, List.getElem?_eq_getElem h1, List.getElem?_eq_getElem h2] using this
theorem rAt_ext {m n : List (List (Int × Int))} (hl : m.length = n.length) (h : ∀ i, i < m.length → rAt m i = rAt n i) : m = n := by
  apply List.ext_getElem hl
  intro i h1 h2
  have := h i h1
  simpa [rAt, List.getElem?_eq_getElem h1, List.getElem?_eq_getElem h2] using this
section
variable (w : World)
end
end Go.Proofs.Ytdibcchhamapjac
