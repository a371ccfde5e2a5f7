/-
  A FLAG WITH ITS UNLABELLED VERTICES IN EVERY ORDER: the walk of the program's iterator around its recursion.
-/
import Derived.Test.YtmbjhncgdmbpaaaKTurn
import Derived.Deep.RegionHeld3
namespace Go.Proofs.Ytmbjhncgdmbpaaa
open Go.RowKit Go.Shelf
set_option maxRecDepth 100000

end Go.Proofs.Ytmbjhncgdmbpaaa
