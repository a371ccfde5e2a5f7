/-
  'limited': what a function that builds something returns, or, if it has thrown that a fraction is too large, ErrLimit.
-/
import Derived.Test.YtdibcchhamapjacLowest
import Derived.Defers
import Derived.Recover
import Derived.Laws.Pointers
namespace Go.Proofs.Ytdibcchhamapjac
open Go.RowKit
set_option maxRecDepth 100000

end Go.Proofs.Ytdibcchhamapjac
