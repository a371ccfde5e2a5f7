/-
  LISTS OF FLAGS IN A BLOCK OF THEIR OWN: what writes marks into such a list, and what asks for them.
-/
import Derived.Test.YtfnjgdocmfmfgabSv
import Derived.Test.YtfnjgdocmfmfgabKOwn
import Derived.Deep.DeepCutAuto
import Derived.Lib.Hide
namespace Go.Proofs.Ytfnjgdocmfmfgab
open Go.RowKit
set_option maxRecDepth 100000
section
variable (w : World)
end
end Go.Proofs.Ytfnjgdocmfmfgab
