/-
  LISTS OF GRAPHS IN A BLOCK OF THEIR OWN: what writes marks into such a list, and what asks for them.
-/
import Derived.Test.YtiedombphcdpbaaGreatDoorSv
import Derived.Test.YtiedombphcdpbaaGreatDoorKOwn
import Derived.Deep.DeepCutAuto
import Derived.Lib.Hide
namespace Go.Proofs.YtiedombphcdpbaaGreatDoor
open Go.RowKit
set_option maxRecDepth 100000
section
variable (w : World)
end
end Go.Proofs.YtiedombphcdpbaaGreatDoor
