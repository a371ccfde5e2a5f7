/-
  WHAT COMES IN, OPENED BY SHAPE: an int64, a bool, a laws.Fraction by value; and the closed facts of this seat's program that every row owes.
-/
import Derived.Test.YtdbidlnkaplekaaDoorRows
import Derived.Test.YtdbidlnkaplekaaDoorFrame
import Derived.Lib.SmallJoins
import Derived.OpenShut
namespace Go.Proofs.YtdbidlnkaplekaaDoor
open Go.ChangeShapes Go.WideShapes Go.ChangeAt Go.RowKit Go.Joins
set_option maxRecDepth 100000

theorem own : ownKnob Tryd.prog.godebug = none := by kernel_rfl
theorem laid_out : laidOutB Tryd.prog = true := by kernel_rfl
section
variable {H : Type} {enc : TypeId × Value → H}
theorem open_i64 {W : World} {base : Nat} {v : Value} {d : DataW H} {p : List MemPlace} (hv : Value.okWide Tryd.prog W .any base 2 v) (h : DataW.Trod enc Tryd.prog W 0 (fun _ => true) true 2 v d p) :
    ∃ n : Int, v = .int .i64 n ∧ (Lit.int .i64 n).wf = true := by
  obtain ⟨x, rfl, rfl, rfl, wx⟩ := open_int Tryd.underlying2 hv h
  exact ⟨x, rfl, wx⟩

end
end Go.Proofs.YtdbidlnkaplekaaDoor
