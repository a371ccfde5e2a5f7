/-
  AN uint32 THAT COMES IN.
-/
import Derived.Test.YtfnjgdocmfmfgaaOpen
namespace Go.Proofs.Ytfnjgdocmfmfgaa
open Go.ChangeShapes Go.WideShapes Go.ChangeAt Go.RowKit Go.Deep
set_option maxRecDepth 100000
theorem open_u32 {H : Type} {enc : TypeId × Value → H} {W : World} {base : Nat} {v : Value} {d : DataW H} {p : List MemPlace} (hv : Value.okWide Try.prog W .any base 22 v) (h : DataW.Trod enc Try.prog W 0 (fun _ => true) true 22 v d p) :
    ∃ n : Int, v = .int .u32 n ∧ (Lit.int .u32 n).wf = true := by
  obtain ⟨x, rfl, rfl, rfl, wx⟩ := open_int Try.underlying22 hv h
  exact ⟨x, rfl, wx⟩
end Go.Proofs.Ytfnjgdocmfmfgaa
