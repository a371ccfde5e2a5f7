/-
  THE TEXT OF A FRACTION, as bytes.
-/
import Derived.Test.YtiedombphcdpbaaDoorTf
namespace Go.Proofs.YtiedombphcdpbaaDoor
open Go.RowKit
set_option maxRecDepth 100000
attribute [local go_sem] Oper.semAt_some
/-- the bytes of a fraction's text -/
def frL (p : Int) (q : Nat) : List UInt8 := if q = 1 then Lib.itoa p else Lib.itoa p ++ 47 :: Lib.decDigits q
theorem fText_frL (p : Int) (q : Nat) : fText p q = tx (frL p q) := by
  unfold fText frL
  split
  · rfl
  · show tx _ ++ (tx [47] ++ tx _) = _
    rw [tx_app, tx_app]; rfl
theorem frL_len {p : Int} {q : Nat} (h : Fr.VF p q) : (frL p q).length ≤ 42 := by
  obtain ⟨h1, h2, h3, h4, _⟩ := h
  have a := itoa_len (n := p) (by omega) (by omega)
  have b := dd_len (n := q) (by omega)
  unfold frL
  split
  · omega
  · simp only [List.length_append, List.length_cons]; omega
end Go.Proofs.YtiedombphcdpbaaDoor
