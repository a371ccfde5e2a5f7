/-
  SameMatrix: the program's and the model's contracts.
-/
import Derived.Test.YtdibcchhamapjacFSame
namespace Go.Proofs.Ytdibcchhamapjac
open Go.RowKit
set_option maxRecDepth 100000

/-- the rows of a list, where they lie -/
def Rows (w : World) (a : Option Addr) (m : List (List (Int × Int))) : Prop := ∀ i, i < m.length → ∃ b off, a = some ⟨b, off, none⟩ ∧ b < w.heap.size ∧ Row w b off (rAt m i) i
theorem SlM.rows {w : World} {v : Value} {m : List (List (Int × Int))} (h : SlM w v m) : ∃ a cap, v = .slice a m.length cap ∧ Rows w a m := by
  obtain ⟨a, cap, e, _, _, h3⟩ := h
  refine ⟨a, cap, e, fun i hi => ?_⟩
  obtain ⟨b, off, e2, hlt, hc⟩ := h3 (by intro c; rw [c] at hi; simp at hi)
  exact ⟨b, off, e2, hlt, hc i hi⟩
section
variable (w : World)
end
end Go.Proofs.Ytdibcchhamapjac
