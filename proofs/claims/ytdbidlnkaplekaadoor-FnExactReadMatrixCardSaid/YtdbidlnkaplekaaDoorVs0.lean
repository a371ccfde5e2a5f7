/-
  What a round of an iterator says: a Bool.
-/
import Derived.Test.YtdbidlnkaplekaaDoorSees
namespace Go.Proofs.YtdbidlnkaplekaaDoor
open Go.RowKit
theorem yield_bool' {e : Ending} {P Q : Prop} (h : (e = .returned (.bool true) ∧ P) ∨ (e = .returned (.bool false) ∧ Q)) : ∃ b, e = .returned (.bool b) ∧ Hid ((b = true → P) ∧ (b = false → Q)) := by
  rcases h with ⟨rfl, h⟩ | ⟨rfl, h⟩
  · exact ⟨true, rfl, fun _ => h, fun c => by cases c⟩
  · exact ⟨false, rfl, (fun c => by cases c), fun _ => h⟩
end Go.Proofs.YtdbidlnkaplekaaDoor
