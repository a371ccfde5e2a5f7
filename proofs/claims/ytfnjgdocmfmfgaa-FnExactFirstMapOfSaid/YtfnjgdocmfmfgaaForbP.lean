/-
  THE CODE OF A LIST OF FORBIDDEN PARTS: both sides agree.
-/
import Derived.Test.YtfnjgdocmfmfgaaFreeP
namespace Go.Proofs.Ytfnjgdocmfmfgaa
open Go.RowKit
set_option maxRecDepth 100000
theorem forb_both (gs : List (Int × Int)) (hm : gs.length ≤ 1048576) (hbd : Bd gs) : ∃ c : Int, (c = 0 → AllV gs ∧ gs.length ≤ 6) ∧ 0 ≤ c ∧ c ≤ 8 ∧
    (∀ W a cap, Lies W a gs → Calls Try.prog 76 #[.slice a gs.length cap] W fun r w' => r = .returned (.int .i64 c) ∧ Below W.heap.size W w') ∧
    (∀ W a cap, Lies W a gs → Calls Try.prog 74 #[.slice a gs.length cap] W fun r w' => r = .returned (.int .i64 c) ∧ Below W.heap.size W w') := by
  by_cases hV : AllV gs
  · by_cases h6 : gs.length ≤ 6
    · exact ⟨0, fun _ => ⟨hV, h6⟩, by omega, by omega, fun W a cap hc => cf_ok W a cap gs hm hc hbd hV h6, fun W a cap hc => sf_ok W a cap gs hm hc hbd hV h6⟩
    · exact ⟨3, fun c => by omega, by omega, by omega, fun W a cap hc => cf_long W a cap gs hm hc hbd hV (by omega), fun W a cap hc => sf_long W a cap gs hm hc hbd hV (by omega)⟩
  · obtain ⟨m, h1, h2, h3⟩ := not_allV hV
    exact ⟨1, fun c => by omega, by omega, by omega, fun W a cap hc => cf_f W a cap gs hm hc hbd m h1 h2 h3, fun W a cap hc => sf_f W a cap gs hm hc hbd m h1 h2 h3⟩
end Go.Proofs.Ytfnjgdocmfmfgaa
