/-
  Which sums of flags are valid: the program's word and the model's.
-/
import Derived.Test.YtiedombphcdpbaaDoorSTvalidS
namespace Go.Proofs.YtiedombphcdpbaaDoor
open Go.RowKit
set_option maxRecDepth 100000
section
variable (w : World)
theorem ivs_any (X : SM) (u : Value) (hS : SlT w u X.ts) (hbd : BdS X) (B : Bool) (hB : B = true ↔ VSum X) :
    Calls Tryd.prog 41 #[.agg #[.int .i64 X.n, .int .u32 X.e, .int .i64 X.s, u]] w fun r w' => r = .returned (.bool B) ∧ Below w.heap.size w w' := by
  by_cases hv : VG X.n X.e
  · cases hf : frB X.n X.s with
    | false =>
      obtain rfl : B = false := by
        rw [Bool.eq_false_iff]; intro c; have := (hB.1 c).2.1; rw [hf] at this; cases this
      exact ivs_frame w X.n X.e X.s u hv hf
    | true =>
      by_cases hl : X.ts.length ≤ 64
      · exact ivs_ok w X u hS hbd.2.2 hl hv hf B (hB.trans ⟨fun c => c.2.2.2, fun c => ⟨hv, hf, hl, c⟩⟩)
      · obtain rfl : B = false := by
          rw [Bool.eq_false_iff]; intro c; exact hl (hB.1 c).2.2.1
        obtain ⟨a, cap, rfl, h1, h2, _⟩ := hS
        exact ivs_len w X.n X.e X.s a X.ts.length cap (by omega) (by omega) hv hf
  · obtain rfl : B = false := by
      rw [Bool.eq_false_iff]; intro c; exact hv (hB.1 c).1
    exact ivs_type w X.n X.e X.s u hbd.2.1 hbd.1 hv
theorem sv5_any (X : SM) (u : Value) (G : Nat) (c1 : SB w G X.n X.e X.s u) (hS : SlT w u X.ts) (hbd : BdS X) (B : Bool) (hB : B = true ↔ VSum X) :
    Calls Tryd.prog 37 #[.pointer (some ⟨G, 0, none⟩)] w fun r w' => r = .returned (.bool B) ∧ Below w.heap.size w w' := by
  obtain ⟨a, cap, hu, h1, h2, _⟩ := id hS
  by_cases hv : VG X.n X.e
  · cases hf : frB X.n X.s with
    | false =>
      obtain rfl : B = false := by
        rw [Bool.eq_false_iff]; intro c; have := (hB.1 c).2.1; rw [hf] at this; cases this
      exact sv5_frame w G X.n X.e X.s a _ cap (by rw [← hu]; exact c1) hv hf
    | true =>
      by_cases hl : X.ts.length ≤ 64
      · exact sv5_ok w G X.n X.e X.s X.ts u c1 hS hbd.2.2 hl hv hf B (hB.trans ⟨fun c => c.2.2.2, fun c => ⟨hv, hf, hl, c⟩⟩)
      · obtain rfl : B = false := by
          rw [Bool.eq_false_iff]; intro c; exact hl (hB.1 c).2.2.1
        exact sv5_len w G X.n X.e X.s a X.ts.length cap (by rw [← hu]; exact c1) (by omega) (by omega) hv hf
  · obtain rfl : B = false := by
      rw [Bool.eq_false_iff]; intro c; exact hv (hB.1 c).1
    exact sv5_type w G X.n X.e X.s a _ cap (by rw [← hu]; exact c1) hbd.2.1 hbd.1 hv
end
end Go.Proofs.YtiedombphcdpbaaDoor
