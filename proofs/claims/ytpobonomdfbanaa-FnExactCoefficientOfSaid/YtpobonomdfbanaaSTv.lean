/-
  Which sums of flags are valid: the program's word and the model's.
-/
import Derived.Test.YtpobonomdfbanaaSTvalidS
namespace Go.Proofs.Ytpobonomdfbanaa
open Go.RowKit
set_option maxRecDepth 100000
section
variable (w : World)
theorem ivs_any (X : SM) (u : Value) (hS : SlT w u X.ts) (hbd : BdS X) (B : Bool) (hB : B = true ↔ VSum X) :
    Calls Try.prog 26 #[.agg #[.int .i64 X.n, .int .u32 X.e, .int .i64 X.s, u]] w fun r w' => r = .returned (.bool B) ∧ Below w.heap.size w w' := by
  by_cases hv : VG X.n X.e
  · cases hf : frB X.n X.s with
    | false =>
      obtain rfl : B = false := by
        rw [Bool.eq_false_iff]; intro c; have := (hB.1 c).2.1; rw [hf] at this; cases this
      exact ivs_frame w X.n X.e X.s u hv hf
    | true =>
      by_cases hl : X.ts.length ≤ 64
      · exact ivs_ok w X u hS hbd.2.2 hl hv hf B (hB.trans ⟨fun c => c.2.2.2, fun c => ⟨hv, hf, hl, c⟩⟩)
      · obtain rfl : B = false := by
          rw [Bool.eq_false_iff]; intro c; exact hl (hB.1 c).2.2.1
        obtain ⟨a, cap, rfl, h1, h2, _⟩ := hS
        exact ivs_len w X.n X.e X.s a X.ts.length cap (by omega) (by omega) hv hf
  · obtain rfl : B = false := by
      rw [Bool.eq_false_iff]; intro c; exact hv (hB.1 c).1
    exact ivs_type w X.n X.e X.s u hbd.2.1 hbd.1 hv
theorem sv5_any (X : SM) (u : Value) (G : Nat) (c1 : SB w G X.n X.e X.s u) (hS : SlT w u X.ts) (hbd : BdS X) (B : Bool) (hB : B = true ↔ VSum X) :
    Calls Try.prog 67 #[.pointer (some ⟨G, 0, none⟩)] w fun r w' => r = .returned (.bool B) ∧ Below w.heap.size w w' := by
  obtain ⟨a, cap, hu, h1, h2, _⟩ := id hS
  by_cases hv : VG X.n X.e
  · cases hf : frB X.n X.s with
    | false =>
      obtain rfl : B = false := by
        rw [Bool.eq_false_iff]; intro c; have := (hB.1 c).2.1; rw [hf] at this; cases this
      exact sv5_frame w G X.n X.e X.s a _ cap (by rw [← hu]; exact c1) hv hf
    | true =>
      by_cases hl : X.ts.length ≤ 64
      · exact sv5_ok w G X.n X.e X.s X.ts u c1 hS hbd.2.2 hl hv hf B (hB.trans ⟨fun c => c.2.2.2, fun c => ⟨hv, hf, hl, c⟩⟩)
      · obtain rfl : B = false := by
          rw [Bool.eq_false_iff]; intro c; exact hl (hB.1 c).2.2.1
        exact sv5_len w G X.n X.e X.s a X.ts.length cap (by rw [← hu]; exact c1) (by omega) (by omega) hv hf
  · obtain rfl : B = false := by
      rw [Bool.eq_false_iff]; intro c; exact hv (hB.1 c).1
    exact sv5_type w G X.n X.e X.s a _ cap (by rw [← hu]; exact c1) hbd.2.1 hbd.1 hv
theorem svs_any (X : SM) (u : Value) (hS : SlT w u X.ts) (hbd : BdS X) (B : Bool) (hB : B = true ↔ VSum X) :
    Calls Try.prog 24 #[.agg #[.int .i64 X.n, .int .u32 X.e, .int .i64 X.s, u]] w fun r w' => r = .returned (.bool B) ∧ Below w.heap.size w w' := by
  have hE := Lib.hid (fun W G (hb : Below w.heap.size w W) c1 => sv5_any W X u G c1 (hS.below hb) hbd B hB)
  obtain ⟨a, cap, rfl, _⟩ := hS
  obtain ⟨l, hl⟩ : ∃ l, X.ts.length = l := ⟨_, rfl⟩
  rw [hl] at hE ⊢
  clear hl hbd hB
  obtain ⟨W0, hW0⟩ : ∃ W0, W0 = w.alloc (.cells #[.int .i64 X.n, .int .u32 X.e, .int .i64 X.s, .slice a l cap] 50) := ⟨_, rfl⟩
  have hb0 : Below w.heap.size w W0 := by rw [hW0]; (repeat (first | exact Below.refl _ _ | assumption | refine bchain (by assumption) ?_ | refine balloc ?_ _ | apply Below.drew | apply below_drewN | (refine Below.alloc ?_ (by (try simp) <;> omega) _) | (refine Below.setCell ?_ (by (try simp) <;> omega) _)))
  have k0 : SB W0 w.heap.size X.n X.e X.s (.slice a l cap) := by rw [hW0]; exact SB.made _ _ _ _ _ _
  replace hW0 := Lib.hid hW0
  go_enter Try.func24, Try.ntmps24
  go_wp2_with fail
  rw [← hW0.out]
  refine (hE.out _ _ hb0 k0).mono ?_
  rintro r1 w1 ⟨rfl, hb1⟩
  go_wp2
  go_ret
  exact ⟨rfl, bchain hb1 hb0⟩
end
end Go.Proofs.Ytpobonomdfbanaa
