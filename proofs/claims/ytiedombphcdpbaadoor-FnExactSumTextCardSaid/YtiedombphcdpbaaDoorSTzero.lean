/-
  ZeroSum: both contracts.
-/
import Derived.Test.YtiedombphcdpbaaDoorSTown
import Derived.Test.YtiedombphcdpbaaDoorPlain
namespace Go.Proofs.YtiedombphcdpbaaDoor
open Go.RowKit
set_option maxRecDepth 100000
/-- may a sum have a type with so many vertices, and a size -/
def frB (m s : Int) : Bool := decide (m ≤ 3 ∧ m ≤ s ∧ s ≤ 5)
section
variable (w : World)
theorem ihf_any (m f s : Int) :
    Calls Tryd.prog 75 #[.agg #[.int .i64 m, .int .u32 f], .int .i64 s] w fun r w' => r = .returned (.bool (frB m s)) ∧ Below w.heap.size w w' := by
  unfold frB
  by_cases h1 : m ≤ 3
  · by_cases h2 : m ≤ s
    · by_cases h3 : s ≤ 5
      · rw [decide_eq_true (show m ≤ 3 ∧ m ≤ s ∧ s ≤ 5 from ⟨h1, h2, h3⟩)]
        go_enter Tryd.func75, Tryd.ntmps75
        go_wp2
        go_ret
        exact ⟨rfl, by (repeat (first | exact Below.refl _ _ | assumption | refine bchain (by assumption) ?_ | refine balloc ?_ _ | apply Below.drew | apply below_drewN | (refine Below.alloc ?_ (by (try simp) <;> omega) _) | (refine Below.setCell ?_ (by (try simp) <;> omega) _)))⟩
      · rw [decide_eq_false (show ¬ (m ≤ 3 ∧ m ≤ s ∧ s ≤ 5) from fun c => h3 c.2.2)]
        go_enter Tryd.func75, Tryd.ntmps75
        go_wp2
        go_ret
        exact ⟨rfl, by (repeat (first | exact Below.refl _ _ | assumption | refine bchain (by assumption) ?_ | refine balloc ?_ _ | apply Below.drew | apply below_drewN | (refine Below.alloc ?_ (by (try simp) <;> omega) _) | (refine Below.setCell ?_ (by (try simp) <;> omega) _)))⟩
    · rw [decide_eq_false (show ¬ (m ≤ 3 ∧ m ≤ s ∧ s ≤ 5) from fun c => h2 c.2.1)]
      go_enter Tryd.func75, Tryd.ntmps75
      go_wp2
      go_ret
      exact ⟨rfl, by (repeat (first | exact Below.refl _ _ | assumption | refine bchain (by assumption) ?_ | refine balloc ?_ _ | apply Below.drew | apply below_drewN | (refine Below.alloc ?_ (by (try simp) <;> omega) _) | (refine Below.setCell ?_ (by (try simp) <;> omega) _)))⟩
  · rw [decide_eq_false (show ¬ (m ≤ 3 ∧ m ≤ s ∧ s ≤ 5) from fun c => h1 c.1)]
    go_enter Tryd.func75, Tryd.ntmps75
    go_wp2
    go_ret
    exact ⟨rfl, by (repeat (first | exact Below.refl _ _ | assumption | refine bchain (by assumption) ?_ | refine balloc ?_ _ | apply Below.drew | apply below_drewN | (refine Below.alloc ?_ (by (try simp) <;> omega) _) | (refine Below.setCell ?_ (by (try simp) <;> omega) _)))⟩
theorem sfr_any (m f s : Int) :
    Calls Tryd.prog 69 #[.agg #[.int .i64 m, .int .u32 f], .int .i64 s] w fun r w' => r = .returned (.bool (frB m s)) ∧ Below w.heap.size w w' := by
  unfold frB
  by_cases h1 : m ≤ 3
  · have hI := Lib.hid (fun W => show Calls Tryd.prog 85 #[.int .i64 s, .int .i64 m, .int .i64 5] W fun e w' => e = .returned (.bool (decide (m ≤ 3 ∧ m ≤ s ∧ s ≤ 5))) ∧ W = w' from by
      by_cases h2 : m ≤ s ∧ s ≤ 5
      · rw [decide_eq_true (show m ≤ 3 ∧ m ≤ s ∧ s ≤ 5 from ⟨h1, h2⟩)]; exact in_t W s m 5 h2.1 h2.2
      · rw [decide_eq_false (show ¬ (m ≤ 3 ∧ m ≤ s ∧ s ≤ 5) from fun c => h2 c.2)]; exact in_f W s m 5 (by omega))
    obtain ⟨b, hb⟩ : ∃ b, decide (m ≤ 3 ∧ m ≤ s ∧ s ≤ 5) = b := ⟨_, rfl⟩
    rw [hb] at hI ⊢
    clear hb
    go_enter Tryd.func69, Tryd.ntmps69
    go_wp2_with (go_at_call 85; refine (hI.out _).mono ?_; rintro r3 w3 ⟨rfl, rfl⟩)
    go_ret
    exact ⟨rfl, by (repeat (first | exact Below.refl _ _ | assumption | refine bchain (by assumption) ?_ | refine balloc ?_ _ | apply Below.drew | apply below_drewN | (refine Below.alloc ?_ (by (try simp) <;> omega) _) | (refine Below.setCell ?_ (by (try simp) <;> omega) _)))⟩
  · rw [decide_eq_false (show ¬ (m ≤ 3 ∧ m ≤ s ∧ s ≤ 5) from fun c => h1 c.1)]
    go_enter Tryd.func69, Tryd.ntmps69
    go_wp2
    go_ret
    exact ⟨rfl, by (repeat (first | exact Below.refl _ _ | assumption | refine bchain (by assumption) ?_ | refine balloc ?_ _ | apply Below.drew | apply below_drewN | (refine Below.alloc ?_ (by (try simp) <;> omega) _) | (refine Below.setCell ?_ (by (try simp) <;> omega) _)))⟩
end
end Go.Proofs.YtiedombphcdpbaaDoor
