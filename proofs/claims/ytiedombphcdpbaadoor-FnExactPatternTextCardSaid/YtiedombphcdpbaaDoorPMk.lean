/-
  LISTS OF FRACTIONS IN A BLOCK OF THEIR OWN: what writes marks into such a list, and what asks for them.
-/
import Derived.Test.YtiedombphcdpbaaDoorSv
import Derived.Test.YtiedombphcdpbaaDoorKOwn
import Derived.Deep.DeepCutAuto
import Derived.Lib.Hide
namespace Go.Proofs.YtiedombphcdpbaaDoor
open Go.RowKit
set_option maxRecDepth 100000
/-- the first t cells hold the numbers from k on -/
def mkF (k t : Nat) (f : Nat → Value) (c : Nat) : Value := if c < t then .int .i64 ((k : Int) + (c : Nat)) else f c
theorem mkF_zero (k : Nat) (f : Nat → Value) (c : Nat) : mkF k 0 f c = f c := by unfold mkF; rw [if_neg (by omega)]
theorem mkF_out {k t : Nat} {f : Nat → Value} {c : Nat} (h : t ≤ c) : mkF k t f c = f c := by unfold mkF; rw [if_neg (by omega)]
theorem mkF_old (k t : Nat) (f : Nat → Value) (c : Nat) (h : c ≠ t) : mkF k (t + 1) f c = mkF k t f c := by
  unfold mkF
  by_cases h1 : c < t
  · rw [if_pos h1, if_pos (by omega)]
  · rw [if_neg h1, if_neg (by omega)]
theorem mkF_lo {k t : Nat} {f : Nat → Value} : mkF k (t + 1) f t = .int .i64 ((k : Int) + (t : Nat)) := by unfold mkF; rw [if_pos (by omega)]
theorem mkF_lo' {k t N : Nat} {f : Nat → Value} (hN : t < N) : mkF k N f t = .int .i64 ((k : Int) + (t : Nat)) := by unfold mkF; rw [if_pos hN]
theorem CV.loF {w : World} {B N k t : Nat} {f : Nat → Value} (h : CV w B N (mkF k t f)) (ht : t < N) {x : Int} (hx : x = (k : Int) + (t : Nat)) : CV (w.setCell ⟨B, t, none⟩ (.int .i64 x)) B N (mkF k (t + 1) f) :=
  h.set ht (by rw [hx]; exact mkF_lo) (fun i hi => mkF_old k t f i hi)
section
variable (w : World)
end
end Go.Proofs.YtiedombphcdpbaaDoor
