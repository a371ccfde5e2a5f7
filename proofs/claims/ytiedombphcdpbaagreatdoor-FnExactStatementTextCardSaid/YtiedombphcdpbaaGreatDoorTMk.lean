/-
  LISTS OF TERMS IN A BLOCK OF THEIR OWN: what writes marks into such a list, and what asks for them.
-/
import Derived.Test.YtiedombphcdpbaaGreatDoorSv
import Derived.Test.YtiedombphcdpbaaGreatDoorKOwn
import Derived.Deep.DeepCutAuto
import Derived.Lib.Hide
namespace Go.Proofs.YtiedombphcdpbaaGreatDoor
open Go.RowKit
set_option maxRecDepth 100000

/-- the first t cells hold the numbers from k on -/
def mkT (k t : Nat) (f : Nat → Value) (c : Nat) : Value := if c < t then (if c % 5 = 2 then .int .u32 ((k : Int) + (c : Nat)) else .int .i64 ((k : Int) + (c : Nat))) else f c
theorem mkT_zero (k : Nat) (f : Nat → Value) (c : Nat) : mkT k 0 f c = f c := by unfold mkT; rw [if_neg (by omega)]
theorem mkT_out {k t : Nat} {f : Nat → Value} {c : Nat} (h : t ≤ c) : mkT k t f c = f c := by unfold mkT; rw [if_neg (by omega)]
theorem mkT_old (k t : Nat) (f : Nat → Value) (c : Nat) (h : c ≠ t) : mkT k (t + 1) f c = mkT k t f c := by
  unfold mkT
  by_cases h1 : c < t
  · rw [if_pos h1, if_pos (by omega)]
  · rw [if_neg h1, if_neg (by omega)]
theorem mkT_lo {k t : Nat} {f : Nat → Value} (h : t % 5 ≠ 2) : mkT k (t + 1) f t = .int .i64 ((k : Int) + (t : Nat)) := by unfold mkT; rw [if_pos (by omega), if_neg h]
theorem mkT_hi {k t : Nat} {f : Nat → Value} (h : t % 5 = 2) : mkT k (t + 1) f t = .int .u32 ((k : Int) + (t : Nat)) := by unfold mkT; rw [if_pos (by omega), if_pos h]
theorem mkT_lo' {k t N : Nat} {f : Nat → Value} (hN : t < N) (h : t % 5 ≠ 2) : mkT k N f t = .int .i64 ((k : Int) + (t : Nat)) := by unfold mkT; rw [if_pos hN, if_neg h]
theorem mkT_hi' {k t N : Nat} {f : Nat → Value} (hN : t < N) (h : t % 5 = 2) : mkT k N f t = .int .u32 ((k : Int) + (t : Nat)) := by unfold mkT; rw [if_pos hN, if_pos h]
theorem CV.loT {w : World} {B N k t : Nat} {f : Nat → Value} (h : CV w B N (mkT k t f)) (ht : t < N) (hs : t % 5 ≠ 2) {x : Int} (hx : x = (k : Int) + (t : Nat)) : CV (w.setCell ⟨B, t, none⟩ (.int .i64 x)) B N (mkT k (t + 1) f) :=
  h.set ht (by rw [hx]; exact mkT_lo hs) (fun i hi => mkT_old k t f i hi)
theorem CV.hiT {w : World} {B N k t : Nat} {f : Nat → Value} (h : CV w B N (mkT k t f)) (ht : t < N) (hs : t % 5 = 2) {x : Int} (hx : x = (k : Int) + (t : Nat)) : CV (w.setCell ⟨B, t, none⟩ (.int .u32 x)) B N (mkT k (t + 1) f) :=
  h.set ht (by rw [hx]; exact mkT_hi hs) (fun i hi => mkT_old k t f i hi)
section
variable (w : World)
end
end Go.Proofs.YtiedombphcdpbaaGreatDoor
