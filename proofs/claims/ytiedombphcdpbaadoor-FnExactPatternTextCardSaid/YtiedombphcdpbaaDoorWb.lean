/-
  WHICH VERTICES OF PARTS ARE JOINED: the program's webs behind their interface, and the model's word.
-/
import Derived.Test.YtiedombphcdpbaaDoorPcs
import Derived.Test.YtiedombphcdpbaaDoorPair
import Derived.Test.YtiedombphcdpbaaDoorBw
namespace Go.Proofs.YtiedombphcdpbaaDoor
open Go.RowKit
set_option maxRecDepth 100000
attribute [local go_sem] Oper.semAt_some
/-- are different vertices of the parts a and b joined -/
def pjn (e lo a b : Nat) : Bool := if a = b then lo.testBit a else jn e a b
theorem shr_bit (lo a : Nat) (h : lo < 4294967296) : (bits .and .u32 ((lo : Int) / 2 ^ a) 1 == 1) = lo.testBit a := by
  have e : (lo : Int) / 2 ^ a = ((lo >>> a : Nat) : Int) := by rw [Nat.shiftRight_eq_div_pow]; simp
  rw [e]
  have h1 : lo >>> a ≤ lo := Nat.shiftRight_le lo a
  have := u32_and_nat (lo >>> a) 1 (by omega) (by omega)
  rw [show ((1 : Nat) : Int) = 1 from rfl] at this
  rw [this, Nat.testBit, Nat.and_comm 1]
  have hm : (lo >>> a) &&& 1 = 0 ∨ (lo >>> a) &&& 1 = 1 := by
    rw [Nat.and_one_is_mod]; omega
  rcases hm with h2 | h2 <;> rw [h2] <;> rfl
section
variable (w : World)
theorem sj_any (n e lo a b : Nat) (G : Nat) (u : Value) (k0 : PB w G n e lo u) (he : e < 4294967296) (hlo : lo < 4294967296) (ha : a ≤ 4) (hb : b ≤ 4) :
    Calls Tryd.prog 57 #[.pointer (some ⟨G, 0, none⟩), .int .i64 a, .int .i64 b] w fun r w' => r = .returned (.bool (pjn e lo a b)) ∧ Below w.heap.size w w' := by
  obtain ⟨_, x0, x1, x2, x3, _⟩ := id k0
  by_cases h : a = b
  · subst h
    unfold pjn
    rw [if_pos rfl, ← shr_bit lo a hlo]
    go_enter Tryd.func57, Tryd.ntmps57
    go_wp2
    go_ret
    exact ⟨rfl, by (repeat (first | exact Below.refl _ _ | assumption | refine bchain (by assumption) ?_ | refine balloc ?_ _ | apply Below.drew | apply below_drewN | (refine Below.alloc ?_ (by (try simp) <;> omega) _) | (refine Below.setCell ?_ (by (try simp) <;> omega) _)))⟩
  · have hC := Lib.hid (fun W => sjoined_any W n e a b he ha hb h)
    have hd : ((a : Int) == (b : Int)) = false := by simp; omega
    unfold pjn
    rw [if_neg h]
    obtain ⟨B, hB⟩ : ∃ B, jn e a b = B := ⟨_, rfl⟩
    rw [hB] at hC ⊢
    clear hB
    go_enter Tryd.func57, Tryd.ntmps57
    go_wp2_with (go_at_call 96; refine (hC.out _).mono ?_; rintro r1 w1 ⟨rfl, hb1⟩)
    go_ret
    exact ⟨rfl, by (repeat (first | exact Below.refl _ _ | assumption | refine bchain (by assumption) ?_ | refine balloc ?_ _ | apply Below.drew | apply below_drewN | (refine Below.alloc ?_ (by (try simp) <;> omega) _) | (refine Below.setCell ?_ (by (try simp) <;> omega) _)))⟩
end
end Go.Proofs.YtiedombphcdpbaaDoor
