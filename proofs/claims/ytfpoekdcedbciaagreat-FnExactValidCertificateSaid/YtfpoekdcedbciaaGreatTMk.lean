/-
  LISTS OF TERMS IN A BLOCK OF THEIR OWN: what writes marks into such a list, and what asks for them.
-/
import Derived.Test.YtfpoekdcedbciaaGreatSv
import Derived.Test.YtfpoekdcedbciaaGreatKOwn
import Derived.Deep.DeepCutAuto
import Derived.Lib.Hide
namespace Go.Proofs.YtfpoekdcedbciaaGreat
open Go.RowKit
set_option maxRecDepth 100000

/-- the first t cells hold the numbers from k on -/
def mkT (k t : Nat) (f : Nat → Value) (c : Nat) : Value := if c < t then (if c % 5 = 2 then .int .u32 ((k : Int) + (c : Nat)) else .int .i64 ((k : Int) + (c : Nat))) else f c
theorem mkT_zero (k : Nat) (f : Nat → Value) (c : Nat) : mkT k 0 f c = f c := by unfold mkT; rw [if_neg (by omega)]
theorem mkT_out {k t : Nat} {f : Nat → Value} {c : Nat} (h : t ≤ c) : mkT k t f c = f c := by unfold mkT; rw [if_neg (by omega)]
theorem mkT_old (k t : Nat) (f : Nat → Value) (c : Nat) (h : c ≠ t) : mkT k (t + 1) f c = mkT k t f c := by
  unfold mkT
  by_cases h1 : c < t
  · rw [if_pos h1, if_pos (by omega)]
  · rw [if_neg h1, if_neg (by omega)]
theorem mkT_lo {k t : Nat} {f : Nat → Value} (h : t % 5 ≠ 2) : mkT k (t + 1) f t = .int .i64 ((k : Int) + (t : Nat)) := by unfold mkT; rw [if_pos (by omega), if_neg h]
theorem mkT_hi {k t : Nat} {f : Nat → Value} (h : t % 5 = 2) : mkT k (t + 1) f t = .int .u32 ((k : Int) + (t : Nat)) := by unfold mkT; rw [if_pos (by omega), if_pos h]
theorem mkT_lo' {k t N : Nat} {f : Nat → Value} (hN : t < N) (h : t % 5 ≠ 2) : mkT k N f t = .int .i64 ((k : Int) + (t : Nat)) := by unfold mkT; rw [if_pos hN, if_neg h]
theorem mkT_hi' {k t N : Nat} {f : Nat → Value} (hN : t < N) (h : t % 5 = 2) : mkT k N f t = .int .u32 ((k : Int) + (t : Nat)) := by unfold mkT; rw [if_pos hN, if_pos h]
theorem CV.loT {w : World} {B N k t : Nat} {f : Nat → Value} (h : CV w B N (mkT k t f)) (ht : t < N) (hs : t % 5 ≠ 2) {x : Int} (hx : x = (k : Int) + (t : Nat)) : CV (w.setCell ⟨B, t, none⟩ (.int .i64 x)) B N (mkT k (t + 1) f) :=
  h.set ht (by rw [hx]; exact mkT_lo hs) (fun i hi => mkT_old k t f i hi)
theorem CV.hiT {w : World} {B N k t : Nat} {f : Nat → Value} (h : CV w B N (mkT k t f)) (ht : t < N) (hs : t % 5 = 2) {x : Int} (hx : x = (k : Int) + (t : Nat)) : CV (w.setCell ⟨B, t, none⟩ (.int .u32 x)) B N (mkT k (t + 1) f) :=
  h.set ht (by rw [hx]; exact mkT_hi hs) (fun i hi => mkT_old k t f i hi)
section
variable (w : World)
theorem markT_zero (a : Option Addr) (cap : Nat) (k : Nat) :
    Calls Tryz.prog 62 #[.slice a 0 cap, .int .i64 k] w fun r w' => r = .returned (.int .i64 (k : Nat)) ∧ Below w.heap.size w w' := by
  go_enter Tryz.func62, Tryz.ntmps62
  go_wp2
  go_loopw [1, 5] (fun q i wr => q = .int .i64 k ∧ i = .int .i64 0 ∧ Below w.heap.size w wr) (fun _ _ _ => 0)
  case atStart => exact ⟨rfl, rfl, by (repeat (first | exact Below.refl _ _ | assumption | refine bchain (by assumption) ?_ | refine balloc ?_ _ | apply Below.drew | apply below_drewN | (refine Below.alloc ?_ (by (try simp) <;> omega) _) | (refine Below.setCell ?_ (by (try simp) <;> omega) _)))⟩
  case round =>
    obtain ⟨rfl, rfl, hb⟩ := hrel
    go_wp2
    go_ret
    exact ⟨rfl, hb⟩
set_option maxHeartbeats 1000000 in
theorem markT_some (B cap l k : Nat) (f : Nat → Value) (hl : l ≤ 1048576) (hk : k ≤ 1048576) (hc : CV w B (l * 5) f) (hf : ∀ c, w.frozen? ⟨B, c, none⟩ = false) :
    Calls Tryz.prog 62 #[.slice (some ⟨B, 0, none⟩) l cap, .int .i64 k] w fun r w' => r = .returned (.int .i64 ((k : Int) + l * 5)) ∧ Chg (fun b => b = B) w w' ∧ CV w' B (l * 5) (mkT k (l * 5) f) ∧ ∀ c, w'.frozen? ⟨B, c, none⟩ = false := by
  replace hc := Lib.hid hc
  replace hf := Lib.hid hf
  go_enter Tryz.func62, Tryz.ntmps62
  go_wp2
  go_loopw [1, 5] (fun q i wr => ∃ j : Nat, j ≤ l ∧ q = .int .i64 ((k : Int) + j * 5) ∧ i = .int .i64 j ∧ CV wr B (l * 5) (mkT k (j * 5) f) ∧ (∀ c, wr.frozen? ⟨B, c, none⟩ = false) ∧ Chg (fun b => b = B) w wr) (fun _ i _ => l - (intOf i).toNat)
  case atStart => exact ⟨0, by omega, by simp, rfl, hc.out.congr (fun i hi => by rw [Nat.zero_mul]; exact mkT_zero _ _ _), hf.out, Chg.of_below (Below.refl _ _)⟩
  case round =>
    obtain ⟨j, hj, rfl, rfl, hC, hF, hb⟩ := hrel
    by_cases hlt : j < l
    · have hn := (((((hC.loT (x := (k : Int) + j * 5) (by omega) (by omega) (by push_cast; omega)).loT (x := (k : Int) + j * 5 + 1) (by omega) (by omega) (by push_cast; omega)).hiT (x := (k : Int) + j * 5 + 2) (by omega) (by omega) (by push_cast; omega)).loT (x := (k : Int) + j * 5 + 3) (by omega) (by omega) (by push_cast; omega)).loT (x := (k : Int) + j * 5 + 4) (by omega) (by omega) (by push_cast; omega))
      rw [show j * 5 + 4 + 1 = (j + 1) * 5 by omega] at hn
      have c0 := hC (j * 5) (by omega)
      have f0 := hF (j * 5)
      have c1 := hC (j * 5 + 1) (by omega)
      have f1 := hF (j * 5 + 1)
      have c2 := hC (j * 5 + 2) (by omega)
      have f2 := hF (j * 5 + 2)
      have c3 := hC (j * 5 + 3) (by omega)
      have f3 := hF (j * 5 + 3)
      have c4 := hC (j * 5 + 4) (by omega)
      have f4 := hF (j * 5 + 4)
      rw [mkT_out (by omega)] at c0 c1 c2 c3 c4
      have hF2 : Hid (∀ c, (((((wr.setCell ⟨B, j * 5, none⟩ (.int .i64 ((k : Int) + j * 5))).setCell ⟨B, j * 5 + 1, none⟩ (.int .i64 ((k : Int) + j * 5 + 1))).setCell ⟨B, j * 5 + 2, none⟩ (.int .u32 ((k : Int) + j * 5 + 2))).setCell ⟨B, j * 5 + 3, none⟩ (.int .i64 ((k : Int) + j * 5 + 3))).setCell ⟨B, j * 5 + 4, none⟩ (.int .i64 ((k : Int) + j * 5 + 4))).frozen? ⟨B, c, none⟩ = false) := fun c => by simp [hF c]
      have hB2 := Lib.hid (((((hb.trans (Chg.setCell (Own := fun b => b = B) _ ⟨B, j * 5, none⟩ (.int .i64 ((k : Int) + j * 5)) rfl)).trans (Chg.setCell (Own := fun b => b = B) _ ⟨B, j * 5 + 1, none⟩ (.int .i64 ((k : Int) + j * 5 + 1)) rfl)).trans (Chg.setCell (Own := fun b => b = B) _ ⟨B, j * 5 + 2, none⟩ (.int .u32 ((k : Int) + j * 5 + 2)) rfl)).trans (Chg.setCell (Own := fun b => b = B) _ ⟨B, j * 5 + 3, none⟩ (.int .i64 ((k : Int) + j * 5 + 3)) rfl)).trans (Chg.setCell (Own := fun b => b = B) _ ⟨B, j * 5 + 4, none⟩ (.int .i64 ((k : Int) + j * 5 + 4)) rfl))
      replace hn := Lib.hid hn
      clear hC hF
      obtain ⟨z0, hz0⟩ : ∃ z, f (j * 5) = z := ⟨_, rfl⟩
      rw [hz0] at c0
      obtain ⟨z1, hz1⟩ : ∃ z, f (j * 5 + 1) = z := ⟨_, rfl⟩
      rw [hz1] at c1
      obtain ⟨z2, hz2⟩ : ∃ z, f (j * 5 + 2) = z := ⟨_, rfl⟩
      rw [hz2] at c2
      obtain ⟨z3, hz3⟩ : ∃ z, f (j * 5 + 3) = z := ⟨_, rfl⟩
      rw [hz3] at c3
      obtain ⟨z4, hz4⟩ : ∃ z, f (j * 5 + 4) = z := ⟨_, rfl⟩
      rw [hz4] at c4
      clear hz0 hz1 hz2 hz3 hz4
      have hkj : (k : Int) + j * 5 + 4 ≤ 8388608 := by omega
      go_wp2
      go_roundw
      case rel => exact ⟨j + 1, by omega, by go_num, by go_num, hn.out, hF2.out, hB2.out⟩
      case measure => simp [intOf]; omega
    · obtain rfl : j = l := by omega
      have hdd := decide_eq_false (show ¬ ((j : Int) < (j : Int)) by omega)
      replace hC := Lib.hid hC
      replace hF := Lib.hid hF
      go_wp2
      go_ret
      exact ⟨by go_num, hb, hC.out, hF.out⟩
theorem markT_any (w0 : World) (v : Value) (l k : Nat) (f : Nat → Value) (hl : l ≤ 1048576) (hk : k ≤ 1048576) (h : OwnV w0 w v l 5 f) :
    Calls Tryz.prog 62 #[v, .int .i64 k] w fun r w' => r = .returned (.int .i64 ((k : Int) + l * 5)) ∧ Chg (fun b => 0 < l ∧ Value.ownBlock v = some b) w w' ∧ OwnV w0 w' v l 5 (mkT k (l * 5) f) := by
  obtain ⟨a, cap, rfl, h1, h2, h3⟩ := h
  rcases Nat.eq_zero_or_pos l with h0 | h0
  · subst h0
    refine (markT_zero w a cap k).mono fun r w' ⟨hr, hb⟩ => ⟨by rw [hr]; simp, Chg.of_below hb, a, cap, rfl, h1, h2, fun c => absurd c (Nat.lt_irrefl _)⟩
  · obtain ⟨B, rfl, hB0, hB, hc, hf⟩ := h3 h0
    exact (markT_some w B cap l k f hl hk hc hf).mono fun r w' ⟨hr, hb, hc', hf'⟩ => ⟨hr, hb.mono (fun b hb => ⟨h0, by subst hb; rfl⟩), _, cap, rfl, h1, h2, fun _ => ⟨B, rfl, hB0, Nat.lt_of_lt_of_le hB hb.size, hc', hf'⟩⟩
end
end Go.Proofs.YtfpoekdcedbciaaGreat
