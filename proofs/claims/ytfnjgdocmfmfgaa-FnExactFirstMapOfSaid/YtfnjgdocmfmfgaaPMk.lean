/-
  LISTS OF FRACTIONS IN A BLOCK OF THEIR OWN: what writes marks into such a list, and what asks for them.
-/
import Derived.Test.YtfnjgdocmfmfgaaSv
import Derived.Test.YtfnjgdocmfmfgaaKOwn
import Derived.Deep.DeepCutAuto
import Derived.Lib.Hide
namespace Go.Proofs.Ytfnjgdocmfmfgaa
open Go.RowKit
set_option maxRecDepth 100000
/-- the first t cells hold the numbers from k on -/
def mkF (k t : Nat) (f : Nat → Value) (c : Nat) : Value := if c < t then .int .i64 ((k : Int) + (c : Nat)) else f c
theorem mkF_zero (k : Nat) (f : Nat → Value) (c : Nat) : mkF k 0 f c = f c := by unfold mkF; rw [if_neg (by omega)]
theorem mkF_out {k t : Nat} {f : Nat → Value} {c : Nat} (h : t ≤ c) : mkF k t f c = f c := by unfold mkF; rw [if_neg (by omega)]
theorem mkF_old (k t : Nat) (f : Nat → Value) (c : Nat) (h : c ≠ t) : mkF k (t + 1) f c = mkF k t f c := by
  unfold mkF
  by_cases h1 : c < t
  · rw [if_pos h1, if_pos (by omega)]
  · rw [if_neg h1, if_neg (by omega)]
theorem mkF_lo {k t : Nat} {f : Nat → Value} : mkF k (t + 1) f t = .int .i64 ((k : Int) + (t : Nat)) := by unfold mkF; rw [if_pos (by omega)]
theorem mkF_lo' {k t N : Nat} {f : Nat → Value} (hN : t < N) : mkF k N f t = .int .i64 ((k : Int) + (t : Nat)) := by unfold mkF; rw [if_pos hN]
theorem CV.loF {w : World} {B N k t : Nat} {f : Nat → Value} (h : CV w B N (mkF k t f)) (ht : t < N) {x : Int} (hx : x = (k : Int) + (t : Nat)) : CV (w.setCell ⟨B, t, none⟩ (.int .i64 x)) B N (mkF k (t + 1) f) :=
  h.set ht (by rw [hx]; exact mkF_lo) (fun i hi => mkF_old k t f i hi)
section
variable (w : World)
theorem markFr_zero (a : Option Addr) (cap : Nat) (k : Nat) :
    Calls Try.prog 60 #[.slice a 0 cap, .int .i64 k] w fun r w' => r = .returned (.int .i64 (k : Nat)) ∧ Below w.heap.size w w' := by
  go_enter Try.func60, Try.ntmps60
  go_wp2
  go_loopw [1, 5] (fun q i wr => q = .int .i64 k ∧ i = .int .i64 0 ∧ Below w.heap.size w wr) (fun _ _ _ => 0)
  case atStart => exact ⟨rfl, rfl, by (repeat (first | exact Below.refl _ _ | assumption | refine bchain (by assumption) ?_ | refine balloc ?_ _ | apply Below.drew | apply below_drewN | (refine Below.alloc ?_ (by (try simp) <;> omega) _) | (refine Below.setCell ?_ (by (try simp) <;> omega) _)))⟩
  case round =>
    obtain ⟨rfl, rfl, hb⟩ := hrel
    go_wp2
    go_ret
    exact ⟨rfl, hb⟩
set_option maxHeartbeats 1000000 in
theorem markFr_some (B cap l k : Nat) (f : Nat → Value) (hl : l ≤ 1048576) (hk : k ≤ 1048576) (hc : CV w B (l * 2) f) (hf : ∀ c, w.frozen? ⟨B, c, none⟩ = false) :
    Calls Try.prog 60 #[.slice (some ⟨B, 0, none⟩) l cap, .int .i64 k] w fun r w' => r = .returned (.int .i64 ((k : Int) + l * 2)) ∧ Chg (fun b => b = B) w w' ∧ CV w' B (l * 2) (mkF k (l * 2) f) ∧ ∀ c, w'.frozen? ⟨B, c, none⟩ = false := by
  replace hc := Lib.hid hc
  replace hf := Lib.hid hf
  go_enter Try.func60, Try.ntmps60
  go_wp2
  go_loopw [1, 5] (fun q i wr => ∃ j : Nat, j ≤ l ∧ q = .int .i64 ((k : Int) + j * 2) ∧ i = .int .i64 j ∧ CV wr B (l * 2) (mkF k (j * 2) f) ∧ (∀ c, wr.frozen? ⟨B, c, none⟩ = false) ∧ Chg (fun b => b = B) w wr) (fun _ i _ => l - (intOf i).toNat)
  case atStart => exact ⟨0, by omega, by simp, rfl, hc.out.congr (fun i hi => by rw [Nat.zero_mul]; exact mkF_zero _ _ _), hf.out, Chg.of_below (Below.refl _ _)⟩
  case round =>
    obtain ⟨j, hj, rfl, rfl, hC, hF, hb⟩ := hrel
    by_cases hlt : j < l
    · have hn := ((hC.loF (x := (k : Int) + j * 2) (by omega) (by push_cast; omega)).loF (x := (k : Int) + j * 2 + 1) (by omega) (by push_cast; omega))
      rw [show j * 2 + 1 + 1 = (j + 1) * 2 by omega] at hn
      have c0 := hC (j * 2) (by omega)
      have f0 := hF (j * 2)
      have c1 := hC (j * 2 + 1) (by omega)
      have f1 := hF (j * 2 + 1)
      rw [mkF_out (by omega)] at c0 c1
      have hF2 : Hid (∀ c, ((wr.setCell ⟨B, j * 2, none⟩ (.int .i64 ((k : Int) + j * 2))).setCell ⟨B, j * 2 + 1, none⟩ (.int .i64 ((k : Int) + j * 2 + 1))).frozen? ⟨B, c, none⟩ = false) := fun c => by simp [hF c]
      have hB2 := Lib.hid ((hb.trans (Chg.setCell (Own := fun b => b = B) _ ⟨B, j * 2, none⟩ (.int .i64 ((k : Int) + j * 2)) rfl)).trans (Chg.setCell (Own := fun b => b = B) _ ⟨B, j * 2 + 1, none⟩ (.int .i64 ((k : Int) + j * 2 + 1)) rfl))
      replace hn := Lib.hid hn
      clear hC hF
      obtain ⟨z0, hz0⟩ : ∃ z, f (j * 2) = z := ⟨_, rfl⟩
      rw [hz0] at c0
      obtain ⟨z1, hz1⟩ : ∃ z, f (j * 2 + 1) = z := ⟨_, rfl⟩
      rw [hz1] at c1
      clear hz0 hz1
      have hkj : (k : Int) + j * 2 + 1 ≤ 8388608 := by omega
      go_wp2
      go_roundw
      case rel => exact ⟨j + 1, by omega, by go_num, by go_num, hn.out, hF2.out, hB2.out⟩
      case measure => simp [intOf]; omega
    · obtain rfl : j = l := by omega
      have hdd := decide_eq_false (show ¬ ((j : Int) < (j : Int)) by omega)
      replace hC := Lib.hid hC
      replace hF := Lib.hid hF
      go_wp2
      go_ret
      exact ⟨by go_num, hb, hC.out, hF.out⟩
theorem markFr_any (w0 : World) (v : Value) (l k : Nat) (f : Nat → Value) (hl : l ≤ 1048576) (hk : k ≤ 1048576) (h : OwnV w0 w v l 2 f) :
    Calls Try.prog 60 #[v, .int .i64 k] w fun r w' => r = .returned (.int .i64 ((k : Int) + l * 2)) ∧ Chg (fun b => 0 < l ∧ Value.ownBlock v = some b) w w' ∧ OwnV w0 w' v l 2 (mkF k (l * 2) f) := by
  obtain ⟨a, cap, rfl, h1, h2, h3⟩ := h
  rcases Nat.eq_zero_or_pos l with h0 | h0
  · subst h0
    refine (markFr_zero w a cap k).mono fun r w' ⟨hr, hb⟩ => ⟨by rw [hr]; simp, Chg.of_below hb, a, cap, rfl, h1, h2, fun c => absurd c (Nat.lt_irrefl _)⟩
  · obtain ⟨B, rfl, hB0, hB, hc, hf⟩ := h3 h0
    exact (markFr_some w B cap l k f hl hk hc hf).mono fun r w' ⟨hr, hb, hc', hf'⟩ => ⟨hr, hb.mono (fun b hb => ⟨h0, by subst hb; rfl⟩), _, cap, rfl, h1, h2, fun _ => ⟨B, rfl, hB0, Nat.lt_of_lt_of_le hB hb.size, hc', hf'⟩⟩
theorem heldFr_zero (a : Option Addr) (cap : Nat) (k : Nat) :
    Calls Try.prog 61 #[.slice a 0 cap, .int .i64 k] w fun r w' => r = .returned (.int .i64 (k : Nat)) ∧ Below w.heap.size w w' := by
  go_enter Try.func61, Try.ntmps61
  go_wp2
  go_loopw [1, 5] (fun q i wr => q = .int .i64 k ∧ i = .int .i64 0 ∧ Below w.heap.size w wr) (fun _ _ _ => 0)
  case atStart => exact ⟨rfl, rfl, by (repeat (first | exact Below.refl _ _ | assumption | refine bchain (by assumption) ?_ | refine balloc ?_ _ | apply Below.drew | apply below_drewN | (refine Below.alloc ?_ (by (try simp) <;> omega) _) | (refine Below.setCell ?_ (by (try simp) <;> omega) _)))⟩
  case round =>
    obtain ⟨rfl, rfl, hb⟩ := hrel
    go_wp2
    go_ret
    exact ⟨rfl, hb⟩
set_option maxHeartbeats 1000000 in
theorem heldFr_some (B cap l k : Nat) (f : Nat → Value) (hl : l ≤ 1048576) (hk : k ≤ 1048576) (hB : B < w.heap.size) (hc : CV w B (l * 2) (mkF k (l * 2) f)) :
    Calls Try.prog 61 #[.slice (some ⟨B, 0, none⟩) l cap, .int .i64 k] w fun r w' => r = .returned (.int .i64 ((k : Int) + l * 2)) ∧ Below w.heap.size w w' := by
  replace hc := Lib.hid hc
  go_enter Try.func61, Try.ntmps61
  go_wp2
  go_loopw [1, 5] (fun q i wr => ∃ j : Nat, j ≤ l ∧ q = .int .i64 ((k : Int) + j * 2) ∧ i = .int .i64 j ∧ Below w.heap.size w wr) (fun _ i _ => l - (intOf i).toNat)
  case atStart => exact ⟨0, by omega, by simp, rfl, Below.refl _ _⟩
  case round =>
    obtain ⟨j, hj, rfl, rfl, hb⟩ := hrel
    by_cases hlt : j < l
    · skip
      have c0 : wr.cell? ⟨B, j * 2, none⟩ = some (.int .i64 ((k : Int) + j * 2)) := by
        rw [hb.cell (p := ⟨B, j * 2, none⟩) hB, hc.out _ (by omega), mkF_lo' (by omega)]
        congr 2 <;> (push_cast; omega)
      have c1 : wr.cell? ⟨B, j * 2 + 1, none⟩ = some (.int .i64 ((k : Int) + j * 2 + 1)) := by
        rw [hb.cell (p := ⟨B, j * 2 + 1, none⟩) hB, hc.out _ (by omega), mkF_lo' (by omega)]
        congr 2 <;> (push_cast; omega)
      obtain ⟨m, hm⟩ : ∃ m : Int, (k : Int) + j * 2 = m := ⟨_, rfl⟩
      rw [hm] at c0 c1 ⊢
      have hm0 : 0 ≤ m := by omega
      have hm1 : m ≤ 8388600 := by omega
      replace hm := Lib.hid hm
      go_wp2
      go_roundw
      case rel => exact ⟨j + 1, by omega, by have := hm.out; go_num, by go_num, by (repeat (first | exact Below.refl _ _ | assumption | refine bchain (by assumption) ?_ | refine balloc ?_ _ | apply Below.drew | apply below_drewN | (refine Below.alloc ?_ (by (try simp) <;> omega) _) | (refine Below.setCell ?_ (by (try simp) <;> omega) _)))⟩
      case measure => simp [intOf]; omega
    · obtain rfl : j = l := by omega
      have hdd := decide_eq_false (show ¬ ((j : Int) < (j : Int)) by omega)
      go_wp2
      go_ret
      exact ⟨by go_num, hb⟩
theorem heldFr_any (w0 : World) (v : Value) (l k : Nat) (f : Nat → Value) (hl : l ≤ 1048576) (hk : k ≤ 1048576) (h : OwnV w0 w v l 2 (mkF k (l * 2) f)) :
    Calls Try.prog 61 #[v, .int .i64 k] w fun r w' => r = .returned (.int .i64 ((k : Int) + l * 2)) ∧ Below w.heap.size w w' := by
  obtain ⟨a, cap, rfl, h1, h2, h3⟩ := h
  rcases Nat.eq_zero_or_pos l with h0 | h0
  · subst h0
    exact (heldFr_zero w a cap k).mono fun r w' ⟨hr, hb⟩ => ⟨by rw [hr]; simp, hb⟩
  · obtain ⟨B, rfl, hB0, hB, hc, hf⟩ := h3 h0
    exact heldFr_some w B cap l k f hl hk hB hc
end
end Go.Proofs.Ytfnjgdocmfmfgaa
