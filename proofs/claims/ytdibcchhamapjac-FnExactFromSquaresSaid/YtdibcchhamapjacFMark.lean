/-
  ROWS OF FRACTIONS THAT LIE IN ONE BLOCK: what writes marks into a row, and what asks for them.
-/
import Derived.Test.YtdibcchhamapjacMs
import Derived.Deep.DeepCutAuto
namespace Go.Proofs.Ytdibcchhamapjac
open Go.RowKit
set_option maxRecDepth 100000

/-- N cells of a block, by a function -/
def CF (w : World) (B N : Nat) (f : Nat → Int) : Prop := ∀ i, i < N → w.cell? ⟨B, i, none⟩ = some (.int .i64 (f i))
theorem CF.set {w : World} {B l : Nat} {f g : Nat → Int} {k : Nat} {x : Int} (h : CF w B l f) (hk : k < l) (hx : g k = x) (ho : ∀ i, i ≠ k → g i = f i) : CF (w.setCell ⟨B, k, none⟩ (.int .i64 x)) B l g := by
  intro i hi
  by_cases e : i = k
  · subst e
    rw [World.cell?_setCell_same _ _ _ (h i hi), hx]
  · rw [World.cell?_setCell_other _ _ _ _ (by simp), h i hi, ho i e]
theorem CF.below {w w' : World} {B l : Nat} {f : Nat → Int} (h : CF w B l f) (hb : Below w.heap.size w w') (hB : B < w.heap.size) : CF w' B l f := fun i hi => (hb.cell (p := ⟨B, i, none⟩) hB).trans (h i hi)
theorem CF.congr {w : World} {B l : Nat} {f g : Nat → Int} (h : CF w B l f) (hg : ∀ i, i < l → g i = f i) : CF w B l g := fun i hi => by rw [h i hi, hg i hi]
/-- from o on, t cells hold the numbers from k on -/
def mkF (k o t : Nat) (f : Nat → Int) (c : Nat) : Int := if o ≤ c ∧ c < o + t then ((k + (c - o) : Nat) : Int) else f c
theorem mkF_zero (k o : Nat) (f : Nat → Int) (c : Nat) : mkF k o 0 f c = f c := by unfold mkF; rw [if_neg (by omega)]
theorem mkF_out {k o t : Nat} {f : Nat → Int} {c : Nat} (h : o + t ≤ c) : mkF k o t f c = f c := by unfold mkF; rw [if_neg (by omega)]
theorem mkF_new (k o t : Nat) (f : Nat → Int) : mkF k o (t + 1) f (o + t) = (k : Int) + t := by unfold mkF; rw [if_pos (by omega)]; omega
theorem mkF_old (k o t : Nat) (f : Nat → Int) (c : Nat) (h : c ≠ o + t) : mkF k o (t + 1) f c = mkF k o t f c := by
  unfold mkF
  by_cases h1 : o ≤ c ∧ c < o + t
  · rw [if_pos h1, if_pos (by omega)]
  · rw [if_neg h1, if_neg (by omega)]
theorem CF.next {w : World} {B N k o t : Nat} {f : Nat → Int} (h : CF w B N (mkF k o t f)) (ht : o + t < N) {x : Int} (hx : x = (k : Int) + t) : CF (w.setCell ⟨B, o + t, none⟩ (.int .i64 x)) B N (mkF k o (t + 1) f) :=
  h.set ht (by rw [hx]; exact mkF_new k o t f) (fun i hi => mkF_old k o t f i hi)

section
variable (w : World)
set_option maxHeartbeats 1000000 in
theorem markF_row (b0 : Nat) (B o cap l k N : Nat) (f : Nat → Int) (hN : o + l * 2 ≤ N) (hl : N ≤ 1048576) (hk : k ≤ 1048576) (h0 : b0 ≤ B) (hc : CF w B N f) (hf : ∀ c, w.frozen? ⟨B, c, none⟩ = false) :
    Calls Try.prog 29 #[.slice (some ⟨B, o, none⟩) l cap, .int .i64 k] w fun r w' => r = .returned (.int .i64 ((k + l * 2 : Nat) : Int)) ∧ Below b0 w w' ∧ CF w' B N (mkF k o (l * 2) f) ∧ (∀ c, w'.frozen? ⟨B, c, none⟩ = false) ∧ (∀ C i, C ≠ B → w'.cell? ⟨C, i, none⟩ = w.cell? ⟨C, i, none⟩) := by
  replace hc := Lib.hid hc
  replace hf := Lib.hid hf
  go_enter Try.func29, Try.ntmps29
  go_wp2
  go_loopw [1, 5] (fun q i wr => ∃ j : Nat, j ≤ l ∧ q = .int .i64 ((k : Int) + j * 2) ∧ i = .int .i64 j ∧ CF wr B N (mkF k o (j * 2) f) ∧ (∀ c, wr.frozen? ⟨B, c, none⟩ = false) ∧ (∀ C i, C ≠ B → wr.cell? ⟨C, i, none⟩ = w.cell? ⟨C, i, none⟩) ∧ Below b0 w wr) (fun _ i _ => l - (intOf i).toNat)
  case atStart => exact ⟨0, by omega, by simp, rfl, hc.out.congr (fun i hi => mkF_zero _ _ _ _), hf.out, fun _ _ _ => rfl, Below.refl _ _⟩
  case round =>
    obtain ⟨j, hj, rfl, rfl, hC, hF, hO, hb⟩ := hrel
    replace hO := Lib.hid hO
    by_cases hlt : j < l
    · have c0 := hC (o + j * 2) (by omega)
      have c1 := hC (o + j * 2 + 1) (by omega)
      have f0 := hF (o + j * 2)
      have f1 := hF (o + j * 2 + 1)
      rw [mkF_out (by omega)] at c0 c1
      have hn := (hC.next (x := (k : Int) + j * 2) (by omega) (by omega)).next (x := (k : Int) + j * 2 + 1) (by omega) (by omega)
      rw [show j * 2 + 1 + 1 = (j + 1) * 2 by omega, show o + (j * 2 + 1) = o + j * 2 + 1 by omega] at hn
      have hF2 : Hid (∀ c, ((wr.setCell ⟨B, o + j * 2, none⟩ (.int .i64 ((k : Int) + j * 2))).setCell ⟨B, o + j * 2 + 1, none⟩ (.int .i64 ((k : Int) + j * 2 + 1))).frozen? ⟨B, c, none⟩ = false) := fun c => by simp [hF c]
      have hB2 := Lib.hid ((hb.setCell (p := ⟨B, o + j * 2, none⟩) h0 (.int .i64 ((k : Int) + j * 2))).setCell (p := ⟨B, o + j * 2 + 1, none⟩) h0 (.int .i64 ((k : Int) + j * 2 + 1)))
      have hO2 : Hid (∀ C i, C ≠ B → ((wr.setCell ⟨B, o + j * 2, none⟩ (.int .i64 ((k : Int) + j * 2))).setCell ⟨B, o + j * 2 + 1, none⟩ (.int .i64 ((k : Int) + j * 2 + 1))).cell? ⟨C, i, none⟩ = w.cell? ⟨C, i, none⟩) := fun C i h => by
        rw [World.cell?_setCell_other _ _ _ _ (by simp), World.cell?_setCell_other _ _ _ _ (by simp)]
        exact hO.out C i h
      replace hn := Lib.hid hn
      clear hC hF hO
      obtain ⟨z0, hz0⟩ : ∃ z, f (o + j * 2) = z := ⟨_, rfl⟩
      obtain ⟨z1, hz1⟩ : ∃ z, f (o + j * 2 + 1) = z := ⟨_, rfl⟩
      rw [hz0] at c0
      rw [hz1] at c1
      clear hz0 hz1
      have hkj : (k : Int) + j * 2 + 1 ≤ 4194304 := by omega
      go_wp2
      go_roundw
      case rel => exact ⟨j + 1, by omega, by go_num, by go_num, hn.out, hF2.out, hO2.out, hB2.out⟩
      case measure => simp [intOf]; omega
    · obtain rfl : j = l := by omega
      have hdd := decide_eq_false (show ¬ ((j : Int) < (j : Int)) by omega)
      replace hC := Lib.hid hC
      replace hF := Lib.hid hF
      go_wp2
      go_ret
      exact ⟨by go_num, hb, hC.out, hF.out, hO.out⟩
set_option maxHeartbeats 1000000 in
theorem heldF_row (B o cap l k N : Nat) (f : Nat → Int) (hN : o + l * 2 ≤ N) (hl : N ≤ 1048576) (hk : k ≤ 1048576) (hB : B < w.heap.size) (hc : CF w B N f) (hv : ∀ t, t < l * 2 → f (o + t) = (k : Int) + t) :
    Calls Try.prog 32 #[.slice (some ⟨B, o, none⟩) l cap, .int .i64 k] w fun r w' => r = .returned (.int .i64 ((k + l * 2 : Nat) : Int)) ∧ Below w.heap.size w w' := by
  replace hc := Lib.hid hc
  replace hv := Lib.hid hv
  go_enter Try.func32, Try.ntmps32
  go_wp2
  go_loopw [1, 5] (fun q i wr => ∃ j : Nat, j ≤ l ∧ q = .int .i64 ((k : Int) + j * 2) ∧ i = .int .i64 j ∧ Below w.heap.size w wr) (fun _ i _ => l - (intOf i).toNat)
  case atStart => exact ⟨0, by omega, by simp, rfl, Below.refl _ _⟩
  case round =>
    obtain ⟨j, hj, rfl, rfl, hb⟩ := hrel
    by_cases hlt : j < l
    · have c0 : wr.cell? ⟨B, o + j * 2, none⟩ = some (.int .i64 ((k : Int) + j * 2)) := by
        rw [hb.cell (p := ⟨B, o + j * 2, none⟩) hB, hc.out _ (by omega), hv.out _ (by omega)]
        congr 2
      have c1 : wr.cell? ⟨B, o + j * 2 + 1, none⟩ = some (.int .i64 ((k : Int) + j * 2 + 1)) := by
        rw [hb.cell (p := ⟨B, o + j * 2 + 1, none⟩) hB, hc.out _ (by omega), show o + j * 2 + 1 = o + (j * 2 + 1) by omega, hv.out _ (by omega)]
        congr 2
      have hkj : (k : Int) + j * 2 + 1 ≤ 4194304 := by omega
      go_wp2
      go_roundw
      case rel => exact ⟨j + 1, by omega, by go_num, by go_num, by (repeat (first | exact Below.refl _ _ | assumption | refine bchain (by assumption) ?_ | refine balloc ?_ _ | apply Below.drew | apply below_drewN | (refine Below.alloc ?_ (by (try simp) <;> omega) _) | (refine Below.setCell ?_ (by (try simp) <;> omega) _)))⟩
      case measure => simp [intOf]; omega
    · obtain rfl : j = l := by omega
      have hdd := decide_eq_false (show ¬ ((j : Int) < (j : Int)) by omega)
      go_wp2
      go_ret
      exact ⟨by go_num, hb⟩
end
theorem mkF_join (k t s : Nat) (f : Nat → Int) (c : Nat) : mkF k 0 (t + s) f c = mkF (k + t) t s (mkF k 0 t f) c := by
  unfold mkF
  by_cases h1 : c < t
  · rw [if_pos (by omega), if_neg (by omega), if_pos (by omega)]
  · by_cases h2 : c < t + s
    · rw [if_pos (by omega), if_pos (by omega)]; congr 1; omega
    · rw [if_neg (by omega), if_neg (by omega), if_neg (by omega)]
/-- n rows of n fractions, one behind the other in a block -/
def RowsIn (w : World) (A B n : Nat) : Prop := ∀ i, i < n → w.cell? ⟨A, i, none⟩ = some (.slice (some ⟨B, i * n * 2, none⟩) n n)
theorem sq8 {i n : Nat} (hn : n ≤ 8) (hi : i < n) : i * n * 2 + n * 2 ≤ n * n * 2 ∧ n * n ≤ 64 := by
  have h1 : (i + 1) * n ≤ n * n := Nat.mul_le_mul (by omega) (Nat.le_refl n)
  have h2 : n * n ≤ 8 * 8 := Nat.mul_le_mul hn hn
  rw [Nat.add_mul, Nat.one_mul] at h1
  omega
theorem markM_zero (w : World) (a : Option Addr) (cap : Nat) (k : Nat) :
    Calls Try.prog 15 #[.slice a 0 cap, .int .i64 k] w fun r w' => r = .returned (.int .i64 (k : Nat)) ∧ Below w.heap.size w w' := by
  go_enter Try.func15, Try.ntmps15
  go_wp2
  go_loopw [1, 5] (fun q i wr => q = .int .i64 k ∧ i = .int .i64 0 ∧ Below w.heap.size w wr) (fun _ _ _ => 0)
  case atStart => exact ⟨rfl, rfl, by (repeat (first | exact Below.refl _ _ | assumption | refine bchain (by assumption) ?_ | refine balloc ?_ _ | apply Below.drew | apply below_drewN | (refine Below.alloc ?_ (by (try simp) <;> omega) _) | (refine Below.setCell ?_ (by (try simp) <;> omega) _)))⟩
  case round =>
    obtain ⟨rfl, rfl, hb⟩ := hrel
    go_wp2
    go_ret
    exact ⟨rfl, hb⟩
theorem heldM_zero (w : World) (a : Option Addr) (cap : Nat) (k : Nat) :
    Calls Try.prog 16 #[.slice a 0 cap, .int .i64 k] w fun r w' => r = .returned (.int .i64 (k : Nat)) ∧ Below w.heap.size w w' := by
  go_enter Try.func16, Try.ntmps16
  go_wp2
  go_loopw [1, 5] (fun q i wr => q = .int .i64 k ∧ i = .int .i64 0 ∧ Below w.heap.size w wr) (fun _ _ _ => 0)
  case atStart => exact ⟨rfl, rfl, by (repeat (first | exact Below.refl _ _ | assumption | refine bchain (by assumption) ?_ | refine balloc ?_ _ | apply Below.drew | apply below_drewN | (refine Below.alloc ?_ (by (try simp) <;> omega) _) | (refine Below.setCell ?_ (by (try simp) <;> omega) _)))⟩
  case round =>
    obtain ⟨rfl, rfl, hb⟩ := hrel
    go_wp2
    go_ret
    exact ⟨rfl, hb⟩
set_option maxHeartbeats 1000000 in
theorem markM_some (w : World) (b0 A B n k cap : Nat) (f : Nat → Int) (hn : n ≤ 8) (hk : k ≤ 1000) (hAB : A ≠ B) (h0 : b0 ≤ B) (hc : CF w B (n * n * 2) f) (hf : ∀ c, w.frozen? ⟨B, c, none⟩ = false) (hr : RowsIn w A B n) :
    Calls Try.prog 15 #[.slice (some ⟨A, 0, none⟩) n cap, .int .i64 k] w fun r w' => r = .returned (.int .i64 ((k + n * n * 2 : Nat) : Int)) ∧ Below b0 w w' ∧ CF w' B (n * n * 2) (mkF k 0 (n * n * 2) f) ∧ (∀ c, w'.frozen? ⟨B, c, none⟩ = false) ∧ RowsIn w' A B n := by
  replace hc := Lib.hid hc
  replace hf := Lib.hid hf
  replace hr := Lib.hid hr
  go_enter Try.func15, Try.ntmps15
  go_wp2
  go_loopw [1, 5] (fun q i wr => ∃ j : Nat, j ≤ n ∧ q = .int .i64 ((k + j * n * 2 : Nat) : Int) ∧ i = .int .i64 j ∧ CF wr B (n * n * 2) (mkF k 0 (j * n * 2) f) ∧ (∀ c, wr.frozen? ⟨B, c, none⟩ = false) ∧ RowsIn wr A B n ∧ Below b0 w wr) (fun _ i _ => n - (intOf i).toNat)
  case atStart => exact ⟨0, by omega, by simp, rfl, hc.out.congr (fun i hi => by rw [Nat.zero_mul, Nat.zero_mul]; exact mkF_zero _ _ _ _), hf.out, hr.out, Below.refl _ _⟩
  case round =>
    obtain ⟨j, hj, rfl, rfl, hC, hF, hR, hb⟩ := hrel
    by_cases hlt : j < n
    · have c0 := hR j hlt
      obtain ⟨s1, s2⟩ := sq8 hn hlt
      have e1 : (j + 1) * n * 2 = j * n * 2 + n * 2 := by rw [Nat.add_mul, Nat.one_mul, Nat.add_mul]
      obtain ⟨t, ht⟩ : ∃ t, j * n * 2 = t := ⟨_, rfl⟩
      rw [ht] at hC c0 s1 e1 ⊢
      have hM := Lib.hid (markF_row wr b0 B t n n (k + t) (n * n * 2) (mkF k 0 t f) s1 (by omega) (by omega) h0 hC hF)
      replace hR := Lib.hid hR
      replace e1 := Lib.hid e1
      clear hC hF ht
      go_wp2_with fail
      refine hM.out.mono ?_
      rintro r1 w1 ⟨rfl, hb1, hC1, hF1, hO1⟩
      have hR1 := Lib.hid (show RowsIn w1 A B n from fun i hi => (hO1 A i hAB).trans (hR.out i hi))
      have hC2 : CF w1 B (n * n * 2) (mkF k 0 ((j + 1) * n * 2) f) := hC1.congr (fun c _ => by rw [e1.out]; exact mkF_join k t (n * 2) f c)
      replace hC2 := Lib.hid hC2
      replace hF1 := Lib.hid hF1
      have hb2 : Below b0 w w1 := hb.trans hb1
      clear hC1 hO1 hM
      go_wp2
      go_roundw
      case rel => exact ⟨j + 1, by omega, by rw [e1.out]; congr 1; omega, by go_num, hC2.out, hF1.out, hR1.out, hb2⟩
      case measure => simp [intOf]; omega
    · obtain rfl : j = n := by omega
      have hdd := decide_eq_false (show ¬ ((j : Int) < (j : Int)) by omega)
      replace hC := Lib.hid hC
      replace hF := Lib.hid hF
      replace hR := Lib.hid hR
      go_wp2
      go_ret
      exact ⟨rfl, hb, hC.out, hF.out, hR.out⟩
set_option maxHeartbeats 1000000 in
theorem heldM_some (w : World) (A B n k cap : Nat) (f : Nat → Int) (hn : n ≤ 8) (hk : k ≤ 1000) (hA : A < w.heap.size) (hB : B < w.heap.size) (hc : CF w B (n * n * 2) (mkF k 0 (n * n * 2) f)) (hr : RowsIn w A B n) :
    Calls Try.prog 16 #[.slice (some ⟨A, 0, none⟩) n cap, .int .i64 k] w fun r w' => r = .returned (.int .i64 ((k + n * n * 2 : Nat) : Int)) ∧ Below w.heap.size w w' := by
  replace hc := Lib.hid hc
  replace hr := Lib.hid hr
  go_enter Try.func16, Try.ntmps16
  go_wp2
  go_loopw [1, 5] (fun q i wr => ∃ j : Nat, j ≤ n ∧ q = .int .i64 ((k + j * n * 2 : Nat) : Int) ∧ i = .int .i64 j ∧ Below w.heap.size w wr) (fun _ i _ => n - (intOf i).toNat)
  case atStart => exact ⟨0, by omega, by simp, rfl, Below.refl _ _⟩
  case round =>
    obtain ⟨j, hj, rfl, rfl, hb⟩ := hrel
    by_cases hlt : j < n
    · have c0 : wr.cell? ⟨A, j, none⟩ = some (.slice (some ⟨B, j * n * 2, none⟩) n n) := (hb.cell (p := ⟨A, j, none⟩) hA).trans (hr.out j hlt)
      obtain ⟨s1, s2⟩ := sq8 hn hlt
      have e1 : (j + 1) * n * 2 = j * n * 2 + n * 2 := by rw [Nat.add_mul, Nat.one_mul, Nat.add_mul]
      obtain ⟨t, ht⟩ : ∃ t, j * n * 2 = t := ⟨_, rfl⟩
      rw [ht] at c0 s1 e1 ⊢
      have hM := Lib.hid (heldF_row wr B t n n (k + t) (n * n * 2) (mkF k 0 (n * n * 2) f) s1 (by omega) (by omega) (Nat.lt_of_lt_of_le hB hb.size) (hc.out.below hb hB) (fun u hu => by unfold mkF; rw [if_pos (by omega)]; omega))
      replace e1 := Lib.hid e1
      have hp : decide (((k + t + n * 2 : Nat) : Int) < 0) = false := decide_eq_false (by omega)
      clear ht
      go_wp2_with fail
      refine hM.out.mono ?_
      rintro r1 w1 ⟨rfl, hb1⟩
      go_wp2
      go_roundw
      case rel => exact ⟨j + 1, by omega, by rw [e1.out]; congr 1; omega, by go_num, by (repeat (first | exact Below.refl _ _ | assumption | refine bchain (by assumption) ?_ | refine balloc ?_ _ | apply Below.drew | apply below_drewN | (refine Below.alloc ?_ (by (try simp) <;> omega) _) | (refine Below.setCell ?_ (by (try simp) <;> omega) _)))⟩
      case measure => simp [intOf]; omega
    · obtain rfl : j = n := by omega
      have hdd := decide_eq_false (show ¬ ((j : Int) < (j : Int)) by omega)
      go_wp2
      go_ret
      exact ⟨rfl, hb⟩
end Go.Proofs.Ytdibcchhamapjac
