/-
  CONTRACTS: the greatest common divisor, a quotient in lowest terms: the program's and the model's.
-/
import Derived.Test.YtdibcchhamapjacGen
import Derived.Test.YtdibcchhamapjacNum
import Derived.Lib.Hide
import Derived.LoopTactic
namespace Go.Proofs.Ytdibcchhamapjac
open Go.RowKit
set_option maxRecDepth 100000

section
variable (w : World)

theorem cd_any (p q : Int) (hp : -2000000000000000000 ≤ p ∧ p ≤ 2000000000000000000) (hq : -2000000000000000000 ≤ q ∧ q ≤ 2000000000000000000) :
    Calls Try.prog 86 #[.int .i64 p, .int .i64 q] w fun r w' => r = .returned (.int .i64 (Int.gcd p q : Nat)) ∧ Below w.heap.size w w' := by
  go_enter Try.func86, Try.ntmps86
  go_wp2
  go_loopw [0, 1] (fun x y wr => ∃ a b : Int, x = .int .i64 a ∧ y = .int .i64 b ∧ (-2000000000000000000 ≤ a ∧ a ≤ 2000000000000000000) ∧ (-2000000000000000000 ≤ b ∧ b ≤ 2000000000000000000) ∧ Int.gcd a b = Int.gcd p q ∧ Below w.heap.size w wr) (fun _ y _ => (intOf y).natAbs)
  case atStart => exact ⟨p, q, rfl, rfl, hp, hq, rfl, by (repeat (first | exact Below.refl _ _ | assumption | refine bchain (by assumption) ?_ | refine balloc ?_ _ | apply Below.drew | apply below_drewN | (refine Below.alloc ?_ (by (try simp) <;> omega) _) | (refine Below.setCell ?_ (by (try simp) <;> omega) _)))⟩
  case round =>
    obtain ⟨a, b, rfl, rfl, ha, hb, hg, hB⟩ := hrel
    by_cases h0 : b = 0
    · subst h0
      have hgv : ((Int.gcd p q : Nat) : Int) = (a.natAbs : Nat) := by rw [← hg, Int.gcd_zero_right]
      by_cases hs : 0 ≤ a
      · have e : ((Int.gcd p q : Nat) : Int) = a := by omega
        clear hg hgv
        go_wp2
        all_goals first | (go_ret; exact ⟨by first | rfl | (rw [e]; rfl), by (repeat (first | exact Below.refl _ _ | assumption | refine bchain (by assumption) ?_ | refine balloc ?_ _ | apply Below.drew | apply below_drewN | (refine Below.alloc ?_ (by (try simp) <;> omega) _) | (refine Below.setCell ?_ (by (try simp) <;> omega) _)))⟩) | (exfalso; omega)
      · have e : ((Int.gcd p q : Nat) : Int) = -a := by omega
        clear hg hgv
        go_wp2
        all_goals first | (go_ret; exact ⟨by first | rfl | (rw [e]; rfl), by (repeat (first | exact Below.refl _ _ | assumption | refine bchain (by assumption) ?_ | refine balloc ?_ _ | apply Below.drew | apply below_drewN | (refine Below.alloc ?_ (by (try simp) <;> omega) _) | (refine Below.setCell ?_ (by (try simp) <;> omega) _)))⟩) | (exfalso; omega)
    · have h1 := hg
      rw [← gcd_tstep] at h1
      have h2 := tmod_b a b
      have h3 := Int.natAbs_tmod a b
      have h4 : a.natAbs % b.natAbs < b.natAbs := Nat.mod_lt _ (by omega)
      obtain ⟨r, hr⟩ : ∃ r, a.tmod b = r := ⟨_, rfl⟩
      rw [hr] at h1 h2 h3
      go_wp2
      go_quiet (fail)
      go_wp2
      go_roundw
      case rel => exact ⟨b, r, rfl, rfl, hb, by omega, h1, by (repeat (first | exact Below.refl _ _ | assumption | refine bchain (by assumption) ?_ | refine balloc ?_ _ | apply Below.drew | apply below_drewN | (refine Below.alloc ?_ (by (try simp) <;> omega) _) | (refine Below.setCell ?_ (by (try simp) <;> omega) _)))⟩
      case measure => simp [intOf]; omega

theorem sabs_any (a : Int) (ha : -2000000000000000000 ≤ a ∧ a ≤ 2000000000000000000) :
    Calls Try.prog 84 #[.int .i64 a] w fun r w' => r = .returned (.int .i64 (a.natAbs : Nat)) ∧ w = w' := by
  by_cases hs : a < 0
  · have e : ((a.natAbs : Nat) : Int) = -a := by omega
    go_enter Try.func84, Try.ntmps84
    go_wp2
    go_ret
    exact ⟨by first | rfl | (rw [e]; rfl), rfl⟩
  · have e : ((a.natAbs : Nat) : Int) = a := by omega
    have hd := decide_eq_false hs
    go_enter Try.func84, Try.ntmps84
    go_wp2
    go_ret
    exact ⟨by first | rfl | (rw [e]; rfl), rfl⟩

theorem sc_any (p q : Int) (hp : 0 ≤ p ∧ p ≤ 2000000000000000000) (hq : 0 ≤ q ∧ q ≤ 2000000000000000000) :
    Calls Try.prog 83 #[.int .i64 p, .int .i64 q] w fun r w' => r = .returned (.int .i64 (Int.gcd p q : Nat)) ∧ w = w' := by
  go_enter Try.func83, Try.ntmps83
  go_wp2
  go_loopw [0, 1] (fun x y wr => ∃ a b : Int, x = .int .i64 a ∧ y = .int .i64 b ∧ (0 ≤ a ∧ a ≤ 2000000000000000000) ∧ (0 ≤ b ∧ b ≤ 2000000000000000000) ∧ Int.gcd a b = Int.gcd p q ∧ w = wr) (fun _ y _ => (intOf y).natAbs)
  case atStart => exact ⟨p, q, rfl, rfl, hp, hq, rfl, rfl⟩
  case round =>
    obtain ⟨a, b, rfl, rfl, ha, hb, hg, rfl⟩ := hrel
    by_cases h0 : b = 0
    · subst h0
      have hgv : ((Int.gcd p q : Nat) : Int) = (a.natAbs : Nat) := by rw [← hg, Int.gcd_zero_right]
      have e : ((Int.gcd p q : Nat) : Int) = a := by omega
      clear hg hgv
      go_wp2
      go_ret
      exact ⟨by first | rfl | (rw [e]; rfl), rfl⟩
    · have h1 := hg
      rw [← gcd_tstep] at h1
      have h2 := tmod_b a b
      have h3 := Int.natAbs_tmod a b
      have h5 := Int.tmod_nonneg b ha.1
      have h4 : a.natAbs % b.natAbs < b.natAbs := Nat.mod_lt _ (by omega)
      obtain ⟨r, hr⟩ : ∃ r, a.tmod b = r := ⟨_, rfl⟩
      rw [hr] at h1 h2 h3 h5
      go_wp2
      go_roundw
      case rel => exact ⟨b, r, rfl, rfl, hb, by omega, h1, by first | trivial | rfl⟩
      case measure => simp [intOf]; omega

theorem scb_any (p q : Int) (hp : 0 ≤ p ∧ p ≤ 2000000000000000000) (hq : 0 ≤ q ∧ q ≤ 2000000000000000000) :
    Calls Try.prog 83 #[.int .i64 p, .int .i64 q] w fun r w' => r = .returned (.int .i64 (Int.gcd p q : Nat)) ∧ Below w.heap.size w w' :=
  (sc_any w p q hp hq).mono fun _ _ ⟨h, e⟩ => ⟨h, e ▸ Below.refl _ _⟩

theorem am_any (l x : Int) (hl : 0 ≤ l ∧ l ≤ 2000000000000000000) :
    Calls Try.prog 85 #[.int .i64 l, .int .i64 x] w fun r w' => r = .returned (.bool (decide (-l ≤ x ∧ x ≤ l))) ∧ w = w' := by
  by_cases h1 : -l ≤ x
  · by_cases h2 : x ≤ l
    · rw [decide_eq_true ⟨h1, h2⟩]
      go_enter Try.func85, Try.ntmps85
      go_wp2
      go_ret
      exact ⟨rfl, rfl⟩
    · rw [decide_eq_false (fun c => h2 c.2)]
      have hd := decide_eq_false h2
      go_enter Try.func85, Try.ntmps85
      go_wp2
      go_ret
      exact ⟨rfl, rfl⟩
  · rw [decide_eq_false (fun c => h1 c.1)]
    have hd := decide_eq_false h1
    go_enter Try.func85, Try.ntmps85
    go_wp2
    go_ret
    exact ⟨rfl, rfl⟩
end
end Go.Proofs.Ytdibcchhamapjac
