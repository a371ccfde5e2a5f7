/-
  NUMBERS: quotients in lowest terms. 'VF p q': p and q are the parts of a valid fraction. 'low p q': the quotient of p and q in lowest terms, if it is not too large.
-/
import Derived.WalkKit
namespace Go.Proofs.Ytdibcchhamapjac
set_option maxRecDepth 100000

/-- the parts of a fraction are small enough, and it is in lowest terms -/
def VF (p q : Int) : Prop := 1 ≤ q ∧ q ≤ 1000000000 ∧ -1000000000 ≤ p ∧ p ≤ 1000000000 ∧ Int.gcd p q = 1
instance (p q : Int) : Decidable (VF p q) := by unfold VF; infer_instance
/-- the greatest common divisor with the sign of q -/
def gs (p q : Int) : Int := if q < 0 then -(Int.gcd p q : Int) else (Int.gcd p q : Int)
/-- a quotient in lowest terms, if it is not too large -/
def low (p q : Int) : Option (Int × Int) :=
  if -1000000000 ≤ p.tdiv (gs p q) ∧ p.tdiv (gs p q) ≤ 1000000000 ∧ q.tdiv (gs p q) ≤ 1000000000 then some (p.tdiv (gs p q), q.tdiv (gs p q)) else none

theorem gcd_tstep (p q : Int) : Int.gcd q (p.tmod q) = Int.gcd p q := by
  unfold Int.gcd
  rw [Int.natAbs_tmod, Nat.gcd_comm p.natAbs, Nat.gcd_rec q.natAbs p.natAbs, Nat.gcd_comm]
theorem gs_ne {p q : Int} (hq : q ≠ 0) : gs p q ≠ 0 := by
  have : Int.gcd p q ≠ 0 := by rw [Ne, Int.gcd_eq_zero_iff]; exact fun h => hq h.2
  unfold gs
  split <;> omega
theorem gs_dvd (p q : Int) : gs p q ∣ p ∧ gs p q ∣ q := by
  unfold gs
  split
  · exact ⟨Int.neg_dvd.2 (Int.gcd_dvd_left _ _), Int.neg_dvd.2 (Int.gcd_dvd_right _ _)⟩
  · exact ⟨Int.gcd_dvd_left _ _, Int.gcd_dvd_right _ _⟩
theorem gs_mul (p q : Int) : p.tdiv (gs p q) * gs p q = p ∧ q.tdiv (gs p q) * gs p q = q :=
  ⟨Int.tdiv_mul_cancel (gs_dvd p q).1, Int.tdiv_mul_cancel (gs_dvd p q).2⟩
theorem low_den {p q : Int} (hq : q ≠ 0) : 1 ≤ q.tdiv (gs p q) := by
  have h := (gs_mul p q).2
  have hg := gs_ne (p := p) hq
  have hp : 0 < (Int.gcd p q : Int) := by
    have : Int.gcd p q ≠ 0 := by rw [Ne, Int.gcd_eq_zero_iff]; exact fun h => hq h.2
    omega
  by_cases c : q < 0
  · have e : gs p q = -(Int.gcd p q : Int) := by unfold gs; rw [if_pos c]
    rw [e] at h ⊢
    apply Int.not_lt.1
    intro c2
    have : 0 ≤ q.tdiv (-(Int.gcd p q : Int)) * (-(Int.gcd p q : Int)) := Int.mul_nonneg_of_nonpos_of_nonpos (by omega) (by omega)
    omega
  · have e : gs p q = (Int.gcd p q : Int) := by unfold gs; rw [if_neg c]
    rw [e] at h ⊢
    apply Int.not_lt.1
    intro c2
    have : q.tdiv (Int.gcd p q : Int) * (Int.gcd p q : Int) ≤ 0 := Int.mul_nonpos_of_nonpos_of_nonneg (by omega) (by omega)
    omega
theorem low_gcd {p q : Int} (hq : q ≠ 0) : Int.gcd (p.tdiv (gs p q)) (q.tdiv (gs p q)) = 1 := by
  have hp : 0 < Int.gcd p q := by
    have : Int.gcd p q ≠ 0 := by rw [Ne, Int.gcd_eq_zero_iff]; exact fun h => hq h.2
    omega
  have ha : (gs p q).natAbs = Int.gcd p q := by unfold gs; split <;> simp
  unfold Int.gcd
  rw [Int.natAbs_tdiv, Int.natAbs_tdiv, ha]
  exact Nat.coprime_div_gcd_div_gcd hp
theorem low_vf {p q a b : Int} (hq : q ≠ 0) (h : low p q = some (a, b)) : VF a b := by
  unfold low at h
  split at h
  · rename_i c
    cases h
    exact ⟨low_den hq, c.2.2, c.1, c.2.1, low_gcd hq⟩
  · cases h
/-- the model's way to the lowest terms is the same -/
theorem spec_low (p q : Int) : (if q < 0 then -p else p).tdiv (Int.gcd (if q < 0 then -p else p) (if q < 0 then -q else q)) = p.tdiv (gs p q) ∧
    (if q < 0 then -q else q).tdiv (Int.gcd (if q < 0 then -p else p) (if q < 0 then -q else q)) = q.tdiv (gs p q) := by
  unfold gs
  split
  · rw [Int.gcd_neg, Int.neg_gcd]; simp [Int.neg_tdiv, Int.tdiv_neg]
  · simp
theorem tdiv_abs (p s : Int) (b : Int) (h : -b ≤ p ∧ p ≤ b) : -b ≤ p.tdiv s ∧ p.tdiv s ≤ b := by
  have h1 : (p.tdiv s).natAbs ≤ p.natAbs := Int.natAbs_tdiv_le_natAbs p s
  omega
theorem mul_b {a b : Int} (ha : -1000000000 ≤ a ∧ a ≤ 1000000000) (hb : -1000000000 ≤ b ∧ b ≤ 1000000000) : -1000000000000000000 ≤ a * b ∧ a * b ≤ 1000000000000000000 := by
  have h : (a * b).natAbs ≤ 1000000000 * 1000000000 := by rw [Int.natAbs_mul]; exact Nat.mul_le_mul (by omega) (by omega)
  omega
theorem mul_pos_b {a b : Int} (ha : 1 ≤ a) (hb : 1 ≤ b) : 1 ≤ a * b := by
  have := Int.mul_le_mul ha hb (by omega) (by omega)
  omega
theorem tmod_b (a b : Int) : (a.tmod b).natAbs ≤ a.natAbs := by
  rw [Int.natAbs_tmod]
  exact Nat.mod_le _ _
end Go.Proofs.Ytdibcchhamapjac
