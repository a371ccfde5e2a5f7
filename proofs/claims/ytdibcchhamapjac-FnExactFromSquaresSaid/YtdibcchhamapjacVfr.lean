/-
  CONTRACTS: which fractions are valid: the program's word and the model's.
-/
import Derived.Test.YtdibcchhamapjacLowest
namespace Go.Proofs.Ytdibcchhamapjac
open Go.RowKit
set_option maxRecDepth 100000
section
variable (w : World)

theorem in_t (n lo hi : Int) (h1 : lo ≤ n) (h2 : n ≤ hi) :
    Calls Try.prog 41 #[.int .i64 n, .int .i64 lo, .int .i64 hi] w fun e w' => e = .returned (.bool true) ∧ w = w' := by
  go_enter Try.func41, Try.ntmps41
  go_wp2
  go_ret
  exact ⟨rfl, rfl⟩
theorem in_f (n lo hi : Int) (h : n < lo ∨ hi < n) :
    Calls Try.prog 41 #[.int .i64 n, .int .i64 lo, .int .i64 hi] w fun e w' => e = .returned (.bool false) ∧ w = w' := by
  rcases h with h | h
  · have hd : decide (lo ≤ n) = false := by simp; omega
    go_enter Try.func41, Try.ntmps41
    go_wp2
    go_ret
    exact ⟨rfl, rfl⟩
  · have hd : decide (n ≤ hi) = false := by simp; omega
    by_cases hl : lo ≤ n
    · go_enter Try.func41, Try.ntmps41
      go_wp2
      go_ret
      exact ⟨rfl, rfl⟩
    · have hd2 : decide (lo ≤ n) = false := by simp; omega
      go_enter Try.func41, Try.ntmps41
      go_wp2
      go_ret
      exact ⟨rfl, rfl⟩

theorem ok_any (p q : Int) :
    Calls Try.prog 51 #[.agg #[.int .i64 p, .int .i64 q]] w fun r w' => r = .returned (.bool (decide (VF p q))) ∧ Below w.heap.size w w' := by
  by_cases c1 : -1000000000 ≤ p ∧ p ≤ 1000000000
  · by_cases c2 : 1 ≤ q ∧ q ≤ 1000000000
    · have e : decide (VF p q) = (((Int.gcd p q : Nat) : Int) == 1) := by
        rw [Bool.eq_iff_iff, decide_eq_true_iff, beq_iff_eq]
        unfold VF
        omega
      rw [e]
      have hge : Int.gcd (p.natAbs : Nat) q = Int.gcd p q := by simp [Int.gcd]
      have hC := Lib.hid (fun W => sc_any W (p.natAbs : Nat) q (by omega) (by omega))
      rw [hge] at hC
      have hS := Lib.hid (fun W => sabs_any W p (by omega))
      obtain ⟨g, hg⟩ : ∃ g : Int, ((Int.gcd p q : Nat) : Int) = g := ⟨_, rfl⟩
      rw [hg] at hC ⊢
      obtain ⟨k, hk⟩ : ∃ k : Int, ((p.natAbs : Nat) : Int) = k := ⟨_, rfl⟩
      rw [hk] at hC hS
      clear e hge hg hk
      go_enter Try.func51, Try.ntmps51
      go_wp2
      go_quiet (first | (go_at_call 41; exact quiet_eq (in_t _ _ _ _ (by omega) (by omega))) | (go_at_call 84; exact quiet_eq (hS.out _)) | (go_at_call 83; exact quiet_eq (hC.out _)))
      go_wp2
      go_ret
      exact ⟨rfl, by (repeat (first | exact Below.refl _ _ | assumption | refine bchain (by assumption) ?_ | refine balloc ?_ _ | apply Below.drew | apply below_drewN | (refine Below.alloc ?_ (by (try simp) <;> omega) _) | (refine Below.setCell ?_ (by (try simp) <;> omega) _)))⟩
    · rw [decide_eq_false (fun h : VF p q => c2 ⟨h.1, h.2.1⟩)]
      go_enter Try.func51, Try.ntmps51
      go_wp2
      go_quiet (first | (go_at_call 41; first | exact quiet_eq (in_t _ _ _ _ (by omega) (by omega)) | exact quiet_eq (in_f _ _ _ _ (by omega))))
      go_wp2
      go_ret
      exact ⟨rfl, by (repeat (first | exact Below.refl _ _ | assumption | refine bchain (by assumption) ?_ | refine balloc ?_ _ | apply Below.drew | apply below_drewN | (refine Below.alloc ?_ (by (try simp) <;> omega) _) | (refine Below.setCell ?_ (by (try simp) <;> omega) _)))⟩
  · rw [decide_eq_false (fun h : VF p q => c1 ⟨h.2.2.1, h.2.2.2.1⟩)]
    go_enter Try.func51, Try.ntmps51
    go_wp2
    go_quiet (first | (go_at_call 41; exact quiet_eq (in_f _ _ _ _ (by omega))))
    go_wp2
    go_ret
    exact ⟨rfl, by (repeat (first | exact Below.refl _ _ | assumption | refine bchain (by assumption) ?_ | refine balloc ?_ _ | apply Below.drew | apply below_drewN | (refine Below.alloc ?_ (by (try simp) <;> omega) _) | (refine Below.setCell ?_ (by (try simp) <;> omega) _)))⟩

theorem vf_any (p q : Int) :
    Calls Try.prog 53 #[.agg #[.int .i64 p, .int .i64 q]] w fun r w' => r = .returned (.bool (decide (VF p q))) ∧ Below w.heap.size w w' := by
  by_cases c0 : 0 < q
  · by_cases c1 : -1000000000 ≤ p ∧ p ≤ 1000000000
    · by_cases c2 : -1000000000 ≤ q ∧ q ≤ 1000000000
      · have e : decide (VF p q) = (((Int.gcd p q : Nat) : Int) == 1) := by
          rw [Bool.eq_iff_iff, decide_eq_true_iff, beq_iff_eq]
          unfold VF
          omega
        rw [e]
        have hC := Lib.hid (fun W => cd_any W p q (by omega) (by omega))
        have hT := Lib.hid (fun W => am_any W 1000000000 p (by omega))
        have hU := Lib.hid (fun W => am_any W 1000000000 q (by omega))
        rw [decide_eq_true c1] at hT
        rw [decide_eq_true c2] at hU
        obtain ⟨g, hg⟩ : ∃ g : Int, ((Int.gcd p q : Nat) : Int) = g := ⟨_, rfl⟩
        rw [hg] at hC ⊢
        clear e hg c1 c2
        go_enter Try.func53, Try.ntmps53
        go_wp2_with (first | (go_at_call 85; first | (with_reducible refine (hT.out _).mono ?_; rintro r w3 ⟨rfl, rfl⟩) | (with_reducible refine (hU.out _).mono ?_; rintro r w3 ⟨rfl, rfl⟩)) | (go_at_call 86; refine (hC.out _).mono ?_; rintro r w2 ⟨rfl, hb2⟩))
        go_ret
        exact ⟨rfl, by (repeat (first | exact Below.refl _ _ | assumption | refine bchain (by assumption) ?_ | refine balloc ?_ _ | apply Below.drew | apply below_drewN | (refine Below.alloc ?_ (by (try simp) <;> omega) _) | (refine Below.setCell ?_ (by (try simp) <;> omega) _)))⟩
      · rw [decide_eq_false (fun h : VF p q => c2 ⟨by have := h.1; omega, h.2.1⟩)]
        have hT := Lib.hid (fun W => am_any W 1000000000 p (by omega))
        have hU := Lib.hid (fun W => am_any W 1000000000 q (by omega))
        rw [decide_eq_true c1] at hT
        rw [decide_eq_false c2] at hU
        clear c1 c2
        go_enter Try.func53, Try.ntmps53
        go_wp2_with (first | (go_at_call 85; first | (with_reducible refine (hT.out _).mono ?_; rintro r w3 ⟨rfl, rfl⟩) | (with_reducible refine (hU.out _).mono ?_; rintro r w3 ⟨rfl, rfl⟩)))
        go_ret
        exact ⟨rfl, by (repeat (first | exact Below.refl _ _ | assumption | refine bchain (by assumption) ?_ | refine balloc ?_ _ | apply Below.drew | apply below_drewN | (refine Below.alloc ?_ (by (try simp) <;> omega) _) | (refine Below.setCell ?_ (by (try simp) <;> omega) _)))⟩
    · rw [decide_eq_false (fun h : VF p q => c1 ⟨h.2.2.1, h.2.2.2.1⟩)]
      have hT := Lib.hid (fun W => am_any W 1000000000 p (by omega))
      rw [decide_eq_false c1] at hT
      clear c1
      go_enter Try.func53, Try.ntmps53
      go_wp2_with (first | (go_at_call 85; (with_reducible refine (hT.out _).mono ?_; rintro r w3 ⟨rfl, rfl⟩)))
      go_ret
      exact ⟨rfl, by (repeat (first | exact Below.refl _ _ | assumption | refine bchain (by assumption) ?_ | refine balloc ?_ _ | apply Below.drew | apply below_drewN | (refine Below.alloc ?_ (by (try simp) <;> omega) _) | (refine Below.setCell ?_ (by (try simp) <;> omega) _)))⟩
  · rw [decide_eq_false (fun h : VF p q => c0 (by have := h.1; omega))]
    have hd := decide_eq_false c0
    go_enter Try.func53, Try.ntmps53
    go_wp2
    go_ret
    exact ⟨rfl, by (repeat (first | exact Below.refl _ _ | assumption | refine bchain (by assumption) ?_ | refine balloc ?_ _ | apply Below.drew | apply below_drewN | (refine Below.alloc ?_ (by (try simp) <;> omega) _) | (refine Below.setCell ?_ (by (try simp) <;> omega) _)))⟩
end
end Go.Proofs.Ytdibcchhamapjac
