/-
  CONTRACTS: a quotient in lowest terms: the model's, which answers with a code, and the program's, which panics if it is too large.
-/
import Derived.Test.YtdibcchhamapjacLow
import Derived.Deep.RegionWith
namespace Go.Proofs.Ytdibcchhamapjac
open Go.RowKit
set_option maxRecDepth 100000

/-- a fraction's value -/
def fv (x : Int × Int) : Value := .agg #[.int .i64 x.1, .int .i64 x.2]
/-- what the model answers: a fraction and OK, or the zero value and ErrLimit -/
def lv : Option (Int × Int) → Value | some x => .tuple #[fv x, .int .i64 0] | none => .tuple #[.agg #[.int .i64 0, .int .i64 0], .int .i64 3]
/-- how the program ends where a fraction is too large -/
def tooBig : Ending := .panicked [{ v := .iface 110 (.agg #[]), recovered := false }]
/-- how the program ends: with a fraction, or thrown out -/
def qe : Option (Int × Int) → Ending | some x => .returned (fv x) | none => tooBig
theorem lv_form (o : Option (Int × Int)) : ∃ x y c : Int, lv o = .tuple #[.agg #[.int .i64 x, .int .i64 y], .int .i64 c] := by
  cases o with
  | none => exact ⟨_, _, _, rfl⟩
  | some x => exact ⟨_, _, _, rfl⟩
theorem low_some {p q A B : Int} (hA : p.tdiv (gs p q) = A) (hB : q.tdiv (gs p q) = B) (h1 : -1000000000 ≤ A ∧ A ≤ 1000000000) (h2 : B ≤ 1000000000) : low p q = some (A, B) := by
  unfold low
  rw [hA, hB, if_pos ⟨h1.1, h1.2, h2⟩]
theorem low_none {p q A B : Int} (hA : p.tdiv (gs p q) = A) (hB : q.tdiv (gs p q) = B) (h : ¬ ((-1000000000 ≤ A ∧ A ≤ 1000000000) ∧ B ≤ 1000000000)) : low p q = none := by
  unfold low
  rw [hA, hB, if_neg (fun c => h ⟨⟨c.1, c.2.1⟩, c.2.2⟩)]
section
variable (w : World)

set_option maxHeartbeats 1000000 in
theorem sl_pos (p q : Int) (hp : -2000000000000000000 ≤ p ∧ p ≤ 2000000000000000000) (hqb : -2000000000000000000 ≤ q ∧ q ≤ 2000000000000000000) (hq : 0 < q) :
    Calls Try.prog 94 #[.int .i64 p, .int .i64 q] w fun r w' => r = .returned (lv (low p q)) ∧ Below w.heap.size w w' := by
  have hg0 : (Int.gcd p q : Nat) ≠ 0 := by rw [Ne, Int.gcd_eq_zero_iff]; omega
  have hge : Int.gcd (p.natAbs : Nat) q = Int.gcd p q := by simp [Int.gcd]
  have eg : gs p q = (Int.gcd p q : Nat) := by unfold gs; rw [if_neg (by omega)]
  have eA : p.tdiv (Int.gcd p q : Nat) = p.tdiv (gs p q) := by rw [eg]
  have eB : q.tdiv (Int.gcd p q : Nat) = q.tdiv (gs p q) := by rw [eg]
  have hd0 := decide_eq_false (show ¬ q < 0 by omega)
  have bA := tdiv_abs p (Int.gcd p q : Nat) 2000000000000000000 (by omega)
  have bB := tdiv_abs q (Int.gcd p q : Nat) 2000000000000000000 (by omega)
  have pB := low_den (p := p) (q := q) (by omega)
  have hC := Lib.hid (fun W => scb_any W (p.natAbs : Nat) q (by omega) (by omega))
  rw [hge] at hC
  have hS := Lib.hid (fun W => sabs_any W p (by omega))
  clear hge eg
  obtain ⟨g, hg⟩ : ∃ g : Int, ((Int.gcd p q : Nat) : Int) = g := ⟨_, rfl⟩
  rw [hg] at hC eA eB bA bB
  have hgn : ¬ g = 0 := by omega
  clear hg0 hg
  obtain ⟨A, hA⟩ : ∃ A, p.tdiv (gs p q) = A := ⟨_, rfl⟩
  obtain ⟨B, hB⟩ : ∃ B, q.tdiv (gs p q) = B := ⟨_, rfl⟩
  rw [hA] at eA
  rw [hB] at eB pB
  rw [eA] at bA
  rw [eB] at bB
  obtain ⟨k, hk⟩ : ∃ k, p.natAbs = k := ⟨_, rfl⟩
  rw [hk] at hC hS
  clear hk
  have hT := Lib.hid (fun W => sabs_any W A (by omega))
  by_cases c1 : -1000000000 ≤ A ∧ A ≤ 1000000000
  · have d1 : decide ((1000000000 : Int) < (A.natAbs : Nat)) = false := decide_eq_false (by omega)
    by_cases c2 : B ≤ 1000000000
    · rw [low_some hA hB c1 c2]
      have d2 : decide ((1000000000 : Int) < B) = false := decide_eq_false (by omega)
      obtain ⟨m, hm⟩ : ∃ m : Int, (A.natAbs : Nat) = m := ⟨_, rfl⟩
      rw [hm] at d1 hT
      clear hm c1 c2 hA hB
      go_enter Try.func94, Try.ntmps94
      go_wp2_with (first | (go_at_call 84; refine (hS.out _).mono ?_; rintro r w1 ⟨rfl, rfl⟩) | (go_at_call 83; refine (hC.out _).mono ?_; rintro r w2 ⟨rfl, hb2⟩; obtain ⟨hc2, hz2⟩ := bkeep hb2 w.heap.size (by (try simp) <;> omega); have hf2 := bkeepz hb2 w.heap.size (by (try simp) <;> omega)))
      go_region
      all_goals go_wp2_with (go_at_call 84; refine (hT.out _).mono ?_; rintro r w3 ⟨rfl, rfl⟩)
      all_goals have h2 := fun O => twoCellsA (a := .int .i64 0) (b := .int .i64 0) hz2 ((hc2 0).trans (by simp)) ((hc2 1).trans (by simp)) (.int .i64 A) (.int .i64 B) O
      all_goals exact bodyPost_ret (v := .tuple #[.agg #[.int .i64 A, .int .i64 B], .int .i64 0]) (by simp [results, Try.results94, go_sem, (h2 _).1, (h2 _).2]) rfl ⟨rfl, by (repeat (first | exact Below.refl _ _ | assumption | refine bchain (by assumption) ?_ | refine balloc ?_ _ | apply Below.drew | apply below_drewN | (refine Below.alloc ?_ (by (try simp) <;> omega) _) | (refine Below.setCell ?_ (by (try simp) <;> omega) _)))⟩
    · rw [low_none hA hB (by omega)]
      have d2 : decide ((1000000000 : Int) < B) = true := decide_eq_true (by omega)
      obtain ⟨m, hm⟩ : ∃ m : Int, (A.natAbs : Nat) = m := ⟨_, rfl⟩
      rw [hm] at d1 hT
      clear hm c1 c2 hA hB
      go_enter Try.func94, Try.ntmps94
      go_wp2_with (first | (go_at_call 84; refine (hS.out _).mono ?_; rintro r w1 ⟨rfl, rfl⟩) | (go_at_call 83; refine (hC.out _).mono ?_; rintro r w2 ⟨rfl, hb2⟩; obtain ⟨hc2, hz2⟩ := bkeep hb2 w.heap.size (by (try simp) <;> omega); have hf2 := bkeepz hb2 w.heap.size (by (try simp) <;> omega)))
      go_region
      all_goals go_wp2_with (go_at_call 84; refine (hT.out _).mono ?_; rintro r w3 ⟨rfl, rfl⟩)
      all_goals have h2 := fun O => twoCellsA (a := .int .i64 0) (b := .int .i64 0) hz2 ((hc2 0).trans (by simp)) ((hc2 1).trans (by simp)) (.int .i64 0) (.int .i64 0) O
      all_goals exact bodyPost_ret (v := .tuple #[.agg #[.int .i64 0, .int .i64 0], .int .i64 3]) (by simp [results, Try.results94, go_sem, (h2 _).1, (h2 _).2]) rfl ⟨rfl, by (repeat (first | exact Below.refl _ _ | assumption | refine bchain (by assumption) ?_ | refine balloc ?_ _ | apply Below.drew | apply below_drewN | (refine Below.alloc ?_ (by (try simp) <;> omega) _) | (refine Below.setCell ?_ (by (try simp) <;> omega) _)))⟩
  · rw [low_none hA hB (by omega)]
    have d1 : decide ((1000000000 : Int) < (A.natAbs : Nat)) = true := decide_eq_true (by omega)
    obtain ⟨m, hm⟩ : ∃ m : Int, (A.natAbs : Nat) = m := ⟨_, rfl⟩
    rw [hm] at d1 hT
    clear hm c1 hA hB
    go_enter Try.func94, Try.ntmps94
    go_wp2_with (first | (go_at_call 84; refine (hS.out _).mono ?_; rintro r w1 ⟨rfl, rfl⟩) | (go_at_call 83; refine (hC.out _).mono ?_; rintro r w2 ⟨rfl, hb2⟩; obtain ⟨hc2, hz2⟩ := bkeep hb2 w.heap.size (by (try simp) <;> omega); have hf2 := bkeepz hb2 w.heap.size (by (try simp) <;> omega)))
    go_region
    all_goals go_wp2_with (go_at_call 84; refine (hT.out _).mono ?_; rintro r w3 ⟨rfl, rfl⟩)
    all_goals have h2 := fun O => twoCellsA (a := .int .i64 0) (b := .int .i64 0) hz2 ((hc2 0).trans (by simp)) ((hc2 1).trans (by simp)) (.int .i64 0) (.int .i64 0) O
    all_goals exact bodyPost_ret (v := .tuple #[.agg #[.int .i64 0, .int .i64 0], .int .i64 3]) (by simp [results, Try.results94, go_sem, (h2 _).1, (h2 _).2]) rfl ⟨rfl, by (repeat (first | exact Below.refl _ _ | assumption | refine bchain (by assumption) ?_ | refine balloc ?_ _ | apply Below.drew | apply below_drewN | (refine Below.alloc ?_ (by (try simp) <;> omega) _) | (refine Below.setCell ?_ (by (try simp) <;> omega) _)))⟩

set_option maxHeartbeats 1000000 in
theorem sl_neg (p q : Int) (hp : -2000000000000000000 ≤ p ∧ p ≤ 2000000000000000000) (hqb : -2000000000000000000 ≤ q ∧ q ≤ 2000000000000000000) (hq : q < 0) :
    Calls Try.prog 94 #[.int .i64 p, .int .i64 q] w fun r w' => r = .returned (lv (low p q)) ∧ Below w.heap.size w w' := by
  have hg0 : (Int.gcd p q : Nat) ≠ 0 := by rw [Ne, Int.gcd_eq_zero_iff]; omega
  have hge : Int.gcd ((-p).natAbs : Nat) (-q) = Int.gcd p q := by simp [Int.gcd]
  have eg : gs p q = -(Int.gcd p q : Nat) := by unfold gs; rw [if_pos hq]
  have eA : (-p).tdiv (Int.gcd p q : Nat) = p.tdiv (gs p q) := by rw [eg, Int.neg_tdiv, Int.tdiv_neg]
  have eB : (-q).tdiv (Int.gcd p q : Nat) = q.tdiv (gs p q) := by rw [eg, Int.neg_tdiv, Int.tdiv_neg]
  have bA := tdiv_abs (-p) (Int.gcd p q : Nat) 2000000000000000000 (by omega)
  have bB := tdiv_abs (-q) (Int.gcd p q : Nat) 2000000000000000000 (by omega)
  have pB := low_den (p := p) (q := q) (by omega)
  have hC := Lib.hid (fun W => scb_any W ((-p).natAbs : Nat) (-q) (by omega) (by omega))
  rw [hge] at hC
  have hS := Lib.hid (fun W => sabs_any W (-p) (by omega))
  clear hge eg
  obtain ⟨g, hg⟩ : ∃ g : Int, ((Int.gcd p q : Nat) : Int) = g := ⟨_, rfl⟩
  rw [hg] at hC eA eB bA bB
  have hgn : ¬ g = 0 := by omega
  clear hg0 hg
  obtain ⟨A, hA⟩ : ∃ A, p.tdiv (gs p q) = A := ⟨_, rfl⟩
  obtain ⟨B, hB⟩ : ∃ B, q.tdiv (gs p q) = B := ⟨_, rfl⟩
  rw [hA] at eA
  rw [hB] at eB pB
  rw [eA] at bA
  rw [eB] at bB
  obtain ⟨k, hk⟩ : ∃ k, (-p).natAbs = k := ⟨_, rfl⟩
  rw [hk] at hC hS
  clear hk
  have hT := Lib.hid (fun W => sabs_any W A (by omega))
  by_cases c1 : -1000000000 ≤ A ∧ A ≤ 1000000000
  · have d1 : decide ((1000000000 : Int) < (A.natAbs : Nat)) = false := decide_eq_false (by omega)
    by_cases c2 : B ≤ 1000000000
    · rw [low_some hA hB c1 c2]
      have d2 : decide ((1000000000 : Int) < B) = false := decide_eq_false (by omega)
      obtain ⟨m, hm⟩ : ∃ m : Int, (A.natAbs : Nat) = m := ⟨_, rfl⟩
      rw [hm] at d1 hT
      clear hm c1 c2 hA hB
      go_enter Try.func94, Try.ntmps94
      go_wp2_with (first | (go_at_call 84; refine (hS.out _).mono ?_; rintro r w1 ⟨rfl, rfl⟩) | (go_at_call 83; refine (hC.out _).mono ?_; rintro r w2 ⟨rfl, hb2⟩; obtain ⟨hc2, hz2⟩ := bkeep hb2 w.heap.size (by (try simp) <;> omega); have hf2 := bkeepz hb2 w.heap.size (by (try simp) <;> omega)))
      go_region
      all_goals go_wp2_with (go_at_call 84; refine (hT.out _).mono ?_; rintro r w3 ⟨rfl, rfl⟩)
      all_goals have h2 := fun O => twoCellsA (a := .int .i64 0) (b := .int .i64 0) hz2 ((hc2 0).trans (by simp)) ((hc2 1).trans (by simp)) (.int .i64 A) (.int .i64 B) O
      all_goals exact bodyPost_ret (v := .tuple #[.agg #[.int .i64 A, .int .i64 B], .int .i64 0]) (by simp [results, Try.results94, go_sem, (h2 _).1, (h2 _).2]) rfl ⟨rfl, by (repeat (first | exact Below.refl _ _ | assumption | refine bchain (by assumption) ?_ | refine balloc ?_ _ | apply Below.drew | apply below_drewN | (refine Below.alloc ?_ (by (try simp) <;> omega) _) | (refine Below.setCell ?_ (by (try simp) <;> omega) _)))⟩
    · rw [low_none hA hB (by omega)]
      have d2 : decide ((1000000000 : Int) < B) = true := decide_eq_true (by omega)
      obtain ⟨m, hm⟩ : ∃ m : Int, (A.natAbs : Nat) = m := ⟨_, rfl⟩
      rw [hm] at d1 hT
      clear hm c1 c2 hA hB
      go_enter Try.func94, Try.ntmps94
      go_wp2_with (first | (go_at_call 84; refine (hS.out _).mono ?_; rintro r w1 ⟨rfl, rfl⟩) | (go_at_call 83; refine (hC.out _).mono ?_; rintro r w2 ⟨rfl, hb2⟩; obtain ⟨hc2, hz2⟩ := bkeep hb2 w.heap.size (by (try simp) <;> omega); have hf2 := bkeepz hb2 w.heap.size (by (try simp) <;> omega)))
      go_region
      all_goals go_wp2_with (go_at_call 84; refine (hT.out _).mono ?_; rintro r w3 ⟨rfl, rfl⟩)
      all_goals have h2 := fun O => twoCellsA (a := .int .i64 0) (b := .int .i64 0) hz2 ((hc2 0).trans (by simp)) ((hc2 1).trans (by simp)) (.int .i64 0) (.int .i64 0) O
      all_goals exact bodyPost_ret (v := .tuple #[.agg #[.int .i64 0, .int .i64 0], .int .i64 3]) (by simp [results, Try.results94, go_sem, (h2 _).1, (h2 _).2]) rfl ⟨rfl, by (repeat (first | exact Below.refl _ _ | assumption | refine bchain (by assumption) ?_ | refine balloc ?_ _ | apply Below.drew | apply below_drewN | (refine Below.alloc ?_ (by (try simp) <;> omega) _) | (refine Below.setCell ?_ (by (try simp) <;> omega) _)))⟩
  · rw [low_none hA hB (by omega)]
    have d1 : decide ((1000000000 : Int) < (A.natAbs : Nat)) = true := decide_eq_true (by omega)
    obtain ⟨m, hm⟩ : ∃ m : Int, (A.natAbs : Nat) = m := ⟨_, rfl⟩
    rw [hm] at d1 hT
    clear hm c1 hA hB
    go_enter Try.func94, Try.ntmps94
    go_wp2_with (first | (go_at_call 84; refine (hS.out _).mono ?_; rintro r w1 ⟨rfl, rfl⟩) | (go_at_call 83; refine (hC.out _).mono ?_; rintro r w2 ⟨rfl, hb2⟩; obtain ⟨hc2, hz2⟩ := bkeep hb2 w.heap.size (by (try simp) <;> omega); have hf2 := bkeepz hb2 w.heap.size (by (try simp) <;> omega)))
    go_region
    all_goals go_wp2_with (go_at_call 84; refine (hT.out _).mono ?_; rintro r w3 ⟨rfl, rfl⟩)
    all_goals have h2 := fun O => twoCellsA (a := .int .i64 0) (b := .int .i64 0) hz2 ((hc2 0).trans (by simp)) ((hc2 1).trans (by simp)) (.int .i64 0) (.int .i64 0) O
    all_goals exact bodyPost_ret (v := .tuple #[.agg #[.int .i64 0, .int .i64 0], .int .i64 3]) (by simp [results, Try.results94, go_sem, (h2 _).1, (h2 _).2]) rfl ⟨rfl, by (repeat (first | exact Below.refl _ _ | assumption | refine bchain (by assumption) ?_ | refine balloc ?_ _ | apply Below.drew | apply below_drewN | (refine Below.alloc ?_ (by (try simp) <;> omega) _) | (refine Below.setCell ?_ (by (try simp) <;> omega) _)))⟩
theorem sl_any (p q : Int) (hp : -2000000000000000000 ≤ p ∧ p ≤ 2000000000000000000) (hqb : -2000000000000000000 ≤ q ∧ q ≤ 2000000000000000000) (hq : q ≠ 0) :
    Calls Try.prog 94 #[.int .i64 p, .int .i64 q] w fun r w' => r = .returned (lv (low p q)) ∧ Below w.heap.size w w' := by
  rcases Int.lt_or_gt_of_ne hq with h | h
  · exact sl_neg w p q hp hqb h
  · exact sl_pos w p q hp hqb h

set_option maxHeartbeats 1000000 in
theorem q_pos (p q : Int) (hp : -2000000000000000000 ≤ p ∧ p ≤ 2000000000000000000) (hqb : -2000000000000000000 ≤ q ∧ q ≤ 2000000000000000000) (hq : 0 < q) :
    Calls Try.prog 101 #[.int .i64 p, .int .i64 q] w fun r w' => r = qe (low p q) ∧ Below w.heap.size w w' := by
  have hg0 : (Int.gcd p q : Nat) ≠ 0 := by rw [Ne, Int.gcd_eq_zero_iff]; omega
  have eg : gs p q = (Int.gcd p q : Nat) := by unfold gs; rw [if_neg (by omega)]
  have eA : p.tdiv (Int.gcd p q : Nat) = p.tdiv (gs p q) := by rw [eg]
  have eB : q.tdiv (Int.gcd p q : Nat) = q.tdiv (gs p q) := by rw [eg]
  have hd0 := decide_eq_false (show ¬ q < 0 by omega)
  have bA := tdiv_abs p (Int.gcd p q : Nat) 2000000000000000000 (by omega)
  have bB := tdiv_abs q (Int.gcd p q : Nat) 2000000000000000000 (by omega)
  have pB := low_den (p := p) (q := q) (by omega)
  have bg : ((Int.gcd p q : Nat) : Int) ≤ 2000000000000000000 := by
    have := Int.gcd_le_natAbs_right p (show q ≠ 0 by omega)
    omega
  have hC := Lib.hid (fun W => cd_any W p q hp hqb)
  clear eg
  obtain ⟨g, hg⟩ : ∃ g : Int, ((Int.gcd p q : Nat) : Int) = g := ⟨_, rfl⟩
  rw [hg] at hC eA eB bA bB bg
  have hgn : ¬ g = 0 := by omega
  have hg1 : 0 < g := by omega
  clear hg0 hg
  obtain ⟨A, hA⟩ : ∃ A, p.tdiv (gs p q) = A := ⟨_, rfl⟩
  obtain ⟨B, hB⟩ : ∃ B, q.tdiv (gs p q) = B := ⟨_, rfl⟩
  rw [hA] at eA
  rw [hB] at eB pB
  rw [eA] at bA
  rw [eB] at bB
  have hT := Lib.hid (fun W => am_any W 1000000000 A (by omega))
  have hU := Lib.hid (fun W => am_any W 1000000000 B (by omega))
  obtain ⟨b1, e1⟩ : ∃ b1, decide (-1000000000 ≤ A ∧ A ≤ 1000000000) = b1 := ⟨_, rfl⟩
  obtain ⟨b2, e2⟩ : ∃ b2, decide (-1000000000 ≤ B ∧ B ≤ 1000000000) = b2 := ⟨_, rfl⟩
  rw [e1] at hT
  rw [e2] at hU
  have key : (b1 = true ∧ b2 = true ∧ low p q = some (A, B)) ∨ (b1 = true ∧ b2 = false ∧ low p q = none) ∨ (b1 = false ∧ low p q = none) := by
    by_cases c1 : -1000000000 ≤ A ∧ A ≤ 1000000000
    · rw [decide_eq_true c1] at e1
      by_cases c2 : B ≤ 1000000000
      · rw [decide_eq_true ⟨by omega, c2⟩] at e2
        exact .inl ⟨e1.symm, e2.symm, low_some hA hB c1 c2⟩
      · rw [decide_eq_false (by omega)] at e2
        exact .inr (.inl ⟨e1.symm, e2.symm, low_none hA hB (by omega)⟩)
    · rw [decide_eq_false c1] at e1
      exact .inr (.inr ⟨e1.symm, low_none hA hB (by omega)⟩)
  clear e1 e2 hA hB
  rcases key with ⟨rfl, rfl, hl⟩ | ⟨rfl, rfl, hl⟩ | ⟨rfl, hl⟩
  · rw [hl]
    go_enter Try.func101, Try.ntmps101
    go_wp2_with (go_at_call 86; refine (hC.out _).mono ?_; rintro r w2 ⟨rfl, hb2⟩; obtain ⟨hc2, hz2⟩ := bkeep hb2 w.heap.size (by (try simp) <;> omega); have hf2 := bkeepz hb2 w.heap.size (by (try simp) <;> omega))
    go_region
    all_goals go_wp2_with (go_at_call 85; first | (with_reducible refine (hT.out _).mono ?_; rintro r w3 ⟨rfl, rfl⟩) | (with_reducible refine (hU.out _).mono ?_; rintro r w3 ⟨rfl, rfl⟩))
    all_goals have h2 := fun O => twoCellsA (a := .int .i64 0) (b := .int .i64 0) hz2 ((hc2 0).trans (by simp)) ((hc2 1).trans (by simp)) (.int .i64 A) (.int .i64 B) O
    all_goals exact bodyPost_ret (v := .agg #[.int .i64 A, .int .i64 B]) (by simp [results, Try.results101, go_sem, (h2 _).1, (h2 _).2]) rfl ⟨rfl, by (repeat (first | exact Below.refl _ _ | assumption | refine bchain (by assumption) ?_ | refine balloc ?_ _ | apply Below.drew | apply below_drewN | (refine Below.alloc ?_ (by (try simp) <;> omega) _) | (refine Below.setCell ?_ (by (try simp) <;> omega) _)))⟩
  · rw [hl]
    go_enter Try.func101, Try.ntmps101
    go_wp2_with (go_at_call 86; refine (hC.out _).mono ?_; rintro r w2 ⟨rfl, hb2⟩; obtain ⟨hc2, hz2⟩ := bkeep hb2 w.heap.size (by (try simp) <;> omega); have hf2 := bkeepz hb2 w.heap.size (by (try simp) <;> omega))
    go_region
    all_goals go_wp2_with (go_at_call 85; first | (with_reducible refine (hT.out _).mono ?_; rintro r w3 ⟨rfl, rfl⟩) | (with_reducible refine (hU.out _).mono ?_; rintro r w3 ⟨rfl, rfl⟩))
    all_goals exact ⟨rfl, rfl, by (repeat (first | exact Below.refl _ _ | assumption | refine bchain (by assumption) ?_ | refine balloc ?_ _ | apply Below.drew | apply below_drewN | (refine Below.alloc ?_ (by (try simp) <;> omega) _) | (refine Below.setCell ?_ (by (try simp) <;> omega) _)))⟩
  · rw [hl]
    go_enter Try.func101, Try.ntmps101
    go_wp2_with (go_at_call 86; refine (hC.out _).mono ?_; rintro r w2 ⟨rfl, hb2⟩; obtain ⟨hc2, hz2⟩ := bkeep hb2 w.heap.size (by (try simp) <;> omega); have hf2 := bkeepz hb2 w.heap.size (by (try simp) <;> omega))
    go_region
    all_goals go_wp2_with (go_at_call 85; refine (hT.out _).mono ?_; rintro r w3 ⟨rfl, rfl⟩)
    all_goals exact ⟨rfl, rfl, by (repeat (first | exact Below.refl _ _ | assumption | refine bchain (by assumption) ?_ | refine balloc ?_ _ | apply Below.drew | apply below_drewN | (refine Below.alloc ?_ (by (try simp) <;> omega) _) | (refine Below.setCell ?_ (by (try simp) <;> omega) _)))⟩

set_option maxHeartbeats 1000000 in
theorem q_neg (p q : Int) (hp : -2000000000000000000 ≤ p ∧ p ≤ 2000000000000000000) (hqb : -2000000000000000000 ≤ q ∧ q ≤ 2000000000000000000) (hq : q < 0) :
    Calls Try.prog 101 #[.int .i64 p, .int .i64 q] w fun r w' => r = qe (low p q) ∧ Below w.heap.size w w' := by
  have hg0 : (Int.gcd p q : Nat) ≠ 0 := by rw [Ne, Int.gcd_eq_zero_iff]; omega
  have eg : gs p q = -(Int.gcd p q : Nat) := by unfold gs; rw [if_pos hq]
  have eA : p.tdiv (-(Int.gcd p q : Nat)) = p.tdiv (gs p q) := by rw [eg]
  have eB : q.tdiv (-(Int.gcd p q : Nat)) = q.tdiv (gs p q) := by rw [eg]
  have bA := tdiv_abs p (-(Int.gcd p q : Nat)) 2000000000000000000 (by omega)
  have bB := tdiv_abs q (-(Int.gcd p q : Nat)) 2000000000000000000 (by omega)
  have pB := low_den (p := p) (q := q) (by omega)
  have bg : ((Int.gcd p q : Nat) : Int) ≤ 2000000000000000000 := by
    have := Int.gcd_le_natAbs_right p (show q ≠ 0 by omega)
    omega
  have hC := Lib.hid (fun W => cd_any W p q hp hqb)
  clear eg
  obtain ⟨g, hg⟩ : ∃ g : Int, ((Int.gcd p q : Nat) : Int) = g := ⟨_, rfl⟩
  rw [hg] at hC eA eB bA bB bg
  have hgn : ¬ g = 0 := by omega
  have hg1 : 0 < g := by omega
  clear hg0 hg
  obtain ⟨A, hA⟩ : ∃ A, p.tdiv (gs p q) = A := ⟨_, rfl⟩
  obtain ⟨B, hB⟩ : ∃ B, q.tdiv (gs p q) = B := ⟨_, rfl⟩
  rw [hA] at eA
  rw [hB] at eB pB
  rw [eA] at bA
  rw [eB] at bB
  have hT := Lib.hid (fun W => am_any W 1000000000 A (by omega))
  have hU := Lib.hid (fun W => am_any W 1000000000 B (by omega))
  obtain ⟨b1, e1⟩ : ∃ b1, decide (-1000000000 ≤ A ∧ A ≤ 1000000000) = b1 := ⟨_, rfl⟩
  obtain ⟨b2, e2⟩ : ∃ b2, decide (-1000000000 ≤ B ∧ B ≤ 1000000000) = b2 := ⟨_, rfl⟩
  rw [e1] at hT
  rw [e2] at hU
  have key : (b1 = true ∧ b2 = true ∧ low p q = some (A, B)) ∨ (b1 = true ∧ b2 = false ∧ low p q = none) ∨ (b1 = false ∧ low p q = none) := by
    by_cases c1 : -1000000000 ≤ A ∧ A ≤ 1000000000
    · rw [decide_eq_true c1] at e1
      by_cases c2 : B ≤ 1000000000
      · rw [decide_eq_true ⟨by omega, c2⟩] at e2
        exact .inl ⟨e1.symm, e2.symm, low_some hA hB c1 c2⟩
      · rw [decide_eq_false (by omega)] at e2
        exact .inr (.inl ⟨e1.symm, e2.symm, low_none hA hB (by omega)⟩)
    · rw [decide_eq_false c1] at e1
      exact .inr (.inr ⟨e1.symm, low_none hA hB (by omega)⟩)
  clear e1 e2 hA hB
  rcases key with ⟨rfl, rfl, hl⟩ | ⟨rfl, rfl, hl⟩ | ⟨rfl, hl⟩
  · rw [hl]
    go_enter Try.func101, Try.ntmps101
    go_wp2_with (go_at_call 86; refine (hC.out _).mono ?_; rintro r w2 ⟨rfl, hb2⟩; obtain ⟨hc2, hz2⟩ := bkeep hb2 w.heap.size (by (try simp) <;> omega); have hf2 := bkeepz hb2 w.heap.size (by (try simp) <;> omega))
    go_region
    all_goals go_wp2_with (go_at_call 85; first | (with_reducible refine (hT.out _).mono ?_; rintro r w3 ⟨rfl, rfl⟩) | (with_reducible refine (hU.out _).mono ?_; rintro r w3 ⟨rfl, rfl⟩))
    all_goals have h2 := fun O => twoCellsA (a := .int .i64 0) (b := .int .i64 0) hz2 ((hc2 0).trans (by simp)) ((hc2 1).trans (by simp)) (.int .i64 A) (.int .i64 B) O
    all_goals exact bodyPost_ret (v := .agg #[.int .i64 A, .int .i64 B]) (by simp [results, Try.results101, go_sem, (h2 _).1, (h2 _).2]) rfl ⟨rfl, by (repeat (first | exact Below.refl _ _ | assumption | refine bchain (by assumption) ?_ | refine balloc ?_ _ | apply Below.drew | apply below_drewN | (refine Below.alloc ?_ (by (try simp) <;> omega) _) | (refine Below.setCell ?_ (by (try simp) <;> omega) _)))⟩
  · rw [hl]
    go_enter Try.func101, Try.ntmps101
    go_wp2_with (go_at_call 86; refine (hC.out _).mono ?_; rintro r w2 ⟨rfl, hb2⟩; obtain ⟨hc2, hz2⟩ := bkeep hb2 w.heap.size (by (try simp) <;> omega); have hf2 := bkeepz hb2 w.heap.size (by (try simp) <;> omega))
    go_region
    all_goals go_wp2_with (go_at_call 85; first | (with_reducible refine (hT.out _).mono ?_; rintro r w3 ⟨rfl, rfl⟩) | (with_reducible refine (hU.out _).mono ?_; rintro r w3 ⟨rfl, rfl⟩))
    all_goals exact ⟨rfl, rfl, by (repeat (first | exact Below.refl _ _ | assumption | refine bchain (by assumption) ?_ | refine balloc ?_ _ | apply Below.drew | apply below_drewN | (refine Below.alloc ?_ (by (try simp) <;> omega) _) | (refine Below.setCell ?_ (by (try simp) <;> omega) _)))⟩
  · rw [hl]
    go_enter Try.func101, Try.ntmps101
    go_wp2_with (go_at_call 86; refine (hC.out _).mono ?_; rintro r w2 ⟨rfl, hb2⟩; obtain ⟨hc2, hz2⟩ := bkeep hb2 w.heap.size (by (try simp) <;> omega); have hf2 := bkeepz hb2 w.heap.size (by (try simp) <;> omega))
    go_region
    all_goals go_wp2_with (go_at_call 85; refine (hT.out _).mono ?_; rintro r w3 ⟨rfl, rfl⟩)
    all_goals exact ⟨rfl, rfl, by (repeat (first | exact Below.refl _ _ | assumption | refine bchain (by assumption) ?_ | refine balloc ?_ _ | apply Below.drew | apply below_drewN | (refine Below.alloc ?_ (by (try simp) <;> omega) _) | (refine Below.setCell ?_ (by (try simp) <;> omega) _)))⟩
theorem q_any (p q : Int) (hp : -2000000000000000000 ≤ p ∧ p ≤ 2000000000000000000) (hqb : -2000000000000000000 ≤ q ∧ q ≤ 2000000000000000000) (hq : q ≠ 0) :
    Calls Try.prog 101 #[.int .i64 p, .int .i64 q] w fun r w' => r = qe (low p q) ∧ Below w.heap.size w w' := by
  rcases Int.lt_or_gt_of_ne hq with h | h
  · exact q_neg w p q hp hqb h
  · exact q_pos w p q hp hqb h
end
end Go.Proofs.Ytdibcchhamapjac
