/-
  CONTRACTS: CompareFractions: the program's and the model's.
-/
import Derived.Test.YtonjmoiognbjbaaFOps
import Derived.Test.YtonjmoiognbjbaaVfr
namespace Go.Proofs.Ytonjmoiognbjbaa
open Go.RowKit
set_option maxRecDepth 100000
section
variable (w : World)

theorem cmp_lt (m1 m2 : Int) (h : m1 < m2) :
    Calls Try.prog 45 #[.int .i64 m1, .int .i64 m2] w fun r w' => r = .returned (.int .i64 (-1)) ∧ Below w.heap.size w w' := by
  go_enter Try.func45, Try.ntmps45
  go_wp2
  go_ret
  exact ⟨rfl, by (repeat (first | exact Below.refl _ _ | assumption | refine bchain (by assumption) ?_ | refine balloc ?_ _ | apply Below.drew | apply below_drewN | (refine Below.alloc ?_ (by (try simp) <;> omega) _) | (refine Below.setCell ?_ (by (try simp) <;> omega) _)))⟩
theorem scmp_lt (a1 a2 b1 b2 m1 m2 : Int) (e1 : a1 * b2 = m1) (e2 : b1 * a2 = m2) (c1 : -1000000000000000000 ≤ m1 ∧ m1 ≤ 1000000000000000000) (c2 : -1000000000000000000 ≤ m2 ∧ m2 ≤ 1000000000000000000) (h : m1 < m2) :
    Calls Try.prog 44 #[.agg #[.int .i64 a1, .int .i64 a2], .agg #[.int .i64 b1, .int .i64 b2]] w fun r w' => r = .returned (.int .i64 (-1)) ∧ Below w.heap.size w w' := by
  go_enter Try.func44, Try.ntmps44
  go_wp2
  go_ret
  exact ⟨rfl, by (repeat (first | exact Below.refl _ _ | assumption | refine bchain (by assumption) ?_ | refine balloc ?_ _ | apply Below.drew | apply below_drewN | (refine Below.alloc ?_ (by (try simp) <;> omega) _) | (refine Below.setCell ?_ (by (try simp) <;> omega) _)))⟩

theorem cmp_gt (m1 m2 : Int) (h : m2 < m1) :
    Calls Try.prog 45 #[.int .i64 m1, .int .i64 m2] w fun r w' => r = .returned (.int .i64 1) ∧ Below w.heap.size w w' := by
  have d1 := decide_eq_false (show ¬ m1 < m2 by omega)
  go_enter Try.func45, Try.ntmps45
  go_wp2
  go_ret
  exact ⟨rfl, by (repeat (first | exact Below.refl _ _ | assumption | refine bchain (by assumption) ?_ | refine balloc ?_ _ | apply Below.drew | apply below_drewN | (refine Below.alloc ?_ (by (try simp) <;> omega) _) | (refine Below.setCell ?_ (by (try simp) <;> omega) _)))⟩
theorem scmp_gt (a1 a2 b1 b2 m1 m2 : Int) (e1 : a1 * b2 = m1) (e2 : b1 * a2 = m2) (c1 : -1000000000000000000 ≤ m1 ∧ m1 ≤ 1000000000000000000) (c2 : -1000000000000000000 ≤ m2 ∧ m2 ≤ 1000000000000000000) (h : m2 < m1) :
    Calls Try.prog 44 #[.agg #[.int .i64 a1, .int .i64 a2], .agg #[.int .i64 b1, .int .i64 b2]] w fun r w' => r = .returned (.int .i64 1) ∧ Below w.heap.size w w' := by
  have d1 := decide_eq_false (show ¬ m1 < m2 by omega)
  go_enter Try.func44, Try.ntmps44
  go_wp2
  go_ret
  exact ⟨rfl, by (repeat (first | exact Below.refl _ _ | assumption | refine bchain (by assumption) ?_ | refine balloc ?_ _ | apply Below.drew | apply below_drewN | (refine Below.alloc ?_ (by (try simp) <;> omega) _) | (refine Below.setCell ?_ (by (try simp) <;> omega) _)))⟩

theorem cmp_eq (m1 m2 : Int) (h : m1 = m2) :
    Calls Try.prog 45 #[.int .i64 m1, .int .i64 m2] w fun r w' => r = .returned (.int .i64 0) ∧ Below w.heap.size w w' := by
  subst h
  have d1 := decide_eq_false (Int.lt_irrefl m1)
  go_enter Try.func45, Try.ntmps45
  go_wp2
  go_ret
  exact ⟨rfl, by (repeat (first | exact Below.refl _ _ | assumption | refine bchain (by assumption) ?_ | refine balloc ?_ _ | apply Below.drew | apply below_drewN | (refine Below.alloc ?_ (by (try simp) <;> omega) _) | (refine Below.setCell ?_ (by (try simp) <;> omega) _)))⟩
theorem scmp_eq (a1 a2 b1 b2 m1 m2 : Int) (e1 : a1 * b2 = m1) (e2 : b1 * a2 = m2) (c1 : -1000000000000000000 ≤ m1 ∧ m1 ≤ 1000000000000000000) (c2 : -1000000000000000000 ≤ m2 ∧ m2 ≤ 1000000000000000000) (h : m1 = m2) :
    Calls Try.prog 44 #[.agg #[.int .i64 a1, .int .i64 a2], .agg #[.int .i64 b1, .int .i64 b2]] w fun r w' => r = .returned (.int .i64 0) ∧ Below w.heap.size w w' := by
  subst h
  have d1 := decide_eq_false (Int.lt_irrefl m1)
  go_enter Try.func44, Try.ntmps44
  go_wp2
  go_ret
  exact ⟨rfl, by (repeat (first | exact Below.refl _ _ | assumption | refine bchain (by assumption) ?_ | refine balloc ?_ _ | apply Below.drew | apply below_drewN | (refine Below.alloc ?_ (by (try simp) <;> omega) _) | (refine Below.setCell ?_ (by (try simp) <;> omega) _)))⟩

/-- which of two numbers is less -/
def cmpI (a b : Int) : Int := if a < b then -1 else if b < a then 1 else 0
theorem cmp_any (m1 m2 : Int) : Calls Try.prog 45 #[.int .i64 m1, .int .i64 m2] w fun r w' => r = .returned (.int .i64 (cmpI m1 m2)) ∧ Below w.heap.size w w' := by
  unfold cmpI
  by_cases h1 : m1 < m2
  · rw [if_pos h1]; exact cmp_lt w m1 m2 h1
  · rw [if_neg h1]
    by_cases h2 : m2 < m1
    · rw [if_pos h2]; exact cmp_gt w m1 m2 h2
    · rw [if_neg h2]; exact cmp_eq w m1 m2 (by omega)
theorem scmp_any (a b : Int × Int) (ha : VP a) (hb : VP b) :
    Calls Try.prog 44 #[fv a, fv b] w fun r w' => r = .returned (.int .i64 (cmpI (a.1 * b.2) (b.1 * a.2))) ∧ Below w.heap.size w w' := by
  have c1 := mul_b ha.b1 hb.b2
  have c2 := mul_b hb.b1 ha.b2
  obtain ⟨a1, a2⟩ := a
  obtain ⟨b1, b2⟩ := b
  unfold fv cmpI
  dsimp only at *
  by_cases h1 : a1 * b2 < b1 * a2
  · rw [if_pos h1]; exact scmp_lt w a1 a2 b1 b2 _ _ rfl rfl c1 c2 h1
  · rw [if_neg h1]
    by_cases h2 : b1 * a2 < a1 * b2
    · rw [if_pos h2]; exact scmp_gt w a1 a2 b1 b2 _ _ rfl rfl c1 c2 h2
    · rw [if_neg h2]; exact scmp_eq w a1 a2 b1 b2 _ _ rfl rfl c1 c2 (by omega)

theorem scf_bad1 (a b : Int × Int) (ha : ¬ VP a) :
    Calls Try.prog 24 #[fv a, fv b] w fun r w' => r = .returned (.tuple #[.int .i64 0, .int .i64 1]) ∧ Below w.heap.size w w' := by
  have hV := Lib.hid (fun W => ok_any W a.1 a.2)
  rw [decide_eq_false (show ¬ VF a.1 a.2 from ha)] at hV
  obtain ⟨a1, a2⟩ := a
  obtain ⟨b1, b2⟩ := b
  unfold fv
  clear ha
  dsimp only at *
  go_enter Try.func24, Try.ntmps24
  go_wp2_with fail
  refine (hV.out _).mono ?_
  rintro r1 w1 ⟨rfl, hb1⟩
  go_wp2
  go_ret2
  exact ⟨rfl, by (repeat (first | exact Below.refl _ _ | assumption | refine bchain (by assumption) ?_ | refine balloc ?_ _ | apply Below.drew | apply below_drewN | (refine Below.alloc ?_ (by (try simp) <;> omega) _) | (refine Below.setCell ?_ (by (try simp) <;> omega) _)))⟩
theorem scf_bad2 (a b : Int × Int) (ha : VP a) (hb : ¬ VP b) :
    Calls Try.prog 24 #[fv a, fv b] w fun r w' => r = .returned (.tuple #[.int .i64 0, .int .i64 1]) ∧ Below w.heap.size w w' := by
  have hV := Lib.hid (fun W => ok_any W a.1 a.2)
  have hW := Lib.hid (fun W => ok_any W b.1 b.2)
  rw [decide_eq_true (show VF a.1 a.2 from ha)] at hV
  rw [decide_eq_false (show ¬ VF b.1 b.2 from hb)] at hW
  obtain ⟨a1, a2⟩ := a
  obtain ⟨b1, b2⟩ := b
  unfold fv
  clear ha hb
  dsimp only at *
  go_enter Try.func24, Try.ntmps24
  go_wp2_with fail
  refine (hV.out _).mono ?_
  rintro r1 w1 ⟨rfl, hb1⟩
  obtain ⟨hc1_0, hz1_0⟩ := bkeep hb1 (w.heap.size) (by (try simp) <;> omega)
  obtain ⟨hc1_1, hz1_1⟩ := bkeep hb1 (w.heap.size + 1) (by (try simp) <;> omega)
  go_wp2_with fail
  refine (hW.out _).mono ?_
  rintro r2 w2 ⟨rfl, hb2⟩
  go_wp2
  go_ret2
  exact ⟨rfl, by (repeat (first | exact Below.refl _ _ | assumption | refine bchain (by assumption) ?_ | refine balloc ?_ _ | apply Below.drew | apply below_drewN | (refine Below.alloc ?_ (by (try simp) <;> omega) _) | (refine Below.setCell ?_ (by (try simp) <;> omega) _)))⟩
theorem scf_ok (a b : Int × Int) (ha : VP a) (hb : VP b) :
    Calls Try.prog 24 #[fv a, fv b] w fun r w' => r = .returned (.tuple #[.int .i64 (cmpI (a.1 * b.2) (b.1 * a.2)), .int .i64 0]) ∧ Below w.heap.size w w' := by
  have hV := Lib.hid (fun W => ok_any W a.1 a.2)
  have hW := Lib.hid (fun W => ok_any W b.1 b.2)
  rw [decide_eq_true (show VF a.1 a.2 from ha)] at hV
  rw [decide_eq_true (show VF b.1 b.2 from hb)] at hW
  have c1 := mul_b ha.b1 hb.b2
  have c2 := mul_b hb.b1 ha.b2
  have hC := Lib.hid (fun W => scmp_any W a b ha hb)
  obtain ⟨v, hv⟩ : ∃ v, cmpI (a.1 * b.2) (b.1 * a.2) = v := ⟨_, rfl⟩
  rw [hv] at hC ⊢
  obtain ⟨a1, a2⟩ := a
  obtain ⟨b1, b2⟩ := b
  unfold fv at *
  clear ha hb hv
  dsimp only at *
  obtain ⟨m1, hm1⟩ : ∃ m1 : Int, a1 * b2 = m1 := ⟨_, rfl⟩
  obtain ⟨m2, hm2⟩ : ∃ m2 : Int, b1 * a2 = m2 := ⟨_, rfl⟩
  rw [hm1] at c1 
  rw [hm2] at c2 
  go_enter Try.func24, Try.ntmps24
  go_wp2_with fail
  refine (hV.out _).mono ?_
  rintro r1 w1 ⟨rfl, hb1⟩
  obtain ⟨hc1_0, hz1_0⟩ := bkeep hb1 (w.heap.size) (by (try simp) <;> omega)
  obtain ⟨hc1_1, hz1_1⟩ := bkeep hb1 (w.heap.size + 1) (by (try simp) <;> omega)
  go_wp2_with fail
  refine (hW.out _).mono ?_
  rintro r2 w2 ⟨rfl, hb2⟩
  obtain ⟨hc2_0, hz2_0⟩ := bkeep hb2 (w.heap.size) (by (try simp) <;> omega)
  obtain ⟨hc2_1, hz2_1⟩ := bkeep hb2 (w.heap.size + 1) (by (try simp) <;> omega)
  go_wp2_with fail
  refine (hC.out _).mono ?_
  rintro r3 w3 ⟨rfl, hb3⟩
  go_wp2
  go_ret2
  exact ⟨rfl, by (repeat (first | exact Below.refl _ _ | assumption | refine bchain (by assumption) ?_ | refine balloc ?_ _ | apply Below.drew | apply below_drewN | (refine Below.alloc ?_ (by (try simp) <;> omega) _) | (refine Below.setCell ?_ (by (try simp) <;> omega) _)))⟩

theorem icf_bad1 (a b : Int × Int) (ha : ¬ VP a) :
    Calls Try.prog 25 #[fv a, fv b] w fun r w' => r = .returned (.tuple #[.int .i64 0, .int .i64 1]) ∧ Below w.heap.size w w' := by
  have hV := Lib.hid (fun W => vf_any W a.1 a.2)
  rw [decide_eq_false (show ¬ VF a.1 a.2 from ha)] at hV
  obtain ⟨a1, a2⟩ := a
  obtain ⟨b1, b2⟩ := b
  unfold fv
  clear ha
  dsimp only at *
  go_enter Try.func25, Try.ntmps25
  go_wp2_with fail
  refine (hV.out _).mono ?_
  rintro r1 w1 ⟨rfl, hb1⟩
  go_wp2
  go_ret2
  exact ⟨rfl, by (repeat (first | exact Below.refl _ _ | assumption | refine bchain (by assumption) ?_ | refine balloc ?_ _ | apply Below.drew | apply below_drewN | (refine Below.alloc ?_ (by (try simp) <;> omega) _) | (refine Below.setCell ?_ (by (try simp) <;> omega) _)))⟩
theorem icf_bad2 (a b : Int × Int) (ha : VP a) (hb : ¬ VP b) :
    Calls Try.prog 25 #[fv a, fv b] w fun r w' => r = .returned (.tuple #[.int .i64 0, .int .i64 1]) ∧ Below w.heap.size w w' := by
  have hV := Lib.hid (fun W => vf_any W a.1 a.2)
  have hW := Lib.hid (fun W => vf_any W b.1 b.2)
  rw [decide_eq_true (show VF a.1 a.2 from ha)] at hV
  rw [decide_eq_false (show ¬ VF b.1 b.2 from hb)] at hW
  obtain ⟨a1, a2⟩ := a
  obtain ⟨b1, b2⟩ := b
  unfold fv
  clear ha hb
  dsimp only at *
  go_enter Try.func25, Try.ntmps25
  go_wp2_with fail
  refine (hV.out _).mono ?_
  rintro r1 w1 ⟨rfl, hb1⟩
  obtain ⟨hc1_0, hz1_0⟩ := bkeep hb1 (w.heap.size) (by (try simp) <;> omega)
  obtain ⟨hc1_1, hz1_1⟩ := bkeep hb1 (w.heap.size + 1) (by (try simp) <;> omega)
  go_wp2_with fail
  refine (hW.out _).mono ?_
  rintro r2 w2 ⟨rfl, hb2⟩
  go_wp2
  go_ret2
  exact ⟨rfl, by (repeat (first | exact Below.refl _ _ | assumption | refine bchain (by assumption) ?_ | refine balloc ?_ _ | apply Below.drew | apply below_drewN | (refine Below.alloc ?_ (by (try simp) <;> omega) _) | (refine Below.setCell ?_ (by (try simp) <;> omega) _)))⟩
theorem icf_ok (a b : Int × Int) (ha : VP a) (hb : VP b) :
    Calls Try.prog 25 #[fv a, fv b] w fun r w' => r = .returned (.tuple #[.int .i64 (cmpI (a.1 * b.2) (b.1 * a.2)), .int .i64 0]) ∧ Below w.heap.size w w' := by
  have hV := Lib.hid (fun W => vf_any W a.1 a.2)
  have hW := Lib.hid (fun W => vf_any W b.1 b.2)
  rw [decide_eq_true (show VF a.1 a.2 from ha)] at hV
  rw [decide_eq_true (show VF b.1 b.2 from hb)] at hW
  have c1 := mul_b ha.b1 hb.b2
  have c2 := mul_b hb.b1 ha.b2
  have hC := Lib.hid (fun W => cmp_any W (a.1 * b.2) (b.1 * a.2))
  obtain ⟨v, hv⟩ : ∃ v, cmpI (a.1 * b.2) (b.1 * a.2) = v := ⟨_, rfl⟩
  rw [hv] at hC ⊢
  obtain ⟨a1, a2⟩ := a
  obtain ⟨b1, b2⟩ := b
  unfold fv at *
  clear ha hb hv
  dsimp only at *
  obtain ⟨m1, hm1⟩ : ∃ m1 : Int, a1 * b2 = m1 := ⟨_, rfl⟩
  obtain ⟨m2, hm2⟩ : ∃ m2 : Int, b1 * a2 = m2 := ⟨_, rfl⟩
  rw [hm1] at c1 hC
  rw [hm2] at c2 hC
  go_enter Try.func25, Try.ntmps25
  go_wp2_with fail
  refine (hV.out _).mono ?_
  rintro r1 w1 ⟨rfl, hb1⟩
  obtain ⟨hc1_0, hz1_0⟩ := bkeep hb1 (w.heap.size) (by (try simp) <;> omega)
  obtain ⟨hc1_1, hz1_1⟩ := bkeep hb1 (w.heap.size + 1) (by (try simp) <;> omega)
  go_wp2_with fail
  refine (hW.out _).mono ?_
  rintro r2 w2 ⟨rfl, hb2⟩
  obtain ⟨hc2_0, hz2_0⟩ := bkeep hb2 (w.heap.size) (by (try simp) <;> omega)
  obtain ⟨hc2_1, hz2_1⟩ := bkeep hb2 (w.heap.size + 1) (by (try simp) <;> omega)
  go_wp2_with fail
  refine (hC.out _).mono ?_
  rintro r3 w3 ⟨rfl, hb3⟩
  go_wp2
  go_ret2
  exact ⟨rfl, by (repeat (first | exact Below.refl _ _ | assumption | refine bchain (by assumption) ?_ | refine balloc ?_ _ | apply Below.drew | apply below_drewN | (refine Below.alloc ?_ (by (try simp) <;> omega) _) | (refine Below.setCell ?_ (by (try simp) <;> omega) _)))⟩
end
theorem cf_both (a b : Int × Int) : ∃ (x c : Int),
    (∀ W, Calls Try.prog 24 #[fv a, fv b] W fun r w' => r = .returned (.tuple #[.int .i64 x, .int .i64 c]) ∧ Below W.heap.size W w') ∧
    (∀ W, Calls Try.prog 25 #[fv a, fv b] W fun r w' => r = .returned (.tuple #[.int .i64 x, .int .i64 c]) ∧ Below W.heap.size W w') := by
  by_cases ha : VP a
  · by_cases hb : VP b
    · exact ⟨_, _, fun W => scf_ok W a b ha hb, fun W => icf_ok W a b ha hb⟩
    · exact ⟨_, _, fun W => scf_bad2 W a b ha hb, fun W => icf_bad2 W a b ha hb⟩
  · exact ⟨_, _, fun W => scf_bad1 W a b ha, fun W => icf_bad1 W a b ha⟩
end Go.Proofs.Ytonjmoiognbjbaa
