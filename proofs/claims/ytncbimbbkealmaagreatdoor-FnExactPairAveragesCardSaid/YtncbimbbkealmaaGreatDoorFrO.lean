/-
  CONTRACTS: sum, difference, product and quotient of two valid fractions: the program's and the model's.
-/
import Derived.Test.YtncbimbbkealmaaGreatDoorFrVf
import Derived.Laws.StructEq
import Derived.Laws.Tables
import Derived.KernelRfl
namespace Go.Proofs.YtncbimbbkealmaaGreatDoor.Fr
open Go.RowKit
set_option maxRecDepth 100000

def addF (a b : Int × Int) : Option (Int × Int) := low (a.1 * b.2 + b.1 * a.2) (a.2 * b.2)
def subF (a b : Int × Int) : Option (Int × Int) := low (a.1 * b.2 - b.1 * a.2) (a.2 * b.2)
def mulF (a b : Int × Int) : Option (Int × Int) := low (a.1 * b.1) (a.2 * b.2)
def divF (a b : Int × Int) : Option (Int × Int) := low (a.1 * b.2) (a.2 * b.1)
def VP (a : Int × Int) : Prop := VF a.1 a.2
theorem VP.b1 {a : Int × Int} (h : VP a) : -1000000000 ≤ a.1 ∧ a.1 ≤ 1000000000 := ⟨h.2.2.1, h.2.2.2.1⟩
theorem VP.b2 {a : Int × Int} (h : VP a) : -1000000000 ≤ a.2 ∧ a.2 ≤ 1000000000 := ⟨by have := h.1; omega, h.2.1⟩
theorem VP.pos {a : Int × Int} (h : VP a) : 1 ≤ a.2 := h.1
theorem add_vp {a b x : Int × Int} (ha : VP a) (hb : VP b) (h : addF a b = some x) : VP x := low_vf (by have := mul_pos_b ha.pos hb.pos; omega) h
theorem sub_vp {a b x : Int × Int} (ha : VP a) (hb : VP b) (h : subF a b = some x) : VP x := low_vf (by have := mul_pos_b ha.pos hb.pos; omega) h
theorem mul_vp {a b x : Int × Int} (ha : VP a) (hb : VP b) (h : mulF a b = some x) : VP x := low_vf (by have := mul_pos_b ha.pos hb.pos; omega) h
theorem div_vp {a b x : Int × Int} (ha : VP a) (hb : b.1 ≠ 0) (h : divF a b = some x) : VP x := low_vf (Int.mul_ne_zero (by have := ha.pos; omega) hb) h
section
variable (w : World)

theorem plus_any (a b : Int × Int) (ha : VP a) (hb : VP b) :
    Calls Tryz.prog 54 #[fv a, fv b] w fun r w' => r = qe (addF a b) ∧ Below w.heap.size w w' := by
  have c1 := mul_b ha.b1 hb.b2
  have c2 := mul_b hb.b1 ha.b2
  have c3 := mul_b ha.b2 hb.b2
  have c4 := mul_pos_b ha.pos hb.pos
  unfold addF
  obtain ⟨a1, a2⟩ := a
  obtain ⟨b1, b2⟩ := b
  unfold fv
  dsimp only at *
  obtain ⟨m1, hm1⟩ : ∃ m1 : Int, a1 * b2 = m1 := ⟨_, rfl⟩
  rw [hm1] at c1 ⊢
  obtain ⟨m2, hm2⟩ : ∃ m2 : Int, b1 * a2 = m2 := ⟨_, rfl⟩
  rw [hm2] at c2 ⊢
  obtain ⟨m3, hm3⟩ : ∃ m3 : Int, a2 * b2 = m3 := ⟨_, rfl⟩
  rw [hm3] at c3 c4 ⊢
  have hQ := Lib.hid (fun W => q_any W (m1 + m2) m3 (by omega) (by omega) (by omega))
  obtain ⟨R, hR⟩ : ∃ R, low (m1 + m2) m3 = R := ⟨_, rfl⟩
  rw [hR] at hQ ⊢
  clear hR ha hb
  go_enter Tryz.func54, Tryz.ntmps54
  go_wp2_with fail
  refine (hQ.out _).mono ?_
  rintro r w1 ⟨rfl, hb1⟩
  cases R with
  | none =>
    unfold qe tooBig
    go_wp2
    exact ⟨rfl, rfl, by (repeat (first | exact Below.refl _ _ | assumption | refine bchain (by assumption) ?_ | refine balloc ?_ _ | apply Below.drew | apply below_drewN | (refine Below.alloc ?_ (by (try simp) <;> omega) _) | (refine Below.setCell ?_ (by (try simp) <;> omega) _)))⟩
  | some x =>
    obtain ⟨x1, x2⟩ := x
    obtain ⟨hk1, hz1⟩ := bkeep hb1 (w.heap.size + 1 + 1) (by simp)
    have hf1 := bkeepz hb1 (w.heap.size + 1 + 1) (by simp)
    unfold qe fv
    go_wp2
    have g0 : w1.cell? ⟨w.heap.size + 1 + 1, 0, none⟩ = some (.int .i64 0) := (hk1 0).trans (by simp [go_sem])
    have g1 : w1.cell? ⟨w.heap.size + 1 + 1, 1, none⟩ = some (.int .i64 0) := (hk1 1).trans (by simp [go_sem])
    have h2 := twoCells g0 g1 (.int .i64 x1) (.int .i64 x2)
    exact bodyPost_ret (v := .agg #[.int .i64 x1, .int .i64 x2]) (by simp [results, Tryz.results54, go_sem, h2.1, h2.2]) rfl ⟨rfl, by (repeat (first | exact Below.refl _ _ | assumption | refine bchain (by assumption) ?_ | refine balloc ?_ _ | apply Below.drew | apply below_drewN | (refine Below.alloc ?_ (by (try simp) <;> omega) _) | (refine Below.setCell ?_ (by (try simp) <;> omega) _)))⟩

theorem splus_any (a b : Int × Int) (ha : VP a) (hb : VP b) :
    Calls Tryz.prog 38 #[fv a, fv b] w fun r w' => r = .returned (lv (addF a b)) ∧ Below w.heap.size w w' := by
  have c1 := mul_b ha.b1 hb.b2
  have c2 := mul_b hb.b1 ha.b2
  have c3 := mul_b ha.b2 hb.b2
  have c4 := mul_pos_b ha.pos hb.pos
  unfold addF
  obtain ⟨a1, a2⟩ := a
  obtain ⟨b1, b2⟩ := b
  unfold fv
  dsimp only at *
  obtain ⟨m1, hm1⟩ : ∃ m1 : Int, a1 * b2 = m1 := ⟨_, rfl⟩
  rw [hm1] at c1 ⊢
  obtain ⟨m2, hm2⟩ : ∃ m2 : Int, b1 * a2 = m2 := ⟨_, rfl⟩
  rw [hm2] at c2 ⊢
  obtain ⟨m3, hm3⟩ : ∃ m3 : Int, a2 * b2 = m3 := ⟨_, rfl⟩
  rw [hm3] at c3 c4 ⊢
  have hQ := Lib.hid (fun W => sl_any W (m1 + m2) m3 (by omega) (by omega) (by omega))
  obtain ⟨R, hR⟩ : ∃ R, low (m1 + m2) m3 = R := ⟨_, rfl⟩
  rw [hR] at hQ ⊢
  clear hR ha hb
  go_enter Tryz.func38, Tryz.ntmps38
  go_wp2_with fail
  refine (hQ.out _).mono ?_
  rintro r w1 ⟨rfl, hb1⟩
  obtain ⟨hk1, hz1⟩ := bkeep hb1 (w.heap.size + 1 + 1) (by simp)
  have hf1 := bkeepz hb1 (w.heap.size + 1 + 1) (by simp)
  cases R with
  | none =>
    unfold lv
    go_wp2
    have g0 : w1.cell? ⟨w.heap.size + 1 + 1, 0, none⟩ = some (.int .i64 0) := (hk1 0).trans (by simp [go_sem])
    have g1 : w1.cell? ⟨w.heap.size + 1 + 1, 1, none⟩ = some (.int .i64 0) := (hk1 1).trans (by simp [go_sem])
    have h2 := twoCells g0 g1 (.int .i64 0) (.int .i64 0)
    exact bodyPost_ret (v := .tuple #[.agg #[.int .i64 0, .int .i64 0], .int .i64 3]) (by simp [results, Tryz.results38, go_sem, h2.1, h2.2]) rfl ⟨rfl, by (repeat (first | exact Below.refl _ _ | assumption | refine bchain (by assumption) ?_ | refine balloc ?_ _ | apply Below.drew | apply below_drewN | (refine Below.alloc ?_ (by (try simp) <;> omega) _) | (refine Below.setCell ?_ (by (try simp) <;> omega) _)))⟩
  | some x =>
    obtain ⟨x1, x2⟩ := x
    unfold lv fv
    go_wp2
    have g0 : w1.cell? ⟨w.heap.size + 1 + 1, 0, none⟩ = some (.int .i64 0) := (hk1 0).trans (by simp [go_sem])
    have g1 : w1.cell? ⟨w.heap.size + 1 + 1, 1, none⟩ = some (.int .i64 0) := (hk1 1).trans (by simp [go_sem])
    have h2 := twoCells g0 g1 (.int .i64 x1) (.int .i64 x2)
    exact bodyPost_ret (v := .tuple #[.agg #[.int .i64 x1, .int .i64 x2], .int .i64 0]) (by simp [results, Tryz.results38, go_sem, h2.1, h2.2]) rfl ⟨rfl, by (repeat (first | exact Below.refl _ _ | assumption | refine bchain (by assumption) ?_ | refine balloc ?_ _ | apply Below.drew | apply below_drewN | (refine Below.alloc ?_ (by (try simp) <;> omega) _) | (refine Below.setCell ?_ (by (try simp) <;> omega) _)))⟩

theorem over_any (a b : Int × Int) (ha : VP a) (hb : VP b) (h0 : b.1 ≠ 0) :
    Calls Tryz.prog 55 #[fv a, fv b] w fun r w' => r = qe (divF a b) ∧ Below w.heap.size w w' := by
  have c1 := mul_b ha.b1 hb.b2
  have c3 := mul_b ha.b2 hb.b1
  have c4 : a.2 * b.1 ≠ 0 := Int.mul_ne_zero (by have := ha.pos; omega) h0
  unfold divF
  obtain ⟨a1, a2⟩ := a
  obtain ⟨b1, b2⟩ := b
  unfold fv
  dsimp only at *
  obtain ⟨m1, hm1⟩ : ∃ m1 : Int, a1 * b2 = m1 := ⟨_, rfl⟩
  rw [hm1] at c1 ⊢
  obtain ⟨m3, hm3⟩ : ∃ m3 : Int, a2 * b1 = m3 := ⟨_, rfl⟩
  rw [hm3] at c3 c4 ⊢
  have hQ := Lib.hid (fun W => q_any W (m1) m3 (by omega) (by omega) (by omega))
  obtain ⟨R, hR⟩ : ∃ R, low (m1) m3 = R := ⟨_, rfl⟩
  rw [hR] at hQ ⊢
  clear hR ha hb h0
  go_enter Tryz.func55, Tryz.ntmps55
  go_wp2_with fail
  refine (hQ.out _).mono ?_
  rintro r w1 ⟨rfl, hb1⟩
  cases R with
  | none =>
    unfold qe tooBig
    go_wp2
    exact ⟨rfl, rfl, by (repeat (first | exact Below.refl _ _ | assumption | refine bchain (by assumption) ?_ | refine balloc ?_ _ | apply Below.drew | apply below_drewN | (refine Below.alloc ?_ (by (try simp) <;> omega) _) | (refine Below.setCell ?_ (by (try simp) <;> omega) _)))⟩
  | some x =>
    obtain ⟨x1, x2⟩ := x
    obtain ⟨hk1, hz1⟩ := bkeep hb1 (w.heap.size + 1 + 1) (by simp)
    have hf1 := bkeepz hb1 (w.heap.size + 1 + 1) (by simp)
    unfold qe fv
    go_wp2
    have g0 : w1.cell? ⟨w.heap.size + 1 + 1, 0, none⟩ = some (.int .i64 0) := (hk1 0).trans (by simp [go_sem])
    have g1 : w1.cell? ⟨w.heap.size + 1 + 1, 1, none⟩ = some (.int .i64 0) := (hk1 1).trans (by simp [go_sem])
    have h2 := twoCells g0 g1 (.int .i64 x1) (.int .i64 x2)
    exact bodyPost_ret (v := .agg #[.int .i64 x1, .int .i64 x2]) (by simp [results, Tryz.results55, go_sem, h2.1, h2.2]) rfl ⟨rfl, by (repeat (first | exact Below.refl _ _ | assumption | refine bchain (by assumption) ?_ | refine balloc ?_ _ | apply Below.drew | apply below_drewN | (refine Below.alloc ?_ (by (try simp) <;> omega) _) | (refine Below.setCell ?_ (by (try simp) <;> omega) _)))⟩

theorem sover_any (a b : Int × Int) (ha : VP a) (hb : VP b) (h0 : b.1 ≠ 0) :
    Calls Tryz.prog 40 #[fv a, fv b] w fun r w' => r = .returned (lv (divF a b)) ∧ Below w.heap.size w w' := by
  have c1 := mul_b ha.b1 hb.b2
  have c3 := mul_b ha.b2 hb.b1
  have c4 : a.2 * b.1 ≠ 0 := Int.mul_ne_zero (by have := ha.pos; omega) h0
  unfold divF
  obtain ⟨a1, a2⟩ := a
  obtain ⟨b1, b2⟩ := b
  unfold fv
  dsimp only at *
  obtain ⟨m1, hm1⟩ : ∃ m1 : Int, a1 * b2 = m1 := ⟨_, rfl⟩
  rw [hm1] at c1 ⊢
  obtain ⟨m3, hm3⟩ : ∃ m3 : Int, a2 * b1 = m3 := ⟨_, rfl⟩
  rw [hm3] at c3 c4 ⊢
  have hQ := Lib.hid (fun W => sl_any W (m1) m3 (by omega) (by omega) (by omega))
  obtain ⟨R, hR⟩ : ∃ R, low (m1) m3 = R := ⟨_, rfl⟩
  rw [hR] at hQ ⊢
  clear hR ha hb h0
  go_enter Tryz.func40, Tryz.ntmps40
  go_wp2_with fail
  refine (hQ.out _).mono ?_
  rintro r w1 ⟨rfl, hb1⟩
  obtain ⟨hk1, hz1⟩ := bkeep hb1 (w.heap.size + 1 + 1) (by simp)
  have hf1 := bkeepz hb1 (w.heap.size + 1 + 1) (by simp)
  cases R with
  | none =>
    unfold lv
    go_wp2
    have g0 : w1.cell? ⟨w.heap.size + 1 + 1, 0, none⟩ = some (.int .i64 0) := (hk1 0).trans (by simp [go_sem])
    have g1 : w1.cell? ⟨w.heap.size + 1 + 1, 1, none⟩ = some (.int .i64 0) := (hk1 1).trans (by simp [go_sem])
    have h2 := twoCells g0 g1 (.int .i64 0) (.int .i64 0)
    exact bodyPost_ret (v := .tuple #[.agg #[.int .i64 0, .int .i64 0], .int .i64 3]) (by simp [results, Tryz.results40, go_sem, h2.1, h2.2]) rfl ⟨rfl, by (repeat (first | exact Below.refl _ _ | assumption | refine bchain (by assumption) ?_ | refine balloc ?_ _ | apply Below.drew | apply below_drewN | (refine Below.alloc ?_ (by (try simp) <;> omega) _) | (refine Below.setCell ?_ (by (try simp) <;> omega) _)))⟩
  | some x =>
    obtain ⟨x1, x2⟩ := x
    unfold lv fv
    go_wp2
    have g0 : w1.cell? ⟨w.heap.size + 1 + 1, 0, none⟩ = some (.int .i64 0) := (hk1 0).trans (by simp [go_sem])
    have g1 : w1.cell? ⟨w.heap.size + 1 + 1, 1, none⟩ = some (.int .i64 0) := (hk1 1).trans (by simp [go_sem])
    have h2 := twoCells g0 g1 (.int .i64 x1) (.int .i64 x2)
    exact bodyPost_ret (v := .tuple #[.agg #[.int .i64 x1, .int .i64 x2], .int .i64 0]) (by simp [results, Tryz.results40, go_sem, h2.1, h2.2]) rfl ⟨rfl, by (repeat (first | exact Below.refl _ _ | assumption | refine bchain (by assumption) ?_ | refine balloc ?_ _ | apply Below.drew | apply below_drewN | (refine Below.alloc ?_ (by (try simp) <;> omega) _) | (refine Below.setCell ?_ (by (try simp) <;> omega) _)))⟩

/-- a fraction with the other sign -/
def oppF (a : Int × Int) : Int × Int := (-a.1, a.2)
theorem opp_vp {a : Int × Int} (h : VP a) : VP (oppF a) := ⟨h.1, h.2.1, by have := h.2.2.2.1; simp [oppF]; omega, by have := h.2.2.1; simp [oppF]; omega, by show Int.gcd (-a.1) a.2 = 1; rw [Int.neg_gcd]; exact h.2.2.2.2⟩
theorem sub_opp (a b : Int × Int) : subF a b = addF a (oppF b) := by unfold subF addF oppF; dsimp only; rw [Int.neg_mul, Int.sub_eq_add_neg]
end
/-- a zero value and a code -/
def cv (c : Int) : Value := .tuple #[.agg #[.int .i64 0, .int .i64 0], .int .i64 c]
theorem qe_form (o : Option (Int × Int)) : (∃ x y : Int, qe o = .returned (.agg #[.int .i64 x, .int .i64 y])) ∨ qe o = tooBig := by
  cases o with
  | none => exact .inr rfl
  | some x => exact .inl ⟨_, _, rfl⟩
section
variable (w : World)
theorem whole_any (n : Int) :
    Calls Tryz.prog 51 #[.int .i64 n] w fun r w' => r = .returned (.agg #[.int .i64 n, .int .i64 1]) ∧ Below w.heap.size w w' := by
  go_enter Tryz.func51, Tryz.ntmps51
  go_wp2
  exact bodyPost_ret (v := .agg #[.int .i64 n, .int .i64 1]) (by simp [results, Tryz.results51, go_sem]) rfl ⟨rfl, by (repeat (first | exact Below.refl _ _ | assumption | refine bchain (by assumption) ?_ | refine balloc ?_ _ | apply Below.drew | apply below_drewN | (refine Below.alloc ?_ (by (try simp) <;> omega) _) | (refine Below.setCell ?_ (by (try simp) <;> omega) _)))⟩
theorem zero_any :
    Calls Tryz.prog 62 #[] w fun r w' => r = .returned (.agg #[.int .i64 0, .int .i64 1]) ∧ Below w.heap.size w w' := by
  go_enter Tryz.func62, Tryz.ntmps62
  go_wp2
  exact bodyPost_ret (v := .agg #[.int .i64 0, .int .i64 1]) (by simp [results, Tryz.results62, go_sem]) rfl ⟨rfl, by (repeat (first | exact Below.refl _ _ | assumption | refine bchain (by assumption) ?_ | refine balloc ?_ _ | apply Below.drew | apply below_drewN | (refine Below.alloc ?_ (by (try simp) <;> omega) _) | (refine Below.setCell ?_ (by (try simp) <;> omega) _)))⟩
theorem one_any (n : Int) :
    Calls Tryz.prog 39 #[.int .i64 n] w fun r w' => r = .returned (.agg #[.int .i64 n, .int .i64 1]) ∧ Below w.heap.size w w' := by
  go_enter Tryz.func39, Tryz.ntmps39
  go_wp2
  exact bodyPost_ret (v := .agg #[.int .i64 n, .int .i64 1]) (by simp [results, Tryz.results39, go_sem]) rfl ⟨rfl, by (repeat (first | exact Below.refl _ _ | assumption | refine bchain (by assumption) ?_ | refine balloc ?_ _ | apply Below.drew | apply below_drewN | (refine Below.alloc ?_ (by (try simp) <;> omega) _) | (refine Below.setCell ?_ (by (try simp) <;> omega) _)))⟩
end
end Go.Proofs.YtncbimbbkealmaaGreatDoor.Fr
