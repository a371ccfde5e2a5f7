/-
  CONTRACTS: DivFractions, the program's and the model's; two fractions held against each other.
-/
import Derived.Test.YtonjmoiognbjbaaFFour
import Derived.Laws.StructEq
import Derived.Laws.Tables
import Derived.KernelRfl
import Derived.Deep.DeepCutAuto
namespace Go.Proofs.Ytonjmoiognbjbaa
open Go.RowKit
set_option maxRecDepth 100000
theorem eqFr (W : World) (n m e f : Int) : (Op.equalIn 10000 23 (.agg #[.int .i64 n, .int .i64 e]) (.agg #[.int .i64 m, .int .i64 f])).run Try.prog W = .ok (n == m && e == f) W := by
  have u3 := Try.underlying2
  have hS : Try.prog.underlying 23 = some (.struct (Try.prog.fieldsOf 23)) := by kernel_rfl
  have hp : Try.prog.stoodInHeld 23 = false := by kernel_rfl
  rw [show (10000 : Nat) = 9999 + 1 from rfl, run_equalIn_agg W 9999 23 _ _ hS hp]
  simp only [Program.fieldsOf, Try.underlying23]
  go_simp
  by_cases h1 : n = m <;> by_cases h2 : e = f <;> simp [h1, h2]
section
variable (w : World)
theorem whole_any (n : Int) :
    Calls Try.prog 42 #[.int .i64 n] w fun r w' => r = .returned (.agg #[.int .i64 n, .int .i64 1]) ∧ Below w.heap.size w w' := by
  go_enter Try.func42, Try.ntmps42
  go_wp2
  exact bodyPost_ret (v := .agg #[.int .i64 n, .int .i64 1]) (by simp [results, Try.results42, go_sem]) rfl ⟨rfl, by (repeat (first | exact Below.refl _ _ | assumption | refine bchain (by assumption) ?_ | refine balloc ?_ _ | apply Below.drew | apply below_drewN | (refine Below.alloc ?_ (by (try simp) <;> omega) _) | (refine Below.setCell ?_ (by (try simp) <;> omega) _)))⟩

theorem sDiv_bad1 (a b : Int × Int) (ha : ¬ VP a) :
    Calls Try.prog 22 #[fv a, fv b] w fun r w' => r = .returned (cv 1) ∧ Below w.heap.size w w' := by
  have hV := Lib.hid (fun W => ok_any W a.1 a.2)
  rw [decide_eq_false (show ¬ VF a.1 a.2 from ha)] at hV
  obtain ⟨a1, a2⟩ := a
  obtain ⟨b1, b2⟩ := b
  unfold fv cv
  clear ha
  dsimp only at *
  go_enter Try.func22, Try.ntmps22
  go_wp2_with fail
  refine (hV.out _).mono ?_
  rintro r1 w1 ⟨rfl, hb1⟩
  obtain ⟨hc1_0, hz1_0⟩ := bkeep hb1 (w.heap.size) (by (try simp) <;> omega)
  obtain ⟨hc1_1, hz1_1⟩ := bkeep hb1 (w.heap.size + 1) (by (try simp) <;> omega)
  obtain ⟨hc1_2, hz1_2⟩ := bkeep hb1 (w.heap.size + 1 + 1) (by (try simp) <;> omega)
  have hf1_2 := bkeepz hb1 (w.heap.size + 1 + 1) (by (try simp) <;> omega)
  go_wp2
  have g0 : w1.cell? ⟨w.heap.size + 1 + 1, 0, none⟩ = some (.int .i64 0) := (hc1_2 0).trans (by simp [go_sem])
  have g1 : w1.cell? ⟨w.heap.size + 1 + 1, 1, none⟩ = some (.int .i64 0) := (hc1_2 1).trans (by simp [go_sem])
  have h2 := twoCells g0 g1 (.int .i64 0) (.int .i64 0)
  exact bodyPost_ret (v := .tuple #[.agg #[.int .i64 0, .int .i64 0], .int .i64 1]) (by simp [results, Try.results22, go_sem, h2.1, h2.2]) rfl ⟨rfl, by (repeat (first | exact Below.refl _ _ | assumption | refine bchain (by assumption) ?_ | refine balloc ?_ _ | apply Below.drew | apply below_drewN | (refine Below.alloc ?_ (by (try simp) <;> omega) _) | (refine Below.setCell ?_ (by (try simp) <;> omega) _)))⟩
theorem sDiv_bad2 (a b : Int × Int) (ha : VP a) (hb : ¬ VP b) :
    Calls Try.prog 22 #[fv a, fv b] w fun r w' => r = .returned (cv 1) ∧ Below w.heap.size w w' := by
  have hV := Lib.hid (fun W => ok_any W a.1 a.2)
  have hW := Lib.hid (fun W => ok_any W b.1 b.2)
  rw [decide_eq_true (show VF a.1 a.2 from ha)] at hV
  rw [decide_eq_false (show ¬ VF b.1 b.2 from hb)] at hW
  obtain ⟨a1, a2⟩ := a
  obtain ⟨b1, b2⟩ := b
  unfold fv cv
  clear ha hb
  dsimp only at *
  go_enter Try.func22, Try.ntmps22
  go_wp2_with fail
  refine (hV.out _).mono ?_
  rintro r1 w1 ⟨rfl, hb1⟩
  obtain ⟨hc1_0, hz1_0⟩ := bkeep hb1 (w.heap.size) (by (try simp) <;> omega)
  obtain ⟨hc1_1, hz1_1⟩ := bkeep hb1 (w.heap.size + 1) (by (try simp) <;> omega)
  obtain ⟨hc1_2, hz1_2⟩ := bkeep hb1 (w.heap.size + 1 + 1) (by (try simp) <;> omega)
  have hf1_2 := bkeepz hb1 (w.heap.size + 1 + 1) (by (try simp) <;> omega)
  go_wp2_with fail
  refine (hW.out _).mono ?_
  rintro r2 w2 ⟨rfl, hb2⟩
  obtain ⟨hc2_0, hz2_0⟩ := bkeep hb2 (w.heap.size) (by (try simp) <;> omega)
  obtain ⟨hc2_1, hz2_1⟩ := bkeep hb2 (w.heap.size + 1) (by (try simp) <;> omega)
  obtain ⟨hc2_2, hz2_2⟩ := bkeep hb2 (w.heap.size + 1 + 1) (by (try simp) <;> omega)
  have hf2_2 := bkeepz hb2 (w.heap.size + 1 + 1) (by (try simp) <;> omega)
  go_wp2
  have g0 : w2.cell? ⟨w.heap.size + 1 + 1, 0, none⟩ = some (.int .i64 0) := (hc2_2 0).trans ((hc1_2 0).trans (by simp [go_sem]))
  have g1 : w2.cell? ⟨w.heap.size + 1 + 1, 1, none⟩ = some (.int .i64 0) := (hc2_2 1).trans ((hc1_2 1).trans (by simp [go_sem]))
  have h2 := twoCells g0 g1 (.int .i64 0) (.int .i64 0)
  exact bodyPost_ret (v := .tuple #[.agg #[.int .i64 0, .int .i64 0], .int .i64 1]) (by simp [results, Try.results22, go_sem, h2.1, h2.2]) rfl ⟨rfl, by (repeat (first | exact Below.refl _ _ | assumption | refine bchain (by assumption) ?_ | refine balloc ?_ _ | apply Below.drew | apply below_drewN | (refine Below.alloc ?_ (by (try simp) <;> omega) _) | (refine Below.setCell ?_ (by (try simp) <;> omega) _)))⟩
theorem sDiv_ok (a b : Int × Int) (ha : VP a) (hb : VP b) (h0 : b.1 ≠ 0) :
    Calls Try.prog 22 #[fv a, fv b] w fun r w' => r = .returned (lv (divF a b)) ∧ Below w.heap.size w w' := by
  have hV := Lib.hid (fun W => ok_any W a.1 a.2)
  have hW := Lib.hid (fun W => ok_any W b.1 b.2)
  rw [decide_eq_true (show VF a.1 a.2 from ha)] at hV
  rw [decide_eq_true (show VF b.1 b.2 from hb)] at hW
  have hL := Lib.hid (fun W => sover_any W a b ha hb h0)
  obtain ⟨r1, r2, c, hl⟩ := lv_form (divF a b)
  rw [hl] at hL ⊢
  clear hl ha hb
  obtain ⟨a1, a2⟩ := a
  obtain ⟨b1, b2⟩ := b
  unfold fv at *
  dsimp only at *
  go_enter Try.func22, Try.ntmps22
  go_wp2_with fail
  refine (hV.out _).mono ?_
  rintro r1 w1 ⟨rfl, hb1⟩
  obtain ⟨hc1_0, hz1_0⟩ := bkeep hb1 (w.heap.size) (by (try simp) <;> omega)
  obtain ⟨hc1_1, hz1_1⟩ := bkeep hb1 (w.heap.size + 1) (by (try simp) <;> omega)
  obtain ⟨hc1_2, hz1_2⟩ := bkeep hb1 (w.heap.size + 1 + 1) (by (try simp) <;> omega)
  have hf1_2 := bkeepz hb1 (w.heap.size + 1 + 1) (by (try simp) <;> omega)
  go_wp2_with fail
  refine (hW.out _).mono ?_
  rintro r2 w2 ⟨rfl, hb2⟩
  obtain ⟨hc2_0, hz2_0⟩ := bkeep hb2 (w.heap.size) (by (try simp) <;> omega)
  obtain ⟨hc2_1, hz2_1⟩ := bkeep hb2 (w.heap.size + 1) (by (try simp) <;> omega)
  obtain ⟨hc2_2, hz2_2⟩ := bkeep hb2 (w.heap.size + 1 + 1) (by (try simp) <;> omega)
  have hf2_2 := bkeepz hb2 (w.heap.size + 1 + 1) (by (try simp) <;> omega)
  go_wp2_with fail
  refine (hL.out _).mono ?_
  rintro r3 w3 ⟨rfl, hb3⟩
  obtain ⟨hc3_0, hz3_0⟩ := bkeep hb3 (w.heap.size) (by (try simp) <;> omega)
  obtain ⟨hc3_1, hz3_1⟩ := bkeep hb3 (w.heap.size + 1) (by (try simp) <;> omega)
  obtain ⟨hc3_2, hz3_2⟩ := bkeep hb3 (w.heap.size + 1 + 1) (by (try simp) <;> omega)
  have hf3_2 := bkeepz hb3 (w.heap.size + 1 + 1) (by (try simp) <;> omega)
  go_wp2
  have g0 : w3.cell? ⟨w.heap.size + 1 + 1, 0, none⟩ = some (.int .i64 0) := (hc3_2 0).trans ((hc2_2 0).trans ((hc1_2 0).trans (by simp [go_sem])))
  have g1 : w3.cell? ⟨w.heap.size + 1 + 1, 1, none⟩ = some (.int .i64 0) := (hc3_2 1).trans ((hc2_2 1).trans ((hc1_2 1).trans (by simp [go_sem])))
  have h2 := twoCells g0 g1 (.int .i64 r1) (.int .i64 r2)
  exact bodyPost_ret (v := .tuple #[.agg #[.int .i64 r1, .int .i64 r2], .int .i64 c]) (by simp [results, Try.results22, go_sem, h2.1, h2.2]) rfl ⟨rfl, by (repeat (first | exact Below.refl _ _ | assumption | refine bchain (by assumption) ?_ | refine balloc ?_ _ | apply Below.drew | apply below_drewN | (refine Below.alloc ?_ (by (try simp) <;> omega) _) | (refine Below.setCell ?_ (by (try simp) <;> omega) _)))⟩
theorem sDiv_zero (a b : Int × Int) (ha : VP a) (hb : VP b) (h0 : b.1 = 0) :
    Calls Try.prog 22 #[fv a, fv b] w fun r w' => r = .returned (cv 4) ∧ Below w.heap.size w w' := by
  have hV := Lib.hid (fun W => ok_any W a.1 a.2)
  have hW := Lib.hid (fun W => ok_any W b.1 b.2)
  rw [decide_eq_true (show VF a.1 a.2 from ha)] at hV
  rw [decide_eq_true (show VF b.1 b.2 from hb)] at hW
  obtain ⟨a1, a2⟩ := a
  obtain ⟨b1, b2⟩ := b
  unfold fv cv
  clear ha hb
  dsimp only at *
  subst h0
  go_enter Try.func22, Try.ntmps22
  go_wp2_with fail
  refine (hV.out _).mono ?_
  rintro r1 w1 ⟨rfl, hb1⟩
  obtain ⟨hc1_0, hz1_0⟩ := bkeep hb1 (w.heap.size) (by (try simp) <;> omega)
  obtain ⟨hc1_1, hz1_1⟩ := bkeep hb1 (w.heap.size + 1) (by (try simp) <;> omega)
  obtain ⟨hc1_2, hz1_2⟩ := bkeep hb1 (w.heap.size + 1 + 1) (by (try simp) <;> omega)
  have hf1_2 := bkeepz hb1 (w.heap.size + 1 + 1) (by (try simp) <;> omega)
  go_wp2_with fail
  refine (hW.out _).mono ?_
  rintro r2 w2 ⟨rfl, hb2⟩
  obtain ⟨hc2_0, hz2_0⟩ := bkeep hb2 (w.heap.size) (by (try simp) <;> omega)
  obtain ⟨hc2_1, hz2_1⟩ := bkeep hb2 (w.heap.size + 1) (by (try simp) <;> omega)
  obtain ⟨hc2_2, hz2_2⟩ := bkeep hb2 (w.heap.size + 1 + 1) (by (try simp) <;> omega)
  have hf2_2 := bkeepz hb2 (w.heap.size + 1 + 1) (by (try simp) <;> omega)
  go_wp2
  have g0 : w2.cell? ⟨w.heap.size + 1 + 1, 0, none⟩ = some (.int .i64 0) := (hc2_2 0).trans ((hc1_2 0).trans (by simp [go_sem]))
  have g1 : w2.cell? ⟨w.heap.size + 1 + 1, 1, none⟩ = some (.int .i64 0) := (hc2_2 1).trans ((hc1_2 1).trans (by simp [go_sem]))
  have h2 := twoCells g0 g1 (.int .i64 0) (.int .i64 0)
  exact bodyPost_ret (v := .tuple #[.agg #[.int .i64 0, .int .i64 0], .int .i64 4]) (by simp [results, Try.results22, go_sem, h2.1, h2.2]) rfl ⟨rfl, by (repeat (first | exact Below.refl _ _ | assumption | refine bchain (by assumption) ?_ | refine balloc ?_ _ | apply Below.drew | apply below_drewN | (refine Below.alloc ?_ (by (try simp) <;> omega) _) | (refine Below.setCell ?_ (by (try simp) <;> omega) _)))⟩
theorem iDiv_zero (a : Int × Int) (ha : VP a) :
    Calls Try.prog 23 #[fv a, .agg #[.int .i64 0, .int .i64 1]] w fun r w' => r = .returned (cv 4) ∧ Below w.heap.size w w' := by
  have hV := Lib.hid (fun W => vf_any W a.1 a.2)
  rw [decide_eq_true (show VF a.1 a.2 from ha)] at hV
  have hW := Lib.hid (fun W => whole_any W 0)
  obtain ⟨a1, a2⟩ := a
  unfold fv cv
  clear ha
  dsimp only at *
  have hq : ∀ W, (Op.equalIn 10000 23 (.agg #[.int .i64 0, .int .i64 1]) (.agg #[.int .i64 0, .int .i64 1])).run Try.prog W = .ok true W := fun W => by rw [eqFr]; rfl
  go_enter Try.func23, Try.ntmps23
  go_wp2
  go_region_held3 (fun W => W.cell? ⟨w.heap.size, 0, none⟩ = some (.int .i64 a1) ∧ W.cell? ⟨w.heap.size, 1, none⟩ = some (.int .i64 a2) ∧ W.cell? ⟨w.heap.size + 1, 0, none⟩ = some (.int .i64 0) ∧ W.cell? ⟨w.heap.size + 1, 1, none⟩ = some (.int .i64 1)
      ∧ w.heap.size < W.heap.size ∧ w.heap.size + 1 < W.heap.size ∧ w.heap.size + 1 + 1 < W.heap.size)
    (first | (go_keep; done) | (simp [*, go_sem]; done) | (simp [*, go_sem]; omega))
    (first | (go_at_call 15; refine (hV.out _).mono ?_; rintro r w1 ⟨rfl, hb1⟩; have hk1 := keepAll hb1; have hf1 := keepFz hb1; have hz1 := keepLt hb1) | (go_at_call 42; refine (hW.out _).mono ?_; rintro r w2 ⟨rfl, hb2⟩; have hk2 := keepAll hb2; have hf2 := keepFz hb2; have hz2 := keepLt hb2))
  have g0 : w2.cell? ⟨w.heap.size + 1 + 1, 0, none⟩ = some (.int .i64 0) := by simp [hk2, hk1, hz1, go_sem]
  have g1 : w2.cell? ⟨w.heap.size + 1 + 1, 1, none⟩ = some (.int .i64 0) := by simp [hk2, hk1, hz1, go_sem]
  have hz : ∀ o, w2.frozen? ⟨w.heap.size + 1 + 1, o, none⟩ = false := fun o => by simp [hf2, hf1, hz1, go_sem]
  have h2 := twoCells g0 g1 (.int .i64 0) (.int .i64 0)
  go_wp2
  exact bodyPost_ret (v := .tuple #[.agg #[.int .i64 0, .int .i64 0], .int .i64 4]) (by simp [results, Try.results23, go_sem, h2.1, h2.2]) rfl ⟨rfl, by (repeat (first | exact Below.refl _ _ | assumption | refine bchain (by assumption) ?_ | refine balloc ?_ _ | apply Below.drew | apply below_drewN | (refine Below.alloc ?_ (by (try simp) <;> omega) _) | (refine Below.setCell ?_ (by (try simp) <;> omega) _)))⟩

theorem iDiv_out1 (a b : Int × Int) (ha : ¬ VP a) (r1 r2 c : Int) (hT : ∀ W, Calls Try.prog 35 #[fv a, fv b, .func (.func 43) #[] #[]] W fun r w' => r = .returned (.tuple #[.agg #[.int .i64 r1, .int .i64 r2], .int .i64 c]) ∧ Below W.heap.size W w') :
    Calls Try.prog 23 #[fv a, fv b] w fun r w' => r = .returned (.tuple #[.agg #[.int .i64 r1, .int .i64 r2], .int .i64 c]) ∧ Below w.heap.size w w' := by
  have hV := Lib.hid (fun W => vf_any W a.1 a.2)
  rw [decide_eq_false (show ¬ VF a.1 a.2 from ha)] at hV
  obtain ⟨a1, a2⟩ := a
  obtain ⟨b1, b2⟩ := b
  unfold fv at *
  clear ha
  dsimp only at *
  replace hT := Lib.hid hT
  go_enter Try.func23, Try.ntmps23
  go_upto_region 1 with fail
  go_cut [12] (fun s12 wx => s12 = .bool false ∧ wx.cell? ⟨w.heap.size, 0, none⟩ = some (.int .i64 a1) ∧ wx.cell? ⟨w.heap.size, 1, none⟩ = some (.int .i64 a2) ∧ wx.cell? ⟨w.heap.size + 1, 0, none⟩ = some (.int .i64 b1) ∧ wx.cell? ⟨w.heap.size + 1, 1, none⟩ = some (.int .i64 b2)
      ∧ wx.cell? ⟨w.heap.size + 1 + 1, 0, none⟩ = some (.int .i64 0) ∧ wx.cell? ⟨w.heap.size + 1 + 1, 1, none⟩ = some (.int .i64 0) ∧ (∀ o, wx.frozen? ⟨w.heap.size + 1 + 1, o, none⟩ = false) ∧ w.heap.size + 1 + 1 < wx.heap.size ∧ Below w.heap.size w wx)
  case first =>
    go_region_with (go_at_call 15; refine (hV.out _).mono ?_; rintro r w1 ⟨rfl, hb1⟩; have hk1 := keepAll hb1; have hf1 := keepFz hb1; have hs1 := hb1.size; simp at hs1)
    all_goals (go_wp2_with fail; go_meet; exact ⟨rfl, (hk1 _ _ (by simp <;> omega)).trans (by simp [go_sem]), (hk1 _ _ (by simp <;> omega)).trans (by simp [go_sem]), (hk1 _ _ (by simp <;> omega)).trans (by simp [go_sem]), (hk1 _ _ (by simp <;> omega)).trans (by simp [go_sem]), (hk1 _ _ (by simp <;> omega)).trans (by simp [go_sem]), (hk1 _ _ (by simp <;> omega)).trans (by simp [go_sem]), fun o => (hf1 _ _ (by simp <;> omega)).trans (by simp [go_sem]), by omega, by (repeat (first | exact Below.refl _ _ | assumption | refine bchain (by assumption) ?_ | refine balloc ?_ _ | apply Below.drew | apply below_drewN | (refine Below.alloc ?_ (by (try simp) <;> omega) _) | (refine Below.setCell ?_ (by (try simp) <;> omega) _)))⟩)
  case rest =>
    obtain ⟨rfl, c0, c1, c2, c3, c4, c5, c6, hz, hB⟩ := hcut
    go_wp2_with fail
    refine (hT.out _).mono ?_
    rintro r w3 ⟨rfl, hb3⟩
    obtain ⟨hk3, hz3⟩ := bkeep hb3 (w.heap.size + 1 + 1) hz
    have hf3 := bkeepz hb3 (w.heap.size + 1 + 1) hz
    have g0 : w3.cell? ⟨w.heap.size + 1 + 1, 0, none⟩ = some (.int .i64 0) := (hk3 0).trans c4
    have g1 : w3.cell? ⟨w.heap.size + 1 + 1, 1, none⟩ = some (.int .i64 0) := (hk3 1).trans c5
    have h2 := twoCells g0 g1 (.int .i64 r1) (.int .i64 r2)
    go_wp2
    exact bodyPost_ret (v := .tuple #[.agg #[.int .i64 r1, .int .i64 r2], .int .i64 c]) (by simp [results, Try.results23, go_sem, h2.1, h2.2]) rfl ⟨rfl, by (repeat (first | exact Below.refl _ _ | assumption | refine bchain (by assumption) ?_ | refine balloc ?_ _ | apply Below.drew | apply below_drewN | (refine Below.alloc ?_ (by (try simp) <;> omega) _) | (refine Below.setCell ?_ (by (try simp) <;> omega) _)))⟩
theorem iDiv_out2 (a b : Int × Int) (ha : VP a) (hn : ¬ b = (0, 1)) (r1 r2 c : Int) (hT : ∀ W, Calls Try.prog 35 #[fv a, fv b, .func (.func 43) #[] #[]] W fun r w' => r = .returned (.tuple #[.agg #[.int .i64 r1, .int .i64 r2], .int .i64 c]) ∧ Below W.heap.size W w') :
    Calls Try.prog 23 #[fv a, fv b] w fun r w' => r = .returned (.tuple #[.agg #[.int .i64 r1, .int .i64 r2], .int .i64 c]) ∧ Below w.heap.size w w' := by
  have hV := Lib.hid (fun W => vf_any W a.1 a.2)
  rw [decide_eq_true (show VF a.1 a.2 from ha)] at hV
  have hW := Lib.hid (fun W => whole_any W 0)
  obtain ⟨a1, a2⟩ := a
  obtain ⟨b1, b2⟩ := b
  unfold fv at *
  clear ha
  have hq : ∀ W, (Op.equalIn 10000 23 (.agg #[.int .i64 b1, .int .i64 b2]) (.agg #[.int .i64 0, .int .i64 1])).run Try.prog W = .ok false W := fun W => by
    rw [eqFr]
    have : (b1 == 0 && b2 == 1) = false := by
      rw [Bool.eq_false_iff]
      intro h
      simp at h
      exact hn (by rw [h.1, h.2])
    rw [this]
  dsimp only at *
  replace hT := Lib.hid hT
  clear hn
  go_enter Try.func23, Try.ntmps23
  go_wp2
  go_region_held3 (fun W => W.cell? ⟨w.heap.size, 0, none⟩ = some (.int .i64 a1) ∧ W.cell? ⟨w.heap.size, 1, none⟩ = some (.int .i64 a2) ∧ W.cell? ⟨w.heap.size + 1, 0, none⟩ = some (.int .i64 b1) ∧ W.cell? ⟨w.heap.size + 1, 1, none⟩ = some (.int .i64 b2)
      ∧ w.heap.size < W.heap.size ∧ w.heap.size + 1 < W.heap.size ∧ w.heap.size + 1 + 1 < W.heap.size)
    (first | (go_keep; done) | (simp [*, go_sem]; done) | (simp [*, go_sem]; omega))
    (first | (go_at_call 15; refine (hV.out _).mono ?_; rintro r w1 ⟨rfl, hb1⟩; have hk1 := keepAll hb1; have hf1 := keepFz hb1; have hz1 := keepLt hb1; have hs1 := hb1.size; try (simp at hs1)) | (go_at_call 42; refine (hW.out _).mono ?_; rintro r w2 ⟨rfl, hb2⟩; have hk2 := keepAll hb2; have hf2 := keepFz hb2; have hz2 := keepLt hb2; have hs2 := hb2.size; try (simp at hs2)))
  go_wp2_with fail
  refine (hT.out _).mono ?_
  rintro r w3 ⟨rfl, hb3⟩
  have hk3 := keepAll hb3
  have hf3 := keepFz hb3
  have hz3 := keepLt hb3
  have z1 : w.heap.size + 1 + 1 < w1.heap.size := by omega
  have z2 : w.heap.size + 1 + 1 < w2.heap.size := by omega
  have g0 : w3.cell? ⟨w.heap.size + 1 + 1, 0, none⟩ = some (.int .i64 0) := by simp [hk3, hk2, z2, hk1, z1, go_sem]
  have g1 : w3.cell? ⟨w.heap.size + 1 + 1, 1, none⟩ = some (.int .i64 0) := by simp [hk3, hk2, z2, hk1, z1, go_sem]
  have hz : ∀ o, w3.frozen? ⟨w.heap.size + 1 + 1, o, none⟩ = false := fun o => by simp [hf3, hf2, z2, hf1, z1, go_sem]
  have h2 := twoCells g0 g1 (.int .i64 r1) (.int .i64 r2)
  go_wp2
  exact bodyPost_ret (v := .tuple #[.agg #[.int .i64 r1, .int .i64 r2], .int .i64 c]) (by simp [results, Try.results23, go_sem, h2.1, h2.2]) rfl ⟨rfl, by (repeat (first | exact Below.refl _ _ | assumption | refine bchain (by assumption) ?_ | refine balloc ?_ _ | apply Below.drew | apply below_drewN | (refine Below.alloc ?_ (by (try simp) <;> omega) _) | (refine Below.setCell ?_ (by (try simp) <;> omega) _)))⟩
theorem Div_both (a b : Int × Int) : ∃ (x y c : Int),
    (∀ W, Calls Try.prog 22 #[fv a, fv b] W fun r w' => r = .returned (.tuple #[.agg #[.int .i64 x, .int .i64 y], .int .i64 c]) ∧ Below W.heap.size W w') ∧
    (∀ W, Calls Try.prog 23 #[fv a, fv b] W fun r w' => r = .returned (.tuple #[.agg #[.int .i64 x, .int .i64 y], .int .i64 c]) ∧ Below W.heap.size W w') := by
  by_cases ha : VP a
  · by_cases hb : VP b
    · by_cases h0 : b.1 = 0
      · have hb2 : b = (0, 1) := by
          have h1 : b.2 = 1 := by
            have := hb.2.2.2.2
            rw [h0, Int.gcd_zero_left] at this
            have := hb.1
            omega
          rw [← h0, ← h1]
        exact ⟨0, 0, 4, fun W => sDiv_zero W a b ha hb h0, fun W => by rw [hb2]; exact iDiv_zero W a ha⟩
      · have h1 := fun W => sDiv_ok W a b ha hb h0
        have h2 := fun W => two_ok W 43 (fun _ _ => by kernel_rfl) a b (divF a b) ha hb (fun W => over_any W a b ha hb h0)
        obtain ⟨r1, r2, c, hl⟩ := lv_form (divF a b)
        rw [hl] at h1 h2
        exact ⟨r1, r2, c, h1, fun W => iDiv_out2 W a b ha (fun h => h0 (by rw [h])) r1 r2 c h2⟩
    · exact ⟨0, 0, 1, fun W => sDiv_bad2 W a b ha hb, fun W => iDiv_out2 W a b ha (fun h => hb (by rw [h]; show VF 0 1; decide)) 0 0 1 (fun W => two_bad2 W _ a b ha hb)⟩
  · exact ⟨0, 0, 1, fun W => sDiv_bad1 W a b ha, fun W => iDiv_out1 W a b ha 0 0 1 (fun W => two_bad1 W _ a b ha)⟩
end
end Go.Proofs.Ytonjmoiognbjbaa
