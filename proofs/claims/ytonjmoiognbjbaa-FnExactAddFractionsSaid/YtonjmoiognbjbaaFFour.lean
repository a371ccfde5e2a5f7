/-
  CONTRACTS: AddFractions, SubFractions, MulFractions and DivFractions: the program's and the model's.
-/
import Derived.Test.YtonjmoiognbjbaaFTwo
namespace Go.Proofs.Ytonjmoiognbjbaa
open Go.RowKit
set_option maxRecDepth 100000
section
variable (w : World)

theorem sAdd_bad1 (a b : Int × Int) (ha : ¬ VP a) :
    Calls Try.prog 16 #[fv a, fv b] w fun r w' => r = .returned (cv 1) ∧ Below w.heap.size w w' := by
  have hV := Lib.hid (fun W => ok_any W a.1 a.2)
  rw [decide_eq_false (show ¬ VF a.1 a.2 from ha)] at hV
  obtain ⟨a1, a2⟩ := a
  obtain ⟨b1, b2⟩ := b
  unfold fv cv
  clear ha
  dsimp only at *
  go_enter Try.func16, Try.ntmps16
  go_wp2_with fail
  refine (hV.out _).mono ?_
  rintro r1 w1 ⟨rfl, hb1⟩
  obtain ⟨hc1_0, hz1_0⟩ := bkeep hb1 (w.heap.size) (by (try simp) <;> omega)
  obtain ⟨hc1_1, hz1_1⟩ := bkeep hb1 (w.heap.size + 1) (by (try simp) <;> omega)
  obtain ⟨hc1_2, hz1_2⟩ := bkeep hb1 (w.heap.size + 1 + 1) (by (try simp) <;> omega)
  have hf1_2 := bkeepz hb1 (w.heap.size + 1 + 1) (by (try simp) <;> omega)
  go_wp2
  have g0 : w1.cell? ⟨w.heap.size + 1 + 1, 0, none⟩ = some (.int .i64 0) := (hc1_2 0).trans (by simp [go_sem])
  have g1 : w1.cell? ⟨w.heap.size + 1 + 1, 1, none⟩ = some (.int .i64 0) := (hc1_2 1).trans (by simp [go_sem])
  have h2 := twoCells g0 g1 (.int .i64 0) (.int .i64 0)
  exact bodyPost_ret (v := .tuple #[.agg #[.int .i64 0, .int .i64 0], .int .i64 1]) (by simp [results, Try.results16, go_sem, h2.1, h2.2]) rfl ⟨rfl, by (repeat (first | exact Below.refl _ _ | assumption | refine bchain (by assumption) ?_ | refine balloc ?_ _ | apply Below.drew | apply below_drewN | (refine Below.alloc ?_ (by (try simp) <;> omega) _) | (refine Below.setCell ?_ (by (try simp) <;> omega) _)))⟩
theorem sAdd_bad2 (a b : Int × Int) (ha : VP a) (hb : ¬ VP b) :
    Calls Try.prog 16 #[fv a, fv b] w fun r w' => r = .returned (cv 1) ∧ Below w.heap.size w w' := by
  have hV := Lib.hid (fun W => ok_any W a.1 a.2)
  have hW := Lib.hid (fun W => ok_any W b.1 b.2)
  rw [decide_eq_true (show VF a.1 a.2 from ha)] at hV
  rw [decide_eq_false (show ¬ VF b.1 b.2 from hb)] at hW
  obtain ⟨a1, a2⟩ := a
  obtain ⟨b1, b2⟩ := b
  unfold fv cv
  clear ha hb
  dsimp only at *
  go_enter Try.func16, Try.ntmps16
  go_wp2_with fail
  refine (hV.out _).mono ?_
  rintro r1 w1 ⟨rfl, hb1⟩
  obtain ⟨hc1_0, hz1_0⟩ := bkeep hb1 (w.heap.size) (by (try simp) <;> omega)
  obtain ⟨hc1_1, hz1_1⟩ := bkeep hb1 (w.heap.size + 1) (by (try simp) <;> omega)
  obtain ⟨hc1_2, hz1_2⟩ := bkeep hb1 (w.heap.size + 1 + 1) (by (try simp) <;> omega)
  have hf1_2 := bkeepz hb1 (w.heap.size + 1 + 1) (by (try simp) <;> omega)
  go_wp2_with fail
  refine (hW.out _).mono ?_
  rintro r2 w2 ⟨rfl, hb2⟩
  obtain ⟨hc2_0, hz2_0⟩ := bkeep hb2 (w.heap.size) (by (try simp) <;> omega)
  obtain ⟨hc2_1, hz2_1⟩ := bkeep hb2 (w.heap.size + 1) (by (try simp) <;> omega)
  obtain ⟨hc2_2, hz2_2⟩ := bkeep hb2 (w.heap.size + 1 + 1) (by (try simp) <;> omega)
  have hf2_2 := bkeepz hb2 (w.heap.size + 1 + 1) (by (try simp) <;> omega)
  go_wp2
  have g0 : w2.cell? ⟨w.heap.size + 1 + 1, 0, none⟩ = some (.int .i64 0) := (hc2_2 0).trans ((hc1_2 0).trans (by simp [go_sem]))
  have g1 : w2.cell? ⟨w.heap.size + 1 + 1, 1, none⟩ = some (.int .i64 0) := (hc2_2 1).trans ((hc1_2 1).trans (by simp [go_sem]))
  have h2 := twoCells g0 g1 (.int .i64 0) (.int .i64 0)
  exact bodyPost_ret (v := .tuple #[.agg #[.int .i64 0, .int .i64 0], .int .i64 1]) (by simp [results, Try.results16, go_sem, h2.1, h2.2]) rfl ⟨rfl, by (repeat (first | exact Below.refl _ _ | assumption | refine bchain (by assumption) ?_ | refine balloc ?_ _ | apply Below.drew | apply below_drewN | (refine Below.alloc ?_ (by (try simp) <;> omega) _) | (refine Below.setCell ?_ (by (try simp) <;> omega) _)))⟩
theorem sAdd_ok (a b : Int × Int) (ha : VP a) (hb : VP b) :
    Calls Try.prog 16 #[fv a, fv b] w fun r w' => r = .returned (lv (addF a b)) ∧ Below w.heap.size w w' := by
  have hV := Lib.hid (fun W => ok_any W a.1 a.2)
  have hW := Lib.hid (fun W => ok_any W b.1 b.2)
  rw [decide_eq_true (show VF a.1 a.2 from ha)] at hV
  rw [decide_eq_true (show VF b.1 b.2 from hb)] at hW
  have hL := Lib.hid (fun W => splus_any W a b ha hb)
  obtain ⟨r1, r2, c, hl⟩ := lv_form (addF a b)
  rw [hl] at hL ⊢
  clear hl ha hb
  obtain ⟨a1, a2⟩ := a
  obtain ⟨b1, b2⟩ := b
  unfold fv at *
  dsimp only at *
  go_enter Try.func16, Try.ntmps16
  go_wp2_with fail
  refine (hV.out _).mono ?_
  rintro r1 w1 ⟨rfl, hb1⟩
  obtain ⟨hc1_0, hz1_0⟩ := bkeep hb1 (w.heap.size) (by (try simp) <;> omega)
  obtain ⟨hc1_1, hz1_1⟩ := bkeep hb1 (w.heap.size + 1) (by (try simp) <;> omega)
  obtain ⟨hc1_2, hz1_2⟩ := bkeep hb1 (w.heap.size + 1 + 1) (by (try simp) <;> omega)
  have hf1_2 := bkeepz hb1 (w.heap.size + 1 + 1) (by (try simp) <;> omega)
  go_wp2_with fail
  refine (hW.out _).mono ?_
  rintro r2 w2 ⟨rfl, hb2⟩
  obtain ⟨hc2_0, hz2_0⟩ := bkeep hb2 (w.heap.size) (by (try simp) <;> omega)
  obtain ⟨hc2_1, hz2_1⟩ := bkeep hb2 (w.heap.size + 1) (by (try simp) <;> omega)
  obtain ⟨hc2_2, hz2_2⟩ := bkeep hb2 (w.heap.size + 1 + 1) (by (try simp) <;> omega)
  have hf2_2 := bkeepz hb2 (w.heap.size + 1 + 1) (by (try simp) <;> omega)
  go_wp2_with fail
  refine (hL.out _).mono ?_
  rintro r3 w3 ⟨rfl, hb3⟩
  obtain ⟨hc3_0, hz3_0⟩ := bkeep hb3 (w.heap.size) (by (try simp) <;> omega)
  obtain ⟨hc3_1, hz3_1⟩ := bkeep hb3 (w.heap.size + 1) (by (try simp) <;> omega)
  obtain ⟨hc3_2, hz3_2⟩ := bkeep hb3 (w.heap.size + 1 + 1) (by (try simp) <;> omega)
  have hf3_2 := bkeepz hb3 (w.heap.size + 1 + 1) (by (try simp) <;> omega)
  go_wp2
  have g0 : w3.cell? ⟨w.heap.size + 1 + 1, 0, none⟩ = some (.int .i64 0) := (hc3_2 0).trans ((hc2_2 0).trans ((hc1_2 0).trans (by simp [go_sem])))
  have g1 : w3.cell? ⟨w.heap.size + 1 + 1, 1, none⟩ = some (.int .i64 0) := (hc3_2 1).trans ((hc2_2 1).trans ((hc1_2 1).trans (by simp [go_sem])))
  have h2 := twoCells g0 g1 (.int .i64 r1) (.int .i64 r2)
  exact bodyPost_ret (v := .tuple #[.agg #[.int .i64 r1, .int .i64 r2], .int .i64 c]) (by simp [results, Try.results16, go_sem, h2.1, h2.2]) rfl ⟨rfl, by (repeat (first | exact Below.refl _ _ | assumption | refine bchain (by assumption) ?_ | refine balloc ?_ _ | apply Below.drew | apply below_drewN | (refine Below.alloc ?_ (by (try simp) <;> omega) _) | (refine Below.setCell ?_ (by (try simp) <;> omega) _)))⟩
theorem iAdd_out (a b : Int × Int) (r1 r2 c : Int) (hT : ∀ W, Calls Try.prog 35 #[fv a, fv b, .func (.func 36) #[] #[]] W fun r w' => r = .returned (.tuple #[.agg #[.int .i64 r1, .int .i64 r2], .int .i64 c]) ∧ Below W.heap.size W w') :
    Calls Try.prog 17 #[fv a, fv b] w fun r w' => r = .returned (.tuple #[.agg #[.int .i64 r1, .int .i64 r2], .int .i64 c]) ∧ Below w.heap.size w w' := by
  obtain ⟨a1, a2⟩ := a
  obtain ⟨b1, b2⟩ := b
  unfold fv at *
  dsimp only at *
  replace hT := Lib.hid hT
  go_enter Try.func17, Try.ntmps17
  go_wp2_with fail
  refine (hT.out _).mono ?_
  rintro r3 w3 ⟨rfl, hb3⟩
  obtain ⟨hc3_0, hz3_0⟩ := bkeep hb3 (w.heap.size) (by (try simp) <;> omega)
  obtain ⟨hc3_1, hz3_1⟩ := bkeep hb3 (w.heap.size + 1) (by (try simp) <;> omega)
  obtain ⟨hc3_2, hz3_2⟩ := bkeep hb3 (w.heap.size + 1 + 1) (by (try simp) <;> omega)
  have hf3_2 := bkeepz hb3 (w.heap.size + 1 + 1) (by (try simp) <;> omega)
  have g0 : w3.cell? ⟨w.heap.size + 1 + 1, 0, none⟩ = some (.int .i64 0) := (hc3_2 0).trans (by simp [go_sem])
  have g1 : w3.cell? ⟨w.heap.size + 1 + 1, 1, none⟩ = some (.int .i64 0) := (hc3_2 1).trans (by simp [go_sem])
  have h2 := twoCells g0 g1 (.int .i64 r1) (.int .i64 r2)
  go_wp2
  exact bodyPost_ret (v := .tuple #[.agg #[.int .i64 r1, .int .i64 r2], .int .i64 c]) (by simp [results, Try.results17, go_sem, h2.1, h2.2]) rfl ⟨rfl, by (repeat (first | exact Below.refl _ _ | assumption | refine bchain (by assumption) ?_ | refine balloc ?_ _ | apply Below.drew | apply below_drewN | (refine Below.alloc ?_ (by (try simp) <;> omega) _) | (refine Below.setCell ?_ (by (try simp) <;> omega) _)))⟩
theorem Add_both (a b : Int × Int) : ∃ (x y c : Int),
    (∀ W, Calls Try.prog 16 #[fv a, fv b] W fun r w' => r = .returned (.tuple #[.agg #[.int .i64 x, .int .i64 y], .int .i64 c]) ∧ Below W.heap.size W w') ∧
    (∀ W, Calls Try.prog 17 #[fv a, fv b] W fun r w' => r = .returned (.tuple #[.agg #[.int .i64 x, .int .i64 y], .int .i64 c]) ∧ Below W.heap.size W w') := by
  by_cases ha : VP a
  · by_cases hb : VP b
    · have h1 := fun W => sAdd_ok W a b ha hb
      have h2 := fun W => two_ok W 36 (fun _ _ => by kernel_rfl) a b (addF a b) ha hb (fun W => plus_any W a b ha hb)
      obtain ⟨r1, r2, c, hl⟩ := lv_form (addF a b)
      rw [hl] at h1 h2
      exact ⟨r1, r2, c, h1, fun W => iAdd_out W a b r1 r2 c h2⟩
    · exact ⟨0, 0, 1, fun W => sAdd_bad2 W a b ha hb, fun W => iAdd_out W a b 0 0 1 (fun W => two_bad2 W _ a b ha hb)⟩
  · exact ⟨0, 0, 1, fun W => sAdd_bad1 W a b ha, fun W => iAdd_out W a b 0 0 1 (fun W => two_bad1 W _ a b ha)⟩

theorem sSub_bad1 (a b : Int × Int) (ha : ¬ VP a) :
    Calls Try.prog 18 #[fv a, fv b] w fun r w' => r = .returned (cv 1) ∧ Below w.heap.size w w' := by
  have hV := Lib.hid (fun W => ok_any W a.1 a.2)
  rw [decide_eq_false (show ¬ VF a.1 a.2 from ha)] at hV
  obtain ⟨a1, a2⟩ := a
  obtain ⟨b1, b2⟩ := b
  unfold fv cv
  clear ha
  dsimp only at *
  go_enter Try.func18, Try.ntmps18
  go_wp2_with fail
  refine (hV.out _).mono ?_
  rintro r1 w1 ⟨rfl, hb1⟩
  obtain ⟨hc1_0, hz1_0⟩ := bkeep hb1 (w.heap.size) (by (try simp) <;> omega)
  obtain ⟨hc1_1, hz1_1⟩ := bkeep hb1 (w.heap.size + 1) (by (try simp) <;> omega)
  obtain ⟨hc1_2, hz1_2⟩ := bkeep hb1 (w.heap.size + 1 + 1) (by (try simp) <;> omega)
  have hf1_2 := bkeepz hb1 (w.heap.size + 1 + 1) (by (try simp) <;> omega)
  go_wp2
  have g0 : w1.cell? ⟨w.heap.size + 1 + 1, 0, none⟩ = some (.int .i64 0) := (hc1_2 0).trans (by simp [go_sem])
  have g1 : w1.cell? ⟨w.heap.size + 1 + 1, 1, none⟩ = some (.int .i64 0) := (hc1_2 1).trans (by simp [go_sem])
  have h2 := twoCells g0 g1 (.int .i64 0) (.int .i64 0)
  exact bodyPost_ret (v := .tuple #[.agg #[.int .i64 0, .int .i64 0], .int .i64 1]) (by simp [results, Try.results18, go_sem, h2.1, h2.2]) rfl ⟨rfl, by (repeat (first | exact Below.refl _ _ | assumption | refine bchain (by assumption) ?_ | refine balloc ?_ _ | apply Below.drew | apply below_drewN | (refine Below.alloc ?_ (by (try simp) <;> omega) _) | (refine Below.setCell ?_ (by (try simp) <;> omega) _)))⟩
theorem sSub_bad2 (a b : Int × Int) (ha : VP a) (hb : ¬ VP b) :
    Calls Try.prog 18 #[fv a, fv b] w fun r w' => r = .returned (cv 1) ∧ Below w.heap.size w w' := by
  have hV := Lib.hid (fun W => ok_any W a.1 a.2)
  have hW := Lib.hid (fun W => ok_any W b.1 b.2)
  rw [decide_eq_true (show VF a.1 a.2 from ha)] at hV
  rw [decide_eq_false (show ¬ VF b.1 b.2 from hb)] at hW
  obtain ⟨a1, a2⟩ := a
  obtain ⟨b1, b2⟩ := b
  unfold fv cv
  clear ha hb
  dsimp only at *
  go_enter Try.func18, Try.ntmps18
  go_wp2_with fail
  refine (hV.out _).mono ?_
  rintro r1 w1 ⟨rfl, hb1⟩
  obtain ⟨hc1_0, hz1_0⟩ := bkeep hb1 (w.heap.size) (by (try simp) <;> omega)
  obtain ⟨hc1_1, hz1_1⟩ := bkeep hb1 (w.heap.size + 1) (by (try simp) <;> omega)
  obtain ⟨hc1_2, hz1_2⟩ := bkeep hb1 (w.heap.size + 1 + 1) (by (try simp) <;> omega)
  have hf1_2 := bkeepz hb1 (w.heap.size + 1 + 1) (by (try simp) <;> omega)
  go_wp2_with fail
  refine (hW.out _).mono ?_
  rintro r2 w2 ⟨rfl, hb2⟩
  obtain ⟨hc2_0, hz2_0⟩ := bkeep hb2 (w.heap.size) (by (try simp) <;> omega)
  obtain ⟨hc2_1, hz2_1⟩ := bkeep hb2 (w.heap.size + 1) (by (try simp) <;> omega)
  obtain ⟨hc2_2, hz2_2⟩ := bkeep hb2 (w.heap.size + 1 + 1) (by (try simp) <;> omega)
  have hf2_2 := bkeepz hb2 (w.heap.size + 1 + 1) (by (try simp) <;> omega)
  go_wp2
  have g0 : w2.cell? ⟨w.heap.size + 1 + 1, 0, none⟩ = some (.int .i64 0) := (hc2_2 0).trans ((hc1_2 0).trans (by simp [go_sem]))
  have g1 : w2.cell? ⟨w.heap.size + 1 + 1, 1, none⟩ = some (.int .i64 0) := (hc2_2 1).trans ((hc1_2 1).trans (by simp [go_sem]))
  have h2 := twoCells g0 g1 (.int .i64 0) (.int .i64 0)
  exact bodyPost_ret (v := .tuple #[.agg #[.int .i64 0, .int .i64 0], .int .i64 1]) (by simp [results, Try.results18, go_sem, h2.1, h2.2]) rfl ⟨rfl, by (repeat (first | exact Below.refl _ _ | assumption | refine bchain (by assumption) ?_ | refine balloc ?_ _ | apply Below.drew | apply below_drewN | (refine Below.alloc ?_ (by (try simp) <;> omega) _) | (refine Below.setCell ?_ (by (try simp) <;> omega) _)))⟩
theorem sSub_ok (a b : Int × Int) (ha : VP a) (hb : VP b) :
    Calls Try.prog 18 #[fv a, fv b] w fun r w' => r = .returned (lv (subF a b)) ∧ Below w.heap.size w w' := by
  have hV := Lib.hid (fun W => ok_any W a.1 a.2)
  have hW := Lib.hid (fun W => ok_any W b.1 b.2)
  rw [decide_eq_true (show VF a.1 a.2 from ha)] at hV
  rw [decide_eq_true (show VF b.1 b.2 from hb)] at hW
  have hL := Lib.hid (fun W => sminus_any W a b ha hb)
  obtain ⟨r1, r2, c, hl⟩ := lv_form (subF a b)
  rw [hl] at hL ⊢
  clear hl ha hb
  obtain ⟨a1, a2⟩ := a
  obtain ⟨b1, b2⟩ := b
  unfold fv at *
  dsimp only at *
  go_enter Try.func18, Try.ntmps18
  go_wp2_with fail
  refine (hV.out _).mono ?_
  rintro r1 w1 ⟨rfl, hb1⟩
  obtain ⟨hc1_0, hz1_0⟩ := bkeep hb1 (w.heap.size) (by (try simp) <;> omega)
  obtain ⟨hc1_1, hz1_1⟩ := bkeep hb1 (w.heap.size + 1) (by (try simp) <;> omega)
  obtain ⟨hc1_2, hz1_2⟩ := bkeep hb1 (w.heap.size + 1 + 1) (by (try simp) <;> omega)
  have hf1_2 := bkeepz hb1 (w.heap.size + 1 + 1) (by (try simp) <;> omega)
  go_wp2_with fail
  refine (hW.out _).mono ?_
  rintro r2 w2 ⟨rfl, hb2⟩
  obtain ⟨hc2_0, hz2_0⟩ := bkeep hb2 (w.heap.size) (by (try simp) <;> omega)
  obtain ⟨hc2_1, hz2_1⟩ := bkeep hb2 (w.heap.size + 1) (by (try simp) <;> omega)
  obtain ⟨hc2_2, hz2_2⟩ := bkeep hb2 (w.heap.size + 1 + 1) (by (try simp) <;> omega)
  have hf2_2 := bkeepz hb2 (w.heap.size + 1 + 1) (by (try simp) <;> omega)
  go_wp2_with fail
  refine (hL.out _).mono ?_
  rintro r3 w3 ⟨rfl, hb3⟩
  obtain ⟨hc3_0, hz3_0⟩ := bkeep hb3 (w.heap.size) (by (try simp) <;> omega)
  obtain ⟨hc3_1, hz3_1⟩ := bkeep hb3 (w.heap.size + 1) (by (try simp) <;> omega)
  obtain ⟨hc3_2, hz3_2⟩ := bkeep hb3 (w.heap.size + 1 + 1) (by (try simp) <;> omega)
  have hf3_2 := bkeepz hb3 (w.heap.size + 1 + 1) (by (try simp) <;> omega)
  go_wp2
  have g0 : w3.cell? ⟨w.heap.size + 1 + 1, 0, none⟩ = some (.int .i64 0) := (hc3_2 0).trans ((hc2_2 0).trans ((hc1_2 0).trans (by simp [go_sem])))
  have g1 : w3.cell? ⟨w.heap.size + 1 + 1, 1, none⟩ = some (.int .i64 0) := (hc3_2 1).trans ((hc2_2 1).trans ((hc1_2 1).trans (by simp [go_sem])))
  have h2 := twoCells g0 g1 (.int .i64 r1) (.int .i64 r2)
  exact bodyPost_ret (v := .tuple #[.agg #[.int .i64 r1, .int .i64 r2], .int .i64 c]) (by simp [results, Try.results18, go_sem, h2.1, h2.2]) rfl ⟨rfl, by (repeat (first | exact Below.refl _ _ | assumption | refine bchain (by assumption) ?_ | refine balloc ?_ _ | apply Below.drew | apply below_drewN | (refine Below.alloc ?_ (by (try simp) <;> omega) _) | (refine Below.setCell ?_ (by (try simp) <;> omega) _)))⟩
theorem iSub_out (a b : Int × Int) (r1 r2 c : Int) (hT : ∀ W, Calls Try.prog 35 #[fv a, fv b, .func (.func 38) #[] #[]] W fun r w' => r = .returned (.tuple #[.agg #[.int .i64 r1, .int .i64 r2], .int .i64 c]) ∧ Below W.heap.size W w') :
    Calls Try.prog 19 #[fv a, fv b] w fun r w' => r = .returned (.tuple #[.agg #[.int .i64 r1, .int .i64 r2], .int .i64 c]) ∧ Below w.heap.size w w' := by
  obtain ⟨a1, a2⟩ := a
  obtain ⟨b1, b2⟩ := b
  unfold fv at *
  dsimp only at *
  replace hT := Lib.hid hT
  go_enter Try.func19, Try.ntmps19
  go_wp2_with fail
  refine (hT.out _).mono ?_
  rintro r3 w3 ⟨rfl, hb3⟩
  obtain ⟨hc3_0, hz3_0⟩ := bkeep hb3 (w.heap.size) (by (try simp) <;> omega)
  obtain ⟨hc3_1, hz3_1⟩ := bkeep hb3 (w.heap.size + 1) (by (try simp) <;> omega)
  obtain ⟨hc3_2, hz3_2⟩ := bkeep hb3 (w.heap.size + 1 + 1) (by (try simp) <;> omega)
  have hf3_2 := bkeepz hb3 (w.heap.size + 1 + 1) (by (try simp) <;> omega)
  have g0 : w3.cell? ⟨w.heap.size + 1 + 1, 0, none⟩ = some (.int .i64 0) := (hc3_2 0).trans (by simp [go_sem])
  have g1 : w3.cell? ⟨w.heap.size + 1 + 1, 1, none⟩ = some (.int .i64 0) := (hc3_2 1).trans (by simp [go_sem])
  have h2 := twoCells g0 g1 (.int .i64 r1) (.int .i64 r2)
  go_wp2
  exact bodyPost_ret (v := .tuple #[.agg #[.int .i64 r1, .int .i64 r2], .int .i64 c]) (by simp [results, Try.results19, go_sem, h2.1, h2.2]) rfl ⟨rfl, by (repeat (first | exact Below.refl _ _ | assumption | refine bchain (by assumption) ?_ | refine balloc ?_ _ | apply Below.drew | apply below_drewN | (refine Below.alloc ?_ (by (try simp) <;> omega) _) | (refine Below.setCell ?_ (by (try simp) <;> omega) _)))⟩
theorem Sub_both (a b : Int × Int) : ∃ (x y c : Int),
    (∀ W, Calls Try.prog 18 #[fv a, fv b] W fun r w' => r = .returned (.tuple #[.agg #[.int .i64 x, .int .i64 y], .int .i64 c]) ∧ Below W.heap.size W w') ∧
    (∀ W, Calls Try.prog 19 #[fv a, fv b] W fun r w' => r = .returned (.tuple #[.agg #[.int .i64 x, .int .i64 y], .int .i64 c]) ∧ Below W.heap.size W w') := by
  by_cases ha : VP a
  · by_cases hb : VP b
    · have h1 := fun W => sSub_ok W a b ha hb
      have h2 := fun W => two_ok W 38 (fun _ _ => by kernel_rfl) a b (subF a b) ha hb (fun W => minus_any W a b ha hb)
      obtain ⟨r1, r2, c, hl⟩ := lv_form (subF a b)
      rw [hl] at h1 h2
      exact ⟨r1, r2, c, h1, fun W => iSub_out W a b r1 r2 c h2⟩
    · exact ⟨0, 0, 1, fun W => sSub_bad2 W a b ha hb, fun W => iSub_out W a b 0 0 1 (fun W => two_bad2 W _ a b ha hb)⟩
  · exact ⟨0, 0, 1, fun W => sSub_bad1 W a b ha, fun W => iSub_out W a b 0 0 1 (fun W => two_bad1 W _ a b ha)⟩

theorem sMul_bad1 (a b : Int × Int) (ha : ¬ VP a) :
    Calls Try.prog 20 #[fv a, fv b] w fun r w' => r = .returned (cv 1) ∧ Below w.heap.size w w' := by
  have hV := Lib.hid (fun W => ok_any W a.1 a.2)
  rw [decide_eq_false (show ¬ VF a.1 a.2 from ha)] at hV
  obtain ⟨a1, a2⟩ := a
  obtain ⟨b1, b2⟩ := b
  unfold fv cv
  clear ha
  dsimp only at *
  go_enter Try.func20, Try.ntmps20
  go_wp2_with fail
  refine (hV.out _).mono ?_
  rintro r1 w1 ⟨rfl, hb1⟩
  obtain ⟨hc1_0, hz1_0⟩ := bkeep hb1 (w.heap.size) (by (try simp) <;> omega)
  obtain ⟨hc1_1, hz1_1⟩ := bkeep hb1 (w.heap.size + 1) (by (try simp) <;> omega)
  obtain ⟨hc1_2, hz1_2⟩ := bkeep hb1 (w.heap.size + 1 + 1) (by (try simp) <;> omega)
  have hf1_2 := bkeepz hb1 (w.heap.size + 1 + 1) (by (try simp) <;> omega)
  go_wp2
  have g0 : w1.cell? ⟨w.heap.size + 1 + 1, 0, none⟩ = some (.int .i64 0) := (hc1_2 0).trans (by simp [go_sem])
  have g1 : w1.cell? ⟨w.heap.size + 1 + 1, 1, none⟩ = some (.int .i64 0) := (hc1_2 1).trans (by simp [go_sem])
  have h2 := twoCells g0 g1 (.int .i64 0) (.int .i64 0)
  exact bodyPost_ret (v := .tuple #[.agg #[.int .i64 0, .int .i64 0], .int .i64 1]) (by simp [results, Try.results20, go_sem, h2.1, h2.2]) rfl ⟨rfl, by (repeat (first | exact Below.refl _ _ | assumption | refine bchain (by assumption) ?_ | refine balloc ?_ _ | apply Below.drew | apply below_drewN | (refine Below.alloc ?_ (by (try simp) <;> omega) _) | (refine Below.setCell ?_ (by (try simp) <;> omega) _)))⟩
theorem sMul_bad2 (a b : Int × Int) (ha : VP a) (hb : ¬ VP b) :
    Calls Try.prog 20 #[fv a, fv b] w fun r w' => r = .returned (cv 1) ∧ Below w.heap.size w w' := by
  have hV := Lib.hid (fun W => ok_any W a.1 a.2)
  have hW := Lib.hid (fun W => ok_any W b.1 b.2)
  rw [decide_eq_true (show VF a.1 a.2 from ha)] at hV
  rw [decide_eq_false (show ¬ VF b.1 b.2 from hb)] at hW
  obtain ⟨a1, a2⟩ := a
  obtain ⟨b1, b2⟩ := b
  unfold fv cv
  clear ha hb
  dsimp only at *
  go_enter Try.func20, Try.ntmps20
  go_wp2_with fail
  refine (hV.out _).mono ?_
  rintro r1 w1 ⟨rfl, hb1⟩
  obtain ⟨hc1_0, hz1_0⟩ := bkeep hb1 (w.heap.size) (by (try simp) <;> omega)
  obtain ⟨hc1_1, hz1_1⟩ := bkeep hb1 (w.heap.size + 1) (by (try simp) <;> omega)
  obtain ⟨hc1_2, hz1_2⟩ := bkeep hb1 (w.heap.size + 1 + 1) (by (try simp) <;> omega)
  have hf1_2 := bkeepz hb1 (w.heap.size + 1 + 1) (by (try simp) <;> omega)
  go_wp2_with fail
  refine (hW.out _).mono ?_
  rintro r2 w2 ⟨rfl, hb2⟩
  obtain ⟨hc2_0, hz2_0⟩ := bkeep hb2 (w.heap.size) (by (try simp) <;> omega)
  obtain ⟨hc2_1, hz2_1⟩ := bkeep hb2 (w.heap.size + 1) (by (try simp) <;> omega)
  obtain ⟨hc2_2, hz2_2⟩ := bkeep hb2 (w.heap.size + 1 + 1) (by (try simp) <;> omega)
  have hf2_2 := bkeepz hb2 (w.heap.size + 1 + 1) (by (try simp) <;> omega)
  go_wp2
  have g0 : w2.cell? ⟨w.heap.size + 1 + 1, 0, none⟩ = some (.int .i64 0) := (hc2_2 0).trans ((hc1_2 0).trans (by simp [go_sem]))
  have g1 : w2.cell? ⟨w.heap.size + 1 + 1, 1, none⟩ = some (.int .i64 0) := (hc2_2 1).trans ((hc1_2 1).trans (by simp [go_sem]))
  have h2 := twoCells g0 g1 (.int .i64 0) (.int .i64 0)
  exact bodyPost_ret (v := .tuple #[.agg #[.int .i64 0, .int .i64 0], .int .i64 1]) (by simp [results, Try.results20, go_sem, h2.1, h2.2]) rfl ⟨rfl, by (repeat (first | exact Below.refl _ _ | assumption | refine bchain (by assumption) ?_ | refine balloc ?_ _ | apply Below.drew | apply below_drewN | (refine Below.alloc ?_ (by (try simp) <;> omega) _) | (refine Below.setCell ?_ (by (try simp) <;> omega) _)))⟩
theorem sMul_ok (a b : Int × Int) (ha : VP a) (hb : VP b) :
    Calls Try.prog 20 #[fv a, fv b] w fun r w' => r = .returned (lv (mulF a b)) ∧ Below w.heap.size w w' := by
  have hV := Lib.hid (fun W => ok_any W a.1 a.2)
  have hW := Lib.hid (fun W => ok_any W b.1 b.2)
  rw [decide_eq_true (show VF a.1 a.2 from ha)] at hV
  rw [decide_eq_true (show VF b.1 b.2 from hb)] at hW
  have hL := Lib.hid (fun W => stimes_any W a b ha hb)
  obtain ⟨r1, r2, c, hl⟩ := lv_form (mulF a b)
  rw [hl] at hL ⊢
  clear hl ha hb
  obtain ⟨a1, a2⟩ := a
  obtain ⟨b1, b2⟩ := b
  unfold fv at *
  dsimp only at *
  go_enter Try.func20, Try.ntmps20
  go_wp2_with fail
  refine (hV.out _).mono ?_
  rintro r1 w1 ⟨rfl, hb1⟩
  obtain ⟨hc1_0, hz1_0⟩ := bkeep hb1 (w.heap.size) (by (try simp) <;> omega)
  obtain ⟨hc1_1, hz1_1⟩ := bkeep hb1 (w.heap.size + 1) (by (try simp) <;> omega)
  obtain ⟨hc1_2, hz1_2⟩ := bkeep hb1 (w.heap.size + 1 + 1) (by (try simp) <;> omega)
  have hf1_2 := bkeepz hb1 (w.heap.size + 1 + 1) (by (try simp) <;> omega)
  go_wp2_with fail
  refine (hW.out _).mono ?_
  rintro r2 w2 ⟨rfl, hb2⟩
  obtain ⟨hc2_0, hz2_0⟩ := bkeep hb2 (w.heap.size) (by (try simp) <;> omega)
  obtain ⟨hc2_1, hz2_1⟩ := bkeep hb2 (w.heap.size + 1) (by (try simp) <;> omega)
  obtain ⟨hc2_2, hz2_2⟩ := bkeep hb2 (w.heap.size + 1 + 1) (by (try simp) <;> omega)
  have hf2_2 := bkeepz hb2 (w.heap.size + 1 + 1) (by (try simp) <;> omega)
  go_wp2_with fail
  refine (hL.out _).mono ?_
  rintro r3 w3 ⟨rfl, hb3⟩
  obtain ⟨hc3_0, hz3_0⟩ := bkeep hb3 (w.heap.size) (by (try simp) <;> omega)
  obtain ⟨hc3_1, hz3_1⟩ := bkeep hb3 (w.heap.size + 1) (by (try simp) <;> omega)
  obtain ⟨hc3_2, hz3_2⟩ := bkeep hb3 (w.heap.size + 1 + 1) (by (try simp) <;> omega)
  have hf3_2 := bkeepz hb3 (w.heap.size + 1 + 1) (by (try simp) <;> omega)
  go_wp2
  have g0 : w3.cell? ⟨w.heap.size + 1 + 1, 0, none⟩ = some (.int .i64 0) := (hc3_2 0).trans ((hc2_2 0).trans ((hc1_2 0).trans (by simp [go_sem])))
  have g1 : w3.cell? ⟨w.heap.size + 1 + 1, 1, none⟩ = some (.int .i64 0) := (hc3_2 1).trans ((hc2_2 1).trans ((hc1_2 1).trans (by simp [go_sem])))
  have h2 := twoCells g0 g1 (.int .i64 r1) (.int .i64 r2)
  exact bodyPost_ret (v := .tuple #[.agg #[.int .i64 r1, .int .i64 r2], .int .i64 c]) (by simp [results, Try.results20, go_sem, h2.1, h2.2]) rfl ⟨rfl, by (repeat (first | exact Below.refl _ _ | assumption | refine bchain (by assumption) ?_ | refine balloc ?_ _ | apply Below.drew | apply below_drewN | (refine Below.alloc ?_ (by (try simp) <;> omega) _) | (refine Below.setCell ?_ (by (try simp) <;> omega) _)))⟩
theorem iMul_out (a b : Int × Int) (r1 r2 c : Int) (hT : ∀ W, Calls Try.prog 35 #[fv a, fv b, .func (.func 40) #[] #[]] W fun r w' => r = .returned (.tuple #[.agg #[.int .i64 r1, .int .i64 r2], .int .i64 c]) ∧ Below W.heap.size W w') :
    Calls Try.prog 21 #[fv a, fv b] w fun r w' => r = .returned (.tuple #[.agg #[.int .i64 r1, .int .i64 r2], .int .i64 c]) ∧ Below w.heap.size w w' := by
  obtain ⟨a1, a2⟩ := a
  obtain ⟨b1, b2⟩ := b
  unfold fv at *
  dsimp only at *
  replace hT := Lib.hid hT
  go_enter Try.func21, Try.ntmps21
  go_wp2_with fail
  refine (hT.out _).mono ?_
  rintro r3 w3 ⟨rfl, hb3⟩
  obtain ⟨hc3_0, hz3_0⟩ := bkeep hb3 (w.heap.size) (by (try simp) <;> omega)
  obtain ⟨hc3_1, hz3_1⟩ := bkeep hb3 (w.heap.size + 1) (by (try simp) <;> omega)
  obtain ⟨hc3_2, hz3_2⟩ := bkeep hb3 (w.heap.size + 1 + 1) (by (try simp) <;> omega)
  have hf3_2 := bkeepz hb3 (w.heap.size + 1 + 1) (by (try simp) <;> omega)
  have g0 : w3.cell? ⟨w.heap.size + 1 + 1, 0, none⟩ = some (.int .i64 0) := (hc3_2 0).trans (by simp [go_sem])
  have g1 : w3.cell? ⟨w.heap.size + 1 + 1, 1, none⟩ = some (.int .i64 0) := (hc3_2 1).trans (by simp [go_sem])
  have h2 := twoCells g0 g1 (.int .i64 r1) (.int .i64 r2)
  go_wp2
  exact bodyPost_ret (v := .tuple #[.agg #[.int .i64 r1, .int .i64 r2], .int .i64 c]) (by simp [results, Try.results21, go_sem, h2.1, h2.2]) rfl ⟨rfl, by (repeat (first | exact Below.refl _ _ | assumption | refine bchain (by assumption) ?_ | refine balloc ?_ _ | apply Below.drew | apply below_drewN | (refine Below.alloc ?_ (by (try simp) <;> omega) _) | (refine Below.setCell ?_ (by (try simp) <;> omega) _)))⟩
theorem Mul_both (a b : Int × Int) : ∃ (x y c : Int),
    (∀ W, Calls Try.prog 20 #[fv a, fv b] W fun r w' => r = .returned (.tuple #[.agg #[.int .i64 x, .int .i64 y], .int .i64 c]) ∧ Below W.heap.size W w') ∧
    (∀ W, Calls Try.prog 21 #[fv a, fv b] W fun r w' => r = .returned (.tuple #[.agg #[.int .i64 x, .int .i64 y], .int .i64 c]) ∧ Below W.heap.size W w') := by
  by_cases ha : VP a
  · by_cases hb : VP b
    · have h1 := fun W => sMul_ok W a b ha hb
      have h2 := fun W => two_ok W 40 (fun _ _ => by kernel_rfl) a b (mulF a b) ha hb (fun W => times_any W a b ha hb)
      obtain ⟨r1, r2, c, hl⟩ := lv_form (mulF a b)
      rw [hl] at h1 h2
      exact ⟨r1, r2, c, h1, fun W => iMul_out W a b r1 r2 c h2⟩
    · exact ⟨0, 0, 1, fun W => sMul_bad2 W a b ha hb, fun W => iMul_out W a b 0 0 1 (fun W => two_bad2 W _ a b ha hb)⟩
  · exact ⟨0, 0, 1, fun W => sMul_bad1 W a b ha, fun W => iMul_out W a b 0 0 1 (fun W => two_bad1 W _ a b ha)⟩
end
end Go.Proofs.Ytonjmoiognbjbaa
