/-
  CONTRACTS OF LeastFlag AND ForgetLabels: the program's and the model's.
-/
import Derived.Test.YtdibcchhamapjaaKSLeast
namespace Go.Proofs.Ytdibcchhamapjaa
open Go.RowKit
set_option maxRecDepth 100000

section
variable (w : World)
theorem ilf_inv (k n e : Int) (hn : e < 4294967296) (he0 : 0 ≤ e) (h : ¬ VK k n e) :
    Calls Try.prog 31 #[.agg #[.int .i64 k, .int .i64 n, .int .u32 e]] w fun r w' => r = .returned (.tuple #[.agg #[.int .i64 0, .int .i64 0, .int .u32 0], .int .i64 1]) ∧ Below w.heap.size w w' := by
  go_enter Try.func31, Try.ntmps31
  go_wp2_with fail
  refine (ivk_f _ k n e hn he0 h).mono ?_
  rintro r1 w1 ⟨rfl, hb1⟩
  obtain ⟨hc1_0, hz1_0⟩ := bkeep hb1 (w.heap.size + 1) (by (try simp) <;> omega)
  have hf1_0 := bkeepz hb1 (w.heap.size + 1) (by (try simp) <;> omega)
  go_wp2
  have hfc : FC w1 (w.heap.size + 1) 0 0 0 := ⟨hz1_0, by rw [hc1_0]; simp [go_sem], by rw [hc1_0]; simp [go_sem], by rw [hc1_0]; simp [go_sem]⟩
  have hbw : Below w.heap.size w w1 := by (repeat (first | exact Below.refl _ _ | assumption | refine bchain (by assumption) ?_ | refine balloc ?_ _ | apply Below.drew | apply below_drewN | (refine Below.alloc ?_ (by (try simp) <;> omega) _) | (refine Below.setCell ?_ (by (try simp) <;> omega) _)))
  have hF := hfc.put (0) (0) (0)
  have hBB := (((hbw.setCell (p := ⟨w.heap.size + 1, 0, none⟩) (by show w.heap.size ≤ w.heap.size + 1; omega) (.int .i64 (0))).setCell (p := ⟨w.heap.size + 1, 1, none⟩) (by show w.heap.size ≤ w.heap.size + 1; omega) (.int .i64 (0))).setCell (p := ⟨w.heap.size + 1, 2, none⟩) (by show w.heap.size ≤ w.heap.size + 1; omega) (.int .u32 (0)))
  obtain ⟨WW, hWW⟩ : ∃ WW, WW = (((w1.setCell ⟨w.heap.size + 1, 0, none⟩ (.int .i64 (0))).setCell ⟨w.heap.size + 1, 1, none⟩ (.int .i64 (0))).setCell ⟨w.heap.size + 1, 2, none⟩ (.int .u32 (0))) := ⟨_, rfl⟩
  rw [← hWW] at hF hBB ⊢
  clear hWW
  obtain ⟨_, hF0, hF1, hF2⟩ := hF
  exact bodyPost_ret (v := .tuple #[.agg #[.int .i64 (0), .int .i64 (0), .int .u32 (0)], .int .i64 1]) (by simp [results, Try.results31, go_sem, hF0, hF1, hF2]) rfl ⟨rfl, hBB⟩
theorem ilf_ok (k n e : Nat) (h : VK k n e) :
    Calls Try.prog 31 #[.agg #[.int .i64 k, .int .i64 n, .int .u32 e]] w fun r w' => r = .returned (.tuple #[.agg #[.int .i64 k, .int .i64 n, .int .u32 (leastK n k e : Nat)], .int .i64 0]) ∧ Below w.heap.size w w' := by
  have hL := Lib.hid (fun W => leastK_any W k n e h)
  obtain ⟨x, hx⟩ : ∃ x, leastK n k e = x := ⟨_, rfl⟩
  rw [hx] at hL ⊢
  clear hx
  go_enter Try.func31, Try.ntmps31
  go_wp2_with fail
  refine (ivk_t _ k n e h).mono ?_
  rintro r1 w1 ⟨rfl, hb1⟩
  obtain ⟨hc1_0, hz1_0⟩ := bkeep hb1 (w.heap.size) (by (try simp) <;> omega)
  obtain ⟨hc1_1, hz1_1⟩ := bkeep hb1 (w.heap.size + 1) (by (try simp) <;> omega)
  have hf1_1 := bkeepz hb1 (w.heap.size + 1) (by (try simp) <;> omega)
  go_wp2_with fail
  refine (hL.out _).mono ?_
  rintro r2 w2 ⟨rfl, hb2⟩
  obtain ⟨hc2_0, hz2_0⟩ := bkeep hb2 (w.heap.size + 1) (by (try simp) <;> omega)
  have hf2_0 := bkeepz hb2 (w.heap.size + 1) (by (try simp) <;> omega)
  go_wp2
  have hfc : FC w2 (w.heap.size + 1) 0 0 0 := ⟨hz2_0, by rw [hc2_0, hc1_1]; simp [go_sem], by rw [hc2_0, hc1_1]; simp [go_sem], by rw [hc2_0, hc1_1]; simp [go_sem]⟩
  have hbw : Below w.heap.size w w2 := by (repeat (first | exact Below.refl _ _ | assumption | refine bchain (by assumption) ?_ | refine balloc ?_ _ | apply Below.drew | apply below_drewN | (refine Below.alloc ?_ (by (try simp) <;> omega) _) | (refine Below.setCell ?_ (by (try simp) <;> omega) _)))
  have hF := hfc.put (k) (n) (x)
  have hBB := (((hbw.setCell (p := ⟨w.heap.size + 1, 0, none⟩) (by show w.heap.size ≤ w.heap.size + 1; omega) (.int .i64 (k))).setCell (p := ⟨w.heap.size + 1, 1, none⟩) (by show w.heap.size ≤ w.heap.size + 1; omega) (.int .i64 (n))).setCell (p := ⟨w.heap.size + 1, 2, none⟩) (by show w.heap.size ≤ w.heap.size + 1; omega) (.int .u32 (x)))
  obtain ⟨WW, hWW⟩ : ∃ WW, WW = (((w2.setCell ⟨w.heap.size + 1, 0, none⟩ (.int .i64 (k))).setCell ⟨w.heap.size + 1, 1, none⟩ (.int .i64 (n))).setCell ⟨w.heap.size + 1, 2, none⟩ (.int .u32 (x))) := ⟨_, rfl⟩
  rw [← hWW] at hF hBB ⊢
  clear hWW
  obtain ⟨_, hF0, hF1, hF2⟩ := hF
  exact bodyPost_ret (v := .tuple #[.agg #[.int .i64 (k), .int .i64 (n), .int .u32 (x)], .int .i64 0]) (by simp [results, Try.results31, go_sem, hF0, hF1, hF2]) rfl ⟨rfl, hBB⟩
theorem ifl_inv (k n e q : Int) (hn : e < 4294967296) (he0 : 0 ≤ e) (h : ¬ VK k n e) :
    Calls Try.prog 39 #[.agg #[.int .i64 k, .int .i64 n, .int .u32 e], .int .i64 q] w fun r w' => r = .returned (.tuple #[.agg #[.int .i64 0, .int .i64 0, .int .u32 0], .int .i64 1]) ∧ Below w.heap.size w w' := by
  go_enter Try.func39, Try.ntmps39
  go_wp2_with fail
  refine (ivk_f _ k n e hn he0 h).mono ?_
  rintro r1 w1 ⟨rfl, hb1⟩
  obtain ⟨hc1_0, hz1_0⟩ := bkeep hb1 (w.heap.size + 1) (by (try simp) <;> omega)
  have hf1_0 := bkeepz hb1 (w.heap.size + 1) (by (try simp) <;> omega)
  go_wp2
  have hfc : FC w1 (w.heap.size + 1) 0 0 0 := ⟨hz1_0, by rw [hc1_0]; simp [go_sem], by rw [hc1_0]; simp [go_sem], by rw [hc1_0]; simp [go_sem]⟩
  have hbw : Below w.heap.size w w1 := by (repeat (first | exact Below.refl _ _ | assumption | refine bchain (by assumption) ?_ | refine balloc ?_ _ | apply Below.drew | apply below_drewN | (refine Below.alloc ?_ (by (try simp) <;> omega) _) | (refine Below.setCell ?_ (by (try simp) <;> omega) _)))
  have hF := hfc.put (0) (0) (0)
  have hBB := (((hbw.setCell (p := ⟨w.heap.size + 1, 0, none⟩) (by show w.heap.size ≤ w.heap.size + 1; omega) (.int .i64 (0))).setCell (p := ⟨w.heap.size + 1, 1, none⟩) (by show w.heap.size ≤ w.heap.size + 1; omega) (.int .i64 (0))).setCell (p := ⟨w.heap.size + 1, 2, none⟩) (by show w.heap.size ≤ w.heap.size + 1; omega) (.int .u32 (0)))
  obtain ⟨WW, hWW⟩ : ∃ WW, WW = (((w1.setCell ⟨w.heap.size + 1, 0, none⟩ (.int .i64 (0))).setCell ⟨w.heap.size + 1, 1, none⟩ (.int .i64 (0))).setCell ⟨w.heap.size + 1, 2, none⟩ (.int .u32 (0))) := ⟨_, rfl⟩
  rw [← hWW] at hF hBB ⊢
  clear hWW
  obtain ⟨_, hF0, hF1, hF2⟩ := hF
  exact bodyPost_ret (v := .tuple #[.agg #[.int .i64 (0), .int .i64 (0), .int .u32 (0)], .int .i64 1]) (by simp [results, Try.results39, go_sem, hF0, hF1, hF2]) rfl ⟨rfl, hBB⟩
theorem ifl_rng (k n e q : Int) (h : VK k n e) (hr : q < 0 ∨ k < q) :
    Calls Try.prog 39 #[.agg #[.int .i64 k, .int .i64 n, .int .u32 e], .int .i64 q] w fun r w' => r = .returned (.tuple #[.agg #[.int .i64 0, .int .i64 0, .int .u32 0], .int .i64 2]) ∧ Below w.heap.size w w' := by
  rcases hr with hr | hr
  · have hd : decide (q < 0) = true := decide_eq_true hr
    go_enter Try.func39, Try.ntmps39
    go_wp2_with fail
    refine (ivk_t _ k n e h).mono ?_
    rintro r1 w1 ⟨rfl, hb1⟩
    obtain ⟨hc1_0, hz1_0⟩ := bkeep hb1 (w.heap.size) (by (try simp) <;> omega)
    obtain ⟨hc1_1, hz1_1⟩ := bkeep hb1 (w.heap.size + 1) (by (try simp) <;> omega)
    have hf1_1 := bkeepz hb1 (w.heap.size + 1) (by (try simp) <;> omega)
    go_wp2
    have hfc : FC w1 (w.heap.size + 1) 0 0 0 := ⟨hz1_1, by rw [hc1_1]; simp [go_sem], by rw [hc1_1]; simp [go_sem], by rw [hc1_1]; simp [go_sem]⟩
    have hbw : Below w.heap.size w w1 := by (repeat (first | exact Below.refl _ _ | assumption | refine bchain (by assumption) ?_ | refine balloc ?_ _ | apply Below.drew | apply below_drewN | (refine Below.alloc ?_ (by (try simp) <;> omega) _) | (refine Below.setCell ?_ (by (try simp) <;> omega) _)))
    have hF := hfc.put (0) (0) (0)
    have hBB := (((hbw.setCell (p := ⟨w.heap.size + 1, 0, none⟩) (by show w.heap.size ≤ w.heap.size + 1; omega) (.int .i64 (0))).setCell (p := ⟨w.heap.size + 1, 1, none⟩) (by show w.heap.size ≤ w.heap.size + 1; omega) (.int .i64 (0))).setCell (p := ⟨w.heap.size + 1, 2, none⟩) (by show w.heap.size ≤ w.heap.size + 1; omega) (.int .u32 (0)))
    obtain ⟨WW, hWW⟩ : ∃ WW, WW = (((w1.setCell ⟨w.heap.size + 1, 0, none⟩ (.int .i64 (0))).setCell ⟨w.heap.size + 1, 1, none⟩ (.int .i64 (0))).setCell ⟨w.heap.size + 1, 2, none⟩ (.int .u32 (0))) := ⟨_, rfl⟩
    rw [← hWW] at hF hBB ⊢
    clear hWW
    obtain ⟨_, hF0, hF1, hF2⟩ := hF
    exact bodyPost_ret (v := .tuple #[.agg #[.int .i64 (0), .int .i64 (0), .int .u32 (0)], .int .i64 2]) (by simp [results, Try.results39, go_sem, hF0, hF1, hF2]) rfl ⟨rfl, hBB⟩
  · have hd : decide (q < 0) = false := decide_eq_false (by have := h.2.1; omega)
    have hd2 : decide (k < q) = true := decide_eq_true hr
    go_enter Try.func39, Try.ntmps39
    go_wp2_with fail
    refine (ivk_t _ k n e h).mono ?_
    rintro r1 w1 ⟨rfl, hb1⟩
    obtain ⟨hc1_0, hz1_0⟩ := bkeep hb1 (w.heap.size) (by (try simp) <;> omega)
    obtain ⟨hc1_1, hz1_1⟩ := bkeep hb1 (w.heap.size + 1) (by (try simp) <;> omega)
    have hf1_1 := bkeepz hb1 (w.heap.size + 1) (by (try simp) <;> omega)
    go_wp2
    have hfc : FC w1 (w.heap.size + 1) 0 0 0 := ⟨hz1_1, by rw [hc1_1]; simp [go_sem], by rw [hc1_1]; simp [go_sem], by rw [hc1_1]; simp [go_sem]⟩
    have hbw : Below w.heap.size w w1 := by (repeat (first | exact Below.refl _ _ | assumption | refine bchain (by assumption) ?_ | refine balloc ?_ _ | apply Below.drew | apply below_drewN | (refine Below.alloc ?_ (by (try simp) <;> omega) _) | (refine Below.setCell ?_ (by (try simp) <;> omega) _)))
    have hF := hfc.put (0) (0) (0)
    have hBB := (((hbw.setCell (p := ⟨w.heap.size + 1, 0, none⟩) (by show w.heap.size ≤ w.heap.size + 1; omega) (.int .i64 (0))).setCell (p := ⟨w.heap.size + 1, 1, none⟩) (by show w.heap.size ≤ w.heap.size + 1; omega) (.int .i64 (0))).setCell (p := ⟨w.heap.size + 1, 2, none⟩) (by show w.heap.size ≤ w.heap.size + 1; omega) (.int .u32 (0)))
    obtain ⟨WW, hWW⟩ : ∃ WW, WW = (((w1.setCell ⟨w.heap.size + 1, 0, none⟩ (.int .i64 (0))).setCell ⟨w.heap.size + 1, 1, none⟩ (.int .i64 (0))).setCell ⟨w.heap.size + 1, 2, none⟩ (.int .u32 (0))) := ⟨_, rfl⟩
    rw [← hWW] at hF hBB ⊢
    clear hWW
    obtain ⟨_, hF0, hF1, hF2⟩ := hF
    exact bodyPost_ret (v := .tuple #[.agg #[.int .i64 (0), .int .i64 (0), .int .u32 (0)], .int .i64 2]) (by simp [results, Try.results39, go_sem, hF0, hF1, hF2]) rfl ⟨rfl, hBB⟩
theorem ifl_ok (k n e q : Nat) (h : VK k n e) (hq : q ≤ k) :
    Calls Try.prog 39 #[.agg #[.int .i64 k, .int .i64 n, .int .u32 e], .int .i64 q] w fun r w' => r = .returned (.tuple #[.agg #[.int .i64 q, .int .i64 n, .int .u32 (leastK n q e : Nat)], .int .i64 0]) ∧ Below w.heap.size w w' := by
  have hL := Lib.hid (fun W => leastK_any W q n e ⟨h.1, by omega, by have := h.2.2.1; omega, by have := h.2.2.2; omega⟩)
  obtain ⟨x, hx⟩ : ∃ x, leastK n q e = x := ⟨_, rfl⟩
  rw [hx] at hL ⊢
  clear hx
  have hd : decide ((q : Int) < 0) = false := decide_eq_false (by omega)
  have hd2 : decide ((k : Int) < (q : Int)) = false := decide_eq_false (by omega)
  go_enter Try.func39, Try.ntmps39
  go_wp2_with fail
  refine (ivk_t _ k n e h).mono ?_
  rintro r1 w1 ⟨rfl, hb1⟩
  obtain ⟨hc1_0, hz1_0⟩ := bkeep hb1 (w.heap.size) (by (try simp) <;> omega)
  obtain ⟨hc1_1, hz1_1⟩ := bkeep hb1 (w.heap.size + 1) (by (try simp) <;> omega)
  have hf1_1 := bkeepz hb1 (w.heap.size + 1) (by (try simp) <;> omega)
  go_wp2_with fail
  refine (hL.out _).mono ?_
  rintro r2 w2 ⟨rfl, hb2⟩
  obtain ⟨hc2_0, hz2_0⟩ := bkeep hb2 (w.heap.size + 1) (by (try simp) <;> omega)
  have hf2_0 := bkeepz hb2 (w.heap.size + 1) (by (try simp) <;> omega)
  go_wp2
  have hfc : FC w2 (w.heap.size + 1) 0 0 0 := ⟨hz2_0, by rw [hc2_0, hc1_1]; simp [go_sem], by rw [hc2_0, hc1_1]; simp [go_sem], by rw [hc2_0, hc1_1]; simp [go_sem]⟩
  have hbw : Below w.heap.size w w2 := by (repeat (first | exact Below.refl _ _ | assumption | refine bchain (by assumption) ?_ | refine balloc ?_ _ | apply Below.drew | apply below_drewN | (refine Below.alloc ?_ (by (try simp) <;> omega) _) | (refine Below.setCell ?_ (by (try simp) <;> omega) _)))
  have hF := hfc.put (q) (n) (x)
  have hBB := (((hbw.setCell (p := ⟨w.heap.size + 1, 0, none⟩) (by show w.heap.size ≤ w.heap.size + 1; omega) (.int .i64 (q))).setCell (p := ⟨w.heap.size + 1, 1, none⟩) (by show w.heap.size ≤ w.heap.size + 1; omega) (.int .i64 (n))).setCell (p := ⟨w.heap.size + 1, 2, none⟩) (by show w.heap.size ≤ w.heap.size + 1; omega) (.int .u32 (x)))
  obtain ⟨WW, hWW⟩ : ∃ WW, WW = (((w2.setCell ⟨w.heap.size + 1, 0, none⟩ (.int .i64 (q))).setCell ⟨w.heap.size + 1, 1, none⟩ (.int .i64 (n))).setCell ⟨w.heap.size + 1, 2, none⟩ (.int .u32 (x))) := ⟨_, rfl⟩
  rw [← hWW] at hF hBB ⊢
  clear hWW
  obtain ⟨_, hF0, hF1, hF2⟩ := hF
  exact bodyPost_ret (v := .tuple #[.agg #[.int .i64 (q), .int .i64 (n), .int .u32 (x)], .int .i64 0]) (by simp [results, Try.results39, go_sem, hF0, hF1, hF2]) rfl ⟨rfl, hBB⟩
theorem slf_inv (k n e : Int) (hn : e < 4294967296) (he0 : 0 ≤ e) (h : ¬ VK k n e) :
    Calls Try.prog 30 #[.agg #[.int .i64 k, .int .i64 n, .int .u32 e]] w fun r w' => r = .returned (.tuple #[.agg #[.int .i64 0, .int .i64 0, .int .u32 0], .int .i64 1]) ∧ Below w.heap.size w w' := by
  go_enter Try.func30, Try.ntmps30
  go_wp2_with fail
  refine (sok_f _ k n e hn he0 h).mono ?_
  rintro r1 w1 ⟨rfl, hb1⟩
  obtain ⟨hc1_0, hz1_0⟩ := bkeep hb1 (w.heap.size + 1) (by (try simp) <;> omega)
  have hf1_0 := bkeepz hb1 (w.heap.size + 1) (by (try simp) <;> omega)
  go_wp2
  have hfc : FC w1 (w.heap.size + 1) 0 0 0 := ⟨hz1_0, by rw [hc1_0]; simp [go_sem], by rw [hc1_0]; simp [go_sem], by rw [hc1_0]; simp [go_sem]⟩
  have hbw : Below w.heap.size w w1 := by (repeat (first | exact Below.refl _ _ | assumption | refine bchain (by assumption) ?_ | refine balloc ?_ _ | apply Below.drew | apply below_drewN | (refine Below.alloc ?_ (by (try simp) <;> omega) _) | (refine Below.setCell ?_ (by (try simp) <;> omega) _)))
  have hF := hfc.put (0) (0) (0)
  have hBB := (((hbw.setCell (p := ⟨w.heap.size + 1, 0, none⟩) (by show w.heap.size ≤ w.heap.size + 1; omega) (.int .i64 (0))).setCell (p := ⟨w.heap.size + 1, 1, none⟩) (by show w.heap.size ≤ w.heap.size + 1; omega) (.int .i64 (0))).setCell (p := ⟨w.heap.size + 1, 2, none⟩) (by show w.heap.size ≤ w.heap.size + 1; omega) (.int .u32 (0)))
  obtain ⟨WW, hWW⟩ : ∃ WW, WW = (((w1.setCell ⟨w.heap.size + 1, 0, none⟩ (.int .i64 (0))).setCell ⟨w.heap.size + 1, 1, none⟩ (.int .i64 (0))).setCell ⟨w.heap.size + 1, 2, none⟩ (.int .u32 (0))) := ⟨_, rfl⟩
  rw [← hWW] at hF hBB ⊢
  clear hWW
  obtain ⟨_, hF0, hF1, hF2⟩ := hF
  exact bodyPost_ret (v := .tuple #[.agg #[.int .i64 (0), .int .i64 (0), .int .u32 (0)], .int .i64 1]) (by simp [results, Try.results30, go_sem, hF0, hF1, hF2]) rfl ⟨rfl, hBB⟩
theorem slf_ok (k n e : Nat) (h : VK k n e) :
    Calls Try.prog 30 #[.agg #[.int .i64 k, .int .i64 n, .int .u32 e]] w fun r w' => r = .returned (.tuple #[.agg #[.int .i64 k, .int .i64 n, .int .u32 (leastK n k e : Nat)], .int .i64 0]) ∧ Below w.heap.size w w' := by
  have hL := Lib.hid (fun W => sleastK_any W k n e h)
  obtain ⟨x, hx⟩ : ∃ x, leastK n k e = x := ⟨_, rfl⟩
  rw [hx] at hL ⊢
  clear hx
  go_enter Try.func30, Try.ntmps30
  go_wp2_with fail
  refine (sok_t _ k n e h).mono ?_
  rintro r1 w1 ⟨rfl, hb1⟩
  obtain ⟨hc1_0, hz1_0⟩ := bkeep hb1 (w.heap.size) (by (try simp) <;> omega)
  obtain ⟨hc1_1, hz1_1⟩ := bkeep hb1 (w.heap.size + 1) (by (try simp) <;> omega)
  have hf1_1 := bkeepz hb1 (w.heap.size + 1) (by (try simp) <;> omega)
  go_wp2_with fail
  refine (hL.out _).mono ?_
  rintro r2 w2 ⟨rfl, hb2⟩
  obtain ⟨hc2_0, hz2_0⟩ := bkeep hb2 (w.heap.size + 1) (by (try simp) <;> omega)
  have hf2_0 := bkeepz hb2 (w.heap.size + 1) (by (try simp) <;> omega)
  go_wp2
  have hfc : FC w2 (w.heap.size + 1) 0 0 0 := ⟨hz2_0, by rw [hc2_0, hc1_1]; simp [go_sem], by rw [hc2_0, hc1_1]; simp [go_sem], by rw [hc2_0, hc1_1]; simp [go_sem]⟩
  have hbw : Below w.heap.size w w2 := by (repeat (first | exact Below.refl _ _ | assumption | refine bchain (by assumption) ?_ | refine balloc ?_ _ | apply Below.drew | apply below_drewN | (refine Below.alloc ?_ (by (try simp) <;> omega) _) | (refine Below.setCell ?_ (by (try simp) <;> omega) _)))
  have hF := hfc.put (k) (n) (x)
  have hBB := (((hbw.setCell (p := ⟨w.heap.size + 1, 0, none⟩) (by show w.heap.size ≤ w.heap.size + 1; omega) (.int .i64 (k))).setCell (p := ⟨w.heap.size + 1, 1, none⟩) (by show w.heap.size ≤ w.heap.size + 1; omega) (.int .i64 (n))).setCell (p := ⟨w.heap.size + 1, 2, none⟩) (by show w.heap.size ≤ w.heap.size + 1; omega) (.int .u32 (x)))
  obtain ⟨WW, hWW⟩ : ∃ WW, WW = (((w2.setCell ⟨w.heap.size + 1, 0, none⟩ (.int .i64 (k))).setCell ⟨w.heap.size + 1, 1, none⟩ (.int .i64 (n))).setCell ⟨w.heap.size + 1, 2, none⟩ (.int .u32 (x))) := ⟨_, rfl⟩
  rw [← hWW] at hF hBB ⊢
  clear hWW
  obtain ⟨_, hF0, hF1, hF2⟩ := hF
  exact bodyPost_ret (v := .tuple #[.agg #[.int .i64 (k), .int .i64 (n), .int .u32 (x)], .int .i64 0]) (by simp [results, Try.results30, go_sem, hF0, hF1, hF2]) rfl ⟨rfl, hBB⟩
theorem sfl_inv (k n e q : Int) (hn : e < 4294967296) (he0 : 0 ≤ e) (h : ¬ VK k n e) :
    Calls Try.prog 38 #[.agg #[.int .i64 k, .int .i64 n, .int .u32 e], .int .i64 q] w fun r w' => r = .returned (.tuple #[.agg #[.int .i64 0, .int .i64 0, .int .u32 0], .int .i64 1]) ∧ Below w.heap.size w w' := by
  go_enter Try.func38, Try.ntmps38
  go_wp2_with fail
  refine (sok_f _ k n e hn he0 h).mono ?_
  rintro r1 w1 ⟨rfl, hb1⟩
  obtain ⟨hc1_0, hz1_0⟩ := bkeep hb1 (w.heap.size + 1) (by (try simp) <;> omega)
  have hf1_0 := bkeepz hb1 (w.heap.size + 1) (by (try simp) <;> omega)
  go_wp2
  have hfc : FC w1 (w.heap.size + 1) 0 0 0 := ⟨hz1_0, by rw [hc1_0]; simp [go_sem], by rw [hc1_0]; simp [go_sem], by rw [hc1_0]; simp [go_sem]⟩
  have hbw : Below w.heap.size w w1 := by (repeat (first | exact Below.refl _ _ | assumption | refine bchain (by assumption) ?_ | refine balloc ?_ _ | apply Below.drew | apply below_drewN | (refine Below.alloc ?_ (by (try simp) <;> omega) _) | (refine Below.setCell ?_ (by (try simp) <;> omega) _)))
  have hF := hfc.put (0) (0) (0)
  have hBB := (((hbw.setCell (p := ⟨w.heap.size + 1, 0, none⟩) (by show w.heap.size ≤ w.heap.size + 1; omega) (.int .i64 (0))).setCell (p := ⟨w.heap.size + 1, 1, none⟩) (by show w.heap.size ≤ w.heap.size + 1; omega) (.int .i64 (0))).setCell (p := ⟨w.heap.size + 1, 2, none⟩) (by show w.heap.size ≤ w.heap.size + 1; omega) (.int .u32 (0)))
  obtain ⟨WW, hWW⟩ : ∃ WW, WW = (((w1.setCell ⟨w.heap.size + 1, 0, none⟩ (.int .i64 (0))).setCell ⟨w.heap.size + 1, 1, none⟩ (.int .i64 (0))).setCell ⟨w.heap.size + 1, 2, none⟩ (.int .u32 (0))) := ⟨_, rfl⟩
  rw [← hWW] at hF hBB ⊢
  clear hWW
  obtain ⟨_, hF0, hF1, hF2⟩ := hF
  exact bodyPost_ret (v := .tuple #[.agg #[.int .i64 (0), .int .i64 (0), .int .u32 (0)], .int .i64 1]) (by simp [results, Try.results38, go_sem, hF0, hF1, hF2]) rfl ⟨rfl, hBB⟩
theorem sfl_rng (k n e q : Int) (h : VK k n e) (hr : q < 0 ∨ k < q) :
    Calls Try.prog 38 #[.agg #[.int .i64 k, .int .i64 n, .int .u32 e], .int .i64 q] w fun r w' => r = .returned (.tuple #[.agg #[.int .i64 0, .int .i64 0, .int .u32 0], .int .i64 2]) ∧ Below w.heap.size w w' := by
  go_enter Try.func38, Try.ntmps38
  go_wp2_with fail
  refine (sok_t _ k n e h).mono ?_
  rintro r1 w1 ⟨rfl, hb1⟩
  obtain ⟨hc1_0, hz1_0⟩ := bkeep hb1 (w.heap.size) (by (try simp) <;> omega)
  obtain ⟨hc1_1, hz1_1⟩ := bkeep hb1 (w.heap.size + 1) (by (try simp) <;> omega)
  have hf1_1 := bkeepz hb1 (w.heap.size + 1) (by (try simp) <;> omega)
  go_wp2_with (go_at_call 61; refine (in_f _ _ _ _ hr).mono ?_; rintro r2 w2 ⟨rfl, rfl⟩)
  have hfc : FC w1 (w.heap.size + 1) 0 0 0 := ⟨hz1_1, by rw [hc1_1]; simp [go_sem], by rw [hc1_1]; simp [go_sem], by rw [hc1_1]; simp [go_sem]⟩
  have hbw : Below w.heap.size w w1 := by (repeat (first | exact Below.refl _ _ | assumption | refine bchain (by assumption) ?_ | refine balloc ?_ _ | apply Below.drew | apply below_drewN | (refine Below.alloc ?_ (by (try simp) <;> omega) _) | (refine Below.setCell ?_ (by (try simp) <;> omega) _)))
  have hF := hfc.put (0) (0) (0)
  have hBB := (((hbw.setCell (p := ⟨w.heap.size + 1, 0, none⟩) (by show w.heap.size ≤ w.heap.size + 1; omega) (.int .i64 (0))).setCell (p := ⟨w.heap.size + 1, 1, none⟩) (by show w.heap.size ≤ w.heap.size + 1; omega) (.int .i64 (0))).setCell (p := ⟨w.heap.size + 1, 2, none⟩) (by show w.heap.size ≤ w.heap.size + 1; omega) (.int .u32 (0)))
  obtain ⟨WW, hWW⟩ : ∃ WW, WW = (((w1.setCell ⟨w.heap.size + 1, 0, none⟩ (.int .i64 (0))).setCell ⟨w.heap.size + 1, 1, none⟩ (.int .i64 (0))).setCell ⟨w.heap.size + 1, 2, none⟩ (.int .u32 (0))) := ⟨_, rfl⟩
  rw [← hWW] at hF hBB ⊢
  clear hWW
  obtain ⟨_, hF0, hF1, hF2⟩ := hF
  exact bodyPost_ret (v := .tuple #[.agg #[.int .i64 (0), .int .i64 (0), .int .u32 (0)], .int .i64 2]) (by simp [results, Try.results38, go_sem, hF0, hF1, hF2]) rfl ⟨rfl, hBB⟩
theorem sfl_ok (k n e q : Nat) (h : VK k n e) (hq : q ≤ k) :
    Calls Try.prog 38 #[.agg #[.int .i64 k, .int .i64 n, .int .u32 e], .int .i64 q] w fun r w' => r = .returned (.tuple #[.agg #[.int .i64 q, .int .i64 n, .int .u32 (leastK n q e : Nat)], .int .i64 0]) ∧ Below w.heap.size w w' := by
  have hL := Lib.hid (fun W => sleastK_any W q n e ⟨h.1, by omega, by have := h.2.2.1; omega, by have := h.2.2.2; omega⟩)
  obtain ⟨x, hx⟩ : ∃ x, leastK n q e = x := ⟨_, rfl⟩
  rw [hx] at hL ⊢
  clear hx
  go_enter Try.func38, Try.ntmps38
  go_wp2_with fail
  refine (sok_t _ k n e h).mono ?_
  rintro r1 w1 ⟨rfl, hb1⟩
  obtain ⟨hc1_0, hz1_0⟩ := bkeep hb1 (w.heap.size) (by (try simp) <;> omega)
  obtain ⟨hc1_1, hz1_1⟩ := bkeep hb1 (w.heap.size + 1) (by (try simp) <;> omega)
  have hf1_1 := bkeepz hb1 (w.heap.size + 1) (by (try simp) <;> omega)
  go_wp2_with (first
    | (go_at_call 61; refine (in_t _ _ _ _ (by omega) (by omega)).mono ?_; rintro r3 w3 ⟨rfl, rfl⟩)
    | (go_at_call 52; refine (hL.out _).mono ?_; rintro r2 w2 ⟨rfl, hb2⟩; obtain ⟨hc2_0, hz2_0⟩ := bkeep hb2 (w.heap.size + 1) hz1_1; have hf2_0 := bkeepz hb2 (w.heap.size + 1) hz1_1))
  go_wp2
  have hfc : FC w2 (w.heap.size + 1) 0 0 0 := ⟨hz2_0, by rw [hc2_0, hc1_1]; simp [go_sem], by rw [hc2_0, hc1_1]; simp [go_sem], by rw [hc2_0, hc1_1]; simp [go_sem]⟩
  have hbw : Below w.heap.size w w2 := by (repeat (first | exact Below.refl _ _ | assumption | refine bchain (by assumption) ?_ | refine balloc ?_ _ | apply Below.drew | apply below_drewN | (refine Below.alloc ?_ (by (try simp) <;> omega) _) | (refine Below.setCell ?_ (by (try simp) <;> omega) _)))
  have hF := hfc.put (q) (n) (x)
  have hBB := (((hbw.setCell (p := ⟨w.heap.size + 1, 0, none⟩) (by show w.heap.size ≤ w.heap.size + 1; omega) (.int .i64 (q))).setCell (p := ⟨w.heap.size + 1, 1, none⟩) (by show w.heap.size ≤ w.heap.size + 1; omega) (.int .i64 (n))).setCell (p := ⟨w.heap.size + 1, 2, none⟩) (by show w.heap.size ≤ w.heap.size + 1; omega) (.int .u32 (x)))
  obtain ⟨WW, hWW⟩ : ∃ WW, WW = (((w2.setCell ⟨w.heap.size + 1, 0, none⟩ (.int .i64 (q))).setCell ⟨w.heap.size + 1, 1, none⟩ (.int .i64 (n))).setCell ⟨w.heap.size + 1, 2, none⟩ (.int .u32 (x))) := ⟨_, rfl⟩
  rw [← hWW] at hF hBB ⊢
  clear hWW
  obtain ⟨_, hF0, hF1, hF2⟩ := hF
  exact bodyPost_ret (v := .tuple #[.agg #[.int .i64 (q), .int .i64 (n), .int .u32 (x)], .int .i64 0]) (by simp [results, Try.results38, go_sem, hF0, hF1, hF2]) rfl ⟨rfl, hBB⟩
end
theorem lf_both (k n e : Int) (hn : e < 4294967296) (he0 : 0 ≤ e) : ∃ (m1 m2 m3 c : Int),
    (∀ W, Calls Try.prog 30 #[.agg #[.int .i64 k, .int .i64 n, .int .u32 e]] W fun r w' => r = .returned (.tuple #[.agg #[.int .i64 m1, .int .i64 m2, .int .u32 m3], .int .i64 c]) ∧ Below W.heap.size W w') ∧
    (∀ W, Calls Try.prog 31 #[.agg #[.int .i64 k, .int .i64 n, .int .u32 e]] W fun r w' => r = .returned (.tuple #[.agg #[.int .i64 m1, .int .i64 m2, .int .u32 m3], .int .i64 c]) ∧ Below W.heap.size W w') := by
  by_cases h : VK k n e
  · obtain ⟨k', rfl⟩ : ∃ x : Nat, k = x := ⟨k.toNat, by have := h.2.1; omega⟩
    obtain ⟨n', rfl⟩ : ∃ x : Nat, n = x := ⟨n.toNat, by have := h.1.1; omega⟩
    obtain ⟨e', rfl⟩ : ∃ x : Nat, e = x := ⟨e.toNat, by omega⟩
    exact ⟨_, _, _, _, fun W => slf_ok W k' n' e' h, fun W => ilf_ok W k' n' e' h⟩
  · exact ⟨_, _, _, _, fun W => slf_inv W k n e hn he0 h, fun W => ilf_inv W k n e hn he0 h⟩
theorem fl_both (k n e q : Int) (hn : e < 4294967296) (he0 : 0 ≤ e) : ∃ (m1 m2 m3 c : Int),
    (∀ W, Calls Try.prog 38 #[.agg #[.int .i64 k, .int .i64 n, .int .u32 e], .int .i64 q] W fun r w' => r = .returned (.tuple #[.agg #[.int .i64 m1, .int .i64 m2, .int .u32 m3], .int .i64 c]) ∧ Below W.heap.size W w') ∧
    (∀ W, Calls Try.prog 39 #[.agg #[.int .i64 k, .int .i64 n, .int .u32 e], .int .i64 q] W fun r w' => r = .returned (.tuple #[.agg #[.int .i64 m1, .int .i64 m2, .int .u32 m3], .int .i64 c]) ∧ Below W.heap.size W w') := by
  by_cases h : VK k n e
  · obtain ⟨k', rfl⟩ : ∃ x : Nat, k = x := ⟨k.toNat, by have := h.2.1; omega⟩
    obtain ⟨n', rfl⟩ : ∃ x : Nat, n = x := ⟨n.toNat, by have := h.1.1; omega⟩
    obtain ⟨e', rfl⟩ : ∃ x : Nat, e = x := ⟨e.toNat, by omega⟩
    by_cases hr : q < 0 ∨ (k' : Int) < q
    · exact ⟨_, _, _, _, fun W => sfl_rng W k' n' e' q h hr, fun W => ifl_rng W k' n' e' q h hr⟩
    · obtain ⟨q', rfl⟩ : ∃ x : Nat, q = x := ⟨q.toNat, by omega⟩
      exact ⟨_, _, _, _, fun W => sfl_ok W k' n' e' q' h (by omega), fun W => ifl_ok W k' n' e' q' h (by omega)⟩
  · exact ⟨_, _, _, _, fun W => sfl_inv W k n e q hn he0 h, fun W => ifl_inv W k n e q hn he0 h⟩
end Go.Proofs.Ytdibcchhamapjaa
