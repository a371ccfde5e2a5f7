/-
  CONTRACTS: FractionOf: the program's and the model's.
-/
import Derived.Test.YtonjmoiognbjbaaFTwo
namespace Go.Proofs.Ytonjmoiognbjbaa
open Go.RowKit
set_option maxRecDepth 100000
section
variable (w : World)
/-- two numbers of which a quotient is asked -/
def Given (p q : Int) : Prop := q ≠ 0 ∧ (-1000000000000000000 ≤ p ∧ p ≤ 1000000000000000000) ∧ -1000000000000000000 ≤ q ∧ q ≤ 1000000000000000000
theorem foClo_any (p q : Int) (hG : Given p q) (B C : Nat) (hB : w.cell? ⟨B, 0, none⟩ = some (.int .i64 p)) (hC : w.cell? ⟨C, 0, none⟩ = some (.int .i64 q)) :
    Calls Try.prog 30 #[.pointer (some ⟨B, 0, none⟩), .pointer (some ⟨C, 0, none⟩)] w fun r w' => r = qe (low p q) ∧ Below w.heap.size w w' := by
  have hQ := Lib.hid (fun W => q_any W p q (by have := hG.2.1; omega) (by have := hG.2.2; omega) hG.1)
  have e0 := World.block_lt_of_cell? w _ hB
  have e1 := World.block_lt_of_cell? w _ hC
  dsimp only at e0 e1
  have l0 : ∀ O, (w.alloc O).cell? ⟨B, 0, none⟩ = some (.int .i64 p) := fun O => (World.cell?_alloc_lt _ _ _ e0).trans hB
  have l1 : ∀ O, (w.alloc O).cell? ⟨C, 0, none⟩ = some (.int .i64 q) := fun O => (World.cell?_alloc_lt _ _ _ e1).trans hC
  clear hB hC hG
  go_enter Try.func30, Try.ntmps30
  go_wp2_with fail
  refine (hQ.out _).mono ?_
  rintro r1 w1 ⟨rfl, hb1⟩
  rcases qe_form (low p q) with ⟨x, y, hq⟩ | hq
  · rw [hq]
    obtain ⟨hk1, hz1⟩ := bkeep hb1 w.heap.size (by simp)
    have hf1 := bkeepz hb1 w.heap.size (by simp)
    have g0 : w1.cell? ⟨w.heap.size, 0, none⟩ = some (.int .i64 0) := (hk1 0).trans (by simp [go_sem])
    have g1 : w1.cell? ⟨w.heap.size, 1, none⟩ = some (.int .i64 0) := (hk1 1).trans (by simp [go_sem])
    have h2 := twoCells g0 g1 (.int .i64 x) (.int .i64 y)
    go_wp2
    exact bodyPost_ret (v := .agg #[.int .i64 x, .int .i64 y]) (by simp [results, Try.results30, go_sem, h2.1, h2.2]) rfl ⟨hq.symm, by (repeat (first | exact Below.refl _ _ | assumption | refine bchain (by assumption) ?_ | refine balloc ?_ _ | apply Below.drew | apply below_drewN | (refine Below.alloc ?_ (by (try simp) <;> omega) _) | (refine Below.setCell ?_ (by (try simp) <;> omega) _)))⟩
  · rw [hq]
    unfold tooBig
    go_wp2
    exact ⟨rfl, hq.symm, by (repeat (first | exact Below.refl _ _ | assumption | refine bchain (by assumption) ?_ | refine balloc ?_ _ | apply Below.drew | apply below_drewN | (refine Below.alloc ?_ (by (try simp) <;> omega) _) | (refine Below.setCell ?_ (by (try simp) <;> omega) _)))⟩

theorem ifo_zero (p : Int) :
    Calls Try.prog 11 #[.int .i64 p, .int .i64 0] w fun r w' => r = .returned (cv 2) ∧ Below w.heap.size w w' := by
  unfold cv
  go_enter Try.func11, Try.ntmps11
  go_wp2
  exact bodyPost_ret (v := .tuple #[.agg #[.int .i64 0, .int .i64 0], .int .i64 2]) (by simp [results, Try.results11, go_sem]) rfl ⟨rfl, by (repeat (first | exact Below.refl _ _ | assumption | refine bchain (by assumption) ?_ | refine balloc ?_ _ | apply Below.drew | apply below_drewN | (refine Below.alloc ?_ (by (try simp) <;> omega) _) | (refine Below.setCell ?_ (by (try simp) <;> omega) _)))⟩
theorem ifo_bad1 (p q : Int) (h0 : ¬ q = 0) (hp : ¬ (-1000000000000000000 ≤ p ∧ p ≤ 1000000000000000000)) :
    Calls Try.prog 11 #[.int .i64 p, .int .i64 q] w fun r w' => r = .returned (cv 2) ∧ Below w.heap.size w w' := by
  have hT := Lib.hid (fun W => am_any W 1000000000000000000 p (by omega))
  rw [decide_eq_false hp] at hT
  clear hp
  have hd : (q == 0) = false := by simpa using h0
  unfold cv
  go_enter Try.func11, Try.ntmps11
  go_wp2_with (go_at_call 28; with_reducible refine (hT.out _).mono ?_; rintro r w3 ⟨rfl, rfl⟩)
  exact bodyPost_ret (v := .tuple #[.agg #[.int .i64 0, .int .i64 0], .int .i64 2]) (by simp [results, Try.results11, go_sem]) rfl ⟨rfl, by (repeat (first | exact Below.refl _ _ | assumption | refine bchain (by assumption) ?_ | refine balloc ?_ _ | apply Below.drew | apply below_drewN | (refine Below.alloc ?_ (by (try simp) <;> omega) _) | (refine Below.setCell ?_ (by (try simp) <;> omega) _)))⟩
theorem ifo_bad2 (p q : Int) (h0 : ¬ q = 0) (hp : -1000000000000000000 ≤ p ∧ p ≤ 1000000000000000000) (hq : ¬ (-1000000000000000000 ≤ q ∧ q ≤ 1000000000000000000)) :
    Calls Try.prog 11 #[.int .i64 p, .int .i64 q] w fun r w' => r = .returned (cv 2) ∧ Below w.heap.size w w' := by
  have hT := Lib.hid (fun W => am_any W 1000000000000000000 p (by omega))
  have hU := Lib.hid (fun W => am_any W 1000000000000000000 q (by omega))
  rw [decide_eq_true hp] at hT
  rw [decide_eq_false hq] at hU
  clear hp hq
  have hd : (q == 0) = false := by simpa using h0
  unfold cv
  go_enter Try.func11, Try.ntmps11
  go_wp2_with (go_at_call 28; first | (with_reducible refine (hT.out _).mono ?_; rintro r w3 ⟨rfl, rfl⟩) | (with_reducible refine (hU.out _).mono ?_; rintro r w3 ⟨rfl, rfl⟩))
  exact bodyPost_ret (v := .tuple #[.agg #[.int .i64 0, .int .i64 0], .int .i64 2]) (by simp [results, Try.results11, go_sem]) rfl ⟨rfl, by (repeat (first | exact Below.refl _ _ | assumption | refine bchain (by assumption) ?_ | refine balloc ?_ _ | apply Below.drew | apply below_drewN | (refine Below.alloc ?_ (by (try simp) <;> omega) _) | (refine Below.setCell ?_ (by (try simp) <;> omega) _)))⟩
theorem ifo_ok (p q : Int) (hG : Given p q) :
    Calls Try.prog 11 #[.int .i64 p, .int .i64 q] w fun r w' => r = .returned (lv (low p q)) ∧ Below w.heap.size w w' := by
  have hT := Lib.hid (fun W => am_any W 1000000000000000000 p (by omega))
  have hU := Lib.hid (fun W => am_any W 1000000000000000000 q (by omega))
  rw [decide_eq_true hG.2.1] at hT
  rw [decide_eq_true hG.2.2] at hU
  have hd : (q == 0) = false := by simpa using hG.1
  have hL := Lib.hid (fun W B C (hO : W.cell? ⟨B, 0, none⟩ = some (.int .i64 p)) (hC0 : W.cell? ⟨C, 0, none⟩ = some (.int .i64 q)) =>
      lim_any 30 #[.pointer (some ⟨B, 0, none⟩), .pointer (some ⟨C, 0, none⟩)] (fun _ _ => by kernel_rfl) (low p q) W (fun W' hb' =>
        foClo_any W' p q hG B C ((hb'.cell (World.block_lt_of_cell? W _ hO)).trans hO) ((hb'.cell (World.block_lt_of_cell? W _ hC0)).trans hC0)))
  have hmf : ∀ (fn : Fn) (first cap : Array Value) (w : World), (Instr.makeFunc fn first cap).run Try.prog w = .ok (.func fn first cap) w := fun _ _ _ _ => rfl
  obtain ⟨r1, r2, c, hl⟩ := lv_form (low p q)
  rw [hl] at hL ⊢
  clear hl hG
  go_enter Try.func11, Try.ntmps11
  go_wp2_with (go_at_call 28; first | (with_reducible refine (hT.out _).mono ?_; rintro r w3 ⟨rfl, rfl⟩) | (with_reducible refine (hU.out _).mono ?_; rintro r w3 ⟨rfl, rfl⟩))
  refine (hL.out _ _ _ (by simp [go_sem]) (by simp [go_sem])).mono ?_
  rintro r3 w3 ⟨rfl, hb3⟩
  obtain ⟨hc3, hz3⟩ := bkeep hb3 (w.heap.size + 1 + 1) (by (try simp) <;> omega)
  have hf3 := bkeepz hb3 (w.heap.size + 1 + 1) (by (try simp) <;> omega)
  have g0 : w3.cell? ⟨w.heap.size + 1 + 1, 0, none⟩ = some (.int .i64 0) := (hc3 0).trans (by simp [go_sem])
  have g1 : w3.cell? ⟨w.heap.size + 1 + 1, 1, none⟩ = some (.int .i64 0) := (hc3 1).trans (by simp [go_sem])
  have h2 := twoCells g0 g1 (.int .i64 r1) (.int .i64 r2)
  go_wp2
  exact bodyPost_ret (v := .tuple #[.agg #[.int .i64 r1, .int .i64 r2], .int .i64 c]) (by simp [results, Try.results11, go_sem, h2.1, h2.2]) rfl ⟨rfl, by (repeat (first | exact Below.refl _ _ | assumption | refine bchain (by assumption) ?_ | refine balloc ?_ _ | apply Below.drew | apply below_drewN | (refine Below.alloc ?_ (by (try simp) <;> omega) _) | (refine Below.setCell ?_ (by (try simp) <;> omega) _)))⟩

theorem sfo_zero (p : Int) :
    Calls Try.prog 10 #[.int .i64 p, .int .i64 0] w fun r w' => r = .returned (cv 2) ∧ Below w.heap.size w w' := by
  unfold cv
  go_enter Try.func10, Try.ntmps10
  go_wp2
  exact bodyPost_ret (v := .tuple #[.agg #[.int .i64 0, .int .i64 0], .int .i64 2]) (by simp [results, Try.results10, go_sem]) rfl ⟨rfl, by (repeat (first | exact Below.refl _ _ | assumption | refine bchain (by assumption) ?_ | refine balloc ?_ _ | apply Below.drew | apply below_drewN | (refine Below.alloc ?_ (by (try simp) <;> omega) _) | (refine Below.setCell ?_ (by (try simp) <;> omega) _)))⟩
theorem sfo_bad1 (p q : Int) (h0 : ¬ q = 0) (hp : ¬ (-1000000000000000000 ≤ p ∧ p ≤ 1000000000000000000)) :
    Calls Try.prog 10 #[.int .i64 p, .int .i64 q] w fun r w' => r = .returned (cv 2) ∧ Below w.heap.size w w' := by
  have hT := Lib.hid (fun W => in_f W p (-1000000000000000000) 1000000000000000000 (by omega))
  clear hp
  have hd : (q == 0) = false := by simpa using h0
  unfold cv
  go_enter Try.func10, Try.ntmps10
  go_wp2_with (go_at_call 26; with_reducible refine (hT.out _).mono ?_; rintro r w3 ⟨rfl, rfl⟩)
  exact bodyPost_ret (v := .tuple #[.agg #[.int .i64 0, .int .i64 0], .int .i64 2]) (by simp [results, Try.results10, go_sem]) rfl ⟨rfl, by (repeat (first | exact Below.refl _ _ | assumption | refine bchain (by assumption) ?_ | refine balloc ?_ _ | apply Below.drew | apply below_drewN | (refine Below.alloc ?_ (by (try simp) <;> omega) _) | (refine Below.setCell ?_ (by (try simp) <;> omega) _)))⟩
theorem sfo_bad2 (p q : Int) (h0 : ¬ q = 0) (hp : -1000000000000000000 ≤ p ∧ p ≤ 1000000000000000000) (hq : ¬ (-1000000000000000000 ≤ q ∧ q ≤ 1000000000000000000)) :
    Calls Try.prog 10 #[.int .i64 p, .int .i64 q] w fun r w' => r = .returned (cv 2) ∧ Below w.heap.size w w' := by
  have hT := Lib.hid (fun W => in_t W p (-1000000000000000000) 1000000000000000000 hp.1 hp.2)
  have hU := Lib.hid (fun W => in_f W q (-1000000000000000000) 1000000000000000000 (by omega))
  clear hp hq
  have hd : (q == 0) = false := by simpa using h0
  unfold cv
  go_enter Try.func10, Try.ntmps10
  go_wp2_with (go_at_call 26; first | (with_reducible refine (hT.out _).mono ?_; rintro r w3 ⟨rfl, rfl⟩) | (with_reducible refine (hU.out _).mono ?_; rintro r w3 ⟨rfl, rfl⟩))
  exact bodyPost_ret (v := .tuple #[.agg #[.int .i64 0, .int .i64 0], .int .i64 2]) (by simp [results, Try.results10, go_sem]) rfl ⟨rfl, by (repeat (first | exact Below.refl _ _ | assumption | refine bchain (by assumption) ?_ | refine balloc ?_ _ | apply Below.drew | apply below_drewN | (refine Below.alloc ?_ (by (try simp) <;> omega) _) | (refine Below.setCell ?_ (by (try simp) <;> omega) _)))⟩
theorem sfo_ok (p q : Int) (hG : Given p q) :
    Calls Try.prog 10 #[.int .i64 p, .int .i64 q] w fun r w' => r = .returned (lv (low p q)) ∧ Below w.heap.size w w' := by
  have hT := Lib.hid (fun W => in_t W p (-1000000000000000000) 1000000000000000000 hG.2.1.1 hG.2.1.2)
  have hU := Lib.hid (fun W => in_t W q (-1000000000000000000) 1000000000000000000 hG.2.2.1 hG.2.2.2)
  have hL := Lib.hid (fun W => sl_any W p q (by have := hG.2.1; omega) (by have := hG.2.2; omega) hG.1)
  have hd : (q == 0) = false := by simpa using hG.1
  obtain ⟨r1, r2, c, hl⟩ := lv_form (low p q)
  rw [hl] at hL ⊢
  clear hl hG
  go_enter Try.func10, Try.ntmps10
  go_wp2_with (go_at_call 26; first | (with_reducible refine (hT.out _).mono ?_; rintro r w3 ⟨rfl, rfl⟩) | (with_reducible refine (hU.out _).mono ?_; rintro r w3 ⟨rfl, rfl⟩))
  refine (hL.out _).mono ?_
  rintro r3 w3 ⟨rfl, hb3⟩
  obtain ⟨hc3, hz3⟩ := bkeep hb3 w.heap.size (by (try simp) <;> omega)
  have hf3 := bkeepz hb3 w.heap.size (by (try simp) <;> omega)
  have g0 : w3.cell? ⟨w.heap.size, 0, none⟩ = some (.int .i64 0) := (hc3 0).trans (by simp [go_sem])
  have g1 : w3.cell? ⟨w.heap.size, 1, none⟩ = some (.int .i64 0) := (hc3 1).trans (by simp [go_sem])
  have h2 := twoCells g0 g1 (.int .i64 r1) (.int .i64 r2)
  go_wp2
  exact bodyPost_ret (v := .tuple #[.agg #[.int .i64 r1, .int .i64 r2], .int .i64 c]) (by simp [results, Try.results10, go_sem, h2.1, h2.2]) rfl ⟨rfl, by (repeat (first | exact Below.refl _ _ | assumption | refine bchain (by assumption) ?_ | refine balloc ?_ _ | apply Below.drew | apply below_drewN | (refine Below.alloc ?_ (by (try simp) <;> omega) _) | (refine Below.setCell ?_ (by (try simp) <;> omega) _)))⟩
end
theorem fo_both (p q : Int) : ∃ (x y c : Int),
    (∀ W, Calls Try.prog 10 #[.int .i64 p, .int .i64 q] W fun r w' => r = .returned (.tuple #[.agg #[.int .i64 x, .int .i64 y], .int .i64 c]) ∧ Below W.heap.size W w') ∧
    (∀ W, Calls Try.prog 11 #[.int .i64 p, .int .i64 q] W fun r w' => r = .returned (.tuple #[.agg #[.int .i64 x, .int .i64 y], .int .i64 c]) ∧ Below W.heap.size W w') := by
  by_cases h0 : q = 0
  · subst h0
    exact ⟨0, 0, 2, fun W => sfo_zero W p, fun W => ifo_zero W p⟩
  · by_cases hp : -1000000000000000000 ≤ p ∧ p ≤ 1000000000000000000
    · by_cases hq : -1000000000000000000 ≤ q ∧ q ≤ 1000000000000000000
      · have h1 := fun W => sfo_ok W p q ⟨h0, hp, hq⟩
        have h2 := fun W => ifo_ok W p q ⟨h0, hp, hq⟩
        obtain ⟨r1, r2, c, hl⟩ := lv_form (low p q)
        rw [hl] at h1 h2
        exact ⟨r1, r2, c, h1, h2⟩
      · exact ⟨0, 0, 2, fun W => sfo_bad2 W p q h0 hp hq, fun W => ifo_bad2 W p q h0 hp hq⟩
    · exact ⟨0, 0, 2, fun W => sfo_bad1 W p q h0 hp, fun W => ifo_bad1 W p q h0 hp⟩
end Go.Proofs.Ytonjmoiognbjbaa
