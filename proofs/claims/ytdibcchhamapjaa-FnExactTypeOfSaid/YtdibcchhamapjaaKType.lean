/-
  TypeOf: the program's contract and the model's.
-/
import Derived.Test.YtdibcchhamapjaaKSmall
namespace Go.Proofs.Ytdibcchhamapjaa
open Go.RowKit
set_option maxRecDepth 100000
section
variable (w : World)
theorem ito_inv (k n e : Int) (hn : e < 4294967296) (he0 : 0 ≤ e) (h : ¬ VK k n e) :
    Calls Try.prog 18 #[.agg #[.int .i64 k, .int .i64 n, .int .u32 e]] w fun r w' => r = .returned (.tuple #[.agg #[.int .i64 0, .int .u32 0], .int .i64 1]) ∧ Below w.heap.size w w' := by
  go_enter Try.func18, Try.ntmps18
  go_wp2_with fail
  refine (ivk_f _ k n e hn he0 h).mono ?_
  rintro r1 w1 ⟨rfl, hb1⟩
  obtain ⟨hc1_0, hz1_0⟩ := bkeep hb1 (w.heap.size + 1) (by (try simp) <;> omega)
  have hf1_0 := bkeepz hb1 (w.heap.size + 1) (by (try simp) <;> omega)
  go_wp2
  exact bodyPost_ret (v := .tuple #[.agg #[.int .i64 0, .int .u32 0], .int .i64 1]) (by simp [results, Try.results18, go_sem, hc1_0]) rfl ⟨rfl, by (repeat (first | exact Below.refl _ _ | assumption | refine bchain (by assumption) ?_ | refine balloc ?_ _ | apply Below.drew | apply below_drewN | (refine Below.alloc ?_ (by (try simp) <;> omega) _) | (refine Below.setCell ?_ (by (try simp) <;> omega) _)))⟩
theorem ito_ok (k n e : Nat) (h : VK k n e) :
    Calls Try.prog 18 #[.agg #[.int .i64 k, .int .i64 n, .int .u32 e]] w fun r w' => r = .returned (.tuple #[.agg #[.int .i64 k, .int .u32 (onL e (List.range k) : Nat)], .int .i64 0]) ∧ Below w.heap.size w w' := by
  have hL := Lib.hid (fun W => ity_any W k n e h)
  obtain ⟨x, hx⟩ : ∃ x, onL e (List.range k) = x := ⟨_, rfl⟩
  rw [hx] at hL ⊢
  clear hx
  go_enter Try.func18, Try.ntmps18
  go_wp2_with fail
  refine (ivk_t _ k n e h).mono ?_
  rintro r1 w1 ⟨rfl, hb1⟩
  obtain ⟨hc1_0, hz1_0⟩ := bkeep hb1 (w.heap.size) (by (try simp) <;> omega)
  obtain ⟨hc1_1, hz1_1⟩ := bkeep hb1 (w.heap.size + 1) (by (try simp) <;> omega)
  have hf1_1 := bkeepz hb1 (w.heap.size + 1) (by (try simp) <;> omega)
  go_wp2_with fail
  refine (hL.out _).mono ?_
  rintro r2 w2 ⟨rfl, hb2⟩
  obtain ⟨hc2_0, hz2_0⟩ := bkeep hb2 (w.heap.size) (by (try simp) <;> omega)
  obtain ⟨hc2_1, hz2_1⟩ := bkeep hb2 (w.heap.size + 1) (by (try simp) <;> omega)
  have hf2_1 := bkeepz hb2 (w.heap.size + 1) (by (try simp) <;> omega)
  go_wp2
  have h0 : w2.cell? ⟨w.heap.size + 1, 0, none⟩ = some (.int .i64 0) := by rw [hc2_1, hc1_1]; simp [go_sem]
  have h1 : w2.cell? ⟨w.heap.size + 1, 1, none⟩ = some (.int .u32 0) := by rw [hc2_1, hc1_1]; simp [go_sem]
  have h2 := twoCells h0 h1 (.int .i64 k) (.int .u32 x)
  exact bodyPost_ret (v := .tuple #[.agg #[.int .i64 k, .int .u32 x], .int .i64 0]) (by simp [results, Try.results18, go_sem, h2.1, h2.2]) rfl ⟨rfl, by (repeat (first | exact Below.refl _ _ | assumption | refine bchain (by assumption) ?_ | refine balloc ?_ _ | apply Below.drew | apply below_drewN | (refine Below.alloc ?_ (by (try simp) <;> omega) _) | (refine Below.setCell ?_ (by (try simp) <;> omega) _)))⟩
theorem sto_inv (k n e : Int) (hn : e < 4294967296) (he0 : 0 ≤ e) (h : ¬ VK k n e) :
    Calls Try.prog 17 #[.agg #[.int .i64 k, .int .i64 n, .int .u32 e]] w fun r w' => r = .returned (.tuple #[.agg #[.int .i64 0, .int .u32 0], .int .i64 1]) ∧ Below w.heap.size w w' := by
  go_enter Try.func17, Try.ntmps17
  go_wp2_with fail
  refine (sok_f _ k n e hn he0 h).mono ?_
  rintro r1 w1 ⟨rfl, hb1⟩
  obtain ⟨hc1_0, hz1_0⟩ := bkeep hb1 (w.heap.size + 1) (by (try simp) <;> omega)
  have hf1_0 := bkeepz hb1 (w.heap.size + 1) (by (try simp) <;> omega)
  go_wp2
  exact bodyPost_ret (v := .tuple #[.agg #[.int .i64 0, .int .u32 0], .int .i64 1]) (by simp [results, Try.results17, go_sem, hc1_0]) rfl ⟨rfl, by (repeat (first | exact Below.refl _ _ | assumption | refine bchain (by assumption) ?_ | refine balloc ?_ _ | apply Below.drew | apply below_drewN | (refine Below.alloc ?_ (by (try simp) <;> omega) _) | (refine Below.setCell ?_ (by (try simp) <;> omega) _)))⟩
theorem sto_ok (k n e : Nat) (h : VK k n e) :
    Calls Try.prog 17 #[.agg #[.int .i64 k, .int .i64 n, .int .u32 e]] w fun r w' => r = .returned (.tuple #[.agg #[.int .i64 k, .int .u32 (onL e (List.range k) : Nat)], .int .i64 0]) ∧ Below w.heap.size w w' := by
  have hL := Lib.hid (fun W => sty_any W k n e h)
  obtain ⟨x, hx⟩ : ∃ x, onL e (List.range k) = x := ⟨_, rfl⟩
  rw [hx] at hL ⊢
  clear hx
  go_enter Try.func17, Try.ntmps17
  go_wp2_with fail
  refine (sok_t _ k n e h).mono ?_
  rintro r1 w1 ⟨rfl, hb1⟩
  obtain ⟨hc1_0, hz1_0⟩ := bkeep hb1 (w.heap.size) (by (try simp) <;> omega)
  obtain ⟨hc1_1, hz1_1⟩ := bkeep hb1 (w.heap.size + 1) (by (try simp) <;> omega)
  have hf1_1 := bkeepz hb1 (w.heap.size + 1) (by (try simp) <;> omega)
  go_wp2_with fail
  refine (hL.out _).mono ?_
  rintro r2 w2 ⟨rfl, hb2⟩
  obtain ⟨hc2_0, hz2_0⟩ := bkeep hb2 (w.heap.size) (by (try simp) <;> omega)
  obtain ⟨hc2_1, hz2_1⟩ := bkeep hb2 (w.heap.size + 1) (by (try simp) <;> omega)
  have hf2_1 := bkeepz hb2 (w.heap.size + 1) (by (try simp) <;> omega)
  go_wp2
  have h0 : w2.cell? ⟨w.heap.size + 1, 0, none⟩ = some (.int .i64 0) := by rw [hc2_1, hc1_1]; simp [go_sem]
  have h1 : w2.cell? ⟨w.heap.size + 1, 1, none⟩ = some (.int .u32 0) := by rw [hc2_1, hc1_1]; simp [go_sem]
  have h2 := twoCells h0 h1 (.int .i64 k) (.int .u32 x)
  exact bodyPost_ret (v := .tuple #[.agg #[.int .i64 k, .int .u32 x], .int .i64 0]) (by simp [results, Try.results17, go_sem, h2.1, h2.2]) rfl ⟨rfl, by (repeat (first | exact Below.refl _ _ | assumption | refine bchain (by assumption) ?_ | refine balloc ?_ _ | apply Below.drew | apply below_drewN | (refine Below.alloc ?_ (by (try simp) <;> omega) _) | (refine Below.setCell ?_ (by (try simp) <;> omega) _)))⟩
end
theorem to_both (k n e : Int) (hn : e < 4294967296) (he0 : 0 ≤ e) : ∃ (m f c : Int),
    (∀ W, Calls Try.prog 17 #[.agg #[.int .i64 k, .int .i64 n, .int .u32 e]] W fun r w' => r = .returned (.tuple #[.agg #[.int .i64 m, .int .u32 f], .int .i64 c]) ∧ Below W.heap.size W w') ∧
    (∀ W, Calls Try.prog 18 #[.agg #[.int .i64 k, .int .i64 n, .int .u32 e]] W fun r w' => r = .returned (.tuple #[.agg #[.int .i64 m, .int .u32 f], .int .i64 c]) ∧ Below W.heap.size W w') := by
  by_cases h : VK k n e
  · obtain ⟨k', rfl⟩ : ∃ x : Nat, k = x := ⟨k.toNat, by have := h.2.1; omega⟩
    obtain ⟨n', rfl⟩ : ∃ x : Nat, n = x := ⟨n.toNat, by have := h.1.1; omega⟩
    obtain ⟨e', rfl⟩ : ∃ x : Nat, e = x := ⟨e.toNat, by omega⟩
    exact ⟨_, _, _, fun W => sto_ok W k' n' e' h, fun W => ito_ok W k' n' e' h⟩
  · exact ⟨_, _, _, fun W => sto_inv W k n e hn he0 h, fun W => ito_inv W k n e hn he0 h⟩
end Go.Proofs.Ytdibcchhamapjaa
