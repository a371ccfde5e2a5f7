/-
  CONTRACTS OF AreAlike AND LeastGraph: the program's and the model's.
-/
import Derived.Test.YtoiepgdjknpjiaaSLeast
import Derived.Deep.RegionWith
import Derived.Laws.StructEq
import Derived.Laws.Tables
import Derived.KernelRfl
namespace Go.Proofs.Ytoiepgdjknpjiaa
open Go.RowKit
set_option maxRecDepth 100000

theorem eqGr (W : World) (n m e f : Int) : (Op.equalIn 10000 27 (.agg #[.int .i64 n, .int .u32 e]) (.agg #[.int .i64 m, .int .u32 f])).run Try.prog W = .ok (n == m && e == f) W := by
  have u3 := Try.underlying2
  have u4 := Try.underlying25
  have hS : Try.prog.underlying 27 = some (.struct (Try.prog.fieldsOf 27)) := by kernel_rfl
  have hp : Try.prog.stoodInHeld 27 = false := by kernel_rfl
  rw [show (10000 : Nat) = 9999 + 1 from rfl, run_equalIn_agg W 9999 27 _ _ hS hp]
  simp only [Program.fieldsOf, Try.underlying27]
  go_simp
  by_cases h1 : n = m <;> by_cases h2 : e = f <;> simp [h1, h2]
section
variable (w : World)

theorem ial_inv1 (n e m f : Int) (hn : e < 4294967296) (he0 : 0 ≤ e) (h : ¬ VG n e) :
    Calls Try.prog 17 #[.agg #[.int .i64 n, .int .u32 e], .agg #[.int .i64 m, .int .u32 f]] w fun r w' => r = .returned (.tuple #[.bool false, .int .i64 1]) ∧ Below w.heap.size w w' := by
  go_enter Try.func17, Try.ntmps17
  go_wp2_with fail
  refine (valid_f _ n e hn he0 h).mono ?_
  rintro r1 w1 ⟨rfl, hb1⟩
  go_wp2
  go_ret2
  exact ⟨rfl, by (repeat (first | exact Below.refl _ _ | assumption | refine bchain (by assumption) ?_ | refine balloc ?_ _ | apply Below.drew | apply below_drewN | (refine Below.alloc ?_ (by (try simp) <;> omega) _) | (refine Below.setCell ?_ (by (try simp) <;> omega) _)))⟩
theorem ial_inv2 (n e m f : Int) (h : VG n e) (hn : f < 4294967296) (he0 : 0 ≤ f) (h2 : ¬ VG m f) :
    Calls Try.prog 17 #[.agg #[.int .i64 n, .int .u32 e], .agg #[.int .i64 m, .int .u32 f]] w fun r w' => r = .returned (.tuple #[.bool false, .int .i64 1]) ∧ Below w.heap.size w w' := by
  go_enter Try.func17, Try.ntmps17
  go_wp2_with fail
  refine (valid_t _ n e h).mono ?_
  rintro r1 w1 ⟨rfl, hb1⟩
  obtain ⟨hc1_0, hz1_0⟩ := bkeep hb1 (w.heap.size + 1) (by (try simp) <;> omega)
  go_wp2_with fail
  refine (valid_f _ m f hn he0 h2).mono ?_
  rintro r2 w2 ⟨rfl, hb2⟩
  go_wp2
  go_ret2
  exact ⟨rfl, by (repeat (first | exact Below.refl _ _ | assumption | refine bchain (by assumption) ?_ | refine balloc ?_ _ | apply Below.drew | apply below_drewN | (refine Below.alloc ?_ (by (try simp) <;> omega) _) | (refine Below.setCell ?_ (by (try simp) <;> omega) _)))⟩
set_option maxHeartbeats 600000 in
theorem ial_ok (n e m f : Nat) (h : VG n e) (h2 : VG m f) :
    Calls Try.prog 17 #[.agg #[.int .i64 n, .int .u32 e], .agg #[.int .i64 m, .int .u32 f]] w fun r w' => r = .returned (.tuple #[.bool ((n : Int) == m && (leastE n e : Int) == leastE m f), .int .i64 0]) ∧ Below w.heap.size w w' := by
  have hL := Lib.hid (fun W => least_any W n e h)
  have hM := Lib.hid (fun W => least_any W m f h2)
  have hq := fun W => eqGr W n m (leastE n e) (leastE m f)
  obtain ⟨b, hb⟩ : ∃ b, ((n : Int) == m && (leastE n e : Int) == leastE m f) = b := ⟨_, rfl⟩
  rw [hb] at hq ⊢
  obtain ⟨x, hx⟩ : ∃ x, leastE n e = x := ⟨_, rfl⟩
  obtain ⟨y, hy⟩ : ∃ y, leastE m f = y := ⟨_, rfl⟩
  rw [hx] at hq hL
  rw [hy] at hq hM
  clear hb hx hy
  go_enter Try.func17, Try.ntmps17
  go_wp2_with fail
  refine (valid_t _ n e h).mono ?_
  rintro r1 w1 ⟨rfl, hb1⟩
  obtain ⟨hc1_0, hz1_0⟩ := bkeep hb1 (w.heap.size) (by (try simp) <;> omega)
  obtain ⟨hc1_1, hz1_1⟩ := bkeep hb1 (w.heap.size + 1) (by (try simp) <;> omega)
  go_wp2_with fail
  refine (valid_t _ m f h2).mono ?_
  rintro r2 w2 ⟨rfl, hb2⟩
  obtain ⟨hc2_0, hz2_0⟩ := bkeep hb2 (w.heap.size) (by (try simp) <;> omega)
  obtain ⟨hc2_1, hz2_1⟩ := bkeep hb2 (w.heap.size + 1) (by (try simp) <;> omega)
  go_wp2_with fail
  go_region_with (first
    | (go_at_call 56; (with_reducible refine (hL.out _).mono ?_); rintro r3 w3 ⟨rfl, hb3⟩; obtain ⟨hc3, hz3⟩ := bkeep hb3 (w.heap.size + 1) (by first | exact hz2_1 | (have h4 := hb4.size; simp at h4; omega)))
    | (go_at_call 56; (with_reducible refine (hM.out _).mono ?_); rintro r4 w4 ⟨rfl, hb4⟩; obtain ⟨hc4, hz4⟩ := bkeep hb4 (w.heap.size) (by first | exact hz2_0 | (have h3 := hb3.size; simp at h3; omega))))
  all_goals go_wp2
  all_goals go_ret2
  all_goals exact ⟨rfl, by (repeat (first | exact Below.refl _ _ | assumption | refine bchain (by assumption) ?_ | refine balloc ?_ _ | apply Below.drew | apply below_drewN | (refine Below.alloc ?_ (by (try simp) <;> omega) _) | (refine Below.setCell ?_ (by (try simp) <;> omega) _)))⟩

theorem ilg_inv (n e : Int) (hn : e < 4294967296) (he0 : 0 ≤ e) (h : ¬ VG n e) :
    Calls Try.prog 16 #[.agg #[.int .i64 n, .int .u32 e]] w fun r w' => r = .returned (.tuple #[.agg #[.int .i64 0, .int .u32 0], .int .i64 1]) ∧ Below w.heap.size w w' := by
  go_enter Try.func16, Try.ntmps16
  go_wp2_with fail
  refine (valid_f _ n e hn he0 h).mono ?_
  rintro r1 w1 ⟨rfl, hb1⟩
  obtain ⟨hc1_0, hz1_0⟩ := bkeep hb1 (w.heap.size + 1) (by (try simp) <;> omega)
  have hf1_0 := bkeepz hb1 (w.heap.size + 1) (by (try simp) <;> omega)
  go_wp2
  exact bodyPost_ret (v := .tuple #[.agg #[.int .i64 0, .int .u32 0], .int .i64 1]) (by simp [results, Try.results16, go_sem, hc1_0]) rfl ⟨rfl, by (repeat (first | exact Below.refl _ _ | assumption | refine bchain (by assumption) ?_ | refine balloc ?_ _ | apply Below.drew | apply below_drewN | (refine Below.alloc ?_ (by (try simp) <;> omega) _) | (refine Below.setCell ?_ (by (try simp) <;> omega) _)))⟩
theorem ilg_ok (n e : Nat) (h : VG n e) :
    Calls Try.prog 16 #[.agg #[.int .i64 n, .int .u32 e]] w fun r w' => r = .returned (.tuple #[.agg #[.int .i64 n, .int .u32 (leastE n e : Nat)], .int .i64 0]) ∧ Below w.heap.size w w' := by
  have hL := Lib.hid (fun W => least_any W n e h)
  obtain ⟨x, hx⟩ : ∃ x, leastE n e = x := ⟨_, rfl⟩
  rw [hx] at hL ⊢
  clear hx
  go_enter Try.func16, Try.ntmps16
  go_wp2_with fail
  refine (valid_t _ n e h).mono ?_
  rintro r1 w1 ⟨rfl, hb1⟩
  obtain ⟨hc1_0, hz1_0⟩ := bkeep hb1 (w.heap.size) (by (try simp) <;> omega)
  obtain ⟨hc1_1, hz1_1⟩ := bkeep hb1 (w.heap.size + 1) (by (try simp) <;> omega)
  have hf1_1 := bkeepz hb1 (w.heap.size + 1) (by (try simp) <;> omega)
  go_wp2_with fail
  refine (hL.out _).mono ?_
  rintro r2 w2 ⟨rfl, hb2⟩
  obtain ⟨hc2_0, hz2_0⟩ := bkeep hb2 (w.heap.size) (by (try simp) <;> omega)
  obtain ⟨hc2_1, hz2_1⟩ := bkeep hb2 (w.heap.size + 1) (by (try simp) <;> omega)
  have hf2_1 := bkeepz hb2 (w.heap.size + 1) (by (try simp) <;> omega)
  go_wp2
  have h0 : w2.cell? ⟨w.heap.size + 1, 0, none⟩ = some (.int .i64 0) := by rw [hc2_1, hc1_1, cNew _ _ _ _ _ (by simp)]; rfl
  have h1 : w2.cell? ⟨w.heap.size + 1, 1, none⟩ = some (.int .u32 0) := by rw [hc2_1, hc1_1, cNew _ _ _ _ _ (by simp)]; rfl
  have h2 := twoCells h0 h1 (.int .i64 n) (.int .u32 x)
  exact bodyPost_ret (v := .tuple #[.agg #[.int .i64 n, .int .u32 x], .int .i64 0]) (by simp [results, Try.results16, go_sem, h2.1, h2.2]) rfl ⟨rfl, by (repeat (first | exact Below.refl _ _ | assumption | refine bchain (by assumption) ?_ | refine balloc ?_ _ | apply Below.drew | apply below_drewN | (refine Below.alloc ?_ (by (try simp) <;> omega) _) | (refine Below.setCell ?_ (by (try simp) <;> omega) _)))⟩

theorem slg_inv (n e : Int) (hn : e < 4294967296) (he0 : 0 ≤ e) (h : ¬ VG n e) :
    Calls Try.prog 18 #[.agg #[.int .i64 n, .int .u32 e]] w fun r w' => r = .returned (.tuple #[.agg #[.int .i64 0, .int .u32 0], .int .i64 1]) ∧ Below w.heap.size w w' := by
  go_enter Try.func18, Try.ntmps18
  go_wp2_with fail
  refine (ok_f _ n e hn he0 h).mono ?_
  rintro r1 w1 ⟨rfl, hb1⟩
  obtain ⟨hc1_0, hz1_0⟩ := bkeep hb1 (w.heap.size + 1) (by (try simp) <;> omega)
  have hf1_0 := bkeepz hb1 (w.heap.size + 1) (by (try simp) <;> omega)
  go_wp2
  exact bodyPost_ret (v := .tuple #[.agg #[.int .i64 0, .int .u32 0], .int .i64 1]) (by simp [results, Try.results18, go_sem, hc1_0]) rfl ⟨rfl, by (repeat (first | exact Below.refl _ _ | assumption | refine bchain (by assumption) ?_ | refine balloc ?_ _ | apply Below.drew | apply below_drewN | (refine Below.alloc ?_ (by (try simp) <;> omega) _) | (refine Below.setCell ?_ (by (try simp) <;> omega) _)))⟩
theorem slg_ok (n e : Nat) (h : VG n e) :
    Calls Try.prog 18 #[.agg #[.int .i64 n, .int .u32 e]] w fun r w' => r = .returned (.tuple #[.agg #[.int .i64 n, .int .u32 (leastE n e : Nat)], .int .i64 0]) ∧ Below w.heap.size w w' := by
  have hL := Lib.hid (fun W => sleast_any W n e h)
  obtain ⟨x, hx⟩ : ∃ x, leastE n e = x := ⟨_, rfl⟩
  rw [hx] at hL ⊢
  clear hx
  go_enter Try.func18, Try.ntmps18
  go_wp2_with fail
  refine (ok_t _ n e h).mono ?_
  rintro r1 w1 ⟨rfl, hb1⟩
  obtain ⟨hc1_0, hz1_0⟩ := bkeep hb1 (w.heap.size) (by (try simp) <;> omega)
  obtain ⟨hc1_1, hz1_1⟩ := bkeep hb1 (w.heap.size + 1) (by (try simp) <;> omega)
  have hf1_1 := bkeepz hb1 (w.heap.size + 1) (by (try simp) <;> omega)
  go_wp2_with fail
  refine (hL.out _).mono ?_
  rintro r2 w2 ⟨rfl, hb2⟩
  obtain ⟨hc2_0, hz2_0⟩ := bkeep hb2 (w.heap.size) (by (try simp) <;> omega)
  obtain ⟨hc2_1, hz2_1⟩ := bkeep hb2 (w.heap.size + 1) (by (try simp) <;> omega)
  have hf2_1 := bkeepz hb2 (w.heap.size + 1) (by (try simp) <;> omega)
  go_wp2
  have h0 : w2.cell? ⟨w.heap.size + 1, 0, none⟩ = some (.int .i64 0) := by rw [hc2_1, hc1_1, cNew _ _ _ _ _ (by simp)]; rfl
  have h1 : w2.cell? ⟨w.heap.size + 1, 1, none⟩ = some (.int .u32 0) := by rw [hc2_1, hc1_1, cNew _ _ _ _ _ (by simp)]; rfl
  have h2 := twoCells h0 h1 (.int .i64 n) (.int .u32 x)
  exact bodyPost_ret (v := .tuple #[.agg #[.int .i64 n, .int .u32 x], .int .i64 0]) (by simp [results, Try.results18, go_sem, h2.1, h2.2]) rfl ⟨rfl, by (repeat (first | exact Below.refl _ _ | assumption | refine bchain (by assumption) ?_ | refine balloc ?_ _ | apply Below.drew | apply below_drewN | (refine Below.alloc ?_ (by (try simp) <;> omega) _) | (refine Below.setCell ?_ (by (try simp) <;> omega) _)))⟩
end

theorem lg_both (n e : Int) (hn : e < 4294967296) (he0 : 0 ≤ e) : ∃ (m f c : Int),
    (∀ W, Calls Try.prog 18 #[.agg #[.int .i64 n, .int .u32 e]] W fun r w' => r = .returned (.tuple #[.agg #[.int .i64 m, .int .u32 f], .int .i64 c]) ∧ Below W.heap.size W w') ∧
    (∀ W, Calls Try.prog 16 #[.agg #[.int .i64 n, .int .u32 e]] W fun r w' => r = .returned (.tuple #[.agg #[.int .i64 m, .int .u32 f], .int .i64 c]) ∧ Below W.heap.size W w') := by
  by_cases h : VG n e
  · obtain ⟨n', rfl⟩ : ∃ k : Nat, n = k := ⟨n.toNat, by have := h.1; omega⟩
    obtain ⟨e', rfl⟩ : ∃ k : Nat, e = k := ⟨e.toNat, by omega⟩
    exact ⟨_, _, _, fun W => slg_ok W n' e' h, fun W => ilg_ok W n' e' h⟩
  · exact ⟨_, _, _, fun W => slg_inv W n e hn he0 h, fun W => ilg_inv W n e hn he0 h⟩
end Go.Proofs.Ytoiepgdjknpjiaa
