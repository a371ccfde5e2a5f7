/-
  CONTRACTS OF SizeOf, PlainFlag AND TypeOf: the program's and the model's.
-/
import Derived.Test.YtncbimbbkealmaaGreatDoorKVal
import Derived.Test.YtncbimbbkealmaaGreatDoorSLeast
namespace Go.Proofs.YtncbimbbkealmaaGreatDoor
open Go.RowKit
set_option maxRecDepth 100000

/-- the edges among the first k vertices -/
theorem and_first : ∀ k, k ≤ 3 → ∀ e, e < 1024 → e &&& (eMax k - 1) = onL e (List.range k) := by decide +kernel
theorem and_u32 (e m : Nat) (h1 : e < 4294967296) (h2 : m < 4294967296) : bits .and .u32 (e : Int) (m : Int) = ((e &&& m : Nat) : Int) := by
  rw [u32_and _ _ (by omega) (by omega) (by omega) (by omega)]
  simp
section
variable (w : World)
set_option maxHeartbeats 2000000 in
theorem ity_any (k n e : Nat) (h : VK k n e) :
    Calls Tryz.prog 45 #[.agg #[.int .i64 k, .int .i64 n, .int .u32 e]] w fun r w' => r = .returned (.agg #[.int .i64 k, .int .u32 (onL e (List.range k) : Nat)]) ∧ Below w.heap.size w w' := by
  have he : e < 1024 := by have := h.1.2.2.2; have := eMax_le n; simp at *; omega
  have hk3 : k ≤ 3 := by have := h.2.2.1; omega
  have hm := and_u32 e (eMax k - 1) (by omega) (by have := eMax_le k; omega)
  rw [and_first k hk3 e he] at hm
  obtain ⟨x, hx⟩ : ∃ x, onL e (List.range k) = x := ⟨_, rfl⟩
  rw [hx] at hm ⊢
  clear hx h
  go_enter Tryz.func45, Tryz.ntmps45
  go_wp2
  go_region_with (go_at_call 43; refine (ae_any _ k (by omega)).mono ?_; rintro r1 w1 ⟨rfl, rfl⟩)
  all_goals go_wp2
  all_goals exact bodyPost_ret (v := .agg #[.int .i64 k, .int .u32 x]) (by simp [results, Tryz.results45, go_sem]) rfl ⟨rfl, by (repeat (first | exact Below.refl _ _ | assumption | refine bchain (by assumption) ?_ | refine balloc ?_ _ | apply Below.drew | apply below_drewN | (refine Below.alloc ?_ (by (try simp) <;> omega) _) | (refine Below.setCell ?_ (by (try simp) <;> omega) _)))⟩
theorem ok_range : ∀ n, n ≤ 5 → ∀ k, k ≤ 3 → k ≤ n → okList n k (List.range k) = true := by decide +kernel
set_option maxHeartbeats 2000000 in
theorem sty_any (k n e : Nat) (h : VK k n e) :
    Calls Tryz.prog 33 #[.agg #[.int .i64 k, .int .i64 n, .int .u32 e]] w fun r w' => r = .returned (.agg #[.int .i64 k, .int .u32 (onL e (List.range k) : Nat)]) ∧ Below w.heap.size w w' := by
  have he : e < 1024 := by have := h.1.2.2.2; have := eMax_le n; simp at *; omega
  have hn5 : n ≤ 5 := by have := h.1.2.1; omega
  have hk3 : k ≤ 3 := by have := h.2.2.1; omega
  have hok := ok_range n hn5 k hk3 (by have := h.2.2.2; omega)
  have hS := Lib.hid (fun W v (hs : See (List.range k) v W) => sonL_any W v (List.range k) n k e hs hn5 (by omega) hok)
  obtain ⟨x, hx⟩ : ∃ x, onL e (List.range k) = x := ⟨_, rfl⟩
  rw [hx] at hS ⊢
  clear hx h hok
  go_enter Tryz.func33, Tryz.ntmps33
  go_wp2
  go_region_with (first
    | (go_at_call 59; refine (first_any _ k (by omega)).mono ?_; rintro r1 w1 ⟨⟨v, rfl, hO⟩, hb1⟩; have hsee := (hO.congr (fun i hi => lf_range k i hi)).see (by simp); replace hsee := Lib.hid hsee; clear hO; obtain ⟨hc1_0, hz1_0⟩ := bkeep hb1 w.heap.size (by (try simp) <;> omega); obtain ⟨hc1_1, hz1_1⟩ := bkeep hb1 (w.heap.size + 1) (by (try simp) <;> omega); have hf1_1 := bkeepz hb1 (w.heap.size + 1) (by (try simp) <;> omega))
    | (go_at_call 58; refine (hS.out _ _ hsee.out).mono ?_; rintro r2 w2 ⟨rfl, hb2⟩; obtain ⟨hc2_1, hz2_1⟩ := bkeep hb2 (w.heap.size + 1) hz1_1; have hf2_1 := bkeepz hb2 (w.heap.size + 1) hz1_1))
  all_goals go_wp2
  all_goals have h0 : w2.cell? ⟨w.heap.size + 1, 0, none⟩ = some (.int .i64 0) := by rw [hc2_1, hc1_1]; simp [go_sem]
  all_goals have h1 : w2.cell? ⟨w.heap.size + 1, 1, none⟩ = some (.int .u32 0) := by rw [hc2_1, hc1_1]; simp [go_sem]
  all_goals have h2 := twoCells h0 h1 (.int .i64 k) (.int .u32 x)
  all_goals exact bodyPost_ret (v := .agg #[.int .i64 k, .int .u32 x]) (by simp [results, Tryz.results33, go_sem, h2.1, h2.2]) rfl ⟨rfl, by (repeat (first | exact Below.refl _ _ | assumption | refine bchain (by assumption) ?_ | refine balloc ?_ _ | apply Below.drew | apply below_drewN | (refine Below.alloc ?_ (by (try simp) <;> omega) _) | (refine Below.setCell ?_ (by (try simp) <;> omega) _)))⟩
end
end Go.Proofs.YtncbimbbkealmaaGreatDoor
