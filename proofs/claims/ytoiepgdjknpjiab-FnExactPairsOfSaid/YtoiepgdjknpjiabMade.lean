/-
  CONTRACTS OF THE GRAPHS THAT ARE BUILT FROM A NUMBER: complete graphs, paths, stars and cycles: the program's and the model's, for every number.
-/
import Derived.Test.YtoiepgdjknpjiabEdge
import Derived.Deep.RegionWith
import Derived.Lib.Hide
namespace Go.Proofs.Ytoiepgdjknpjiab
open Go.RowKit
set_option maxRecDepth 100000

/-- the bits of a path through the vertices before k -/
def pathE : Nat → Nat | 0 => 0 | 1 => 0 | k + 2 => pathE (k + 1) ||| pb k (k + 1)
theorem pathE_lt (k : Nat) (h : k ≤ 5) : pathE k < 1024 := by
  have hc : k = 0 ∨ k = 1 ∨ k = 2 ∨ k = 3 ∨ k = 4 ∨ k = 5 := by omega
  rcases hc with rfl | rfl | rfl | rfl | rfl | rfl <;> decide
/-- the bits of a star with the vertices before k -/
def starE : Nat → Nat | 0 => 0 | 1 => 0 | k + 2 => starE (k + 1) ||| pb 0 (k + 1)
theorem starE_lt (k : Nat) (h : k ≤ 5) : starE k < 1024 := by
  have hc : k = 0 ∨ k = 1 ∨ k = 2 ∨ k = 3 ∨ k = 4 ∨ k = 5 := by omega
  rcases hc with rfl | rfl | rfl | rfl | rfl | rfl <;> decide
/-- the bits of a cycle -/
def cycleE (k : Nat) : Nat := pathE k ||| pb 0 (k - 1)

section
variable (w : World)

theorem eqGraph_any (m f : Int) : Calls Try.prog 21 #[.agg #[.int .i64 m, .int .u32 f], .agg #[.int .i64 m, .int .u32 f]] w fun r w' => r = .returned (.bool true) ∧ Below w.heap.size w w' := by
  go_enter Try.func21, Try.ntmps21
  go_wp2
  go_ret
  exact ⟨rfl, by (repeat (first | exact Below.refl _ _ | assumption | refine bchain (by assumption) ?_ | refine balloc ?_ _ | apply Below.drew | apply below_drewN | (refine Below.alloc ?_ (by (try simp) <;> omega) _) | (refine Below.setCell ?_ (by (try simp) <;> omega) _)))⟩

theorem complete_in (k : Nat) (h : k ≤ 5) : Calls Try.prog 20 #[.int .i64 k] w fun r w' => r = .returned (.tuple #[.agg #[.int .i64 k, .int .u32 ((eMax k - 1 : Nat) : Int)], .int .i64 0]) ∧ Below w.heap.size w w' := by
  have hA := Lib.hid (fun W => ae_any W k h)
  obtain ⟨x, hx⟩ : ∃ x : Nat, eMax k - 1 = x := ⟨_, rfl⟩
  rw [hx] at hA ⊢
  clear hx
  go_enter Try.func20, Try.ntmps20
  go_wp2_with (first
    | (go_at_call 49; refine (vc_t _ _ (by omega) (by omega)).mono ?_; rintro r w1 ⟨rfl, rfl⟩)
    | (go_at_call 50; refine (hA.out _).mono ?_; rintro r w2 ⟨rfl, rfl⟩))
  exact bodyPost_ret (v := .tuple #[.agg #[.int .i64 k, .int .u32 x], .int .i64 0]) (by simp [results, Try.results20, go_sem]) rfl ⟨rfl, by (repeat (first | exact Below.refl _ _ | assumption | refine bchain (by assumption) ?_ | refine balloc ?_ _ | apply Below.drew | apply below_drewN | (refine Below.alloc ?_ (by (try simp) <;> omega) _) | (refine Below.setCell ?_ (by (try simp) <;> omega) _)))⟩
theorem scomplete_in (k : Nat) (h : k ≤ 5) : Calls Try.prog 19 #[.int .i64 k] w fun r w' => r = .returned (.tuple #[.agg #[.int .i64 k, .int .u32 ((eMax k - 1 : Nat) : Int)], .int .i64 0]) ∧ Below w.heap.size w w' := by
  have hA := Lib.hid (fun W => bits_any W k h)
  have hsh := shl_pc k h
  have hmx := eMax_le k
  have hmn : 1 ≤ eMax k := by
    rw [eMax_pow k h]; exact Nat.pow_pos (by omega)
  obtain ⟨x, hx⟩ : ∃ x : Nat, eMax k = x := ⟨_, rfl⟩
  have hx1 := Lib.hid (show ((eMax k - 1 : Nat) : Int) = (x : Int) - 1 by omega)
  rw [hx] at hsh hmx hmn
  clear hx
  go_enter Try.func19, Try.ntmps19
  go_wp2_with (first
    | (go_at_call 47; refine (in_t _ _ _ _ (by omega) (by omega)).mono ?_; rintro r w1 ⟨rfl, rfl⟩)
    | (go_at_call 48; refine (hA.out _).mono ?_; rintro r w2 ⟨rfl, rfl⟩))
  exact bodyPost_ret (v := .tuple #[.agg #[.int .i64 k, .int .u32 ((x : Int) - 1)], .int .i64 0]) (by simp [results, Try.results19, go_sem]) rfl ⟨by rw [hx1.out], by (repeat (first | exact Below.refl _ _ | assumption | refine bchain (by assumption) ?_ | refine balloc ?_ _ | apply Below.drew | apply below_drewN | (refine Below.alloc ?_ (by (try simp) <;> omega) _) | (refine Below.setCell ?_ (by (try simp) <;> omega) _)))⟩

theorem complete_out (n : Int) (h : ¬ (0 ≤ n ∧ n ≤ 5)) : Calls Try.prog 20 #[.int .i64 n] w fun r w' => r = .returned (.tuple #[.agg #[.int .i64 0, .int .u32 0], .int .i64 2]) ∧ Below w.heap.size w w' := by
  have hr : n < 0 ∨ 5 < n := by omega
  clear h
  go_enter Try.func20, Try.ntmps20
  go_wp2_with (go_at_call 49; refine (vc_f _ _ hr).mono ?_; rintro r w1 ⟨rfl, rfl⟩)
  exact bodyPost_ret (v := .tuple #[.agg #[.int .i64 0, .int .u32 0], .int .i64 2]) (by simp [results, Try.results20, go_sem]) rfl ⟨rfl, by (repeat (first | exact Below.refl _ _ | assumption | refine bchain (by assumption) ?_ | refine balloc ?_ _ | apply Below.drew | apply below_drewN | (refine Below.alloc ?_ (by (try simp) <;> omega) _) | (refine Below.setCell ?_ (by (try simp) <;> omega) _)))⟩

theorem path_out (n : Int) (h : ¬ (0 ≤ n ∧ n ≤ 5)) : Calls Try.prog 25 #[.int .i64 n] w fun r w' => r = .returned (.tuple #[.agg #[.int .i64 0, .int .u32 0], .int .i64 2]) ∧ Below w.heap.size w w' := by
  have hr : n < 0 ∨ 5 < n := by omega
  clear h
  go_enter Try.func25, Try.ntmps25
  go_wp2_with (go_at_call 49; refine (vc_f _ _ hr).mono ?_; rintro r w1 ⟨rfl, rfl⟩)
  exact bodyPost_ret (v := .tuple #[.agg #[.int .i64 0, .int .u32 0], .int .i64 2]) (by simp [results, Try.results25, go_sem]) rfl ⟨rfl, by (repeat (first | exact Below.refl _ _ | assumption | refine bchain (by assumption) ?_ | refine balloc ?_ _ | apply Below.drew | apply below_drewN | (refine Below.alloc ?_ (by (try simp) <;> omega) _) | (refine Below.setCell ?_ (by (try simp) <;> omega) _)))⟩

theorem path_in (k : Nat) (h : k ≤ 5) : Calls Try.prog 25 #[.int .i64 k] w fun r w' => r = .returned (.tuple #[.agg #[.int .i64 k, .int .u32 (pathE k : Nat)], .int .i64 0]) ∧ Below w.heap.size w w' := by
  go_enter Try.func25, Try.ntmps25
  go_wp2_with (go_at_call 49; refine (vc_t _ _ (by omega) (by omega)).mono ?_; rintro r w1 ⟨rfl, rfl⟩)
  go_loopw [5] (fun i wr => ∃ m : Nat, (m + 1 ≤ k ∨ m = 0) ∧ i = .int .i64 ((m : Int) + 1) ∧ wr.cell? ⟨w.heap.size + 1, 0, none⟩ = some (.int .i64 k) ∧ wr.cell? ⟨w.heap.size + 1, 1, none⟩ = some (.int .u32 (pathE (m + 1) : Nat)) ∧ wr.frozen? ⟨w.heap.size + 1, 1, none⟩ = false ∧ wr.frozen? ⟨w.heap.size, 0, none⟩ = false ∧ wr.frozen? ⟨w.heap.size, 1, none⟩ = false ∧ wr.cell? ⟨w.heap.size, 0, none⟩ = some (.int .i64 0) ∧ wr.cell? ⟨w.heap.size, 1, none⟩ = some (.int .u32 0) ∧ Below w.heap.size w wr) (fun i _ => k + 1 - (intOf i).toNat)
  case atStart => exact ⟨0, by omega, rfl, by simp, by simp [pathE], by simp, by simp, by simp, by simp, by simp, by (repeat (first | exact Below.refl _ _ | assumption | refine bchain (by assumption) ?_ | refine balloc ?_ _ | apply Below.drew | apply below_drewN | (refine Below.alloc ?_ (by (try simp) <;> omega) _) | (refine Below.setCell ?_ (by (try simp) <;> omega) _)))⟩
  case round =>
    obtain ⟨m, hm, rfl, hc0, hc1, hf1, hz0, hz1, hd0, hd1, hb⟩ := hrel
    by_cases hlt : m + 1 < k
    · have hJ := Lib.hid (fun W => pbit_int W (m : Int) ((m : Int) + 1) m (m + 1) (by omega) (by omega) (by omega) (by omega))
      have hl := pb_le m (m + 1) (by omega) (by omega)
      have hpl := pathE_lt (m + 1) (by omega)
      have hor := u32_or_nat (pathE (m + 1)) (pb m (m + 1)) (by omega) (by omega)
      obtain ⟨x, hx⟩ : ∃ x, pathE (m + 1) ||| pb m (m + 1) = x := ⟨_, rfl⟩
      rw [hx] at hor
      replace hx := Lib.hid hx
      obtain ⟨y, hy⟩ : ∃ y, pathE (m + 1) = y := ⟨_, rfl⟩
      rw [hy] at hor hc1
      clear hy
      obtain ⟨z, hz⟩ : ∃ z, pb m (m + 1) = z := ⟨_, rfl⟩
      rw [hz] at hor hJ
      clear hz
      have hwm : IntKind.i64.wrap (m : Int) = m := IntWalk.i64_in _ (by omega)
      clear hm hl hpl
      go_wp2
      go_region_with (go_at_call 52; refine (hJ.out _).mono ?_; rintro r w3 ⟨rfl, rfl⟩)
      all_goals go_wp2
      all_goals
        go_roundw
        case rel => exact ⟨m + 1, by omega, by go_num, cellMiss hc0 (by simp), by rw [show pathE (m + 1 + 1) = x from hx.out]; exact cellHit hc1, by simp [hf1], by simp [hz0], by simp [hz1], cellMiss hd0 (by simp), cellMiss hd1 (by simp), by (repeat (first | exact Below.refl _ _ | assumption | refine bchain (by assumption) ?_ | refine balloc ?_ _ | apply Below.drew | apply below_drewN | (refine Below.alloc ?_ (by (try simp) <;> omega) _) | (refine Below.setCell ?_ (by (try simp) <;> omega) _)))⟩
        case measure => simp [intOf]; omega
    · have hd := decide_eq_false (show ¬ ((m : Int) + 1 < (k : Int)) by omega)
      have hk : pathE k = pathE (m + 1) := by
        by_cases hz : m = 0
        · subst hz
          have : k = 0 ∨ k = 1 := by omega
          rcases this with rfl | rfl <;> rfl
        · obtain rfl : k = m + 1 := by omega
          rfl
      obtain ⟨y, hy⟩ : ∃ y, pathE (m + 1) = y := ⟨_, rfl⟩
      rw [hy] at hc1 hk
      replace hk := Lib.hid hk
      clear hy hm
      go_wp2
      have h2 := twoCells hd0 hd1 (.int .i64 k) (.int .u32 y)
      exact bodyPost_ret (v := .tuple #[.agg #[.int .i64 k, .int .u32 y], .int .i64 0]) (by simp [results, Try.results25, go_sem, h2.1, h2.2]) rfl ⟨by rw [hk.out], by (repeat (first | exact Below.refl _ _ | assumption | refine bchain (by assumption) ?_ | refine balloc ?_ _ | apply Below.drew | apply below_drewN | (refine Below.alloc ?_ (by (try simp) <;> omega) _) | (refine Below.setCell ?_ (by (try simp) <;> omega) _)))⟩

theorem star_out (n : Int) (h : ¬ (0 ≤ n ∧ n ≤ 5)) : Calls Try.prog 27 #[.int .i64 n] w fun r w' => r = .returned (.tuple #[.agg #[.int .i64 0, .int .u32 0], .int .i64 2]) ∧ Below w.heap.size w w' := by
  have hr : n < 0 ∨ 5 < n := by omega
  clear h
  go_enter Try.func27, Try.ntmps27
  go_wp2_with (go_at_call 49; refine (vc_f _ _ hr).mono ?_; rintro r w1 ⟨rfl, rfl⟩)
  exact bodyPost_ret (v := .tuple #[.agg #[.int .i64 0, .int .u32 0], .int .i64 2]) (by simp [results, Try.results27, go_sem]) rfl ⟨rfl, by (repeat (first | exact Below.refl _ _ | assumption | refine bchain (by assumption) ?_ | refine balloc ?_ _ | apply Below.drew | apply below_drewN | (refine Below.alloc ?_ (by (try simp) <;> omega) _) | (refine Below.setCell ?_ (by (try simp) <;> omega) _)))⟩

theorem star_in (k : Nat) (h : k ≤ 5) : Calls Try.prog 27 #[.int .i64 k] w fun r w' => r = .returned (.tuple #[.agg #[.int .i64 k, .int .u32 (starE k : Nat)], .int .i64 0]) ∧ Below w.heap.size w w' := by
  go_enter Try.func27, Try.ntmps27
  go_wp2_with (go_at_call 49; refine (vc_t _ _ (by omega) (by omega)).mono ?_; rintro r w1 ⟨rfl, rfl⟩)
  go_loopw [5] (fun i wr => ∃ m : Nat, (m + 1 ≤ k ∨ m = 0) ∧ i = .int .i64 ((m : Int) + 1) ∧ wr.cell? ⟨w.heap.size + 1, 0, none⟩ = some (.int .i64 k) ∧ wr.cell? ⟨w.heap.size + 1, 1, none⟩ = some (.int .u32 (starE (m + 1) : Nat)) ∧ wr.frozen? ⟨w.heap.size + 1, 1, none⟩ = false ∧ wr.frozen? ⟨w.heap.size, 0, none⟩ = false ∧ wr.frozen? ⟨w.heap.size, 1, none⟩ = false ∧ wr.cell? ⟨w.heap.size, 0, none⟩ = some (.int .i64 0) ∧ wr.cell? ⟨w.heap.size, 1, none⟩ = some (.int .u32 0) ∧ Below w.heap.size w wr) (fun i _ => k + 1 - (intOf i).toNat)
  case atStart => exact ⟨0, by omega, rfl, by simp, by simp [starE], by simp, by simp, by simp, by simp, by simp, by (repeat (first | exact Below.refl _ _ | assumption | refine bchain (by assumption) ?_ | refine balloc ?_ _ | apply Below.drew | apply below_drewN | (refine Below.alloc ?_ (by (try simp) <;> omega) _) | (refine Below.setCell ?_ (by (try simp) <;> omega) _)))⟩
  case round =>
    obtain ⟨m, hm, rfl, hc0, hc1, hf1, hz0, hz1, hd0, hd1, hb⟩ := hrel
    by_cases hlt : m + 1 < k
    · have hJ := Lib.hid (fun W => pbit_int W 0 ((m : Int) + 1) 0 (m + 1) (by omega) (by omega) (by omega) (by omega))
      have hl := pb_le 0 (m + 1) (by omega) (by omega)
      have hpl := starE_lt (m + 1) (by omega)
      have hor := u32_or_nat (starE (m + 1)) (pb 0 (m + 1)) (by omega) (by omega)
      obtain ⟨x, hx⟩ : ∃ x, starE (m + 1) ||| pb 0 (m + 1) = x := ⟨_, rfl⟩
      rw [hx] at hor
      replace hx := Lib.hid hx
      obtain ⟨y, hy⟩ : ∃ y, starE (m + 1) = y := ⟨_, rfl⟩
      rw [hy] at hor hc1
      clear hy
      obtain ⟨z, hz⟩ : ∃ z, pb 0 (m + 1) = z := ⟨_, rfl⟩
      rw [hz] at hor hJ
      clear hz
      have hwm : IntKind.i64.wrap (m : Int) = m := IntWalk.i64_in _ (by omega)
      clear hm hl hpl
      go_wp2
      go_region_with (go_at_call 52; refine (hJ.out _).mono ?_; rintro r w3 ⟨rfl, rfl⟩)
      all_goals go_wp2
      all_goals
        go_roundw
        case rel => exact ⟨m + 1, by omega, by go_num, cellMiss hc0 (by simp), by rw [show starE (m + 1 + 1) = x from hx.out]; exact cellHit hc1, by simp [hf1], by simp [hz0], by simp [hz1], cellMiss hd0 (by simp), cellMiss hd1 (by simp), by (repeat (first | exact Below.refl _ _ | assumption | refine bchain (by assumption) ?_ | refine balloc ?_ _ | apply Below.drew | apply below_drewN | (refine Below.alloc ?_ (by (try simp) <;> omega) _) | (refine Below.setCell ?_ (by (try simp) <;> omega) _)))⟩
        case measure => simp [intOf]; omega
    · have hd := decide_eq_false (show ¬ ((m : Int) + 1 < (k : Int)) by omega)
      have hk : starE k = starE (m + 1) := by
        by_cases hz : m = 0
        · subst hz
          have : k = 0 ∨ k = 1 := by omega
          rcases this with rfl | rfl <;> rfl
        · obtain rfl : k = m + 1 := by omega
          rfl
      obtain ⟨y, hy⟩ : ∃ y, starE (m + 1) = y := ⟨_, rfl⟩
      rw [hy] at hc1 hk
      replace hk := Lib.hid hk
      clear hy hm
      go_wp2
      have h2 := twoCells hd0 hd1 (.int .i64 k) (.int .u32 y)
      exact bodyPost_ret (v := .tuple #[.agg #[.int .i64 k, .int .u32 y], .int .i64 0]) (by simp [results, Try.results27, go_sem, h2.1, h2.2]) rfl ⟨by rw [hk.out], by (repeat (first | exact Below.refl _ _ | assumption | refine bchain (by assumption) ?_ | refine balloc ?_ _ | apply Below.drew | apply below_drewN | (refine Below.alloc ?_ (by (try simp) <;> omega) _) | (refine Below.setCell ?_ (by (try simp) <;> omega) _)))⟩

theorem scomplete_out (n : Int) (h : ¬ (0 ≤ n ∧ n ≤ 5)) : Calls Try.prog 19 #[.int .i64 n] w fun r w' => r = .returned (.tuple #[.agg #[.int .i64 0, .int .u32 0], .int .i64 2]) ∧ Below w.heap.size w w' := by
  have hr : n < 0 ∨ 5 < n := by omega
  clear h
  go_enter Try.func19, Try.ntmps19
  go_wp2_with (go_at_call 47; refine (in_f _ _ _ _ hr).mono ?_; rintro r w1 ⟨rfl, rfl⟩)
  exact bodyPost_ret (v := .tuple #[.agg #[.int .i64 0, .int .u32 0], .int .i64 2]) (by simp [results, Try.results19, go_sem]) rfl ⟨rfl, by (repeat (first | exact Below.refl _ _ | assumption | refine bchain (by assumption) ?_ | refine balloc ?_ _ | apply Below.drew | apply below_drewN | (refine Below.alloc ?_ (by (try simp) <;> omega) _) | (refine Below.setCell ?_ (by (try simp) <;> omega) _)))⟩

theorem spath_out (n : Int) (h : ¬ (0 ≤ n ∧ n ≤ 5)) : Calls Try.prog 24 #[.int .i64 n] w fun r w' => r = .returned (.tuple #[.agg #[.int .i64 0, .int .u32 0], .int .i64 2]) ∧ Below w.heap.size w w' := by
  have hr : n < 0 ∨ 5 < n := by omega
  clear h
  go_enter Try.func24, Try.ntmps24
  go_wp2_with (go_at_call 47; refine (in_f _ _ _ _ hr).mono ?_; rintro r w1 ⟨rfl, rfl⟩)
  exact bodyPost_ret (v := .tuple #[.agg #[.int .i64 0, .int .u32 0], .int .i64 2]) (by simp [results, Try.results24, go_sem]) rfl ⟨rfl, by (repeat (first | exact Below.refl _ _ | assumption | refine bchain (by assumption) ?_ | refine balloc ?_ _ | apply Below.drew | apply below_drewN | (refine Below.alloc ?_ (by (try simp) <;> omega) _) | (refine Below.setCell ?_ (by (try simp) <;> omega) _)))⟩

theorem spath_in (k : Nat) (h : k ≤ 5) : Calls Try.prog 24 #[.int .i64 k] w fun r w' => r = .returned (.tuple #[.agg #[.int .i64 k, .int .u32 (pathE k : Nat)], .int .i64 0]) ∧ Below w.heap.size w w' := by
  go_enter Try.func24, Try.ntmps24
  go_wp2_with (go_at_call 47; refine (in_t _ _ _ _ (by omega) (by omega)).mono ?_; rintro r w1 ⟨rfl, rfl⟩)
  go_loopw [5] (fun i wr => ∃ m : Nat, (m + 1 ≤ k ∨ m = 0) ∧ i = .int .i64 ((m : Int) + 1) ∧ wr.cell? ⟨w.heap.size + 1, 0, none⟩ = some (.int .i64 k) ∧ wr.cell? ⟨w.heap.size + 1, 1, none⟩ = some (.int .u32 (pathE (m + 1) : Nat)) ∧ wr.frozen? ⟨w.heap.size + 1, 1, none⟩ = false ∧ wr.frozen? ⟨w.heap.size, 0, none⟩ = false ∧ wr.frozen? ⟨w.heap.size, 1, none⟩ = false ∧ wr.cell? ⟨w.heap.size, 0, none⟩ = some (.int .i64 0) ∧ wr.cell? ⟨w.heap.size, 1, none⟩ = some (.int .u32 0) ∧ Below w.heap.size w wr) (fun i _ => k + 1 - (intOf i).toNat)
  case atStart => exact ⟨0, by omega, rfl, by simp, by simp [pathE], by simp, by simp, by simp, by simp, by simp, by (repeat (first | exact Below.refl _ _ | assumption | refine bchain (by assumption) ?_ | refine balloc ?_ _ | apply Below.drew | apply below_drewN | (refine Below.alloc ?_ (by (try simp) <;> omega) _) | (refine Below.setCell ?_ (by (try simp) <;> omega) _)))⟩
  case round =>
    obtain ⟨m, hm, rfl, hc0, hc1, hf1, hz0, hz1, hd0, hd1, hb⟩ := hrel
    by_cases hlt : m + 1 < k
    · have hJ := Lib.hid (fun W => sbit_int W (m : Int) ((m : Int) + 1) m (m + 1) (by omega) (by omega) (by omega) (by omega))
      have hl := pb_le m (m + 1) (by omega) (by omega)
      have hpl := pathE_lt (m + 1) (by omega)
      have hor := u32_or_nat (pathE (m + 1)) (pb m (m + 1)) (by omega) (by omega)
      obtain ⟨x, hx⟩ : ∃ x, pathE (m + 1) ||| pb m (m + 1) = x := ⟨_, rfl⟩
      rw [hx] at hor
      replace hx := Lib.hid hx
      obtain ⟨y, hy⟩ : ∃ y, pathE (m + 1) = y := ⟨_, rfl⟩
      rw [hy] at hor hc1
      clear hy
      obtain ⟨z, hz⟩ : ∃ z, pb m (m + 1) = z := ⟨_, rfl⟩
      rw [hz] at hor hJ
      clear hz
      have hwm : IntKind.i64.wrap (m : Int) = m := IntWalk.i64_in _ (by omega)
      clear hm hl hpl
      go_wp2
      go_region_with (go_at_call 51; refine (hJ.out _).mono ?_; rintro r w3 ⟨rfl, rfl⟩)
      all_goals go_wp2
      all_goals
        go_roundw
        case rel => exact ⟨m + 1, by omega, by go_num, cellMiss hc0 (by simp), by rw [show pathE (m + 1 + 1) = x from hx.out]; exact cellHit hc1, by simp [hf1], by simp [hz0], by simp [hz1], cellMiss hd0 (by simp), cellMiss hd1 (by simp), by (repeat (first | exact Below.refl _ _ | assumption | refine bchain (by assumption) ?_ | refine balloc ?_ _ | apply Below.drew | apply below_drewN | (refine Below.alloc ?_ (by (try simp) <;> omega) _) | (refine Below.setCell ?_ (by (try simp) <;> omega) _)))⟩
        case measure => simp [intOf]; omega
    · have hd := decide_eq_false (show ¬ ((m : Int) + 1 < (k : Int)) by omega)
      have hk : pathE k = pathE (m + 1) := by
        by_cases hz : m = 0
        · subst hz
          have : k = 0 ∨ k = 1 := by omega
          rcases this with rfl | rfl <;> rfl
        · obtain rfl : k = m + 1 := by omega
          rfl
      obtain ⟨y, hy⟩ : ∃ y, pathE (m + 1) = y := ⟨_, rfl⟩
      rw [hy] at hc1 hk
      replace hk := Lib.hid hk
      clear hy hm
      go_wp2
      have h2 := twoCells hd0 hd1 (.int .i64 k) (.int .u32 y)
      exact bodyPost_ret (v := .tuple #[.agg #[.int .i64 k, .int .u32 y], .int .i64 0]) (by simp [results, Try.results24, go_sem, h2.1, h2.2]) rfl ⟨by rw [hk.out], by (repeat (first | exact Below.refl _ _ | assumption | refine bchain (by assumption) ?_ | refine balloc ?_ _ | apply Below.drew | apply below_drewN | (refine Below.alloc ?_ (by (try simp) <;> omega) _) | (refine Below.setCell ?_ (by (try simp) <;> omega) _)))⟩

theorem sstar_out (n : Int) (h : ¬ (0 ≤ n ∧ n ≤ 5)) : Calls Try.prog 26 #[.int .i64 n] w fun r w' => r = .returned (.tuple #[.agg #[.int .i64 0, .int .u32 0], .int .i64 2]) ∧ Below w.heap.size w w' := by
  have hr : n < 0 ∨ 5 < n := by omega
  clear h
  go_enter Try.func26, Try.ntmps26
  go_wp2_with (go_at_call 47; refine (in_f _ _ _ _ hr).mono ?_; rintro r w1 ⟨rfl, rfl⟩)
  exact bodyPost_ret (v := .tuple #[.agg #[.int .i64 0, .int .u32 0], .int .i64 2]) (by simp [results, Try.results26, go_sem]) rfl ⟨rfl, by (repeat (first | exact Below.refl _ _ | assumption | refine bchain (by assumption) ?_ | refine balloc ?_ _ | apply Below.drew | apply below_drewN | (refine Below.alloc ?_ (by (try simp) <;> omega) _) | (refine Below.setCell ?_ (by (try simp) <;> omega) _)))⟩

theorem sstar_in (k : Nat) (h : k ≤ 5) : Calls Try.prog 26 #[.int .i64 k] w fun r w' => r = .returned (.tuple #[.agg #[.int .i64 k, .int .u32 (starE k : Nat)], .int .i64 0]) ∧ Below w.heap.size w w' := by
  go_enter Try.func26, Try.ntmps26
  go_wp2_with (go_at_call 47; refine (in_t _ _ _ _ (by omega) (by omega)).mono ?_; rintro r w1 ⟨rfl, rfl⟩)
  go_loopw [5] (fun i wr => ∃ m : Nat, (m + 1 ≤ k ∨ m = 0) ∧ i = .int .i64 ((m : Int) + 1) ∧ wr.cell? ⟨w.heap.size + 1, 0, none⟩ = some (.int .i64 k) ∧ wr.cell? ⟨w.heap.size + 1, 1, none⟩ = some (.int .u32 (starE (m + 1) : Nat)) ∧ wr.frozen? ⟨w.heap.size + 1, 1, none⟩ = false ∧ wr.frozen? ⟨w.heap.size, 0, none⟩ = false ∧ wr.frozen? ⟨w.heap.size, 1, none⟩ = false ∧ wr.cell? ⟨w.heap.size, 0, none⟩ = some (.int .i64 0) ∧ wr.cell? ⟨w.heap.size, 1, none⟩ = some (.int .u32 0) ∧ Below w.heap.size w wr) (fun i _ => k + 1 - (intOf i).toNat)
  case atStart => exact ⟨0, by omega, rfl, by simp, by simp [starE], by simp, by simp, by simp, by simp, by simp, by (repeat (first | exact Below.refl _ _ | assumption | refine bchain (by assumption) ?_ | refine balloc ?_ _ | apply Below.drew | apply below_drewN | (refine Below.alloc ?_ (by (try simp) <;> omega) _) | (refine Below.setCell ?_ (by (try simp) <;> omega) _)))⟩
  case round =>
    obtain ⟨m, hm, rfl, hc0, hc1, hf1, hz0, hz1, hd0, hd1, hb⟩ := hrel
    by_cases hlt : m + 1 < k
    · have hJ := Lib.hid (fun W => sbit_int W 0 ((m : Int) + 1) 0 (m + 1) (by omega) (by omega) (by omega) (by omega))
      have hl := pb_le 0 (m + 1) (by omega) (by omega)
      have hpl := starE_lt (m + 1) (by omega)
      have hor := u32_or_nat (starE (m + 1)) (pb 0 (m + 1)) (by omega) (by omega)
      obtain ⟨x, hx⟩ : ∃ x, starE (m + 1) ||| pb 0 (m + 1) = x := ⟨_, rfl⟩
      rw [hx] at hor
      replace hx := Lib.hid hx
      obtain ⟨y, hy⟩ : ∃ y, starE (m + 1) = y := ⟨_, rfl⟩
      rw [hy] at hor hc1
      clear hy
      obtain ⟨z, hz⟩ : ∃ z, pb 0 (m + 1) = z := ⟨_, rfl⟩
      rw [hz] at hor hJ
      clear hz
      have hwm : IntKind.i64.wrap (m : Int) = m := IntWalk.i64_in _ (by omega)
      clear hm hl hpl
      go_wp2
      go_region_with (go_at_call 51; refine (hJ.out _).mono ?_; rintro r w3 ⟨rfl, rfl⟩)
      all_goals go_wp2
      all_goals
        go_roundw
        case rel => exact ⟨m + 1, by omega, by go_num, cellMiss hc0 (by simp), by rw [show starE (m + 1 + 1) = x from hx.out]; exact cellHit hc1, by simp [hf1], by simp [hz0], by simp [hz1], cellMiss hd0 (by simp), cellMiss hd1 (by simp), by (repeat (first | exact Below.refl _ _ | assumption | refine bchain (by assumption) ?_ | refine balloc ?_ _ | apply Below.drew | apply below_drewN | (refine Below.alloc ?_ (by (try simp) <;> omega) _) | (refine Below.setCell ?_ (by (try simp) <;> omega) _)))⟩
        case measure => simp [intOf]; omega
    · have hd := decide_eq_false (show ¬ ((m : Int) + 1 < (k : Int)) by omega)
      have hk : starE k = starE (m + 1) := by
        by_cases hz : m = 0
        · subst hz
          have : k = 0 ∨ k = 1 := by omega
          rcases this with rfl | rfl <;> rfl
        · obtain rfl : k = m + 1 := by omega
          rfl
      obtain ⟨y, hy⟩ : ∃ y, starE (m + 1) = y := ⟨_, rfl⟩
      rw [hy] at hc1 hk
      replace hk := Lib.hid hk
      clear hy hm
      go_wp2
      have h2 := twoCells hd0 hd1 (.int .i64 k) (.int .u32 y)
      exact bodyPost_ret (v := .tuple #[.agg #[.int .i64 k, .int .u32 y], .int .i64 0]) (by simp [results, Try.results26, go_sem, h2.1, h2.2]) rfl ⟨by rw [hk.out], by (repeat (first | exact Below.refl _ _ | assumption | refine bchain (by assumption) ?_ | refine balloc ?_ _ | apply Below.drew | apply below_drewN | (refine Below.alloc ?_ (by (try simp) <;> omega) _) | (refine Below.setCell ?_ (by (try simp) <;> omega) _)))⟩

theorem cycle_big (n : Int) (h : 5 < n) : Calls Try.prog 23 #[.int .i64 n] w fun r w' => r = .returned (.tuple #[.agg #[.int .i64 0, .int .u32 0], .int .i64 2]) ∧ Below w.heap.size w w' := by
  have hP := Lib.hid (fun W => path_out W n (by omega))
  go_enter Try.func23, Try.ntmps23
  go_wp2_with fail
  refine (hP.out _).mono ?_
  rintro r1 w1 ⟨rfl, hb1⟩
  obtain ⟨hc1_0, hz1_0⟩ := bkeep hb1 (w.heap.size) (by (try simp) <;> omega)
  have hf1_0 := bkeepz hb1 (w.heap.size) (by (try simp) <;> omega)
  go_wp2
  have h2 := fun O => twoCellsA (a := .int .i64 0) (b := .int .u32 0) hz1_0 ((hc1_0 0).trans (by simp)) ((hc1_0 1).trans (by simp)) (.int .i64 0) (.int .u32 0) O
  exact bodyPost_ret (v := .tuple #[.agg #[.int .i64 0, .int .u32 0], .int .i64 2]) (by simp [results, Try.results23, go_sem, (h2 _).1, (h2 _).2]) rfl ⟨rfl, by (repeat (first | exact Below.refl _ _ | assumption | refine bchain (by assumption) ?_ | refine balloc ?_ _ | apply Below.drew | apply below_drewN | (refine Below.alloc ?_ (by (try simp) <;> omega) _) | (refine Below.setCell ?_ (by (try simp) <;> omega) _)))⟩

theorem cycle_small (n : Int) (h : n < 3) : Calls Try.prog 23 #[.int .i64 n] w fun r w' => r = .returned (.tuple #[.agg #[.int .i64 0, .int .u32 0], .int .i64 2]) ∧ Below w.heap.size w w' := by
  go_enter Try.func23, Try.ntmps23
  go_wp2
  exact bodyPost_ret (v := .tuple #[.agg #[.int .i64 0, .int .u32 0], .int .i64 2]) (by simp [results, Try.results23, go_sem]) rfl ⟨rfl, by (repeat (first | exact Below.refl _ _ | assumption | refine bchain (by assumption) ?_ | refine balloc ?_ _ | apply Below.drew | apply below_drewN | (refine Below.alloc ?_ (by (try simp) <;> omega) _) | (refine Below.setCell ?_ (by (try simp) <;> omega) _)))⟩

theorem cycle_in (k : Nat) (h3 : 3 ≤ k) (h5 : k ≤ 5) : Calls Try.prog 23 #[.int .i64 k] w fun r w' => r = .returned (.tuple #[.agg #[.int .i64 k, .int .u32 (cycleE k : Nat)], .int .i64 0]) ∧ Below w.heap.size w w' := by
  have hP := Lib.hid (fun W => path_in W k h5)
  have hJ := Lib.hid (fun W => pbit_int W ((k : Int) - 1) 0 (k - 1) 0 (by omega) (by omega) (by omega) (by omega))
  have hl := pb_le (k - 1) 0 (by omega) (by omega)
  have hpl := pathE_lt k h5
  have hor := u32_or_nat (pathE k) (pb (k - 1) 0) (by omega) (by omega)
  have hx : pathE k ||| pb (k - 1) 0 = cycleE k := by unfold cycleE pb; rw [pp_comm]
  rw [hx] at hor
  obtain ⟨x, hxx⟩ : ∃ x, cycleE k = x := ⟨_, rfl⟩
  rw [hxx] at hor ⊢
  obtain ⟨y, hy⟩ : ∃ y, pathE k = y := ⟨_, rfl⟩
  rw [hy] at hor hP
  obtain ⟨z, hz⟩ : ∃ z, pb (k - 1) 0 = z := ⟨_, rfl⟩
  rw [hz] at hor hJ
  have hwm : IntKind.i64.wrap ((k : Int) - 1) = (k : Int) - 1 := IntWalk.i64_in _ (by omega)
  have hg3 : decide ((k : Int) < 3) = false := decide_eq_false (by omega)
  clear hz hy hxx hx hl hpl
  go_enter Try.func23, Try.ntmps23
  go_wp2_with fail
  refine (hP.out _).mono ?_
  rintro r1 w1 ⟨rfl, hb1⟩
  obtain ⟨hc1_0, hz1_0⟩ := bkeep hb1 (w.heap.size) (by (try simp) <;> omega)
  have hf1_0 := bkeepz hb1 (w.heap.size) (by (try simp) <;> omega)
  go_wp2
  go_region_with (go_at_call 52; refine (hJ.out _).mono ?_; rintro r w3 ⟨rfl, rfl⟩)
  all_goals go_wp2
  all_goals have h2 := fun O => twoCellsA (a := .int .i64 0) (b := .int .u32 0) hz1_0 ((hc1_0 0).trans (by simp)) ((hc1_0 1).trans (by simp)) (.int .i64 k) (.int .u32 x) O
  all_goals exact bodyPost_ret (v := .tuple #[.agg #[.int .i64 k, .int .u32 x], .int .i64 0]) (by simp [results, Try.results23, go_sem, (h2 _).1, (h2 _).2]) rfl ⟨rfl, by (repeat (first | exact Below.refl _ _ | assumption | refine bchain (by assumption) ?_ | refine balloc ?_ _ | apply Below.drew | apply below_drewN | (refine Below.alloc ?_ (by (try simp) <;> omega) _) | (refine Below.setCell ?_ (by (try simp) <;> omega) _)))⟩

theorem scycle_big (n : Int) (h : 5 < n) : Calls Try.prog 22 #[.int .i64 n] w fun r w' => r = .returned (.tuple #[.agg #[.int .i64 0, .int .u32 0], .int .i64 2]) ∧ Below w.heap.size w w' := by
  have hP := Lib.hid (fun W => spath_out W n (by omega))
  go_enter Try.func22, Try.ntmps22
  go_wp2_with fail
  refine (hP.out _).mono ?_
  rintro r1 w1 ⟨rfl, hb1⟩
  obtain ⟨hc1_0, hz1_0⟩ := bkeep hb1 (w.heap.size) (by (try simp) <;> omega)
  have hf1_0 := bkeepz hb1 (w.heap.size) (by (try simp) <;> omega)
  go_wp2
  have h2 := fun O => twoCellsA (a := .int .i64 0) (b := .int .u32 0) hz1_0 ((hc1_0 0).trans (by simp)) ((hc1_0 1).trans (by simp)) (.int .i64 0) (.int .u32 0) O
  exact bodyPost_ret (v := .tuple #[.agg #[.int .i64 0, .int .u32 0], .int .i64 2]) (by simp [results, Try.results22, go_sem, (h2 _).1, (h2 _).2]) rfl ⟨rfl, by (repeat (first | exact Below.refl _ _ | assumption | refine bchain (by assumption) ?_ | refine balloc ?_ _ | apply Below.drew | apply below_drewN | (refine Below.alloc ?_ (by (try simp) <;> omega) _) | (refine Below.setCell ?_ (by (try simp) <;> omega) _)))⟩

theorem scycle_small (n : Int) (h : n < 3) : Calls Try.prog 22 #[.int .i64 n] w fun r w' => r = .returned (.tuple #[.agg #[.int .i64 0, .int .u32 0], .int .i64 2]) ∧ Below w.heap.size w w' := by
  by_cases h0 : 0 ≤ n
  · obtain ⟨k, rfl⟩ : ∃ k : Nat, n = k := ⟨n.toNat, by omega⟩
    have hP := Lib.hid (fun W => spath_in W k (by omega))
    obtain ⟨y, hy⟩ : ∃ y, pathE k = y := ⟨_, rfl⟩
    rw [hy] at hP
    clear hy
    go_enter Try.func22, Try.ntmps22
    go_wp2_with fail
    refine (hP.out _).mono ?_
    rintro r1 w1 ⟨rfl, hb1⟩
    obtain ⟨hc1_0, hz1_0⟩ := bkeep hb1 (w.heap.size) (by (try simp) <;> omega)
    have hf1_0 := bkeepz hb1 (w.heap.size) (by (try simp) <;> omega)
    go_wp2
    have h2 := fun O => twoCellsA (a := .int .i64 0) (b := .int .u32 0) hz1_0 ((hc1_0 0).trans (by simp)) ((hc1_0 1).trans (by simp)) (.int .i64 0) (.int .u32 0) O
    exact bodyPost_ret (v := .tuple #[.agg #[.int .i64 0, .int .u32 0], .int .i64 2]) (by simp [results, Try.results22, go_sem, (h2 _).1, (h2 _).2]) rfl ⟨rfl, by (repeat (first | exact Below.refl _ _ | assumption | refine bchain (by assumption) ?_ | refine balloc ?_ _ | apply Below.drew | apply below_drewN | (refine Below.alloc ?_ (by (try simp) <;> omega) _) | (refine Below.setCell ?_ (by (try simp) <;> omega) _)))⟩
  · have hP := Lib.hid (fun W => spath_out W n (by omega))
    go_enter Try.func22, Try.ntmps22
    go_wp2_with fail
    refine (hP.out _).mono ?_
    rintro r1 w1 ⟨rfl, hb1⟩
    obtain ⟨hc1_0, hz1_0⟩ := bkeep hb1 (w.heap.size) (by (try simp) <;> omega)
    have hf1_0 := bkeepz hb1 (w.heap.size) (by (try simp) <;> omega)
    go_wp2
    have h2 := fun O => twoCellsA (a := .int .i64 0) (b := .int .u32 0) hz1_0 ((hc1_0 0).trans (by simp)) ((hc1_0 1).trans (by simp)) (.int .i64 0) (.int .u32 0) O
    exact bodyPost_ret (v := .tuple #[.agg #[.int .i64 0, .int .u32 0], .int .i64 2]) (by simp [results, Try.results22, go_sem, (h2 _).1, (h2 _).2]) rfl ⟨rfl, by (repeat (first | exact Below.refl _ _ | assumption | refine bchain (by assumption) ?_ | refine balloc ?_ _ | apply Below.drew | apply below_drewN | (refine Below.alloc ?_ (by (try simp) <;> omega) _) | (refine Below.setCell ?_ (by (try simp) <;> omega) _)))⟩

theorem scycle_in (k : Nat) (h3 : 3 ≤ k) (h5 : k ≤ 5) : Calls Try.prog 22 #[.int .i64 k] w fun r w' => r = .returned (.tuple #[.agg #[.int .i64 k, .int .u32 (cycleE k : Nat)], .int .i64 0]) ∧ Below w.heap.size w w' := by
  have hP := Lib.hid (fun W => spath_in W k h5)
  have hJ := Lib.hid (fun W => sbit_int W 0 ((k : Int) - 1) 0 (k - 1) (by omega) (by omega) (by omega) (by omega))
  have hl := pb_le 0 (k - 1) (by omega) (by omega)
  have hpl := pathE_lt k h5
  have hor := u32_or_nat (pathE k) (pb 0 (k - 1)) (by omega) (by omega)
  have hx : pathE k ||| pb 0 (k - 1) = cycleE k := by rfl
  rw [hx] at hor
  obtain ⟨x, hxx⟩ : ∃ x, cycleE k = x := ⟨_, rfl⟩
  rw [hxx] at hor ⊢
  obtain ⟨y, hy⟩ : ∃ y, pathE k = y := ⟨_, rfl⟩
  rw [hy] at hor hP
  obtain ⟨z, hz⟩ : ∃ z, pb 0 (k - 1) = z := ⟨_, rfl⟩
  rw [hz] at hor hJ
  have hwm : IntKind.i64.wrap ((k : Int) - 1) = (k : Int) - 1 := IntWalk.i64_in _ (by omega)
  have hg3 : decide ((k : Int) < 3) = false := decide_eq_false (by omega)
  clear hz hy hxx hx hl hpl
  go_enter Try.func22, Try.ntmps22
  go_wp2_with fail
  refine (hP.out _).mono ?_
  rintro r1 w1 ⟨rfl, hb1⟩
  obtain ⟨hc1_0, hz1_0⟩ := bkeep hb1 (w.heap.size) (by (try simp) <;> omega)
  have hf1_0 := bkeepz hb1 (w.heap.size) (by (try simp) <;> omega)
  go_wp2
  go_region_with (go_at_call 51; refine (hJ.out _).mono ?_; rintro r w3 ⟨rfl, rfl⟩)
  all_goals go_wp2
  all_goals have h2 := fun O => twoCellsA (a := .int .i64 0) (b := .int .u32 0) hz1_0 ((hc1_0 0).trans (by simp)) ((hc1_0 1).trans (by simp)) (.int .i64 k) (.int .u32 x) O
  all_goals exact bodyPost_ret (v := .tuple #[.agg #[.int .i64 k, .int .u32 x], .int .i64 0]) (by simp [results, Try.results22, go_sem, (h2 _).1, (h2 _).2]) rfl ⟨rfl, by (repeat (first | exact Below.refl _ _ | assumption | refine bchain (by assumption) ?_ | refine balloc ?_ _ | apply Below.drew | apply below_drewN | (refine Below.alloc ?_ (by (try simp) <;> omega) _) | (refine Below.setCell ?_ (by (try simp) <;> omega) _)))⟩
end

/-- a law that holds two functions of one number against each other -/
theorem complete_both (n : Int) : ∃ (m f c : Int),
    (∀ W, Calls Try.prog 19 #[.int .i64 n] W fun r w' => r = .returned (.tuple #[.agg #[.int .i64 m, .int .u32 f], .int .i64 c]) ∧ Below W.heap.size W w') ∧
    (∀ W, Calls Try.prog 20 #[.int .i64 n] W fun r w' => r = .returned (.tuple #[.agg #[.int .i64 m, .int .u32 f], .int .i64 c]) ∧ Below W.heap.size W w') := by
  by_cases h : 0 ≤ n ∧ n ≤ 5
  · obtain ⟨k, rfl⟩ : ∃ k : Nat, n = k := ⟨n.toNat, by omega⟩
    exact ⟨_, _, _, fun W => scomplete_in W k (by omega), fun W => complete_in W k (by omega)⟩
  · exact ⟨_, _, _, fun W => scomplete_out W n h, fun W => complete_out W n h⟩

theorem complete_walk (n : Int) (w : World) :
    Calls Try.prog 4 #[.int .i64 n] w fun r w' => r = .returned (.bool true) ∧ Below w.heap.size w w' := by
  obtain ⟨m, f, c, hs, hi⟩ := complete_both n
  replace hs := Lib.hid hs
  replace hi := Lib.hid hi
  go_enter Try.func4, Try.ntmps4
  go_wp2_with fail
  refine (hs.out _).mono ?_
  rintro r2 w2 ⟨rfl, hb2⟩
  go_wp2_with fail
  refine (hi.out _).mono ?_
  rintro r4 w4 ⟨rfl, hb4⟩
  obtain ⟨hc4_0, hz4_0⟩ := bkeep hb4 (w2.heap.size) (by (try simp) <;> omega)
  go_wp2_with fail
  refine (eqGraph_any _ _ _).mono ?_
  rintro r5 w5 ⟨rfl, hb5⟩
  go_wp2
  go_ret
  exact ⟨rfl, by (repeat (first | exact Below.refl _ _ | assumption | refine bchain (by assumption) ?_ | refine balloc ?_ _ | apply Below.drew | apply below_drewN | (refine Below.alloc ?_ (by (try simp) <;> omega) _) | (refine Below.setCell ?_ (by (try simp) <;> omega) _)))⟩

theorem path_both (n : Int) : ∃ (m f c : Int),
    (∀ W, Calls Try.prog 24 #[.int .i64 n] W fun r w' => r = .returned (.tuple #[.agg #[.int .i64 m, .int .u32 f], .int .i64 c]) ∧ Below W.heap.size W w') ∧
    (∀ W, Calls Try.prog 25 #[.int .i64 n] W fun r w' => r = .returned (.tuple #[.agg #[.int .i64 m, .int .u32 f], .int .i64 c]) ∧ Below W.heap.size W w') := by
  by_cases h : 0 ≤ n ∧ n ≤ 5
  · obtain ⟨k, rfl⟩ : ∃ k : Nat, n = k := ⟨n.toNat, by omega⟩
    exact ⟨_, _, _, fun W => spath_in W k (by omega), fun W => path_in W k (by omega)⟩
  · exact ⟨_, _, _, fun W => spath_out W n h, fun W => path_out W n h⟩

theorem path_walk (n : Int) (w : World) :
    Calls Try.prog 6 #[.int .i64 n] w fun r w' => r = .returned (.bool true) ∧ Below w.heap.size w w' := by
  obtain ⟨m, f, c, hs, hi⟩ := path_both n
  replace hs := Lib.hid hs
  replace hi := Lib.hid hi
  go_enter Try.func6, Try.ntmps6
  go_wp2_with fail
  refine (hs.out _).mono ?_
  rintro r2 w2 ⟨rfl, hb2⟩
  go_wp2_with fail
  refine (hi.out _).mono ?_
  rintro r4 w4 ⟨rfl, hb4⟩
  obtain ⟨hc4_0, hz4_0⟩ := bkeep hb4 (w2.heap.size) (by (try simp) <;> omega)
  go_wp2_with fail
  refine (eqGraph_any _ _ _).mono ?_
  rintro r5 w5 ⟨rfl, hb5⟩
  go_wp2
  go_ret
  exact ⟨rfl, by (repeat (first | exact Below.refl _ _ | assumption | refine bchain (by assumption) ?_ | refine balloc ?_ _ | apply Below.drew | apply below_drewN | (refine Below.alloc ?_ (by (try simp) <;> omega) _) | (refine Below.setCell ?_ (by (try simp) <;> omega) _)))⟩

theorem star_both (n : Int) : ∃ (m f c : Int),
    (∀ W, Calls Try.prog 26 #[.int .i64 n] W fun r w' => r = .returned (.tuple #[.agg #[.int .i64 m, .int .u32 f], .int .i64 c]) ∧ Below W.heap.size W w') ∧
    (∀ W, Calls Try.prog 27 #[.int .i64 n] W fun r w' => r = .returned (.tuple #[.agg #[.int .i64 m, .int .u32 f], .int .i64 c]) ∧ Below W.heap.size W w') := by
  by_cases h : 0 ≤ n ∧ n ≤ 5
  · obtain ⟨k, rfl⟩ : ∃ k : Nat, n = k := ⟨n.toNat, by omega⟩
    exact ⟨_, _, _, fun W => sstar_in W k (by omega), fun W => star_in W k (by omega)⟩
  · exact ⟨_, _, _, fun W => sstar_out W n h, fun W => star_out W n h⟩

theorem star_walk (n : Int) (w : World) :
    Calls Try.prog 7 #[.int .i64 n] w fun r w' => r = .returned (.bool true) ∧ Below w.heap.size w w' := by
  obtain ⟨m, f, c, hs, hi⟩ := star_both n
  replace hs := Lib.hid hs
  replace hi := Lib.hid hi
  go_enter Try.func7, Try.ntmps7
  go_wp2_with fail
  refine (hs.out _).mono ?_
  rintro r2 w2 ⟨rfl, hb2⟩
  go_wp2_with fail
  refine (hi.out _).mono ?_
  rintro r4 w4 ⟨rfl, hb4⟩
  obtain ⟨hc4_0, hz4_0⟩ := bkeep hb4 (w2.heap.size) (by (try simp) <;> omega)
  go_wp2_with fail
  refine (eqGraph_any _ _ _).mono ?_
  rintro r5 w5 ⟨rfl, hb5⟩
  go_wp2
  go_ret
  exact ⟨rfl, by (repeat (first | exact Below.refl _ _ | assumption | refine bchain (by assumption) ?_ | refine balloc ?_ _ | apply Below.drew | apply below_drewN | (refine Below.alloc ?_ (by (try simp) <;> omega) _) | (refine Below.setCell ?_ (by (try simp) <;> omega) _)))⟩

theorem cycle_both (n : Int) : ∃ (m f c : Int),
    (∀ W, Calls Try.prog 22 #[.int .i64 n] W fun r w' => r = .returned (.tuple #[.agg #[.int .i64 m, .int .u32 f], .int .i64 c]) ∧ Below W.heap.size W w') ∧
    (∀ W, Calls Try.prog 23 #[.int .i64 n] W fun r w' => r = .returned (.tuple #[.agg #[.int .i64 m, .int .u32 f], .int .i64 c]) ∧ Below W.heap.size W w') := by
  by_cases h : 3 ≤ n ∧ n ≤ 5
  · obtain ⟨k, rfl⟩ : ∃ k : Nat, n = k := ⟨n.toNat, by omega⟩
    exact ⟨_, _, _, fun W => scycle_in W k (by omega) (by omega), fun W => cycle_in W k (by omega) (by omega)⟩
  · by_cases h3 : n < 3
    · exact ⟨_, _, _, fun W => scycle_small W n h3, fun W => cycle_small W n h3⟩
    · exact ⟨_, _, _, fun W => scycle_big W n (by omega), fun W => cycle_big W n (by omega)⟩

theorem cycle_walk (n : Int) (w : World) :
    Calls Try.prog 5 #[.int .i64 n] w fun r w' => r = .returned (.bool true) ∧ Below w.heap.size w w' := by
  obtain ⟨m, f, c, hs, hi⟩ := cycle_both n
  replace hs := Lib.hid hs
  replace hi := Lib.hid hi
  go_enter Try.func5, Try.ntmps5
  go_wp2_with fail
  refine (hs.out _).mono ?_
  rintro r2 w2 ⟨rfl, hb2⟩
  go_wp2_with fail
  refine (hi.out _).mono ?_
  rintro r4 w4 ⟨rfl, hb4⟩
  obtain ⟨hc4_0, hz4_0⟩ := bkeep hb4 (w2.heap.size) (by (try simp) <;> omega)
  go_wp2_with fail
  refine (eqGraph_any _ _ _).mono ?_
  rintro r5 w5 ⟨rfl, hb5⟩
  go_wp2
  go_ret
  exact ⟨rfl, by (repeat (first | exact Below.refl _ _ | assumption | refine bchain (by assumption) ?_ | refine balloc ?_ _ | apply Below.drew | apply below_drewN | (refine Below.alloc ?_ (by (try simp) <;> omega) _) | (refine Below.setCell ?_ (by (try simp) <;> omega) _)))⟩

end Go.Proofs.Ytoiepgdjknpjiab
