/-
  CONTRACTS OF THE GRAPHS THAT ARE BUILT FROM A NUMBER: complete graphs, paths, stars and cycles: the program's and the model's, for every number.
-/
import Derived.Test.YtoiepgdjknpjiaaEdge
import Derived.Deep.RegionWith
import Derived.Lib.Hide
namespace Go.Proofs.Ytoiepgdjknpjiaa
open Go.RowKit
set_option maxRecDepth 100000

/-- the bits of a path through the vertices before k -/
def pathE : Nat → Nat | 0 => 0 | 1 => 0 | k + 2 => pathE (k + 1) ||| pb k (k + 1)
theorem pathE_lt (k : Nat) (h : k ≤ 5) : pathE k < 1024 := by
  have hc : k = 0 ∨ k = 1 ∨ k = 2 ∨ k = 3 ∨ k = 4 ∨ k = 5 := by omega
  rcases hc with rfl | rfl | rfl | rfl | rfl | rfl <;> decide
/-- the bits of a star with the vertices before k -/
def starE : Nat → Nat | 0 => 0 | 1 => 0 | k + 2 => starE (k + 1) ||| pb 0 (k + 1)
theorem starE_lt (k : Nat) (h : k ≤ 5) : starE k < 1024 := by
  have hc : k = 0 ∨ k = 1 ∨ k = 2 ∨ k = 3 ∨ k = 4 ∨ k = 5 := by omega
  rcases hc with rfl | rfl | rfl | rfl | rfl | rfl <;> decide
/-- the bits of a cycle -/
def cycleE (k : Nat) : Nat := pathE k ||| pb 0 (k - 1)

section
variable (w : World)

theorem eqGraph_any (m f : Int) : Calls Try.prog 43 #[.agg #[.int .i64 m, .int .u32 f], .agg #[.int .i64 m, .int .u32 f]] w fun r w' => r = .returned (.bool true) ∧ Below w.heap.size w w' := by
  go_enter Try.func43, Try.ntmps43
  go_wp2
  go_ret
  exact ⟨rfl, by (repeat (first | exact Below.refl _ _ | assumption | refine bchain (by assumption) ?_ | refine balloc ?_ _ | apply Below.drew | apply below_drewN | (refine Below.alloc ?_ (by (try simp) <;> omega) _) | (refine Below.setCell ?_ (by (try simp) <;> omega) _)))⟩

theorem complete_in (k : Nat) (h : k ≤ 5) : Calls Try.prog 29 #[.int .i64 k] w fun r w' => r = .returned (.tuple #[.agg #[.int .i64 k, .int .u32 ((eMax k - 1 : Nat) : Int)], .int .i64 0]) ∧ Below w.heap.size w w' := by
  have hA := Lib.hid (fun W => ae_any W k h)
  obtain ⟨x, hx⟩ : ∃ x : Nat, eMax k - 1 = x := ⟨_, rfl⟩
  rw [hx] at hA ⊢
  clear hx
  go_enter Try.func29, Try.ntmps29
  go_wp2_with (first
    | (go_at_call 61; refine (vc_t _ _ (by omega) (by omega)).mono ?_; rintro r w1 ⟨rfl, rfl⟩)
    | (go_at_call 62; refine (hA.out _).mono ?_; rintro r w2 ⟨rfl, rfl⟩))
  exact bodyPost_ret (v := .tuple #[.agg #[.int .i64 k, .int .u32 x], .int .i64 0]) (by simp [results, Try.results29, go_sem]) rfl ⟨rfl, by (repeat (first | exact Below.refl _ _ | assumption | refine bchain (by assumption) ?_ | refine balloc ?_ _ | apply Below.drew | apply below_drewN | (refine Below.alloc ?_ (by (try simp) <;> omega) _) | (refine Below.setCell ?_ (by (try simp) <;> omega) _)))⟩
theorem complete_out (n : Int) (h : ¬ (0 ≤ n ∧ n ≤ 5)) : Calls Try.prog 29 #[.int .i64 n] w fun r w' => r = .returned (.tuple #[.agg #[.int .i64 0, .int .u32 0], .int .i64 2]) ∧ Below w.heap.size w w' := by
  have hr : n < 0 ∨ 5 < n := by omega
  clear h
  go_enter Try.func29, Try.ntmps29
  go_wp2_with (go_at_call 61; refine (vc_f _ _ hr).mono ?_; rintro r w1 ⟨rfl, rfl⟩)
  exact bodyPost_ret (v := .tuple #[.agg #[.int .i64 0, .int .u32 0], .int .i64 2]) (by simp [results, Try.results29, go_sem]) rfl ⟨rfl, by (repeat (first | exact Below.refl _ _ | assumption | refine bchain (by assumption) ?_ | refine balloc ?_ _ | apply Below.drew | apply below_drewN | (refine Below.alloc ?_ (by (try simp) <;> omega) _) | (refine Below.setCell ?_ (by (try simp) <;> omega) _)))⟩

theorem path_out (n : Int) (h : ¬ (0 ≤ n ∧ n ≤ 5)) : Calls Try.prog 31 #[.int .i64 n] w fun r w' => r = .returned (.tuple #[.agg #[.int .i64 0, .int .u32 0], .int .i64 2]) ∧ Below w.heap.size w w' := by
  have hr : n < 0 ∨ 5 < n := by omega
  clear h
  go_enter Try.func31, Try.ntmps31
  go_wp2_with (go_at_call 61; refine (vc_f _ _ hr).mono ?_; rintro r w1 ⟨rfl, rfl⟩)
  exact bodyPost_ret (v := .tuple #[.agg #[.int .i64 0, .int .u32 0], .int .i64 2]) (by simp [results, Try.results31, go_sem]) rfl ⟨rfl, by (repeat (first | exact Below.refl _ _ | assumption | refine bchain (by assumption) ?_ | refine balloc ?_ _ | apply Below.drew | apply below_drewN | (refine Below.alloc ?_ (by (try simp) <;> omega) _) | (refine Below.setCell ?_ (by (try simp) <;> omega) _)))⟩

theorem path_in (k : Nat) (h : k ≤ 5) : Calls Try.prog 31 #[.int .i64 k] w fun r w' => r = .returned (.tuple #[.agg #[.int .i64 k, .int .u32 (pathE k : Nat)], .int .i64 0]) ∧ Below w.heap.size w w' := by
  go_enter Try.func31, Try.ntmps31
  go_wp2_with (go_at_call 61; refine (vc_t _ _ (by omega) (by omega)).mono ?_; rintro r w1 ⟨rfl, rfl⟩)
  go_loopw [5] (fun i wr => ∃ m : Nat, (m + 1 ≤ k ∨ m = 0) ∧ i = .int .i64 ((m : Int) + 1) ∧ wr.cell? ⟨w.heap.size + 1, 0, none⟩ = some (.int .i64 k) ∧ wr.cell? ⟨w.heap.size + 1, 1, none⟩ = some (.int .u32 (pathE (m + 1) : Nat)) ∧ wr.frozen? ⟨w.heap.size + 1, 1, none⟩ = false ∧ wr.frozen? ⟨w.heap.size, 0, none⟩ = false ∧ wr.frozen? ⟨w.heap.size, 1, none⟩ = false ∧ wr.cell? ⟨w.heap.size, 0, none⟩ = some (.int .i64 0) ∧ wr.cell? ⟨w.heap.size, 1, none⟩ = some (.int .u32 0) ∧ Below w.heap.size w wr) (fun i _ => k + 1 - (intOf i).toNat)
  case atStart => exact ⟨0, by omega, rfl, by simp, by simp [pathE], by simp, by simp, by simp, by simp, by simp, by (repeat (first | exact Below.refl _ _ | assumption | refine bchain (by assumption) ?_ | refine balloc ?_ _ | apply Below.drew | apply below_drewN | (refine Below.alloc ?_ (by (try simp) <;> omega) _) | (refine Below.setCell ?_ (by (try simp) <;> omega) _)))⟩
  case round =>
    obtain ⟨m, hm, rfl, hc0, hc1, hf1, hz0, hz1, hd0, hd1, hb⟩ := hrel
    by_cases hlt : m + 1 < k
    · have hJ := Lib.hid (fun W => pbit_int W (m : Int) ((m : Int) + 1) m (m + 1) (by omega) (by omega) (by omega) (by omega))
      have hl := pb_le m (m + 1) (by omega) (by omega)
      have hpl := pathE_lt (m + 1) (by omega)
      have hor := u32_or_nat (pathE (m + 1)) (pb m (m + 1)) (by omega) (by omega)
      obtain ⟨x, hx⟩ : ∃ x, pathE (m + 1) ||| pb m (m + 1) = x := ⟨_, rfl⟩
      rw [hx] at hor
      replace hx := Lib.hid hx
      obtain ⟨y, hy⟩ : ∃ y, pathE (m + 1) = y := ⟨_, rfl⟩
      rw [hy] at hor hc1
      clear hy
      obtain ⟨z, hz⟩ : ∃ z, pb m (m + 1) = z := ⟨_, rfl⟩
      rw [hz] at hor hJ
      clear hz
      have hwm : IntKind.i64.wrap (m : Int) = m := IntWalk.i64_in _ (by omega)
      clear hm hl hpl
      go_wp2
      go_region_with (go_at_call 69; refine (hJ.out _).mono ?_; rintro r w3 ⟨rfl, rfl⟩)
      all_goals go_wp2
      all_goals
        go_roundw
        case rel => exact ⟨m + 1, by omega, by go_num, cellMiss hc0 (by simp), by rw [show pathE (m + 1 + 1) = x from hx.out]; exact cellHit hc1, by simp [hf1], by simp [hz0], by simp [hz1], cellMiss hd0 (by simp), cellMiss hd1 (by simp), by (repeat (first | exact Below.refl _ _ | assumption | refine bchain (by assumption) ?_ | refine balloc ?_ _ | apply Below.drew | apply below_drewN | (refine Below.alloc ?_ (by (try simp) <;> omega) _) | (refine Below.setCell ?_ (by (try simp) <;> omega) _)))⟩
        case measure => simp [intOf]; omega
    · have hd := decide_eq_false (show ¬ ((m : Int) + 1 < (k : Int)) by omega)
      have hk : pathE k = pathE (m + 1) := by
        by_cases hz : m = 0
        · subst hz
          have : k = 0 ∨ k = 1 := by omega
          rcases this with rfl | rfl <;> rfl
        · obtain rfl : k = m + 1 := by omega
          rfl
      obtain ⟨y, hy⟩ : ∃ y, pathE (m + 1) = y := ⟨_, rfl⟩
      rw [hy] at hc1 hk
      replace hk := Lib.hid hk
      clear hy hm
      go_wp2
      have h2 := twoCells hd0 hd1 (.int .i64 k) (.int .u32 y)
      exact bodyPost_ret (v := .tuple #[.agg #[.int .i64 k, .int .u32 y], .int .i64 0]) (by simp [results, Try.results31, go_sem, h2.1, h2.2]) rfl ⟨by rw [hk.out], by (repeat (first | exact Below.refl _ _ | assumption | refine bchain (by assumption) ?_ | refine balloc ?_ _ | apply Below.drew | apply below_drewN | (refine Below.alloc ?_ (by (try simp) <;> omega) _) | (refine Below.setCell ?_ (by (try simp) <;> omega) _)))⟩

theorem star_out (n : Int) (h : ¬ (0 ≤ n ∧ n ≤ 5)) : Calls Try.prog 32 #[.int .i64 n] w fun r w' => r = .returned (.tuple #[.agg #[.int .i64 0, .int .u32 0], .int .i64 2]) ∧ Below w.heap.size w w' := by
  have hr : n < 0 ∨ 5 < n := by omega
  clear h
  go_enter Try.func32, Try.ntmps32
  go_wp2_with (go_at_call 61; refine (vc_f _ _ hr).mono ?_; rintro r w1 ⟨rfl, rfl⟩)
  exact bodyPost_ret (v := .tuple #[.agg #[.int .i64 0, .int .u32 0], .int .i64 2]) (by simp [results, Try.results32, go_sem]) rfl ⟨rfl, by (repeat (first | exact Below.refl _ _ | assumption | refine bchain (by assumption) ?_ | refine balloc ?_ _ | apply Below.drew | apply below_drewN | (refine Below.alloc ?_ (by (try simp) <;> omega) _) | (refine Below.setCell ?_ (by (try simp) <;> omega) _)))⟩

theorem star_in (k : Nat) (h : k ≤ 5) : Calls Try.prog 32 #[.int .i64 k] w fun r w' => r = .returned (.tuple #[.agg #[.int .i64 k, .int .u32 (starE k : Nat)], .int .i64 0]) ∧ Below w.heap.size w w' := by
  go_enter Try.func32, Try.ntmps32
  go_wp2_with (go_at_call 61; refine (vc_t _ _ (by omega) (by omega)).mono ?_; rintro r w1 ⟨rfl, rfl⟩)
  go_loopw [5] (fun i wr => ∃ m : Nat, (m + 1 ≤ k ∨ m = 0) ∧ i = .int .i64 ((m : Int) + 1) ∧ wr.cell? ⟨w.heap.size + 1, 0, none⟩ = some (.int .i64 k) ∧ wr.cell? ⟨w.heap.size + 1, 1, none⟩ = some (.int .u32 (starE (m + 1) : Nat)) ∧ wr.frozen? ⟨w.heap.size + 1, 1, none⟩ = false ∧ wr.frozen? ⟨w.heap.size, 0, none⟩ = false ∧ wr.frozen? ⟨w.heap.size, 1, none⟩ = false ∧ wr.cell? ⟨w.heap.size, 0, none⟩ = some (.int .i64 0) ∧ wr.cell? ⟨w.heap.size, 1, none⟩ = some (.int .u32 0) ∧ Below w.heap.size w wr) (fun i _ => k + 1 - (intOf i).toNat)
  case atStart => exact ⟨0, by omega, rfl, by simp, by simp [starE], by simp, by simp, by simp, by simp, by simp, by (repeat (first | exact Below.refl _ _ | assumption | refine bchain (by assumption) ?_ | refine balloc ?_ _ | apply Below.drew | apply below_drewN | (refine Below.alloc ?_ (by (try simp) <;> omega) _) | (refine Below.setCell ?_ (by (try simp) <;> omega) _)))⟩
  case round =>
    obtain ⟨m, hm, rfl, hc0, hc1, hf1, hz0, hz1, hd0, hd1, hb⟩ := hrel
    by_cases hlt : m + 1 < k
    · have hJ := Lib.hid (fun W => pbit_int W 0 ((m : Int) + 1) 0 (m + 1) (by omega) (by omega) (by omega) (by omega))
      have hl := pb_le 0 (m + 1) (by omega) (by omega)
      have hpl := starE_lt (m + 1) (by omega)
      have hor := u32_or_nat (starE (m + 1)) (pb 0 (m + 1)) (by omega) (by omega)
      obtain ⟨x, hx⟩ : ∃ x, starE (m + 1) ||| pb 0 (m + 1) = x := ⟨_, rfl⟩
      rw [hx] at hor
      replace hx := Lib.hid hx
      obtain ⟨y, hy⟩ : ∃ y, starE (m + 1) = y := ⟨_, rfl⟩
      rw [hy] at hor hc1
      clear hy
      obtain ⟨z, hz⟩ : ∃ z, pb 0 (m + 1) = z := ⟨_, rfl⟩
      rw [hz] at hor hJ
      clear hz
      have hwm : IntKind.i64.wrap (m : Int) = m := IntWalk.i64_in _ (by omega)
      clear hm hl hpl
      go_wp2
      go_region_with (go_at_call 69; refine (hJ.out _).mono ?_; rintro r w3 ⟨rfl, rfl⟩)
      all_goals go_wp2
      all_goals
        go_roundw
        case rel => exact ⟨m + 1, by omega, by go_num, cellMiss hc0 (by simp), by rw [show starE (m + 1 + 1) = x from hx.out]; exact cellHit hc1, by simp [hf1], by simp [hz0], by simp [hz1], cellMiss hd0 (by simp), cellMiss hd1 (by simp), by (repeat (first | exact Below.refl _ _ | assumption | refine bchain (by assumption) ?_ | refine balloc ?_ _ | apply Below.drew | apply below_drewN | (refine Below.alloc ?_ (by (try simp) <;> omega) _) | (refine Below.setCell ?_ (by (try simp) <;> omega) _)))⟩
        case measure => simp [intOf]; omega
    · have hd := decide_eq_false (show ¬ ((m : Int) + 1 < (k : Int)) by omega)
      have hk : starE k = starE (m + 1) := by
        by_cases hz : m = 0
        · subst hz
          have : k = 0 ∨ k = 1 := by omega
          rcases this with rfl | rfl <;> rfl
        · obtain rfl : k = m + 1 := by omega
          rfl
      obtain ⟨y, hy⟩ : ∃ y, starE (m + 1) = y := ⟨_, rfl⟩
      rw [hy] at hc1 hk
      replace hk := Lib.hid hk
      clear hy hm
      go_wp2
      have h2 := twoCells hd0 hd1 (.int .i64 k) (.int .u32 y)
      exact bodyPost_ret (v := .tuple #[.agg #[.int .i64 k, .int .u32 y], .int .i64 0]) (by simp [results, Try.results32, go_sem, h2.1, h2.2]) rfl ⟨by rw [hk.out], by (repeat (first | exact Below.refl _ _ | assumption | refine bchain (by assumption) ?_ | refine balloc ?_ _ | apply Below.drew | apply below_drewN | (refine Below.alloc ?_ (by (try simp) <;> omega) _) | (refine Below.setCell ?_ (by (try simp) <;> omega) _)))⟩

theorem cycle_big (n : Int) (h : 5 < n) : Calls Try.prog 30 #[.int .i64 n] w fun r w' => r = .returned (.tuple #[.agg #[.int .i64 0, .int .u32 0], .int .i64 2]) ∧ Below w.heap.size w w' := by
  have hP := Lib.hid (fun W => path_out W n (by omega))
  go_enter Try.func30, Try.ntmps30
  go_wp2_with fail
  refine (hP.out _).mono ?_
  rintro r1 w1 ⟨rfl, hb1⟩
  obtain ⟨hc1_0, hz1_0⟩ := bkeep hb1 (w.heap.size) (by (try simp) <;> omega)
  have hf1_0 := bkeepz hb1 (w.heap.size) (by (try simp) <;> omega)
  go_wp2
  have h2 := fun O => twoCellsA (a := .int .i64 0) (b := .int .u32 0) hz1_0 ((hc1_0 0).trans (by simp)) ((hc1_0 1).trans (by simp)) (.int .i64 0) (.int .u32 0) O
  exact bodyPost_ret (v := .tuple #[.agg #[.int .i64 0, .int .u32 0], .int .i64 2]) (by simp [results, Try.results30, go_sem, (h2 _).1, (h2 _).2]) rfl ⟨rfl, by (repeat (first | exact Below.refl _ _ | assumption | refine bchain (by assumption) ?_ | refine balloc ?_ _ | apply Below.drew | apply below_drewN | (refine Below.alloc ?_ (by (try simp) <;> omega) _) | (refine Below.setCell ?_ (by (try simp) <;> omega) _)))⟩

theorem cycle_small (n : Int) (h : n < 3) : Calls Try.prog 30 #[.int .i64 n] w fun r w' => r = .returned (.tuple #[.agg #[.int .i64 0, .int .u32 0], .int .i64 2]) ∧ Below w.heap.size w w' := by
  go_enter Try.func30, Try.ntmps30
  go_wp2
  exact bodyPost_ret (v := .tuple #[.agg #[.int .i64 0, .int .u32 0], .int .i64 2]) (by simp [results, Try.results30, go_sem]) rfl ⟨rfl, by (repeat (first | exact Below.refl _ _ | assumption | refine bchain (by assumption) ?_ | refine balloc ?_ _ | apply Below.drew | apply below_drewN | (refine Below.alloc ?_ (by (try simp) <;> omega) _) | (refine Below.setCell ?_ (by (try simp) <;> omega) _)))⟩

theorem cycle_in (k : Nat) (h3 : 3 ≤ k) (h5 : k ≤ 5) : Calls Try.prog 30 #[.int .i64 k] w fun r w' => r = .returned (.tuple #[.agg #[.int .i64 k, .int .u32 (cycleE k : Nat)], .int .i64 0]) ∧ Below w.heap.size w w' := by
  have hP := Lib.hid (fun W => path_in W k h5)
  have hJ := Lib.hid (fun W => pbit_int W ((k : Int) - 1) 0 (k - 1) 0 (by omega) (by omega) (by omega) (by omega))
  have hl := pb_le (k - 1) 0 (by omega) (by omega)
  have hpl := pathE_lt k h5
  have hor := u32_or_nat (pathE k) (pb (k - 1) 0) (by omega) (by omega)
  have hx : pathE k ||| pb (k - 1) 0 = cycleE k := by unfold cycleE pb; rw [pp_comm]
  rw [hx] at hor
  obtain ⟨x, hxx⟩ : ∃ x, cycleE k = x := ⟨_, rfl⟩
  rw [hxx] at hor ⊢
  obtain ⟨y, hy⟩ : ∃ y, pathE k = y := ⟨_, rfl⟩
  rw [hy] at hor hP
  obtain ⟨z, hz⟩ : ∃ z, pb (k - 1) 0 = z := ⟨_, rfl⟩
  rw [hz] at hor hJ
  have hwm : IntKind.i64.wrap ((k : Int) - 1) = (k : Int) - 1 := IntWalk.i64_in _ (by omega)
  have hg3 : decide ((k : Int) < 3) = false := decide_eq_false (by omega)
  clear hz hy hxx hx hl hpl
  go_enter Try.func30, Try.ntmps30
  go_wp2_with fail
  refine (hP.out _).mono ?_
  rintro r1 w1 ⟨rfl, hb1⟩
  obtain ⟨hc1_0, hz1_0⟩ := bkeep hb1 (w.heap.size) (by (try simp) <;> omega)
  have hf1_0 := bkeepz hb1 (w.heap.size) (by (try simp) <;> omega)
  go_wp2
  go_region_with (go_at_call 69; refine (hJ.out _).mono ?_; rintro r w3 ⟨rfl, rfl⟩)
  all_goals go_wp2
  all_goals have h2 := fun O => twoCellsA (a := .int .i64 0) (b := .int .u32 0) hz1_0 ((hc1_0 0).trans (by simp)) ((hc1_0 1).trans (by simp)) (.int .i64 k) (.int .u32 x) O
  all_goals exact bodyPost_ret (v := .tuple #[.agg #[.int .i64 k, .int .u32 x], .int .i64 0]) (by simp [results, Try.results30, go_sem, (h2 _).1, (h2 _).2]) rfl ⟨rfl, by (repeat (first | exact Below.refl _ _ | assumption | refine bchain (by assumption) ?_ | refine balloc ?_ _ | apply Below.drew | apply below_drewN | (refine Below.alloc ?_ (by (try simp) <;> omega) _) | (refine Below.setCell ?_ (by (try simp) <;> omega) _)))⟩

end
end Go.Proofs.Ytoiepgdjknpjiaa
