/-
  WHAT THE PROGRAM ANSWERS AT COMPLETE GRAPHS, CYCLES, PATHS AND STARS WITH 3, 4 AND 5 VERTICES.
-/
import Derived.Test.YtoiepgdjknpjiaaMade
import Derived.Test.YtoiepgdjknpjiaaCount
import Derived.Test.YtoiepgdjknpjiaaPart
import Derived.Test.YtoiepgdjknpjiaaPrs
namespace Go.Proofs.Ytoiepgdjknpjiaa
open Go.RowKit
set_option maxRecDepth 100000
section
variable (w : World)
theorem ipart_ok (n e m f : Nat) (h : VG n e) (h2 : VG m f) :
    Calls Try.prog 24 #[.agg #[.int .i64 n, .int .u32 e], .agg #[.int .i64 m, .int .u32 f]] w fun r w' => r = .returned (.tuple #[.bool (partB n e m f), .int .i64 0]) ∧ Below w.heap.size w w' := by
  have hL := Lib.hid (fun W => part_any W n e m f h h2)
  obtain ⟨b, hb⟩ : ∃ b, partB n e m f = b := ⟨_, rfl⟩
  rw [hb] at hL ⊢
  clear hb
  go_enter Try.func24, Try.ntmps24
  go_wp2_with fail
  refine (valid_t _ n e h).mono ?_
  rintro r1 w1 ⟨rfl, hb1⟩
  obtain ⟨hc1_0, hz1_0⟩ := bkeep hb1 (w.heap.size) (by (try simp) <;> omega)
  obtain ⟨hc1_1, hz1_1⟩ := bkeep hb1 (w.heap.size + 1) (by (try simp) <;> omega)
  go_wp2_with fail
  refine (valid_t _ m f h2).mono ?_
  rintro r2 w2 ⟨rfl, hb2⟩
  obtain ⟨hc2_0, hz2_0⟩ := bkeep hb2 (w.heap.size) (by (try simp) <;> omega)
  obtain ⟨hc2_1, hz2_1⟩ := bkeep hb2 (w.heap.size + 1) (by (try simp) <;> omega)
  go_wp2_with fail
  refine (hL.out _).mono ?_
  rintro r3 w3 ⟨rfl, hb3⟩
  go_wp2
  go_ret2
  exact ⟨rfl, by (repeat (first | exact Below.refl _ _ | assumption | refine bchain (by assumption) ?_ | refine balloc ?_ _ | apply Below.drew | apply below_drewN | (refine Below.alloc ?_ (by (try simp) <;> omega) _) | (refine Below.setCell ?_ (by (try simp) <;> omega) _)))⟩
theorem ipairs_len (n e l : Nat) (h : VG n e) (hl : (prE n e).length = l) :
    Calls Try.prog 33 #[.agg #[.int .i64 n, .int .u32 e]] w fun r w' => (∃ a cap, r = .returned (.tuple #[.slice a l cap, .int .i64 0])) ∧ Below w.heap.size w w' :=
  (ipo_ok w n e h).mono fun r w' hh => by
    obtain ⟨⟨v, hr, a, cap, hv, _⟩, hb⟩ := hh
    rw [hl] at hv
    exact ⟨⟨a, cap, by rw [hr, hv]⟩, hb⟩
end
theorem b_full3 (w : World) : Calls Try.prog 29 #[.int .i64 3] w fun r w' => r = .returned (.tuple #[.agg #[.int .i64 3, .int .u32 7], .int .i64 0]) ∧ Below w.heap.size w w' := by
  have h := complete_in w 3 (by omega)
  rw [show eMax 3 - 1 = 7 from by decide +kernel] at h
  exact h
theorem v_full3 : VG (3 : Nat) (7 : Nat) := by unfold VG eMax; simp
theorem l_full3 (w : World) : Calls Try.prog 33 #[.agg #[.int .i64 3, .int .u32 7]] w fun r w' => (∃ a cap, r = .returned (.tuple #[.slice a 3 cap, .int .i64 0])) ∧ Below w.heap.size w w' :=
  ipairs_len w 3 7 _ v_full3 (by decide +kernel)
theorem b_cycle3 (w : World) : Calls Try.prog 30 #[.int .i64 3] w fun r w' => r = .returned (.tuple #[.agg #[.int .i64 3, .int .u32 7], .int .i64 0]) ∧ Below w.heap.size w w' := by
  have h := cycle_in w 3 (by omega) (by omega)
  rw [show cycleE 3 = 7 from by decide +kernel] at h
  exact h
theorem v_cycle3 : VG (3 : Nat) (7 : Nat) := by unfold VG eMax; simp
theorem l_cycle3 (w : World) : Calls Try.prog 33 #[.agg #[.int .i64 3, .int .u32 7]] w fun r w' => (∃ a cap, r = .returned (.tuple #[.slice a 3 cap, .int .i64 0])) ∧ Below w.heap.size w w' :=
  ipairs_len w 3 7 _ v_cycle3 (by decide +kernel)
theorem b_path3 (w : World) : Calls Try.prog 31 #[.int .i64 3] w fun r w' => r = .returned (.tuple #[.agg #[.int .i64 3, .int .u32 5], .int .i64 0]) ∧ Below w.heap.size w w' := by
  have h := path_in w 3 (by omega)
  rw [show pathE 3 = 5 from by decide +kernel] at h
  exact h
theorem v_path3 : VG (3 : Nat) (5 : Nat) := by unfold VG eMax; simp
theorem l_path3 (w : World) : Calls Try.prog 33 #[.agg #[.int .i64 3, .int .u32 5]] w fun r w' => (∃ a cap, r = .returned (.tuple #[.slice a 2 cap, .int .i64 0])) ∧ Below w.heap.size w w' :=
  ipairs_len w 3 5 _ v_path3 (by decide +kernel)
theorem b_star3 (w : World) : Calls Try.prog 32 #[.int .i64 3] w fun r w' => r = .returned (.tuple #[.agg #[.int .i64 3, .int .u32 3], .int .i64 0]) ∧ Below w.heap.size w w' := by
  have h := star_in w 3 (by omega)
  rw [show starE 3 = 3 from by decide +kernel] at h
  exact h
theorem v_star3 : VG (3 : Nat) (3 : Nat) := by unfold VG eMax; simp
theorem l_star3 (w : World) : Calls Try.prog 33 #[.agg #[.int .i64 3, .int .u32 3]] w fun r w' => (∃ a cap, r = .returned (.tuple #[.slice a 2 cap, .int .i64 0])) ∧ Below w.heap.size w w' :=
  ipairs_len w 3 3 _ v_star3 (by decide +kernel)
theorem c_cycle3 (w : World) : Calls Try.prog 20 #[.agg #[.int .i64 3, .int .u32 7]] w fun r w' => r = .returned (.tuple #[.int .i64 6, .int .i64 0]) ∧ Below w.heap.size w w' := by
  have h := ics_ok w 3 7 v_cycle3
  rw [show cntE 7 (lists 3 3) = 6 from by decide +kernel] at h
  exact h
theorem c_full3 (w : World) : Calls Try.prog 20 #[.agg #[.int .i64 3, .int .u32 7]] w fun r w' => r = .returned (.tuple #[.int .i64 6, .int .i64 0]) ∧ Below w.heap.size w w' := by
  have h := ics_ok w 3 7 v_full3
  rw [show cntE 7 (lists 3 3) = 6 from by decide +kernel] at h
  exact h
theorem h_in3 (w : World) : Calls Try.prog 24 #[.agg #[.int .i64 3, .int .u32 7], .agg #[.int .i64 3, .int .u32 5]] w fun r w' => r = .returned (.tuple #[.bool true, .int .i64 0]) ∧ Below w.heap.size w w' := by
  have h := ipart_ok w 3 7 3 5 v_cycle3 v_path3
  rw [show partB 3 7 3 5 = true from by decide +kernel] at h
  exact h
theorem h_not3 (w : World) : Calls Try.prog 24 #[.agg #[.int .i64 3, .int .u32 5], .agg #[.int .i64 3, .int .u32 7]] w fun r w' => r = .returned (.tuple #[.bool false, .int .i64 0]) ∧ Below w.heap.size w w' := by
  have h := ipart_ok w 3 5 3 7 v_path3 v_cycle3
  rw [show partB 3 5 3 7 = false from by decide +kernel] at h
  exact h
theorem b_full4 (w : World) : Calls Try.prog 29 #[.int .i64 4] w fun r w' => r = .returned (.tuple #[.agg #[.int .i64 4, .int .u32 63], .int .i64 0]) ∧ Below w.heap.size w w' := by
  have h := complete_in w 4 (by omega)
  rw [show eMax 4 - 1 = 63 from by decide +kernel] at h
  exact h
theorem v_full4 : VG (4 : Nat) (63 : Nat) := by unfold VG eMax; simp
theorem l_full4 (w : World) : Calls Try.prog 33 #[.agg #[.int .i64 4, .int .u32 63]] w fun r w' => (∃ a cap, r = .returned (.tuple #[.slice a 6 cap, .int .i64 0])) ∧ Below w.heap.size w w' :=
  ipairs_len w 4 63 _ v_full4 (by decide +kernel)
theorem b_cycle4 (w : World) : Calls Try.prog 30 #[.int .i64 4] w fun r w' => r = .returned (.tuple #[.agg #[.int .i64 4, .int .u32 45], .int .i64 0]) ∧ Below w.heap.size w w' := by
  have h := cycle_in w 4 (by omega) (by omega)
  rw [show cycleE 4 = 45 from by decide +kernel] at h
  exact h
theorem v_cycle4 : VG (4 : Nat) (45 : Nat) := by unfold VG eMax; simp
theorem l_cycle4 (w : World) : Calls Try.prog 33 #[.agg #[.int .i64 4, .int .u32 45]] w fun r w' => (∃ a cap, r = .returned (.tuple #[.slice a 4 cap, .int .i64 0])) ∧ Below w.heap.size w w' :=
  ipairs_len w 4 45 _ v_cycle4 (by decide +kernel)
theorem b_path4 (w : World) : Calls Try.prog 31 #[.int .i64 4] w fun r w' => r = .returned (.tuple #[.agg #[.int .i64 4, .int .u32 37], .int .i64 0]) ∧ Below w.heap.size w w' := by
  have h := path_in w 4 (by omega)
  rw [show pathE 4 = 37 from by decide +kernel] at h
  exact h
theorem v_path4 : VG (4 : Nat) (37 : Nat) := by unfold VG eMax; simp
theorem l_path4 (w : World) : Calls Try.prog 33 #[.agg #[.int .i64 4, .int .u32 37]] w fun r w' => (∃ a cap, r = .returned (.tuple #[.slice a 3 cap, .int .i64 0])) ∧ Below w.heap.size w w' :=
  ipairs_len w 4 37 _ v_path4 (by decide +kernel)
theorem b_star4 (w : World) : Calls Try.prog 32 #[.int .i64 4] w fun r w' => r = .returned (.tuple #[.agg #[.int .i64 4, .int .u32 11], .int .i64 0]) ∧ Below w.heap.size w w' := by
  have h := star_in w 4 (by omega)
  rw [show starE 4 = 11 from by decide +kernel] at h
  exact h
theorem v_star4 : VG (4 : Nat) (11 : Nat) := by unfold VG eMax; simp
theorem l_star4 (w : World) : Calls Try.prog 33 #[.agg #[.int .i64 4, .int .u32 11]] w fun r w' => (∃ a cap, r = .returned (.tuple #[.slice a 3 cap, .int .i64 0])) ∧ Below w.heap.size w w' :=
  ipairs_len w 4 11 _ v_star4 (by decide +kernel)
theorem c_cycle4 (w : World) : Calls Try.prog 20 #[.agg #[.int .i64 4, .int .u32 45]] w fun r w' => r = .returned (.tuple #[.int .i64 8, .int .i64 0]) ∧ Below w.heap.size w w' := by
  have h := ics_ok w 4 45 v_cycle4
  rw [show cntE 45 (lists 4 4) = 8 from by decide +kernel] at h
  exact h
theorem c_full4 (w : World) : Calls Try.prog 20 #[.agg #[.int .i64 4, .int .u32 63]] w fun r w' => r = .returned (.tuple #[.int .i64 24, .int .i64 0]) ∧ Below w.heap.size w w' := by
  have h := ics_ok w 4 63 v_full4
  rw [show cntE 63 (lists 4 4) = 24 from by decide +kernel] at h
  exact h
theorem h_in4 (w : World) : Calls Try.prog 24 #[.agg #[.int .i64 4, .int .u32 45], .agg #[.int .i64 4, .int .u32 37]] w fun r w' => r = .returned (.tuple #[.bool true, .int .i64 0]) ∧ Below w.heap.size w w' := by
  have h := ipart_ok w 4 45 4 37 v_cycle4 v_path4
  rw [show partB 4 45 4 37 = true from by decide +kernel] at h
  exact h
theorem h_not4 (w : World) : Calls Try.prog 24 #[.agg #[.int .i64 4, .int .u32 37], .agg #[.int .i64 4, .int .u32 45]] w fun r w' => r = .returned (.tuple #[.bool false, .int .i64 0]) ∧ Below w.heap.size w w' := by
  have h := ipart_ok w 4 37 4 45 v_path4 v_cycle4
  rw [show partB 4 37 4 45 = false from by decide +kernel] at h
  exact h
theorem b_full5 (w : World) : Calls Try.prog 29 #[.int .i64 5] w fun r w' => r = .returned (.tuple #[.agg #[.int .i64 5, .int .u32 1023], .int .i64 0]) ∧ Below w.heap.size w w' := by
  have h := complete_in w 5 (by omega)
  rw [show eMax 5 - 1 = 1023 from by decide +kernel] at h
  exact h
theorem v_full5 : VG (5 : Nat) (1023 : Nat) := by unfold VG eMax; simp
theorem l_full5 (w : World) : Calls Try.prog 33 #[.agg #[.int .i64 5, .int .u32 1023]] w fun r w' => (∃ a cap, r = .returned (.tuple #[.slice a 10 cap, .int .i64 0])) ∧ Below w.heap.size w w' :=
  ipairs_len w 5 1023 _ v_full5 (by decide +kernel)
theorem b_cycle5 (w : World) : Calls Try.prog 30 #[.int .i64 5] w fun r w' => r = .returned (.tuple #[.agg #[.int .i64 5, .int .u32 613], .int .i64 0]) ∧ Below w.heap.size w w' := by
  have h := cycle_in w 5 (by omega) (by omega)
  rw [show cycleE 5 = 613 from by decide +kernel] at h
  exact h
theorem v_cycle5 : VG (5 : Nat) (613 : Nat) := by unfold VG eMax; simp
theorem l_cycle5 (w : World) : Calls Try.prog 33 #[.agg #[.int .i64 5, .int .u32 613]] w fun r w' => (∃ a cap, r = .returned (.tuple #[.slice a 5 cap, .int .i64 0])) ∧ Below w.heap.size w w' :=
  ipairs_len w 5 613 _ v_cycle5 (by decide +kernel)
theorem b_path5 (w : World) : Calls Try.prog 31 #[.int .i64 5] w fun r w' => r = .returned (.tuple #[.agg #[.int .i64 5, .int .u32 549], .int .i64 0]) ∧ Below w.heap.size w w' := by
  have h := path_in w 5 (by omega)
  rw [show pathE 5 = 549 from by decide +kernel] at h
  exact h
theorem v_path5 : VG (5 : Nat) (549 : Nat) := by unfold VG eMax; simp
theorem l_path5 (w : World) : Calls Try.prog 33 #[.agg #[.int .i64 5, .int .u32 549]] w fun r w' => (∃ a cap, r = .returned (.tuple #[.slice a 4 cap, .int .i64 0])) ∧ Below w.heap.size w w' :=
  ipairs_len w 5 549 _ v_path5 (by decide +kernel)
theorem b_star5 (w : World) : Calls Try.prog 32 #[.int .i64 5] w fun r w' => r = .returned (.tuple #[.agg #[.int .i64 5, .int .u32 75], .int .i64 0]) ∧ Below w.heap.size w w' := by
  have h := star_in w 5 (by omega)
  rw [show starE 5 = 75 from by decide +kernel] at h
  exact h
theorem v_star5 : VG (5 : Nat) (75 : Nat) := by unfold VG eMax; simp
theorem l_star5 (w : World) : Calls Try.prog 33 #[.agg #[.int .i64 5, .int .u32 75]] w fun r w' => (∃ a cap, r = .returned (.tuple #[.slice a 4 cap, .int .i64 0])) ∧ Below w.heap.size w w' :=
  ipairs_len w 5 75 _ v_star5 (by decide +kernel)
theorem c_cycle5 (w : World) : Calls Try.prog 20 #[.agg #[.int .i64 5, .int .u32 613]] w fun r w' => r = .returned (.tuple #[.int .i64 10, .int .i64 0]) ∧ Below w.heap.size w w' := by
  have h := ics_ok w 5 613 v_cycle5
  rw [show cntE 613 (lists 5 5) = 10 from by decide +kernel] at h
  exact h
theorem c_full5 (w : World) : Calls Try.prog 20 #[.agg #[.int .i64 5, .int .u32 1023]] w fun r w' => r = .returned (.tuple #[.int .i64 120, .int .i64 0]) ∧ Below w.heap.size w w' := by
  have h := ics_ok w 5 1023 v_full5
  rw [show cntE 1023 (lists 5 5) = 120 from by decide +kernel] at h
  exact h
theorem h_in5 (w : World) : Calls Try.prog 24 #[.agg #[.int .i64 5, .int .u32 613], .agg #[.int .i64 5, .int .u32 549]] w fun r w' => r = .returned (.tuple #[.bool true, .int .i64 0]) ∧ Below w.heap.size w w' := by
  have h := ipart_ok w 5 613 5 549 v_cycle5 v_path5
  rw [show partB 5 613 5 549 = true from by decide +kernel] at h
  exact h
theorem h_not5 (w : World) : Calls Try.prog 24 #[.agg #[.int .i64 5, .int .u32 549], .agg #[.int .i64 5, .int .u32 613]] w fun r w' => r = .returned (.tuple #[.bool false, .int .i64 0]) ∧ Below w.heap.size w w' := by
  have h := ipart_ok w 5 549 5 613 v_path5 v_cycle5
  rw [show partB 5 549 5 613 = false from by decide +kernel] at h
  exact h
end Go.Proofs.Ytoiepgdjknpjiaa
