/-
  CONTRACTS: which numbers are two different vertices, and whether two are joined, for any numbers; HasEdge of both.
-/
import Derived.Test.YtkmlgoklmmbmjaaDoorEdge
import Derived.Lib.Hide
namespace Go.Proofs.YtkmlgoklmmbmjaaDoor
open Go.RowKit
set_option maxRecDepth 100000

def IsP (n i j : Int) : Prop := 0 ≤ i ∧ i < n ∧ 0 ≤ j ∧ j < n ∧ i ≠ j

section
variable (w : World)

theorem ip_t (n i j : Int) (h : IsP n i j) :
    Calls Tryd.prog 84 #[.int .i64 n, .int .i64 i, .int .i64 j] w fun e w' => e = .returned (.bool true) ∧ w = w' := by
  obtain ⟨a, b, c, d, hne⟩ := h
  have hd : (i != j) = true := by simpa using hne
  clear hne
  go_enter Tryd.func84, Tryd.ntmps84
  go_wp2
  go_ret
  exact ⟨rfl, rfl⟩
theorem ip_f (n i j : Int) (h : ¬ IsP n i j) :
    Calls Tryd.prog 84 #[.int .i64 n, .int .i64 i, .int .i64 j] w fun e w' => e = .returned (.bool false) ∧ w = w' := by
  by_cases a : 0 ≤ i
  · by_cases b : i < n
    · by_cases c : 0 ≤ j
      · by_cases d : j < n
        · obtain rfl : i = j := by
            by_cases e : i = j
            · exact e
            · exact absurd ⟨a, b, c, d, e⟩ h
          clear h
          go_enter Tryd.func84, Tryd.ntmps84
          go_wp2
          go_ret
          exact ⟨rfl, rfl⟩
        · have hd := decide_eq_false d
          clear h
          go_enter Tryd.func84, Tryd.ntmps84
          go_wp2
          go_ret
          exact ⟨rfl, rfl⟩
      · have hd := decide_eq_false c
        clear h
        go_enter Tryd.func84, Tryd.ntmps84
        go_wp2
        go_ret
        exact ⟨rfl, rfl⟩
    · have hd := decide_eq_false b
      clear h
      go_enter Tryd.func84, Tryd.ntmps84
      go_wp2
      go_ret
      exact ⟨rfl, rfl⟩
  · have hd := decide_eq_false a
    clear h
    go_enter Tryd.func84, Tryd.ntmps84
    go_wp2
    go_ret
    exact ⟨rfl, rfl⟩

theorem sp_t (n i j : Int) (h : IsP n i j) (hn : n ≤ 5) :
    Calls Tryd.prog 43 #[.int .i64 n, .int .i64 i, .int .i64 j] w fun e w' => e = .returned (.bool true) ∧ w = w' := by
  obtain ⟨a, b, c, d, hne⟩ := h
  have hd : (i != j) = true := by simpa using hne
  clear hne
  go_enter Tryd.func43, Tryd.ntmps43
  go_wp2_with (go_at_call 50; refine (in_t _ _ _ _ (by omega) (by omega)).mono ?_; rintro e w' ⟨rfl, rfl⟩)
  go_ret
  exact ⟨rfl, rfl⟩
theorem sp_f (n i j : Int) (h : ¬ IsP n i j) (hn : n ≤ 5) (h0 : 0 ≤ n) :
    Calls Tryd.prog 43 #[.int .i64 n, .int .i64 i, .int .i64 j] w fun e w' => e = .returned (.bool false) ∧ w = w' := by
  by_cases ha : 0 ≤ i ∧ i < n
  · obtain ⟨a, b⟩ := ha
    by_cases hb : 0 ≤ j ∧ j < n
    · obtain ⟨c, d⟩ := hb
      obtain rfl : i = j := by
        by_cases e : i = j
        · exact e
        · exact absurd ⟨a, b, c, d, e⟩ h
      clear h
      go_enter Tryd.func43, Tryd.ntmps43
      go_wp2_with (go_at_call 50; refine (in_t _ _ _ _ (by omega) (by omega)).mono ?_; rintro e w' ⟨rfl, rfl⟩)
      go_ret
      exact ⟨rfl, rfl⟩
    · clear h
      have hx : j < 0 ∨ n - 1 < j := by omega
      clear hb
      go_enter Tryd.func43, Tryd.ntmps43
      go_wp2_with fail
      refine (in_t _ _ _ _ (by omega) (by omega)).mono ?_
      rintro e w' ⟨rfl, rfl⟩
      go_wp2_with fail
      refine (in_f _ _ _ _ hx).mono ?_
      rintro e w' ⟨rfl, rfl⟩
      go_wp2
      go_ret
      exact ⟨rfl, rfl⟩
  · clear h
    have hx : i < 0 ∨ n - 1 < i := by omega
    clear ha
    go_enter Tryd.func43, Tryd.ntmps43
    go_wp2_with (go_at_call 50; refine (in_f _ _ _ _ hx).mono ?_; rintro e w' ⟨rfl, rfl⟩)
    go_ret
    exact ⟨rfl, rfl⟩

theorem joined_any (n e i j : Nat) (he : e < 4294967296) (hi : i ≤ 4) (hj : j ≤ 4) :
    Calls Tryd.prog 65 #[.agg #[.int .i64 n, .int .u32 e], .int .i64 i, .int .i64 j] w fun r w' => r = .returned (.bool (jn e i j)) ∧ Below w.heap.size w w' := by
  have hx := and_pb e i j he hi hj
  have hl := pb_le i j hi hj
  have hg : ∃ b, b = jn e i j := ⟨_, rfl⟩
  obtain ⟨b, hb⟩ := hg
  rw [← hb] at hx ⊢
  clear hb
  go_enter Tryd.func65, Tryd.ntmps65
  go_wp2
  go_quiet ((go_at_call 83; exact quiet_eq (pbit_any _ i j hi hj)))
  go_wp2
  go_ret
  exact ⟨rfl, by (repeat (first | exact Below.refl _ _ | assumption | refine bchain (by assumption) ?_ | refine balloc ?_ _ | apply Below.drew | apply below_drewN | (refine Below.alloc ?_ (by (try simp) <;> omega) _) | (refine Below.setCell ?_ (by (try simp) <;> omega) _)))⟩
theorem sjoined_any (n e i j : Nat) (he : e < 4294967296) (hi : i ≤ 4) (hj : j ≤ 4) (hne : i ≠ j) :
    Calls Tryd.prog 60 #[.agg #[.int .i64 n, .int .u32 e], .int .i64 i, .int .i64 j] w fun r w' => r = .returned (.bool (jn e i j)) ∧ Below w.heap.size w w' := by
  have hx := and_pb e i j he hi hj
  have hl := pb_le i j hi hj
  have hg : ∃ b, b = jn e i j := ⟨_, rfl⟩
  obtain ⟨b, hb⟩ := hg
  rw [← hb] at hx ⊢
  clear hb
  have hd : ((i : Int) == (j : Int)) = false := by simp; omega
  have hd2 : ((i : Int) != (j : Int)) = true := by simp; omega
  go_enter Tryd.func60, Tryd.ntmps60
  go_wp2
  go_quiet ((go_at_call 44; exact quiet_eq (sbit_any _ i j hi hj)))
  go_wp2
  go_ret
  exact ⟨rfl, by (repeat (first | exact Below.refl _ _ | assumption | refine bchain (by assumption) ?_ | refine balloc ?_ _ | apply Below.drew | apply below_drewN | (refine Below.alloc ?_ (by (try simp) <;> omega) _) | (refine Below.setCell ?_ (by (try simp) <;> omega) _)))⟩
end
end Go.Proofs.YtkmlgoklmmbmjaaDoor
