/-
  CONTRACTS: the bit of a pair, which numbers are a pair of vertices, whether two are joined: the program's words and the model's.
-/
import Derived.Test.YtncbimbbkealmaaGreatDoorValid
namespace Go.Proofs.YtncbimbbkealmaaGreatDoor
open Go.RowKit
set_option maxRecDepth 100000

/-- the place of a pair's bit -/
def pp (i j : Nat) : Nat := pc (max i j) + min i j
def pb (i j : Nat) : Nat := 2 ^ pp i j
def jn (e i j : Nat) : Bool := e.testBit (pp i j)

theorem pp_le (i j : Nat) (hi : i ≤ 4) (hj : j ≤ 4) : pp i j ≤ 10 := by
  unfold pp
  have h1 : i = 0 ∨ i = 1 ∨ i = 2 ∨ i = 3 ∨ i = 4 := by omega
  have h2 : j = 0 ∨ j = 1 ∨ j = 2 ∨ j = 3 ∨ j = 4 := by omega
  rcases h1 with rfl | rfl | rfl | rfl | rfl <;> rcases h2 with rfl | rfl | rfl | rfl | rfl <;> decide
theorem pp_comm (i j : Nat) : pp i j = pp j i := by unfold pp; rw [Nat.max_comm, Nat.min_comm]
theorem pb_le (i j : Nat) (hi : i ≤ 4) (hj : j ≤ 4) : pb i j ≤ 1024 := Nat.pow_le_pow_right (n := 2) (by omega) (pp_le i j hi hj)
theorem and_pb (e i j : Nat) (he : e < 4294967296) (hi : i ≤ 4) (hj : j ≤ 4) : (bits .and .u32 (e : Int) (pb i j : Int) != 0) = jn e i j := by
  have h1 := pb_le i j hi hj
  rw [u32_and_nat e _ he (by omega)]
  unfold pb jn
  rw [nat_bit, Nat.testBit_eq_decide_div_mod_eq]
  have hp := Nat.pow_pos (n := pp i j) (show 0 < 2 by omega)
  have hm : e / 2 ^ pp i j % 2 = 0 ∨ e / 2 ^ pp i j % 2 = 1 := by omega
  rcases hm with h | h
  · rw [h]; simp
  · rw [h, Bool.eq_iff_iff, bne_iff_ne, decide_eq_true_iff]
    exact ⟨fun _ => rfl, fun _ c => by omega⟩

section
variable (w : World)

theorem pbit_any (i j : Nat) (hi : i ≤ 4) (hj : j ≤ 4) :
    Calls Tryz.prog 97 #[.int .i64 i, .int .i64 j] w fun e w' => e = .returned (.int .u32 (pb i j)) ∧ w = w' := by
  have h1 : i = 0 ∨ i = 1 ∨ i = 2 ∨ i = 3 ∨ i = 4 := by omega
  have h2 : j = 0 ∨ j = 1 ∨ j = 2 ∨ j = 3 ∨ j = 4 := by omega
  rcases h1 with rfl | rfl | rfl | rfl | rfl
  all_goals
    rcases h2 with rfl | rfl | rfl | rfl | rfl
    all_goals
      go_enter Tryz.func97, Tryz.ntmps97
      go_wp2
      go_ret
      exact ⟨rfl, rfl⟩

theorem sbit_lt (i j : Nat) (hj : j ≤ 4) (h : i ≤ j) :
    Calls Tryz.prog 78 #[.int .i64 i, .int .i64 j] w fun e w' => e = .returned (.int .u32 (pb i j)) ∧ w = w' := by
  have h1 : j = 0 ∨ j = 1 ∨ j = 2 ∨ j = 3 ∨ j = 4 := by omega
  rcases h1 with rfl | rfl | rfl | rfl | rfl
  all_goals
    have h2 : i = 0 ∨ i = 1 ∨ i = 2 ∨ i = 3 ∨ i = 4 := by omega
    rcases h2 with rfl | rfl | rfl | rfl | rfl
    all_goals first
      | (exfalso; omega)
      | (clear h
         go_enter Tryz.func78, Tryz.ntmps78
         go_wp2
         go_ret
         exact ⟨rfl, rfl⟩)
theorem sbit_any (i j : Nat) (hi : i ≤ 4) (hj : j ≤ 4) :
    Calls Tryz.prog 78 #[.int .i64 i, .int .i64 j] w fun e w' => e = .returned (.int .u32 (pb i j)) ∧ w = w' := by
  by_cases h : i ≤ j
  · exact sbit_lt w i j hj h
  · have e1 : pb i j = pb j i := by unfold pb; rw [pp_comm]
    rw [e1]
    have hd : decide ((j : Int) < (i : Int)) = true := by simp; omega
    clear e1
    go_enter Tryz.func78, Tryz.ntmps78
    go_wp2_with (go_at_call 78; refine (sbit_lt _ j i hi (by omega)).mono ?_; rintro e w' ⟨rfl, rfl⟩)
    go_ret
    exact ⟨rfl, rfl⟩
theorem pbit_int (a b : Int) (i j : Nat) (ha : a = i) (hb : b = j) (hi : i ≤ 4) (hj : j ≤ 4) :
    Calls Tryz.prog 97 #[.int .i64 a, .int .i64 b] w fun e w' => e = .returned (.int .u32 (pb i j)) ∧ w = w' := by
  subst ha hb
  exact pbit_any w i j hi hj
theorem sbit_int (a b : Int) (i j : Nat) (ha : a = i) (hb : b = j) (hi : i ≤ 4) (hj : j ≤ 4) :
    Calls Tryz.prog 78 #[.int .i64 a, .int .i64 b] w fun e w' => e = .returned (.int .u32 (pb i j)) ∧ w = w' := by
  subst ha hb
  exact sbit_any w i j hi hj
end
end Go.Proofs.YtncbimbbkealmaaGreatDoor
