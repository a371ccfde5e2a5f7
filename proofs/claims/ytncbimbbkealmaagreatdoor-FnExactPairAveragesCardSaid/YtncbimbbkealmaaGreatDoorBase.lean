/-
  CONTRACTS OF THE SMALL FUNCTIONS ON GRAPHS: numbers in a range, how many pairs there are, which graphs are valid, a graph of the laws' own as the program's. 'VG n e': n vertices and the bits e are a valid graph.
-/
import Derived.Test.YtncbimbbkealmaaGreatDoorProg
import Derived.WalkKit
import Derived.Laws.BitsAllLaws
import Derived.Deep.QuietTactic
import Derived.BigQuiet
import Derived.Below
namespace Go.Proofs.YtncbimbbkealmaaGreatDoor
open Go.RowKit
set_option maxRecDepth 100000

/-- how many sets of pairs n vertices have -/
def eMax : Nat → Nat | 0 => 1 | 1 => 1 | 2 => 2 | 3 => 8 | 4 => 64 | 5 => 1024 | _ => 0
def VG (n e : Int) : Prop := 0 ≤ n ∧ n ≤ 5 ∧ 0 ≤ e ∧ e < (eMax n.toNat : Nat)

theorem eMax_le (k : Nat) : eMax k ≤ 1024 := by unfold eMax; split <;> omega

theorem andNot_mask (i : Nat) (hi : i ≤ 10) (e : Int) (h0 : 0 ≤ e) (h1 : e < 4294967296) : (bits .andNot .u32 e ((2 ^ i - 1 : Nat) : Int) == 0) = decide (e < ((2 ^ i : Nat) : Int)) := by
  have hp : 2 ^ i ≤ 2 ^ 10 := Nat.pow_le_pow_right (by omega) hi
  have hp1 : 0 < 2 ^ i := Nat.pow_pos (by omega)
  rw [u32_andNot e _ h0 h1 (by omega) (by omega)]
  have hn : e.toNat < 2 ^ 32 := by omega
  generalize hE : e.toNat = E at hn
  have hk : ((2 ^ i - 1 : Nat) : Int).toNat = 2 ^ i - 1 := by omega
  rw [hk]
  have key : E &&& (4294967295 - (2 ^ i - 1)) = 2 ^ i * (E / 2 ^ i) := by
    have e1 : 4294967295 - (2 ^ i - 1) = 2 ^ i * (2 ^ (32 - i) - 1) := by
      rw [Nat.mul_sub, ← Nat.pow_add, show i + (32 - i) = 32 by omega]; omega
    have hb : E / 2 ^ i < 2 ^ (32 - i) := by
      rw [Nat.div_lt_iff_lt_mul hp1, ← Nat.pow_add, show 32 - i + i = 32 by omega]; exact hn
    apply Nat.eq_of_testBit_eq
    intro j
    rw [Nat.testBit_and, e1, Nat.testBit_two_pow_mul, Nat.testBit_two_pow_mul, Nat.testBit_two_pow_sub_one, Nat.testBit_div_two_pow]
    by_cases hj : i ≤ j
    · rw [show j - i + i = j by omega]
      simp only [hj, decide_true, Bool.true_and]
      by_cases hj2 : j - i < 32 - i
      · simp [hj2]
      · have : E.testBit j = false := Nat.testBit_lt_two_pow (Nat.lt_of_lt_of_le hn (Nat.pow_le_pow_right (by omega) (by omega)))
        simp [this]
    · simp [hj]
  rw [key]
  have h2 : (e < ((2 ^ i : Nat) : Int)) ↔ E / 2 ^ i = 0 := by
    rw [Nat.div_eq_zero_iff]; omega
  rw [Bool.eq_iff_iff, beq_iff_eq, decide_eq_true_iff, h2]
  constructor
  · intro h
    rcases Nat.mul_eq_zero.1 (show 2 ^ i * (E / 2 ^ i) = 0 from Int.ofNat.inj h) with h3 | h3
    · omega
    · exact h3
  · intro h
    rw [h]
    rfl

/-- a callee that leaves the world alone, met in a region that draws its order -/
theorem quiet_eq {P : Program} {f : FuncId} {args : Array Value} {w : World} {n : Nat} {v : Value}
    (h : Calls P f args (w.drewN n) fun e w' => e = .returned v ∧ w.drewN n = w') : Calls P f args (w.drewN n) fun e w'' => e = .returned v ∧ ∃ m, w'' = w.drewN m :=
  h.mono fun _ _ ⟨he, hm⟩ => ⟨he, n, hm.symm⟩
theorem below_drewN {B : Nat} {a w : World} (h : Below B a w) (n : Nat) : Below B a (w.drewN n) := ⟨h.os, h.tape, h.output, h.size, h.block⟩

/-- an old block behind a call that only makes new ones: its cells, its marks, and that it is still old -/
theorem bkeep {W w1 : World} (hb : Below W.heap.size W w1) (b : Nat) (h : b < W.heap.size) :
    (∀ o, w1.cell? ⟨b, o, none⟩ = W.cell? ⟨b, o, none⟩) ∧ b < w1.heap.size :=
  ⟨fun o => hb.cell (p := ⟨b, o, none⟩) h, Nat.lt_of_lt_of_le h hb.size⟩

theorem bkeepz {W w1 : World} (hb : Below W.heap.size W w1) (b : Nat) (h : b < W.heap.size) : ∀ o, w1.frozen? ⟨b, o, none⟩ = W.frozen? ⟨b, o, none⟩ :=
  fun o => hb.frozen (p := ⟨b, o, none⟩) h
theorem cellHit {w : World} {a : Addr} {u v : Value} (h : w.cell? a = some u) : (w.setCell a v).drew.cell? a = some v := World.cell?_setCell_same w a v h
theorem cellMiss {w : World} {a b : Addr} {u v : Value} (h : w.cell? b = some u) (hn : a ≠ b) : (w.setCell a v).drew.cell? b = some u := (World.cell?_setCell_other w a b v hn).trans h
/-- a struct of two cells, stored over another one -/
theorem twoCells {w : World} {B : Nat} {a b : Value} (h0 : w.cell? ⟨B, 0, none⟩ = some a) (h1 : w.cell? ⟨B, 1, none⟩ = some b) (x y : Value) :
    ((w.setCell ⟨B, 0, none⟩ x).setCell ⟨B, 1, none⟩ y).cell? ⟨B, 0, none⟩ = some x ∧ ((w.setCell ⟨B, 0, none⟩ x).setCell ⟨B, 1, none⟩ y).cell? ⟨B, 1, none⟩ = some y :=
  ⟨(World.cell?_setCell_other _ _ _ _ (by simp)).trans (World.cell?_setCell_same _ _ _ h0), World.cell?_setCell_same _ _ _ ((World.cell?_setCell_other _ _ _ _ (by simp)).trans h1)⟩
/-- .. and a new block behind it -/
theorem twoCellsA {w : World} {B : Nat} {a b : Value} (hB : B < w.heap.size) (h0 : w.cell? ⟨B, 0, none⟩ = some a) (h1 : w.cell? ⟨B, 1, none⟩ = some b) (x y : Value) (O : Obj) :
    (((w.setCell ⟨B, 0, none⟩ x).setCell ⟨B, 1, none⟩ y).alloc O).cell? ⟨B, 0, none⟩ = some x ∧ (((w.setCell ⟨B, 0, none⟩ x).setCell ⟨B, 1, none⟩ y).alloc O).cell? ⟨B, 1, none⟩ = some y := by
  have h := twoCells h0 h1 x y
  have hs : ((w.setCell ⟨B, 0, none⟩ x).setCell ⟨B, 1, none⟩ y).heap.size = w.heap.size := by simp
  exact ⟨(World.cell?_alloc_old _ _ _ (by show B ≠ _; omega)).trans h.1, (World.cell?_alloc_old _ _ _ (by show B ≠ _; omega)).trans h.2⟩
theorem balloc {w W : World} (h : Below w.heap.size w W) (O : Obj) : Below w.heap.size w (W.alloc O) := h.alloc h.size O
theorem bchain {w W W1 : World} (hb : Below W.heap.size W W1) (h : Below w.heap.size w W) : Below w.heap.size w W1 := h.trans (hb.mono h.size)

section
variable (w : World)

theorem in_t (n lo hi : Int) (h1 : lo ≤ n) (h2 : n ≤ hi) :
    Calls Tryz.prog 30 #[.int .i64 n, .int .i64 lo, .int .i64 hi] w fun e w' => e = .returned (.bool true) ∧ w = w' := by
  go_enter Tryz.func30, Tryz.ntmps30
  go_wp2
  go_ret
  exact ⟨rfl, rfl⟩
theorem in_f (n lo hi : Int) (h : n < lo ∨ hi < n) :
    Calls Tryz.prog 30 #[.int .i64 n, .int .i64 lo, .int .i64 hi] w fun e w' => e = .returned (.bool false) ∧ w = w' := by
  rcases h with h | h
  · have hd : decide (lo ≤ n) = false := by simp; omega
    go_enter Tryz.func30, Tryz.ntmps30
    go_wp2
    go_ret
    exact ⟨rfl, rfl⟩
  · have hd : decide (n ≤ hi) = false := by simp; omega
    by_cases hl : lo ≤ n
    · go_enter Tryz.func30, Tryz.ntmps30
      go_wp2
      go_ret
      exact ⟨rfl, rfl⟩
    · have hd2 : decide (lo ≤ n) = false := by simp; omega
      go_enter Tryz.func30, Tryz.ntmps30
      go_wp2
      go_ret
      exact ⟨rfl, rfl⟩
theorem vc_t (n : Int) (h1 : 0 ≤ n) (h2 : n ≤ 5) :
    Calls Tryz.prog 42 #[.int .i64 n] w fun e w' => e = .returned (.bool true) ∧ w = w' := by
  go_enter Tryz.func42, Tryz.ntmps42
  go_wp2
  go_ret
  exact ⟨rfl, rfl⟩
theorem vc_f (n : Int) (h : n < 0 ∨ 5 < n) :
    Calls Tryz.prog 42 #[.int .i64 n] w fun e w' => e = .returned (.bool false) ∧ w = w' := by
  rcases h with h | h
  · have hd : decide (0 ≤ n) = false := by simp; omega
    go_enter Tryz.func42, Tryz.ntmps42
    go_wp2
    go_ret
    exact ⟨rfl, rfl⟩
  · have hd : decide (n ≤ 5) = false := by simp; omega
    go_enter Tryz.func42, Tryz.ntmps42
    go_wp2
    go_ret
    exact ⟨rfl, rfl⟩
/-- how many pairs n vertices have -/
def pc : Nat → Nat | 0 => 0 | 1 => 0 | 2 => 1 | 3 => 3 | 4 => 6 | 5 => 10 | _ => 0
theorem pc_any (k : Nat) (h : k ≤ 5) :
    Calls Tryz.prog 66 #[.int .i64 k] w fun e w' => e = .returned (.int .i64 (pc k)) ∧ w = w' := by
  have hc : k = 0 ∨ k = 1 ∨ k = 2 ∨ k = 3 ∨ k = 4 ∨ k = 5 := by omega
  rcases hc with rfl | rfl | rfl | rfl | rfl | rfl
  all_goals
    go_enter Tryz.func66, Tryz.ntmps66
    go_wp2
    go_ret
    exact ⟨rfl, rfl⟩
theorem bits_any (k : Nat) (h : k ≤ 5) :
    Calls Tryz.prog 31 #[.int .i64 k] w fun e w' => e = .returned (.int .i64 (pc k)) ∧ w = w' := by
  have hc : k = 0 ∨ k = 1 ∨ k = 2 ∨ k = 3 ∨ k = 4 ∨ k = 5 := by omega
  rcases hc with rfl | rfl | rfl | rfl | rfl | rfl
  all_goals
    go_enter Tryz.func31, Tryz.ntmps31
    go_wp2
    go_ret
    exact ⟨rfl, rfl⟩
theorem ae_any (k : Nat) (h : k ≤ 5) :
    Calls Tryz.prog 43 #[.int .i64 k] w fun e w' => e = .returned (.int .u32 ((eMax k - 1 : Nat) : Int)) ∧ w = w' := by
  have hc : k = 0 ∨ k = 1 ∨ k = 2 ∨ k = 3 ∨ k = 4 ∨ k = 5 := by omega
  rcases hc with rfl | rfl | rfl | rfl | rfl | rfl
  all_goals
    go_enter Tryz.func43, Tryz.ntmps43
    go_wp2
    go_ret
    exact ⟨rfl, rfl⟩
end
end Go.Proofs.YtncbimbbkealmaaGreatDoor
