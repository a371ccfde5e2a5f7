/-
  PROVED: whatever bytes are drawn from, complete graphs, cycles, paths and stars of the program have as many edges as they should, and the orders and parts that they should. Conditions: none.
-/
import Derived.Test.YtoiepgdjknpjiaaBytes
import Derived.Test.YtoiepgdjknpjiaaBuilt
namespace Go.Proofs.Ytoiepgdjknpjiaa
open Go.ChangeShapes Go.WideShapes Go.ChangeAt Go.RowKit
set_option maxRecDepth 100000

namespace BuiltLaw
theorem walk_long (v : Value) (l : Nat) (w : World) (h : SlB w v l) (hl : 3000 < l) :
    Calls Try.prog 5 #[v] w fun r w' => r = .returned (.bool true) ∧ Below w.heap.size w w' := by
  obtain ⟨a, cap, rfl, _⟩ := h
  go_enter Try.func5, Try.ntmps5
  go_wp2_with fail
  refine (long_t _ a a l cap l cap hl).mono ?_
  rintro r1 w1 ⟨rfl, rfl⟩
  go_wp2
  go_ret
  exact ⟨rfl, by (repeat (first | exact Below.refl _ _ | assumption | refine bchain (by assumption) ?_ | refine balloc ?_ _ | apply Below.drew | apply below_drewN | (refine Below.alloc ?_ (by (try simp) <;> omega) _) | (refine Below.setCell ?_ (by (try simp) <;> omega) _)))⟩
set_option maxHeartbeats 4000000 in
theorem walk3 (v : Value) (l : Nat) (w : World) (h : SlB w v l) (hl : l ≤ 3000) (hq : Calls Try.prog 12 #[v, .int .i64 0, .int .i64 3] w fun r w' => r = .returned (.int .i64 0) ∧ w = w') :
    Calls Try.prog 5 #[v] w fun r w' => r = .returned (.bool true) ∧ Below w.heap.size w w' := by
  obtain ⟨a, cap, rfl, _⟩ := h
  replace hq := Lib.hid hq
  go_enter Try.func5, Try.ntmps5
  go_wp2_with fail
  refine (long_f _ a a l cap l cap hl hl).mono ?_
  rintro r0 w0 ⟨rfl, rfl⟩
  go_wp2_with fail
  refine (hq.out).mono ?_
  rintro r0 w0 ⟨rfl, rfl⟩
  go_wp2_with fail
  refine (b_full3 _).mono ?_
  rintro r1 w1 ⟨rfl, hb1⟩
  go_wp2_with fail
  refine (b_cycle3 _).mono ?_
  rintro r2 w2 ⟨rfl, hb2⟩
  obtain ⟨hc2_0, hz2_0⟩ := bkeep hb2 (w1.heap.size) (by (try simp) <;> omega)
  go_wp2_with fail
  refine (b_path3 _).mono ?_
  rintro r3 w3 ⟨rfl, hb3⟩
  obtain ⟨hc3_0, hz3_0⟩ := bkeep hb3 (w1.heap.size) (by (try simp) <;> omega)
  obtain ⟨hc3_1, hz3_1⟩ := bkeep hb3 (w2.heap.size) (by (try simp) <;> omega)
  go_wp2_with fail
  refine (b_star3 _).mono ?_
  rintro r4 w4 ⟨rfl, hb4⟩
  obtain ⟨hc4_0, hz4_0⟩ := bkeep hb4 (w1.heap.size) (by (try simp) <;> omega)
  obtain ⟨hc4_1, hz4_1⟩ := bkeep hb4 (w2.heap.size) (by (try simp) <;> omega)
  obtain ⟨hc4_2, hz4_2⟩ := bkeep hb4 (w3.heap.size) (by (try simp) <;> omega)
  go_wp2_with fail
  refine (l_full3 _).mono ?_
  rintro r5 w5 ⟨⟨a5, cap5, rfl⟩, hb5⟩
  obtain ⟨hc5_0, hz5_0⟩ := bkeep hb5 (w1.heap.size) (by (try simp) <;> omega)
  obtain ⟨hc5_1, hz5_1⟩ := bkeep hb5 (w2.heap.size) (by (try simp) <;> omega)
  obtain ⟨hc5_2, hz5_2⟩ := bkeep hb5 (w3.heap.size) (by (try simp) <;> omega)
  obtain ⟨hc5_3, hz5_3⟩ := bkeep hb5 (w4.heap.size) (by (try simp) <;> omega)
  go_wp2_with fail
  refine (l_cycle3 _).mono ?_
  rintro r6 w6 ⟨⟨a6, cap6, rfl⟩, hb6⟩
  obtain ⟨hc6_0, hz6_0⟩ := bkeep hb6 (w1.heap.size) (by (try simp) <;> omega)
  obtain ⟨hc6_1, hz6_1⟩ := bkeep hb6 (w2.heap.size) (by (try simp) <;> omega)
  obtain ⟨hc6_2, hz6_2⟩ := bkeep hb6 (w3.heap.size) (by (try simp) <;> omega)
  obtain ⟨hc6_3, hz6_3⟩ := bkeep hb6 (w4.heap.size) (by (try simp) <;> omega)
  go_wp2_with fail
  refine (l_path3 _).mono ?_
  rintro r7 w7 ⟨⟨a7, cap7, rfl⟩, hb7⟩
  obtain ⟨hc7_0, hz7_0⟩ := bkeep hb7 (w1.heap.size) (by (try simp) <;> omega)
  obtain ⟨hc7_1, hz7_1⟩ := bkeep hb7 (w2.heap.size) (by (try simp) <;> omega)
  obtain ⟨hc7_2, hz7_2⟩ := bkeep hb7 (w3.heap.size) (by (try simp) <;> omega)
  obtain ⟨hc7_3, hz7_3⟩ := bkeep hb7 (w4.heap.size) (by (try simp) <;> omega)
  go_wp2_with fail
  refine (l_star3 _).mono ?_
  rintro r8 w8 ⟨⟨a8, cap8, rfl⟩, hb8⟩
  obtain ⟨hc8_0, hz8_0⟩ := bkeep hb8 (w1.heap.size) (by (try simp) <;> omega)
  obtain ⟨hc8_1, hz8_1⟩ := bkeep hb8 (w2.heap.size) (by (try simp) <;> omega)
  obtain ⟨hc8_2, hz8_2⟩ := bkeep hb8 (w3.heap.size) (by (try simp) <;> omega)
  go_wp2_with fail
  refine (c_cycle3 _).mono ?_
  rintro r9 w9 ⟨rfl, hb9⟩
  obtain ⟨hc9_0, hz9_0⟩ := bkeep hb9 (w1.heap.size) (by (try simp) <;> omega)
  obtain ⟨hc9_1, hz9_1⟩ := bkeep hb9 (w2.heap.size) (by (try simp) <;> omega)
  obtain ⟨hc9_2, hz9_2⟩ := bkeep hb9 (w3.heap.size) (by (try simp) <;> omega)
  go_wp2_with fail
  refine (c_full3 _).mono ?_
  rintro r10 w10 ⟨rfl, hb10⟩
  obtain ⟨hc10_0, hz10_0⟩ := bkeep hb10 (w2.heap.size) (by (try simp) <;> omega)
  obtain ⟨hc10_1, hz10_1⟩ := bkeep hb10 (w3.heap.size) (by (try simp) <;> omega)
  go_wp2_with fail
  refine (h_in3 _).mono ?_
  rintro r11 w11 ⟨rfl, hb11⟩
  obtain ⟨hc11_0, hz11_0⟩ := bkeep hb11 (w2.heap.size) (by (try simp) <;> omega)
  obtain ⟨hc11_1, hz11_1⟩ := bkeep hb11 (w3.heap.size) (by (try simp) <;> omega)
  go_wp2_with fail
  refine (h_not3 _).mono ?_
  rintro r12 w12 ⟨rfl, hb12⟩
  go_wp2
  go_loop [28, 29] (fun p i => (p = .int .i64 1 ∧ i = .int .i64 2) ∨ (p = .int .i64 2 ∧ i = .int .i64 3) ∨ (p = .int .i64 6 ∧ i = .int .i64 4)) (fun _ i => 5 - (intOf i).toNat)
  case atStart => exact .inl ⟨rfl, rfl⟩
  case round =>
    rcases hrel with ⟨rfl, rfl⟩ | ⟨rfl, rfl⟩ | ⟨rfl, rfl⟩
    · go_wp2
      go_round
      case rel => exact .inr (.inl ⟨rfl, rfl⟩)
      case measure => simp [intOf]
    · go_wp2
      go_round
      case rel => exact .inr (.inr (⟨rfl, rfl⟩))
      case measure => simp [intOf]
    · go_wp2
      go_ret
      exact ⟨rfl, by (repeat (first | exact Below.refl _ _ | assumption | refine bchain (by assumption) ?_ | refine balloc ?_ _ | apply Below.drew | apply below_drewN | (refine Below.alloc ?_ (by (try simp) <;> omega) _) | (refine Below.setCell ?_ (by (try simp) <;> omega) _)))⟩
set_option maxHeartbeats 4000000 in
theorem walk4 (v : Value) (l : Nat) (w : World) (h : SlB w v l) (hl : l ≤ 3000) (hq : Calls Try.prog 12 #[v, .int .i64 0, .int .i64 3] w fun r w' => r = .returned (.int .i64 1) ∧ w = w') :
    Calls Try.prog 5 #[v] w fun r w' => r = .returned (.bool true) ∧ Below w.heap.size w w' := by
  obtain ⟨a, cap, rfl, _⟩ := h
  replace hq := Lib.hid hq
  go_enter Try.func5, Try.ntmps5
  go_wp2_with fail
  refine (long_f _ a a l cap l cap hl hl).mono ?_
  rintro r0 w0 ⟨rfl, rfl⟩
  go_wp2_with fail
  refine (hq.out).mono ?_
  rintro r0 w0 ⟨rfl, rfl⟩
  go_wp2_with fail
  refine (b_full4 _).mono ?_
  rintro r1 w1 ⟨rfl, hb1⟩
  go_wp2_with fail
  refine (b_cycle4 _).mono ?_
  rintro r2 w2 ⟨rfl, hb2⟩
  obtain ⟨hc2_0, hz2_0⟩ := bkeep hb2 (w1.heap.size) (by (try simp) <;> omega)
  go_wp2_with fail
  refine (b_path4 _).mono ?_
  rintro r3 w3 ⟨rfl, hb3⟩
  obtain ⟨hc3_0, hz3_0⟩ := bkeep hb3 (w1.heap.size) (by (try simp) <;> omega)
  obtain ⟨hc3_1, hz3_1⟩ := bkeep hb3 (w2.heap.size) (by (try simp) <;> omega)
  go_wp2_with fail
  refine (b_star4 _).mono ?_
  rintro r4 w4 ⟨rfl, hb4⟩
  obtain ⟨hc4_0, hz4_0⟩ := bkeep hb4 (w1.heap.size) (by (try simp) <;> omega)
  obtain ⟨hc4_1, hz4_1⟩ := bkeep hb4 (w2.heap.size) (by (try simp) <;> omega)
  obtain ⟨hc4_2, hz4_2⟩ := bkeep hb4 (w3.heap.size) (by (try simp) <;> omega)
  go_wp2_with fail
  refine (l_full4 _).mono ?_
  rintro r5 w5 ⟨⟨a5, cap5, rfl⟩, hb5⟩
  obtain ⟨hc5_0, hz5_0⟩ := bkeep hb5 (w1.heap.size) (by (try simp) <;> omega)
  obtain ⟨hc5_1, hz5_1⟩ := bkeep hb5 (w2.heap.size) (by (try simp) <;> omega)
  obtain ⟨hc5_2, hz5_2⟩ := bkeep hb5 (w3.heap.size) (by (try simp) <;> omega)
  obtain ⟨hc5_3, hz5_3⟩ := bkeep hb5 (w4.heap.size) (by (try simp) <;> omega)
  go_wp2_with fail
  refine (l_cycle4 _).mono ?_
  rintro r6 w6 ⟨⟨a6, cap6, rfl⟩, hb6⟩
  obtain ⟨hc6_0, hz6_0⟩ := bkeep hb6 (w1.heap.size) (by (try simp) <;> omega)
  obtain ⟨hc6_1, hz6_1⟩ := bkeep hb6 (w2.heap.size) (by (try simp) <;> omega)
  obtain ⟨hc6_2, hz6_2⟩ := bkeep hb6 (w3.heap.size) (by (try simp) <;> omega)
  obtain ⟨hc6_3, hz6_3⟩ := bkeep hb6 (w4.heap.size) (by (try simp) <;> omega)
  go_wp2_with fail
  refine (l_path4 _).mono ?_
  rintro r7 w7 ⟨⟨a7, cap7, rfl⟩, hb7⟩
  obtain ⟨hc7_0, hz7_0⟩ := bkeep hb7 (w1.heap.size) (by (try simp) <;> omega)
  obtain ⟨hc7_1, hz7_1⟩ := bkeep hb7 (w2.heap.size) (by (try simp) <;> omega)
  obtain ⟨hc7_2, hz7_2⟩ := bkeep hb7 (w3.heap.size) (by (try simp) <;> omega)
  obtain ⟨hc7_3, hz7_3⟩ := bkeep hb7 (w4.heap.size) (by (try simp) <;> omega)
  go_wp2_with fail
  refine (l_star4 _).mono ?_
  rintro r8 w8 ⟨⟨a8, cap8, rfl⟩, hb8⟩
  obtain ⟨hc8_0, hz8_0⟩ := bkeep hb8 (w1.heap.size) (by (try simp) <;> omega)
  obtain ⟨hc8_1, hz8_1⟩ := bkeep hb8 (w2.heap.size) (by (try simp) <;> omega)
  obtain ⟨hc8_2, hz8_2⟩ := bkeep hb8 (w3.heap.size) (by (try simp) <;> omega)
  go_wp2_with fail
  refine (c_cycle4 _).mono ?_
  rintro r9 w9 ⟨rfl, hb9⟩
  obtain ⟨hc9_0, hz9_0⟩ := bkeep hb9 (w1.heap.size) (by (try simp) <;> omega)
  obtain ⟨hc9_1, hz9_1⟩ := bkeep hb9 (w2.heap.size) (by (try simp) <;> omega)
  obtain ⟨hc9_2, hz9_2⟩ := bkeep hb9 (w3.heap.size) (by (try simp) <;> omega)
  go_wp2_with fail
  refine (c_full4 _).mono ?_
  rintro r10 w10 ⟨rfl, hb10⟩
  obtain ⟨hc10_0, hz10_0⟩ := bkeep hb10 (w2.heap.size) (by (try simp) <;> omega)
  obtain ⟨hc10_1, hz10_1⟩ := bkeep hb10 (w3.heap.size) (by (try simp) <;> omega)
  go_wp2_with fail
  refine (h_in4 _).mono ?_
  rintro r11 w11 ⟨rfl, hb11⟩
  obtain ⟨hc11_0, hz11_0⟩ := bkeep hb11 (w2.heap.size) (by (try simp) <;> omega)
  obtain ⟨hc11_1, hz11_1⟩ := bkeep hb11 (w3.heap.size) (by (try simp) <;> omega)
  go_wp2_with fail
  refine (h_not4 _).mono ?_
  rintro r12 w12 ⟨rfl, hb12⟩
  go_wp2
  go_loop [28, 29] (fun p i => (p = .int .i64 1 ∧ i = .int .i64 2) ∨ (p = .int .i64 2 ∧ i = .int .i64 3) ∨ (p = .int .i64 6 ∧ i = .int .i64 4) ∨ (p = .int .i64 24 ∧ i = .int .i64 5)) (fun _ i => 6 - (intOf i).toNat)
  case atStart => exact .inl ⟨rfl, rfl⟩
  case round =>
    rcases hrel with ⟨rfl, rfl⟩ | ⟨rfl, rfl⟩ | ⟨rfl, rfl⟩ | ⟨rfl, rfl⟩
    · go_wp2
      go_round
      case rel => exact .inr (.inl ⟨rfl, rfl⟩)
      case measure => simp [intOf]
    · go_wp2
      go_round
      case rel => exact .inr (.inr (.inl ⟨rfl, rfl⟩))
      case measure => simp [intOf]
    · go_wp2
      go_round
      case rel => exact .inr (.inr (.inr (⟨rfl, rfl⟩)))
      case measure => simp [intOf]
    · go_wp2
      go_ret
      exact ⟨rfl, by (repeat (first | exact Below.refl _ _ | assumption | refine bchain (by assumption) ?_ | refine balloc ?_ _ | apply Below.drew | apply below_drewN | (refine Below.alloc ?_ (by (try simp) <;> omega) _) | (refine Below.setCell ?_ (by (try simp) <;> omega) _)))⟩
set_option maxHeartbeats 4000000 in
theorem walk5 (v : Value) (l : Nat) (w : World) (h : SlB w v l) (hl : l ≤ 3000) (hq : Calls Try.prog 12 #[v, .int .i64 0, .int .i64 3] w fun r w' => r = .returned (.int .i64 2) ∧ w = w') :
    Calls Try.prog 5 #[v] w fun r w' => r = .returned (.bool true) ∧ Below w.heap.size w w' := by
  obtain ⟨a, cap, rfl, _⟩ := h
  replace hq := Lib.hid hq
  go_enter Try.func5, Try.ntmps5
  go_wp2_with fail
  refine (long_f _ a a l cap l cap hl hl).mono ?_
  rintro r0 w0 ⟨rfl, rfl⟩
  go_wp2_with fail
  refine (hq.out).mono ?_
  rintro r0 w0 ⟨rfl, rfl⟩
  go_wp2_with fail
  refine (b_full5 _).mono ?_
  rintro r1 w1 ⟨rfl, hb1⟩
  go_wp2_with fail
  refine (b_cycle5 _).mono ?_
  rintro r2 w2 ⟨rfl, hb2⟩
  obtain ⟨hc2_0, hz2_0⟩ := bkeep hb2 (w1.heap.size) (by (try simp) <;> omega)
  go_wp2_with fail
  refine (b_path5 _).mono ?_
  rintro r3 w3 ⟨rfl, hb3⟩
  obtain ⟨hc3_0, hz3_0⟩ := bkeep hb3 (w1.heap.size) (by (try simp) <;> omega)
  obtain ⟨hc3_1, hz3_1⟩ := bkeep hb3 (w2.heap.size) (by (try simp) <;> omega)
  go_wp2_with fail
  refine (b_star5 _).mono ?_
  rintro r4 w4 ⟨rfl, hb4⟩
  obtain ⟨hc4_0, hz4_0⟩ := bkeep hb4 (w1.heap.size) (by (try simp) <;> omega)
  obtain ⟨hc4_1, hz4_1⟩ := bkeep hb4 (w2.heap.size) (by (try simp) <;> omega)
  obtain ⟨hc4_2, hz4_2⟩ := bkeep hb4 (w3.heap.size) (by (try simp) <;> omega)
  go_wp2_with fail
  refine (l_full5 _).mono ?_
  rintro r5 w5 ⟨⟨a5, cap5, rfl⟩, hb5⟩
  obtain ⟨hc5_0, hz5_0⟩ := bkeep hb5 (w1.heap.size) (by (try simp) <;> omega)
  obtain ⟨hc5_1, hz5_1⟩ := bkeep hb5 (w2.heap.size) (by (try simp) <;> omega)
  obtain ⟨hc5_2, hz5_2⟩ := bkeep hb5 (w3.heap.size) (by (try simp) <;> omega)
  obtain ⟨hc5_3, hz5_3⟩ := bkeep hb5 (w4.heap.size) (by (try simp) <;> omega)
  go_wp2_with fail
  refine (l_cycle5 _).mono ?_
  rintro r6 w6 ⟨⟨a6, cap6, rfl⟩, hb6⟩
  obtain ⟨hc6_0, hz6_0⟩ := bkeep hb6 (w1.heap.size) (by (try simp) <;> omega)
  obtain ⟨hc6_1, hz6_1⟩ := bkeep hb6 (w2.heap.size) (by (try simp) <;> omega)
  obtain ⟨hc6_2, hz6_2⟩ := bkeep hb6 (w3.heap.size) (by (try simp) <;> omega)
  obtain ⟨hc6_3, hz6_3⟩ := bkeep hb6 (w4.heap.size) (by (try simp) <;> omega)
  go_wp2_with fail
  refine (l_path5 _).mono ?_
  rintro r7 w7 ⟨⟨a7, cap7, rfl⟩, hb7⟩
  obtain ⟨hc7_0, hz7_0⟩ := bkeep hb7 (w1.heap.size) (by (try simp) <;> omega)
  obtain ⟨hc7_1, hz7_1⟩ := bkeep hb7 (w2.heap.size) (by (try simp) <;> omega)
  obtain ⟨hc7_2, hz7_2⟩ := bkeep hb7 (w3.heap.size) (by (try simp) <;> omega)
  obtain ⟨hc7_3, hz7_3⟩ := bkeep hb7 (w4.heap.size) (by (try simp) <;> omega)
  go_wp2_with fail
  refine (l_star5 _).mono ?_
  rintro r8 w8 ⟨⟨a8, cap8, rfl⟩, hb8⟩
  obtain ⟨hc8_0, hz8_0⟩ := bkeep hb8 (w1.heap.size) (by (try simp) <;> omega)
  obtain ⟨hc8_1, hz8_1⟩ := bkeep hb8 (w2.heap.size) (by (try simp) <;> omega)
  obtain ⟨hc8_2, hz8_2⟩ := bkeep hb8 (w3.heap.size) (by (try simp) <;> omega)
  go_wp2_with fail
  refine (c_cycle5 _).mono ?_
  rintro r9 w9 ⟨rfl, hb9⟩
  obtain ⟨hc9_0, hz9_0⟩ := bkeep hb9 (w1.heap.size) (by (try simp) <;> omega)
  obtain ⟨hc9_1, hz9_1⟩ := bkeep hb9 (w2.heap.size) (by (try simp) <;> omega)
  obtain ⟨hc9_2, hz9_2⟩ := bkeep hb9 (w3.heap.size) (by (try simp) <;> omega)
  go_wp2_with fail
  refine (c_full5 _).mono ?_
  rintro r10 w10 ⟨rfl, hb10⟩
  obtain ⟨hc10_0, hz10_0⟩ := bkeep hb10 (w2.heap.size) (by (try simp) <;> omega)
  obtain ⟨hc10_1, hz10_1⟩ := bkeep hb10 (w3.heap.size) (by (try simp) <;> omega)
  go_wp2_with fail
  refine (h_in5 _).mono ?_
  rintro r11 w11 ⟨rfl, hb11⟩
  obtain ⟨hc11_0, hz11_0⟩ := bkeep hb11 (w2.heap.size) (by (try simp) <;> omega)
  obtain ⟨hc11_1, hz11_1⟩ := bkeep hb11 (w3.heap.size) (by (try simp) <;> omega)
  go_wp2_with fail
  refine (h_not5 _).mono ?_
  rintro r12 w12 ⟨rfl, hb12⟩
  go_wp2
  go_loop [28, 29] (fun p i => (p = .int .i64 1 ∧ i = .int .i64 2) ∨ (p = .int .i64 2 ∧ i = .int .i64 3) ∨ (p = .int .i64 6 ∧ i = .int .i64 4) ∨ (p = .int .i64 24 ∧ i = .int .i64 5) ∨ (p = .int .i64 120 ∧ i = .int .i64 6)) (fun _ i => 7 - (intOf i).toNat)
  case atStart => exact .inl ⟨rfl, rfl⟩
  case round =>
    rcases hrel with ⟨rfl, rfl⟩ | ⟨rfl, rfl⟩ | ⟨rfl, rfl⟩ | ⟨rfl, rfl⟩ | ⟨rfl, rfl⟩
    · go_wp2
      go_round
      case rel => exact .inr (.inl ⟨rfl, rfl⟩)
      case measure => simp [intOf]
    · go_wp2
      go_round
      case rel => exact .inr (.inr (.inl ⟨rfl, rfl⟩))
      case measure => simp [intOf]
    · go_wp2
      go_round
      case rel => exact .inr (.inr (.inr (.inl ⟨rfl, rfl⟩)))
      case measure => simp [intOf]
    · go_wp2
      go_round
      case rel => exact .inr (.inr (.inr (.inr (⟨rfl, rfl⟩))))
      case measure => simp [intOf]
    · go_wp2
      go_ret
      exact ⟨rfl, by (repeat (first | exact Below.refl _ _ | assumption | refine bchain (by assumption) ?_ | refine balloc ?_ _ | apply Below.drew | apply below_drewN | (refine Below.alloc ?_ (by (try simp) <;> omega) _) | (refine Below.setCell ?_ (by (try simp) <;> omega) _)))⟩
theorem walk (v : Value) (l : Nat) (w : World) (h : SlB w v l) :
    Calls Try.prog 5 #[v] w fun r w' => r = .returned (.bool true) ∧ Below w.heap.size w w' := by
  rcases Nat.lt_or_ge 3000 l with hl | hl
  · exact walk_long v l w h hl
  · obtain ⟨q, hq3, hq⟩ := at0_any w v l h 3 (by omega) (by omega)
    have hc : q = 0 ∨ q = 1 ∨ q = 2 := by omega
    rcases hc with rfl | rfl | rfl
    · exact walk3 v l w h hl hq
    · exact walk4 v l w h hl hq
    · exact walk5 v l w h hl hq
end BuiltLaw
theorem BuiltLaw.lifted (os : Os) (started : os.Started) (H : Type) (enc : TypeId × Value → H) :
    ReturnsInHanded {} Try.checked os 5 .any (Rows.fnBuiltSpec.pre6 enc Try.prog Try.f5 Rows.fnBuiltRow.domain false)
      (Rows.fnBuiltSpec.post enc Try.prog Try.f5 false true false false) := by
  refine fr_lift (C := Try.checked) own started (by kernel_rfl) Try.func5 laid_out rfl (by kernel_rfl) (tb := 4) rfl Try.underlying4 ?hs
    (ChangeSpec.witness6 (enc := enc) (C := Try.checked) false ⟨#[], #[.slice none 0 0], []⟩ 8 (by kernel_rfl) (by kernel_rfl) (by kernel_rfl) (by kernel_rfl)) ?_
  case hs =>
    intro ds h
    match ds, h with
    | [d0], _ => rfl
  intro W base args ds p hval0 hA0 hlt hsz
  have hval : ∀ (j : Nat) t v, Try.f5.params[j]? = some t → args[j]? = some v → Value.okWide Try.prog W .any base t v := hval0
  have hA : DataW.TrodAll enc Try.prog W 0 (fun _ => true) true Try.f5.params.toList args.toList ds p := hA0
  rw [Try.params5] at hA hval
  obtain ⟨v0, vs0, d0, ds0, p0, q0, hargs, rfl, rfl, h0, r0⟩ := trodAll_cons hA
  obtain ⟨rfl, rfl, rfl⟩ := trodAll_nil r0
  obtain rfl : args = #[v0] := by cases args; simp_all
  obtain ⟨x0, R0⟩ := open_u8s (hval 0 22 v0 rfl rfl) h0
  exact BuiltLaw.walk v0 x0 W R0

theorem built_holds : Rows.FnBuiltSaid :=
  OpenClaim.holds_of_wide 5 Try.f5 rfl rfl rfl rfl rfl rfl rfl ⟨rfl, rfl, rfl, rfl, rfl⟩ rfl rfl rfl rfl rfl (by kernel_rfl) Try.func5 (by kernel_rfl)
    (of_decide_eq_true (by kernel_rfl)) (by unfold Func.isWrapper; rw [if_neg (of_decide_eq_false (by kernel_rfl))]; exact ⟨rfl, rfl⟩)
    (fun os started H enc _ => BuiltLaw.lifted os started H enc)
#print axioms built_holds
end Go.Proofs.Ytoiepgdjknpjiaa
