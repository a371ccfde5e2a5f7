/-
  IsPatternFree: the program's and the model's walks, over contracts of the search for a first map.
-/
import Derived.Test.YtfnjgdocmfmfgaaForbP
import Derived.Test.YtfnjgdocmfmfgaaPcs
namespace Go.Proofs.Ytfnjgdocmfmfgaa
open Go.RowKit
set_option maxRecDepth 100000
attribute [local go_sem] Oper.semAt_some
def RetBC (W : World) (b : Bool) (c : Int) (r : Ending) (w' : World) : Prop := r = .returned (.tuple #[.bool b, .int .i64 c]) ∧ Below W.heap.size W w'
section
variable (w : World)
theorem iip_inv (n e s : Int) (a : Option Addr) (L cap : Nat) (a2 : Option Addr) (l cap2 : Nat) (hV : ∀ W, Below w.heap.size w W → Calls Try.prog 16 #[.agg #[.int .i64 n, .int .u32 e, .int .u32 s, .slice a L cap]] W fun r w' => r = .returned (.bool false) ∧ Below W.heap.size W w') :
    Calls Try.prog 37 #[.agg #[.int .i64 n, .int .u32 e, .int .u32 s, .slice a L cap], .slice a2 l cap2] w (RetBC w false 1) := by
  unfold RetBC
  replace hV := Lib.hid hV
  obtain ⟨W0, hW0⟩ : ∃ W0, W0 = w.alloc (.cells #[.int .i64 n, .int .u32 e, .int .u32 s, .slice a L cap] 33) := ⟨_, rfl⟩
  have hB0 : Below w.heap.size w W0 := by rw [hW0]; (repeat (first | exact Below.refl _ _ | assumption | refine bchain (by assumption) ?_ | refine balloc ?_ _ | apply Below.drew | apply below_drewN | (refine Below.alloc ?_ (by (try simp) <;> omega) _) | (refine Below.setCell ?_ (by (try simp) <;> omega) _)))
  have k1 : PB W0 w.heap.size n e s (.slice a L cap) := by rw [hW0]; exact PB.made w _ _ _ _ _
  replace hW0 := Lib.hid hW0
  obtain ⟨_, x0, x1, x2, x3, _⟩ := id k1
  go_enter Try.func37, Try.ntmps37
  go_wp2_with fail
  rw [← hW0.out]
  go_wp2_with fail
  refine (hV.out _ hB0).mono ?_
  rintro r1 w1 ⟨rfl, hb1⟩
  clear x0 x1 x2 x3
  go_wp2
  exact bodyPost_ret (v := .tuple #[.bool false, .int .i64 1]) (by simp [results, Try.results37, go_sem]) rfl ⟨rfl, by (repeat (first | exact Below.refl _ _ | assumption | refine bchain (by assumption) ?_ | refine balloc ?_ _ | apply Below.drew | apply below_drewN | (refine Below.alloc ?_ (by (try simp) <;> omega) _) | (refine Below.setCell ?_ (by (try simp) <;> omega) _)))⟩
theorem iip_code (n e s : Int) (a : Option Addr) (L cap : Nat) (a2 : Option Addr) (l cap2 : Nat) (hV : ∀ W, Below w.heap.size w W → Calls Try.prog 16 #[.agg #[.int .i64 n, .int .u32 e, .int .u32 s, .slice a L cap]] W fun r w' => r = .returned (.bool true) ∧ Below W.heap.size W w') (c : Int) (hc : c ≠ 0) (hF : ∀ W, Below w.heap.size w W → Calls Try.prog 76 #[.slice a2 l cap2] W fun r w' => r = .returned (.int .i64 c) ∧ Below W.heap.size W w') :
    Calls Try.prog 37 #[.agg #[.int .i64 n, .int .u32 e, .int .u32 s, .slice a L cap], .slice a2 l cap2] w (RetBC w false c) := by
  unfold RetBC
  replace hV := Lib.hid hV
  obtain ⟨W0, hW0⟩ : ∃ W0, W0 = w.alloc (.cells #[.int .i64 n, .int .u32 e, .int .u32 s, .slice a L cap] 33) := ⟨_, rfl⟩
  have hB0 : Below w.heap.size w W0 := by rw [hW0]; (repeat (first | exact Below.refl _ _ | assumption | refine bchain (by assumption) ?_ | refine balloc ?_ _ | apply Below.drew | apply below_drewN | (refine Below.alloc ?_ (by (try simp) <;> omega) _) | (refine Below.setCell ?_ (by (try simp) <;> omega) _)))
  have k1 : PB W0 w.heap.size n e s (.slice a L cap) := by rw [hW0]; exact PB.made w _ _ _ _ _
  replace hW0 := Lib.hid hW0
  replace hF := Lib.hid hF
  have hcd : (c != 0) = true := by simpa using hc
  obtain ⟨_, x0, x1, x2, x3, _⟩ := id k1
  go_enter Try.func37, Try.ntmps37
  go_wp2_with fail
  rw [← hW0.out]
  go_wp2_with fail
  refine (hV.out _ hB0).mono ?_
  rintro r1 w1 ⟨rfl, hb1⟩
  clear x0 x1 x2 x3
  go_wp2_with fail
  refine (hF.out _ (by (repeat (first | exact Below.refl _ _ | assumption | refine bchain (by assumption) ?_ | refine balloc ?_ _ | apply Below.drew | apply below_drewN | (refine Below.alloc ?_ (by (try simp) <;> omega) _) | (refine Below.setCell ?_ (by (try simp) <;> omega) _))))).mono ?_
  rintro r2 w2 ⟨rfl, hb2⟩
  go_wp2
  exact bodyPost_ret (v := .tuple #[.bool false, .int .i64 c]) (by simp [results, Try.results37, go_sem]) rfl ⟨rfl, by (repeat (first | exact Below.refl _ _ | assumption | refine bchain (by assumption) ?_ | refine balloc ?_ _ | apply Below.drew | apply below_drewN | (refine Below.alloc ?_ (by (try simp) <;> omega) _) | (refine Below.setCell ?_ (by (try simp) <;> omega) _)))⟩
set_option maxHeartbeats 2000000 in
theorem iip_ok (n e s : Int) (a : Option Addr) (L cap : Nat) (a2 : Option Addr) (l cap2 : Nat) (gs : List (Int × Int)) (hl : gs.length = l) (hl6 : l ≤ 6) (hL : Lies w a2 gs) (f : Nat → Bool) (hV : ∀ W, Below w.heap.size w W → Calls Try.prog 16 #[.agg #[.int .i64 n, .int .u32 e, .int .u32 s, .slice a L cap]] W fun r w' => r = .returned (.bool true) ∧ Below W.heap.size W w') (hF : ∀ W, Below w.heap.size w W → Calls Try.prog 76 #[.slice a2 l cap2] W fun r w' => r = .returned (.int .i64 0) ∧ Below W.heap.size W w') (hM : ∀ W, Below w.heap.size w W → ∀ i, i < l → Calls Try.prog 77 #[.agg #[.int .i64 n, .int .u32 e, .int .u32 s, .slice a L cap], .agg #[.int .i64 (gAt gs i).1, .int .u32 (gAt gs i).2]] W fun r w' => (∃ v, r = .returned (.tuple #[v, .bool (f i)])) ∧ Below W.heap.size W w') :
    Calls Try.prog 37 #[.agg #[.int .i64 n, .int .u32 e, .int .u32 s, .slice a L cap], .slice a2 l cap2] w (RetBC w ((List.range l).all fun i => !f i) 0) := by
  unfold RetBC
  replace hV := Lib.hid hV
  obtain ⟨W0, hW0⟩ : ∃ W0, W0 = w.alloc (.cells #[.int .i64 n, .int .u32 e, .int .u32 s, .slice a L cap] 33) := ⟨_, rfl⟩
  have hB0 : Below w.heap.size w W0 := by rw [hW0]; (repeat (first | exact Below.refl _ _ | assumption | refine bchain (by assumption) ?_ | refine balloc ?_ _ | apply Below.drew | apply below_drewN | (refine Below.alloc ?_ (by (try simp) <;> omega) _) | (refine Below.setCell ?_ (by (try simp) <;> omega) _)))
  have k1 : PB W0 w.heap.size n e s (.slice a L cap) := by rw [hW0]; exact PB.made w _ _ _ _ _
  replace hW0 := Lib.hid hW0
  replace hF := Lib.hid hF
  replace hM := Lib.hid hM
  obtain ⟨R, hR⟩ : ∃ R, ((List.range l).all fun i => !f i) = R := ⟨_, rfl⟩
  rw [hR]
  replace hR := Lib.hid hR
  replace hL := Lib.hid hL
  replace hl := Lib.hid hl
  obtain ⟨_, x0, x1, x2, x3, _⟩ := id k1
  go_enter Try.func37, Try.ntmps37
  go_wp2_with fail
  rw [← hW0.out]
  go_wp2_with fail
  refine (hV.out _ hB0).mono ?_
  rintro r1 w1 ⟨rfl, hb1⟩
  clear x0 x1 x2 x3
  go_wp2_with fail
  refine (hF.out _ (by (repeat (first | exact Below.refl _ _ | assumption | refine bchain (by assumption) ?_ | refine balloc ?_ _ | apply Below.drew | apply below_drewN | (refine Below.alloc ?_ (by (try simp) <;> omega) _) | (refine Below.setCell ?_ (by (try simp) <;> omega) _))))).mono ?_
  rintro r2 w2 ⟨rfl, hb2⟩
  have hB2 : Below w.heap.size w w2 := by (repeat (first | exact Below.refl _ _ | assumption | refine bchain (by assumption) ?_ | refine balloc ?_ _ | apply Below.drew | apply below_drewN | (refine Below.alloc ?_ (by (try simp) <;> omega) _) | (refine Below.setCell ?_ (by (try simp) <;> omega) _)))
  have k2 := (k1.below hb1).below hb2
  clear hb1 hb2 hV hF k1
  go_wp2
  go_loopw [21] (fun i wr => ∃ k : Nat, k ≤ l ∧ i = .int .i64 k ∧ Hid (∀ j, j < k → f j = false) ∧ Below w2.heap.size w2 wr) (fun i _ => l - (intOf i).toNat)
  case atStart => exact ⟨0, by omega, rfl, (fun j hj => by omega), Below.refl _ _⟩
  case round =>
    obtain ⟨k, hk, rfl, hno, hB⟩ := hrel
    have kr := k2.below hB
    have hBw := bchain hB hB2
    by_cases hlt : k < l
    · obtain ⟨b, off, rfl, hb, hg⟩ := hL.out k (by have := hl.out; omega)
      have s0 := (hBw.cell (p := ⟨b, _, none⟩) hb).trans hg.1
      have s1 := (hBw.cell (p := ⟨b, _, none⟩) hb).trans hg.2
      have hMk := Lib.hid (fun W h => hM.out W h k hlt)
      obtain ⟨x, y, hxy⟩ : ∃ x y, gAt gs k = (x, y) := ⟨_, _, rfl⟩
      rw [hxy] at s0 s1 hMk
      dsimp only at s0 s1 hMk
      have hk0 : (0 : Int) ≤ (k : Int) := by omega
      have hk1 : (k : Int) < (l : Int) := by omega
      have hlw := kr.lt
      have hzw := hBw.size
      have hne : w.heap.size ≠ wr.heap.size := by omega
      have hne2 : wr.heap.size ≠ w.heap.size := by omega
      have hnb : b ≠ wr.heap.size := by omega
      have hno2 : f k = false → Hid (∀ j, j < k + 1 → f j = false) := fun h j hj => by
        by_cases c : j = k
        · rw [c]; exact h
        · exact hno.out j (by omega)
      have hall : f k = true → R = false := fun h => by
        rw [← hR.out, List.all_eq_false]
        exact ⟨k, List.mem_range.2 hlt, by simp [h]⟩
      obtain ⟨fk, hfk⟩ : ∃ b, f k = b := ⟨_, rfl⟩
      rw [hfk] at hMk hno2 hall
      obtain ⟨_, x0, x1, x2, x3, _⟩ := id kr
      clear hg hxy hfk hno
      cases fk
      · have hno3 := hno2 rfl
        clear hno2 hall
        go_wp2_with fail
        refine (hMk.out _ (by (repeat (first | exact Below.refl _ _ | assumption | refine bchain (by assumption) ?_ | refine balloc ?_ _ | apply Below.drew | apply below_drewN | (refine Below.alloc ?_ (by (try simp) <;> omega) _) | (refine Below.setCell ?_ (by (try simp) <;> omega) _))))).mono ?_
        rintro r3 w3 ⟨⟨v, rfl⟩, hb3⟩
        go_wp2
        go_roundw
        case rel => exact ⟨k + 1, by omega, by go_num, hno3, by (repeat (first | exact Below.refl _ _ | assumption | refine bchain (by assumption) ?_ | refine balloc ?_ _ | apply Below.drew | apply below_drewN | (refine Below.alloc ?_ (by (try simp) <;> omega) _) | (refine Below.setCell ?_ (by (try simp) <;> omega) _)))⟩
        case measure => simp [intOf]; omega
      · obtain rfl := hall rfl
        clear hno2 hall hR
        go_wp2_with fail
        refine (hMk.out _ (by (repeat (first | exact Below.refl _ _ | assumption | refine bchain (by assumption) ?_ | refine balloc ?_ _ | apply Below.drew | apply below_drewN | (refine Below.alloc ?_ (by (try simp) <;> omega) _) | (refine Below.setCell ?_ (by (try simp) <;> omega) _))))).mono ?_
        rintro r3 w3 ⟨⟨v, rfl⟩, hb3⟩
        go_wp2
        exact bodyPost_ret (v := .tuple #[.bool false, .int .i64 0]) (by simp [results, Try.results37, go_sem]) rfl ⟨rfl, by (repeat (first | exact Below.refl _ _ | assumption | refine bchain (by assumption) ?_ | refine balloc ?_ _ | apply Below.drew | apply below_drewN | (refine Below.alloc ?_ (by (try simp) <;> omega) _) | (refine Below.setCell ?_ (by (try simp) <;> omega) _)))⟩
    · have hd := decide_eq_false (show ¬ ((k : Int) < (l : Int)) by omega)
      obtain rfl : R = true := by
        rw [← hR.out, List.all_eq_true]
        intro i hi
        rw [hno.out i (by have := List.mem_range.1 hi; omega)]
        rfl
      clear hno hR
      go_wp2
      exact bodyPost_ret (v := .tuple #[.bool true, .int .i64 0]) (by simp [results, Try.results37, go_sem]) rfl ⟨rfl, hBw⟩
theorem sip_inv (n e s : Int) (a : Option Addr) (L cap : Nat) (a2 : Option Addr) (l cap2 : Nat) (hV : ∀ W, Below w.heap.size w W → ∀ G, PB W G n e s (.slice a L cap) → Calls Try.prog 49 #[.pointer (some ⟨G, 0, none⟩)] W fun r w' => r = .returned (.bool false) ∧ Below W.heap.size W w') :
    Calls Try.prog 35 #[.agg #[.int .i64 n, .int .u32 e, .int .u32 s, .slice a L cap], .slice a2 l cap2] w (RetBC w false 1) := by
  unfold RetBC
  replace hV := Lib.hid hV
  obtain ⟨W0, hW0⟩ : ∃ W0, W0 = w.alloc (.cells #[.int .i64 n, .int .u32 e, .int .u32 s, .slice a L cap] 33) := ⟨_, rfl⟩
  have hB0 : Below w.heap.size w W0 := by rw [hW0]; (repeat (first | exact Below.refl _ _ | assumption | refine bchain (by assumption) ?_ | refine balloc ?_ _ | apply Below.drew | apply below_drewN | (refine Below.alloc ?_ (by (try simp) <;> omega) _) | (refine Below.setCell ?_ (by (try simp) <;> omega) _)))
  have k1 : PB W0 w.heap.size n e s (.slice a L cap) := by rw [hW0]; exact PB.made w _ _ _ _ _
  replace hW0 := Lib.hid hW0
  obtain ⟨_, x0, x1, x2, x3, _⟩ := id k1
  go_enter Try.func35, Try.ntmps35
  go_wp2_with fail
  rw [← hW0.out]
  go_wp2_with fail
  refine (hV.out _ hB0 _ k1).mono ?_
  rintro r1 w1 ⟨rfl, hb1⟩
  clear x0 x1 x2 x3
  go_wp2
  exact bodyPost_ret (v := .tuple #[.bool false, .int .i64 1]) (by simp [results, Try.results35, go_sem]) rfl ⟨rfl, by (repeat (first | exact Below.refl _ _ | assumption | refine bchain (by assumption) ?_ | refine balloc ?_ _ | apply Below.drew | apply below_drewN | (refine Below.alloc ?_ (by (try simp) <;> omega) _) | (refine Below.setCell ?_ (by (try simp) <;> omega) _)))⟩
theorem sip_code (n e s : Int) (a : Option Addr) (L cap : Nat) (a2 : Option Addr) (l cap2 : Nat) (hV : ∀ W, Below w.heap.size w W → ∀ G, PB W G n e s (.slice a L cap) → Calls Try.prog 49 #[.pointer (some ⟨G, 0, none⟩)] W fun r w' => r = .returned (.bool true) ∧ Below W.heap.size W w') (c : Int) (hc : c ≠ 0) (hF : ∀ W, Below w.heap.size w W → Calls Try.prog 74 #[.slice a2 l cap2] W fun r w' => r = .returned (.int .i64 c) ∧ Below W.heap.size W w') :
    Calls Try.prog 35 #[.agg #[.int .i64 n, .int .u32 e, .int .u32 s, .slice a L cap], .slice a2 l cap2] w (RetBC w false c) := by
  unfold RetBC
  replace hV := Lib.hid hV
  obtain ⟨W0, hW0⟩ : ∃ W0, W0 = w.alloc (.cells #[.int .i64 n, .int .u32 e, .int .u32 s, .slice a L cap] 33) := ⟨_, rfl⟩
  have hB0 : Below w.heap.size w W0 := by rw [hW0]; (repeat (first | exact Below.refl _ _ | assumption | refine bchain (by assumption) ?_ | refine balloc ?_ _ | apply Below.drew | apply below_drewN | (refine Below.alloc ?_ (by (try simp) <;> omega) _) | (refine Below.setCell ?_ (by (try simp) <;> omega) _)))
  have k1 : PB W0 w.heap.size n e s (.slice a L cap) := by rw [hW0]; exact PB.made w _ _ _ _ _
  replace hW0 := Lib.hid hW0
  replace hF := Lib.hid hF
  have hcd : (c != 0) = true := by simpa using hc
  obtain ⟨_, x0, x1, x2, x3, _⟩ := id k1
  go_enter Try.func35, Try.ntmps35
  go_wp2_with fail
  rw [← hW0.out]
  go_wp2_with fail
  refine (hV.out _ hB0 _ k1).mono ?_
  rintro r1 w1 ⟨rfl, hb1⟩
  clear x0 x1 x2 x3
  go_wp2_with fail
  refine (hF.out _ (by (repeat (first | exact Below.refl _ _ | assumption | refine bchain (by assumption) ?_ | refine balloc ?_ _ | apply Below.drew | apply below_drewN | (refine Below.alloc ?_ (by (try simp) <;> omega) _) | (refine Below.setCell ?_ (by (try simp) <;> omega) _))))).mono ?_
  rintro r2 w2 ⟨rfl, hb2⟩
  go_wp2
  exact bodyPost_ret (v := .tuple #[.bool false, .int .i64 c]) (by simp [results, Try.results35, go_sem]) rfl ⟨rfl, by (repeat (first | exact Below.refl _ _ | assumption | refine bchain (by assumption) ?_ | refine balloc ?_ _ | apply Below.drew | apply below_drewN | (refine Below.alloc ?_ (by (try simp) <;> omega) _) | (refine Below.setCell ?_ (by (try simp) <;> omega) _)))⟩
set_option maxHeartbeats 2000000 in
theorem sip_ok (n e s : Int) (a : Option Addr) (L cap : Nat) (a2 : Option Addr) (l cap2 : Nat) (gs : List (Int × Int)) (hl : gs.length = l) (hl6 : l ≤ 6) (hL : Lies w a2 gs) (f : Nat → Bool) (hV : ∀ W, Below w.heap.size w W → ∀ G, PB W G n e s (.slice a L cap) → Calls Try.prog 49 #[.pointer (some ⟨G, 0, none⟩)] W fun r w' => r = .returned (.bool true) ∧ Below W.heap.size W w') (hF : ∀ W, Below w.heap.size w W → Calls Try.prog 74 #[.slice a2 l cap2] W fun r w' => r = .returned (.int .i64 0) ∧ Below W.heap.size W w') (hM : ∀ W, Below w.heap.size w W → ∀ G, PB W G n e s (.slice a L cap) → ∀ i, i < l → Calls Try.prog 75 #[.pointer (some ⟨G, 0, none⟩), .agg #[.int .i64 (gAt gs i).1, .int .u32 (gAt gs i).2]] W fun r w' => (∃ v, r = .returned (.tuple #[v, .bool (f i)])) ∧ Below W.heap.size W w') :
    Calls Try.prog 35 #[.agg #[.int .i64 n, .int .u32 e, .int .u32 s, .slice a L cap], .slice a2 l cap2] w (RetBC w ((List.range l).all fun i => !f i) 0) := by
  unfold RetBC
  replace hV := Lib.hid hV
  obtain ⟨W0, hW0⟩ : ∃ W0, W0 = w.alloc (.cells #[.int .i64 n, .int .u32 e, .int .u32 s, .slice a L cap] 33) := ⟨_, rfl⟩
  have hB0 : Below w.heap.size w W0 := by rw [hW0]; (repeat (first | exact Below.refl _ _ | assumption | refine bchain (by assumption) ?_ | refine balloc ?_ _ | apply Below.drew | apply below_drewN | (refine Below.alloc ?_ (by (try simp) <;> omega) _) | (refine Below.setCell ?_ (by (try simp) <;> omega) _)))
  have k1 : PB W0 w.heap.size n e s (.slice a L cap) := by rw [hW0]; exact PB.made w _ _ _ _ _
  replace hW0 := Lib.hid hW0
  replace hF := Lib.hid hF
  replace hM := Lib.hid hM
  obtain ⟨R, hR⟩ : ∃ R, ((List.range l).all fun i => !f i) = R := ⟨_, rfl⟩
  rw [hR]
  replace hR := Lib.hid hR
  replace hL := Lib.hid hL
  replace hl := Lib.hid hl
  obtain ⟨_, x0, x1, x2, x3, _⟩ := id k1
  go_enter Try.func35, Try.ntmps35
  go_wp2_with fail
  rw [← hW0.out]
  go_wp2_with fail
  refine (hV.out _ hB0 _ k1).mono ?_
  rintro r1 w1 ⟨rfl, hb1⟩
  clear x0 x1 x2 x3
  go_wp2_with fail
  refine (hF.out _ (by (repeat (first | exact Below.refl _ _ | assumption | refine bchain (by assumption) ?_ | refine balloc ?_ _ | apply Below.drew | apply below_drewN | (refine Below.alloc ?_ (by (try simp) <;> omega) _) | (refine Below.setCell ?_ (by (try simp) <;> omega) _))))).mono ?_
  rintro r2 w2 ⟨rfl, hb2⟩
  have hB2 : Below w.heap.size w w2 := by (repeat (first | exact Below.refl _ _ | assumption | refine bchain (by assumption) ?_ | refine balloc ?_ _ | apply Below.drew | apply below_drewN | (refine Below.alloc ?_ (by (try simp) <;> omega) _) | (refine Below.setCell ?_ (by (try simp) <;> omega) _)))
  have k2 := (k1.below hb1).below hb2
  clear hb1 hb2 hV hF k1
  go_wp2
  go_loopw [7] (fun i wr => ∃ k : Nat, k ≤ l ∧ i = .int .i64 k ∧ Hid (∀ j, j < k → f j = false) ∧ Below w2.heap.size w2 wr) (fun i _ => l - (intOf i).toNat)
  case atStart => exact ⟨0, by omega, rfl, (fun j hj => by omega), Below.refl _ _⟩
  case round =>
    obtain ⟨k, hk, rfl, hno, hB⟩ := hrel
    have kr := k2.below hB
    have hBw := bchain hB hB2
    by_cases hlt : k < l
    · obtain ⟨b, off, rfl, hb, hg⟩ := hL.out k (by have := hl.out; omega)
      have s0 := (hBw.cell (p := ⟨b, _, none⟩) hb).trans hg.1
      have s1 := (hBw.cell (p := ⟨b, _, none⟩) hb).trans hg.2
      have hMk := Lib.hid (fun W h G k0 => hM.out W h G k0 k hlt)
      obtain ⟨x, y, hxy⟩ : ∃ x y, gAt gs k = (x, y) := ⟨_, _, rfl⟩
      rw [hxy] at s0 s1 hMk
      dsimp only at s0 s1 hMk
      have hk0 : (0 : Int) ≤ (k : Int) := by omega
      have hk1 : (k : Int) < (l : Int) := by omega
      have hlw := kr.lt
      have hzw := hBw.size
      have hne : w.heap.size ≠ wr.heap.size := by omega
      have hne2 : wr.heap.size ≠ w.heap.size := by omega
      have hnb : b ≠ wr.heap.size := by omega
      have hno2 : f k = false → Hid (∀ j, j < k + 1 → f j = false) := fun h j hj => by
        by_cases c : j = k
        · rw [c]; exact h
        · exact hno.out j (by omega)
      have hall : f k = true → R = false := fun h => by
        rw [← hR.out, List.all_eq_false]
        exact ⟨k, List.mem_range.2 hlt, by simp [h]⟩
      obtain ⟨fk, hfk⟩ : ∃ b, f k = b := ⟨_, rfl⟩
      rw [hfk] at hMk hno2 hall
      obtain ⟨_, x0, x1, x2, x3, _⟩ := id kr
      clear hg hxy hfk hno
      cases fk
      · have hno3 := hno2 rfl
        clear hno2 hall
        go_wp2_with fail
        refine (hMk.out _ (by (repeat (first | exact Below.refl _ _ | assumption | refine bchain (by assumption) ?_ | refine balloc ?_ _ | apply Below.drew | apply below_drewN | (refine Below.alloc ?_ (by (try simp) <;> omega) _) | (refine Below.setCell ?_ (by (try simp) <;> omega) _)))) _ kr).mono ?_
        rintro r3 w3 ⟨⟨v, rfl⟩, hb3⟩
        go_wp2
        go_roundw
        case rel => exact ⟨k + 1, by omega, by go_num, hno3, by (repeat (first | exact Below.refl _ _ | assumption | refine bchain (by assumption) ?_ | refine balloc ?_ _ | apply Below.drew | apply below_drewN | (refine Below.alloc ?_ (by (try simp) <;> omega) _) | (refine Below.setCell ?_ (by (try simp) <;> omega) _)))⟩
        case measure => simp [intOf]; omega
      · obtain rfl := hall rfl
        clear hno2 hall hR
        go_wp2_with fail
        refine (hMk.out _ (by (repeat (first | exact Below.refl _ _ | assumption | refine bchain (by assumption) ?_ | refine balloc ?_ _ | apply Below.drew | apply below_drewN | (refine Below.alloc ?_ (by (try simp) <;> omega) _) | (refine Below.setCell ?_ (by (try simp) <;> omega) _)))) _ kr).mono ?_
        rintro r3 w3 ⟨⟨v, rfl⟩, hb3⟩
        go_wp2
        exact bodyPost_ret (v := .tuple #[.bool false, .int .i64 0]) (by simp [results, Try.results35, go_sem]) rfl ⟨rfl, by (repeat (first | exact Below.refl _ _ | assumption | refine bchain (by assumption) ?_ | refine balloc ?_ _ | apply Below.drew | apply below_drewN | (refine Below.alloc ?_ (by (try simp) <;> omega) _) | (refine Below.setCell ?_ (by (try simp) <;> omega) _)))⟩
    · have hd := decide_eq_false (show ¬ ((k : Int) < (l : Int)) by omega)
      obtain rfl : R = true := by
        rw [← hR.out, List.all_eq_true]
        intro i hi
        rw [hno.out i (by have := List.mem_range.1 hi; omega)]
        rfl
      clear hno hR
      go_wp2
      exact bodyPost_ret (v := .tuple #[.bool true, .int .i64 0]) (by simp [results, Try.results35, go_sem]) rfl ⟨rfl, hBw⟩
end
end Go.Proofs.Ytfnjgdocmfmfgaa
