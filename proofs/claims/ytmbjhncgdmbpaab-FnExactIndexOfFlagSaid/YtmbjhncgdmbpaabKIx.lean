/-
  IndexOfFlag: a flag is found, or not: the program's and the model's contracts.
-/
import Derived.Test.YtmbjhncgdmbpaabKLi
namespace Go.Proofs.Ytmbjhncgdmbpaab
open Go.RowKit
set_option maxRecDepth 100000

section
variable (w : World)
set_option maxHeartbeats 1000000 in
/-- m is the first index of a flag that is alike, or the length if there is none -/
theorem iix_ok (k n e : Nat) (h : VK k n e) (v : Value) (gs : List (Int × Int × Int)) (hS : SlK w v gs) (hm : gs.length ≤ 1048576) (hV : AllK gs) (m : Nat) (hm2 : m ≤ gs.length) (hno : NoneK k n e gs m) (hat : m < gs.length → aliP k n e gs m = true) :
    Calls Try.prog 25 #[.agg #[.int .i64 k, .int .i64 n, .int .u32 e], v] w fun r w' => r = .returned (if m < gs.length then .tuple #[.int .i64 m, .int .i64 0] else .tuple #[.int .i64 0, .int .i64 6]) ∧ Below w.heap.size w w' := by
  obtain ⟨a, cap, rfl, hc⟩ := hS.lies
  have hC := Lib.hid (fun W (hW : Below w.heap.size w W) => avk_t W a cap gs hm (hc.below hW) hV)
  obtain ⟨l, hl⟩ : ∃ l, l = gs.length := ⟨_, rfl⟩
  rw [← hl] at hC hm hm2 hat ⊢
  replace hc := Lib.hid hc
  replace hV := Lib.hid hV
  replace hl := Lib.hid hl
  replace hno := Lib.hid hno
  replace hat := Lib.hid hat
  clear hS
  have hF0 := FC.made w k n e 49
  go_enter Try.func25, Try.ntmps25
  go_wp2_with fail
  refine (ivk_t _ k n e h).mono ?_
  rintro r1 w1 ⟨rfl, hb1⟩
  obtain ⟨hc1_0, hz1_0⟩ := bkeep hb1 (w.heap.size) (by (try simp) <;> omega)
  have hF1 := hF0.below hb1
  go_wp2_with fail
  refine (hC.out _ (by (repeat (first | exact Below.refl _ _ | assumption | refine bchain (by assumption) ?_ | refine balloc ?_ _ | apply Below.drew | apply below_drewN | (refine Below.alloc ?_ (by (try simp) <;> omega) _) | (refine Below.setCell ?_ (by (try simp) <;> omega) _))))).mono ?_
  rintro r2 w2 ⟨rfl, hb2⟩
  obtain ⟨hc2_0, hz2_0⟩ := bkeep hb2 (w.heap.size) (by (try simp) <;> omega)
  have hF2 := hF1.below hb2
  obtain ⟨q0, q1, q2, q3⟩ := hF2
  have hB2 : Below w.heap.size w w2 := by (repeat (first | exact Below.refl _ _ | assumption | refine bchain (by assumption) ?_ | refine balloc ?_ _ | apply Below.drew | apply below_drewN | (refine Below.alloc ?_ (by (try simp) <;> omega) _) | (refine Below.setCell ?_ (by (try simp) <;> omega) _)))
  clear hF0 hF1 hb1 hb2 hc1_0 hc2_0
  go_wp2_with fail
  refine (fa_any _ k n e h).mono ?_
  rintro r3 w3 ⟨⟨M, rfl, hMge, hM3⟩, hb3⟩
  have hB3 : Below w.heap.size w w3 := hB2.trans (hb3.mono hB2.size)
  have hM0 := Lib.hid (fun W (hW : Below w3.heap.size w3 W) => hM3.below hW)
  have hMl := hM3.lt
  have hz3 := hB3.size
  clear hb3 hB2 q1 q2 q3 hM3
  go_wp2_with fail
  go_loopw [7, 8, 21] (fun _ _ i wr => ∃ j : Nat, j ≤ m ∧ i = .int .i64 j ∧ Below w3.heap.size w3 wr) (fun _ _ i _ => l - (intOf i).toNat)
  case atStart => exact ⟨0, by omega, rfl, Below.refl _ _⟩
  case round =>
    obtain ⟨j, hj, rfl, hB⟩ := hrel
    have hMr := hM0.out wr hB
    by_cases hlt : j < l
    · obtain ⟨b, off, rfl, hb, hg⟩ := hc.out j (by have := hl.out; omega)
      obtain ⟨x, y, z, hxy, hv⟩ := kv_nat (hV.out j (by have := hl.out; omega))
      have hBw : Below w.heap.size w wr := hB3.trans (hB.mono hB3.size)
      have s0 : wr.cell? ⟨b, off + j * 3, none⟩ = some (.int .i64 x) := by rw [hBw.cell (p := ⟨b, _, none⟩) hb, hg.1, hxy]
      have s1 : wr.cell? ⟨b, off + j * 3 + 1, none⟩ = some (.int .i64 y) := by rw [hBw.cell (p := ⟨b, _, none⟩) hb, hg.2.1, hxy]
      have s2 : wr.cell? ⟨b, off + j * 3 + 2, none⟩ = some (.int .u32 z) := by rw [hBw.cell (p := ⟨b, _, none⟩) hb, hg.2.2, hxy]
      have hkn : (j : Int) < (l : Int) := by omega
      obtain ⟨v1, v2, v3, v4⟩ := hv.nums
      have hin := ali_in h hxy hv
      obtain ⟨ok, hok⟩ : ∃ ok, aliP k n e gs j = ok := ⟨_, rfl⟩
      rw [hok] at hin
      have hcase : (ok = false ∧ j < m) ∨ (ok = true ∧ j = m) := by
        by_cases c : j < m
        · exact .inl ⟨by rw [← hok]; exact hno.out j c, c⟩
        · obtain rfl : j = m := by omega
          exact .inr ⟨by rw [← hok]; exact hat.out (by omega), rfl⟩
      replace hin := Lib.hid hin
      replace hMr := Lib.hid hMr
      clear hg hxy hv hok
      rcases hcase with ⟨rfl, hjm⟩ | ⟨rfl, rfl⟩
      · go_wp2_with (at_lookup; refine wpList_flagLook rfl _ _ rfl M k n (tE n k e) rfl (hMr.out.below (by (repeat (first | exact Below.refl _ _ | assumption | refine bchain (by assumption) ?_ | refine balloc ?_ _ | apply Below.drew | apply below_drewN | (refine Below.alloc ?_ (by (try simp) <;> omega) _) | (refine Below.setCell ?_ (by (try simp) <;> omega) _))))) x y z rfl (by omega) (by omega) (by omega) false hin.out ?_)
        go_roundw
        case rel => exact ⟨j + 1, by omega, by go_num, by (repeat (first | exact Below.refl _ _ | assumption | refine bchain (by assumption) ?_ | refine balloc ?_ _ | apply Below.drew | apply below_drewN | (refine Below.alloc ?_ (by (try simp) <;> omega) _) | (refine Below.setCell ?_ (by (try simp) <;> omega) _)))⟩
        case measure => simp [intOf]; omega
      · go_wp2_with (at_lookup; refine wpList_flagLook rfl _ _ rfl M k n (tE n k e) rfl (hMr.out.below (by (repeat (first | exact Below.refl _ _ | assumption | refine bchain (by assumption) ?_ | refine balloc ?_ _ | apply Below.drew | apply below_drewN | (refine Below.alloc ?_ (by (try simp) <;> omega) _) | (refine Below.setCell ?_ (by (try simp) <;> omega) _))))) x y z rfl (by omega) (by omega) (by omega) true hin.out ?_)
        go_ret2
        have hBe : Below w.heap.size w (wr.alloc (.cells #[.int .i64 (x : Int), .int .i64 (y : Int), .int .u32 (z : Int)] 49)) := hBw.alloc hBw.size _
        exact ⟨by first | rfl | rw [if_pos hlt], hBe⟩
    · obtain rfl : j = m := by omega
      have hd := decide_eq_false (show ¬ ((j : Int) < (l : Int)) by omega)
      have hBw : Below w.heap.size w wr := hB3.trans (hB.mono hB3.size)
      clear hMr
      go_wp2
      go_ret2
      exact ⟨by first | rfl | rw [if_neg hlt], hBw⟩
set_option maxHeartbeats 2000000 in
theorem six_at (k n e : Nat) (h : VK k n e) (a : Option Addr) (cap : Nat) (gs : List (Int × Int × Int)) (hc : LiesK w a gs) (hm : gs.length ≤ 1048576) (hV : AllK gs) (m : Nat) (hm2 : m ≤ gs.length) (hno : NoneK k n e gs m) (hat : m < gs.length → aliP k n e gs m = true) :
    Calls Try.prog 48 #[.agg #[.int .i64 k, .int .i64 n, .int .u32 e], .slice a gs.length cap] w fun r w' => r = .returned (.int .i64 (if m < gs.length then (m : Int) else -1)) ∧ Below w.heap.size w w' := by
  obtain ⟨l, hl⟩ : ∃ l, l = gs.length := ⟨_, rfl⟩
  rw [← hl] at hm hm2 hat ⊢
  replace hc := Lib.hid hc
  replace hV := Lib.hid hV
  replace hl := Lib.hid hl
  replace hno := Lib.hid hno
  replace hat := Lib.hid hat
  have hal := Lib.hid (fun (i x y z : Nat) (hg : kAt gs i = ((x : Int), (y : Int), (z : Int))) => ali_eq (k := k) (n := n) (e := e) hg)
  obtain ⟨m0, hm0⟩ : ∃ m0, leastK n k e = m0 := ⟨_, rfl⟩
  rw [hm0] at hal
  go_enter Try.func48, Try.ntmps48
  go_wp2_with fail
  refine (sleastK_any _ k n e h).mono ?_
  rw [hm0]
  rintro r1 w1 ⟨rfl, hb1⟩
  replace hm0 := Lib.hid hm0
  have hB1 : Below w.heap.size w w1 := by (repeat (first | exact Below.refl _ _ | assumption | refine bchain (by assumption) ?_ | refine balloc ?_ _ | apply Below.drew | apply below_drewN | (refine Below.alloc ?_ (by (try simp) <;> omega) _) | (refine Below.setCell ?_ (by (try simp) <;> omega) _)))
  have hL : FC (w1.alloc (.cells #[.int .i64 (k : Int), .int .i64 (n : Int), .int .u32 (m0 : Int)] 49)) w1.heap.size k n m0 := FC.made _ _ _ _ _
  have hz1 := hB1.size
  have hb1A : Below w1.heap.size w1 (w1.alloc (.cells #[.int .i64 (k : Int), .int .i64 (n : Int), .int .u32 (m0 : Int)] 49)) := (Below.refl _ _).alloc (Nat.le_refl _) _
  have hs0 := Lib.hid (⟨hL, hB1.trans (hb1A.mono hz1)⟩ : FC (w1.alloc (.cells #[.int .i64 (k : Int), .int .i64 (n : Int), .int .u32 (m0 : Int)] 49)) w1.heap.size k n m0 ∧ Below w.heap.size w (w1.alloc (.cells #[.int .i64 (k : Int), .int .i64 (n : Int), .int .u32 (m0 : Int)] 49)))
  obtain ⟨L, hLd⟩ : ∃ L, w1.heap.size = L := ⟨_, rfl⟩
  clear hb1 hL hb1A hB1
  rw [hLd] at hs0
  replace hLd := Lib.hid hLd
  go_wp2_with fail
  rw [hLd.out]
  go_loopw [6] (fun i wr => ∃ j : Nat, j ≤ m ∧ i = .int .i64 j ∧ FC wr L k n m0 ∧ Below w.heap.size w wr) (fun i _ => l - (intOf i).toNat)
  case atStart => exact ⟨0, by omega, rfl, hs0.out⟩
  case round =>
    obtain ⟨j, hj, rfl, hLr, hBw⟩ := hrel
    by_cases hlt : j < l
    · obtain ⟨b, off, rfl, hb, hg⟩ := hc.out j (by have := hl.out; omega)
      obtain ⟨x, y, z, hxy, hv⟩ := kv_nat (hV.out j (by have := hl.out; omega))
      have s0 : wr.cell? ⟨b, off + j * 3, none⟩ = some (.int .i64 x) := by rw [hBw.cell (p := ⟨b, _, none⟩) hb, hg.1, hxy]
      have s1 : wr.cell? ⟨b, off + j * 3 + 1, none⟩ = some (.int .i64 y) := by rw [hBw.cell (p := ⟨b, _, none⟩) hb, hg.2.1, hxy]
      have s2 : wr.cell? ⟨b, off + j * 3 + 2, none⟩ = some (.int .u32 z) := by rw [hBw.cell (p := ⟨b, _, none⟩) hb, hg.2.2, hxy]
      have hbl : b < wr.heap.size := by have := hBw.size; omega
      have hkn : (j : Int) < (l : Int) := by omega
      have hLs := Lib.hid (fun W => sleastK_any W x y z hv)
      have hbe := hal.out j x y z hxy
      obtain ⟨z0, hz0⟩ : ∃ z0, leastK y x z = z0 := ⟨_, rfl⟩
      rw [hz0] at hLs hbe
      have hq := fun W => eqFl W x k y n z0 m0
      rw [hbe] at hq
      obtain ⟨ok, hok⟩ : ∃ ok, aliP k n e gs j = ok := ⟨_, rfl⟩
      rw [hok] at hq
      have hcase : (ok = false ∧ j < m) ∨ (ok = true ∧ j = m) := by
        by_cases c : j < m
        · exact .inl ⟨by rw [← hok]; exact hno.out j c, c⟩
        · obtain rfl : j = m := by omega
          exact .inr ⟨by rw [← hok]; exact hat.out (by omega), rfl⟩
      obtain ⟨l0, l1, l2, l3⟩ := id hLr
      replace hLr := Lib.hid hLr
      clear hg hxy hv hok hbe hz0
      rcases hcase with ⟨rfl, hjm⟩ | ⟨rfl, rfl⟩
      all_goals
        go_wp2_with fail
        go_region_held3 (fun A => A.cell? ⟨b, off + j * 3, none⟩ = some (.int .i64 x) ∧ A.cell? ⟨b, off + j * 3 + 1, none⟩ = some (.int .i64 y) ∧ A.cell? ⟨b, off + j * 3 + 2, none⟩ = some (.int .u32 z) ∧ A.cell? ⟨L, 0, none⟩ = some (.int .i64 k) ∧ A.cell? ⟨L, 1, none⟩ = some (.int .i64 n) ∧ A.cell? ⟨L, 2, none⟩ = some (.int .u32 m0))
          (exact ⟨old_cell hbl s0 (by (repeat (first | exact Below.refl _ _ | assumption | refine bchain (by assumption) ?_ | refine balloc ?_ _ | apply Below.drew | apply below_drewN | (refine Below.alloc ?_ (by (try simp) <;> omega) _) | (refine Below.setCell ?_ (by (try simp) <;> omega) _)))), old_cell hbl s1 (by (repeat (first | exact Below.refl _ _ | assumption | refine bchain (by assumption) ?_ | refine balloc ?_ _ | apply Below.drew | apply below_drewN | (refine Below.alloc ?_ (by (try simp) <;> omega) _) | (refine Below.setCell ?_ (by (try simp) <;> omega) _)))), old_cell hbl s2 (by (repeat (first | exact Below.refl _ _ | assumption | refine bchain (by assumption) ?_ | refine balloc ?_ _ | apply Below.drew | apply below_drewN | (refine Below.alloc ?_ (by (try simp) <;> omega) _) | (refine Below.setCell ?_ (by (try simp) <;> omega) _)))), old_cell l0 l1 (by (repeat (first | exact Below.refl _ _ | assumption | refine bchain (by assumption) ?_ | refine balloc ?_ _ | apply Below.drew | apply below_drewN | (refine Below.alloc ?_ (by (try simp) <;> omega) _) | (refine Below.setCell ?_ (by (try simp) <;> omega) _)))), old_cell l0 l2 (by (repeat (first | exact Below.refl _ _ | assumption | refine bchain (by assumption) ?_ | refine balloc ?_ _ | apply Below.drew | apply below_drewN | (refine Below.alloc ?_ (by (try simp) <;> omega) _) | (refine Below.setCell ?_ (by (try simp) <;> omega) _)))), old_cell l0 l3 (by (repeat (first | exact Below.refl _ _ | assumption | refine bchain (by assumption) ?_ | refine balloc ?_ _ | apply Below.drew | apply below_drewN | (refine Below.alloc ?_ (by (try simp) <;> omega) _) | (refine Below.setCell ?_ (by (try simp) <;> omega) _))))⟩)
          ((go_at_call 52; refine (hLs.out _).mono ?_; rintro r4 w4 ⟨rfl, hb4⟩))
      · all_goals
          have hb34 : Below wr.heap.size wr w4 := by (repeat (first | exact Below.refl _ _ | assumption | refine bchain (by assumption) ?_ | refine balloc ?_ _ | apply Below.drew | apply below_drewN | (refine Below.alloc ?_ (by (try simp) <;> omega) _) | (refine Below.setCell ?_ (by (try simp) <;> omega) _)))
          have hLw := Lib.hid (hLr.out.below hb34)
          have hBv : Below w.heap.size w w4 := by (repeat (first | exact Below.refl _ _ | assumption | refine bchain (by assumption) ?_ | refine balloc ?_ _ | apply Below.drew | apply below_drewN | (refine Below.alloc ?_ (by (try simp) <;> omega) _) | (refine Below.setCell ?_ (by (try simp) <;> omega) _)))
          clear hb4 hb34 s0 s1 s2 l1 l2 l3
          go_wp2
          go_roundw
          case rel => exact ⟨j + 1, by omega, by go_num, hLw.out, hBv⟩
          case measure => simp [intOf]; omega
      · all_goals
          have hBv : Below w.heap.size w w4 := by (repeat (first | exact Below.refl _ _ | assumption | refine bchain (by assumption) ?_ | refine balloc ?_ _ | apply Below.drew | apply below_drewN | (refine Below.alloc ?_ (by (try simp) <;> omega) _) | (refine Below.setCell ?_ (by (try simp) <;> omega) _)))
          clear hb4 s0 s1 s2 l1 l2 l3
          go_wp2
          go_ret
          exact ⟨by first | rfl | rw [if_pos hlt], hBv⟩
    · obtain rfl : j = m := by omega
      have hd := decide_eq_false (show ¬ ((j : Int) < (l : Int)) by omega)
      clear hLr
      go_wp2
      go_ret
      exact ⟨by first | rfl | rw [if_neg hlt], hBw⟩
end
end Go.Proofs.Ytmbjhncgdmbpaab
