/-
  CONTRACT OF CountLabelings: the model's.
-/
import Derived.Test.YtmbjhncgdmbpaabKCl
namespace Go.Proofs.Ytmbjhncgdmbpaab
open Go.RowKit Go.Shelf
set_option maxRecDepth 100000

section
variable (w : World)
set_option maxHeartbeats 4000000 in
theorem scl_ok (k n e : Nat) (h : VK k n e) :
    Calls Try.prog 26 #[.agg #[.int .i64 k, .int .i64 n, .int .u32 e]] w fun r w' => r = .returned (.tuple #[.int .i64 (cL n k e (lists n k) : Nat), .int .i64 0]) ∧ Below w.heap.size w w' := by
  obtain ⟨he, hn5, hk3, hkn⟩ := h.nums
  obtain ⟨m, hm⟩ : ∃ m, leastK n k e = m := ⟨_, rfl⟩
  have hF0 := FC.made w k n e 49
  go_enter Try.func26, Try.ntmps26
  go_wp2_with fail
  refine (sok_t _ k n e h).mono ?_
  rintro r1 w1 ⟨rfl, hb1⟩
  obtain ⟨hc1_0, hz1_0⟩ := bkeep hb1 (w.heap.size) (by (try simp) <;> omega)
  have hF1 := hF0.below hb1
  go_wp2_with fail
  refine (sleastK_any _ k n e h).mono ?_
  rw [hm]
  rintro r2 w2 ⟨rfl, hb2⟩
  have hF2 := hF1.below hb2
  have hB2 : Below w.heap.size w w2 := by (repeat (first | exact Below.refl _ _ | assumption | refine bchain (by assumption) ?_ | refine balloc ?_ _ | apply Below.drew | apply below_drewN | (refine Below.alloc ?_ (by (try simp) <;> omega) _) | (refine Below.setCell ?_ (by (try simp) <;> omega) _)))
  obtain ⟨W2, hW2⟩ : ∃ W2, W2 = w2.alloc (.cells #[.int .i64 (k : Int), .int .i64 (n : Int), .int .u32 (m : Int)] 49) := ⟨_, rfl⟩
  have hb2W : Below w2.heap.size w2 W2 := by rw [hW2]; (repeat (first | exact Below.refl _ _ | assumption | refine bchain (by assumption) ?_ | refine balloc ?_ _ | apply Below.drew | apply below_drewN | (refine Below.alloc ?_ (by (try simp) <;> omega) _) | (refine Below.setCell ?_ (by (try simp) <;> omega) _)))
  have hFW := hF2.below hb2W
  have hLW : FC W2 w2.heap.size k n m := by rw [hW2]; exact FC.made w2 k n m _
  have hBW := hB2.trans (hb2W.mono hB2.size)
  obtain ⟨L, hL⟩ : ∃ L, w2.heap.size = L := ⟨_, rfl⟩
  rw [hL] at hLW
  obtain ⟨q0, q1, q2, q3⟩ := hF2
  replace hL := Lib.hid hL
  replace hW2 := Lib.hid hW2
  replace hLW := Lib.hid hLW
  clear hF0 hF1 hb1 hb2 hb2W hB2 hz1_0 hc1_0
  go_wp2_with fail
  refine (firstS_any _ k (by omega)).mono ?_
  rintro r4 w4 ⟨⟨v, rfl, hO, ad, cap, hv⟩, hb4⟩
  rw [← hW2.out] at hb4 hO
  have hGz := hFW.lt
  have hLz := hLW.out.lt
  have hzW := hb4.size
  have hF4 := hFW.below hb4
  have hL4 := hLW.out.below hb4
  have hB4 : Below w.heap.size w w4 := hBW.trans (hb4.mono hBW.size)
  obtain ⟨G, hG⟩ : ∃ G, w.heap.size = G := ⟨_, rfl⟩
  rw [hG] at hF4 hB4 hGz q0 q1 q2 q3 ⊢
  rw [hL.out]
  have hs0 := Lib.hid (⟨hF4, hL4, hB4⟩ : FC w4 G k n e ∧ FC w4 L k n m ∧ Below G w w4)
  replace hO := Lib.hid (hO.congr (fun i hi => lf_range k i hi))
  replace hv := Lib.hid hv
  clear hF4 hL4 hB4 hb4 hBW hFW hLW q0 q1 q2 q3
  replace hG := Lib.hid hG
  have hcm := Lib.hid (show cL n k e (lists n k) = cL n k e (lists n k) from rfl)
  have hgl := fun (x : List Nat) => (show labP n k e x = (leastK n k (onL e (ordF n x)) == m) by unfold labP; rw [hm])
  replace hgl := Lib.hid hgl
  replace hm := Lib.hid hm
  replace h := Lib.hid h
  go_wp2_with fail
  go_loopg [5, 7] ((lists n k).length) (fun c q s wr => SlHead W2 v n k (fun pre W => q = .int .i64 (cL n k e pre : Nat) ∧ FC W G k n e ∧ FC W L k n m ∧ Below G w W) c s wr)
  case atStart =>
    have hf := lists_first n hn5 k hkn
    exact .inl ⟨0, _, (List.getElem?_eq_some_iff.1 hf).1, by omega, rfl, hf, hO.out, rfl, hs0.out⟩
  case round =>
    rcases hrel with ⟨j, x, hj, hc, rfl, hx, hOx, rfl, hFx, hLx, hBx⟩ | ⟨hc, rfl, rfl, hFx, hLx, hBx⟩
    · have hokx := lists_ok (n := n) (k := k) hn5 (by omega) (x := x) (List.mem_of_getElem? hx)
      have hst := lists_step hn5 hkn hj hx
      have hxm := ok_length hokx
      have hok := ordF_ok hn5 hk3 hokx
      have hV : VK k n (onL e (ordF n x)) := VK.mk' hn5 hk3 hkn (onL_ltP e hok hn5)
      have hOr := Lib.hid (fun W (hW : Below wr.heap.size wr W) => slabd_any W n e k x v h.out.1 hk3 hokx ⟨((hOx.below hW).see hxm), ad, cap, by rw [zl_length, hxm]; exact hv.out⟩)
      have hLs := Lib.hid (fun W => sleastK_any W k n (onL e (ordF n x)) hV)
      have hkl : cL n k e ((lists n k).take j) < 1000 := by
        have h1 := cL_le n k e ((lists n k).take j)
        have h2 := listsL_len n hn5 k (by omega)
        rw [List.length_take] at h1
        omega
      obtain ⟨y, hy⟩ : ∃ y, onL e (ordF n x) = y := ⟨_, rfl⟩
      have hbe0 := hgl.out x
      rw [hy] at hOr hLs hbe0
      obtain ⟨z0, hz0⟩ : ∃ z0, leastK n k y = z0 := ⟨_, rfl⟩
      rw [hz0] at hLs hbe0
      have hq := fun W => eqFl W k k n n z0 m
      have hbe : ((k : Int) == k && ((n : Int) == n && (z0 : Int) == (m : Int))) = labP n k e x := by
        rw [hbe0, Bool.eq_iff_iff]; simp; omega
      rw [hbe] at hq
      have hnx : cL n k e ((lists n k).take (j + 1)) = cL n k e ((lists n k).take j) + if labP n k e x then 1 else 0 := by rw [take_snoc' hx, cL_snoc]
      obtain ⟨ok, hok2⟩ : ∃ ok, labP n k e x = ok := ⟨_, rfl⟩
      rw [hok2] at hq hnx
      obtain ⟨z, hz⟩ : ∃ z, cL n k e ((lists n k).take j) = z := ⟨_, rfl⟩
      rw [hz] at hnx hkl ⊢
      clear hz hbe hbe0 hok2 hz0 hy hV hok
      have hend : ∀ (e4 : Ending) (W w5 : World), NextAt n k W2 v x W e4 w5 → FC W G k n e → FC W L k n m → Below G w W →
          ∃ ok2 : Bool, e4 = .returned (.bool ok2) ∧ Hid (∃ c', c' < gk ∧ SlHead W2 v n k (fun pre W => (Value.int .i64 ((z : Int) + if ok then 1 else 0)) = .int .i64 (cL n k e pre : Nat) ∧ FC W G k n e ∧ FC W L k n m ∧ Below G w W) c' (.bool ok2) w5) := fun e4 W w5 hN hFW hLW hBW => by
        have hcv : (Value.int .i64 ((z : Int) + if ok then 1 else 0)) = .int .i64 (cL n k e ((lists n k).take (j + 1)) : Nat) := by rw [hnx]; cases ok <;> simp
        rcases hN with ⟨x', hy, he4, hyk, hOy, hbN⟩ | ⟨hy, he4, hbN⟩
        · rw [hst] at hy
          have hj1 := (List.getElem?_eq_some_iff.1 hy).1
          exact ⟨true, he4, (lists n k).length - (j + 1), by omega, .inl ⟨j + 1, x', hj1, rfl, rfl, hy, hOy, hcv, hFW.under hbN hGz, hLW.under hbN hLz, hBW.trans (hbN.mono (by omega))⟩⟩
        · rw [hst] at hy
          have hj1 : (lists n k).length ≤ j + 1 := by simpa using hy
          rw [List.take_of_length_le hj1] at hcv
          exact ⟨false, he4, 0, by omega, .inr ⟨rfl, rfl, hcv, hFW.under hbN hGz, hLW.under hbN hLz, hBW.trans (hbN.mono (by omega))⟩⟩
      have hGw : G ≤ wr.heap.size := by have := hFx.lt; omega
      replace hend := Lib.hid hend
      replace hx := Lib.hid hx
      replace hst := Lib.hid hst
      replace hnx := Lib.hid hnx
      replace hOx := Lib.hid hOx
      replace hc := Lib.hid hc
      replace hokx := Lib.hid hokx
      replace hxm := Lib.hid hxm
      obtain ⟨f0, f1, f2, f3⟩ := id hFx
      obtain ⟨l0, l1, l2, l3⟩ := id hLx
      replace hFx := Lib.hid hFx
      replace hLx := Lib.hid hLx
      cases ok
      all_goals
        simp only [if_true, if_false, Bool.false_eq_true, Int.add_zero] at hend
        go_wp2_with fail
        go_region_held3 (fun A => A.cell? ⟨G, 0, none⟩ = some (.int .i64 k) ∧ A.cell? ⟨G, 1, none⟩ = some (.int .i64 n) ∧ A.cell? ⟨G, 2, none⟩ = some (.int .u32 e) ∧ A.cell? ⟨L, 0, none⟩ = some (.int .i64 k) ∧ A.cell? ⟨L, 1, none⟩ = some (.int .i64 n) ∧ A.cell? ⟨L, 2, none⟩ = some (.int .u32 m))
          (exact ⟨old_cell f0 f1 (by (repeat (first | exact Below.refl _ _ | assumption | refine bchain (by assumption) ?_ | refine balloc ?_ _ | apply Below.drew | apply below_drewN | (refine Below.alloc ?_ (by (try simp) <;> omega) _) | (refine Below.setCell ?_ (by (try simp) <;> omega) _)))), old_cell f0 f2 (by (repeat (first | exact Below.refl _ _ | assumption | refine bchain (by assumption) ?_ | refine balloc ?_ _ | apply Below.drew | apply below_drewN | (refine Below.alloc ?_ (by (try simp) <;> omega) _) | (refine Below.setCell ?_ (by (try simp) <;> omega) _)))), old_cell f0 f3 (by (repeat (first | exact Below.refl _ _ | assumption | refine bchain (by assumption) ?_ | refine balloc ?_ _ | apply Below.drew | apply below_drewN | (refine Below.alloc ?_ (by (try simp) <;> omega) _) | (refine Below.setCell ?_ (by (try simp) <;> omega) _)))), old_cell l0 l1 (by (repeat (first | exact Below.refl _ _ | assumption | refine bchain (by assumption) ?_ | refine balloc ?_ _ | apply Below.drew | apply below_drewN | (refine Below.alloc ?_ (by (try simp) <;> omega) _) | (refine Below.setCell ?_ (by (try simp) <;> omega) _)))), old_cell l0 l2 (by (repeat (first | exact Below.refl _ _ | assumption | refine bchain (by assumption) ?_ | refine balloc ?_ _ | apply Below.drew | apply below_drewN | (refine Below.alloc ?_ (by (try simp) <;> omega) _) | (refine Below.setCell ?_ (by (try simp) <;> omega) _)))), old_cell l0 l3 (by (repeat (first | exact Below.refl _ _ | assumption | refine bchain (by assumption) ?_ | refine balloc ?_ _ | apply Below.drew | apply below_drewN | (refine Below.alloc ?_ (by (try simp) <;> omega) _) | (refine Below.setCell ?_ (by (try simp) <;> omega) _))))⟩)
          (first
          | (go_at_call 55; refine (hOr.out _ (by (repeat (first | exact Below.refl _ _ | assumption | refine bchain (by assumption) ?_ | refine balloc ?_ _ | apply Below.drew | apply below_drewN | (refine Below.alloc ?_ (by (try simp) <;> omega) _) | (refine Below.setCell ?_ (by (try simp) <;> omega) _))))).mono ?_; rintro r3 w5 ⟨rfl, hb5⟩)
          | (go_at_call 52; refine (hLs.out _).mono ?_; rintro r4 w6 ⟨rfl, hb6⟩))
        all_goals
          have hb56 : Below wr.heap.size wr w6 := by (repeat (first | exact Below.refl _ _ | assumption | refine bchain (by assumption) ?_ | refine balloc ?_ _ | apply Below.drew | apply below_drewN | (refine Below.alloc ?_ (by (try simp) <;> omega) _) | (refine Below.setCell ?_ (by (try simp) <;> omega) _)))
          have hOw := Lib.hid (hOx.out.below hb56)
          have hFw := hFx.out.below hb56
          have hLw := hLx.out.below hb56
          have hBw : Below G w w6 := hBx.trans (hb56.mono hGw)
          obtain ⟨d0, d1, d2, d3⟩ := id hFw
          replace hFw := Lib.hid hFw
          replace hLw := Lib.hid hLw
          clear f1 f2 f3 l1 l2 l3 hb5 hb6 hb56
          go_wp2_with fail
          refine (next_any _ W2 v n k x hOw.out hn5 (by omega) hokx.out).mono ?_
          rintro r5 w7 hN
          obtain ⟨ok2, rfl, hE⟩ := hend.out r5 _ w7 hN hFw.out hLw.out hBw
          clear hN
          go_wp2
          obtain ⟨c', hc1, hc2⟩ := hE.out
          go_roundg c'
          case measure => exact hc1
          case rel => exact hc2
    · obtain ⟨y, hy⟩ : ∃ y : Nat, cL n k e (lists n k) = y := ⟨_, rfl⟩
      rw [hy]
      replace hy := Lib.hid hy
      clear hFx hLx hcm
      go_wp2
      go_ret2
      exact ⟨by rw [hy.out]; rfl, by rw [hG.out]; exact hBx⟩
end
theorem cl_both (k n e : Int) (hn : e < 4294967296) (he0 : 0 ≤ e) : ∃ (b c : Int),
    (∀ W, Calls Try.prog 26 #[.agg #[.int .i64 k, .int .i64 n, .int .u32 e]] W fun r w' => r = .returned (.tuple #[.int .i64 b, .int .i64 c]) ∧ Below W.heap.size W w') ∧
    (∀ W, Calls Try.prog 27 #[.agg #[.int .i64 k, .int .i64 n, .int .u32 e]] W fun r w' => r = .returned (.tuple #[.int .i64 b, .int .i64 c]) ∧ Below W.heap.size W w') := by
  by_cases h : VK k n e
  · obtain ⟨k', rfl⟩ : ∃ x : Nat, k = x := ⟨k.toNat, by have := h.2.1; omega⟩
    obtain ⟨n', rfl⟩ : ∃ x : Nat, n = x := ⟨n.toNat, by have := h.1.1; omega⟩
    obtain ⟨e', rfl⟩ : ∃ x : Nat, e = x := ⟨e.toNat, by omega⟩
    exact ⟨_, _, fun W => scl_ok W k' n' e' h, fun W => icl_ok W k' n' e' h⟩
  · exact ⟨_, _, fun W => scl_inv W k n e hn he0 h, fun W => icl_inv W k n e hn he0 h⟩
end Go.Proofs.Ytmbjhncgdmbpaab
