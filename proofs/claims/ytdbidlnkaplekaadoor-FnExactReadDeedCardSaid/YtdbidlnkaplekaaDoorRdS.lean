/-
  ReadDeed: the model's contract.
-/
import Derived.Test.YtdbidlnkaplekaaDoorRdD
import Derived.Test.YtdbidlnkaplekaaDoorRdB
import Derived.Test.YtdbidlnkaplekaaDoorSw
import Derived.Test.YtdbidlnkaplekaaDoorPv
namespace Go.Proofs.YtdbidlnkaplekaaDoor
open Go.RowKit
set_option maxRecDepth 100000
attribute [local go_sem] Oper.semAt_some
section
variable (w : World)
set_option maxHeartbeats 8000000 in
theorem srd_any (l : List UInt8) (hl : l.length ≤ 1048576) :
    Calls Tryd.prog 5 #[.string (tx l)] w fun r w' => RdP l r ∧ Below w.heap.size w w' := by
  have hfR := DB.made w 0 0 0 23
  have hB0 : Below w.heap.size w (w.alloc (.cells #[.int .i64 0, .int .i64 0, .int .i64 0] 23)) := by (repeat (first | exact Below.refl _ _ | assumption | refine bchain (by assumption) ?_ | refine balloc ?_ _ | apply Below.drew | apply below_drewN | (refine Below.alloc ?_ (by (try simp) <;> omega) _) | (refine Below.setCell ?_ (by (try simp) <;> omega) _)))
  obtain ⟨W0, hW0⟩ : ∃ W0, W0 = w.alloc (.cells #[.int .i64 0, .int .i64 0, .int .i64 0] 23) := ⟨_, rfl⟩
  rw [← hW0] at hfR hB0
  have hz0 : W0.heap.size = w.heap.size + 1 := by rw [hW0]; simp
  replace hW0 := Lib.hid hW0
  have hSp : ∀ W, Calls Tryd.prog 13 #[.string (tx l), .int .u8 32] W fun r w' => (∃ v, r = .returned v ∧ WordsAt W w' v (splA 32 [] l)) ∧ Below W.heap.size W w' := fun W => sspl_any W l 32 (by omega)
  replace hSp := Lib.hid hSp
  have hSw := Lib.hid (fun W => swords_any W)
  have hSn := Lib.hid (fun W x (hx : x.length ≤ 2000000) => snumS_any W x hx)
  have hSd := Lib.hid (fun W k a b => sldeed_any W k a b)
  have hws := Lib.hid (fun (k a b : Nat) (hv : VD k a b) (h : l = dL k a b) => show splA 32 [] l = wdW k :: nmL k a b by rw [h]; exact spl_dL k a b (vd_nat hv).1)
  have hof := Lib.hid (fun (k a b : Nat) (h : splA 32 [] l = wdW k :: nmL k a b) => dL_of h)
  have hwl := Lib.hid (fun x (hx : x ∈ splA 32 [] l) => splA_len hl x hx)
  have hne := splA_ne 32 l []
  obtain ⟨s, hs⟩ : ∃ s, tx l = s := ⟨_, rfl⟩
  rw [hs] at hSp ⊢
  obtain ⟨ws, hwse⟩ : ∃ ws, splA 32 [] l = ws := ⟨_, rfl⟩
  rw [hwse] at hSp hws hof hwl hne
  have hn0 : 0 < ws.length := List.length_pos_iff.2 hne
  have hwA := Lib.hid (fun i (hi : i < ws.length) => show ws[i] = wA ws i by unfold wA; rw [List.getElem?_eq_getElem hi]; rfl)
  have hwAl := Lib.hid (fun i (hi : i < ws.length) => show (wA ws i).length ≤ 2000000 by rw [← hwA.out i hi]; have := hwl.out _ (List.getElem_mem hi); omega)
  obtain ⟨n, hn⟩ : ∃ n, ws.length = n := ⟨_, rfl⟩
  replace hn := Lib.hid hn
  clear hs hwse hwl hne
  go_enter Tryd.func5, Tryd.ntmps5
  go_wp2_with fail
  rw [← hW0.out]
  refine (hSp.out _).mono ?_
  rintro r1 w1 ⟨⟨v, rfl, LB, cap, rfl, hL1, hL2, hLc⟩, hb1⟩
  rw [hn.out] at hn0 ⊢
  have hLc' := Lib.hid (fun i (hi : i < n) => show w1.cell? ⟨LB, i, none⟩ = some (.string (tx (wA ws i))) by rw [← hwA.out i (by have := hn.out; omega)]; exact hLc i (by have := hn.out; omega))
  clear hLc
  have hB1 := bchain hb1 hB0
  have hfR1 := hfR.below hb1
  go_wp2_with fail
  refine (hSw.out _).mono ?_
  rintro r2 w2 h2
  unfold WordsL at h2
  obtain ⟨A1, A2, rfl, hb2, hA1, hA2, hc1, hc2⟩ := h2
  have hLc2 := Lib.hid (fun i (hi : i < n) => (hb2.cell (p := ⟨LB, i, none⟩) hL2).trans (hLc'.out i hi))
  have hc1' := Lib.hid hc1
  have hc2' := Lib.hid hc2
  have hL3 : LB < w2.heap.size := Nat.lt_of_lt_of_le hL2 hb2.size
  have hB2 := bchain hb2 hB1
  have hfR2 := Lib.hid (hfR1.below hb2)
  have hRz : w.heap.size < w2.heap.size := by have := hfR2.out.lt; exact this
  clear hc1 hc2 hLc' hfR1 hfR hb1 hb2
  have hfD := DB.made w2 0 0 0 23
  have hBD : Below w2.heap.size w2 (w2.alloc (.cells #[.int .i64 0, .int .i64 0, .int .i64 0] 23)) := balloc (Below.refl _ _) _
  obtain ⟨W3, hW3⟩ : ∃ W3, W3 = w2.alloc (.cells #[.int .i64 0, .int .i64 0, .int .i64 0] 23) := ⟨_, rfl⟩
  rw [← hW3] at hfD hBD
  obtain ⟨D, hD⟩ : ∃ D, w2.heap.size = D := ⟨_, rfl⟩
  rw [hD] at hfD hBD hL3 hA1 hA2 hRz
  replace hW3 := Lib.hid hW3
  have hfD' := Lib.hid hfD
  have hBD' := Lib.hid hBD
  replace hD := Lib.hid hD
  clear hfD hBD
  obtain ⟨x, hx⟩ : ∃ x, wA ws 0 = x := ⟨_, rfl⟩
  have hx0 := hLc2.out 0 (by omega)
  rw [hx] at hx0
  have htl : (tx x).toList = x := ByteArray.toList_mk x
  obtain ⟨tX, htX⟩ : ∃ t, tx x = t := ⟨_, rfl⟩
  rw [htX] at hx0 htl
  replace htl := Lib.hid htl
  replace hx := Lib.hid hx
  clear htX
  go_wp2_with fail
  rw [← hW3.out, hD.out]
  go_loopw [8] (fun i wr => ∃ k K : Nat, 1 ≤ k ∧ k ≤ 8 ∧ i = .int .i64 k ∧ Hid (kdOf x K k) ∧ DB wr D K 0 0 ∧ Below D w2 wr) (fun i _ => 8 - (intOf i).toNat)
  case atStart => exact ⟨1, 0, by omega, by omega, rfl, kdOf_zero x, hfD'.out, hBD'.out⟩
  case round =>
    clear hfD' hBD' hW3 hW0
    obtain ⟨k, K, hk1, hk8, rfl, hkd, hfD, hB⟩ := hrel
    have hDz := hfD.lt
    by_cases hlt : k < 8
    · have hd := decide_eq_true (show ((k : Int) < 8) by omega)
      have p0 := bw_cell (show A1 < wr.heap.size by omega) ((hB.cell (p := ⟨A1, k, none⟩) hA1).trans (hc1'.out k hlt))
      have p1 := bw_cell (show LB < wr.heap.size by omega) ((hB.cell (p := ⟨LB, 0, none⟩) hL3).trans hx0)
      have dq : ((wdB k).toList == tX.toList) = decide (wdW k = x) := by
        rw [htl.out, wdB_tx, show (tx (wdW k)).toList = wdW k from ByteArray.toList_mk _]
        by_cases h : wdW k = x
        · rw [h]; simp
        · rw [decide_eq_false h]; exact beq_false_of_ne h
      obtain ⟨tK, htK⟩ : ∃ t, wdB k = t := ⟨_, rfl⟩
      rw [htK] at p0 dq
      clear htK
      have hk0 : (0 : Int) ≤ (k : Int) := by omega
      have hn0' : (0 : Int) < (n : Int) := by omega
      have hk8' : (k : Int) < 8 := by omega
      by_cases c : wdW k = x
      · rw [decide_eq_true c] at dq
        have hkd2 := Lib.hid (kdOf_yes hk1 hlt c)
        clear c hkd
        go_wp2_with fail
        refine wp_region_below (by kernel_rfl) (by kernel_rfl) ?_
        iterate 8 (quiet_step (fail))
        refine wpQuiet_nil ?_
        intro w3 hw'
        obtain ⟨⟨wx, hb_w3⟩, rfl⟩ := hw'
        have hfD3 := hfD.below hb_w3
        have hfD3' := Lib.hid hfD3
        obtain ⟨_, z0, z1, z2, zz⟩ := hfD3
        have zz0 := zz 0
        clear zz
        go_wp2
        go_roundw
        case rel => exact ⟨k + 1, k, by omega, by omega, by go_num, hkd2, hfD3'.out.set0 k, (hB.trans (hb_w3.mono (by omega))).setCell (p := ⟨D, 0, none⟩) (Nat.le_refl _) _⟩
        case measure => simp [intOf]; omega
      · rw [decide_eq_false c] at dq
        have hkd2 := Lib.hid (kdOf_no hkd.out c)
        clear c hkd
        go_wp2_with fail
        refine wp_region_below (by kernel_rfl) (by kernel_rfl) ?_
        iterate 8 (quiet_step (fail))
        refine wpQuiet_nil ?_
        intro w3 hw'
        obtain ⟨⟨wx, hb_w3⟩, rfl⟩ := hw'
        have hfD3 := hfD.below hb_w3
        clear hfD
        go_wp2
        go_roundw
        case rel => exact ⟨k + 1, K, by omega, by omega, by go_num, hkd2, hfD3, hB.trans (hb_w3.mono (by omega))⟩
        case measure => simp [intOf]; omega
    · have hd := decide_eq_false (show ¬ ((k : Int) < 8) by omega)
      have hk88 : k = 8 := by omega
      rw [hk88] at hkd
      replace hk88 := Lib.hid hk88
      clear hlt
      have hfD' := Lib.hid hfD
      obtain ⟨_, z0, z1, z2, _⟩ := hfD
      by_cases hK0 : K = 0
      · subst hK0
        have hbad := Lib.hid (rdP_bad (l := l) (fun k a b hv h => by
          have h1 := hws.out k a b hv h
          have h2 : wdW k = x := by rw [← hx.out, h1]; rfl
          have := kdOf_at hkd.out (vd_nat hv).2.1 (vd_nat hv).1 h2
          have := (vd_nat hv).2.1
          omega))
        clear hkd
        have hfRk := hfR2.out.below (W' := wr) (by rw [hD.out]; exact hB)
        have hBw : Below w.heap.size w wr := hB2.trans ((hB).mono (by omega))
        have hfRk' := Lib.hid hfRk
        obtain ⟨_, r0, r1, r2, rz⟩ := hfRk
        have rz0 := rz 0
        have rz1 := rz 1
        have rz2 := rz 2
        clear rz
        go_wp2
        have hG := (hfRk'.out).put (0) (0) (0)
        have hBB := (((hBw).setCell (p := ⟨w.heap.size, 0, none⟩) (Nat.le_refl _) (.int .i64 (0))).setCell (p := ⟨w.heap.size, 1, none⟩) (Nat.le_refl _) (.int .i64 (0))).setCell (p := ⟨w.heap.size, 2, none⟩) (Nat.le_refl _) (.int .i64 (0))
        obtain ⟨WW, hWW⟩ : ∃ WW, WW = (((wr).setCell ⟨w.heap.size, 0, none⟩ (.int .i64 (0))).setCell ⟨w.heap.size, 1, none⟩ (.int .i64 (0))).setCell ⟨w.heap.size, 2, none⟩ (.int .i64 (0)) := ⟨_, rfl⟩
        rw [← hWW] at hG hBB ⊢
        clear hWW
        obtain ⟨_, F0, F1, F2, _⟩ := hG
        exact bodyPost_ret (v := .tuple #[.agg #[.int .i64 (0), .int .i64 (0), .int .i64 (0)], .int .i64 5]) (by simp [results, Tryd.results5, go_sem, F0, F1, F2]) rfl ⟨hbad.out, hBB⟩
      have hKx : Hid (1 ≤ K ∧ K < 8 ∧ wdW K = x) := by
        rcases hkd.out with ⟨h1, _⟩ | ⟨h1, _, h3, h4⟩
        · exact absurd h1 hK0
        · exact ⟨h1, h3, h4⟩
      have hK8 : K < 8 := hKx.out.2.1
      have eK : ((K : Int) == 0) = false := by simp; omega
      obtain ⟨m, hm, hm2⟩ := wdN_nat K hK8
      have p2 := (hB.cell (p := ⟨A2, K, none⟩) hA2).trans (hc2'.out K hK8)
      rw [hm] at p2
      have hKk := Lib.hid (fun (k a b : Nat) (hv : VD k a b) (h : l = dL k a b) => show K = k by
        have h2 : wdW k = x := by rw [← hx.out, hws.out k a b hv h]; rfl
        exact kdOf_at hkd.out (vd_nat hv).2.1 (vd_nat hv).1 h2)
      have hk0 : (0 : Int) ≤ (K : Int) := by omega
      have hk8i : (K : Int) < 8 := by omega
      have ew : IntKind.i64.wrap ((m : Int) + 1) = (m : Int) + 1 := IntWalk.i64_in _ ⟨by omega, by omega⟩
      replace hm := Lib.hid hm
      clear hkd
      by_cases hnm : n = m + 1
      · have e1 : ((n : Int) == (m : Int) + 1) = true := by simp; omega
        have e2 : ((n : Int) != (m : Int) + 1) = false := by simp; omega
        have hwl := Lib.hid (show (ws.length : Int) = wdN K + 1 by rw [hn.out, hm.out]; omega)
        have hn3 : n ≤ 3 := by omega
        clear hnm
        go_wp2_with fail
        clear e1 e2 ew p2 z0 z1 z2 eK
        go_loopw [3, 9, 10, 11] (fun _ i _ _ wr => ∃ i' A B : Nat, 1 ≤ i' ∧ i' ≤ n ∧ i = .int .i64 i' ∧ Hid (NmSt ws i' A B) ∧ DB wr D K A B ∧ Below D w2 wr) (fun _ i _ _ _ => n - (intOf i).toNat)
        case atStart => exact ⟨1, 0, 0, by omega, by omega, rfl, nmSt_start ws, hfD'.out, hB⟩
        case round =>
          clear hfD' hB
          obtain ⟨i, A, B, hi1, hin, rfl, hst, hfD, hB⟩ := hrel
          have hDz := hfD.lt
          by_cases hlt : i < n
          · have hd := decide_eq_true (show ((i : Int) < (n : Int)) by omega)
            have p0 := (hB.cell (p := ⟨LB, i, none⟩) hL3).trans (hLc2.out i hlt)
            have hC := Lib.hid (hSn.out wr (wA ws i) (hwAl.out i (by have := hn.out; omega)))
            obtain ⟨tW, htW⟩ : ∃ t, tx (wA ws i) = t := ⟨_, rfl⟩
            rw [htW] at p0 hC
            clear htW
            have hi0 : (0 : Int) ≤ (i : Int) := by omega
            go_wp2_with fail
            refine hC.out.mono ?_
            rintro r4 w4 ⟨⟨q, bb, rfl, hq⟩, hb4⟩
            have hfD4 := hfD.below hb4
            have hB4 := hB.trans (hb4.mono (by omega))
            clear hb4 p0 hC hfD hB hDz
            cases bb with
            | false =>
              have hbad := Lib.hid (rdP_bad (l := l) (fun k a b hv h => by
                have h1 := hws.out k a b hv h
                obtain ⟨q', hq1, hq2⟩ := nmL_dec hv i hi1 (by rw [← h1, hn.out]; exact hlt)
                rw [← h1] at hq2
                have := (hq.1.2 q' (by omega) hq2).2
                cases this))
              clear hq
              have hfRk := hfR2.out.below (W' := w4) (by rw [hD.out]; exact hB4)
              have hBw : Below w.heap.size w w4 := hB2.trans ((hB4).mono (by omega))
              have hfRk' := Lib.hid hfRk
              obtain ⟨_, r0, r1, r2, rz⟩ := hfRk
              have rz0 := rz 0
              have rz1 := rz 1
              have rz2 := rz 2
              clear rz
              go_wp2
              have hG := (hfRk'.out).put (0) (0) (0)
              have hBB := (((hBw).setCell (p := ⟨w.heap.size, 0, none⟩) (Nat.le_refl _) (.int .i64 (0))).setCell (p := ⟨w.heap.size, 1, none⟩) (Nat.le_refl _) (.int .i64 (0))).setCell (p := ⟨w.heap.size, 2, none⟩) (Nat.le_refl _) (.int .i64 (0))
              obtain ⟨WW, hWW⟩ : ∃ WW, WW = (((w4).setCell ⟨w.heap.size, 0, none⟩ (.int .i64 (0))).setCell ⟨w.heap.size, 1, none⟩ (.int .i64 (0))).setCell ⟨w.heap.size, 2, none⟩ (.int .i64 (0)) := ⟨_, rfl⟩
              rw [← hWW] at hG hBB ⊢
              clear hWW
              obtain ⟨_, F0, F1, F2, _⟩ := hG
              exact bodyPost_ret (v := .tuple #[.agg #[.int .i64 (0), .int .i64 (0), .int .i64 (0)], .int .i64 5]) (by simp [results, Tryd.results5, go_sem, F0, F1, F2]) rfl ⟨hbad.out, hBB⟩
            | true =>
              have hqd := Lib.hid (hq.2 rfl)
              clear hq
              have hfD4' := Lib.hid hfD4
              obtain ⟨_, z0, z1, z2, zz⟩ := hfD4
              have zz1 := zz 1
              have zz2 := zz 2
              clear zz
              by_cases hi : i = 1
              · have d1 : ((i : Int) == 1) = true := by simp; omega
                have hst2 := Lib.hid (nmSt_one (n := q) (by rw [← hi]; exact hst.out) (by rw [← hi]; exact hqd.out))
                replace hi := Lib.hid hi
                go_wp2
                go_roundw
                case rel => exact ⟨i + 1, q, B, by omega, by omega, by go_num, by rw [hi.out]; exact hst2.out, hfD4'.out.set1 q, hB4.setCell (p := ⟨D, 1, none⟩) (Nat.le_refl _) _⟩
                case measure => simp [intOf]; omega
              · have d1 : ((i : Int) == 1) = false := by simp; omega
                have hi2 : i = 2 := by omega
                have hst2 := Lib.hid (nmSt_two (n := q) (by rw [← hi2]; exact hst.out) (by rw [← hi2]; exact hqd.out))
                replace hi2 := Lib.hid hi2
                clear hi
                go_wp2
                go_roundw
                case rel => exact ⟨i + 1, A, q, by omega, by omega, by go_num, by rw [hi2.out]; exact hst2.out, hfD4'.out.set2 q, hB4.setCell (p := ⟨D, 2, none⟩) (Nat.le_refl _) _⟩
                case measure => simp [intOf]; omega
          · have hd := decide_eq_false (show ¬ ((i : Int) < (n : Int)) by omega)
            obtain rfl : i = n := by omega
            have hfD' := Lib.hid hfD
            obtain ⟨_, z0, z1, z2, _⟩ := hfD
            have hSd2 := Lib.hid (hSd.out wr K A B)
            have hst3 := Lib.hid (show NmSt ws ws.length A B by rw [hn.out]; exact hst.out)
            by_cases hV : VD K A B
            · rw [decide_eq_true hV] at hSd2
              have hok := Lib.hid (rdP_ok hV (hof.out K A B (nmSt_ok hK8 hwl.out (by rw [hx.out]; exact hKx.out.2.2) hst3.out)))
              clear hV
              go_wp2_with fail
              refine hSd2.out.mono ?_
              rintro r4 w4 ⟨rfl, hb4⟩
              have hB4 := hB.trans (hb4.mono (by omega))
              obtain ⟨_, y0, y1, y2, _⟩ := hfD'.out.below hb4
              clear z0 z1 z2
              have hfRk := hfR2.out.below (W' := w4) (by rw [hD.out]; exact hB4)
              have hBw : Below w.heap.size w w4 := hB2.trans ((hB4).mono (by omega))
              have hfRk' := Lib.hid hfRk
              obtain ⟨_, r0, r1, r2, rz⟩ := hfRk
              have rz0 := rz 0
              have rz1 := rz 1
              have rz2 := rz 2
              clear rz
              go_wp2
              have hG := (hfRk'.out).put (K) (A) (B)
              have hBB := (((hBw).setCell (p := ⟨w.heap.size, 0, none⟩) (Nat.le_refl _) (.int .i64 (K))).setCell (p := ⟨w.heap.size, 1, none⟩) (Nat.le_refl _) (.int .i64 (A))).setCell (p := ⟨w.heap.size, 2, none⟩) (Nat.le_refl _) (.int .i64 (B))
              obtain ⟨WW, hWW⟩ : ∃ WW, WW = (((w4).setCell ⟨w.heap.size, 0, none⟩ (.int .i64 (K))).setCell ⟨w.heap.size, 1, none⟩ (.int .i64 (A))).setCell ⟨w.heap.size, 2, none⟩ (.int .i64 (B)) := ⟨_, rfl⟩
              rw [← hWW] at hG hBB ⊢
              clear hWW
              obtain ⟨_, F0, F1, F2, _⟩ := hG
              exact bodyPost_ret (v := .tuple #[.agg #[.int .i64 (K), .int .i64 (A), .int .i64 (B)], .int .i64 0]) (by simp [results, Tryd.results5, go_sem, F0, F1, F2]) rfl ⟨hok.out, hBB⟩
            · rw [decide_eq_false hV] at hSd2
              have hbad := Lib.hid (rdP_bad (l := l) (fun k a b hv h => by
                have h1 := hws.out k a b hv h
                have h2 := hst3.out
                rw [h1] at h2
                exact hV (nmSt_bad hv (hKk.out k a b hv h) h2)))
              clear hV
              go_wp2_with fail
              refine hSd2.out.mono ?_
              rintro r4 w4 ⟨rfl, hb4⟩
              have hB4 := hB.trans (hb4.mono (by omega))
              clear z0 z1 z2
              have hfRk := hfR2.out.below (W' := w4) (by rw [hD.out]; exact hB4)
              have hBw : Below w.heap.size w w4 := hB2.trans ((hB4).mono (by omega))
              have hfRk' := Lib.hid hfRk
              obtain ⟨_, r0, r1, r2, rz⟩ := hfRk
              have rz0 := rz 0
              have rz1 := rz 1
              have rz2 := rz 2
              clear rz
              go_wp2
              have hG := (hfRk'.out).put (0) (0) (0)
              have hBB := (((hBw).setCell (p := ⟨w.heap.size, 0, none⟩) (Nat.le_refl _) (.int .i64 (0))).setCell (p := ⟨w.heap.size, 1, none⟩) (Nat.le_refl _) (.int .i64 (0))).setCell (p := ⟨w.heap.size, 2, none⟩) (Nat.le_refl _) (.int .i64 (0))
              obtain ⟨WW, hWW⟩ : ∃ WW, WW = (((w4).setCell ⟨w.heap.size, 0, none⟩ (.int .i64 (0))).setCell ⟨w.heap.size, 1, none⟩ (.int .i64 (0))).setCell ⟨w.heap.size, 2, none⟩ (.int .i64 (0)) := ⟨_, rfl⟩
              rw [← hWW] at hG hBB ⊢
              clear hWW
              obtain ⟨_, F0, F1, F2, _⟩ := hG
              exact bodyPost_ret (v := .tuple #[.agg #[.int .i64 (0), .int .i64 (0), .int .i64 (0)], .int .i64 5]) (by simp [results, Tryd.results5, go_sem, F0, F1, F2]) rfl ⟨hbad.out, hBB⟩
      · have e1 : ((n : Int) == (m : Int) + 1) = false := by simp; omega
        have e2 : ((n : Int) != (m : Int) + 1) = true := by simp; omega
        have hbad := Lib.hid (rdP_bad (l := l) (fun k a b hv h => by
          have h1 := hws.out k a b hv h
          obtain rfl := hKk.out k a b hv h
          have h2 := nmL_len K a b hK8
          rw [hm.out] at h2
          have h3 := hn.out
          rw [h1, List.length_cons] at h3
          omega))
        clear hnm
        have hfRk := hfR2.out.below (W' := wr) (by rw [hD.out]; exact hB)
        have hBw : Below w.heap.size w wr := hB2.trans ((hB).mono (by omega))
        have hfRk' := Lib.hid hfRk
        obtain ⟨_, r0, r1, r2, rz⟩ := hfRk
        have rz0 := rz 0
        have rz1 := rz 1
        have rz2 := rz 2
        clear rz
        go_wp2
        have hG := (hfRk'.out).put (0) (0) (0)
        have hBB := (((hBw).setCell (p := ⟨w.heap.size, 0, none⟩) (Nat.le_refl _) (.int .i64 (0))).setCell (p := ⟨w.heap.size, 1, none⟩) (Nat.le_refl _) (.int .i64 (0))).setCell (p := ⟨w.heap.size, 2, none⟩) (Nat.le_refl _) (.int .i64 (0))
        obtain ⟨WW, hWW⟩ : ∃ WW, WW = (((wr).setCell ⟨w.heap.size, 0, none⟩ (.int .i64 (0))).setCell ⟨w.heap.size, 1, none⟩ (.int .i64 (0))).setCell ⟨w.heap.size, 2, none⟩ (.int .i64 (0)) := ⟨_, rfl⟩
        rw [← hWW] at hG hBB ⊢
        clear hWW
        obtain ⟨_, F0, F1, F2, _⟩ := hG
        exact bodyPost_ret (v := .tuple #[.agg #[.int .i64 (0), .int .i64 (0), .int .i64 (0)], .int .i64 5]) (by simp [results, Tryd.results5, go_sem, F0, F1, F2]) rfl ⟨hbad.out, hBB⟩
end
end Go.Proofs.YtdbidlnkaplekaaDoor
