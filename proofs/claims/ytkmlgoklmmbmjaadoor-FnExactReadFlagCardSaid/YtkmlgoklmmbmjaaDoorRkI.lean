/-
  ReadFlag: the program's contract.
-/
import Derived.Test.YtkmlgoklmmbmjaaDoorRkS
import Derived.Test.YtkmlgoklmmbmjaaDoorRgI
namespace Go.Proofs.YtkmlgoklmmbmjaaDoor
open Go.RowKit
set_option maxRecDepth 100000
attribute [local go_sem] Oper.semAt_some
attribute [-go_sem] run_slice_string_l
section
variable (w : World)
theorem icp_lite (l p : List UInt8) (hl : l.length ≤ 2000000) :
    Calls Tryd.prog 69 #[.string (tx l), .string (tx p)] w fun r w' => (∃ y b, r = .returned (.tuple #[.string (tx y), .bool b]) ∧ (b = true → l = p ++ y) ∧ (b = false → ∀ y, l ≠ p ++ y) ∧ y.length ≤ l.length) ∧ Below w.heap.size w w' := by
  have hH := Tryd.stringslite_HasPrefix (tx l) (tx p)
  simp only [show ∀ x : List UInt8, (tx x).data.toList = x from fun x => by simp [tx]] at hH
  have hp := tx_size p
  cases hb : Lib.hasPrefix l p
  · rw [hb] at hH
    have hno : ∀ y, l ≠ p ++ y := fun y e => by
      subst e
      unfold Lib.hasPrefix at hb
      rw [List.isPrefixOf_iff_prefix.2 (List.prefix_append p y)] at hb
      cases hb
    replace hno := Lib.hid hno
    replace hH := Lib.hid hH
    obtain ⟨s, hs⟩ : ∃ s, tx l = s := ⟨_, rfl⟩
    obtain ⟨t, ht⟩ : ∃ s, tx p = s := ⟨_, rfl⟩
    rw [hs, ht] at hH
    rw [hs, ht]
    replace hs := Lib.hid hs
    clear ht hp hb
    go_enter Tryd.func69, Tryd.ntmps69
    go_wp2_with fail
    refine (hH.out _).mono ?_
    rintro r1 w1 ⟨rfl, rfl⟩
    go_wp2
    go_ret2
    exact ⟨⟨l, false, congrArg (fun z => Ending.returned (Value.tuple #[Value.string z, Value.bool false])) hs.out.symm, (fun c => by cases c), fun _ => hno.out, Nat.le_refl _⟩, Below.refl _ _⟩
  · rw [hb] at hH
    obtain ⟨y, hy⟩ := List.isPrefixOf_iff_prefix.1 (show p.isPrefixOf l = true from hb)
    have hse : ∀ W : World, (Instr.slice 9 (.string (tx l)) (some (.int .i64 (p.length : Int))) none none).run Tryd.prog W = .ok (.string (tx y)) W := fun W => by
      rw [run_slice_string_l W _ _ Tryd.underlying9 _ _ (by omega) (by rw [tx_size, ← hy, List.length_append]; omega)]
      show Result.ok (Value.string ((ByteArray.mk l.toArray).extract _ _)) W = _
      rw [ByteArray.extract_mk, tx_size, List.take_of_length_le (by simp), ← hy]
      simp
      rfl
    have hyl : y.length ≤ l.length := by rw [← hy]; simp
    replace hy := Lib.hid hy
    replace hH := Lib.hid hH
    obtain ⟨s, hs⟩ : ∃ s, tx l = s := ⟨_, rfl⟩
    obtain ⟨t, ht⟩ : ∃ s, tx p = s := ⟨_, rfl⟩
    rw [hs, ht] at hH
    rw [hs] at hse
    rw [ht] at hp
    rw [hs, ht]
    clear ht hb hs
    go_enter Tryd.func69, Tryd.ntmps69
    go_wp2_with fail
    refine (hH.out _).mono ?_
    rintro r1 w1 ⟨rfl, rfl⟩
    go_wp2
    go_ret2
    exact ⟨⟨y, true, rfl, fun _ => hy.out.symm, (fun c => by cases c), hyl⟩, Below.refl _ _⟩
theorem icp_any (l p : List UInt8) (hl : l.length ≤ 2000000) :
    Calls Tryd.prog 49 #[.string (tx l), .string (tx p)] w fun r w' => (∃ y b, r = .returned (.tuple #[.string (tx y), .bool b]) ∧ (b = true → l = p ++ y) ∧ (b = false → ∀ y, l ≠ p ++ y) ∧ y.length ≤ l.length) ∧ Below w.heap.size w w' := by
  have hH := Lib.hid (fun W => icp_lite W l p hl)
  go_enter Tryd.func49, Tryd.ntmps49
  go_wp2_with fail
  refine (hH.out _).mono ?_
  rintro r1 w1 ⟨⟨y, b, rfl, hy⟩, hb1⟩
  replace hy := Lib.hid hy
  go_wp2
  go_ret2
  exact ⟨⟨y, b, rfl, hy.out⟩, hb1⟩
/-- FlagText over whatever labels -/
theorem ikt_any (v : Int) (n e : Nat) (he : e < 4294967296) (hT : TabP w) : Calls Tryd.prog 23 #[.agg #[.int .i64 v, .int .i64 n, .int .u32 e]] w fun r w' => (∃ g, r = .returned (.string (tx g)) ∧ ((∃ k : Nat, v = k ∧ VK k n e ∧ g = kText k n (prE n e)) ∨ (¬ VK v n e ∧ g = []))) ∧ Below w.heap.size w w' := by
  by_cases h : VK v n e
  · obtain ⟨k, rfl⟩ : ∃ k : Nat, v = k := ⟨v.toNat, by have := h.2.1; omega⟩
    exact (ikt_t w k n e h hT).mono fun _ _ ⟨a, b⟩ => ⟨⟨_, a, .inl ⟨k, rfl, h, rfl⟩⟩, b⟩
  · exact (ikt_f w v n e (by omega) (by omega) h).mono fun _ _ ⟨a, b⟩ => ⟨⟨[], a, .inr ⟨h, rfl⟩⟩, b⟩
set_option maxHeartbeats 4000000 in
theorem irk_any (l : List UInt8) (hl : l.length ≤ 1048576) (hL : LibW w) :
    Calls Tryd.prog 25 #[.string (tx l)] w fun r w' => RkP l r ∧ Below w.heap.size w w' := by
  have hCP := Lib.hid (fun W => icp_any W l fHead (by omega))
  have hCu := Lib.hid (fun W (h : Below w.heap.size w W) y (hy : y.length ≤ l.length) => cut_any W y 32 (by omega) (hL.below h))
  have hPi := Lib.hid (fun W (h : Below w.heap.size w W) y (hy : y.length ≤ l.length) => pi_any W y (by omega) (hL.below h))
  have hRG := Lib.hid (fun W (h : Below w.heap.size w W) y (hy : y.length ≤ l.length) => irg_any W y (by omega) (hL.below h))
  have hKT := Lib.hid (fun W (h : Below w.heap.size w W) v (n e : Nat) (he : e < 4294967296) => ikt_any W v n e he (hL.tb.below h))
  have eF : ({ data := #[102, 108, 97, 103, 32] } : ByteArray) = tx fHead := rfl
  have e32 : ({ data := #[32] } : ByteArray) = tx [32] := rfl
  have hfR := Lib.hid (FKB.made w 0 0 0 46)
  have hB0 : Below w.heap.size w (w.alloc (.cells #[.int .i64 0, .int .i64 0, .int .u32 0] 46)) := by (repeat (first | exact Below.refl _ _ | assumption | refine bchain (by assumption) ?_ | refine balloc ?_ _ | apply Below.drew | apply below_drewN | (refine Below.alloc ?_ (by (try simp) <;> omega) _) | (refine Below.setCell ?_ (by (try simp) <;> omega) _)))
  obtain ⟨W0, hW0⟩ : ∃ W0, W0 = w.alloc (.cells #[.int .i64 0, .int .i64 0, .int .u32 0] 46) := ⟨_, rfl⟩
  rw [← hW0] at hfR hB0
  replace hW0 := Lib.hid hW0
  have htl := Lib.hid (show (tx l).toList = l from ByteArray.toList_mk l)
  obtain ⟨s, hs⟩ : ∃ s, tx l = s := ⟨_, rfl⟩
  rw [hs] at hCP htl ⊢
  clear hs hL
  go_enter Tryd.func25, Tryd.ntmps25
  rw [eF, e32]
  obtain ⟨tF, htF⟩ : ∃ t, tx fHead = t := ⟨_, rfl⟩
  obtain ⟨t32, ht32⟩ : ∃ t, tx [32] = t := ⟨_, rfl⟩
  rw [htF] at hCP
  rw [ht32] at hCu
  rw [htF, ht32]
  clear htF ht32
  go_wp2_with fail
  rw [← hW0.out]
  go_wp2_with fail
  refine (hCP.out _).mono ?_
  rintro r1 w1 ⟨⟨y, b, rfl, hy1, hy2, hyl⟩, hb1⟩
  have hB1 := bchain hb1 hB0
  have hfR1 := hfR.out.below hb1
  have hfR1' := Lib.hid hfR1
  replace hy1 := Lib.hid hy1
  replace hy2 := Lib.hid hy2
  obtain ⟨_, r0, r1, r2, rz⟩ := hfR1
  have rz0 := rz 0
  have rz1 := rz 1
  have rz2 := rz 2
  clear rz hb1
  cases b
  · have hbad := Lib.hid (rkP_bad (l := l) (fun k n e hv h => (hy2.out (by first | trivial | rfl)) _ (h.trans (kText_eq (vk_nat hv).1 n (prE n e)))))
    go_wp2
    have hG := (hfR1'.out).put (0) (0) (0)
    have hBB := ((((hB1).setCell (p := ⟨w.heap.size, 0, none⟩) (Nat.le_refl _) (.int .i64 (0))).setCell (p := ⟨w.heap.size, 1, none⟩) (Nat.le_refl _) (.int .i64 (0))).setCell (p := ⟨w.heap.size, 2, none⟩) (Nat.le_refl _) (.int .u32 (0)))
    obtain ⟨WW, hWW⟩ : ∃ WW, WW = ((((((w1).setCell ⟨w.heap.size, 0, none⟩ (.int .i64 (0)))).setCell ⟨w.heap.size, 1, none⟩ (.int .i64 (0)))).setCell ⟨w.heap.size, 2, none⟩ (.int .u32 (0))) := ⟨_, rfl⟩
    rw [← hWW] at hG hBB ⊢
    clear hWW
    obtain ⟨_, F0, F1, F2, _⟩ := hG
    exact bodyPost_ret (v := .tuple #[.agg #[.int .i64 (0), .int .i64 (0), .int .u32 (0)], .int .i64 5]) (by simp [results, Tryd.results25, go_sem, F0, F1, F2]) rfl ⟨hbad.out, hBB⟩
  have hly := hy1.out (by first | trivial | rfl)
  have hlne : l ≠ [] := by rw [hly]; simp [fHead]
  have hKy := Lib.hid (fun (k n e : Nat) (hv : VK k n e) (h : l = kText k n (prE n e)) => show Lib.cut y [32] = (Lib.decDigits k, gText n (prE n e), true) by
    have h1 : y = Lib.decDigits k ++ 32 :: gText n (prE n e) := by
      have h2 := hly.symm.trans h
      unfold kText at h2
      rw [List.append_assoc] at h2
      exact List.append_cancel_left h2
    rw [h1]
    exact cut_at _ _ 32 (dec_no k 32 (by decide)))
  have hC1 := Lib.hid (fun W h => hCu.out W h y hyl)
  obtain ⟨x1, hx1⟩ : ∃ x, (Lib.cut y [32]).1 = x := ⟨_, rfl⟩
  obtain ⟨y1, hy1'⟩ : ∃ x, (Lib.cut y [32]).2.1 = x := ⟨_, rfl⟩
  obtain ⟨b1, hb1'⟩ : ∃ x, (Lib.cut y [32]).2.2 = x := ⟨_, rfl⟩
  have hxl : x1.length ≤ l.length ∧ y1.length ≤ l.length := by
    rw [← hx1, ← hy1']
    unfold Lib.cut
    split
    · simp; omega
    · simp; omega
  rw [hx1, hy1', hb1'] at hC1
  have hKx := Lib.hid (fun (k n e : Nat) (hv : VK k n e) (h : l = kText k n (prE n e)) => show x1 = Lib.decDigits k ∧ y1 = gText n (prE n e) by
    have h1 := hKy.out k n e hv h
    rw [h1] at hx1 hy1'
    exact ⟨hx1.symm, hy1'.symm⟩)
  have hP1 := Lib.hid (fun W h => hPi.out W h x1 hxl.1)
  have hG1 := Lib.hid (fun W h => hRG.out W h y1 hxl.2)
  obtain ⟨ty, hty⟩ : ∃ t, tx y = t := ⟨_, rfl⟩
  obtain ⟨tx1, htx1⟩ : ∃ t, tx x1 = t := ⟨_, rfl⟩
  obtain ⟨ty1, hty1⟩ : ∃ t, tx y1 = t := ⟨_, rfl⟩
  rw [hty] at hC1
  rw [htx1] at hC1 hP1
  rw [hty1] at hC1 hG1
  replace hlne := Lib.hid hlne
  clear hx1 hy1' hb1' hKy hly hy1 hy2 hCu hPi hRG htx1 hty1 hxl r0 r1 r2 rz0 rz1 rz2
  rw [hty]
  clear hty
  go_wp2_with fail
  refine (hC1.out _ hB1).mono ?_
  rintro r2 w2 ⟨rfl, hb2⟩
  have hB2 := bchain hb2 hB1
  have hfR2 := Lib.hid (hfR1'.out.below hb2)
  clear hb2
  go_wp2_with fail
  refine (hP1.out _ hB2).mono ?_
  rintro r3 w3 ⟨⟨v, ev, rfl, hpr⟩, hb3⟩
  have hB3 := bchain hb3 hB2
  have hfR3 := hfR2.out.below hb3
  have hfR3' := Lib.hid hfR3
  obtain ⟨_, r0, r1, r2, rz⟩ := hfR3
  have rz0 := rz 0
  have rz1 := rz 1
  have rz2 := rz 2
  clear rz hb3
  rcases hpr with ⟨rfl, hok⟩ | ⟨⟨t, p0, rfl⟩, hno⟩
  rotate_left
  · have hbad := Lib.hid (rkP_bad (l := l) (fun k n e hv h => by
      have h1 := (hKx.out k n e hv h).1
      have := (vk_nat hv).1
      rw [h1] at hno
      exact hno _ (parse_dec k (by omega))))
    clear hno
    go_wp2
    have hG := (hfR3'.out).put (0) (0) (0)
    have hBB := ((((hB3).setCell (p := ⟨w.heap.size, 0, none⟩) (Nat.le_refl _) (.int .i64 (0))).setCell (p := ⟨w.heap.size, 1, none⟩) (Nat.le_refl _) (.int .i64 (0))).setCell (p := ⟨w.heap.size, 2, none⟩) (Nat.le_refl _) (.int .u32 (0)))
    obtain ⟨WW, hWW⟩ : ∃ WW, WW = ((((((w3).setCell ⟨w.heap.size, 0, none⟩ (.int .i64 (0)))).setCell ⟨w.heap.size, 1, none⟩ (.int .i64 (0)))).setCell ⟨w.heap.size, 2, none⟩ (.int .u32 (0))) := ⟨_, rfl⟩
    rw [← hWW] at hG hBB ⊢
    clear hWW
    obtain ⟨_, F0, F1, F2, _⟩ := hG
    exact bodyPost_ret (v := .tuple #[.agg #[.int .i64 (0), .int .i64 (0), .int .u32 (0)], .int .i64 5]) (by simp [results, Tryd.results25, go_sem, F0, F1, F2]) rfl ⟨hbad.out, hBB⟩
  have hKv := Lib.hid (fun (k n e : Nat) (hv : VK k n e) (h : l = kText k n (prE n e)) => show v = (k : Int) by
    have h1 := (hKx.out k n e hv h).1
    have := (vk_nat hv).1
    rw [h1, parse_dec k (by omega)] at hok
    exact (Lib.NumEnd.ok.inj hok).symm)
  clear hok r0 r1 r2 rz0 rz1 rz2
  go_wp2_with fail
  refine (hG1.out _ hB3).mono ?_
  rintro r4 w4 ⟨⟨n, e, c, rfl, hR⟩, hb4⟩
  have hB4 := bchain hb4 hB3
  have hfR4 := hfR3'.out.below hb4
  have hfR4' := Lib.hid hfR4
  clear hb4
  rcases hR with ⟨rfl, hv, n', e', rfl, rfl, hg⟩ | ⟨rfl, rfl, rfl, hno⟩
  rotate_left
  · have hbad := Lib.hid (rkP_bad (l := l) (fun k n e hv2 h2 => hno n e (vk_nat hv2).2 (hKx.out k n e hv2 h2).2))
    obtain ⟨_, r0, r1, r2, rz⟩ := hfR4
    have rz0 := rz 0
    have rz1 := rz 1
    have rz2 := rz 2
    clear rz hno
    go_wp2
    have hG := ((hfR4'.out).put (0) (0) (0)).below (balloc (Below.refl _ _) (.cells #[.int .i64 0, .int .u32 0] 36))
    have hBB := (balloc ((((hB4).setCell (p := ⟨w.heap.size, 0, none⟩) (Nat.le_refl _) (.int .i64 (0))).setCell (p := ⟨w.heap.size, 1, none⟩) (Nat.le_refl _) (.int .i64 (0))).setCell (p := ⟨w.heap.size, 2, none⟩) (Nat.le_refl _) (.int .u32 (0))) (.cells #[.int .i64 0, .int .u32 0] 36))
    obtain ⟨WW, hWW⟩ : ∃ WW, WW = (((((((w4).setCell ⟨w.heap.size, 0, none⟩ (.int .i64 (0)))).setCell ⟨w.heap.size, 1, none⟩ (.int .i64 (0)))).setCell ⟨w.heap.size, 2, none⟩ (.int .u32 (0))).alloc (.cells #[.int .i64 0, .int .u32 0] 36)) := ⟨_, rfl⟩
    rw [← hWW] at hG hBB ⊢
    clear hWW
    obtain ⟨_, F0, F1, F2, _⟩ := hG
    exact bodyPost_ret (v := .tuple #[.agg #[.int .i64 (0), .int .i64 (0), .int .u32 (0)], .int .i64 5]) (by simp [results, Tryd.results25, go_sem, F0, F1, F2]) rfl ⟨hbad.out, hBB⟩
  have hK1 := Lib.hid (fun W h => hKT.out W h v n' e' (vg_nat hv).2)
  have hfin := Lib.hid (fun (k n e : Nat) (hv2 : VK k n e) (h2 : l = kText k n (prE n e)) => show v = (k : Int) ∧ n' = n ∧ e' = e by
    obtain ⟨h3, h4⟩ := kText_ginj hv (vk_nat hv2).2 (hg.symm.trans (hKx.out k n e hv2 h2).2)
    exact ⟨hKv.out k n e hv2 h2, h3, h4⟩)
  clear hg hv hKx hKv
  go_wp2_with fail
  have hBB4 : Below w.heap.size w ((w4.alloc (.cells #[.int .i64 n', .int .u32 e'] 36)).alloc (.cells #[.int .i64 v, .int .i64 n', .int .u32 e'] 46)) := balloc (balloc hB4 _) _
  have hfF := FKB.made (w4.alloc (.cells #[.int .i64 (n' : Int), .int .u32 (e' : Int)] 36)) v n' e' 46
  have hbz : (w4.alloc (.cells #[.int .i64 (n' : Int), .int .u32 (e' : Int)] 36)).heap.size = w4.heap.size + 1 := by simp
  rw [hbz] at hfF
  refine (hK1.out _ hBB4).mono ?_
  rintro r5 w5 ⟨⟨g, rfl, hgt⟩, hb5⟩
  have hB5 := bchain hb5 hBB4
  have hfR5 := hfR4'.out.below (bchain hb5 (balloc (balloc (Below.refl _ _) _) _))
  have hfF5 := hfF.below hb5
  have hfR5' := Lib.hid hfR5
  obtain ⟨_, r0, r1, r2, rz⟩ := hfR5
  have rz0 := rz 0
  have rz1 := rz 1
  have rz2 := rz 2
  obtain ⟨_, q0, q1, q2, _⟩ := hfF5
  clear rz hb5 hfF hfR4 hbz
  have hq : ((tx g).toList == s.toList) = decide (g = l) := by
    rw [htl.out, show (tx g).toList = g from ByteArray.toList_mk g]
    by_cases h : g = l
    · subst h; simp
    · rw [decide_eq_false h]; exact beq_false_of_ne h
  replace hgt := Lib.hid hgt
  obtain ⟨t3, ht3⟩ : ∃ t, tx g = t := ⟨_, rfl⟩
  rw [ht3] at hq
  rw [ht3]
  clear ht3
  by_cases h : g = l
  · have hok : Hid (RkP l (.returned (.tuple #[.agg #[.int .i64 v, .int .i64 (n' : Int), .int .u32 (e' : Int)], .int .i64 0]))) := by
      rcases hgt.out with ⟨k, rfl, hv, h1⟩ | ⟨_, h1⟩
      · exact rkP_ok hv (h.symm.trans h1)
      · exact absurd (h.symm.trans h1) hlne.out
    rw [decide_eq_true h] at hq
    clear h
    go_wp2
    have hG := (hfR5'.out).put (v) (n') (e')
    have hBB := ((((hB5).setCell (p := ⟨w.heap.size, 0, none⟩) (Nat.le_refl _) (.int .i64 (v))).setCell (p := ⟨w.heap.size, 1, none⟩) (Nat.le_refl _) (.int .i64 (n'))).setCell (p := ⟨w.heap.size, 2, none⟩) (Nat.le_refl _) (.int .u32 (e')))
    obtain ⟨WW, hWW⟩ : ∃ WW, WW = ((((((w5).setCell ⟨w.heap.size, 0, none⟩ (.int .i64 (v)))).setCell ⟨w.heap.size, 1, none⟩ (.int .i64 (n')))).setCell ⟨w.heap.size, 2, none⟩ (.int .u32 (e'))) := ⟨_, rfl⟩
    rw [← hWW] at hG hBB ⊢
    clear hWW
    obtain ⟨_, F0, F1, F2, _⟩ := hG
    exact bodyPost_ret (v := .tuple #[.agg #[.int .i64 (v), .int .i64 (n'), .int .u32 (e')], .int .i64 0]) (by simp [results, Tryd.results25, go_sem, F0, F1, F2]) rfl ⟨hok.out, hBB⟩
  · have hbad := Lib.hid (rkP_bad (l := l) (fun k n e hv2 h2 => by
      obtain ⟨rfl, rfl, rfl⟩ := hfin.out k n e hv2 h2
      rcases hgt.out with ⟨k', hk', _, h1⟩ | ⟨h1, _⟩
      · obtain rfl : k = k' := by omega
        exact h (h1.trans h2.symm)
      · exact h1 hv2))
    rw [decide_eq_false h] at hq
    clear h
    go_wp2
    have hG := (hfR5'.out).put (0) (0) (0)
    have hBB := ((((hB5).setCell (p := ⟨w.heap.size, 0, none⟩) (Nat.le_refl _) (.int .i64 (0))).setCell (p := ⟨w.heap.size, 1, none⟩) (Nat.le_refl _) (.int .i64 (0))).setCell (p := ⟨w.heap.size, 2, none⟩) (Nat.le_refl _) (.int .u32 (0)))
    obtain ⟨WW, hWW⟩ : ∃ WW, WW = ((((((w5).setCell ⟨w.heap.size, 0, none⟩ (.int .i64 (0)))).setCell ⟨w.heap.size, 1, none⟩ (.int .i64 (0)))).setCell ⟨w.heap.size, 2, none⟩ (.int .u32 (0))) := ⟨_, rfl⟩
    rw [← hWW] at hG hBB ⊢
    clear hWW
    obtain ⟨_, F0, F1, F2, _⟩ := hG
    exact bodyPost_ret (v := .tuple #[.agg #[.int .i64 (0), .int .i64 (0), .int .u32 (0)], .int .i64 5]) (by simp [results, Tryd.results25, go_sem, F0, F1, F2]) rfl ⟨hbad.out, hBB⟩
end
end Go.Proofs.YtkmlgoklmmbmjaaDoor
