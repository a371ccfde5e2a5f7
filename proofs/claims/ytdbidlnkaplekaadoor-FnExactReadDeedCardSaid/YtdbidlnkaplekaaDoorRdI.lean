/-
  ReadDeed: the program's contract.
-/
import Derived.Test.YtdbidlnkaplekaaDoorRdD
import Derived.Test.YtdbidlnkaplekaaDoorRdB
namespace Go.Proofs.YtdbidlnkaplekaaDoor
open Go.RowKit
set_option maxRecDepth 100000
attribute [local go_sem] Oper.semAt_some
/-- the table as a value -/
def wgV (k : Nat) : Value := .agg #[.string (wdB k), .int .i64 (wdN k)]
def wgA : Value := .agg #[.string (wdB 0), .int .i64 (wdN 0), .string (wdB 1), .int .i64 (wdN 1), .string (wdB 2), .int .i64 (wdN 2), .string (wdB 3), .int .i64 (wdN 3), .string (wdB 4), .int .i64 (wdN 4), .string (wdB 5), .int .i64 (wdN 5), .string (wdB 6), .int .i64 (wdN 6), .string (wdB 7), .int .i64 (wdN 7)]
theorem wg_at (k : Nat) (hk : k < 8) (W : World) : (Instr.index 45 wgA (.int .i64 (k : Int))).run Tryd.prog W = .ok (wgV k) W := by
  have h0 : ∀ W : World, (Instr.index 45 wgA (.int .i64 0)).run Tryd.prog W = .ok (wgV 0) W := fun _ => by kernel_rfl
  have h1 : ∀ W : World, (Instr.index 45 wgA (.int .i64 1)).run Tryd.prog W = .ok (wgV 1) W := fun _ => by kernel_rfl
  have h2 : ∀ W : World, (Instr.index 45 wgA (.int .i64 2)).run Tryd.prog W = .ok (wgV 2) W := fun _ => by kernel_rfl
  have h3 : ∀ W : World, (Instr.index 45 wgA (.int .i64 3)).run Tryd.prog W = .ok (wgV 3) W := fun _ => by kernel_rfl
  have h4 : ∀ W : World, (Instr.index 45 wgA (.int .i64 4)).run Tryd.prog W = .ok (wgV 4) W := fun _ => by kernel_rfl
  have h5 : ∀ W : World, (Instr.index 45 wgA (.int .i64 5)).run Tryd.prog W = .ok (wgV 5) W := fun _ => by kernel_rfl
  have h6 : ∀ W : World, (Instr.index 45 wgA (.int .i64 6)).run Tryd.prog W = .ok (wgV 6) W := fun _ => by kernel_rfl
  have h7 : ∀ W : World, (Instr.index 45 wgA (.int .i64 7)).run Tryd.prog W = .ok (wgV 7) W := fun _ => by kernel_rfl
  have hc : k = 0 ∨ k = 1 ∨ k = 2 ∨ k = 3 ∨ k = 4 ∨ k = 5 ∨ k = 6 ∨ k = 7 := by omega
  rcases hc with rfl | rfl | rfl | rfl | rfl | rfl | rfl | rfl
  · exact h0 W
  · exact h1 W
  · exact h2 W
  · exact h3 W
  · exact h4 W
  · exact h5 W
  · exact h6 W
  · exact h7 W
section
variable (w : World)
theorem idt_any (k a b : Nat) (hw : Words w) (hP : TabP w) (h : VD k a b) :
    Calls Tryd.prog 20 #[.agg #[.int .i64 k, .int .i64 a, .int .i64 b]] w fun r w' => r = .returned (.string (tx (dL k a b))) ∧ Below w.heap.size w w' := by
  rw [← dText_tx]
  exact idt_t w k a b hw hP h
set_option maxHeartbeats 8000000 in
theorem ird_any (l : List UInt8) (hl : l.length ≤ 1048576) (hL : LibW w) (hW : Words w) :
    Calls Tryd.prog 6 #[.string (tx l)] w fun r w' => RdP l r ∧ Below w.heap.size w w' := by
  have hfR := DB.made w 0 0 0 23
  have hB0 : Below w.heap.size w (w.alloc (.cells #[.int .i64 0, .int .i64 0, .int .i64 0] 23)) := by (repeat (first | exact Below.refl _ _ | assumption | refine bchain (by assumption) ?_ | refine balloc ?_ _ | apply Below.drew | apply below_drewN | (refine Below.alloc ?_ (by (try simp) <;> omega) _) | (refine Below.setCell ?_ (by (try simp) <;> omega) _)))
  obtain ⟨W0, hW0⟩ : ∃ W0, W0 = w.alloc (.cells #[.int .i64 0, .int .i64 0, .int .i64 0] 23) := ⟨_, rfl⟩
  rw [← hW0] at hfR hB0
  replace hW0 := Lib.hid hW0
  have hC1 := Lib.hid (fun W (h : Below w.heap.size w W) => cut_any W l 32 (by omega) (hL.below h))
  have hlx := (cut_len l 32).1
  have hly := (cut_len l 32).2
  have hcd := Lib.hid (fun (k a b : Nat) (hv : VD k a b) (h : l = dL k a b) => by have := cut_dL hv; rw [← h] at this; exact this)
  obtain ⟨x, hx⟩ : ∃ x, (Lib.cut l [32]).1 = x := ⟨_, rfl⟩
  obtain ⟨y, hy⟩ : ∃ x, (Lib.cut l [32]).2.1 = x := ⟨_, rfl⟩
  obtain ⟨b1, hb1⟩ : ∃ x, (Lib.cut l [32]).2.2 = x := ⟨_, rfl⟩
  rw [hx, hy, hb1] at hC1
  rw [hx] at hlx
  rw [hy] at hly
  simp only [hx, hy] at hcd
  have hC2 := Lib.hid (fun W (h : Below w.heap.size w W) => cut_any W y 32 (by omega) (hL.below h))
  have hlf := (cut_len y 32).1
  have hlg := (cut_len y 32).2
  obtain ⟨f, hf⟩ : ∃ x, (Lib.cut y [32]).1 = x := ⟨_, rfl⟩
  obtain ⟨g, hg⟩ : ∃ x, (Lib.cut y [32]).2.1 = x := ⟨_, rfl⟩
  obtain ⟨b2, hb2⟩ : ∃ x, (Lib.cut y [32]).2.2 = x := ⟨_, rfl⟩
  rw [hf, hg, hb2] at hC2
  rw [hf] at hlf
  rw [hg] at hlg
  simp only [hf, hg] at hcd
  have hPf := Lib.hid (fun W (h : Below w.heap.size w W) => piZ_any W f (by omega) (hL.below h))
  have hPg := Lib.hid (fun W (h : Below w.heap.size w W) => piZ_any W g (by omega) (hL.below h))
  have hVd := Lib.hid (fun W (h : Below w.heap.size w W) k a b => ivd_any W k a b (hW.below h))
  have hDt := Lib.hid (fun W (h : Below w.heap.size w W) (k a b : Nat) (hv : VD k a b) => idt_any W k a b (hW.below h) (hL.tb.below h) hv)
  have e32 : ({ data := #[32] } : ByteArray) = tx [32] := rfl
  have htl := Lib.hid (show (tx l).toList = l from ByteArray.toList_mk l)
  have htx := Lib.hid (show (tx x).toList = x from ByteArray.toList_mk x)
  have hWc := Lib.hid (fun W (h : Below w.heap.size w W) => hW.below h)
  have hix := Lib.hid (fun k (hk : k < 8) W => wg_at k hk W)
  clear hx hy hb1 hf hg hb2 hlx hly hlf hlg hL hW
  obtain ⟨s, hs⟩ : ∃ s, tx l = s := ⟨_, rfl⟩
  obtain ⟨tX, htX⟩ : ∃ t, tx x = t := ⟨_, rfl⟩
  obtain ⟨tY, htY⟩ : ∃ t, tx y = t := ⟨_, rfl⟩
  obtain ⟨tF, htF⟩ : ∃ t, tx f = t := ⟨_, rfl⟩
  obtain ⟨tG, htG⟩ : ∃ t, tx g = t := ⟨_, rfl⟩
  rw [hs] at hC1 htl ⊢
  rw [htX] at hC1 htx
  rw [htY] at hC1 hC2
  rw [htF] at hC2 hPf
  rw [htG] at hC2 hPg
  clear hs htX htY htF htG
  go_enter Tryd.func6, Tryd.ntmps6
  rw [e32]
  obtain ⟨t32, ht32⟩ : ∃ t, tx [32] = t := ⟨_, rfl⟩
  rw [ht32] at hC1 hC2
  rw [ht32]
  clear ht32 e32
  go_wp2_with fail
  rw [← hW0.out]
  go_wp2_with fail
  refine (hC1.out _ hB0).mono ?_
  rintro r1 w1 ⟨rfl, hb1⟩
  have hB1 := bchain hb1 hB0
  have hfR1 := hfR.below hb1
  clear hb1 hfR
  go_wp2_with fail
  refine (hC2.out _ hB1).mono ?_
  rintro r2 w2 ⟨rfl, hb2⟩
  have hB2 := bchain hb2 hB1
  have hfR2 := Lib.hid (hfR1.below hb2)
  have hRz : w.heap.size < w2.heap.size := hfR2.out.lt
  clear hb2 hfR1
  have hfD := DB.made w2 0 0 0 23
  have hBD : Below w2.heap.size w2 (w2.alloc (.cells #[.int .i64 0, .int .i64 0, .int .i64 0] 23)) := balloc (Below.refl _ _) _
  obtain ⟨W3, hW3⟩ : ∃ W3, W3 = w2.alloc (.cells #[.int .i64 0, .int .i64 0, .int .i64 0] 23) := ⟨_, rfl⟩
  rw [← hW3] at hfD hBD
  obtain ⟨D, hD⟩ : ∃ D, w2.heap.size = D := ⟨_, rfl⟩
  rw [hD] at hfD hBD hRz
  have hB3 : Below w.heap.size w W3 := hB2.trans (hBD.mono (by omega))
  have hwS := fun k (hk : k < 8) O => (World.cell?_alloc_lt w2 O ⟨0, k * 2, none⟩ (hWc.out w2 hB2).lt).trans ((hWc.out w2 hB2).s k hk)
  have hwN := fun k (hk : k < 8) O => (World.cell?_alloc_lt w2 O ⟨0, k * 2 + 1, none⟩ (hWc.out w2 hB2).lt).trans ((hWc.out w2 hB2).n k hk)
  have s0 := hwS 0 (by omega)
  have s1 := hwS 1 (by omega)
  have s2 := hwS 2 (by omega)
  have s3 := hwS 3 (by omega)
  have s4 := hwS 4 (by omega)
  have s5 := hwS 5 (by omega)
  have s6 := hwS 6 (by omega)
  have s7 := hwS 7 (by omega)
  have n0 := hwN 0 (by omega)
  have n1 := hwN 1 (by omega)
  have n2 := hwN 2 (by omega)
  have n3 := hwN 3 (by omega)
  have n4 := hwN 4 (by omega)
  have n5 := hwN 5 (by omega)
  have n6 := hwN 6 (by omega)
  have n7 := hwN 7 (by omega)
  clear hwS hwN
  replace hW3 := Lib.hid hW3
  have hfD' := Lib.hid hfD
  have hBD' := Lib.hid hBD
  replace hD := Lib.hid hD
  clear hfD hBD
  simp only [Nat.zero_mul, Nat.one_mul, Nat.zero_add, Nat.reduceMul, Nat.reduceAdd] at s0 s1 s2 s3 s4 s5 s6 s7 n0 n1 n2 n3 n4 n5 n6 n7
  go_wp2_with fail
  rw [← hW3.out, hD.out]
  rw [show (Value.agg #[.string (wdB 0), .int .i64 (wdN 0), .string (wdB 1), .int .i64 (wdN 1), .string (wdB 2), .int .i64 (wdN 2), .string (wdB 3), .int .i64 (wdN 3), .string (wdB 4), .int .i64 (wdN 4), .string (wdB 5), .int .i64 (wdN 5), .string (wdB 6), .int .i64 (wdN 6), .string (wdB 7), .int .i64 (wdN 7)]) = wgA from rfl]
  obtain ⟨AG, hAG⟩ : ∃ v, wgA = v := ⟨_, rfl⟩
  rw [hAG] at hix
  rw [hAG]
  clear hAG s0 s1 s2 s3 s4 s5 s6 s7 n0 n1 n2 n3 n4 n5 n6 n7
  go_loopw [26] (fun i wr => ∃ k K : Nat, k ≤ 8 ∧ i = .int .i64 k ∧ Hid (kdOf x K k) ∧ DB wr D K 0 0 ∧ Below D w2 wr) (fun i _ => 8 - (intOf i).toNat)
  case atStart => exact ⟨0, 0, by omega, rfl, (show kdOf x 0 0 from .inl ⟨rfl, fun j h1 h2 => by omega⟩), hfD'.out, hBD'.out⟩
  case round =>
    clear hfD' hBD' hW3 hW0
    obtain ⟨k, K, hk8, rfl, hkd, hfD, hB⟩ := hrel
    have hDz := hfD.lt
    by_cases hlt : k < 8
    · have hd := decide_eq_true (show ((k : Int) < 8) by omega)
      have hi := hix.out k hlt
      unfold wgV at hi
      have dq : ((wdB k).toList == tX.toList) = decide (wdW k = x) := by
        rw [htx.out, wdB_tx, show (tx (wdW k)).toList = wdW k from ByteArray.toList_mk _]
        by_cases h : wdW k = x
        · rw [h]; simp
        · rw [decide_eq_false h]; exact beq_false_of_ne h
      have hal := fun O => hfD.below (balloc (Below.refl wr.heap.size wr) O)
      have z0 := fun O => (hal O).c0
      have zz0 := fun O => (hal O).fz 0
      obtain ⟨tK, htK⟩ : ∃ t, wdB k = t := ⟨_, rfl⟩
      obtain ⟨mK, hmK⟩ : ∃ t, wdN k = t := ⟨_, rfl⟩
      rw [htK] at hi dq
      rw [hmK] at hi
      clear htK hmK
      have hal' := Lib.hid hal
      have hfD0 := Lib.hid hfD
      clear hal hfD
      have hk0 : (0 : Int) ≤ (k : Int) := by omega
      have hk8' : (k : Int) < 8 := by omega
      by_cases c : wdW k = x
      · rw [decide_eq_true c] at dq
        have hkd2 : Hid (kdOf x k (k + 1)) := by
          by_cases e : k = 0
          · subst e; exact kdOf_zero x
          · exact kdOf_yes (by omega) hlt c
        clear c hkd
        go_wp2
        go_roundw
        case rel => exact ⟨k + 1, k, by omega, by go_num, hkd2, (hfD0.out.set0 k).below (balloc (Below.refl _ _) _), (hB.setCell (p := ⟨D, 0, none⟩) (Nat.le_refl _) _).alloc (by simp; omega) _⟩
        case measure => simp [intOf]; omega
      · rw [decide_eq_false c] at dq
        have hkd2 := Lib.hid (kdOf_no hkd.out c)
        clear c hkd
        go_wp2
        go_roundw
        case rel => exact ⟨k + 1, K, by omega, by go_num, hkd2, hal'.out _, hB.alloc (by omega) _⟩
        case measure => simp [intOf]; omega
    · have hd := decide_eq_false (show ¬ ((k : Int) < 8) by omega)
      have hk88 : k = 8 := by omega
      rw [hk88] at hkd
      replace hk88 := Lib.hid hk88
      clear hlt
      have hBw : Below w.heap.size w wr := hB2.trans (hB.mono (by omega))
      replace hfD := Lib.hid hfD
      go_wp2_with fail
      refine (hPf.out _ hBw).mono ?_
      rintro r4 w4 ⟨⟨v1, ev1, rfl, hv1⟩, hb4⟩
      replace hv1 := Lib.hid hv1
      have hfD4 := hfD.out.below hb4
      have hB4 := hB.trans (hb4.mono (by omega))
      obtain ⟨_, z0, z1, z2, zz⟩ := id hfD4
      have zz1 := zz 1
      have hfD5 := hfD4.set1 v1
      have hB5 := hB4.setCell (p := ⟨D, 1, none⟩) (Nat.le_refl _) (.int .i64 v1)
      obtain ⟨W5, hW5⟩ : ∃ W5, W5 = w4.setCell ⟨D, 1, none⟩ (.int .i64 v1) := ⟨_, rfl⟩
      rw [← hW5] at hfD5 hB5
      replace hW5 := Lib.hid hW5
      have hBw5 : Below w.heap.size w W5 := hB2.trans (hB5.mono (by omega))
      replace hfD5 := Lib.hid hfD5
      clear hfD4 zz hb4 hB hBw
      go_wp2_with fail
      rw [← hW5.out]
      refine (hPg.out _ hBw5).mono ?_
      rintro r6 w6 ⟨⟨v2, ev2, rfl, hv2⟩, hb6⟩
      replace hv2 := Lib.hid hv2
      clear z0 z1 z2 zz1 hB4
      have hfD6 := hfD5.out.below hb6
      have hDz6 := hfD5.out.lt
      have hB6 := hB5.trans (hb6.mono (by omega))
      obtain ⟨_, z0, z1, z2, zz⟩ := id hfD6
      have zz2 := zz 2
      have hfD7 := hfD6.set2 v2
      have hB7 := hB6.setCell (p := ⟨D, 2, none⟩) (Nat.le_refl _) (.int .i64 v2)
      obtain ⟨_, y0, y1, y2, _⟩ := id hfD7
      obtain ⟨W7, hW7⟩ : ∃ W7, W7 = w6.setCell ⟨D, 2, none⟩ (.int .i64 v2) := ⟨_, rfl⟩
      rw [← hW7] at hfD7 hB7
      replace hW7 := Lib.hid hW7
      have hBw7 : Below w.heap.size w W7 := hB2.trans (hB7.mono (by omega))
      have hfD7' := Lib.hid hfD7
      have hDz7 := hfD7.lt
      clear hfD6 zz hb6 hB5 hBw5 hfD7
      have hfin := Lib.hid (fun (k a b : Nat) (hv : VD k a b) (h : l = dL k a b) => show K = k ∧ v1 = (a : Int) ∧ v2 = (b : Int) by
        obtain ⟨c1, c2, c3⟩ := hcd.out k a b hv h
        obtain ⟨h8, h1, ha, hb, _, _⟩ := vd_nat hv
        refine ⟨kdOf_at hkd.out h1 h8 c1.symm, ?_, ?_⟩
        · rcases c2 with e | ⟨e, e0⟩
          · exact hv1.out.1 _ (by rw [e]; exact parse_dec a (by omega))
          · rw [hv1.out.2 e, e0]; rfl
        · rcases c3 with e | ⟨e, e0⟩
          · exact hv2.out.1 _ (by rw [e]; exact parse_dec b (by omega))
          · rw [hv2.out.2 e, e0]; rfl)
      clear hv1 hv2 hkd hcd
      have hVd7 := Lib.hid (hVd.out W7 hBw7 K v1 v2)
      by_cases hV : VD K v1 v2
      · rw [decide_eq_true hV] at hVd7
        obtain ⟨A, rfl⟩ : ∃ A : Nat, v1 = A := ⟨v1.toNat, by have := hV.2.2.1; omega⟩
        obtain ⟨B, rfl⟩ : ∃ B : Nat, v2 = B := ⟨v2.toNat, by have := hV.2.2.2.2.1; omega⟩
        have hDt7 := Lib.hid (fun W hW => hDt.out W hW K A B hV)
        have hq : ((tx (dL K A B)).toList == s.toList) = decide (dL K A B = l) := by
          rw [htl.out, show (tx (dL K A B)).toList = dL K A B from ByteArray.toList_mk _]
          by_cases h : dL K A B = l
          · rw [h]; simp
          · rw [decide_eq_false h]; exact beq_false_of_ne h
        have hok := Lib.hid (fun (h : dL K A B = l) => rdP_ok hV h.symm)
        have hbd := Lib.hid (fun (h : ¬ dL K A B = l) => rdP_bad (l := l) (fun k a b hv h2 => by
          obtain ⟨h3, h4, h5⟩ := hfin.out k a b hv h2
          obtain rfl : A = a := by omega
          obtain rfl : B = b := by omega
          subst h3
          exact h h2.symm))
        obtain ⟨tD, htD⟩ : ∃ t, tx (dL K A B) = t := ⟨_, rfl⟩
        rw [htD] at hDt7 hq
        clear htD hV hfin
        go_wp2_with fail
        rw [← hW7.out]
        refine hVd7.out.mono ?_
        rintro r8 w8 ⟨rfl, hb8⟩
        have hfD8 := hfD7'.out.below hb8
        have hB8 := hB7.trans (hb8.mono (by omega))
        have hBw8 : Below w.heap.size w w8 := hB2.trans (hB8.mono (by omega))
        have hfD8' := Lib.hid hfD8
        have hDz8 := hfD8.lt
        clear y0 y1 y2 z0 z1 z2 zz2 hb8
        obtain ⟨_, y0, y1, y2, _⟩ := hfD8
        go_wp2_with fail
        refine (hDt7.out _ hBw8).mono ?_
        rintro r9 w9 ⟨rfl, hb9⟩
        have hfD9 := hfD8'.out.below hb9
        have hB9 := hB8.trans (hb9.mono (by omega))
        clear y0 y1 y2 hb9 hBw8
        obtain ⟨_, y0, y1, y2, _⟩ := hfD9
        by_cases h : dL K A B = l
        · rw [decide_eq_true h] at hq
          have hok2 := Lib.hid (hok.out h)
          clear h
          have hfRk := hfR2.out.below (W' := w9) (by rw [hD.out]; exact hB9)
          have hBw : Below w.heap.size w w9 := hB2.trans ((hB9).mono (by omega))
          have hfRk' := Lib.hid hfRk
          obtain ⟨_, r0, r1, r2, rz⟩ := hfRk
          have rz0 := rz 0
          have rz1 := rz 1
          have rz2 := rz 2
          clear rz
          go_wp2
          have hG := (hfRk'.out).put (K) (A) (B)
          have hBB := (((hBw).setCell (p := ⟨w.heap.size, 0, none⟩) (Nat.le_refl _) (.int .i64 (K))).setCell (p := ⟨w.heap.size, 1, none⟩) (Nat.le_refl _) (.int .i64 (A))).setCell (p := ⟨w.heap.size, 2, none⟩) (Nat.le_refl _) (.int .i64 (B))
          obtain ⟨WW, hWW⟩ : ∃ WW, WW = (((w9).setCell ⟨w.heap.size, 0, none⟩ (.int .i64 (K))).setCell ⟨w.heap.size, 1, none⟩ (.int .i64 (A))).setCell ⟨w.heap.size, 2, none⟩ (.int .i64 (B)) := ⟨_, rfl⟩
          rw [← hWW] at hG hBB ⊢
          clear hWW
          obtain ⟨_, F0, F1, F2, _⟩ := hG
          exact bodyPost_ret (v := .tuple #[.agg #[.int .i64 (K), .int .i64 (A), .int .i64 (B)], .int .i64 0]) (by simp [results, Tryd.results6, go_sem, F0, F1, F2]) rfl ⟨hok2.out, hBB⟩
        · rw [decide_eq_false h] at hq
          have hbad := Lib.hid (hbd.out h)
          clear h
          have hfRk := hfR2.out.below (W' := w9) (by rw [hD.out]; exact hB9)
          have hBw : Below w.heap.size w w9 := hB2.trans ((hB9).mono (by omega))
          have hfRk' := Lib.hid hfRk
          obtain ⟨_, r0, r1, r2, rz⟩ := hfRk
          have rz0 := rz 0
          have rz1 := rz 1
          have rz2 := rz 2
          clear rz
          go_wp2
          have hG := (hfRk'.out).put (0) (0) (0)
          have hBB := (((hBw).setCell (p := ⟨w.heap.size, 0, none⟩) (Nat.le_refl _) (.int .i64 (0))).setCell (p := ⟨w.heap.size, 1, none⟩) (Nat.le_refl _) (.int .i64 (0))).setCell (p := ⟨w.heap.size, 2, none⟩) (Nat.le_refl _) (.int .i64 (0))
          obtain ⟨WW, hWW⟩ : ∃ WW, WW = (((w9).setCell ⟨w.heap.size, 0, none⟩ (.int .i64 (0))).setCell ⟨w.heap.size, 1, none⟩ (.int .i64 (0))).setCell ⟨w.heap.size, 2, none⟩ (.int .i64 (0)) := ⟨_, rfl⟩
          rw [← hWW] at hG hBB ⊢
          clear hWW
          obtain ⟨_, F0, F1, F2, _⟩ := hG
          exact bodyPost_ret (v := .tuple #[.agg #[.int .i64 (0), .int .i64 (0), .int .i64 (0)], .int .i64 5]) (by simp [results, Tryd.results6, go_sem, F0, F1, F2]) rfl ⟨hbad.out, hBB⟩
      · rw [decide_eq_false hV] at hVd7
        have hbad := Lib.hid (rdP_bad (l := l) (fun k a b hv h2 => by
          obtain ⟨h3, h4, h5⟩ := hfin.out k a b hv h2
          subst h3
          rw [h4, h5] at hV
          exact hV hv))
        clear hV hfin
        go_wp2_with fail
        rw [← hW7.out]
        refine hVd7.out.mono ?_
        rintro r8 w8 ⟨rfl, hb8⟩
        have hB8 := hB7.trans (hb8.mono (by omega))
        clear y0 y1 y2 z0 z1 z2 zz2 hb8
        have hfRk := hfR2.out.below (W' := w8) (by rw [hD.out]; exact hB8)
        have hBw : Below w.heap.size w w8 := hB2.trans ((hB8).mono (by omega))
        have hfRk' := Lib.hid hfRk
        obtain ⟨_, r0, r1, r2, rz⟩ := hfRk
        have rz0 := rz 0
        have rz1 := rz 1
        have rz2 := rz 2
        clear rz
        go_wp2
        have hG := (hfRk'.out).put (0) (0) (0)
        have hBB := (((hBw).setCell (p := ⟨w.heap.size, 0, none⟩) (Nat.le_refl _) (.int .i64 (0))).setCell (p := ⟨w.heap.size, 1, none⟩) (Nat.le_refl _) (.int .i64 (0))).setCell (p := ⟨w.heap.size, 2, none⟩) (Nat.le_refl _) (.int .i64 (0))
        obtain ⟨WW, hWW⟩ : ∃ WW, WW = (((w8).setCell ⟨w.heap.size, 0, none⟩ (.int .i64 (0))).setCell ⟨w.heap.size, 1, none⟩ (.int .i64 (0))).setCell ⟨w.heap.size, 2, none⟩ (.int .i64 (0)) := ⟨_, rfl⟩
        rw [← hWW] at hG hBB ⊢
        clear hWW
        obtain ⟨_, F0, F1, F2, _⟩ := hG
        exact bodyPost_ret (v := .tuple #[.agg #[.int .i64 (0), .int .i64 (0), .int .i64 (0)], .int .i64 5]) (by simp [results, Tryd.results6, go_sem, F0, F1, F2]) rfl ⟨hbad.out, hBB⟩
end
end Go.Proofs.YtdbidlnkaplekaaDoor
