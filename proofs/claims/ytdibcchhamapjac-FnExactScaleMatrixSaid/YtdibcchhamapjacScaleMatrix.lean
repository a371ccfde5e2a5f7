/-
  PROVED: for every list of rows of fractions and every fraction, valid or not, ScaleMatrix of the program answers as the model's does, its arguments are left as they were, and its result owns its memory. Conditions: none.
-/
import Derived.Test.YtdibcchhamapjacFOpen
import Derived.Test.YtdibcchhamapjacOpenMs
import Derived.Test.YtdibcchhamapjacFScM
import Derived.Test.YtdibcchhamapjacFEq
import Derived.Deep.RegionHeld3
import Derived.Deep.DeepCutAuto
namespace Go.Proofs.Ytdibcchhamapjac
open Go.ChangeShapes Go.WideShapes Go.ChangeAt Go.RowKit
set_option maxRecDepth 100000

namespace ScaleMatrixLaw
theorem walk_long (v : Value) (m : List (List (Int × Int))) (y1 y2 : Int) (w : World) (hS : SlM w v m) (hm : 1048576 < m.length + tot m m.length) :
    Calls Try.prog 5 #[v, .agg #[.int .i64 y1, .int .i64 y2]] w fun r w' => r = .returned (.bool true) ∧ Below w.heap.size w w' := by
  have hC := Lib.hid (fun W (h : SlM W v m) => szM_long W v m h 1048576 (by omega) (by omega) (by omega))
  replace hS := Lib.hid hS
  clear hm
  go_enter Try.func5, Try.ntmps5
  go_wp2_with fail
  refine (hC.out _ (hS.out.below (by (repeat (first | exact Below.refl _ _ | assumption | refine bchain (by assumption) ?_ | refine balloc ?_ _ | apply Below.drew | apply below_drewN | (refine Below.alloc ?_ (by (try simp) <;> omega) _) | (refine Below.setCell ?_ (by (try simp) <;> omega) _)))))).mono ?_
  rintro r1 w1 ⟨rfl, hb1⟩
  go_wp2
  go_ret
  exact ⟨rfl, by (repeat (first | exact Below.refl _ _ | assumption | refine bchain (by assumption) ?_ | refine balloc ?_ _ | apply Below.drew | apply below_drewN | (refine Below.alloc ?_ (by (try simp) <;> omega) _) | (refine Below.setCell ?_ (by (try simp) <;> omega) _)))⟩
set_option maxHeartbeats 4000000 in
theorem walk_short (v : Value) (m : List (List (Int × Int))) (y1 y2 : Int) (w : World) (hS : SlM w v m) (hm : m.length + tot m m.length ≤ 1048576) :
    Calls Try.prog 5 #[v, .agg #[.int .i64 y1, .int .i64 y2]] w fun r w' => r = .returned (.bool true) ∧ Below w.heap.size w w' := by
  have l1 : m.length ≤ 1048576 := by omega
  have r1 : ∀ i, i < m.length → (rAt m i).length ≤ 1048576 := fun i hi => by have := row_le m hi; omega
  obtain ⟨n, g, c, h8, hs, hi⟩ := cm_both m y1 y2 l1 r1
  have hE := Lib.hid (fun W u v (h : SlM W u (matL n g)) (h' : SlM W v (matL n g)) => eqR_any W u v n g h8 h h')
  have hMk := Lib.hid (fun W b0 u (h : MR b0 W u n (gv n g)) (hb : b0 ≤ W.heap.size) => markR_any W b0 u n (gv n g) h hb)
  have hHd := Lib.hid (fun W b0 u (h : MR b0 W u n (mkF 1 0 (n * n * 2) (gv n g))) => heldR_any W b0 u n (gv n g) h)
  have hT := Lib.hid (fun W u (h : SlM W u m) => toMs_any W u m h l1 r1)
  have hTo := Lib.hid (fun W u (h : SlM W u m) => toMo_any W u m h l1 r1)
  have hEs := Lib.hid (fun W u u' (h : SlM W u m) (h' : SlM W u' m) => eqMs_any W u u' m h h' l1 r1)
  have hMx := Lib.hid (fun W b0 b1 u (h : XM b0 b1 W u m) (hb : b0 ≤ W.heap.size) => markXM_any W b0 b1 1 u m h l1 (by omega) (by omega) hb)
  have hC := Lib.hid (fun W (h : SlM W v m) => szM_ok W v m h 1048576 (by omega) (by omega))
  have hl0 : decide ((1048576 : Int) - (m.length : Int) - (tot m m.length : Nat) < 0) = false := decide_eq_false (by omega)
  obtain ⟨q, hq⟩ : ∃ q : Int, 1048576 - (m.length : Int) - (tot m m.length : Nat) = q := ⟨_, rfl⟩
  rw [hq] at hC hl0
  obtain ⟨K, hK⟩ : ∃ K : Nat, 1 + n * n * 2 = K := ⟨_, rfl⟩
  rw [hK] at hMk hHd
  obtain ⟨K1, hK1⟩ : ∃ K : Nat, 1 + tot m m.length * 2 = K := ⟨_, rfl⟩
  rw [hK1] at hMx
  have hd0 : decide ((K : Int) < 0) = false := decide_eq_false (by omega)
  have hd1 : decide ((K1 : Int) < 0) = false := decide_eq_false (by omega)
  replace hs := Lib.hid hs
  replace hi := Lib.hid hi
  replace hS := Lib.hid hS
  clear hm hK hK1 hq l1 r1
  go_enter Try.func5, Try.ntmps5
  go_wp2_with fail
  refine (hC.out _ (hS.out.below (by (repeat (first | exact Below.refl _ _ | assumption | refine bchain (by assumption) ?_ | refine balloc ?_ _ | apply Below.drew | apply below_drewN | (refine Below.alloc ?_ (by (try simp) <;> omega) _) | (refine Below.setCell ?_ (by (try simp) <;> omega) _)))))).mono ?_
  rintro r0 w0 ⟨rfl, hb0⟩
  obtain ⟨hc0_0, hz0_0⟩ := bkeep hb0 w.heap.size (by (try simp) <;> omega)
  have e0 : w0.cell? ⟨w.heap.size, 0, none⟩ = some (.int .i64 y1) := (hc0_0 0).trans (by simp [go_sem])
  have e1 : w0.cell? ⟨w.heap.size, 1, none⟩ = some (.int .i64 y2) := (hc0_0 1).trans (by simp [go_sem])
  have hlt : w.heap.size < w0.heap.size := hz0_0
  have b00 : Below w.heap.size w w0 := by (repeat (first | exact Below.refl _ _ | assumption | refine bchain (by assumption) ?_ | refine balloc ?_ _ | apply Below.drew | apply below_drewN | (refine Below.alloc ?_ (by (try simp) <;> omega) _) | (refine Below.setCell ?_ (by (try simp) <;> omega) _)))
  have hS0 := Lib.hid (hS.out.below b00)
  clear hb0 hc0_0 hz0_0 hS
  go_upto_region 5 with fail
  go_cut [6, 7] (fun s6 s7 wx => s7 = .int .i64 c ∧ Hid (SlM wx s6 (matL n g)) ∧ Below w0.heap.size w0 wx)
  case first =>
    go_region_held3 (fun W => W.cell? ⟨w.heap.size, 0, none⟩ = some (.int .i64 y1) ∧ W.cell? ⟨w.heap.size, 1, none⟩ = some (.int .i64 y2))
      (exact ⟨old_cell hlt e0 (by (repeat (first | exact Below.refl _ _ | assumption | refine bchain (by assumption) ?_ | refine balloc ?_ _ | apply Below.drew | apply below_drewN | (refine Below.alloc ?_ (by (try simp) <;> omega) _) | (refine Below.setCell ?_ (by (try simp) <;> omega) _)))), old_cell hlt e1 (by (repeat (first | exact Below.refl _ _ | assumption | refine bchain (by assumption) ?_ | refine balloc ?_ _ | apply Below.drew | apply below_drewN | (refine Below.alloc ?_ (by (try simp) <;> omega) _) | (refine Below.setCell ?_ (by (try simp) <;> omega) _))))⟩)
      (first | (go_at_call 19; refine (hT.out _ _ (hS0.out.below (by (repeat (first | exact Below.refl _ _ | assumption | refine bchain (by assumption) ?_ | refine balloc ?_ _ | apply Below.drew | apply below_drewN | (refine Below.alloc ?_ (by (try simp) <;> omega) _) | (refine Below.setCell ?_ (by (try simp) <;> omega) _)))))).mono ?_; rintro rS wS ⟨⟨uS, rfl, hUS⟩, hbS⟩; replace hUS := Lib.hid hUS) | (go_at_call 22; refine (toF_any _ _ _).mono ?_; rintro rF wF ⟨rfl, hbF⟩) | (go_at_call 21; refine (hs.out _ _ (hUS.out.below (by (repeat (first | exact Below.refl _ _ | assumption | refine bchain (by assumption) ?_ | refine balloc ?_ _ | apply Below.drew | apply below_drewN | (refine Below.alloc ?_ (by (try simp) <;> omega) _) | (refine Below.setCell ?_ (by (try simp) <;> omega) _)))))).mono ?_; rintro rV wV ⟨⟨vV, rfl, hV⟩, hbV⟩; replace hV := Lib.hid hV))
    all_goals (go_wp2_with fail; go_meet; exact ⟨rfl, hV.out, by (repeat (first | exact Below.refl _ _ | assumption | refine bchain (by assumption) ?_ | refine balloc ?_ _ | apply Below.drew | apply below_drewN | (refine Below.alloc ?_ (by (try simp) <;> omega) _) | (refine Below.setCell ?_ (by (try simp) <;> omega) _)))⟩)
  case rest =>
    obtain ⟨rfl, hV, b02⟩ := hcut
    go_wp2_with fail
    refine (hTo.out _ _ (hS0.out.below b02)).mono ?_
    rintro r3 w3 ⟨⟨u3, rfl, hU3, hX3⟩, hb3⟩
    replace hU3 := Lib.hid hU3
    replace hX3 := Lib.hid hX3
    have b03 := b02.trans (hb3.mono b02.size)
    have x0 := (b03.cell (p := ⟨w.heap.size, 0, none⟩) hlt).trans e0
    have x1 := (b03.cell (p := ⟨w.heap.size, 1, none⟩) hlt).trans e1
    clear b03
    go_wp2_with fail
    refine (toF_any _ _ _).mono ?_
    rintro rF wF ⟨rfl, hbF⟩
    have hU3b := Lib.hid (hU3.out.below hbF)
    have hX3b := Lib.hid (hX3.out.below hbF)
    have s23 := hb3.size
    have s33 := hbF.size
    have b23 := hb3.trans (hbF.mono s23)
    clear hb3 hbF hU3 hX3 x0 x1
    go_wp2_with fail
    refine (hi.out _ _ hU3b.out).mono ?_
    rintro r4 w4 ⟨⟨u4, rfl, hU4⟩, hb4⟩
    have hX4 := Lib.hid (hX3b.out.below hb4)
    have hU34 := Lib.hid (hU3b.out.below hb4)
    replace hU4 := Lib.hid hU4
    have b24 := b23.trans (hb4.mono b23.size)
    have s34 := hb4.size
    clear hb4 hX3b hU3b b23
    go_wp2_with fail
    refine (hE.out _ _ _ hU4.out.slm (hV.out.below b24)).mono ?_
    rintro r5 w5 ⟨rfl, hb5⟩
    have hU5 := Lib.hid (hU4.out.below hb5)
    have hX5 := Lib.hid (hX4.out.below hb5)
    have hU35 := Lib.hid (hU34.out.below hb5)
    have b25 := b24.trans (hb5.mono b24.size)
    have s35 := Nat.le_trans s34 hb5.size
    clear hb5 b24 s34 hU4 hX4 hU34
    go_wp2_with fail
    refine (hT.out _ _ (hS0.out.below (b02.trans (b25.mono b02.size)))).mono ?_
    rintro r6 w6 ⟨⟨u6, rfl, hU6⟩, hb6⟩
    go_wp2_with fail
    refine (hEs.out _ _ _ (hU35.out.below hb6) hU6).mono ?_
    rintro r7 w7 ⟨rfl, hb7⟩
    have hU7 := Lib.hid ((hU5.out.below hb6).below hb7)
    have hX7 := Lib.hid ((hX5.out.below hb6).below hb7)
    have b27 := (b25.trans (hb6.mono b25.size)).trans (hb7.mono (Nat.le_trans b25.size hb6.size))
    have s37 := Nat.le_trans s35 (Nat.le_trans hb6.size hb7.size)
    clear hb6 hb7 b25 s35 hU5 hX5 hU35 hU6
    go_wp2_with fail
    refine (hMx.out _ _ _ _ hX7.out (Nat.le_trans s23 (Nat.le_trans s33 s37))).mono ?_
    rintro r8 w8 ⟨rfl, hM8⟩
    have hU8 := Lib.hid ((hM8.le (Nat.le_refl _) s33).mr hU7.out)
    have b28 := b27.trans hM8.bl
    have s38 : wF.heap.size ≤ w8.heap.size := by rw [hM8.sz]; exact s37
    clear hM8 b27 s37 hU7 hX7
    go_wp2_with fail
    refine (hE.out _ _ _ hU8.out.slm (hV.out.below b28)).mono ?_
    rintro r9 w9 ⟨rfl, hb9⟩
    have hU9 := Lib.hid (hU8.out.below hb9)
    have b29 := b28.trans (hb9.mono b28.size)
    have s39 := Nat.le_trans s38 hb9.size
    clear hb9 b28 s38 hU8
    go_wp2_with fail
    refine (hMk.out _ _ _ hU9.out s39).mono ?_
    rintro r10 w10 ⟨rfl, hb10, hU10⟩
    replace hU10 := Lib.hid hU10
    have b2a := b29.trans (hb10.mono (Nat.le_trans s23 s33))
    clear hb10 b29 s39 hU9
    go_wp2_with fail
    refine (hHd.out _ _ _ hU10.out).mono ?_
    rintro r11 w11 ⟨rfl, hb11⟩
    have hU11 := Lib.hid (hU10.out.below hb11)
    have b2b := b2a.trans (hb11.mono b2a.size)
    have b0b := b02.trans (b2b.mono b02.size)
    have hV11 := Lib.hid (hV.out.below b2b)
    have x0 := (b0b.cell (p := ⟨w.heap.size, 0, none⟩) hlt).trans e0
    have x1 := (b0b.cell (p := ⟨w.heap.size, 1, none⟩) hlt).trans e1
    have hS11 := Lib.hid (hS0.out.below b0b)
    have hlt11 := Nat.lt_of_lt_of_le hlt b0b.size
    have bw11 := b00.trans (b0b.mono b00.size)
    clear hb11 b2a b2b b02 b0b hU10 hV s23 s33 e0 e1 hlt hS0 b00
    go_upto_region 24 with fail
    go_cut [14, 15] (fun s6 s7 wx => s7 = .int .i64 c ∧ Hid (SlM wx s6 (matL n g)) ∧ Below w11.heap.size w11 wx)
    case first =>
      go_region_held3 (fun W => W.cell? ⟨w.heap.size, 0, none⟩ = some (.int .i64 y1) ∧ W.cell? ⟨w.heap.size, 1, none⟩ = some (.int .i64 y2))
        (exact ⟨old_cell hlt11 x0 (by (repeat (first | exact Below.refl _ _ | assumption | refine bchain (by assumption) ?_ | refine balloc ?_ _ | apply Below.drew | apply below_drewN | (refine Below.alloc ?_ (by (try simp) <;> omega) _) | (refine Below.setCell ?_ (by (try simp) <;> omega) _)))), old_cell hlt11 x1 (by (repeat (first | exact Below.refl _ _ | assumption | refine bchain (by assumption) ?_ | refine balloc ?_ _ | apply Below.drew | apply below_drewN | (refine Below.alloc ?_ (by (try simp) <;> omega) _) | (refine Below.setCell ?_ (by (try simp) <;> omega) _))))⟩)
        (first | (go_at_call 19; refine (hT.out _ _ (hS11.out.below (by (repeat (first | exact Below.refl _ _ | assumption | refine bchain (by assumption) ?_ | refine balloc ?_ _ | apply Below.drew | apply below_drewN | (refine Below.alloc ?_ (by (try simp) <;> omega) _) | (refine Below.setCell ?_ (by (try simp) <;> omega) _)))))).mono ?_; rintro rS wS ⟨⟨uS, rfl, hUS⟩, hbS⟩; replace hUS := Lib.hid hUS) | (go_at_call 22; refine (toF_any _ _ _).mono ?_; rintro rF wF ⟨rfl, hbF⟩) | (go_at_call 23; refine (hi.out _ _ (hUS.out.below (by (repeat (first | exact Below.refl _ _ | assumption | refine bchain (by assumption) ?_ | refine balloc ?_ _ | apply Below.drew | apply below_drewN | (refine Below.alloc ?_ (by (try simp) <;> omega) _) | (refine Below.setCell ?_ (by (try simp) <;> omega) _)))))).mono ?_; rintro rV wV ⟨⟨vV, rfl, hV⟩, hbV⟩; replace hV := Lib.hid hV.slm))
      all_goals (go_wp2_with fail; go_meet; exact ⟨rfl, hV.out, by (repeat (first | exact Below.refl _ _ | assumption | refine bchain (by assumption) ?_ | refine balloc ?_ _ | apply Below.drew | apply below_drewN | (refine Below.alloc ?_ (by (try simp) <;> omega) _) | (refine Below.setCell ?_ (by (try simp) <;> omega) _)))⟩)
    case rest =>
      obtain ⟨rfl, hU13, b2d⟩ := hcut
      have hU13' := Lib.hid (hU11.out.below b2d)
      go_wp2_with fail
      refine (hE.out _ _ _ hU13.out (hV11.out.below b2d)).mono ?_
      rintro r14 w14 ⟨rfl, hb14⟩
      have hU14 := Lib.hid (hU13'.out.below hb14)
      have b2e := b2d.trans (hb14.mono b2d.size)
      clear hb14 b2d hU13 hU13'
      go_wp2_with fail
      refine (hHd.out _ _ _ hU14.out).mono ?_
      rintro r15 w15 ⟨rfl, hb15⟩
      have hB : Below w.heap.size w w15 := bw11.trans ((b2e.trans (hb15.mono b2e.size)).mono bw11.size)
      clear hb15 b2e bw11
      go_wp2
      go_ret
      exact ⟨rfl, hB⟩
theorem walk (v : Value) (m : List (List (Int × Int))) (y1 y2 : Int) (_h1 : (Lit.int .i64 y1).wf = true) (_h2 : (Lit.int .i64 y2).wf = true) (w : World) (hS : SlM w v m) :
    Calls Try.prog 5 #[v, .agg #[.int .i64 y1, .int .i64 y2]] w fun r w' => r = .returned (.bool true) ∧ Below w.heap.size w w' := by
  rcases Nat.lt_or_ge 1048576 (m.length + tot m m.length) with h | h
  · exact walk_long v m y1 y2 w hS h
  · exact walk_short v m y1 y2 w hS h
end ScaleMatrixLaw
theorem ScaleMatrixLaw.lifted (os : Os) (started : os.Started) (H : Type) (enc : TypeId × Value → H) :
    ReturnsInHanded {} Try.checked os 5 .any (Rows.fnExactScaleMatrixSpec.pre6 enc Try.prog Try.f5 Rows.fnExactScaleMatrixRow.domain false)
      (Rows.fnExactScaleMatrixSpec.post enc Try.prog Try.f5 false true false false) := by
  refine fr_lift (C := Try.checked) own started (by kernel_rfl) Try.func5 laid_out rfl (by kernel_rfl) (tb := 4) rfl Try.underlying4 ?hs
    (ChangeSpec.witness6 (enc := enc) (C := Try.checked) false ⟨#[], #[.slice none 0 0, .agg #[.int .i64 0, .int .i64 0]], []⟩ 8 (by kernel_rfl) (by kernel_rfl) (by kernel_rfl) (by kernel_rfl)) ?_
  case hs =>
    intro ds h
    match ds, h with
    | [d0, d1], _ => rfl
  intro W base args ds p hval0 hA0 hlt hsz
  have hval : ∀ (j : Nat) t v, Try.f5.params[j]? = some t → args[j]? = some v → Value.okWide Try.prog W .any base t v := hval0
  have hA : DataW.TrodAll enc Try.prog W 0 (fun _ => true) true Try.f5.params.toList args.toList ds p := hA0
  rw [Try.params5] at hA hval
  obtain ⟨v0, vs0, d0, ds0, p0, q0, hargs, rfl, rfl, h0, r0⟩ := trodAll_cons hA
  obtain ⟨v1, vs1, d1, ds1, p1, q1, rfl, rfl, rfl, h1, r1⟩ := trodAll_cons r0
  obtain ⟨rfl, rfl, rfl⟩ := trodAll_nil r1
  obtain rfl : args = #[v0, v1] := by cases args; simp_all
  obtain ⟨x0, R0⟩ := open_ms (hval 0 28 v0 rfl rfl) h0
  obtain ⟨a1, b1, rfl, w1, u1⟩ := open_frac (hval 1 34 v1 rfl rfl) h1
  exact ScaleMatrixLaw.walk v0 x0 a1 b1 w1 u1 W R0

theorem scaleMatrix_holds : Rows.FnExactScaleMatrixSaid :=
  OpenClaim.holds_of_wide 5 Try.f5 rfl rfl rfl rfl rfl rfl rfl ⟨rfl, rfl, rfl, rfl, rfl⟩ rfl rfl rfl rfl rfl (by kernel_rfl) Try.func5 (by kernel_rfl)
    (of_decide_eq_true (by kernel_rfl)) (by unfold Func.isWrapper; rw [if_neg (of_decide_eq_false (by kernel_rfl))]; exact ⟨rfl, rfl⟩)
    (fun os started H enc _ => ScaleMatrixLaw.lifted os started H enc)
#print axioms scaleMatrix_holds
end Go.Proofs.Ytdibcchhamapjac
