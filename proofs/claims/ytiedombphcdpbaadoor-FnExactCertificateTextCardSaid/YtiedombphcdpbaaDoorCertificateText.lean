/-
  PROVED: for every certificate, valid or not, CertificateText of the program answers as the model's does, and its certificate is left as it was. Condition: the tables of the library hold what the program's text lays there (the card ties them).
-/
import Derived.Test.YtiedombphcdpbaaDoorCxi
import Derived.Test.YtiedombphcdpbaaDoorTie
import Derived.Test.YtiedombphcdpbaaDoorCards
import Derived.SevenTiedAt
import Derived.Deep.RegionHeld3
namespace Go.Proofs.YtiedombphcdpbaaDoor
open Go.ChangeShapes Go.WideShapes Go.ChangeAt Go.RowKit
set_option maxRecDepth 100000

namespace CertificateTextLaw
theorem both (C : CM) (hbd : BdB C.bs) (hm : tC C ≤ 1048576) : ∃ s : ByteArray, (∀ W u, SlB W u C.bs → Calls Tryd.prog 18 #[.agg #[.int .i64 C.s, u]] W fun r w' => r = .returned (.string s) ∧ Below W.heap.size W w') ∧
    (∀ W u, SlB W u C.bs → TabP W → Calls Tryd.prog 20 #[.agg #[.int .i64 C.s, u]] W fun r w' => r = .returned (.string s) ∧ Below W.heap.size W w') := by
  by_cases h : CO C.s C.bs
  · exact ⟨_, fun W u hS => (sct_any W C u hS hbd hm).2 h, fun W u hS hT => ict_t W C u C.s.toNat (by have := h.1.1; omega) hS hbd hm h hT⟩
  · exact ⟨_, fun W u hS => (sct_any W C u hS hbd hm).1 h, fun W u hS _ => ict_f W C u hS hbd hm h⟩
theorem walk_long (v : Value) (Y : CM) (w : World) (h : CtS w v Y) (hm : ¬ ((tC Y : Int) ≤ 1048576)) :
    Calls Tryd.prog 5 #[v] w fun r w' => r = .returned (.bool true) ∧ Below w.heap.size w w' := by
  have hC := Lib.hid (fun W (hb : Below w.heap.size w W) => szC_bad W v Y (h.below hb) 1048576 (by omega) (by omega) hm)
  obtain ⟨u, rfl, ⟨a, cap, rfl, _⟩⟩ := h
  clear hm
  go_enter Tryd.func5, Tryd.ntmps5
  go_wp2_with fail
  refine (hC.out _ (by (repeat (first | exact Below.refl _ _ | assumption | refine bchain (by assumption) ?_ | refine balloc ?_ _ | apply Below.drew | apply below_drewN | (refine Below.alloc ?_ (by (try simp) <;> omega) _) | (refine Below.setCell ?_ (by (try simp) <;> omega) _))))).mono ?_
  rintro r1 w1 ⟨rfl, hb1⟩
  go_wp2
  go_ret
  exact ⟨rfl, by (repeat (first | exact Below.refl _ _ | assumption | refine bchain (by assumption) ?_ | refine balloc ?_ _ | apply Below.drew | apply below_drewN | (refine Below.alloc ?_ (by (try simp) <;> omega) _) | (refine Below.setCell ?_ (by (try simp) <;> omega) _)))⟩
set_option maxHeartbeats 8000000 in
theorem walk_short (v : Value) (Y : CM) (w : World) (h : CtS w v Y) (hbd : BdB Y.bs) (hw : TabP w) (hm : (tC Y : Int) ≤ 1048576) :
    Calls Tryd.prog 5 #[v] w fun r w' => r = .returned (.bool true) ∧ Below w.heap.size w w' := by
  obtain ⟨R, hs, hi⟩ := both Y hbd (by omega)
  replace hs := Lib.hid hs
  replace hi := Lib.hid (fun W (hb : Below w.heap.size w W) u (hu : SlB W u Y.bs) => hi W u hu (hw.below hb))
  have hC := Lib.hid (fun W (hb : Below w.heap.size w W) => szC_ok W v Y (h.below hb) 1048576 (by omega) (by omega) hm)
  have hT := Lib.hid (fun W (hb : Below w.heap.size w W) => toC_any W v Y (h.below hb) (by omega))
  have hE := Lib.hid (fun W u u' (hu : SlB W u Y.bs) (hu' : SlB W u' Y.bs) => eqC_any W Y u u' hu hu' (by omega))
  have hl0 : 0 ≤ 1048576 - (tC Y : Int) := by omega
  obtain ⟨q0, hq⟩ : ∃ q0 : Int, 1048576 - (tC Y : Int) = q0 := ⟨_, rfl⟩
  rw [hq] at hC hl0
  obtain ⟨s, bs⟩ := Y
  obtain ⟨u, rfl, ⟨a, cap, rfl, _⟩⟩ := h
  dsimp only at *
  clear hq hm hbd hw
  obtain ⟨l, hl⟩ : ∃ l, bs.length = l := ⟨_, rfl⟩
  rw [hl] at hC hT ⊢
  replace hl := Lib.hid hl
  obtain ⟨W0, hW0⟩ : ∃ W0, W0 = w.alloc (.cells #[.int .i64 s, .slice a l cap] 46) := ⟨_, rfl⟩
  have hB0 : Below w.heap.size w W0 := by rw [hW0]; (repeat (first | exact Below.refl _ _ | assumption | refine bchain (by assumption) ?_ | refine balloc ?_ _ | apply Below.drew | apply below_drewN | (refine Below.alloc ?_ (by (try simp) <;> omega) _) | (refine Below.setCell ?_ (by (try simp) <;> omega) _)))
  have k1 : CB W0 w.heap.size s (.slice a l cap) := by rw [hW0]; exact CB.made _ _ _ _
  replace hW0 := Lib.hid hW0
  obtain ⟨_, x0, x1, _⟩ := id k1
  go_enter Tryd.func5, Tryd.ntmps5
  go_wp2_with fail
  rw [← hW0.out]
  go_wp2_with fail
  refine (hC.out _ hB0).mono ?_
  rintro r1 w1 ⟨rfl, hb1⟩
  clear x0 x1
  obtain ⟨_, x0, x1, _⟩ := k1.below hb1
  go_wp2_with fail
  refine (hT.out _ (bchain hb1 hB0)).mono ?_
  rintro r3 w3 ⟨⟨u3, rfl, hU3⟩, hb3⟩
  have D3 : Below W0.heap.size W0 w3 := bchain hb3 hb1
  clear x0 x1
  go_wp2_with fail
  refine (hs.out _ _ hU3.sl).mono ?_
  rintro r5 w5 ⟨rfl, hb5⟩
  have D5 : Below W0.heap.size W0 w5 := bchain hb5 D3
  clear hb1 hb3 hb5 hU3 D3
  obtain ⟨_, x0, x1, _⟩ := k1.below D5
  go_wp2_with fail
  refine (hT.out _ (bchain D5 hB0)).mono ?_
  rintro r6 w6 ⟨⟨u6, rfl, hU6⟩, hb6⟩
  have D6 : Below W0.heap.size W0 w6 := bchain hb6 D5
  obtain ⟨a6, c6, rfl, _⟩ := id hU6
  rw [hl.out] at hU6 ⊢
  clear D5 hb6 x0 x1
  obtain ⟨WX, hWX⟩ : ∃ WX, WX = w6.alloc (.cells #[.int .i64 s, .slice a6 l c6] 51) := ⟨_, rfl⟩
  have sX : CB WX w6.heap.size s (.slice a6 l c6) := by rw [hWX]; exact CB.made _ _ _ _
  have bX : Below w6.heap.size w6 WX := by rw [hWX]; exact balloc (Below.refl _ _) _
  replace hWX := Lib.hid hWX
  have D6' : Below W0.heap.size W0 WX := bchain bX D6
  have hU6' := Lib.hid (hU6.sl.below bX)
  have hn6 : w.heap.size ≠ w6.heap.size := by have := k1.lt; have := D6.size; omega
  clear hU6
  obtain ⟨_, x0, x1, _⟩ := id sX
  go_wp2_with fail
  rw [← hWX.out]
  go_wp2_with fail
  refine (hi.out _ (bchain D6' hB0) _ hU6'.out).mono ?_
  rintro r9 w9 ⟨rfl, hb9⟩
  have D9 : Below W0.heap.size W0 w9 := bchain hb9 D6'
  have sX9 := sX.below hb9
  have hU69 := Lib.hid (hU6'.out.below hb9)
  clear D6 D6' sX hb9 hU6' x0 x1
  have k1' := Lib.hid (k1.below D9)
  have hBB9 := bchain D9 hB0
  have s1' := Lib.hid sX9
  obtain ⟨_, x0, x1, _⟩ := id sX9
  obtain ⟨_, y0, y1, _⟩ := k1.below D9
  clear sX9
  go_wp2_with fail
  go_region_held3 (fun A => (A.cell? ⟨w.heap.size, 0, none⟩ = some (.int .i64 s) ∧ A.cell? ⟨w.heap.size, 1, none⟩ = some (.slice a l cap)) ∧ (A.cell? ⟨w6.heap.size, 0, none⟩ = some (.int .i64 s) ∧ A.cell? ⟨w6.heap.size, 1, none⟩ = some (.slice a6 l c6)))
    (exact ⟨⟨(k1'.out.below (by (repeat (first | exact Below.refl _ _ | assumption | refine bchain (by assumption) ?_ | refine balloc ?_ _ | apply Below.drew | apply below_drewN | (refine Below.alloc ?_ (by (try simp) <;> omega) _) | (refine Below.setCell ?_ (by (try simp) <;> omega) _))))).c0, (k1'.out.below (by (repeat (first | exact Below.refl _ _ | assumption | refine bchain (by assumption) ?_ | refine balloc ?_ _ | apply Below.drew | apply below_drewN | (refine Below.alloc ?_ (by (try simp) <;> omega) _) | (refine Below.setCell ?_ (by (try simp) <;> omega) _))))).c1⟩, ⟨(s1'.out.below (by (repeat (first | exact Below.refl _ _ | assumption | refine bchain (by assumption) ?_ | refine balloc ?_ _ | apply Below.drew | apply below_drewN | (refine Below.alloc ?_ (by (try simp) <;> omega) _) | (refine Below.setCell ?_ (by (try simp) <;> omega) _))))).c0, (s1'.out.below (by (repeat (first | exact Below.refl _ _ | assumption | refine bchain (by assumption) ?_ | refine balloc ?_ _ | apply Below.drew | apply below_drewN | (refine Below.alloc ?_ (by (try simp) <;> omega) _) | (refine Below.setCell ?_ (by (try simp) <;> omega) _))))).c1⟩⟩)
    (first
    | (go_at_call 19; refine (hT.out _ (by (repeat (first | exact Below.refl _ _ | assumption | refine bchain (by assumption) ?_ | refine balloc ?_ _ | apply Below.drew | apply below_drewN | (refine Below.alloc ?_ (by (try simp) <;> omega) _) | (refine Below.setCell ?_ (by (try simp) <;> omega) _))))).mono ?_; rintro r10 w10 ⟨⟨u10, rfl, hU10⟩, hb10⟩)
    | (go_at_call 21; refine (hE.out _ _ _ (hU69.out.below (by (repeat (first | exact Below.refl _ _ | assumption | refine bchain (by assumption) ?_ | refine balloc ?_ _ | apply Below.drew | apply below_drewN | (refine Below.alloc ?_ (by (try simp) <;> omega) _) | (refine Below.setCell ?_ (by (try simp) <;> omega) _))))) hU10.sl).mono ?_; rintro r11 w11 ⟨rfl, hb11⟩))
  have D911 : Below w9.heap.size w9 w11 := bchain hb11 (bchain hb10 (Below.refl _ w9).drew)
  have D11 : Below W0.heap.size W0 w11 := bchain D911 D9
  go_wp2
  go_ret
  exact ⟨rfl, bchain D11 hB0⟩
theorem walk (v : Value) (Y : CM) (w : World) (h : CtS w v Y) (hb : BdB Y.bs) (hw : TabP w) :
    Calls Tryd.prog 5 #[v] w fun r w' => r = .returned (.bool true) ∧ Below w.heap.size w w' := by
  by_cases c : (tC Y : Int) ≤ 1048576
  · exact walk_short v Y w h hb hw c
  · exact walk_long v Y w h c
end CertificateTextLaw
theorem CertificateTextLaw.lifted (os : Os) (started : os.Started) (H : Type) (enc : TypeId × Value → H) :
    ReturnsInHanded {} Tryd.checked os 5 .any (fun w args => (Rows.fnExactCertificateTextSpec.pre enc Tryd.prog Tryd.f5 [] false w args ∧ laidMetH Tryd.prog Rows.fnExactCertificateTextRow.laid w) ∧ sizedMet enc Tryd.prog Tryd.f5 (OpenSpec.ofChange Rows.fnExactCertificateTextSpec) false w args)
      (Rows.fnExactCertificateTextSpec.post enc Tryd.prog Tryd.f5 false true false false) := by
  refine fr_liftC (C := Tryd.checked) (laid := Rows.fnExactCertificateTextRow.laid) own started (by kernel_rfl) Tryd.func5 laid_out (by kernel_rfl) (by kernel_rfl) (tb := 4) rfl Tryd.underlying4 ?hs
    (ChangeSpec.witness_shaped (enc := enc) (C := Tryd.checked) (os := os) (X := fun w _ => laidMetH Tryd.prog Rows.fnExactCertificateTextRow.laid w) false (World.doorLaid Tryd.prog 400 os) #[.agg #[.int .i64 0, .slice none 0 0]] 8 rfl
      (World.shaped_of_RefB (by kernel_rfl) (by kernel_rfl)) (by kernel_rfl) (by kernel_rfl) (by kernel_rfl) (laidMetH_of_parts3 (fuel := 8) (laidMet_of_run' 8 (by kernel_rfl) (by kernel_rfl)) (by kernel_rfl) (by kernel_rfl))) ?_
  case hs =>
    intro ds gs h h2
    match ds, h, gs, h2 with
    | [d0], _, [], _ => rfl
  intro W base args ds gs p hval0 hA0 hlt hsz hL0
  have hL : laidMet Tryd.prog Rows.fnExactCertificateTextRow.laid W := by rw [← MakeChecks.laidMetH_plain _ _ _ (by kernel_rfl)]; exact hL0
  have hval : ∀ (j : Nat) t v, Tryd.f5.params[j]? = some t → args[j]? = some v → Value.okWide Tryd.prog W .any base t v := hval0
  have hA : DataW.TrodAll enc Tryd.prog W 0 (fun _ => true) true Tryd.f5.params.toList args.toList ds p := hA0
  rw [Tryd.params5] at hA hval
  obtain ⟨v0, vs0, d0, ds0, p0, q0, hargs, rfl, rfl, h0, r0⟩ := trodAll_cons hA
  obtain ⟨rfl, rfl, rfl⟩ := trodAll_nil r0
  obtain rfl : args = #[v0] := by cases args; simp_all
  obtain ⟨x0, R0⟩ := open_cert (hval 0 46 v0 rfl rfl) h0
  exact CertificateTextLaw.walk v0 x0 W R0.1 R0.2 (tabP_of_laid (laidMet.tail (laidMet.tail hL)))

theorem certificateText_holds_row : Rows.FnExactCertificateTextSaid :=
  OpenClaim.holds_of_wide 5 Tryd.f5 rfl rfl rfl rfl rfl rfl rfl ⟨rfl, rfl, rfl, rfl, rfl⟩ rfl rfl rfl rfl rfl (by kernel_rfl) Tryd.func5 (by kernel_rfl)
    (of_decide_eq_true (by kernel_rfl)) (by unfold Func.isWrapper; rw [if_neg (of_decide_eq_false (by kernel_rfl))]; exact ⟨rfl, rfl⟩)
    (fun os started H enc _ => CertificateTextLaw.lifted os started H enc)
theorem certificateText_holds : Rows.FnExactCertificateTextCardSaid :=
  Claim7.holds_tied_plain_at .later [] Rows.fnExactCertificateTextCard.laidKinds true Rows.fnExactCertificateTextCard.stood.harness Rows.fnExactCertificateTextCard.stood.looks certificateText_holds_row (fun _ h => by cases h) (by kernel_rfl) (fun _ h => by cases h) fnExactCertificateText_row_tie rfl ⟨rfl, rfl⟩ (by kernel_rfl) rfl
    (fun f fn hf hfn => by
      obtain rfl : f = 5 := Option.some.inj ((show Tryd.prog.funcNamed "loop.example/g01169/laws.FnExactCertificateText" = some 5 by kernel_rfl).symm.trans hf) |>.symm
      obtain rfl : fn = Tryd.f5 := (Option.some.inj (Tryd.func5.symm.trans hfn)).symm
      exact ⟨by kernel_rfl, fun j t ht => by
        rw [Tryd.params5] at ht
        have hm : t ∈ [46] := by simpa using Array.mem_of_getElem? ht
        have hall : ([46].all fun u => !Tryd.prog.wantsStandIn u) = true := by kernel_rfl
        exact (show Tryd.prog.wantsStandIn t = false by simpa using List.all_eq_true.1 hall t hm)⟩)
    (by kernel_rfl)
#print axioms certificateText_holds
end Go.Proofs.YtiedombphcdpbaaDoor
