/-
  PROVED: for every pattern, valid or not, PatternText of the program answers as the model's does, and its pattern is left as it was. Condition: the tables of the library hold what the program's text lays there (the card ties them).
-/
import Derived.Test.YtiedombphcdpbaaDoorPxi
import Derived.Test.YtiedombphcdpbaaDoorPt
import Derived.Test.YtiedombphcdpbaaDoorTie
import Derived.Test.YtiedombphcdpbaaDoorCards
import Derived.SevenTiedAt
namespace Go.Proofs.YtiedombphcdpbaaDoor
open Go.ChangeShapes Go.WideShapes Go.ChangeAt Go.RowKit
set_option maxRecDepth 100000

theorem pp_both (X : PM) (hbd : BdP X) : ∃ s : ByteArray, (∀ W u, Fr.SlG W u X.ts → Calls Tryd.prog 23 #[.agg #[.int .i64 X.n, .int .u32 X.e, .int .u32 X.s, u]] W fun r w' => r = .returned (.string s) ∧ Below W.heap.size W w') ∧
    (∀ W u, Fr.SlG W u X.ts → TabP W → TabZ W → Calls Tryd.prog 25 #[.agg #[.int .i64 X.n, .int .u32 X.e, .int .u32 X.s, u]] W fun r w' => r = .returned (.string s) ∧ Below W.heap.size W w') := by
  by_cases h : VPat X
  · exact ⟨_, fun W u hS => spp_t W X u hS hbd h, fun W u hS hT hZ => ipp_t W X u hS hbd h hT hZ⟩
  · exact ⟨_, fun W u hS => spp_f W X u hS hbd h, fun W u hS _ _ => ipp_f W X u hS hbd h⟩
namespace PatternTextLaw
theorem walk_long (v : Value) (X : PM) (w : World) (h : PatS w v X) (hm : 1048576 < X.ts.length) :
    Calls Tryd.prog 6 #[v] w fun r w' => r = .returned (.bool true) ∧ Below w.heap.size w w' := by
  have hC := Lib.hid (fun W (hb : Below w.heap.size w W) => szP_long W v X (h.below hb) hm)
  obtain ⟨u, rfl, a, cap, rfl, _⟩ := h
  clear hm
  go_enter Tryd.func6, Tryd.ntmps6
  go_wp2_with fail
  refine (hC.out _ (by (repeat (first | exact Below.refl _ _ | assumption | refine bchain (by assumption) ?_ | refine balloc ?_ _ | apply Below.drew | apply below_drewN | (refine Below.alloc ?_ (by (try simp) <;> omega) _) | (refine Below.setCell ?_ (by (try simp) <;> omega) _))))).mono ?_
  rintro r1 w1 ⟨rfl, hb1⟩
  go_wp2
  go_ret
  exact ⟨rfl, by (repeat (first | exact Below.refl _ _ | assumption | refine bchain (by assumption) ?_ | refine balloc ?_ _ | apply Below.drew | apply below_drewN | (refine Below.alloc ?_ (by (try simp) <;> omega) _) | (refine Below.setCell ?_ (by (try simp) <;> omega) _)))⟩
set_option maxHeartbeats 8000000 in
theorem walk_short (v : Value) (X : PM) (w : World) (h : PatS w v X) (hbd : BdP X) (hw : TabP w ∧ TabZ w) (hm : X.ts.length ≤ 1048576) :
    Calls Tryd.prog 6 #[v] w fun r w' => r = .returned (.bool true) ∧ Below w.heap.size w w' := by
  obtain ⟨R, hs, hi⟩ := pp_both X hbd
  replace hs := Lib.hid hs
  replace hi := Lib.hid (fun W (hb : Below w.heap.size w W) u (h : Fr.SlG W u X.ts) => hi W u h (hw.1.below hb) (hw.2.below hb))
  have hC := Lib.hid (fun W (hb : Below w.heap.size w W) => szP_ok W v X (h.below hb) hm)
  have hT := Lib.hid (fun W (hb : Below w.heap.size w W) => toP_any W v X (h.below hb) hm)
  have hE := Lib.hid (fun W u u' (h : Fr.SlG W u X.ts) (h' : Fr.SlG W u' X.ts) => eqP_any W u u' X h h' hm)
  have hl0 : 0 ≤ 1048576 - (X.ts.length : Int) := by omega
  obtain ⟨q, hq⟩ : ∃ q : Int, 1048576 - (X.ts.length : Int) = q := ⟨_, rfl⟩
  rw [hq] at hC hl0
  obtain ⟨u, rfl, a, cap, rfl, _⟩ := h
  obtain ⟨W0, hW0⟩ : ∃ W0, W0 = w.alloc (.cells #[.int .i64 X.n, .int .u32 X.e, .int .u32 X.s, .slice a X.ts.length cap] 57) := ⟨_, rfl⟩
  have hB0 : Below w.heap.size w W0 := by rw [hW0]; (repeat (first | exact Below.refl _ _ | assumption | refine bchain (by assumption) ?_ | refine balloc ?_ _ | apply Below.drew | apply below_drewN | (refine Below.alloc ?_ (by (try simp) <;> omega) _) | (refine Below.setCell ?_ (by (try simp) <;> omega) _)))
  have k1 : PB W0 w.heap.size X.n X.e X.s (.slice a X.ts.length cap) := by rw [hW0]; exact PB.made w _ _ _ _ _
  replace hW0 := Lib.hid hW0
  clear hm hq hbd hw
  obtain ⟨_, x0, x1, x2, x3, _⟩ := id k1
  go_enter Tryd.func6, Tryd.ntmps6
  go_wp2_with fail
  rw [← hW0.out]
  go_wp2_with fail
  refine (hC.out _ hB0).mono ?_
  rintro r1 w1 ⟨rfl, hb1⟩
  clear x0 x1 x2 x3
  obtain ⟨_, x0, x1, x2, x3, _⟩ := k1.below hb1
  go_wp2_with fail
  refine (hT.out _ (bchain hb1 hB0)).mono ?_
  rintro r3 w3 ⟨⟨u3, rfl, hU3⟩, hb3⟩
  have D3 : Below W0.heap.size W0 w3 := bchain hb3 hb1
  clear x0 x1 x2 x3
  go_wp2_with fail
  refine (hs.out _ _ hU3.sl).mono ?_
  rintro r5 w5 ⟨rfl, hb5⟩
  have D5 : Below W0.heap.size W0 w5 := bchain hb5 D3
  clear hb1 hb3 hb5 hU3 D3
  obtain ⟨_, x0, x1, x2, x3, _⟩ := k1.below D5
  go_wp2_with fail
  refine (hT.out _ (bchain D5 hB0)).mono ?_
  rintro r6 w6 ⟨⟨u6, rfl, hU6⟩, hb6⟩
  have D6 : Below W0.heap.size W0 w6 := bchain hb6 D5
  obtain ⟨a6, c6, rfl, _⟩ := id hU6
  clear D5 hb6 x0 x1 x2 x3
  obtain ⟨WX, hWX⟩ : ∃ WX, WX = w6.alloc (.cells #[.int .i64 X.n, .int .u32 X.e, .int .u32 X.s, (.slice a6 X.ts.length c6)] 62) := ⟨_, rfl⟩
  have sX : PB WX w6.heap.size X.n X.e X.s (.slice a6 X.ts.length c6) := by rw [hWX]; exact PB.made _ _ _ _ _ _
  have bX : Below w6.heap.size w6 WX := by rw [hWX]; exact balloc (Below.refl _ _) _
  replace hWX := Lib.hid hWX
  have D6' : Below W0.heap.size W0 WX := bchain bX D6
  have hU6' := Lib.hid (hU6.sl.below bX)
  have hn6 : w.heap.size ≠ w6.heap.size := by have := k1.lt; have := D6.size; omega
  clear hU6
  obtain ⟨_, x0, x1, x2, x3, _⟩ := id sX
  go_wp2_with fail
  rw [← hWX.out]
  go_wp2_with fail
  refine (hi.out _ (bchain D6' hB0) _ hU6'.out).mono ?_
  rintro r9 w9 ⟨rfl, hb9⟩
  have D9 : Below W0.heap.size W0 w9 := bchain hb9 D6'
  have sX9 := sX.below hb9
  have hU69 := Lib.hid (hU6'.out.below hb9)
  clear D6 D6' sX hb9 hU6' x0 x1 x2 x3
  have k1' := Lib.hid (k1.below D9)
  have hBB9 := bchain D9 hB0
  have s1' := Lib.hid sX9
  obtain ⟨_, x0, x1, x2, x3, _⟩ := id sX9
  obtain ⟨_, y0, y1, y2, y3, _⟩ := k1.below D9
  clear sX9
  go_wp2_with fail
  go_region_held3 (fun A => (A.cell? ⟨w.heap.size, 0, none⟩ = some (.int .i64 X.n) ∧ A.cell? ⟨w.heap.size, 1, none⟩ = some (.int .u32 X.e) ∧ A.cell? ⟨w.heap.size, 2, none⟩ = some (.int .u32 X.s) ∧ A.cell? ⟨w.heap.size, 3, none⟩ = some (.slice a X.ts.length cap)) ∧ A.cell? ⟨w6.heap.size, 0, none⟩ = some (.int .i64 X.n) ∧ A.cell? ⟨w6.heap.size, 1, none⟩ = some (.int .u32 X.e) ∧ A.cell? ⟨w6.heap.size, 2, none⟩ = some (.int .u32 X.s) ∧ A.cell? ⟨w6.heap.size, 3, none⟩ = some (.slice a6 X.ts.length c6))
    (exact ⟨⟨(k1'.out.below (by (repeat (first | exact Below.refl _ _ | assumption | refine bchain (by assumption) ?_ | refine balloc ?_ _ | apply Below.drew | apply below_drewN | (refine Below.alloc ?_ (by (try simp) <;> omega) _) | (refine Below.setCell ?_ (by (try simp) <;> omega) _))))).c0, (k1'.out.below (by (repeat (first | exact Below.refl _ _ | assumption | refine bchain (by assumption) ?_ | refine balloc ?_ _ | apply Below.drew | apply below_drewN | (refine Below.alloc ?_ (by (try simp) <;> omega) _) | (refine Below.setCell ?_ (by (try simp) <;> omega) _))))).c1, (k1'.out.below (by (repeat (first | exact Below.refl _ _ | assumption | refine bchain (by assumption) ?_ | refine balloc ?_ _ | apply Below.drew | apply below_drewN | (refine Below.alloc ?_ (by (try simp) <;> omega) _) | (refine Below.setCell ?_ (by (try simp) <;> omega) _))))).c2, (k1'.out.below (by (repeat (first | exact Below.refl _ _ | assumption | refine bchain (by assumption) ?_ | refine balloc ?_ _ | apply Below.drew | apply below_drewN | (refine Below.alloc ?_ (by (try simp) <;> omega) _) | (refine Below.setCell ?_ (by (try simp) <;> omega) _))))).c3⟩, (s1'.out.below (by (repeat (first | exact Below.refl _ _ | assumption | refine bchain (by assumption) ?_ | refine balloc ?_ _ | apply Below.drew | apply below_drewN | (refine Below.alloc ?_ (by (try simp) <;> omega) _) | (refine Below.setCell ?_ (by (try simp) <;> omega) _))))).c0, (s1'.out.below (by (repeat (first | exact Below.refl _ _ | assumption | refine bchain (by assumption) ?_ | refine balloc ?_ _ | apply Below.drew | apply below_drewN | (refine Below.alloc ?_ (by (try simp) <;> omega) _) | (refine Below.setCell ?_ (by (try simp) <;> omega) _))))).c1, (s1'.out.below (by (repeat (first | exact Below.refl _ _ | assumption | refine bchain (by assumption) ?_ | refine balloc ?_ _ | apply Below.drew | apply below_drewN | (refine Below.alloc ?_ (by (try simp) <;> omega) _) | (refine Below.setCell ?_ (by (try simp) <;> omega) _))))).c2, (s1'.out.below (by (repeat (first | exact Below.refl _ _ | assumption | refine bchain (by assumption) ?_ | refine balloc ?_ _ | apply Below.drew | apply below_drewN | (refine Below.alloc ?_ (by (try simp) <;> omega) _) | (refine Below.setCell ?_ (by (try simp) <;> omega) _))))).c3⟩)
    (first
    | (go_at_call 24; refine (hT.out _ (by (repeat (first | exact Below.refl _ _ | assumption | refine bchain (by assumption) ?_ | refine balloc ?_ _ | apply Below.drew | apply below_drewN | (refine Below.alloc ?_ (by (try simp) <;> omega) _) | (refine Below.setCell ?_ (by (try simp) <;> omega) _))))).mono ?_; rintro r10 w10 ⟨⟨u10, rfl, hU10⟩, hb10⟩)
    | (go_at_call 26; refine (hE.out _ _ _ (hU69.out.below (by (repeat (first | exact Below.refl _ _ | assumption | refine bchain (by assumption) ?_ | refine balloc ?_ _ | apply Below.drew | apply below_drewN | (refine Below.alloc ?_ (by (try simp) <;> omega) _) | (refine Below.setCell ?_ (by (try simp) <;> omega) _))))) hU10.sl).mono ?_; rintro r11 w11 ⟨rfl, hb11⟩))
  have D911 : Below w9.heap.size w9 w11 := bchain hb11 (bchain hb10 (Below.refl _ w9).drew)
  have D11 : Below W0.heap.size W0 w11 := bchain D911 D9
  go_wp2
  go_ret
  exact ⟨rfl, bchain D11 hB0⟩
theorem walk (v : Value) (X : PM) (w : World) (h : PatS w v X) (hb : BdP X) (hw : TabP w ∧ TabZ w) :
    Calls Tryd.prog 6 #[v] w fun r w' => r = .returned (.bool true) ∧ Below w.heap.size w w' := by
  rcases Nat.lt_or_ge 1048576 X.ts.length with c | c
  · exact walk_long v X w h c
  · exact walk_short v X w h hb hw c
end PatternTextLaw
theorem PatternTextLaw.lifted (os : Os) (started : os.Started) (H : Type) (enc : TypeId × Value → H) :
    ReturnsInHanded {} Tryd.checked os 6 .any (fun w args => (Rows.fnExactPatternTextSpec.pre enc Tryd.prog Tryd.f6 [] false w args ∧ laidMetH Tryd.prog Rows.fnExactPatternTextRow.laid w) ∧ sizedMet enc Tryd.prog Tryd.f6 (OpenSpec.ofChange Rows.fnExactPatternTextSpec) false w args)
      (Rows.fnExactPatternTextSpec.post enc Tryd.prog Tryd.f6 false true false false) := by
  refine fr_liftC (C := Tryd.checked) (laid := Rows.fnExactPatternTextRow.laid) own started (by kernel_rfl) Tryd.func6 laid_out (by kernel_rfl) (by kernel_rfl) (tb := 4) rfl Tryd.underlying4 ?hs
    (ChangeSpec.witness_shaped (enc := enc) (C := Tryd.checked) (os := os) (X := fun w _ => laidMetH Tryd.prog Rows.fnExactPatternTextRow.laid w) false (World.doorLaid Tryd.prog 400 os) #[.agg #[.int .i64 0, .int .u32 0, .int .u32 0, .slice none 0 0]] 8 rfl
      (World.shaped_of_RefB (by kernel_rfl) (by kernel_rfl)) (by kernel_rfl) (by kernel_rfl) (by kernel_rfl) (laidMetH_of_parts3 (fuel := 8) (laidMet_of_run' 8 (by kernel_rfl) (by kernel_rfl)) (by kernel_rfl) (by kernel_rfl))) ?_
  case hs =>
    intro ds gs h h2
    match ds, h, gs, h2 with
    | [d0], _, [], _ => rfl
  intro W base args ds gs p hval0 hA0 hlt hsz hL0
  have hL : laidMet Tryd.prog Rows.fnExactPatternTextRow.laid W := by rw [← MakeChecks.laidMetH_plain _ _ _ (by kernel_rfl)]; exact hL0
  have hval : ∀ (j : Nat) t v, Tryd.f6.params[j]? = some t → args[j]? = some v → Value.okWide Tryd.prog W .any base t v := hval0
  have hA : DataW.TrodAll enc Tryd.prog W 0 (fun _ => true) true Tryd.f6.params.toList args.toList ds p := hA0
  rw [Tryd.params6] at hA hval
  obtain ⟨v0, vs0, d0, ds0, p0, q0, hargs, rfl, rfl, h0, r0⟩ := trodAll_cons hA
  obtain ⟨rfl, rfl, rfl⟩ := trodAll_nil r0
  obtain rfl : args = #[v0] := by cases args; simp_all
  obtain ⟨x0, R0⟩ := open_pat (hval 0 57 v0 rfl rfl) h0
  exact PatternTextLaw.walk v0 x0 W R0.1 R0.2 (And.intro (tabP_of_laid (laidMet.tail (laidMet.tail hL))) (tabZ_of_laid hL))

theorem patternText_holds_row : Rows.FnExactPatternTextSaid :=
  OpenClaim.holds_of_wide 6 Tryd.f6 rfl rfl rfl rfl rfl rfl rfl ⟨rfl, rfl, rfl, rfl, rfl⟩ rfl rfl rfl rfl rfl (by kernel_rfl) Tryd.func6 (by kernel_rfl)
    (of_decide_eq_true (by kernel_rfl)) (by unfold Func.isWrapper; rw [if_neg (of_decide_eq_false (by kernel_rfl))]; exact ⟨rfl, rfl⟩)
    (fun os started H enc _ => PatternTextLaw.lifted os started H enc)
theorem patternText_holds : Rows.FnExactPatternTextCardSaid :=
  Claim7.holds_tied_plain_at .later [] Rows.fnExactPatternTextCard.laidKinds true Rows.fnExactPatternTextCard.stood.harness Rows.fnExactPatternTextCard.stood.looks patternText_holds_row (fun _ h => by cases h) (by kernel_rfl) (fun _ h => by cases h) fnExactPatternText_row_tie rfl ⟨rfl, rfl⟩ (by kernel_rfl) rfl
    (fun f fn hf hfn => by
      obtain rfl : f = 6 := Option.some.inj ((show Tryd.prog.funcNamed "loop.example/g01169/laws.FnExactPatternText" = some 6 by kernel_rfl).symm.trans hf) |>.symm
      obtain rfl : fn = Tryd.f6 := (Option.some.inj (Tryd.func6.symm.trans hfn)).symm
      exact ⟨by kernel_rfl, fun j t ht => by
        rw [Tryd.params6] at ht
        have hm : t ∈ [57] := by simpa using Array.mem_of_getElem? ht
        have hall : ([57].all fun u => !Tryd.prog.wantsStandIn u) = true := by kernel_rfl
        exact (show Tryd.prog.wantsStandIn t = false by simpa using List.all_eq_true.1 hall t hm)⟩)
    (by kernel_rfl)
#print axioms patternText_holds
end Go.Proofs.YtiedombphcdpbaaDoor
