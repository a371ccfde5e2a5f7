/-
  PROVED: for every two flags, valid or not, CountFlag of the program answers as the model's does. Conditions: the table of math/bits holds what the library lays there (the card ties it).
-/
import Derived.Test.YtepbekhlpbnpkaaDoorKOpen
import Derived.Test.YtepbekhlpbnpkaaDoorCfM2
import Derived.Deep.RegionWith
import Derived.Deep.DeepCutAuto
import Derived.Test.YtepbekhlpbnpkaaDoorTie
import Derived.Test.YtepbekhlpbnpkaaDoorCards
import Derived.SevenTiedAt
namespace Go.Proofs.YtepbekhlpbnpkaaDoor
open Go.ChangeShapes Go.WideShapes Go.ChangeAt Go.RowKit
set_option maxRecDepth 100000

namespace CountFlagLaw
/-- the two boxes of the law's arguments -/
structure Boxes (w wx : World) (k n e l m f : Int) : Prop where
  below : Below w.heap.size w wx
  a : FC wx w.heap.size k n e
  b : FC wx (w.heap.size + 1) l m f
theorem Boxes.under {w wx wy : World} {k n e l m f : Int} (h : Boxes w wx k n e l m f) (hb : Below wx.heap.size wx wy) : Boxes w wy k n e l m f where
  below := h.below.trans (hb.mono h.below.size)
  a := h.a.below hb
  b := h.b.below hb
theorem Boxes.start (w : World) (k n e l m f : Int) (t : TypeId) : Boxes w ((w.alloc (.cells #[.int .i64 k, .int .i64 n, .int .u32 e] t)).alloc (.cells #[.int .i64 l, .int .i64 m, .int .u32 f] t)) k n e l m f where
  below := ((Below.refl _ w).alloc (Nat.le_refl _) _).alloc (by simp) _
  a := (FC.made w k n e t).below ((Below.refl _ _).alloc (Nat.le_refl _) _)
  b := by
    have := FC.made (w.alloc (.cells #[.int .i64 k, .int .i64 n, .int .u32 e] t)) l m f t
    rwa [show (w.alloc (.cells #[.int .i64 k, .int .i64 n, .int .u32 e] t)).heap.size = w.heap.size + 1 by simp] at this
set_option maxHeartbeats 2000000 in
theorem walk (k n e : Int) (_hn : (Lit.int .i64 n).wf = true) (he : (Lit.int .u32 e).wf = true) (l m f : Int) (_hm : (Lit.int .i64 m).wf = true) (hf : (Lit.int .u32 f).wf = true) (w : World) (hT : TabZ w) :
    Calls Tryd.prog 4 #[.agg #[.int .i64 k, .int .i64 n, .int .u32 e], .agg #[.int .i64 l, .int .i64 m, .int .u32 f]] w fun r w' => r = .returned (.bool true) ∧ Below w.heap.size w w' := by
  have bd := bounds_u32 he
  have bf := bounds_u32 hf
  obtain ⟨b, c, hs, hi⟩ := cfl_both k n e l m f (by omega) bd.1 (by omega) bf.1
  have hTw := Lib.hid (fun W (h : Below w.heap.size w W) => hT.below h)
  replace hs := Lib.hid hs
  replace hi := Lib.hid hi
  have h0 := Lib.hid (Boxes.start w k n e l m f 31)
  clear he _hn bd hf _hm bf
  go_enter Tryd.func4, Tryd.ntmps4
  go_upto_region 1 with fail
  go_cut [5, 6] (fun s5 s6 wx => s5 = .int .i64 b ∧ s6 = .int .i64 c ∧ Boxes w wx k n e l m f)
  case first =>
    go_region_with (first
      | (go_at_call 17; refine (toFlag_any _ _ _ _).mono ?_; rintro r1 w1 ⟨rfl, hb1⟩; obtain ⟨hc1, hz1⟩ := bkeep hb1 w.heap.size (by (try simp) <;> omega); obtain ⟨hd1, hy1⟩ := bkeep hb1 (w.heap.size + 1) (by (try simp) <;> omega))
      | (go_at_call 16; refine (hs.out _).mono ?_; rintro r2 w2 ⟨rfl, hb2⟩; have hB := Lib.hid (h0.out.under (show Below _ _ w2 by (repeat (first | exact Below.refl _ _ | assumption | refine bchain (by assumption) ?_ | refine balloc ?_ _ | apply Below.drew | apply below_drewN | (refine Below.alloc ?_ (by (try simp) <;> omega) _) | (refine Below.setCell ?_ (by (try simp) <;> omega) _))))); clear hb2))
    all_goals (go_wp2_with fail; go_meet; exact ⟨rfl, rfl, hB.out⟩)
  case rest =>
    clear h0
    obtain ⟨rfl, rfl, h0⟩ := hcut
    obtain ⟨hb0, ⟨_, a0, a1, a2⟩, ⟨hlt, b0, b1, b2⟩⟩ := id h0
    replace h0 := Lib.hid h0
    go_upto_region 2 with fail
    go_cut [7, 8] (fun s7 s8 wy => s7 = .int .i64 b ∧ s8 = .int .i64 c ∧ Below w.heap.size w wy)
    case first =>
      go_region_with (first
        | (go_at_call 17; refine (toFlag_any _ _ _ _).mono ?_; rintro r1 w1 ⟨rfl, hb1⟩; obtain ⟨hc1, hz1⟩ := bkeep hb1 w.heap.size (by (try simp) <;> omega); obtain ⟨hd1, hy1⟩ := bkeep hb1 (w.heap.size + 1) (by (try simp) <;> omega))
        | (go_at_call 18; refine (hi.out _ (hTw.out _ (by (repeat (first | exact Below.refl _ _ | assumption | refine bchain (by assumption) ?_ | refine balloc ?_ _ | apply Below.drew | apply below_drewN | (refine Below.alloc ?_ (by (try simp) <;> omega) _) | (refine Below.setCell ?_ (by (try simp) <;> omega) _)))))).mono ?_; rintro r2 w2 ⟨rfl, hb2⟩; have hB := Lib.hid (h0.out.under (show Below _ _ w2 by (repeat (first | exact Below.refl _ _ | assumption | refine bchain (by assumption) ?_ | refine balloc ?_ _ | apply Below.drew | apply below_drewN | (refine Below.alloc ?_ (by (try simp) <;> omega) _) | (refine Below.setCell ?_ (by (try simp) <;> omega) _))))); clear hb2))
      all_goals (go_wp2_with fail; go_meet; exact ⟨rfl, rfl, hB.out.below⟩)
    case rest =>
      obtain ⟨rfl, rfl, h9⟩ := hcut
      clear h0 a0 a1 a2 b0 b1 b2
      go_wp2
      go_ret
      exact ⟨rfl, h9⟩
end CountFlagLaw
theorem CountFlagLaw.lifted (os : Os) (started : os.Started) (H : Type) (enc : TypeId × Value → H) :
    ReturnsInHanded {} Tryd.checked os 4 .any (fun w args => (Rows.fnExactCountFlagSpec.pre enc Tryd.prog Tryd.f4 [] false w args ∧ laidMetH Tryd.prog Rows.fnExactCountFlagRow.laid w) ∧ sizedMet enc Tryd.prog Tryd.f4 (OpenSpec.ofChange Rows.fnExactCountFlagSpec) false w args)
      (Rows.fnExactCountFlagSpec.post enc Tryd.prog Tryd.f4 false true false false) := by
  refine fr_liftC (C := Tryd.checked) (laid := Rows.fnExactCountFlagRow.laid) own started (by kernel_rfl) Tryd.func4 laid_out (by kernel_rfl) (by kernel_rfl) (tb := 4) rfl Tryd.underlying4 ?hs
    (ChangeSpec.witness_shaped (enc := enc) (C := Tryd.checked) (os := os) (X := fun w _ => laidMetH Tryd.prog Rows.fnExactCountFlagRow.laid w) false (World.doorLaid Tryd.prog 400 os) #[.agg #[.int .i64 0, .int .i64 0, .int .u32 0], .agg #[.int .i64 0, .int .i64 0, .int .u32 0]] 8 rfl
      (World.shaped_of_RefB (by kernel_rfl) (by kernel_rfl)) (by kernel_rfl) (by kernel_rfl) (by kernel_rfl) (laidMetH_of_parts3 (fuel := 8) (laidMet_of_run' 8 (by kernel_rfl) (by kernel_rfl)) (by kernel_rfl) (by kernel_rfl))) ?_
  case hs =>
    intro ds gs h h2
    match ds, h, gs, h2 with
    | [d0, d1], _, [], _ => rfl
  intro W base args ds gs p hval0 hA0 hlt hsz hL0
  have hL : laidMet Tryd.prog Rows.fnExactCountFlagRow.laid W := by rw [← MakeChecks.laidMetH_plain _ _ _ (by kernel_rfl)]; exact hL0
  have hval : ∀ (j : Nat) t v, Tryd.f4.params[j]? = some t → args[j]? = some v → Value.okWide Tryd.prog W .any base t v := hval0
  have hA : DataW.TrodAll enc Tryd.prog W 0 (fun _ => true) true Tryd.f4.params.toList args.toList ds p := hA0
  rw [Tryd.params4] at hA hval
  obtain ⟨v0, vs0, d0, ds0, p0, q0, hargs, rfl, rfl, h0, r0⟩ := trodAll_cons hA
  obtain ⟨v1, vs1, d1, ds1, p1, q1, rfl, rfl, rfl, h1, r1⟩ := trodAll_cons r0
  obtain ⟨rfl, rfl, rfl⟩ := trodAll_nil r1
  obtain rfl : args = #[v0, v1] := by cases args; simp_all
  obtain ⟨k0, a0, b0, rfl, l0, w0, u0⟩ := open_lflag (hval 0 31 v0 rfl rfl) h0
  obtain ⟨k1, a1, b1, rfl, l1, w1, u1⟩ := open_lflag (hval 1 31 v1 rfl rfl) h1
  exact CountFlagLaw.walk k0 a0 b0 w0 u0 k1 a1 b1 w1 u1 W (tabZ_of_laid hL)

theorem countFlag_holds_row : Rows.FnExactCountFlagSaid :=
  OpenClaim.holds_of_wide 4 Tryd.f4 rfl rfl rfl rfl rfl rfl rfl ⟨rfl, rfl, rfl, rfl, rfl⟩ rfl rfl rfl rfl rfl (by kernel_rfl) Tryd.func4 (by kernel_rfl)
    (of_decide_eq_true (by kernel_rfl)) (by unfold Func.isWrapper; rw [if_neg (of_decide_eq_false (by kernel_rfl))]; exact ⟨rfl, rfl⟩)
    (fun os started H enc _ => CountFlagLaw.lifted os started H enc)
theorem countFlag_holds : Rows.FnExactCountFlagCardSaid :=
  Claim7.holds_tied_plain_at .later [] Rows.fnExactCountFlagCard.laidKinds true Rows.fnExactCountFlagCard.stood.harness Rows.fnExactCountFlagCard.stood.looks countFlag_holds_row (fun _ h => by cases h) (by kernel_rfl) (fun _ h => by cases h) fnExactCountFlag_row_tie rfl ⟨rfl, rfl⟩ (by kernel_rfl) rfl
    (fun f fn hf hfn => by
      obtain rfl : f = 4 := Option.some.inj ((show Tryd.prog.funcNamed "loop.example/g01169/laws.FnExactCountFlag" = some 4 by kernel_rfl).symm.trans hf) |>.symm
      obtain rfl : fn = Tryd.f4 := (Option.some.inj (Tryd.func4.symm.trans hfn)).symm
      exact ⟨by kernel_rfl, fun j t ht => by
        rw [Tryd.params4] at ht
        have hm : t ∈ [31, 31] := by simpa using Array.mem_of_getElem? ht
        have hall : ([31, 31].all fun u => !Tryd.prog.wantsStandIn u) = true := by kernel_rfl
        exact (show Tryd.prog.wantsStandIn t = false by simpa using List.all_eq_true.1 hall t hm)⟩)
    (by kernel_rfl)
#print axioms countFlag_holds
end Go.Proofs.YtepbekhlpbnpkaaDoor
