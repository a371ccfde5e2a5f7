/-
  PROVED: for every two flags, valid or not, AreAlikeFlags of the program answers as the model's does. Conditions: none.
-/
import Derived.Test.YtdibcchhamapjaaKOpen
import Derived.Test.YtdibcchhamapjaaKAreAlike
import Derived.Deep.RegionWith
import Derived.Deep.DeepCutAuto
namespace Go.Proofs.Ytdibcchhamapjaa
open Go.ChangeShapes Go.WideShapes Go.ChangeAt Go.RowKit
set_option maxRecDepth 100000

namespace AreAlikeFlagsLaw
/-- the two boxes of the law's arguments -/
structure Boxes (w wx : World) (k n e l m f : Int) : Prop where
  below : Below w.heap.size w wx
  a : FC wx w.heap.size k n e
  b : FC wx (w.heap.size + 1) l m f
theorem Boxes.under {w wx wy : World} {k n e l m f : Int} (h : Boxes w wx k n e l m f) (hb : Below wx.heap.size wx wy) : Boxes w wy k n e l m f where
  below := h.below.trans (hb.mono h.below.size)
  a := h.a.below hb
  b := h.b.below hb
theorem Boxes.start (w : World) (k n e l m f : Int) (t : TypeId) : Boxes w ((w.alloc (.cells #[.int .i64 k, .int .i64 n, .int .u32 e] t)).alloc (.cells #[.int .i64 l, .int .i64 m, .int .u32 f] t)) k n e l m f where
  below := ((Below.refl _ w).alloc (Nat.le_refl _) _).alloc (by simp) _
  a := (FC.made w k n e t).below ((Below.refl _ _).alloc (Nat.le_refl _) _)
  b := by
    have := FC.made (w.alloc (.cells #[.int .i64 k, .int .i64 n, .int .u32 e] t)) l m f t
    rwa [show (w.alloc (.cells #[.int .i64 k, .int .i64 n, .int .u32 e] t)).heap.size = w.heap.size + 1 by simp] at this
set_option maxHeartbeats 2000000 in
theorem walk (k n e : Int) (_hn : (Lit.int .i64 n).wf = true) (he : (Lit.int .u32 e).wf = true) (l m f : Int) (_hm : (Lit.int .i64 m).wf = true) (hf : (Lit.int .u32 f).wf = true) (w : World) :
    Calls Try.prog 9 #[.agg #[.int .i64 k, .int .i64 n, .int .u32 e], .agg #[.int .i64 l, .int .i64 m, .int .u32 f]] w fun r w' => r = .returned (.bool true) ∧ Below w.heap.size w w' := by
  have bd := bounds_u32 he
  have bf := bounds_u32 hf
  obtain ⟨b, c, hs, hi⟩ := ak_both k n e l m f (by omega) bd.1 (by omega) bf.1
  replace hs := Lib.hid hs
  replace hi := Lib.hid hi
  have h0 := Lib.hid (Boxes.start w k n e l m f 26)
  clear he _hn bd hf _hm bf
  go_enter Try.func9, Try.ntmps9
  go_upto_region 1 with fail
  go_cut [5, 6] (fun s5 s6 wx => s5 = .bool b ∧ s6 = .int .i64 c ∧ Boxes w wx k n e l m f)
  case first =>
    go_region_with (first
      | (go_at_call 15; refine (toFlag_any _ _ _ _).mono ?_; rintro r1 w1 ⟨rfl, hb1⟩; obtain ⟨hc1, hz1⟩ := bkeep hb1 w.heap.size (by (try simp) <;> omega); obtain ⟨hd1, hy1⟩ := bkeep hb1 (w.heap.size + 1) (by (try simp) <;> omega))
      | (go_at_call 32; refine (hs.out _).mono ?_; rintro r2 w2 ⟨rfl, hb2⟩; have hB := Lib.hid (h0.out.under (show Below _ _ w2 by (repeat (first | exact Below.refl _ _ | assumption | refine bchain (by assumption) ?_ | refine balloc ?_ _ | apply Below.drew | apply below_drewN | (refine Below.alloc ?_ (by (try simp) <;> omega) _) | (refine Below.setCell ?_ (by (try simp) <;> omega) _))))); clear hb2))
    all_goals (go_wp2_with fail; go_meet; exact ⟨rfl, rfl, hB.out⟩)
  case rest =>
    clear h0
    obtain ⟨rfl, rfl, h0⟩ := hcut
    obtain ⟨hb0, ⟨_, a0, a1, a2⟩, ⟨hlt, b0, b1, b2⟩⟩ := id h0
    replace h0 := Lib.hid h0
    go_upto_region 2 with fail
    go_cut [7, 8] (fun s7 s8 wy => s7 = .bool b ∧ s8 = .int .i64 c ∧ Below w.heap.size w wy)
    case first =>
      go_region_with (first
        | (go_at_call 15; refine (toFlag_any _ _ _ _).mono ?_; rintro r1 w1 ⟨rfl, hb1⟩; obtain ⟨hc1, hz1⟩ := bkeep hb1 w.heap.size (by (try simp) <;> omega); obtain ⟨hd1, hy1⟩ := bkeep hb1 (w.heap.size + 1) (by (try simp) <;> omega))
        | (go_at_call 33; refine (hi.out _).mono ?_; rintro r2 w2 ⟨rfl, hb2⟩; have hB := Lib.hid (h0.out.under (show Below _ _ w2 by (repeat (first | exact Below.refl _ _ | assumption | refine bchain (by assumption) ?_ | refine balloc ?_ _ | apply Below.drew | apply below_drewN | (refine Below.alloc ?_ (by (try simp) <;> omega) _) | (refine Below.setCell ?_ (by (try simp) <;> omega) _))))); clear hb2))
      all_goals (go_wp2_with fail; go_meet; exact ⟨rfl, rfl, hB.out.below⟩)
    case rest =>
      obtain ⟨rfl, rfl, h9⟩ := hcut
      clear h0 a0 a1 a2 b0 b1 b2
      go_wp2
      go_ret
      exact ⟨rfl, h9⟩
end AreAlikeFlagsLaw
theorem AreAlikeFlagsLaw.lifted (os : Os) (started : os.Started) (H : Type) (enc : TypeId × Value → H) :
    ReturnsInHanded {} Try.checked os 9 .any (Rows.fnExactAreAlikeFlagsSpec.pre6 enc Try.prog Try.f9 Rows.fnExactAreAlikeFlagsRow.domain false)
      (Rows.fnExactAreAlikeFlagsSpec.post enc Try.prog Try.f9 false true false false) := by
  refine fr_lift (C := Try.checked) own started (by kernel_rfl) Try.func9 laid_out rfl (by kernel_rfl) (tb := 4) rfl Try.underlying4 ?hs
    (ChangeSpec.witness6 (enc := enc) (C := Try.checked) false ⟨#[], #[.agg #[.int .i64 0, .int .i64 0, .int .u32 0], .agg #[.int .i64 0, .int .i64 0, .int .u32 0]], []⟩ 8 (by kernel_rfl) (by kernel_rfl) (by kernel_rfl) (by kernel_rfl)) ?_
  case hs =>
    intro ds h
    match ds, h with
    | [d0, d1], _ => rfl
  intro W base args ds p hval0 hA0 hlt hsz
  have hval : ∀ (j : Nat) t v, Try.f9.params[j]? = some t → args[j]? = some v → Value.okWide Try.prog W .any base t v := hval0
  have hA : DataW.TrodAll enc Try.prog W 0 (fun _ => true) true Try.f9.params.toList args.toList ds p := hA0
  rw [Try.params9] at hA hval
  obtain ⟨v0, vs0, d0, ds0, p0, q0, hargs, rfl, rfl, h0, r0⟩ := trodAll_cons hA
  obtain ⟨v1, vs1, d1, ds1, p1, q1, rfl, rfl, rfl, h1, r1⟩ := trodAll_cons r0
  obtain ⟨rfl, rfl, rfl⟩ := trodAll_nil r1
  obtain rfl : args = #[v0, v1] := by cases args; simp_all
  obtain ⟨k0, a0, b0, rfl, l0, w0, u0⟩ := open_lflag (hval 0 26 v0 rfl rfl) h0
  obtain ⟨k1, a1, b1, rfl, l1, w1, u1⟩ := open_lflag (hval 1 26 v1 rfl rfl) h1
  exact AreAlikeFlagsLaw.walk k0 a0 b0 w0 u0 k1 a1 b1 w1 u1 W

theorem areAlikeFlags_holds : Rows.FnExactAreAlikeFlagsSaid :=
  OpenClaim.holds_of_wide 9 Try.f9 rfl rfl rfl rfl rfl rfl rfl ⟨rfl, rfl, rfl, rfl, rfl⟩ rfl rfl rfl rfl rfl (by kernel_rfl) Try.func9 (by kernel_rfl)
    (of_decide_eq_true (by kernel_rfl)) (by unfold Func.isWrapper; rw [if_neg (of_decide_eq_false (by kernel_rfl))]; exact ⟨rfl, rfl⟩)
    (fun os started H enc _ => AreAlikeFlagsLaw.lifted os started H enc)
#print axioms areAlikeFlags_holds
end Go.Proofs.Ytdibcchhamapjaa
