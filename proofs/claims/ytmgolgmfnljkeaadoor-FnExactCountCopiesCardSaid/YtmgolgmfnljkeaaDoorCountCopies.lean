/-
  PROVED: for every two graphs, valid or not, CountCopies of the program answers as the model's does. Conditions: the table of math/bits holds what the library lays there (the card ties it).
-/
import Derived.Test.YtmgolgmfnljkeaaDoorOpen
import Derived.Test.YtmgolgmfnljkeaaDoorCcS
import Derived.Deep.RegionWith
import Derived.Deep.DeepCutAuto
import Derived.Test.YtmgolgmfnljkeaaDoorTie
import Derived.Test.YtmgolgmfnljkeaaDoorCards
import Derived.SevenTiedAt
namespace Go.Proofs.YtmgolgmfnljkeaaDoor
open Go.ChangeShapes Go.WideShapes Go.ChangeAt Go.RowKit
set_option maxRecDepth 100000

namespace CountCopiesLaw
/-- the two boxes of the law's arguments -/
structure Boxes (w wx : World) (n e m f : Int) : Prop where
  below : Below w.heap.size w wx
  lt : w.heap.size + 1 < wx.heap.size
  a0 : wx.cell? ⟨w.heap.size, 0, none⟩ = some (.int .i64 n)
  a1 : wx.cell? ⟨w.heap.size, 1, none⟩ = some (.int .u32 e)
  b0 : wx.cell? ⟨w.heap.size + 1, 0, none⟩ = some (.int .i64 m)
  b1 : wx.cell? ⟨w.heap.size + 1, 1, none⟩ = some (.int .u32 f)
theorem Boxes.under {w wx wy : World} {n e m f : Int} (h : Boxes w wx n e m f) (hb : Below wx.heap.size wx wy) : Boxes w wy n e m f where
  below := h.below.trans (hb.mono h.below.size)
  lt := Nat.lt_of_lt_of_le h.lt hb.size
  a0 := (hb.cell (p := ⟨w.heap.size, 0, none⟩) (by have := h.lt; show w.heap.size < _; omega)).trans h.a0
  a1 := (hb.cell (p := ⟨w.heap.size, 1, none⟩) (by have := h.lt; show w.heap.size < _; omega)).trans h.a1
  b0 := (hb.cell (p := ⟨w.heap.size + 1, 0, none⟩) h.lt).trans h.b0
  b1 := (hb.cell (p := ⟨w.heap.size + 1, 1, none⟩) h.lt).trans h.b1
theorem Boxes.start (w : World) (n e m f : Int) (t : TypeId) : Boxes w ((w.alloc (.cells #[.int .i64 n, .int .u32 e] t)).alloc (.cells #[.int .i64 m, .int .u32 f] t)) n e m f := by
  have s1 : ∀ (W : World) (o : Obj), (W.alloc o).heap.size = W.heap.size + 1 := fun W o => by simp
  constructor
  · exact ((Below.refl _ w).alloc (Nat.le_refl _) _).alloc (by simp) _
  · rw [s1, s1]; omega
  · rw [World.cell?_alloc_lt _ _ _ (by rw [s1]; show w.heap.size < _; omega), World.cell?_alloc_new]; rfl
  · rw [World.cell?_alloc_lt _ _ _ (by rw [s1]; show w.heap.size < _; omega), World.cell?_alloc_new]; rfl
  · rw [show w.heap.size + 1 = (w.alloc (.cells #[.int .i64 n, .int .u32 e] t)).heap.size from (s1 _ _).symm, World.cell?_alloc_new]; rfl
  · rw [show w.heap.size + 1 = (w.alloc (.cells #[.int .i64 n, .int .u32 e] t)).heap.size from (s1 _ _).symm, World.cell?_alloc_new]; rfl
set_option maxHeartbeats 2000000 in
theorem walk (n e : Int) (_hn : (Lit.int .i64 n).wf = true) (he : (Lit.int .u32 e).wf = true) (m f : Int) (_hm : (Lit.int .i64 m).wf = true) (hf : (Lit.int .u32 f).wf = true) (w : World) (hT : TabZ w) :
    Calls Tryd.prog 3 #[.agg #[.int .i64 n, .int .u32 e], .agg #[.int .i64 m, .int .u32 f]] w fun r w' => r = .returned (.bool true) ∧ Below w.heap.size w w' := by
  have bd := bounds_u32 he
  have bf := bounds_u32 hf
  obtain ⟨b, c, hs, hi⟩ := cc_both n e m f (by omega) bd.1 (by omega) bf.1
  replace hs := Lib.hid hs
  replace hi := Lib.hid hi
  have h0 := Lib.hid (Boxes.start w n e m f 24)
  clear he _hn bd hf _hm bf
  have hTb := Lib.hid (fun W (h : Below w.heap.size w W) => hT.below h)
  clear hT
  go_enter Tryd.func3, Tryd.ntmps3
  go_upto_region 1 with fail
  go_cut [5, 6] (fun s5 s6 wx => s5 = .int .i64 b ∧ s6 = .int .i64 c ∧ Boxes w wx n e m f)
  case first =>
    go_region_with (first
      | (go_at_call 14; refine (toGraph_any _ _ _).mono ?_; rintro r1 w1 ⟨rfl, hb1⟩; obtain ⟨hc1, hz1⟩ := bkeep hb1 w.heap.size (by (try simp) <;> omega); obtain ⟨hd1, hy1⟩ := bkeep hb1 (w.heap.size + 1) (by (try simp) <;> omega))
      | (go_at_call 13; refine (hs.out _).mono ?_; rintro r2 w2 ⟨rfl, hb2⟩; have hB := Lib.hid (h0.out.under (show Below _ _ w2 by (repeat (first | exact Below.refl _ _ | assumption | refine bchain (by assumption) ?_ | refine balloc ?_ _ | apply Below.drew | apply below_drewN | (refine Below.alloc ?_ (by (try simp) <;> omega) _) | (refine Below.setCell ?_ (by (try simp) <;> omega) _))))); clear hb2))
    all_goals (go_wp2_with fail; go_meet; exact ⟨rfl, rfl, hB.out⟩)
  case rest =>
    clear h0
    obtain ⟨rfl, rfl, h0⟩ := hcut
    obtain ⟨hb0, hlt, a0, a1, b0, b1⟩ := id h0
    replace h0 := Lib.hid h0
    go_upto_region 2 with fail
    go_cut [7, 8] (fun s7 s8 wy => s7 = .int .i64 b ∧ s8 = .int .i64 c ∧ Below w.heap.size w wy)
    case first =>
      go_region_with (first
        | (go_at_call 14; refine (toGraph_any _ _ _).mono ?_; rintro r1 w1 ⟨rfl, hb1⟩; obtain ⟨hc1, hz1⟩ := bkeep hb1 w.heap.size (by (try simp) <;> omega); obtain ⟨hd1, hy1⟩ := bkeep hb1 (w.heap.size + 1) (by (try simp) <;> omega))
        | (go_at_call 15; refine (hi.out _ (hTb.out _ (by (repeat (first | exact Below.refl _ _ | assumption | refine bchain (by assumption) ?_ | refine balloc ?_ _ | apply Below.drew | apply below_drewN | (refine Below.alloc ?_ (by (try simp) <;> omega) _) | (refine Below.setCell ?_ (by (try simp) <;> omega) _)))))).mono ?_; rintro r2 w2 ⟨rfl, hb2⟩; have hB := Lib.hid (h0.out.under (show Below _ _ w2 by (repeat (first | exact Below.refl _ _ | assumption | refine bchain (by assumption) ?_ | refine balloc ?_ _ | apply Below.drew | apply below_drewN | (refine Below.alloc ?_ (by (try simp) <;> omega) _) | (refine Below.setCell ?_ (by (try simp) <;> omega) _))))); clear hb2))
      all_goals (go_wp2_with fail; go_meet; exact ⟨rfl, rfl, hB.out.below⟩)
    case rest =>
      obtain ⟨rfl, rfl, h9⟩ := hcut
      clear h0 a0 a1 b0 b1
      go_wp2
      go_ret
      exact ⟨rfl, h9⟩
end CountCopiesLaw
theorem CountCopiesLaw.lifted (os : Os) (started : os.Started) (H : Type) (enc : TypeId × Value → H) :
    ReturnsInHanded {} Tryd.checked os 3 .any (fun w args => (Rows.fnExactCountCopiesSpec.pre enc Tryd.prog Tryd.f3 [] false w args ∧ laidMetH Tryd.prog Rows.fnExactCountCopiesRow.laid w) ∧ sizedMet enc Tryd.prog Tryd.f3 (OpenSpec.ofChange Rows.fnExactCountCopiesSpec) false w args)
      (Rows.fnExactCountCopiesSpec.post enc Tryd.prog Tryd.f3 false true false false) := by
  refine fr_liftC (C := Tryd.checked) (laid := Rows.fnExactCountCopiesRow.laid) own started (by kernel_rfl) Tryd.func3 laid_out (by kernel_rfl) (by kernel_rfl) (tb := 4) rfl Tryd.underlying4 ?hs
    (ChangeSpec.witness_shaped (enc := enc) (C := Tryd.checked) (os := os) (X := fun w _ => laidMetH Tryd.prog Rows.fnExactCountCopiesRow.laid w) false (World.doorLaid Tryd.prog 400 os) #[.agg #[.int .i64 0, .int .u32 0], .agg #[.int .i64 0, .int .u32 0]] 8 rfl
      (World.shaped_of_RefB (by kernel_rfl) (by kernel_rfl)) (by kernel_rfl) (by kernel_rfl) (by kernel_rfl) (laidMetH_of_parts3 (fuel := 8) (laidMet_of_run' 8 (by kernel_rfl) (by kernel_rfl)) (by kernel_rfl) (by kernel_rfl))) ?_
  case hs =>
    intro ds gs h h2
    match ds, h, gs, h2 with
    | [d0, d1], _, [], _ => rfl
  intro W base args ds gs p hval0 hA0 hlt hsz hL0
  have hL : laidMet Tryd.prog Rows.fnExactCountCopiesRow.laid W := by rw [← MakeChecks.laidMetH_plain _ _ _ (by kernel_rfl)]; exact hL0
  have hval : ∀ (j : Nat) t v, Tryd.f3.params[j]? = some t → args[j]? = some v → Value.okWide Tryd.prog W .any base t v := hval0
  have hA : DataW.TrodAll enc Tryd.prog W 0 (fun _ => true) true Tryd.f3.params.toList args.toList ds p := hA0
  rw [Tryd.params3] at hA hval
  obtain ⟨v0, vs0, d0, ds0, p0, q0, hargs, rfl, rfl, h0, r0⟩ := trodAll_cons hA
  obtain ⟨v1, vs1, d1, ds1, p1, q1, rfl, rfl, rfl, h1, r1⟩ := trodAll_cons r0
  obtain ⟨rfl, rfl, rfl⟩ := trodAll_nil r1
  obtain rfl : args = #[v0, v1] := by cases args; simp_all
  obtain ⟨a0, b0, rfl, w0, u0⟩ := open_lgraph (hval 0 24 v0 rfl rfl) h0
  obtain ⟨a1, b1, rfl, w1, u1⟩ := open_lgraph (hval 1 24 v1 rfl rfl) h1
  exact CountCopiesLaw.walk a0 b0 w0 u0 a1 b1 w1 u1 W (tabZ_of_laid hL)

theorem cc_holds_row : Rows.FnExactCountCopiesSaid :=
  OpenClaim.holds_of_wide 3 Tryd.f3 rfl rfl rfl rfl rfl rfl rfl ⟨rfl, rfl, rfl, rfl, rfl⟩ rfl rfl rfl rfl rfl (by kernel_rfl) Tryd.func3 (by kernel_rfl)
    (of_decide_eq_true (by kernel_rfl)) (by unfold Func.isWrapper; rw [if_neg (of_decide_eq_false (by kernel_rfl))]; exact ⟨rfl, rfl⟩)
    (fun os started H enc _ => CountCopiesLaw.lifted os started H enc)
theorem cc_holds : Rows.FnExactCountCopiesCardSaid :=
  Claim7.holds_tied_plain_at .later [] Rows.fnExactCountCopiesCard.laidKinds true Rows.fnExactCountCopiesCard.stood.harness Rows.fnExactCountCopiesCard.stood.looks cc_holds_row (fun _ h => by cases h) (by kernel_rfl) (fun _ h => by cases h) fnExactCountCopies_row_tie rfl ⟨rfl, rfl⟩ (by kernel_rfl) rfl
    (fun f fn hf hfn => by
      obtain rfl : f = 3 := Option.some.inj ((show Tryd.prog.funcNamed "loop.example/g01169/laws.FnExactCountCopies" = some 3 by kernel_rfl).symm.trans hf) |>.symm
      obtain rfl : fn = Tryd.f3 := (Option.some.inj (Tryd.func3.symm.trans hfn)).symm
      exact ⟨by kernel_rfl, fun j t ht => by
        rw [Tryd.params3] at ht
        have hm : t ∈ [24, 24] := by simpa using Array.mem_of_getElem? ht
        have hall : ([24, 24].all fun u => !Tryd.prog.wantsStandIn u) = true := by kernel_rfl
        exact (show Tryd.prog.wantsStandIn t = false by simpa using List.all_eq_true.1 hall t hm)⟩)
    (by kernel_rfl)
#print axioms cc_holds
end Go.Proofs.YtmgolgmfnljkeaaDoor
