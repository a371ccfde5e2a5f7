/-
  PROVED: for every two fractions, valid or not, CompareFractions of the program answers as the model's does. Conditions: none.
-/
import Derived.Test.YtonjmoiognbjbaaFOpen
import Derived.Test.YtonjmoiognbjbaaFEq
import Derived.Test.YtonjmoiognbjbaaFCmp
import Derived.Deep.RegionHeld3
import Derived.Deep.DeepCutAuto
namespace Go.Proofs.Ytonjmoiognbjbaa
open Go.ChangeShapes Go.WideShapes Go.ChangeAt Go.RowKit
set_option maxRecDepth 100000

namespace CompareFractionsLaw
set_option maxHeartbeats 1000000 in
theorem walk (a1 a2 : Int) (_h1 : (Lit.int .i64 a1).wf = true) (_h2 : (Lit.int .i64 a2).wf = true) (b1 b2 : Int) (_h3 : (Lit.int .i64 b1).wf = true) (_h4 : (Lit.int .i64 b2).wf = true) (w : World) :
    Calls Try.prog 9 #[.agg #[.int .i64 a1, .int .i64 a2], .agg #[.int .i64 b1, .int .i64 b2]] w fun r w' => r = .returned (.bool true) ∧ Below w.heap.size w w' := by
  obtain ⟨x, c, hs, hi⟩ := cf_both (a1, a2) (b1, b2)
  unfold fv at hs hi
  dsimp only at hs hi
  replace hs := Lib.hid hs
  replace hi := Lib.hid hi
  clear _h1 _h2 _h3 _h4
  go_enter Try.func9, Try.ntmps9
  go_upto_region 1 with fail
  obtain ⟨wS, hwS⟩ : ∃ wS, wS = ((w.alloc (.cells #[.int .i64 a1, .int .i64 a2] 28)).alloc (.cells #[.int .i64 b1, .int .i64 b2] 28)) := ⟨_, rfl⟩
  have hS0 : wS.cell? ⟨w.heap.size, 0, none⟩ = some (.int .i64 a1) ∧ wS.cell? ⟨w.heap.size, 1, none⟩ = some (.int .i64 a2) ∧ wS.cell? ⟨w.heap.size + 1, 0, none⟩ = some (.int .i64 b1) ∧ wS.cell? ⟨w.heap.size + 1, 1, none⟩ = some (.int .i64 b2) ∧ w.heap.size < wS.heap.size ∧ w.heap.size + 1 < wS.heap.size := by rw [hwS]; simp [go_sem]
  have hBS : Below w.heap.size w wS := by rw [hwS]; (repeat (first | exact Below.refl _ _ | assumption | refine bchain (by assumption) ?_ | refine balloc ?_ _ | apply Below.drew | apply below_drewN | (refine Below.alloc ?_ (by (try simp) <;> omega) _) | (refine Below.setCell ?_ (by (try simp) <;> omega) _)))
  rw [← hwS]
  clear hwS
  go_region_held3 (fun W => W.cell? ⟨w.heap.size, 0, none⟩ = some (.int .i64 a1) ∧ W.cell? ⟨w.heap.size, 1, none⟩ = some (.int .i64 a2) ∧ W.cell? ⟨w.heap.size + 1, 0, none⟩ = some (.int .i64 b1) ∧ W.cell? ⟨w.heap.size + 1, 1, none⟩ = some (.int .i64 b2) ∧ w.heap.size < W.heap.size ∧ w.heap.size + 1 < W.heap.size)
    (exact boxes_keep hS0 (by (repeat (first | exact Below.refl _ _ | assumption | refine bchain (by assumption) ?_ | refine balloc ?_ _ | apply Below.drew | apply below_drewN | (refine Below.alloc ?_ (by (try simp) <;> omega) _) | (refine Below.setCell ?_ (by (try simp) <;> omega) _)))))
    (first | (go_at_call 14; refine (toF_any _ _ _).mono ?_; rintro r1 w1 ⟨rfl, hb1⟩) | (go_at_call 24; refine (hs.out _).mono ?_; rintro r2 w2 ⟨rfl, hb2⟩))
  have hS2 := boxes_keep hS0 (show Below wS.heap.size wS w2 by (repeat (first | exact Below.refl _ _ | assumption | refine bchain (by assumption) ?_ | refine balloc ?_ _ | apply Below.drew | apply below_drewN | (refine Below.alloc ?_ (by (try simp) <;> omega) _) | (refine Below.setCell ?_ (by (try simp) <;> omega) _))))
  have hB2 : Below w.heap.size w w2 := by (repeat (first | exact Below.refl _ _ | assumption | refine bchain (by assumption) ?_ | refine balloc ?_ _ | apply Below.drew | apply below_drewN | (refine Below.alloc ?_ (by (try simp) <;> omega) _) | (refine Below.setCell ?_ (by (try simp) <;> omega) _)))
  clear hS0 hBS
  go_upto_region 2 with fail
  clear hb2
  go_region_held3 (fun W => W.cell? ⟨w.heap.size, 0, none⟩ = some (.int .i64 a1) ∧ W.cell? ⟨w.heap.size, 1, none⟩ = some (.int .i64 a2) ∧ W.cell? ⟨w.heap.size + 1, 0, none⟩ = some (.int .i64 b1) ∧ W.cell? ⟨w.heap.size + 1, 1, none⟩ = some (.int .i64 b2) ∧ w.heap.size < W.heap.size ∧ w.heap.size + 1 < W.heap.size)
    (exact boxes_keep hS2 (by (repeat (first | exact Below.refl _ _ | assumption | refine bchain (by assumption) ?_ | refine balloc ?_ _ | apply Below.drew | apply below_drewN | (refine Below.alloc ?_ (by (try simp) <;> omega) _) | (refine Below.setCell ?_ (by (try simp) <;> omega) _)))))
    (first | (go_at_call 14; refine (toF_any _ _ _).mono ?_; rintro r1 w3 ⟨rfl, hb3⟩) | (go_at_call 25; refine (hi.out _).mono ?_; rintro r2 w4 ⟨rfl, hb4⟩))
  go_wp2
  go_ret
  exact ⟨rfl, by (repeat (first | exact Below.refl _ _ | assumption | refine bchain (by assumption) ?_ | refine balloc ?_ _ | apply Below.drew | apply below_drewN | (refine Below.alloc ?_ (by (try simp) <;> omega) _) | (refine Below.setCell ?_ (by (try simp) <;> omega) _)))⟩
end CompareFractionsLaw
theorem CompareFractionsLaw.lifted (os : Os) (started : os.Started) (H : Type) (enc : TypeId × Value → H) :
    ReturnsInHanded {} Try.checked os 9 .any (Rows.fnExactCompareFractionsSpec.pre6 enc Try.prog Try.f9 Rows.fnExactCompareFractionsRow.domain false)
      (Rows.fnExactCompareFractionsSpec.post enc Try.prog Try.f9 false true false false) := by
  refine fr_lift (C := Try.checked) own started (by kernel_rfl) Try.func9 laid_out rfl (by kernel_rfl) (tb := 4) rfl Try.underlying4 ?hs
    (ChangeSpec.witness6 (enc := enc) (C := Try.checked) false ⟨#[], #[.agg #[.int .i64 0, .int .i64 0], .agg #[.int .i64 0, .int .i64 0]], []⟩ 8 (by kernel_rfl) (by kernel_rfl) (by kernel_rfl) (by kernel_rfl)) ?_
  case hs =>
    intro ds h
    match ds, h with
    | [d0, d1], _ => rfl
  intro W base args ds p hval0 hA0 hlt hsz
  have hval : ∀ (j : Nat) t v, Try.f9.params[j]? = some t → args[j]? = some v → Value.okWide Try.prog W .any base t v := hval0
  have hA : DataW.TrodAll enc Try.prog W 0 (fun _ => true) true Try.f9.params.toList args.toList ds p := hA0
  rw [Try.params9] at hA hval
  obtain ⟨v0, vs0, d0, ds0, p0, q0, hargs, rfl, rfl, h0, r0⟩ := trodAll_cons hA
  obtain ⟨v1, vs1, d1, ds1, p1, q1, rfl, rfl, rfl, h1, r1⟩ := trodAll_cons r0
  obtain ⟨rfl, rfl, rfl⟩ := trodAll_nil r1
  obtain rfl : args = #[v0, v1] := by cases args; simp_all
  obtain ⟨a0, b0, rfl, w0, u0⟩ := open_frac (hval 0 28 v0 rfl rfl) h0
  obtain ⟨a1, b1, rfl, w1, u1⟩ := open_frac (hval 1 28 v1 rfl rfl) h1
  exact CompareFractionsLaw.walk a0 b0 w0 u0 a1 b1 w1 u1 W

theorem compareFractions_holds : Rows.FnExactCompareFractionsSaid :=
  OpenClaim.holds_of_wide 9 Try.f9 rfl rfl rfl rfl rfl rfl rfl ⟨rfl, rfl, rfl, rfl, rfl⟩ rfl rfl rfl rfl rfl (by kernel_rfl) Try.func9 (by kernel_rfl)
    (of_decide_eq_true (by kernel_rfl)) (by unfold Func.isWrapper; rw [if_neg (of_decide_eq_false (by kernel_rfl))]; exact ⟨rfl, rfl⟩)
    (fun os started H enc _ => CompareFractionsLaw.lifted os started H enc)
#print axioms compareFractions_holds
end Go.Proofs.Ytonjmoiognbjbaa
