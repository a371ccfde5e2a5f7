/-
  PROVED: for every flag, valid or not, CountLabelings of the program answers as the model's does. Conditions: none.
-/
import Derived.Test.YtmbjhncgdmbpaabKOpen
import Derived.Test.YtmbjhncgdmbpaabKClS
import Derived.Lib.Hide
namespace Go.Proofs.Ytmbjhncgdmbpaab
open Go.ChangeShapes Go.WideShapes Go.ChangeAt Go.RowKit
set_option maxRecDepth 100000

namespace CountLabelingsLaw
theorem walk (k n e : Int) (_hn : (Lit.int .i64 n).wf = true) (he : (Lit.int .u32 e).wf = true) (w : World) :
    Calls Try.prog 6 #[.agg #[.int .i64 k, .int .i64 n, .int .u32 e]] w fun r w' => r = .returned (.bool true) ∧ Below w.heap.size w w' := by
  have bd := bounds_u32 he
  obtain ⟨x, c, hs, hi⟩ := cl_both k n e (by omega) bd.1
  replace hs := Lib.hid hs
  replace hi := Lib.hid hi
  clear he _hn bd
  go_enter Try.func6, Try.ntmps6
  go_wp2_with fail
  refine (toFlag_any _ k n e).mono ?_
  rintro r1 w1 ⟨rfl, hb1⟩
  obtain ⟨hc1_0, hz1_0⟩ := bkeep hb1 (w.heap.size) (by (try simp) <;> omega)
  go_wp2_with fail
  refine (hs.out _).mono ?_
  rintro r2 w2 ⟨rfl, hb2⟩
  obtain ⟨hc2_0, hz2_0⟩ := bkeep hb2 (w.heap.size) (by (try simp) <;> omega)
  go_wp2_with fail
  refine (toFlag_any _ k n e).mono ?_
  rintro r3 w3 ⟨rfl, hb3⟩
  go_wp2_with fail
  refine (hi.out _).mono ?_
  rintro r4 w4 ⟨rfl, hb4⟩
  go_wp2
  go_ret
  exact ⟨rfl, by (repeat (first | exact Below.refl _ _ | assumption | refine bchain (by assumption) ?_ | refine balloc ?_ _ | apply Below.drew | apply below_drewN | (refine Below.alloc ?_ (by (try simp) <;> omega) _) | (refine Below.setCell ?_ (by (try simp) <;> omega) _)))⟩
end CountLabelingsLaw
theorem CountLabelingsLaw.lifted (os : Os) (started : os.Started) (H : Type) (enc : TypeId × Value → H) :
    ReturnsInHanded {} Try.checked os 6 .any (Rows.fnExactCountLabelingsSpec.pre6 enc Try.prog Try.f6 Rows.fnExactCountLabelingsRow.domain false)
      (Rows.fnExactCountLabelingsSpec.post enc Try.prog Try.f6 false true false false) := by
  refine fr_lift (C := Try.checked) own started (by kernel_rfl) Try.func6 laid_out rfl (by kernel_rfl) (tb := 4) rfl Try.underlying4 ?hs
    (ChangeSpec.witness6 (enc := enc) (C := Try.checked) false ⟨#[], #[.agg #[.int .i64 0, .int .i64 0, .int .u32 0]], []⟩ 8 (by kernel_rfl) (by kernel_rfl) (by kernel_rfl) (by kernel_rfl)) ?_
  case hs =>
    intro ds h
    match ds, h with
    | [d0], _ => rfl
  intro W base args ds p hval0 hA0 hlt hsz
  have hval : ∀ (j : Nat) t v, Try.f6.params[j]? = some t → args[j]? = some v → Value.okWide Try.prog W .any base t v := hval0
  have hA : DataW.TrodAll enc Try.prog W 0 (fun _ => true) true Try.f6.params.toList args.toList ds p := hA0
  rw [Try.params6] at hA hval
  obtain ⟨v0, vs0, d0, ds0, p0, q0, hargs, rfl, rfl, h0, r0⟩ := trodAll_cons hA
  obtain ⟨rfl, rfl, rfl⟩ := trodAll_nil r0
  obtain rfl : args = #[v0] := by cases args; simp_all
  obtain ⟨k0, a0, b0, rfl, l0, w0, u0⟩ := open_lflag (hval 0 43 v0 rfl rfl) h0
  exact CountLabelingsLaw.walk k0 a0 b0 w0 u0 W

theorem countLabelings_holds : Rows.FnExactCountLabelingsSaid :=
  OpenClaim.holds_of_wide 6 Try.f6 rfl rfl rfl rfl rfl rfl rfl ⟨rfl, rfl, rfl, rfl, rfl⟩ rfl rfl rfl rfl rfl (by kernel_rfl) Try.func6 (by kernel_rfl)
    (of_decide_eq_true (by kernel_rfl)) (by unfold Func.isWrapper; rw [if_neg (of_decide_eq_false (by kernel_rfl))]; exact ⟨rfl, rfl⟩)
    (fun os started H enc _ => CountLabelingsLaw.lifted os started H enc)
#print axioms countLabelings_holds
end Go.Proofs.Ytmbjhncgdmbpaab
