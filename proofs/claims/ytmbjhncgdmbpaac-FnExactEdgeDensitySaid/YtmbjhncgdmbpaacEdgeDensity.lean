/-
  PROVED: for every graph, valid or not, EdgeDensity of the program answers as the model's does. Conditions: none.
-/
import Derived.Test.YtmbjhncgdmbpaacOpen
import Derived.Test.YtmbjhncgdmbpaacEd
namespace Go.Proofs.Ytmbjhncgdmbpaac
open Go.ChangeShapes Go.WideShapes Go.ChangeAt Go.RowKit
set_option maxRecDepth 100000

namespace EdgeDensityLaw
theorem walk (n e : Int) (_hn : (Lit.int .i64 n).wf = true) (he : (Lit.int .u32 e).wf = true) (w : World) :
    Calls Try.prog 3 #[.agg #[.int .i64 n, .int .u32 e]] w fun r w' => r = .returned (.bool true) ∧ Below w.heap.size w w' := by
  have bd := bounds_u32 he
  obtain ⟨x, y, c, hs, hi⟩ := ed_both n e (by omega) bd.1
  have hE := Lib.hid (fun W => Fr.eqF_any W x y)
  replace hs := Lib.hid hs
  replace hi := Lib.hid hi
  clear he _hn bd
  go_enter Try.func3, Try.ntmps3
  go_wp2_with fail
  refine (toGraph_any _ n e).mono ?_
  rintro r1 w1 ⟨rfl, hb1⟩
  obtain ⟨hc1_0, hz1_0⟩ := bkeep hb1 (w.heap.size) (by (try simp) <;> omega)
  go_wp2_with fail
  refine (hs.out _).mono ?_
  rintro r2 w2 ⟨rfl, hb2⟩
  obtain ⟨hc2_0, hz2_0⟩ := bkeep hb2 (w.heap.size) (by (try simp) <;> omega)
  go_wp2_with fail
  refine (toGraph_any _ n e).mono ?_
  rintro r3 w3 ⟨rfl, hb3⟩
  obtain ⟨hc3_0, hz3_0⟩ := bkeep hb3 (w.heap.size) (by (try simp) <;> omega)
  obtain ⟨hc3_1, hz3_1⟩ := bkeep hb3 (w2.heap.size) (by (try simp) <;> omega)
  go_wp2_with fail
  refine (hi.out _).mono ?_
  rintro r4 w4 ⟨rfl, hb4⟩
  obtain ⟨hc4_0, hz4_0⟩ := bkeep hb4 (w2.heap.size) (by (try simp) <;> omega)
  go_wp2_with fail
  refine (hE.out _).mono ?_
  rintro r5 w5 ⟨rfl, hb5⟩
  go_wp2
  go_ret
  exact ⟨rfl, by (repeat (first | exact Below.refl _ _ | assumption | refine bchain (by assumption) ?_ | refine balloc ?_ _ | apply Below.drew | apply below_drewN | (refine Below.alloc ?_ (by (try simp) <;> omega) _) | (refine Below.setCell ?_ (by (try simp) <;> omega) _)))⟩
end EdgeDensityLaw
theorem EdgeDensityLaw.lifted (os : Os) (started : os.Started) (H : Type) (enc : TypeId × Value → H) :
    ReturnsInHanded {} Try.checked os 3 .any (Rows.fnExactEdgeDensitySpec.pre6 enc Try.prog Try.f3 Rows.fnExactEdgeDensityRow.domain false)
      (Rows.fnExactEdgeDensitySpec.post enc Try.prog Try.f3 false true false false) := by
  refine fr_lift (C := Try.checked) own started (by kernel_rfl) Try.func3 laid_out rfl (by kernel_rfl) (tb := 4) rfl Try.underlying4 ?hs
    (ChangeSpec.witness6 (enc := enc) (C := Try.checked) false ⟨#[], #[.agg #[.int .i64 0, .int .u32 0]], []⟩ 8 (by kernel_rfl) (by kernel_rfl) (by kernel_rfl) (by kernel_rfl)) ?_
  case hs =>
    intro ds h
    match ds, h with
    | [d0], _ => rfl
  intro W base args ds p hval0 hA0 hlt hsz
  have hval : ∀ (j : Nat) t v, Try.f3.params[j]? = some t → args[j]? = some v → Value.okWide Try.prog W .any base t v := hval0
  have hA : DataW.TrodAll enc Try.prog W 0 (fun _ => true) true Try.f3.params.toList args.toList ds p := hA0
  rw [Try.params3] at hA hval
  obtain ⟨v0, vs0, d0, ds0, p0, q0, hargs, rfl, rfl, h0, r0⟩ := trodAll_cons hA
  obtain ⟨rfl, rfl, rfl⟩ := trodAll_nil r0
  obtain rfl : args = #[v0] := by cases args; simp_all
  obtain ⟨a0, b0, rfl, w0, u0⟩ := open_lgraph (hval 0 24 v0 rfl rfl) h0
  exact EdgeDensityLaw.walk a0 b0 w0 u0 W

theorem edgeDensity_holds : Rows.FnExactEdgeDensitySaid :=
  OpenClaim.holds_of_wide 3 Try.f3 rfl rfl rfl rfl rfl rfl rfl ⟨rfl, rfl, rfl, rfl, rfl⟩ rfl rfl rfl rfl rfl (by kernel_rfl) Try.func3 (by kernel_rfl)
    (of_decide_eq_true (by kernel_rfl)) (by unfold Func.isWrapper; rw [if_neg (of_decide_eq_false (by kernel_rfl))]; exact ⟨rfl, rfl⟩)
    (fun os started H enc _ => EdgeDensityLaw.lifted os started H enc)
#print axioms edgeDensity_holds
end Go.Proofs.Ytmbjhncgdmbpaac
