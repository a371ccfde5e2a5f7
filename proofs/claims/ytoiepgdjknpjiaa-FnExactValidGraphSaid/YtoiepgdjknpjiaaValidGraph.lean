/-
  PROVED: for every graph, valid or not, ValidGraph of the program answers as the model's does. Conditions: none.
-/
import Derived.Test.YtoiepgdjknpjiaaOpen
import Derived.Test.YtoiepgdjknpjiaaValid
import Derived.Lib.Hide
namespace Go.Proofs.Ytoiepgdjknpjiaa
open Go.ChangeShapes Go.WideShapes Go.ChangeAt Go.RowKit
set_option maxRecDepth 100000

namespace ValidGraphLaw
theorem walk (n e : Int) (_hn : (Lit.int .i64 n).wf = true) (he : (Lit.int .u32 e).wf = true) (w : World) :
    Calls Try.prog 7 #[.agg #[.int .i64 n, .int .u32 e]] w fun r w' => r = .returned (.bool true) ∧ Below w.heap.size w w' := by
  have bd := bounds_u32 he
  obtain ⟨b, hs, hi⟩ : ∃ b : Bool, (∀ W, Calls Try.prog 36 #[.agg #[.int .i64 n, .int .u32 e]] W fun r w' => r = .returned (.bool b) ∧ Below W.heap.size W w') ∧
      (∀ W, Calls Try.prog 38 #[.agg #[.int .i64 n, .int .u32 e]] W fun r w' => r = .returned (.bool b) ∧ Below W.heap.size W w') := by
    by_cases h : VG n e
    · exact ⟨true, fun W => svalid_t W n e h, fun W => valid_t W n e h⟩
    · exact ⟨false, fun W => svalid_f W n e (by omega) bd.1 h, fun W => valid_f W n e (by omega) bd.1 h⟩
  have hs := Lib.hid hs
  have hi := Lib.hid hi
  clear he _hn bd
  go_enter Try.func7, Try.ntmps7
  go_wp2_with (first
    | (go_at_call 37; refine (toGraph_any _ n e).mono ?_; rintro r w1 ⟨rfl, hb1⟩; obtain ⟨hc1, hz1⟩ := bkeep hb1 w.heap.size (by (try simp) <;> omega))
    | (go_at_call 36; refine (hs.out _).mono ?_; rintro r w2 ⟨rfl, hb2⟩; obtain ⟨hc2, hz2⟩ := bkeep hb2 w.heap.size (by (try simp) <;> omega))
    | (go_at_call 38; refine (hi.out _).mono ?_; rintro r w3 ⟨rfl, hb3⟩))
  go_ret
  exact ⟨rfl, by (repeat (first | exact Below.refl _ _ | assumption | refine bchain (by assumption) ?_ | apply Below.drew | apply below_drewN | (refine Below.alloc ?_ (by (try simp) <;> omega) _) | (refine Below.setCell ?_ (by (try simp) <;> omega) _)))⟩
end ValidGraphLaw
theorem ValidGraphLaw.lifted (os : Os) (started : os.Started) (H : Type) (enc : TypeId × Value → H) :
    ReturnsInHanded {} Try.checked os 7 .any (Rows.fnExactValidGraphSpec.pre6 enc Try.prog Try.f7 Rows.fnExactValidGraphRow.domain false)
      (Rows.fnExactValidGraphSpec.post enc Try.prog Try.f7 false true false false) := by
  refine fr_lift (C := Try.checked) own started (by kernel_rfl) Try.func7 laid_out rfl (by kernel_rfl) (tb := 4) rfl Try.underlying4 ?hs
    (ChangeSpec.witness6 (enc := enc) (C := Try.checked) false ⟨#[], #[.agg #[.int .i64 0, .int .u32 0]], []⟩ 8 (by kernel_rfl) (by kernel_rfl) (by kernel_rfl) (by kernel_rfl)) ?_
  case hs =>
    intro ds h
    match ds, h with
    | [d0], _ => rfl
  intro W base args ds p hval0 hA0 hlt hsz
  have hval : ∀ (j : Nat) t v, Try.f7.params[j]? = some t → args[j]? = some v → Value.okWide Try.prog W .any base t v := hval0
  have hA : DataW.TrodAll enc Try.prog W 0 (fun _ => true) true Try.f7.params.toList args.toList ds p := hA0
  rw [Try.params7] at hA hval
  obtain ⟨v0, vs0, d0, ds0, p0, q0, hargs, rfl, rfl, h0, r0⟩ := trodAll_cons hA
  obtain ⟨rfl, rfl, rfl⟩ := trodAll_nil r0
  obtain rfl : args = #[v0] := by cases args; simp_all
  obtain ⟨a0, b0, rfl, w0, u0⟩ := open_lgraph (hval 0 52 v0 rfl rfl) h0
  exact ValidGraphLaw.walk a0 b0 w0 u0 W

theorem validGraph_holds : Rows.FnExactValidGraphSaid :=
  OpenClaim.holds_of_wide 7 Try.f7 rfl rfl rfl rfl rfl rfl rfl ⟨rfl, rfl, rfl, rfl, rfl⟩ rfl rfl rfl rfl rfl (by kernel_rfl) Try.func7 (by kernel_rfl)
    (of_decide_eq_true (by kernel_rfl)) (by unfold Func.isWrapper; rw [if_neg (of_decide_eq_false (by kernel_rfl))]; exact ⟨rfl, rfl⟩)
    (fun os started H enc _ => ValidGraphLaw.lifted os started H enc)
#print axioms validGraph_holds
end Go.Proofs.Ytoiepgdjknpjiaa
