/-
  PROVED: for every int64, CodeName of the program answers as the model's does. Conditions: none.
-/
import Derived.Test.YtoiepgdjknpjiaaOpen
import Derived.Test.YtoiepgdjknpjiaaBase
import Derived.Lib.Hide
namespace Go.Proofs.Ytoiepgdjknpjiaa
open Go.ChangeShapes Go.WideShapes Go.ChangeAt Go.RowKit
set_option maxRecDepth 100000

namespace CodeNameLaw
/-- the name of a code from 0 to 8 -/
def nameOf : Nat → ByteArray
  | 0 => { data := #[111, 107] }
  | 1 => { data := #[105, 110, 118, 97, 108, 105, 100] }
  | 2 => { data := #[114, 97, 110, 103, 101] }
  | 3 => { data := #[108, 105, 109, 105, 116] }
  | 4 => { data := #[115, 116, 97, 116, 101] }
  | 5 => { data := #[115, 121, 110, 116, 97, 120] }
  | 6 => { data := #[110, 111, 116, 102, 111, 117, 110, 100] }
  | 7 => { data := #[98, 117, 100, 103, 101, 116] }
  | 8 => { data := #[112, 114, 111, 111, 102] }
  | _ => { data := #[] }
def name (n : Int) : ByteArray := if 0 ≤ n ∧ n ≤ 8 then nameOf n.toNat else { data := #[] }

set_option maxHeartbeats 4000000 in
theorem spec_any (n : Int) (w : World) :
    Calls Try.prog 34 #[.int .i64 n] w fun e w' => e = .returned (.string (name n)) ∧ Below w.heap.size w w' := by
  by_cases h : 0 ≤ n ∧ n ≤ 8
  · obtain ⟨h0, h8⟩ := h
    have hc : n = 0 ∨ n = 1 ∨ n = 2 ∨ n = 3 ∨ n = 4 ∨ n = 5 ∨ n = 6 ∨ n = 7 ∨ n = 8 := by omega
    rcases hc with rfl | rfl | rfl | rfl | rfl | rfl | rfl | rfl | rfl
    all_goals
      go_enter Try.func34, Try.ntmps34
      go_wp2_with (go_at_call 67; refine (in_t _ _ _ _ (by omega) (by omega)).mono ?_; rintro e w' ⟨rfl, rfl⟩)
      go_ret
      exact ⟨rfl, by (repeat (first | exact Below.refl _ _ | assumption | apply Below.drew | apply below_drewN | (refine Below.alloc ?_ (by first | (simp; done) | (simp; omega)) _) | (refine Below.setCell ?_ (by first | (simp; done) | (simp; omega)) _)))⟩
  · have e1 : name n = { data := #[] } := if_neg h
    rw [e1]
    go_enter Try.func34, Try.ntmps34
    go_wp2_with (go_at_call 67; refine (in_f _ _ _ _ (by omega)).mono ?_; rintro e w' ⟨rfl, rfl⟩)
    go_ret
    exact ⟨rfl, by (repeat (first | exact Below.refl _ _ | assumption | apply Below.drew | apply below_drewN | (refine Below.alloc ?_ (by first | (simp; done) | (simp; omega)) _) | (refine Below.setCell ?_ (by first | (simp; done) | (simp; omega)) _)))⟩

set_option maxHeartbeats 4000000 in
theorem impl_any (n : Int) (w : World) :
    Calls Try.prog 35 #[.int .i64 n] w fun e w' => e = .returned (.string (name n)) ∧ w = w' := by
  by_cases h : 0 ≤ n ∧ n ≤ 8
  · obtain ⟨h0, h8⟩ := h
    have hc : n = 0 ∨ n = 1 ∨ n = 2 ∨ n = 3 ∨ n = 4 ∨ n = 5 ∨ n = 6 ∨ n = 7 ∨ n = 8 := by omega
    rcases hc with rfl | rfl | rfl | rfl | rfl | rfl | rfl | rfl | rfl
    all_goals
      go_enter Try.func35, Try.ntmps35
      go_wp2
      go_ret
      exact ⟨rfl, rfl⟩
  · have e1 : name n = { data := #[] } := if_neg h
    rw [e1]
    by_cases hn : n < 0
    all_goals
      go_enter Try.func35, Try.ntmps35
      go_wp2
      go_ret
      exact ⟨rfl, rfl⟩

theorem walk (n : Int) (_hw : (Lit.int .i64 n).wf = true) (w : World) :
    Calls Try.prog 6 #[.int .i64 n] w fun e w' => e = .returned (.bool true) ∧ Below w.heap.size w w' := by
  have hs := Lib.hid (fun W => spec_any n W)
  have hi := Lib.hid (fun W => impl_any n W)
  obtain ⟨s, he⟩ : ∃ s, name n = s := ⟨_, rfl⟩
  rw [he] at hs hi
  clear he
  go_enter Try.func6, Try.ntmps6
  go_wp2_with (first
    | (go_at_call 34; refine (hs.out _).mono ?_; rintro e w1 ⟨rfl, hb1⟩)
    | (go_at_call 35; refine (hi.out _).mono ?_; rintro e w2 ⟨rfl, rfl⟩))
  go_ret
  exact ⟨rfl, hb1⟩
end CodeNameLaw
theorem CodeNameLaw.lifted (os : Os) (started : os.Started) (H : Type) (enc : TypeId × Value → H) :
    ReturnsInHanded {} Try.checked os 6 .any (Rows.fnExactCodeNameSpec.pre6 enc Try.prog Try.f6 Rows.fnExactCodeNameRow.domain false)
      (Rows.fnExactCodeNameSpec.post enc Try.prog Try.f6 false true false false) := by
  refine fr_lift (C := Try.checked) own started (by kernel_rfl) Try.func6 laid_out rfl (by kernel_rfl) (tb := 4) rfl Try.underlying4 ?hs
    (ChangeSpec.witness6 (enc := enc) (C := Try.checked) false ⟨#[], #[.int .i64 0], []⟩ 8 (by kernel_rfl) (by kernel_rfl) (by kernel_rfl) (by kernel_rfl)) ?_
  case hs =>
    intro ds h
    match ds, h with
    | [d0], _ => rfl
  intro W base args ds p hval0 hA0 hlt hsz
  have hval : ∀ (j : Nat) t v, Try.f6.params[j]? = some t → args[j]? = some v → Value.okWide Try.prog W .any base t v := hval0
  have hA : DataW.TrodAll enc Try.prog W 0 (fun _ => true) true Try.f6.params.toList args.toList ds p := hA0
  rw [Try.params6] at hA hval
  obtain ⟨v0, vs0, d0, ds0, p0, q0, hargs, rfl, rfl, h0, r0⟩ := trodAll_cons hA
  obtain ⟨rfl, rfl, rfl⟩ := trodAll_nil r0
  obtain rfl : args = #[v0] := by cases args; simp_all
  obtain ⟨a0, rfl, w0⟩ := open_i64 (hval 0 2 v0 rfl rfl) h0
  exact CodeNameLaw.walk a0 w0 W

theorem codeName_holds : Rows.FnExactCodeNameSaid :=
  OpenClaim.holds_of_wide 6 Try.f6 rfl rfl rfl rfl rfl rfl rfl ⟨rfl, rfl, rfl, rfl, rfl⟩ rfl rfl rfl rfl rfl (by kernel_rfl) Try.func6 (by kernel_rfl)
    (of_decide_eq_true (by kernel_rfl)) (by unfold Func.isWrapper; rw [if_neg (of_decide_eq_false (by kernel_rfl))]; exact ⟨rfl, rfl⟩)
    (fun os started H enc _ => CodeNameLaw.lifted os started H enc)
#print axioms codeName_holds
end Go.Proofs.Ytoiepgdjknpjiaa
