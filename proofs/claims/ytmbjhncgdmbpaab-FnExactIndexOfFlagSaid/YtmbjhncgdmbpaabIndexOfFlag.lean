/-
  PROVED: for every flag, valid or not, and every list of flags, IndexOfFlag of the program answers as the model's does, and its list is left as it was. Conditions: none.
-/
import Derived.Test.YtmbjhncgdmbpaabOpenKs
import Derived.Test.YtmbjhncgdmbpaabKIxS
namespace Go.Proofs.Ytmbjhncgdmbpaab
open Go.ChangeShapes Go.WideShapes Go.ChangeAt Go.RowKit
set_option maxRecDepth 100000

namespace IndexOfFlagLaw
theorem walk_long (k n e : Int) (v : Value) (gs : List (Int × Int × Int)) (w : World) (hS : SlK w v gs) (hm : 1048576 < gs.length) :
    Calls Try.prog 5 #[.agg #[.int .i64 k, .int .i64 n, .int .u32 e], v] w fun r w' => r = .returned (.bool true) ∧ Below w.heap.size w w' := by
  obtain ⟨a, cap, rfl, h1, h2, _⟩ := hS
  have hC := Lib.hid (fun W => szk_long W a gs.length cap hm (by omega))
  obtain ⟨l, hl⟩ : ∃ l, gs.length = l := ⟨_, rfl⟩
  rw [hl] at hC ⊢
  clear hl h1 h2 hm
  go_enter Try.func5, Try.ntmps5
  go_wp2_with fail
  refine (hC.out _).mono ?_
  rintro r1 w1 ⟨rfl, rfl⟩
  go_wp2
  go_ret
  exact ⟨rfl, by (repeat (first | exact Below.refl _ _ | assumption | refine bchain (by assumption) ?_ | refine balloc ?_ _ | apply Below.drew | apply below_drewN | (refine Below.alloc ?_ (by (try simp) <;> omega) _) | (refine Below.setCell ?_ (by (try simp) <;> omega) _)))⟩
set_option maxHeartbeats 1000000 in
theorem walk_short (k n e : Int) (he0 : 0 ≤ e) (he : e < 4294967296) (v : Value) (gs : List (Int × Int × Int)) (w : World) (hS : SlK w v gs) (hbd : BdK gs) (hm : gs.length ≤ 1048576) :
    Calls Try.prog 5 #[.agg #[.int .i64 k, .int .i64 n, .int .u32 e], v] w fun r w' => r = .returned (.bool true) ∧ Below w.heap.size w w' := by
  obtain ⟨b, c, hs, hi⟩ := ix_both k n e gs he he0 hm hbd
  replace hs := Lib.hid hs
  replace hi := Lib.hid hi
  have hT := Lib.hid (fun W u (h : SlK W u gs) => toKs_any W u gs h hm)
  have hE := Lib.hid (fun W u u' (h : SlK W u gs) (h' : SlK W u' gs) => eqKs_any W u u' gs h h' hm)
  obtain ⟨a, cap, hv, h1, h2, _⟩ := id hS
  have hC := Lib.hid (fun W => szk_ok W a gs.length cap hm)
  replace hS := Lib.hid hS
  have hl0 : 0 ≤ 1048576 - (gs.length : Int) := by omega
  rw [← hv] at hC
  obtain ⟨q, hq⟩ : ∃ q : Int, 1048576 - (gs.length : Int) = q := ⟨_, rfl⟩
  rw [hq] at hC hl0
  clear he he0 hbd hm h1 h2 hv hq
  go_enter Try.func5, Try.ntmps5
  go_wp2_with fail
  refine (hC.out _).mono ?_
  rintro r0 w0 ⟨rfl, rfl⟩
  go_wp2_with fail
  refine (toFlag_any _ k n e).mono ?_
  rintro r1 w1 ⟨rfl, hb1⟩
  obtain ⟨hc1_0, hz1_0⟩ := bkeep hb1 (w.heap.size) (by (try simp) <;> omega)
  go_wp2_with fail
  refine (hT.out _ _ (hS.out.below (by (repeat (first | exact Below.refl _ _ | assumption | refine bchain (by assumption) ?_ | refine balloc ?_ _ | apply Below.drew | apply below_drewN | (refine Below.alloc ?_ (by (try simp) <;> omega) _) | (refine Below.setCell ?_ (by (try simp) <;> omega) _)))))).mono ?_
  rintro r2 w2 ⟨⟨u2, rfl, hU2⟩, hb2⟩
  obtain ⟨hc2_0, hz2_0⟩ := bkeep hb2 (w.heap.size) (by (try simp) <;> omega)
  replace hU2 := Lib.hid hU2
  go_wp2_with fail
  refine (hs.out _ _ hU2.out).mono ?_
  rintro r3 w3 ⟨rfl, hb3⟩
  obtain ⟨hc3_0, hz3_0⟩ := bkeep hb3 (w.heap.size) (by (try simp) <;> omega)
  go_wp2_with fail
  refine (hT.out _ _ (hS.out.below (by (repeat (first | exact Below.refl _ _ | assumption | refine bchain (by assumption) ?_ | refine balloc ?_ _ | apply Below.drew | apply below_drewN | (refine Below.alloc ?_ (by (try simp) <;> omega) _) | (refine Below.setCell ?_ (by (try simp) <;> omega) _)))))).mono ?_
  rintro r4 w4 ⟨⟨u4, rfl, hU4⟩, hb4⟩
  obtain ⟨hc4_0, hz4_0⟩ := bkeep hb4 (w.heap.size) (by (try simp) <;> omega)
  replace hU4 := Lib.hid hU4
  go_wp2_with fail
  refine (toFlag_any _ k n e).mono ?_
  rintro r5 w5 ⟨rfl, hb5⟩
  obtain ⟨hc5_0, hz5_0⟩ := bkeep hb5 (w.heap.size) (by (try simp) <;> omega)
  go_wp2_with fail
  refine (hi.out _ _ (hU4.out.below hb5)).mono ?_
  rintro r6 w6 ⟨rfl, hb6⟩
  go_wp2_with fail
  refine (hT.out _ _ (hS.out.below (by (repeat (first | exact Below.refl _ _ | assumption | refine bchain (by assumption) ?_ | refine balloc ?_ _ | apply Below.drew | apply below_drewN | (refine Below.alloc ?_ (by (try simp) <;> omega) _) | (refine Below.setCell ?_ (by (try simp) <;> omega) _)))))).mono ?_
  rintro r8 w8 ⟨⟨u8, rfl, hU8⟩, hb8⟩
  go_wp2_with fail
  refine (hE.out _ _ _ (((hU4.out.below hb5).below hb6).below hb8) hU8).mono ?_
  rintro r9 w9 ⟨rfl, hb9⟩
  go_wp2
  go_ret
  exact ⟨rfl, by (repeat (first | exact Below.refl _ _ | assumption | refine bchain (by assumption) ?_ | refine balloc ?_ _ | apply Below.drew | apply below_drewN | (refine Below.alloc ?_ (by (try simp) <;> omega) _) | (refine Below.setCell ?_ (by (try simp) <;> omega) _)))⟩
theorem walk (k n e : Int) (_hn : (Lit.int .i64 n).wf = true) (he : (Lit.int .u32 e).wf = true) (v : Value) (gs : List (Int × Int × Int)) (w : World) (hS : SlK w v gs ∧ BdK gs) :
    Calls Try.prog 5 #[.agg #[.int .i64 k, .int .i64 n, .int .u32 e], v] w fun r w' => r = .returned (.bool true) ∧ Below w.heap.size w w' := by
  have bd := bounds_u32 he
  rcases Nat.lt_or_ge 1048576 gs.length with h | h
  · exact walk_long k n e v gs w hS.1 h
  · exact walk_short k n e bd.1 (by omega) v gs w hS.1 hS.2 h
end IndexOfFlagLaw
theorem IndexOfFlagLaw.lifted (os : Os) (started : os.Started) (H : Type) (enc : TypeId × Value → H) :
    ReturnsInHanded {} Try.checked os 5 .any (Rows.fnExactIndexOfFlagSpec.pre6 enc Try.prog Try.f5 Rows.fnExactIndexOfFlagRow.domain false)
      (Rows.fnExactIndexOfFlagSpec.post enc Try.prog Try.f5 false true false false) := by
  refine fr_lift (C := Try.checked) own started (by kernel_rfl) Try.func5 laid_out rfl (by kernel_rfl) (tb := 4) rfl Try.underlying4 ?hs
    (ChangeSpec.witness6 (enc := enc) (C := Try.checked) false ⟨#[], #[.agg #[.int .i64 0, .int .i64 0, .int .u32 0], .slice none 0 0], []⟩ 8 (by kernel_rfl) (by kernel_rfl) (by kernel_rfl) (by kernel_rfl)) ?_
  case hs =>
    intro ds h
    match ds, h with
    | [d0, d1], _ => rfl
  intro W base args ds p hval0 hA0 hlt hsz
  have hval : ∀ (j : Nat) t v, Try.f5.params[j]? = some t → args[j]? = some v → Value.okWide Try.prog W .any base t v := hval0
  have hA : DataW.TrodAll enc Try.prog W 0 (fun _ => true) true Try.f5.params.toList args.toList ds p := hA0
  rw [Try.params5] at hA hval
  obtain ⟨v0, vs0, d0, ds0, p0, q0, hargs, rfl, rfl, h0, r0⟩ := trodAll_cons hA
  obtain ⟨v1, vs1, d1, ds1, p1, q1, rfl, rfl, rfl, h1, r1⟩ := trodAll_cons r0
  obtain ⟨rfl, rfl, rfl⟩ := trodAll_nil r1
  obtain rfl : args = #[v0, v1] := by cases args; simp_all
  obtain ⟨k0, a0, b0, rfl, l0, w0, u0⟩ := open_lflag (hval 0 43 v0 rfl rfl) h0
  obtain ⟨x1, R1⟩ := open_ks (hval 1 44 v1 rfl rfl) h1
  exact IndexOfFlagLaw.walk k0 a0 b0 w0 u0 v1 x1 W R1

theorem indexOfFlag_holds : Rows.FnExactIndexOfFlagSaid :=
  OpenClaim.holds_of_wide 5 Try.f5 rfl rfl rfl rfl rfl rfl rfl ⟨rfl, rfl, rfl, rfl, rfl⟩ rfl rfl rfl rfl rfl (by kernel_rfl) Try.func5 (by kernel_rfl)
    (of_decide_eq_true (by kernel_rfl)) (by unfold Func.isWrapper; rw [if_neg (of_decide_eq_false (by kernel_rfl))]; exact ⟨rfl, rfl⟩)
    (fun os started H enc _ => IndexOfFlagLaw.lifted os started H enc)
#print axioms indexOfFlag_holds
end Go.Proofs.Ytmbjhncgdmbpaab
