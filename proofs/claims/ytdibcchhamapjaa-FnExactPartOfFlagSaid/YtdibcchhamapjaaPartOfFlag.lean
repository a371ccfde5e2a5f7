/-
  PROVED: for every flag, valid or not, and every list of numbers, PartOfFlag of the program answers as the model's does, and its list is left as it was. Conditions: none.
-/
import Derived.Test.YtdibcchhamapjaaKOpenS
import Derived.Test.YtdibcchhamapjaaKPartOf
namespace Go.Proofs.Ytdibcchhamapjaa
open Go.ChangeShapes Go.WideShapes Go.ChangeAt Go.RowKit
set_option maxRecDepth 100000

namespace PartOfFlagLaw
theorem walk_long (k n e : Int) (v : Value) (zs : List Int) (w : World) (hS : SlI w v zs) (hm : 1048576 < zs.length) :
    Calls Try.prog 13 #[.agg #[.int .i64 k, .int .i64 n, .int .u32 e], v] w fun r w' => r = .returned (.bool true) ∧ Below w.heap.size w w' := by
  obtain ⟨a, cap, rfl, _⟩ := hS
  go_enter Try.func13, Try.ntmps13
  go_wp2
  go_ret
  exact ⟨rfl, by (repeat (first | exact Below.refl _ _ | assumption | refine bchain (by assumption) ?_ | refine balloc ?_ _ | apply Below.drew | apply below_drewN | (refine Below.alloc ?_ (by (try simp) <;> omega) _) | (refine Below.setCell ?_ (by (try simp) <;> omega) _)))⟩

theorem walk (k n e : Int) (_hn : (Lit.int .i64 n).wf = true) (he : (Lit.int .u32 e).wf = true) (v : Value) (zs : List Int) (w : World) (hS : SlI w v zs) :
    Calls Try.prog 13 #[.agg #[.int .i64 k, .int .i64 n, .int .u32 e], v] w fun r w' => r = .returned (.bool true) ∧ Below w.heap.size w w' := by
  by_cases hm : 1048576 < zs.length
  · exact walk_long k n e v zs w hS hm
  have bd := bounds_u32 he
  obtain ⟨m1, m2, m3, c, hs, hi⟩ := po_both k n e zs (by omega) bd.1 (by omega)
  have hT := Lib.hid (fun W v (h : SlI W v zs) => toIS_any W v zs h (by omega))
  have hE := Lib.hid (fun W u v (h : SlI W u zs) (h' : SlI W v zs) => eqI_any W u v zs h h' (by omega))
  replace hs := Lib.hid hs
  replace hi := Lib.hid hi
  clear he _hn bd
  obtain ⟨a, cap, hv, hx1, hx2, hx3⟩ := id hS
  replace hS := Lib.hid hS
  have hg : decide (1048576 < (zs.length : Int)) = false := decide_eq_false (by omega)
  subst hv
  clear hx1 hx2 hx3 hm
  obtain ⟨l, hl⟩ : ∃ l : Nat, zs.length = l := ⟨_, rfl⟩
  rw [hl] at hg hS ⊢
  clear hl
  go_enter Try.func13, Try.ntmps13
  go_wp2_with fail
  refine (toFlag_any _ k n e).mono ?_
  rintro r1 w1 ⟨rfl, hb1⟩
  obtain ⟨hc1_0, hz1_0⟩ := bkeep hb1 (w.heap.size) (by (try simp) <;> omega)
  go_wp2_with fail
  refine (hT.out _ _ (hS.out.below (by (repeat (first | exact Below.refl _ _ | assumption | refine bchain (by assumption) ?_ | refine balloc ?_ _ | apply Below.drew | apply below_drewN | (refine Below.alloc ?_ (by (try simp) <;> omega) _) | (refine Below.setCell ?_ (by (try simp) <;> omega) _)))))).mono ?_
  rintro r2 w2 ⟨⟨u2, rfl, hU2⟩, hb2⟩
  obtain ⟨hc2_0, hz2_0⟩ := bkeep hb2 (w.heap.size) (by (try simp) <;> omega)
  replace hU2 := Lib.hid hU2
  go_wp2_with fail
  refine (hs.out _ _ hU2.out).mono ?_
  rintro r3 w3 ⟨rfl, hb3⟩
  obtain ⟨hc3_0, hz3_0⟩ := bkeep hb3 (w.heap.size) (by (try simp) <;> omega)
  go_wp2_with fail
  refine (hT.out _ _ (hS.out.below (by (repeat (first | exact Below.refl _ _ | assumption | refine bchain (by assumption) ?_ | refine balloc ?_ _ | apply Below.drew | apply below_drewN | (refine Below.alloc ?_ (by (try simp) <;> omega) _) | (refine Below.setCell ?_ (by (try simp) <;> omega) _)))))).mono ?_
  rintro r4 w4 ⟨⟨u4, rfl, hU4⟩, hb4⟩
  obtain ⟨hc4_0, hz4_0⟩ := bkeep hb4 (w.heap.size) (by (try simp) <;> omega)
  obtain ⟨hc4_1, hz4_1⟩ := bkeep hb4 (w3.heap.size) (by (try simp) <;> omega)
  replace hU4 := Lib.hid hU4
  go_wp2_with fail
  refine (toFlag_any _ k n e).mono ?_
  rintro r5 w5 ⟨rfl, hb5⟩
  obtain ⟨hc5_0, hz5_0⟩ := bkeep hb5 (w.heap.size) (by (try simp) <;> omega)
  obtain ⟨hc5_1, hz5_1⟩ := bkeep hb5 (w3.heap.size) (by (try simp) <;> omega)
  go_wp2_with fail
  refine (hi.out _ _ (hU4.out.below hb5)).mono ?_
  rintro r6 w6 ⟨rfl, hb6⟩
  obtain ⟨hc6_0, hz6_0⟩ := bkeep hb6 (w.heap.size) (by (try simp) <;> omega)
  obtain ⟨hc6_1, hz6_1⟩ := bkeep hb6 (w3.heap.size) (by (try simp) <;> omega)
  go_wp2_with fail
  refine (eqFlag_any _ _ _ _).mono ?_
  rintro r7 w7 ⟨rfl, hb7⟩
  go_wp2_with fail
  refine (hT.out _ _ (hS.out.below (by (repeat (first | exact Below.refl _ _ | assumption | refine bchain (by assumption) ?_ | refine balloc ?_ _ | apply Below.drew | apply below_drewN | (refine Below.alloc ?_ (by (try simp) <;> omega) _) | (refine Below.setCell ?_ (by (try simp) <;> omega) _)))))).mono ?_
  rintro r8 w8 ⟨⟨u8, rfl, hU8⟩, hb8⟩
  go_wp2_with fail
  refine (hE.out _ _ _ (((((hU4.out.1.below hb5).below hb6).below ((Below.refl _ _).alloc (Nat.le_refl _) _)).below hb7).below hb8) hU8.1).mono ?_
  rintro r9 w9 ⟨rfl, hb9⟩
  go_wp2
  go_ret
  exact ⟨rfl, by (repeat (first | exact Below.refl _ _ | assumption | refine bchain (by assumption) ?_ | refine balloc ?_ _ | apply Below.drew | apply below_drewN | (refine Below.alloc ?_ (by (try simp) <;> omega) _) | (refine Below.setCell ?_ (by (try simp) <;> omega) _)))⟩
end PartOfFlagLaw
theorem PartOfFlagLaw.lifted (os : Os) (started : os.Started) (H : Type) (enc : TypeId × Value → H) :
    ReturnsInHanded {} Try.checked os 13 .any (Rows.fnExactPartOfFlagSpec.pre6 enc Try.prog Try.f13 Rows.fnExactPartOfFlagRow.domain false)
      (Rows.fnExactPartOfFlagSpec.post enc Try.prog Try.f13 false true false false) := by
  refine fr_lift (C := Try.checked) own started (by kernel_rfl) Try.func13 laid_out rfl (by kernel_rfl) (tb := 4) rfl Try.underlying4 ?hs
    (ChangeSpec.witness6 (enc := enc) (C := Try.checked) false ⟨#[], #[.agg #[.int .i64 0, .int .i64 0, .int .u32 0], .slice none 0 0], []⟩ 8 (by kernel_rfl) (by kernel_rfl) (by kernel_rfl) (by kernel_rfl)) ?_
  case hs =>
    intro ds h
    match ds, h with
    | [d0, d1], _ => rfl
  intro W base args ds p hval0 hA0 hlt hsz
  have hval : ∀ (j : Nat) t v, Try.f13.params[j]? = some t → args[j]? = some v → Value.okWide Try.prog W .any base t v := hval0
  have hA : DataW.TrodAll enc Try.prog W 0 (fun _ => true) true Try.f13.params.toList args.toList ds p := hA0
  rw [Try.params13] at hA hval
  obtain ⟨v0, vs0, d0, ds0, p0, q0, hargs, rfl, rfl, h0, r0⟩ := trodAll_cons hA
  obtain ⟨v1, vs1, d1, ds1, p1, q1, rfl, rfl, rfl, h1, r1⟩ := trodAll_cons r0
  obtain ⟨rfl, rfl, rfl⟩ := trodAll_nil r1
  obtain rfl : args = #[v0, v1] := by cases args; simp_all
  obtain ⟨k0, a0, b0, rfl, l0, w0, u0⟩ := open_lflag (hval 0 26 v0 rfl rfl) h0
  obtain ⟨x1, R1⟩ := open_i64s (hval 1 43 v1 rfl rfl) h1
  exact PartOfFlagLaw.walk k0 a0 b0 w0 u0 v1 x1 W R1

theorem partOfFlag_holds : Rows.FnExactPartOfFlagSaid :=
  OpenClaim.holds_of_wide 13 Try.f13 rfl rfl rfl rfl rfl rfl rfl ⟨rfl, rfl, rfl, rfl, rfl⟩ rfl rfl rfl rfl rfl (by kernel_rfl) Try.func13 (by kernel_rfl)
    (of_decide_eq_true (by kernel_rfl)) (by unfold Func.isWrapper; rw [if_neg (of_decide_eq_false (by kernel_rfl))]; exact ⟨rfl, rfl⟩)
    (fun os started H enc _ => PartOfFlagLaw.lifted os started H enc)
#print axioms partOfFlag_holds
end Go.Proofs.Ytdibcchhamapjaa
