/-
  PROVED: for every list of fractions, valid or not, SumOfFractions of the program answers as the model's does, and its list is left as it was. Conditions: none.
-/
import Derived.Test.YtonjmoiognbjbabOpenFs
import Derived.Test.YtonjmoiognbjbabFSum
namespace Go.Proofs.Ytonjmoiognbjbab
open Go.ChangeShapes Go.WideShapes Go.ChangeAt Go.RowKit
set_option maxRecDepth 100000

namespace SumOfFractionsLaw
theorem walk_long (v : Value) (fs : List (Int × Int)) (w : World) (hS : SlG w v fs) (hm : 1048576 < fs.length) :
    Calls Try.prog 3 #[v] w fun r w' => r = .returned (.bool true) ∧ Below w.heap.size w w' := by
  obtain ⟨a, cap, rfl, h1, h2, _⟩ := hS
  have hC := Lib.hid (fun W => sz_long W a fs.length cap 1048576 (by omega) (by omega) (by omega) (by omega))
  obtain ⟨l, hl⟩ : ∃ l, fs.length = l := ⟨_, rfl⟩
  rw [hl] at hC ⊢
  clear hl h1 h2 hm
  go_enter Try.func3, Try.ntmps3
  go_wp2_with fail
  refine (hC.out _).mono ?_
  rintro r1 w1 ⟨rfl, rfl⟩
  go_wp2
  go_ret
  exact ⟨rfl, by (repeat (first | exact Below.refl _ _ | assumption | refine bchain (by assumption) ?_ | refine balloc ?_ _ | apply Below.drew | apply below_drewN | (refine Below.alloc ?_ (by (try simp) <;> omega) _) | (refine Below.setCell ?_ (by (try simp) <;> omega) _)))⟩
set_option maxHeartbeats 1000000 in
theorem walk_short (v : Value) (fs : List (Int × Int)) (w : World) (hS : SlG w v fs) (hm : fs.length ≤ 1048576) :
    Calls Try.prog 3 #[v] w fun r w' => r = .returned (.bool true) ∧ Below w.heap.size w w' := by
  obtain ⟨x, y, c, hs, hi⟩ := sum_both fs hm
  replace hs := Lib.hid hs
  replace hi := Lib.hid hi
  have hT := Lib.hid (fun W u (h : SlG W u fs) => toGs_any W u fs h hm)
  have hE := Lib.hid (fun W u u' (h : SlG W u fs) (h' : SlG W u' fs) => eqGs_any W u u' fs h h' hm)
  obtain ⟨a, cap, hv, h1, h2, _⟩ := id hS
  have hC := Lib.hid (fun W => sz_ok W a fs.length cap 1048576 (by omega) (by omega))
  replace hS := Lib.hid hS
  have hl0 : 0 ≤ 1048576 - (fs.length : Int) := by omega
  rw [← hv] at hC
  obtain ⟨q, hq⟩ : ∃ q : Int, 1048576 - (fs.length : Int) = q := ⟨_, rfl⟩
  rw [hq] at hC hl0
  clear hm h1 h2 hv hq
  go_enter Try.func3, Try.ntmps3
  go_wp2_with fail
  refine (hC.out _).mono ?_
  rintro r0 w0 ⟨rfl, rfl⟩
  go_wp2_with fail
  refine (hT.out _ _ (hS.out.below (by (repeat (first | exact Below.refl _ _ | assumption | refine bchain (by assumption) ?_ | refine balloc ?_ _ | apply Below.drew | apply below_drewN | (refine Below.alloc ?_ (by (try simp) <;> omega) _) | (refine Below.setCell ?_ (by (try simp) <;> omega) _)))))).mono ?_
  rintro r1 w1 ⟨⟨u1, rfl, hU1⟩, hb1⟩
  replace hU1 := Lib.hid hU1
  go_wp2_with fail
  refine (hs.out _ _ hU1.out).mono ?_
  rintro r2 w2 ⟨rfl, hb2⟩
  go_wp2_with fail
  refine (hT.out _ _ (hS.out.below (by (repeat (first | exact Below.refl _ _ | assumption | refine bchain (by assumption) ?_ | refine balloc ?_ _ | apply Below.drew | apply below_drewN | (refine Below.alloc ?_ (by (try simp) <;> omega) _) | (refine Below.setCell ?_ (by (try simp) <;> omega) _)))))).mono ?_
  rintro r3 w3 ⟨⟨u3, rfl, hU3⟩, hb3⟩
  obtain ⟨hc3_0, hz3_0⟩ := bkeep hb3 (w2.heap.size) (by (try simp) <;> omega)
  replace hU3 := Lib.hid hU3
  go_wp2_with fail
  refine (hi.out _ _ hU3.out).mono ?_
  rintro r4 w4 ⟨rfl, hb4⟩
  obtain ⟨hc4_0, hz4_0⟩ := bkeep hb4 (w2.heap.size) (by (try simp) <;> omega)
  go_wp2_with fail
  refine (eqF_any _ _ _).mono ?_
  rintro r5 w5 ⟨rfl, hb5⟩
  go_wp2_with fail
  refine (hT.out _ _ (hS.out.below (by (repeat (first | exact Below.refl _ _ | assumption | refine bchain (by assumption) ?_ | refine balloc ?_ _ | apply Below.drew | apply below_drewN | (refine Below.alloc ?_ (by (try simp) <;> omega) _) | (refine Below.setCell ?_ (by (try simp) <;> omega) _)))))).mono ?_
  rintro r6 w6 ⟨⟨u6, rfl, hU6⟩, hb6⟩
  go_wp2_with fail
  refine (hE.out _ _ _ (((hU3.out.below hb4).below (show Below w4.heap.size w4 w5 by (repeat (first | exact Below.refl _ _ | assumption | refine bchain (by assumption) ?_ | refine balloc ?_ _ | apply Below.drew | apply below_drewN | (refine Below.alloc ?_ (by (try simp) <;> omega) _) | (refine Below.setCell ?_ (by (try simp) <;> omega) _))))).below hb6) hU6).mono ?_
  rintro r7 w7 ⟨rfl, hb7⟩
  go_wp2
  go_ret
  exact ⟨rfl, by (repeat (first | exact Below.refl _ _ | assumption | refine bchain (by assumption) ?_ | refine balloc ?_ _ | apply Below.drew | apply below_drewN | (refine Below.alloc ?_ (by (try simp) <;> omega) _) | (refine Below.setCell ?_ (by (try simp) <;> omega) _)))⟩
theorem walk (v : Value) (fs : List (Int × Int)) (w : World) (hS : SlG w v fs) :
    Calls Try.prog 3 #[v] w fun r w' => r = .returned (.bool true) ∧ Below w.heap.size w w' := by
  rcases Nat.lt_or_ge 1048576 fs.length with h | h
  · exact walk_long v fs w hS h
  · exact walk_short v fs w hS h
end SumOfFractionsLaw
theorem SumOfFractionsLaw.lifted (os : Os) (started : os.Started) (H : Type) (enc : TypeId × Value → H) :
    ReturnsInHanded {} Try.checked os 3 .any (Rows.fnExactSumOfFractionsSpec.pre6 enc Try.prog Try.f3 Rows.fnExactSumOfFractionsRow.domain false)
      (Rows.fnExactSumOfFractionsSpec.post enc Try.prog Try.f3 false true false false) := by
  refine fr_lift (C := Try.checked) own started (by kernel_rfl) Try.func3 laid_out rfl (by kernel_rfl) (tb := 4) rfl Try.underlying4 ?hs
    (ChangeSpec.witness6 (enc := enc) (C := Try.checked) false ⟨#[], #[.slice none 0 0], []⟩ 8 (by kernel_rfl) (by kernel_rfl) (by kernel_rfl) (by kernel_rfl)) ?_
  case hs =>
    intro ds h
    match ds, h with
    | [d0], _ => rfl
  intro W base args ds p hval0 hA0 hlt hsz
  have hval : ∀ (j : Nat) t v, Try.f3.params[j]? = some t → args[j]? = some v → Value.okWide Try.prog W .any base t v := hval0
  have hA : DataW.TrodAll enc Try.prog W 0 (fun _ => true) true Try.f3.params.toList args.toList ds p := hA0
  rw [Try.params3] at hA hval
  obtain ⟨v0, vs0, d0, ds0, p0, q0, hargs, rfl, rfl, h0, r0⟩ := trodAll_cons hA
  obtain ⟨rfl, rfl, rfl⟩ := trodAll_nil r0
  obtain rfl : args = #[v0] := by cases args; simp_all
  obtain ⟨x0, R0⟩ := open_fs (hval 0 22 v0 rfl rfl) h0
  exact SumOfFractionsLaw.walk v0 x0 W R0

theorem sumOfFractions_holds : Rows.FnExactSumOfFractionsSaid :=
  OpenClaim.holds_of_wide 3 Try.f3 rfl rfl rfl rfl rfl rfl rfl ⟨rfl, rfl, rfl, rfl, rfl⟩ rfl rfl rfl rfl rfl (by kernel_rfl) Try.func3 (by kernel_rfl)
    (of_decide_eq_true (by kernel_rfl)) (by unfold Func.isWrapper; rw [if_neg (of_decide_eq_false (by kernel_rfl))]; exact ⟨rfl, rfl⟩)
    (fun os started H enc _ => SumOfFractionsLaw.lifted os started H enc)
#print axioms sumOfFractions_holds
end Go.Proofs.Ytonjmoiognbjbab
