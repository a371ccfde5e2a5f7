/-
  PROVED: for every number and every list of pairs, GraphOf of the program answers as the model's does, and its list is left as it was. Conditions: none.
-/
import Derived.Test.YtoiepgdjknpjiaaOpen
import Derived.Test.YtoiepgdjknpjiaaGraphOfC
namespace Go.Proofs.Ytoiepgdjknpjiaa
open Go.ChangeShapes Go.WideShapes Go.ChangeAt Go.RowKit
set_option maxRecDepth 100000

namespace GraphOfLaw
theorem walk_long (n : Int) (v : Value) (ps : List (Int × Int)) (w : World) (hS : SlP w v ps) (hm : 1048576 < ps.length) :
    Calls Try.prog 10 #[.int .i64 n, v] w fun r w' => r = .returned (.bool true) ∧ Below w.heap.size w w' := by
  obtain ⟨a, cap, rfl, h1, _⟩ := hS
  have hC := Lib.hid (fun W => szA_long W a ps.length cap hm (by omega))
  obtain ⟨l, hl⟩ : ∃ l, ps.length = l := ⟨_, rfl⟩
  rw [hl] at hC ⊢
  clear hl h1 hm
  go_enter Try.func10, Try.ntmps10
  go_wp2_with fail
  refine (hC.out _).mono ?_
  rintro r1 w1 ⟨rfl, rfl⟩
  go_wp2
  go_ret
  exact ⟨rfl, by (repeat (first | exact Below.refl _ _ | assumption | refine bchain (by assumption) ?_ | refine balloc ?_ _ | apply Below.drew | apply below_drewN | (refine Below.alloc ?_ (by (try simp) <;> omega) _) | (refine Below.setCell ?_ (by (try simp) <;> omega) _)))⟩
set_option maxHeartbeats 1000000 in
theorem walk_short (n : Int) (v : Value) (ps : List (Int × Int)) (w : World) (hS : SlP w v ps) (hm : ps.length ≤ 1048576) :
    Calls Try.prog 10 #[.int .i64 n, v] w fun r w' => r = .returned (.bool true) ∧ Below w.heap.size w w' := by
  obtain ⟨m, e, c, hs, hi⟩ := go_both n ps.length (pf ps) hm
  replace hs := Lib.hid hs
  replace hi := Lib.hid hi
  have hT := Lib.hid (fun W u (h : SlP W u ps) => toA2s_any W u ps h hm)
  have hE := Lib.hid (fun W w0 w0' u u' (h : OwnA w0 W u ps.length (pf ps)) (h' : OwnA w0' W u' ps.length (pf ps)) => eqA_any W w0 w0' u u' ps.length (pf ps) h h' hm)
  obtain ⟨a, cap, hv, _, _⟩ := id hS
  have hC := Lib.hid (fun W => szA_ok W a ps.length cap hm)
  replace hS := Lib.hid hS
  have hl0 : 0 ≤ 1048576 - (ps.length : Int) := by omega
  rw [← hv] at hC
  obtain ⟨q, hq⟩ : ∃ q : Int, 1048576 - (ps.length : Int) = q := ⟨_, rfl⟩
  rw [hq] at hC hl0
  clear hm hv hq
  go_enter Try.func10, Try.ntmps10
  go_wp2_with fail
  refine (hC.out _).mono ?_
  rintro r0 w0 ⟨rfl, rfl⟩
  go_wp2_with fail
  refine (hT.out _ _ (hS.out.below (by (repeat (first | exact Below.refl _ _ | assumption | refine bchain (by assumption) ?_ | refine balloc ?_ _ | apply Below.drew | apply below_drewN | (refine Below.alloc ?_ (by (try simp) <;> omega) _) | (refine Below.setCell ?_ (by (try simp) <;> omega) _)))))).mono ?_
  rintro r1 w1 ⟨⟨u1, rfl, hU1⟩, hb1⟩
  replace hU1 := Lib.hid hU1
  go_wp2_with fail
  refine (hs.out _ _ _ hU1.out).mono ?_
  rintro r2 w2 ⟨rfl, hb2⟩
  go_wp2_with fail
  refine (hT.out _ _ (hS.out.below (by (repeat (first | exact Below.refl _ _ | assumption | refine bchain (by assumption) ?_ | refine balloc ?_ _ | apply Below.drew | apply below_drewN | (refine Below.alloc ?_ (by (try simp) <;> omega) _) | (refine Below.setCell ?_ (by (try simp) <;> omega) _)))))).mono ?_
  rintro r3 w3 ⟨⟨u3, rfl, hU3⟩, hb3⟩
  obtain ⟨hc3_0, hz3_0⟩ := bkeep hb3 (w2.heap.size) (by (try simp) <;> omega)
  replace hU3 := Lib.hid hU3
  go_wp2_with fail
  refine (hi.out _ _ _ hU3.out).mono ?_
  rintro r4 w4 ⟨rfl, hb4⟩
  obtain ⟨hc4_0, hz4_0⟩ := bkeep hb4 (w2.heap.size) (by (try simp) <;> omega)
  go_wp2_with fail
  refine (eqGraph_any _ _ _).mono ?_
  rintro r5 w5 ⟨rfl, hb5⟩
  go_wp2_with fail
  refine (hT.out _ _ (hS.out.below (by (repeat (first | exact Below.refl _ _ | assumption | refine bchain (by assumption) ?_ | refine balloc ?_ _ | apply Below.drew | apply below_drewN | (refine Below.alloc ?_ (by (try simp) <;> omega) _) | (refine Below.setCell ?_ (by (try simp) <;> omega) _)))))).mono ?_
  rintro r6 w6 ⟨⟨u6, rfl, hU6⟩, hb6⟩
  go_wp2_with fail
  refine (hE.out _ _ _ _ _ (((hU3.out.below hb4).below (show Below w4.heap.size w4 w5 by (repeat (first | exact Below.refl _ _ | assumption | refine bchain (by assumption) ?_ | refine balloc ?_ _ | apply Below.drew | apply below_drewN | (refine Below.alloc ?_ (by (try simp) <;> omega) _) | (refine Below.setCell ?_ (by (try simp) <;> omega) _))))).below hb6) hU6).mono ?_
  rintro r7 w7 ⟨rfl, hb7⟩
  go_wp2
  go_ret
  exact ⟨rfl, by (repeat (first | exact Below.refl _ _ | assumption | refine bchain (by assumption) ?_ | refine balloc ?_ _ | apply Below.drew | apply below_drewN | (refine Below.alloc ?_ (by (try simp) <;> omega) _) | (refine Below.setCell ?_ (by (try simp) <;> omega) _)))⟩
theorem walk (n : Int) (_hn : (Lit.int .i64 n).wf = true) (v : Value) (ps : List (Int × Int)) (w : World) (hS : SlP w v ps) :
    Calls Try.prog 10 #[.int .i64 n, v] w fun r w' => r = .returned (.bool true) ∧ Below w.heap.size w w' := by
  rcases Nat.lt_or_ge 1048576 ps.length with h | h
  · exact walk_long n v ps w hS h
  · exact walk_short n v ps w hS h
end GraphOfLaw
theorem GraphOfLaw.lifted (os : Os) (started : os.Started) (H : Type) (enc : TypeId × Value → H) :
    ReturnsInHanded {} Try.checked os 10 .any (Rows.fnExactGraphOfSpec.pre6 enc Try.prog Try.f10 Rows.fnExactGraphOfRow.domain false)
      (Rows.fnExactGraphOfSpec.post enc Try.prog Try.f10 false true false false) := by
  refine fr_lift (C := Try.checked) own started (by kernel_rfl) Try.func10 laid_out rfl (by kernel_rfl) (tb := 4) rfl Try.underlying4 ?hs
    (ChangeSpec.witness6 (enc := enc) (C := Try.checked) false ⟨#[], #[.int .i64 0, .slice none 0 0], []⟩ 8 (by kernel_rfl) (by kernel_rfl) (by kernel_rfl) (by kernel_rfl)) ?_
  case hs =>
    intro ds h
    match ds, h with
    | [d0, d1], _ => rfl
  intro W base args ds p hval0 hA0 hlt hsz
  have hval : ∀ (j : Nat) t v, Try.f10.params[j]? = some t → args[j]? = some v → Value.okWide Try.prog W .any base t v := hval0
  have hA : DataW.TrodAll enc Try.prog W 0 (fun _ => true) true Try.f10.params.toList args.toList ds p := hA0
  rw [Try.params10] at hA hval
  obtain ⟨v0, vs0, d0, ds0, p0, q0, hargs, rfl, rfl, h0, r0⟩ := trodAll_cons hA
  obtain ⟨v1, vs1, d1, ds1, p1, q1, rfl, rfl, rfl, h1, r1⟩ := trodAll_cons r0
  obtain ⟨rfl, rfl, rfl⟩ := trodAll_nil r1
  obtain rfl : args = #[v0, v1] := by cases args; simp_all
  obtain ⟨a0, rfl, w0⟩ := open_i64 (hval 0 2 v0 rfl rfl) h0
  obtain ⟨x1, R1⟩ := open_a2s (hval 1 46 v1 rfl rfl) h1
  exact GraphOfLaw.walk a0 w0 v1 x1 W R1

theorem go_holds : Rows.FnExactGraphOfSaid :=
  OpenClaim.holds_of_wide 10 Try.f10 rfl rfl rfl rfl rfl rfl rfl ⟨rfl, rfl, rfl, rfl, rfl⟩ rfl rfl rfl rfl rfl (by kernel_rfl) Try.func10 (by kernel_rfl)
    (of_decide_eq_true (by kernel_rfl)) (by unfold Func.isWrapper; rw [if_neg (of_decide_eq_false (by kernel_rfl))]; exact ⟨rfl, rfl⟩)
    (fun os started H enc _ => GraphOfLaw.lifted os started H enc)
#print axioms go_holds
end Go.Proofs.Ytoiepgdjknpjiaa
