/-
  PROVED: for every number, UnitMatrix of the program answers as the model's does, and its result owns its memory. Conditions: none.
-/
import Derived.Test.YtdibcchhamapjacFOpen
import Derived.Test.YtdibcchhamapjacFMR
import Derived.Test.YtdibcchhamapjacFUnitS
namespace Go.Proofs.Ytdibcchhamapjac
open Go.ChangeShapes Go.WideShapes Go.ChangeAt Go.RowKit
set_option maxRecDepth 100000

theorem um_both (q : Int) : ∃ (n : Nat) (g : Nat → Nat → Int × Int) (c : Int), n ≤ 8 ∧
    (∀ W, Calls Try.prog 12 #[.int .i64 q] W fun r w' => (∃ v, r = .returned (.tuple #[v, .int .i64 c]) ∧ SlM w' v (matL n g)) ∧ Below W.heap.size W w') ∧
    (∀ W, Calls Try.prog 13 #[.int .i64 q] W fun r w' => (∃ u, r = .returned (.tuple #[u, .int .i64 c]) ∧ MR W.heap.size w' u n (gv n g)) ∧ Below W.heap.size W w') := by
  by_cases h : q < 0 ∨ 8 < q
  · refine ⟨0, fun _ _ => (0, 0), 2, by omega, fun W => (sUM_rng W q h).mono ?_, fun W => (iUM_rng W q h).mono ?_⟩
    · rintro r w' ⟨⟨u, cap, rfl, hc⟩, hb⟩
      exact ⟨⟨_, rfl, u, cap, rfl, Nat.zero_le _, hc, fun c => absurd rfl c⟩, hb⟩
    · rintro r w' ⟨rfl, hb⟩
      exact ⟨⟨_, rfl, .inl ⟨rfl, none, 0, rfl, by omega⟩⟩, hb⟩
  · obtain ⟨n, rfl⟩ : ∃ n : Nat, q = n := ⟨q.toNat, by omega⟩
    refine ⟨n, gU, 0, by omega, fun W => (sUM_ok W n (by omega)).mono ?_, fun W => (iUM_ok W n (by omega)).mono ?_⟩
    · rintro r w' ⟨⟨v, rfl, hM⟩, hb⟩
      exact ⟨⟨v, rfl, hM.slm⟩, hb⟩
    · rintro r w' ⟨rfl, hb, hC, hR, hF, hz⟩
      exact ⟨⟨_, rfl, .inr ⟨_, _, rfl, by omega, by omega, Nat.le_refl _, hz, by omega, hC, hF, hR⟩⟩, hb⟩

namespace UnitMatrixLaw
set_option maxHeartbeats 1000000 in
theorem walk (q : Int) (_hq : (Lit.int .i64 q).wf = true) (w : World) :
    Calls Try.prog 3 #[.int .i64 q] w fun r w' => r = .returned (.bool true) ∧ Below w.heap.size w w' := by
  obtain ⟨n, g, c, h8, hs, hi⟩ := um_both q
  have hE := Lib.hid (fun W u v (h : SlM W u (matL n g)) (h' : SlM W v (matL n g)) => eqR_any W u v n g h8 h h')
  have hMk := Lib.hid (fun W b0 u (h : MR b0 W u n (gv n g)) (hb : b0 ≤ W.heap.size) => markR_any W b0 u n (gv n g) h hb)
  have hHd := Lib.hid (fun W b0 u (h : MR b0 W u n (mkF 1 0 (n * n * 2) (gv n g))) => heldR_any W b0 u n (gv n g) h)
  obtain ⟨K, hK⟩ : ∃ K : Nat, 1 + n * n * 2 = K := ⟨_, rfl⟩
  rw [hK] at hMk hHd
  have hd0 : decide ((K : Int) < 0) = false := decide_eq_false (by omega)
  replace hs := Lib.hid hs
  replace hi := Lib.hid hi
  clear _hq hK
  go_enter Try.func3, Try.ntmps3
  go_wp2_with fail
  refine (hs.out _).mono ?_
  rintro r1 w1 ⟨⟨v, rfl, hV⟩, hb1⟩
  go_wp2_with fail
  refine (hi.out _).mono ?_
  rintro r2 w2 ⟨⟨u, rfl, hU⟩, hb2⟩
  have hV2 := Lib.hid (hV.below hb2)
  replace hU := Lib.hid hU
  replace hV := Lib.hid hV
  go_wp2_with fail
  refine (hE.out _ _ _ hU.out.slm hV2.out).mono ?_
  rintro r3 w3 ⟨rfl, hb3⟩
  go_wp2_with fail
  refine (hMk.out _ _ _ (hU.out.below hb3) (Nat.le_trans hb2.size hb3.size)).mono ?_
  rintro r4 w4 ⟨rfl, hb4, hU4⟩
  have hV4 := Lib.hid (hV.out.below (show Below w1.heap.size w1 w4 from (hb2.trans (hb3.mono hb2.size)).trans hb4))
  replace hU4 := Lib.hid hU4
  go_wp2_with fail
  refine (hHd.out _ _ _ hU4.out).mono ?_
  rintro r5 w5 ⟨rfl, hb5⟩
  go_wp2_with fail
  refine (hi.out _).mono ?_
  rintro r6 w6 ⟨⟨u6, rfl, hU6⟩, hb6⟩
  replace hU6 := Lib.hid hU6
  go_wp2_with fail
  refine (hE.out _ _ _ hU6.out.slm ((hV4.out.below hb5).below hb6)).mono ?_
  rintro r7 w7 ⟨rfl, hb7⟩
  go_wp2_with fail
  refine (hHd.out _ _ _ (((hU4.out.below hb5).below hb6).below hb7)).mono ?_
  rintro r8 w8 ⟨rfl, hb8⟩
  have hB : Below w.heap.size w w8 := by
    have s1 := hb1.size
    have s2 := hb2.size
    have s3 := hb3.size
    have s4 := hb4.size
    have s5 := hb5.size
    have s6 := hb6.size
    have s7 := hb7.size
    exact ((((((hb1.trans (hb2.mono s1)).trans (hb3.mono (by omega))).trans (hb4.mono (by omega))).trans (hb5.mono (by omega))).trans (hb6.mono (by omega))).trans (hb7.mono (by omega))).trans (hb8.mono (by omega))
  clear hb1 hb2 hb3 hb4 hb5 hb6 hb7 hb8
  go_wp2
  go_ret
  exact ⟨rfl, hB⟩
end UnitMatrixLaw
theorem UnitMatrixLaw.lifted (os : Os) (started : os.Started) (H : Type) (enc : TypeId × Value → H) :
    ReturnsInHanded {} Try.checked os 3 .any (Rows.fnExactUnitMatrixSpec.pre6 enc Try.prog Try.f3 Rows.fnExactUnitMatrixRow.domain false)
      (Rows.fnExactUnitMatrixSpec.post enc Try.prog Try.f3 false true false false) := by
  refine fr_lift (C := Try.checked) own started (by kernel_rfl) Try.func3 laid_out rfl (by kernel_rfl) (tb := 4) rfl Try.underlying4 ?hs
    (ChangeSpec.witness6 (enc := enc) (C := Try.checked) false ⟨#[], #[.int .i64 0], []⟩ 8 (by kernel_rfl) (by kernel_rfl) (by kernel_rfl) (by kernel_rfl)) ?_
  case hs =>
    intro ds h
    match ds, h with
    | [d0], _ => rfl
  intro W base args ds p hval0 hA0 hlt hsz
  have hval : ∀ (j : Nat) t v, Try.f3.params[j]? = some t → args[j]? = some v → Value.okWide Try.prog W .any base t v := hval0
  have hA : DataW.TrodAll enc Try.prog W 0 (fun _ => true) true Try.f3.params.toList args.toList ds p := hA0
  rw [Try.params3] at hA hval
  obtain ⟨v0, vs0, d0, ds0, p0, q0, hargs, rfl, rfl, h0, r0⟩ := trodAll_cons hA
  obtain ⟨rfl, rfl, rfl⟩ := trodAll_nil r0
  obtain rfl : args = #[v0] := by cases args; simp_all
  obtain ⟨a0, rfl, w0⟩ := open_i64 (hval 0 2 v0 rfl rfl) h0
  exact UnitMatrixLaw.walk a0 w0 W

theorem unitMatrix_holds : Rows.FnExactUnitMatrixSaid :=
  OpenClaim.holds_of_wide 3 Try.f3 rfl rfl rfl rfl rfl rfl rfl ⟨rfl, rfl, rfl, rfl, rfl⟩ rfl rfl rfl rfl rfl (by kernel_rfl) Try.func3 (by kernel_rfl)
    (of_decide_eq_true (by kernel_rfl)) (by unfold Func.isWrapper; rw [if_neg (of_decide_eq_false (by kernel_rfl))]; exact ⟨rfl, rfl⟩)
    (fun os started H enc _ => UnitMatrixLaw.lifted os started H enc)
#print axioms unitMatrix_holds
end Go.Proofs.Ytdibcchhamapjac
