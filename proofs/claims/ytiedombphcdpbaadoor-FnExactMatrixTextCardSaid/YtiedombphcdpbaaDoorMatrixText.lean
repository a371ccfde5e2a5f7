/-
  PROVED: for every list of rows of fractions, valid or not, MatrixText of the program answers as the model's does, and its list is left as it was. Condition: the tables of the library hold what the program's text lays there (the card ties them).
-/
import Derived.Test.YtiedombphcdpbaaDoorMxi
import Derived.Test.YtiedombphcdpbaaDoorFOpen
import Derived.Test.YtiedombphcdpbaaDoorTie
import Derived.Test.YtiedombphcdpbaaDoorCards
import Derived.SevenTiedAt
namespace Go.Proofs.YtiedombphcdpbaaDoor
open Go.ChangeShapes Go.WideShapes Go.ChangeAt Go.RowKit
set_option maxRecDepth 100000

namespace MatrixTextLaw
open Fr
theorem walk_long (v : Value) (fs : List (List (Int × Int))) (w : World) (hS : SlM w v fs) (hm : 1048576 < fs.length + tot fs fs.length) :
    Calls Tryd.prog 3 #[v] w fun r w' => r = .returned (.bool true) ∧ Below w.heap.size w w' := by
  have hC := Lib.hid (szM_long w v fs hS 1048576 (by omega) (by omega) (by omega))
  clear hS hm
  go_enter Tryd.func3, Tryd.ntmps3
  go_wp2_with fail
  refine hC.out.mono ?_
  rintro r1 w1 ⟨rfl, hb1⟩
  go_wp2
  go_ret
  exact ⟨rfl, by (repeat (first | exact Below.refl _ _ | assumption | refine bchain (by assumption) ?_ | refine balloc ?_ _ | apply Below.drew | apply below_drewN | (refine Below.alloc ?_ (by (try simp) <;> omega) _) | (refine Below.setCell ?_ (by (try simp) <;> omega) _)))⟩
theorem both (m : List (List (Int × Int))) (hm : m.length ≤ 1048576) (hr : ∀ i, i < m.length → (rAt m i).length ≤ 1048576) : ∃ s : ByteArray, (∀ W u, SlM W u m → Calls Tryd.prog 8 #[u] W fun r w' => r = .returned (.string s) ∧ Below W.heap.size W w') ∧
    (∀ W u, SlM W u m → TabP W → Calls Tryd.prog 10 #[u] W fun r w' => r = .returned (.string s) ∧ Below W.heap.size W w') := by
  by_cases h : VM m
  · exact ⟨_, fun W u hS => smx_t W u m hS h, fun W u hS hT => imx_t W u m hS h hT⟩
  · exact ⟨_, fun W u hS => smx_f W u m hS hm hr h, fun W u hS _ => imx_f W u m hS hm hr h⟩
set_option maxHeartbeats 1000000 in
theorem walk_short (v : Value) (fs : List (List (Int × Int))) (w : World) (hw : TabP w) (hS : SlM w v fs) (hm : fs.length + tot fs fs.length ≤ 1048576) :
    Calls Tryd.prog 3 #[v] w fun r w' => r = .returned (.bool true) ∧ Below w.heap.size w w' := by
  have l1 : fs.length ≤ 1048576 := by omega
  have r1 : ∀ i, i < fs.length → (rAt fs i).length ≤ 1048576 := fun i hi => by have := row_le fs hi; omega
  obtain ⟨R, hs, hi⟩ := both fs l1 r1
  replace hs := Lib.hid hs
  replace hi := Lib.hid (fun W (hb : Below w.heap.size w W) u (h : SlM W u fs) => hi W u h (hw.below hb))
  have hT := Lib.hid (fun W u (h : SlM W u fs) => toMs_any W u fs h l1 r1)
  have hE := Lib.hid (fun W u u' (h : SlM W u fs) (h' : SlM W u' fs) => eqMs_any W u u' fs h h' l1 r1)
  have hC := Lib.hid (szM_ok w v fs hS 1048576 (by omega) (by omega))
  have hl0 : 0 ≤ 1048576 - (fs.length : Int) - (tot fs fs.length : Nat) := by omega
  obtain ⟨q, hq⟩ : ∃ q : Int, 1048576 - (fs.length : Int) - (tot fs fs.length : Nat) = q := ⟨_, rfl⟩
  rw [hq] at hC hl0
  replace hS := Lib.hid hS
  clear hm hq l1 r1 hw
  go_enter Tryd.func3, Tryd.ntmps3
  go_wp2_with fail
  refine hC.out.mono ?_
  rintro r0 w0 ⟨rfl, hb0⟩
  go_wp2_with fail
  refine (hT.out _ _ (hS.out.below (by (repeat (first | exact Below.refl _ _ | assumption | refine bchain (by assumption) ?_ | refine balloc ?_ _ | apply Below.drew | apply below_drewN | (refine Below.alloc ?_ (by (try simp) <;> omega) _) | (refine Below.setCell ?_ (by (try simp) <;> omega) _)))))).mono ?_
  rintro r1 w1 ⟨⟨u1, rfl, hU1⟩, hb1⟩
  replace hU1 := Lib.hid hU1
  go_wp2_with fail
  refine (hs.out _ _ hU1.out).mono ?_
  rintro r2 w2 ⟨rfl, hb2⟩
  go_wp2_with fail
  refine (hT.out _ _ (hS.out.below (by (repeat (first | exact Below.refl _ _ | assumption | refine bchain (by assumption) ?_ | refine balloc ?_ _ | apply Below.drew | apply below_drewN | (refine Below.alloc ?_ (by (try simp) <;> omega) _) | (refine Below.setCell ?_ (by (try simp) <;> omega) _)))))).mono ?_
  rintro r3 w3 ⟨⟨u3, rfl, hU3⟩, hb3⟩
  replace hU3 := Lib.hid hU3
  go_wp2_with fail
  refine (hi.out _ (by (repeat (first | exact Below.refl _ _ | assumption | refine bchain (by assumption) ?_ | refine balloc ?_ _ | apply Below.drew | apply below_drewN | (refine Below.alloc ?_ (by (try simp) <;> omega) _) | (refine Below.setCell ?_ (by (try simp) <;> omega) _)))) _ hU3.out).mono ?_
  rintro r4 w4 ⟨rfl, hb4⟩
  go_wp2_with fail
  refine (hT.out _ _ (hS.out.below (by (repeat (first | exact Below.refl _ _ | assumption | refine bchain (by assumption) ?_ | refine balloc ?_ _ | apply Below.drew | apply below_drewN | (refine Below.alloc ?_ (by (try simp) <;> omega) _) | (refine Below.setCell ?_ (by (try simp) <;> omega) _)))))).mono ?_
  rintro r5 w5 ⟨⟨u5, rfl, hU5⟩, hb5⟩
  go_wp2_with fail
  refine (hE.out _ _ _ ((hU3.out.below hb4).below hb5) hU5).mono ?_
  rintro r6 w6 ⟨rfl, hb6⟩
  go_wp2
  go_ret
  exact ⟨rfl, by (repeat (first | exact Below.refl _ _ | assumption | refine bchain (by assumption) ?_ | refine balloc ?_ _ | apply Below.drew | apply below_drewN | (refine Below.alloc ?_ (by (try simp) <;> omega) _) | (refine Below.setCell ?_ (by (try simp) <;> omega) _)))⟩
theorem walk (v : Value) (fs : List (List (Int × Int))) (w : World) (hS : SlM w v fs) (hw : TabP w) :
    Calls Tryd.prog 3 #[v] w fun r w' => r = .returned (.bool true) ∧ Below w.heap.size w w' := by
  rcases Nat.lt_or_ge 1048576 (fs.length + tot fs fs.length) with h | h
  · exact walk_long v fs w hS h
  · exact walk_short v fs w hw hS h
end MatrixTextLaw
theorem MatrixTextLaw.lifted (os : Os) (started : os.Started) (H : Type) (enc : TypeId × Value → H) :
    ReturnsInHanded {} Tryd.checked os 3 .any (fun w args => (Rows.fnExactMatrixTextSpec.pre enc Tryd.prog Tryd.f3 [] false w args ∧ laidMetH Tryd.prog Rows.fnExactMatrixTextRow.laid w) ∧ sizedMet enc Tryd.prog Tryd.f3 (OpenSpec.ofChange Rows.fnExactMatrixTextSpec) false w args)
      (Rows.fnExactMatrixTextSpec.post enc Tryd.prog Tryd.f3 false true false false) := by
  refine fr_liftC (C := Tryd.checked) (laid := Rows.fnExactMatrixTextRow.laid) own started (by kernel_rfl) Tryd.func3 laid_out (by kernel_rfl) (by kernel_rfl) (tb := 4) rfl Tryd.underlying4 ?hs
    (ChangeSpec.witness_shaped (enc := enc) (C := Tryd.checked) (os := os) (X := fun w _ => laidMetH Tryd.prog Rows.fnExactMatrixTextRow.laid w) false (World.doorLaid Tryd.prog 400 os) #[.slice none 0 0] 8 rfl
      (World.shaped_of_RefB (by kernel_rfl) (by kernel_rfl)) (by kernel_rfl) (by kernel_rfl) (by kernel_rfl) (laidMetH_of_parts3 (fuel := 8) (laidMet_of_run' 8 (by kernel_rfl) (by kernel_rfl)) (by kernel_rfl) (by kernel_rfl))) ?_
  case hs =>
    intro ds gs h h2
    match ds, h, gs, h2 with
    | [d0], _, [], _ => rfl
  intro W base args ds gs p hval0 hA0 hlt hsz hL0
  have hL : laidMet Tryd.prog Rows.fnExactMatrixTextRow.laid W := by rw [← MakeChecks.laidMetH_plain _ _ _ (by kernel_rfl)]; exact hL0
  have hval : ∀ (j : Nat) t v, Tryd.f3.params[j]? = some t → args[j]? = some v → Value.okWide Tryd.prog W .any base t v := hval0
  have hA : DataW.TrodAll enc Tryd.prog W 0 (fun _ => true) true Tryd.f3.params.toList args.toList ds p := hA0
  rw [Tryd.params3] at hA hval
  obtain ⟨v0, vs0, d0, ds0, p0, q0, hargs, rfl, rfl, h0, r0⟩ := trodAll_cons hA
  obtain ⟨rfl, rfl, rfl⟩ := trodAll_nil r0
  obtain rfl : args = #[v0] := by cases args; simp_all
  obtain ⟨x0, R0⟩ := Fr.open_ms (hval 0 22 v0 rfl rfl) h0
  exact MatrixTextLaw.walk v0 x0 W R0 (tabP_of_laid (laidMet.tail (laidMet.tail hL)))

theorem matrixText_holds_row : Rows.FnExactMatrixTextSaid :=
  OpenClaim.holds_of_wide 3 Tryd.f3 rfl rfl rfl rfl rfl rfl rfl ⟨rfl, rfl, rfl, rfl, rfl⟩ rfl rfl rfl rfl rfl (by kernel_rfl) Tryd.func3 (by kernel_rfl)
    (of_decide_eq_true (by kernel_rfl)) (by unfold Func.isWrapper; rw [if_neg (of_decide_eq_false (by kernel_rfl))]; exact ⟨rfl, rfl⟩)
    (fun os started H enc _ => MatrixTextLaw.lifted os started H enc)
theorem matrixText_holds : Rows.FnExactMatrixTextCardSaid :=
  Claim7.holds_tied_plain_at .later [] Rows.fnExactMatrixTextCard.laidKinds true Rows.fnExactMatrixTextCard.stood.harness Rows.fnExactMatrixTextCard.stood.looks matrixText_holds_row (fun _ h => by cases h) (by kernel_rfl) (fun _ h => by cases h) fnExactMatrixText_row_tie rfl ⟨rfl, rfl⟩ (by kernel_rfl) rfl
    (fun f fn hf hfn => by
      obtain rfl : f = 3 := Option.some.inj ((show Tryd.prog.funcNamed "loop.example/g01169/laws.FnExactMatrixText" = some 3 by kernel_rfl).symm.trans hf) |>.symm
      obtain rfl : fn = Tryd.f3 := (Option.some.inj (Tryd.func3.symm.trans hfn)).symm
      exact ⟨by kernel_rfl, fun j t ht => by
        rw [Tryd.params3] at ht
        have hm : t ∈ [22] := by simpa using Array.mem_of_getElem? ht
        have hall : ([22].all fun u => !Tryd.prog.wantsStandIn u) = true := by kernel_rfl
        exact (show Tryd.prog.wantsStandIn t = false by simpa using List.all_eq_true.1 hall t hm)⟩)
    (by kernel_rfl)
#print axioms matrixText_holds
end Go.Proofs.YtiedombphcdpbaaDoor
