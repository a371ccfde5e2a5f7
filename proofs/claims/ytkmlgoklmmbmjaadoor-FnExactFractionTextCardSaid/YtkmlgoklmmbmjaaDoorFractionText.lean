/-
  PROVED: for every two numbers, FractionText of the program answers as the model's does, and the argument reads as before. Condition: the tables of the library hold what the program's text lays there (the card ties them).
-/
import Derived.Test.YtkmlgoklmmbmjaaDoorTf
import Derived.Test.YtkmlgoklmmbmjaaDoorFOpen
import Derived.Test.YtkmlgoklmmbmjaaDoorTie
import Derived.Test.YtkmlgoklmmbmjaaDoorCards
import Derived.SevenTiedAt
namespace Go.Proofs.YtkmlgoklmmbmjaaDoor
open Go.ChangeShapes Go.WideShapes Go.ChangeAt Go.RowKit
set_option maxRecDepth 100000

namespace FractionTextLaw
theorem both (p q : Int) : ∃ s : ByteArray, (∀ W, Calls Tryd.prog 9 #[.agg #[.int .i64 p, .int .i64 q]] W fun r w' => r = .returned (.string s) ∧ Below W.heap.size W w') ∧
    (∀ W, TabP W → Calls Tryd.prog 11 #[.agg #[.int .i64 p, .int .i64 q]] W fun r w' => r = .returned (.string s) ∧ Below W.heap.size W w') := by
  by_cases h : Fr.VF p q
  · obtain ⟨q', rfl⟩ : ∃ n : Nat, q = n := ⟨q.toNat, by have := h.1; omega⟩
    exact ⟨_, fun W => sft_t W p q' h, fun W hP => ift_t W p q' hP h⟩
  · exact ⟨_, fun W => sft_f W p q h, fun W _ => ift_f W p q h⟩
theorem walk (p q : Int) (_hp : (Lit.int .i64 p).wf = true) (_hq : (Lit.int .i64 q).wf = true) (w : World) (hw : TabP w) :
    Calls Tryd.prog 3 #[.agg #[.int .i64 p, .int .i64 q]] w fun e w' => e = .returned (.bool true) ∧ Below w.heap.size w w' := by
  obtain ⟨R, hs, hi⟩ := both p q
  replace hs := Lib.hid hs
  replace hi := Lib.hid (fun W (h : Below w.heap.size w W) => hi W (hw.below h))
  have ht := Lib.hid (fun W => Fr.toF_any W p q)
  clear hw _hp _hq
  go_enter Tryd.func3, Tryd.ntmps3
  go_wp2_with fail
  refine (ht.out _).mono ?_
  rintro r1 w1 ⟨rfl, hb1⟩
  go_wp2_with fail
  refine (hs.out _).mono ?_
  rintro r2 w2 ⟨rfl, hb2⟩
  have k0 := (hb2.cell (p := ⟨w.heap.size, 0, none⟩) (by have := hb1.size; simp at this; show w.heap.size < _; omega)).trans ((hb1.cell (p := ⟨w.heap.size, 0, none⟩) (by simp)).trans (World.cell?_alloc_new _ _ _ _))
  have k1 := (hb2.cell (p := ⟨w.heap.size, 1, none⟩) (by have := hb1.size; simp at this; show w.heap.size < _; omega)).trans ((hb1.cell (p := ⟨w.heap.size, 1, none⟩) (by simp)).trans (World.cell?_alloc_new _ _ _ _))
  simp at k0 k1
  have hB2 : Below w.heap.size w w2 := by (repeat (first | exact Below.refl _ _ | assumption | refine bchain (by assumption) ?_ | refine balloc ?_ _ | apply Below.drew | apply below_drewN | (refine Below.alloc ?_ (by (try simp) <;> omega) _) | (refine Below.setCell ?_ (by (try simp) <;> omega) _)))
  clear hb1 hb2
  go_wp2_with fail
  refine (ht.out _).mono ?_
  rintro r3 w3 ⟨rfl, hb3⟩
  go_wp2_with fail
  refine (hi.out _ (by (repeat (first | exact Below.refl _ _ | assumption | refine bchain (by assumption) ?_ | refine balloc ?_ _ | apply Below.drew | apply below_drewN | (refine Below.alloc ?_ (by (try simp) <;> omega) _) | (refine Below.setCell ?_ (by (try simp) <;> omega) _))))).mono ?_
  rintro r4 w4 ⟨rfl, hb4⟩
  go_wp2
  go_ret
  exact ⟨rfl, by (repeat (first | exact Below.refl _ _ | assumption | refine bchain (by assumption) ?_ | refine balloc ?_ _ | apply Below.drew | apply below_drewN | (refine Below.alloc ?_ (by (try simp) <;> omega) _) | (refine Below.setCell ?_ (by (try simp) <;> omega) _)))⟩
end FractionTextLaw
theorem FractionTextLaw.lifted (os : Os) (started : os.Started) (H : Type) (enc : TypeId × Value → H) :
    ReturnsInHanded {} Tryd.checked os 3 .any (fun w args => (Rows.fnExactFractionTextSpec.pre enc Tryd.prog Tryd.f3 [] false w args ∧ laidMetH Tryd.prog Rows.fnExactFractionTextRow.laid w) ∧ sizedMet enc Tryd.prog Tryd.f3 (OpenSpec.ofChange Rows.fnExactFractionTextSpec) false w args)
      (Rows.fnExactFractionTextSpec.post enc Tryd.prog Tryd.f3 false true false false) := by
  refine fr_liftC (C := Tryd.checked) (laid := Rows.fnExactFractionTextRow.laid) own started (by kernel_rfl) Tryd.func3 laid_out (by kernel_rfl) (by kernel_rfl) (tb := 4) rfl Tryd.underlying4 ?hs
    (ChangeSpec.witness_shaped (enc := enc) (C := Tryd.checked) (os := os) (X := fun w _ => laidMetH Tryd.prog Rows.fnExactFractionTextRow.laid w) false (World.doorLaid Tryd.prog 400 os) #[.agg #[.int .i64 0, .int .i64 0]] 8 rfl
      (World.shaped_of_RefB (by kernel_rfl) (by kernel_rfl)) (by kernel_rfl) (by kernel_rfl) (by kernel_rfl) (laidMetH_of_parts3 (fuel := 8) (laidMet_of_run' 8 (by kernel_rfl) (by kernel_rfl)) (by kernel_rfl) (by kernel_rfl))) ?_
  case hs =>
    intro ds gs h h2
    match ds, h, gs, h2 with
    | [d0], _, [], _ => rfl
  intro W base args ds gs p hval0 hA0 hlt hsz hL0
  have hL : laidMet Tryd.prog Rows.fnExactFractionTextRow.laid W := by rw [← MakeChecks.laidMetH_plain _ _ _ (by kernel_rfl)]; exact hL0
  have hval : ∀ (j : Nat) t v, Tryd.f3.params[j]? = some t → args[j]? = some v → Value.okWide Tryd.prog W .any base t v := hval0
  have hA : DataW.TrodAll enc Tryd.prog W 0 (fun _ => true) true Tryd.f3.params.toList args.toList ds p := hA0
  rw [Tryd.params3] at hA hval
  obtain ⟨v0, vs0, d0, ds0, p0, q0, hargs, rfl, rfl, h0, r0⟩ := trodAll_cons hA
  obtain ⟨rfl, rfl, rfl⟩ := trodAll_nil r0
  obtain rfl : args = #[v0] := by cases args; simp_all
  obtain ⟨a0, b0, rfl, w0, u0⟩ := open_frac (hval 0 23 v0 rfl rfl) h0
  exact FractionTextLaw.walk a0 b0 w0 u0 W (tabP_of_laid (laidMet.tail (laidMet.tail hL)))

theorem fractionText_holds_row : Rows.FnExactFractionTextSaid :=
  OpenClaim.holds_of_wide 3 Tryd.f3 rfl rfl rfl rfl rfl rfl rfl ⟨rfl, rfl, rfl, rfl, rfl⟩ rfl rfl rfl rfl rfl (by kernel_rfl) Tryd.func3 (by kernel_rfl)
    (of_decide_eq_true (by kernel_rfl)) (by unfold Func.isWrapper; rw [if_neg (of_decide_eq_false (by kernel_rfl))]; exact ⟨rfl, rfl⟩)
    (fun os started H enc _ => FractionTextLaw.lifted os started H enc)
theorem fractionText_holds : Rows.FnExactFractionTextCardSaid :=
  Claim7.holds_tied_plain_at .later [] Rows.fnExactFractionTextCard.laidKinds true Rows.fnExactFractionTextCard.stood.harness Rows.fnExactFractionTextCard.stood.looks fractionText_holds_row (fun _ h => by cases h) (by kernel_rfl) (fun _ h => by cases h) fnExactFractionText_row_tie rfl ⟨rfl, rfl⟩ (by kernel_rfl) rfl
    (fun f fn hf hfn => by
      obtain rfl : f = 3 := Option.some.inj ((show Tryd.prog.funcNamed "loop.example/g01169/laws.FnExactFractionText" = some 3 by kernel_rfl).symm.trans hf) |>.symm
      obtain rfl : fn = Tryd.f3 := (Option.some.inj (Tryd.func3.symm.trans hfn)).symm
      exact ⟨by kernel_rfl, fun j t ht => by
        rw [Tryd.params3] at ht
        have hm : t ∈ [23] := by simpa using Array.mem_of_getElem? ht
        have hall : ([23].all fun u => !Tryd.prog.wantsStandIn u) = true := by kernel_rfl
        exact (show Tryd.prog.wantsStandIn t = false by simpa using List.all_eq_true.1 hall t hm)⟩)
    (by kernel_rfl)
#print axioms fractionText_holds
end Go.Proofs.YtkmlgoklmmbmjaaDoor
