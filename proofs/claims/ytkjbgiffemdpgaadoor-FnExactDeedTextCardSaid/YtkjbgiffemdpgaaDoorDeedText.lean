/-
  PROVED: for every deed, DeedText of the program answers as the model's does, and the argument reads as before. Condition: the tables of the library and of the deeds' words hold what the program's text lays there (the card ties them).
-/
import Derived.Test.YtkjbgiffemdpgaaDoorDtS
import Derived.Test.YtkjbgiffemdpgaaDoorTie
import Derived.Test.YtkjbgiffemdpgaaDoorCards
import Derived.SevenTiedAt
namespace Go.Proofs.YtkjbgiffemdpgaaDoor
open Go.ChangeShapes Go.WideShapes Go.ChangeAt Go.RowKit
set_option maxRecDepth 100000

namespace DeedTextLaw
theorem both (k a b : Int) : ∃ s : ByteArray, (∀ W, Calls Tryd.prog 9 #[.agg #[.int .i64 k, .int .i64 a, .int .i64 b]] W fun r w' => r = .returned (.string s) ∧ Below W.heap.size W w') ∧
    (∀ W, Words W → TabP W → Calls Tryd.prog 10 #[.agg #[.int .i64 k, .int .i64 a, .int .i64 b]] W fun r w' => r = .returned (.string s) ∧ Below W.heap.size W w') := by
  by_cases h : VD k a b
  · obtain ⟨k', rfl⟩ : ∃ n : Nat, k = n := ⟨k.toNat, by have := h.1; omega⟩
    obtain ⟨a', rfl⟩ : ∃ n : Nat, a = n := ⟨a.toNat, by have := h.2.2.1; omega⟩
    obtain ⟨b', rfl⟩ : ∃ n : Nat, b = n := ⟨b.toNat, by have := h.2.2.2.2.1; omega⟩
    exact ⟨_, fun W => sdt_t W k' a' b' h, fun W hw hP => idt_t W k' a' b' hw hP h⟩
  · exact ⟨_, fun W => sdt_f W k a b h, fun W hw _ => idt_f W k a b hw h⟩
theorem walk (k a b : Int) (w : World) (hw : Words w ∧ TabP w) :
    Calls Tryd.prog 4 #[.agg #[.int .i64 k, .int .i64 a, .int .i64 b]] w fun e w' => e = .returned (.bool true) ∧ Below w.heap.size w w' := by
  obtain ⟨R, hs, hi⟩ := both k a b
  replace hs := Lib.hid hs
  replace hi := Lib.hid (fun W (h : Below w.heap.size w W) => hi W (hw.1.below h) (hw.2.below h))
  have ht := Lib.hid (fun W => toDeed_any W k a b)
  clear hw
  go_enter Tryd.func4, Tryd.ntmps4
  go_wp2_with fail
  refine (ht.out _).mono ?_
  rintro r1 w1 ⟨rfl, hb1⟩
  go_wp2_with fail
  refine (hs.out _).mono ?_
  rintro r2 w2 ⟨rfl, hb2⟩
  have k0 := (hb2.cell (p := ⟨w.heap.size, 0, none⟩) (by have := hb1.size; simp at this; show w.heap.size < _; omega)).trans ((hb1.cell (p := ⟨w.heap.size, 0, none⟩) (by simp)).trans (World.cell?_alloc_new _ _ _ _))
  have k1 := (hb2.cell (p := ⟨w.heap.size, 1, none⟩) (by have := hb1.size; simp at this; show w.heap.size < _; omega)).trans ((hb1.cell (p := ⟨w.heap.size, 1, none⟩) (by simp)).trans (World.cell?_alloc_new _ _ _ _))
  have k2 := (hb2.cell (p := ⟨w.heap.size, 2, none⟩) (by have := hb1.size; simp at this; show w.heap.size < _; omega)).trans ((hb1.cell (p := ⟨w.heap.size, 2, none⟩) (by simp)).trans (World.cell?_alloc_new _ _ _ _))
  simp at k0 k1 k2
  have hB2 : Below w.heap.size w w2 := by (repeat (first | exact Below.refl _ _ | assumption | refine bchain (by assumption) ?_ | refine balloc ?_ _ | apply Below.drew | apply below_drewN | (refine Below.alloc ?_ (by (try simp) <;> omega) _) | (refine Below.setCell ?_ (by (try simp) <;> omega) _)))
  clear hb1 hb2
  go_wp2_with fail
  refine (ht.out _).mono ?_
  rintro r3 w3 ⟨rfl, hb3⟩
  go_wp2_with fail
  refine (hi.out _ (by (repeat (first | exact Below.refl _ _ | assumption | refine bchain (by assumption) ?_ | refine balloc ?_ _ | apply Below.drew | apply below_drewN | (refine Below.alloc ?_ (by (try simp) <;> omega) _) | (refine Below.setCell ?_ (by (try simp) <;> omega) _))))).mono ?_
  rintro r4 w4 ⟨rfl, hb4⟩
  go_wp2
  go_ret
  exact ⟨rfl, by (repeat (first | exact Below.refl _ _ | assumption | refine bchain (by assumption) ?_ | refine balloc ?_ _ | apply Below.drew | apply below_drewN | (refine Below.alloc ?_ (by (try simp) <;> omega) _) | (refine Below.setCell ?_ (by (try simp) <;> omega) _)))⟩
end DeedTextLaw
theorem DeedTextLaw.lifted (os : Os) (started : os.Started) (H : Type) (enc : TypeId × Value → H) :
    ReturnsInHanded {} Tryd.checked os 4 .any (fun w args => (Rows.fnExactDeedTextSpec.pre enc Tryd.prog Tryd.f4 [] false w args ∧ laidMetH Tryd.prog Rows.fnExactDeedTextRow.laid w) ∧ sizedMet enc Tryd.prog Tryd.f4 (OpenSpec.ofChange Rows.fnExactDeedTextSpec) false w args)
      (Rows.fnExactDeedTextSpec.post enc Tryd.prog Tryd.f4 false true false false) := by
  refine fr_liftC (C := Tryd.checked) (laid := Rows.fnExactDeedTextRow.laid) own started (by kernel_rfl) Tryd.func4 laid_out (by kernel_rfl) (by kernel_rfl) (tb := 4) rfl Tryd.underlying4 ?hs
    (ChangeSpec.witness_shaped (enc := enc) (C := Tryd.checked) (os := os) (X := fun w _ => laidMetH Tryd.prog Rows.fnExactDeedTextRow.laid w) false (World.doorLaid Tryd.prog 400 os) #[.agg #[.int .i64 0, .int .i64 0, .int .i64 0]] 8 rfl
      (World.shaped_of_RefB (by kernel_rfl) (by kernel_rfl)) (by kernel_rfl) (by kernel_rfl) (by kernel_rfl) (laidMetH_of_parts3 (fuel := 8) (laidMet_of_run' 8 (by kernel_rfl) (by kernel_rfl)) (by kernel_rfl) (by kernel_rfl))) ?_
  case hs =>
    intro ds gs h h2
    match ds, h, gs, h2 with
    | [d0], _, [g0], _ => rfl
  intro W base args ds gs p hval0 hA0 hlt hsz hL0
  have hL : laidMet Tryd.prog Rows.fnExactDeedTextRow.laid W := by rw [← MakeChecks.laidMetH_plain _ _ _ (by kernel_rfl)]; exact hL0
  have hval : ∀ (j : Nat) t v, Tryd.f4.params[j]? = some t → args[j]? = some v → Value.okWide Tryd.prog W .any base t v := hval0
  have hA : DataW.TrodAll enc Tryd.prog W 0 (fun _ => true) true Tryd.f4.params.toList args.toList ds p := hA0
  rw [Tryd.params4] at hA hval
  obtain ⟨v0, vs0, d0, ds0, p0, q0, hargs, rfl, rfl, h0, r0⟩ := trodAll_cons hA
  obtain ⟨rfl, rfl, rfl⟩ := trodAll_nil r0
  obtain rfl : args = #[v0] := by cases args; simp_all
  obtain ⟨k0, a0, b0, rfl⟩ := open_ldeed (hval 0 23 v0 rfl rfl) h0
  exact DeedTextLaw.walk k0 a0 b0 W (⟨words_of_laid (laidMet.tail (laidMet.tail (laidMet.tail hL))), tabP_of_laid (laidMet.tail (laidMet.tail hL))⟩)

theorem deedText_holds_row : Rows.FnExactDeedTextSaid :=
  OpenClaim.holds_of_wide 4 Tryd.f4 rfl rfl rfl rfl rfl rfl rfl ⟨rfl, rfl, rfl, rfl, rfl⟩ rfl rfl rfl rfl rfl (by kernel_rfl) Tryd.func4 (by kernel_rfl)
    (of_decide_eq_true (by kernel_rfl)) (by unfold Func.isWrapper; rw [if_neg (of_decide_eq_false (by kernel_rfl))]; exact ⟨rfl, rfl⟩)
    (fun os started H enc _ => DeedTextLaw.lifted os started H enc)
theorem deedText_holds : Rows.FnExactDeedTextCardSaid :=
  Claim7.holds_tied_plain_at .later [] Rows.fnExactDeedTextCard.laidKinds true Rows.fnExactDeedTextCard.stood.harness Rows.fnExactDeedTextCard.stood.looks deedText_holds_row (fun _ h => by cases h) (by kernel_rfl) (fun _ h => by cases h) fnExactDeedText_row_tie rfl ⟨rfl, rfl⟩ (by kernel_rfl) rfl
    (fun f fn hf hfn => by
      obtain rfl : f = 4 := Option.some.inj ((show Tryd.prog.funcNamed "loop.example/g01169/laws.FnExactDeedText" = some 4 by kernel_rfl).symm.trans hf) |>.symm
      obtain rfl : fn = Tryd.f4 := (Option.some.inj (Tryd.func4.symm.trans hfn)).symm
      exact ⟨by kernel_rfl, fun j t ht => by
        rw [Tryd.params4] at ht
        have hm : t ∈ [23] := by simpa using Array.mem_of_getElem? ht
        have hall : ([23].all fun u => !Tryd.prog.wantsStandIn u) = true := by kernel_rfl
        exact (show Tryd.prog.wantsStandIn t = false by simpa using List.all_eq_true.1 hall t hm)⟩)
    (by kernel_rfl)
#print axioms deedText_holds
end Go.Proofs.YtkjbgiffemdpgaaDoor
