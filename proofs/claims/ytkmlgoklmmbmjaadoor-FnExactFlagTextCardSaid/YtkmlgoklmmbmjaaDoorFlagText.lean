/-
  PROVED: for every flag, valid or not, FlagText of the program answers as the model's does, and the argument reads as before. Condition: the tables of the library hold what the program's text lays there (the card ties them).
-/
import Derived.Test.YtkmlgoklmmbmjaaDoorFtx
import Derived.Test.YtkmlgoklmmbmjaaDoorKOpen
import Derived.Test.YtkmlgoklmmbmjaaDoorTie
import Derived.Test.YtkmlgoklmmbmjaaDoorCards
import Derived.SevenTiedAt
namespace Go.Proofs.YtkmlgoklmmbmjaaDoor
open Go.ChangeShapes Go.WideShapes Go.ChangeAt Go.RowKit
set_option maxRecDepth 100000

namespace FlagTextLaw
theorem both (k n e : Int) (hn : e < 4294967296) (he : 0 ≤ e) : ∃ s : ByteArray, (∀ W, Calls Tryd.prog 21 #[.agg #[.int .i64 k, .int .i64 n, .int .u32 e]] W fun r w' => r = .returned (.string s) ∧ Below W.heap.size W w') ∧
    (∀ W, TabP W → Calls Tryd.prog 23 #[.agg #[.int .i64 k, .int .i64 n, .int .u32 e]] W fun r w' => r = .returned (.string s) ∧ Below W.heap.size W w') := by
  by_cases h : VK k n e
  · obtain ⟨n', rfl⟩ : ∃ x : Nat, n = x := ⟨n.toNat, by have := h.1.1; omega⟩
    obtain ⟨e', rfl⟩ : ∃ x : Nat, e = x := ⟨e.toNat, by omega⟩
    obtain ⟨k', rfl⟩ : ∃ x : Nat, k = x := ⟨k.toNat, by have := h.2.1; omega⟩
    exact ⟨_, fun W => skt_t W k' n' e' h, fun W hP => ikt_t W k' n' e' h hP⟩
  · exact ⟨_, fun W => skt_f W k n e hn he h, fun W _ => ikt_f W k n e hn he h⟩
theorem walk (k n e : Int) (_hn : (Lit.int .i64 n).wf = true) (he : (Lit.int .u32 e).wf = true) (w : World) (hw : TabP w) :
    Calls Tryd.prog 7 #[.agg #[.int .i64 k, .int .i64 n, .int .u32 e]] w fun r w' => r = .returned (.bool true) ∧ Below w.heap.size w w' := by
  have bd := bounds_u32 he
  obtain ⟨R, hs, hi⟩ := both k n e (by omega) bd.1
  replace hs := Lib.hid hs
  replace hi := Lib.hid (fun W (h : Below w.heap.size w W) => hi W (hw.below h))
  clear he _hn bd hw
  go_enter Tryd.func7, Tryd.ntmps7
  go_wp2_with fail
  refine (toFlag_any _ k n e).mono ?_
  rintro r1 w1 ⟨rfl, hb1⟩
  obtain ⟨hc1_0, hz1_0⟩ := bkeep hb1 (w.heap.size) (by (try simp) <;> omega)
  go_wp2_with fail
  refine (hs.out _).mono ?_
  rintro r2 w2 ⟨rfl, hb2⟩
  obtain ⟨hc2_0, hz2_0⟩ := bkeep hb2 (w.heap.size) (by (try simp) <;> omega)
  go_wp2_with fail
  refine (toFlag_any _ k n e).mono ?_
  rintro r3 w3 ⟨rfl, hb3⟩
  obtain ⟨hc3_0, hz3_0⟩ := bkeep hb3 (w.heap.size) (by (try simp) <;> omega)
  go_wp2_with fail
  refine (hi.out _ (by (repeat (first | exact Below.refl _ _ | assumption | refine bchain (by assumption) ?_ | refine balloc ?_ _ | apply Below.drew | apply below_drewN | (refine Below.alloc ?_ (by (try simp) <;> omega) _) | (refine Below.setCell ?_ (by (try simp) <;> omega) _))))).mono ?_
  rintro r4 w4 ⟨rfl, hb4⟩
  go_wp2
  go_ret
  exact ⟨rfl, by (repeat (first | exact Below.refl _ _ | assumption | refine bchain (by assumption) ?_ | refine balloc ?_ _ | apply Below.drew | apply below_drewN | (refine Below.alloc ?_ (by (try simp) <;> omega) _) | (refine Below.setCell ?_ (by (try simp) <;> omega) _)))⟩
end FlagTextLaw
theorem FlagTextLaw.lifted (os : Os) (started : os.Started) (H : Type) (enc : TypeId × Value → H) :
    ReturnsInHanded {} Tryd.checked os 7 .any (fun w args => (Rows.fnExactFlagTextSpec.pre enc Tryd.prog Tryd.f7 [] false w args ∧ laidMetH Tryd.prog Rows.fnExactFlagTextRow.laid w) ∧ sizedMet enc Tryd.prog Tryd.f7 (OpenSpec.ofChange Rows.fnExactFlagTextSpec) false w args)
      (Rows.fnExactFlagTextSpec.post enc Tryd.prog Tryd.f7 false true false false) := by
  refine fr_liftC (C := Tryd.checked) (laid := Rows.fnExactFlagTextRow.laid) own started (by kernel_rfl) Tryd.func7 laid_out (by kernel_rfl) (by kernel_rfl) (tb := 4) rfl Tryd.underlying4 ?hs
    (ChangeSpec.witness_shaped (enc := enc) (C := Tryd.checked) (os := os) (X := fun w _ => laidMetH Tryd.prog Rows.fnExactFlagTextRow.laid w) false (World.doorLaid Tryd.prog 400 os) #[.agg #[.int .i64 0, .int .i64 0, .int .u32 0]] 8 rfl
      (World.shaped_of_RefB (by kernel_rfl) (by kernel_rfl)) (by kernel_rfl) (by kernel_rfl) (by kernel_rfl) (laidMetH_of_parts3 (fuel := 8) (laidMet_of_run' 8 (by kernel_rfl) (by kernel_rfl)) (by kernel_rfl) (by kernel_rfl))) ?_
  case hs =>
    intro ds gs h h2
    match ds, h, gs, h2 with
    | [d0], _, [], _ => rfl
  intro W base args ds gs p hval0 hA0 hlt hsz hL0
  have hL : laidMet Tryd.prog Rows.fnExactFlagTextRow.laid W := by rw [← MakeChecks.laidMetH_plain _ _ _ (by kernel_rfl)]; exact hL0
  have hval : ∀ (j : Nat) t v, Tryd.f7.params[j]? = some t → args[j]? = some v → Value.okWide Tryd.prog W .any base t v := hval0
  have hA : DataW.TrodAll enc Tryd.prog W 0 (fun _ => true) true Tryd.f7.params.toList args.toList ds p := hA0
  rw [Tryd.params7] at hA hval
  obtain ⟨v0, vs0, d0, ds0, p0, q0, hargs, rfl, rfl, h0, r0⟩ := trodAll_cons hA
  obtain ⟨rfl, rfl, rfl⟩ := trodAll_nil r0
  obtain rfl : args = #[v0] := by cases args; simp_all
  obtain ⟨k0, a0, b0, rfl, l0, w0, u0⟩ := open_lflag (hval 0 43 v0 rfl rfl) h0
  exact FlagTextLaw.walk k0 a0 b0 w0 u0 W (tabP_of_laid (laidMet.tail (laidMet.tail hL)))

theorem flagText_holds_row : Rows.FnExactFlagTextSaid :=
  OpenClaim.holds_of_wide 7 Tryd.f7 rfl rfl rfl rfl rfl rfl rfl ⟨rfl, rfl, rfl, rfl, rfl⟩ rfl rfl rfl rfl rfl (by kernel_rfl) Tryd.func7 (by kernel_rfl)
    (of_decide_eq_true (by kernel_rfl)) (by unfold Func.isWrapper; rw [if_neg (of_decide_eq_false (by kernel_rfl))]; exact ⟨rfl, rfl⟩)
    (fun os started H enc _ => FlagTextLaw.lifted os started H enc)
theorem flagText_holds : Rows.FnExactFlagTextCardSaid :=
  Claim7.holds_tied_plain_at .later [] Rows.fnExactFlagTextCard.laidKinds true Rows.fnExactFlagTextCard.stood.harness Rows.fnExactFlagTextCard.stood.looks flagText_holds_row (fun _ h => by cases h) (by kernel_rfl) (fun _ h => by cases h) fnExactFlagText_row_tie rfl ⟨rfl, rfl⟩ (by kernel_rfl) rfl
    (fun f fn hf hfn => by
      obtain rfl : f = 7 := Option.some.inj ((show Tryd.prog.funcNamed "loop.example/g01169/laws.FnExactFlagText" = some 7 by kernel_rfl).symm.trans hf) |>.symm
      obtain rfl : fn = Tryd.f7 := (Option.some.inj (Tryd.func7.symm.trans hfn)).symm
      exact ⟨by kernel_rfl, fun j t ht => by
        rw [Tryd.params7] at ht
        have hm : t ∈ [43] := by simpa using Array.mem_of_getElem? ht
        have hall : ([43].all fun u => !Tryd.prog.wantsStandIn u) = true := by kernel_rfl
        exact (show Tryd.prog.wantsStandIn t = false by simpa using List.all_eq_true.1 hall t hm)⟩)
    (by kernel_rfl)
#print axioms flagText_holds
end Go.Proofs.YtkmlgoklmmbmjaaDoor
