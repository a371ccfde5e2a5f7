/-
  PROVED: for every flag, valid or not, AverageFactor of the program answers as the model's does. Conditions: the table of math/bits holds what the library lays there (the card ties it).
-/
import Derived.Test.YtncbimbbkealmaaDoorKOpen
import Derived.Test.YtncbimbbkealmaaDoorAvZ
import Derived.Test.YtncbimbbkealmaaDoorTie
import Derived.Test.YtncbimbbkealmaaDoorCards
import Derived.SevenTiedAt
namespace Go.Proofs.YtncbimbbkealmaaDoor
open Go.ChangeShapes Go.WideShapes Go.ChangeAt Go.RowKit
set_option maxRecDepth 100000

namespace AverageFactorLaw
set_option maxHeartbeats 4000000 in
theorem walk (k n e : Int) (_hn : (Lit.int .i64 n).wf = true) (he : (Lit.int .u32 e).wf = true) (w : World) (hT : TabZ w) :
    Calls Tryd.prog 4 #[.agg #[.int .i64 k, .int .i64 n, .int .u32 e]] w fun r w' => r = .returned (.bool true) ∧ Below w.heap.size w w' := by
  have bd := bounds_u32 he
  obtain ⟨x, y, c, hs, hi⟩ := afn_both k n e (by omega) bd.1
  have hTw := Lib.hid (fun W (h : Below w.heap.size w W) => hT.below h)
  replace hs := Lib.hid hs
  replace hi := Lib.hid hi
  have hF := Lib.hid (FC.made w k n e 26)
  clear he _hn bd hT
  go_enter Tryd.func4, Tryd.ntmps4
  go_wp2_with fail
  refine (toFlag_any _ _ _ _).mono ?_
  rintro r1 w1 ⟨rfl, hb1⟩
  have k1 := Lib.hid (hF.out.below hb1)
  have hB1 : Below w.heap.size w w1 := by (repeat (first | exact Below.refl _ _ | assumption | refine bchain (by assumption) ?_ | refine balloc ?_ _ | apply Below.drew | apply below_drewN | (refine Below.alloc ?_ (by (try simp) <;> omega) _) | (refine Below.setCell ?_ (by (try simp) <;> omega) _)))
  clear hb1 hF
  go_wp2_with fail
  refine (hs.out _).mono ?_
  rintro r2 w2 ⟨rfl, hb2⟩
  have k2 := Lib.hid (k1.out.below hb2)
  have hB2 : Below w.heap.size w w2 := hB1.trans (hb2.mono hB1.size)
  obtain ⟨f0, f1, f2, f3⟩ := id k2.out
  have kx := Lib.hid (FqB.made w2 x y 28)
  have hBx : Below w.heap.size w (w2.alloc (.cells #[.int .i64 x, .int .i64 y] 28)) := by (repeat (first | exact Below.refl _ _ | assumption | refine bchain (by assumption) ?_ | refine balloc ?_ _ | apply Below.drew | apply below_drewN | (refine Below.alloc ?_ (by (try simp) <;> omega) _) | (refine Below.setCell ?_ (by (try simp) <;> omega) _)))
  clear hb2 k1 hB1
  go_wp2_with fail
  refine (toFlag_any _ _ _ _).mono ?_
  rintro r3 w3 ⟨rfl, hb3⟩
  have k3 := Lib.hid (kx.out.below hb3)
  have hB3 : Below w.heap.size w w3 := hBx.trans (hb3.mono hBx.size)
  obtain ⟨t, ht⟩ : ∃ t, w2.heap.size = t := ⟨_, rfl⟩
  rw [ht] at k3 f0
  clear hb3 kx hBx f0 f1 f2 f3 k2 hB2
  go_wp2_with fail
  refine (hi.out _ (hTw.out _ hB3)).mono ?_
  rintro r4 w4 ⟨rfl, hb4⟩
  obtain ⟨z0, z1, z2, _⟩ := k3.out.below hb4
  have hB4 : Below w.heap.size w w4 := hB3.trans (hb4.mono hB3.size)
  clear hb4 k3 hB3
  go_wp2_with (go_at_call 11; refine (Fr.eqF_any _ _ _).mono ?_; rintro r5 w5 ⟨rfl, hb5⟩)
  go_ret
  exact ⟨rfl, by (repeat (first | exact Below.refl _ _ | assumption | refine bchain (by assumption) ?_ | refine balloc ?_ _ | apply Below.drew | apply below_drewN | (refine Below.alloc ?_ (by (try simp) <;> omega) _) | (refine Below.setCell ?_ (by (try simp) <;> omega) _)))⟩
end AverageFactorLaw
theorem AverageFactorLaw.lifted (os : Os) (started : os.Started) (H : Type) (enc : TypeId × Value → H) :
    ReturnsInHanded {} Tryd.checked os 4 .any (fun w args => (Rows.fnExactAverageFactorSpec.pre enc Tryd.prog Tryd.f4 [] false w args ∧ laidMetH Tryd.prog Rows.fnExactAverageFactorRow.laid w) ∧ sizedMet enc Tryd.prog Tryd.f4 (OpenSpec.ofChange Rows.fnExactAverageFactorSpec) false w args)
      (Rows.fnExactAverageFactorSpec.post enc Tryd.prog Tryd.f4 false true false false) := by
  refine fr_liftC (C := Tryd.checked) (laid := Rows.fnExactAverageFactorRow.laid) own started (by kernel_rfl) Tryd.func4 laid_out (by kernel_rfl) (by kernel_rfl) (tb := 4) rfl Tryd.underlying4 ?hs
    (ChangeSpec.witness_shaped (enc := enc) (C := Tryd.checked) (os := os) (X := fun w _ => laidMetH Tryd.prog Rows.fnExactAverageFactorRow.laid w) false (World.doorLaid Tryd.prog 400 os) #[.agg #[.int .i64 0, .int .i64 0, .int .u32 0]] 8 rfl
      (World.shaped_of_RefB (by kernel_rfl) (by kernel_rfl)) (by kernel_rfl) (by kernel_rfl) (by kernel_rfl) (laidMetH_of_parts3 (fuel := 8) (laidMet_of_run' 8 (by kernel_rfl) (by kernel_rfl)) (by kernel_rfl) (by kernel_rfl))) ?_
  case hs =>
    intro ds gs h h2
    match ds, h, gs, h2 with
    | [d0], _, [], _ => rfl
  intro W base args ds gs p hval0 hA0 hlt hsz hL0
  have hL : laidMet Tryd.prog Rows.fnExactAverageFactorRow.laid W := by rw [← MakeChecks.laidMetH_plain _ _ _ (by kernel_rfl)]; exact hL0
  have hval : ∀ (j : Nat) t v, Tryd.f4.params[j]? = some t → args[j]? = some v → Value.okWide Tryd.prog W .any base t v := hval0
  have hA : DataW.TrodAll enc Tryd.prog W 0 (fun _ => true) true Tryd.f4.params.toList args.toList ds p := hA0
  rw [Tryd.params4] at hA hval
  obtain ⟨v0, vs0, d0, ds0, p0, q0, hargs, rfl, rfl, h0, r0⟩ := trodAll_cons hA
  obtain ⟨rfl, rfl, rfl⟩ := trodAll_nil r0
  obtain rfl : args = #[v0] := by cases args; simp_all
  obtain ⟨k0, a0, b0, rfl, l0, w0, u0⟩ := open_lflag (hval 0 26 v0 rfl rfl) h0
  exact AverageFactorLaw.walk k0 a0 b0 w0 u0 W (tabZ_of_laid hL)

theorem averageFactor_holds_row : Rows.FnExactAverageFactorSaid :=
  OpenClaim.holds_of_wide 4 Tryd.f4 rfl rfl rfl rfl rfl rfl rfl ⟨rfl, rfl, rfl, rfl, rfl⟩ rfl rfl rfl rfl rfl (by kernel_rfl) Tryd.func4 (by kernel_rfl)
    (of_decide_eq_true (by kernel_rfl)) (by unfold Func.isWrapper; rw [if_neg (of_decide_eq_false (by kernel_rfl))]; exact ⟨rfl, rfl⟩)
    (fun os started H enc _ => AverageFactorLaw.lifted os started H enc)
theorem averageFactor_holds : Rows.FnExactAverageFactorCardSaid :=
  Claim7.holds_tied_plain_at .later [] Rows.fnExactAverageFactorCard.laidKinds true Rows.fnExactAverageFactorCard.stood.harness Rows.fnExactAverageFactorCard.stood.looks averageFactor_holds_row (fun _ h => by cases h) (by kernel_rfl) (fun _ h => by cases h) fnExactAverageFactor_row_tie rfl ⟨rfl, rfl⟩ (by kernel_rfl) rfl
    (fun f fn hf hfn => by
      obtain rfl : f = 4 := Option.some.inj ((show Tryd.prog.funcNamed "loop.example/g01169/laws.FnExactAverageFactor" = some 4 by kernel_rfl).symm.trans hf) |>.symm
      obtain rfl : fn = Tryd.f4 := (Option.some.inj (Tryd.func4.symm.trans hfn)).symm
      exact ⟨by kernel_rfl, fun j t ht => by
        rw [Tryd.params4] at ht
        have hm : t ∈ [26] := by simpa using Array.mem_of_getElem? ht
        have hall : ([26].all fun u => !Tryd.prog.wantsStandIn u) = true := by kernel_rfl
        exact (show Tryd.prog.wantsStandIn t = false by simpa using List.all_eq_true.1 hall t hm)⟩)
    (by kernel_rfl)
#print axioms averageFactor_holds
end Go.Proofs.YtncbimbbkealmaaDoor
