/-
  PROVED: for every graph, valid or not, PairsOf of the program answers as the model's does, twice alike, and its list is new memory that may be written. Conditions: none.
-/
import Derived.Test.YtoiepgdjknpjiabOpen
import Derived.Test.YtoiepgdjknpjiabPrsL
import Derived.Test.YtoiepgdjknpjiabPrsS
namespace Go.Proofs.Ytoiepgdjknpjiab
open Go.ChangeShapes Go.WideShapes Go.ChangeAt Go.RowKit
set_option maxRecDepth 100000

namespace PairsOfLaw
set_option maxHeartbeats 1000000 in
theorem walk (n e : Int) (_hn : (Lit.int .i64 n).wf = true) (he : (Lit.int .u32 e).wf = true) (w : World) :
    Calls Try.prog 3 #[.agg #[.int .i64 n, .int .u32 e]] w fun r w' => r = .returned (.bool true) ∧ Below w.heap.size w w' := by
  have bd := bounds_u32 he
  obtain ⟨l, f, c, hl, hs, hi⟩ := po_both n e (by omega) bd.1
  replace hs := Lib.hid hs
  replace hi := Lib.hid hi
  have hE := Lib.hid (fun W w0 w0' u v (h : OwnA w0 W u l f) (h' : OwnA w0' W v l f) => eqA_any W w0 w0' u v l f h h' (by omega))
  clear he _hn bd
  go_enter Try.func3, Try.ntmps3
  go_wp2_with fail
  refine (toGraph_any _ n e).mono ?_
  rintro r1 w1 ⟨rfl, hb1⟩
  obtain ⟨hc1_0, hz1_0⟩ := bkeep hb1 (w.heap.size) (by (try simp) <;> omega)
  go_wp2_with fail
  refine (hs.out _).mono ?_
  rintro r2 w2 ⟨⟨u, rfl, hU⟩, hb2⟩
  obtain ⟨hc2, hz2⟩ := bkeep hb2 (w.heap.size) (by (try simp) <;> omega)
  replace hU := Lib.hid hU
  go_wp2_with fail
  refine (toGraph_any _ n e).mono ?_
  rintro r3 w3 ⟨rfl, hb3⟩
  obtain ⟨hc3_0, hz3_0⟩ := bkeep hb3 (w.heap.size) (by (try simp) <;> omega)
  go_wp2_with fail
  refine (hi.out _).mono ?_
  rintro r4 w4 ⟨⟨v, rfl, hV⟩, hb4⟩
  obtain ⟨hc4, hz4⟩ := bkeep hb4 (w.heap.size) (by (try simp) <;> omega)
  have hU4 := Lib.hid ((hU.out.below hb3).below hb4)
  have hU3 := Lib.hid (hU.out.below hb3)
  replace hV := Lib.hid hV
  go_wp2_with fail
  refine (hE.out _ _ _ _ _ hV.out hU4.out).mono ?_
  rintro r5 w5 ⟨rfl, hb5⟩
  obtain ⟨hc5, hz5⟩ := bkeep hb5 (w.heap.size) (by (try simp) <;> omega)
  have hV5 := Lib.hid (hV.out.below hb5)
  have hb35 : Below w3.heap.size w3 w5 := hb4.trans (hb5.mono hb4.size)
  go_wp2_with fail
  refine (markA_any w5 w3 hb35 v l 1 f (by omega) (by omega) hV5.out).mono ?_
  rintro r6 w6 ⟨rfl, hb6, hV6⟩
  have hb36 : Below w3.heap.size w3 w6 := hb35.trans hb6
  have hB6 : Below w.heap.size w w6 := (show Below w.heap.size w w3 by (repeat (first | exact Below.refl _ _ | assumption | refine bchain (by assumption) ?_ | refine balloc ?_ _ | apply Below.drew | apply below_drewN | (refine Below.alloc ?_ (by (try simp) <;> omega) _) | (refine Below.setCell ?_ (by (try simp) <;> omega) _)))).trans (hb36.mono (by omega))
  have hc6 : ∀ o, w6.cell? ⟨w.heap.size, o, none⟩ = w5.cell? ⟨w.heap.size, o, none⟩ := fun o => hb6.cell (p := ⟨w.heap.size, o, none⟩) hz3_0
  have hz6 : w.heap.size < w6.heap.size := by have := hb36.size; omega
  have hU6 := Lib.hid (hU3.out.below hb36)
  replace hV6 := Lib.hid hV6
  obtain ⟨m, hm⟩ : ∃ m : Nat, 1 + 2 * l = m := ⟨_, rfl⟩
  have hH := Lib.hid (fun W (h : OwnA w3 W v l (mk2 1)) => heldA_any W w3 v l 1 (by omega) (by omega) h)
  rw [hm] at hH ⊢
  have hmm : m ≤ 1000 := by omega
  clear hm
  go_wp2_with fail
  refine (hH.out _ hV6.out).mono ?_
  rintro r7 w7 ⟨rfl, hb7⟩
  obtain ⟨hc7, hz7⟩ := bkeep hb7 (w.heap.size) hz6
  go_wp2_with fail
  refine (toGraph_any _ n e).mono ?_
  rintro r8 w8 ⟨rfl, hb8⟩
  obtain ⟨hc8_0, hz8_0⟩ := bkeep hb8 (w.heap.size) (by (try simp) <;> omega)
  go_wp2_with fail
  refine (hi.out _).mono ?_
  rintro r9 w9 ⟨⟨x, rfl, hX⟩, hb9⟩
  have hU9 := Lib.hid (((hU6.out.below hb7).below hb8).below hb9)
  replace hX := Lib.hid hX
  go_wp2_with fail
  refine (hE.out _ _ _ _ _ hX.out hU9.out).mono ?_
  rintro r10 w10 ⟨rfl, hb10⟩
  have hV10 := Lib.hid ((((hV6.out.below hb7).below hb8).below hb9).below hb10)
  go_wp2_with fail
  refine (hH.out _ hV10.out).mono ?_
  rintro r11 w11 ⟨rfl, hb11⟩
  go_wp2
  go_ret
  exact ⟨rfl, by (repeat (first | exact Below.refl _ _ | assumption | refine bchain (by assumption) ?_ | refine balloc ?_ _ | apply Below.drew | apply below_drewN | (refine Below.alloc ?_ (by (try simp) <;> omega) _) | (refine Below.setCell ?_ (by (try simp) <;> omega) _)))⟩
end PairsOfLaw
theorem PairsOfLaw.lifted (os : Os) (started : os.Started) (H : Type) (enc : TypeId × Value → H) :
    ReturnsInHanded {} Try.checked os 3 .any (Rows.fnExactPairsOfSpec.pre6 enc Try.prog Try.f3 Rows.fnExactPairsOfRow.domain false)
      (Rows.fnExactPairsOfSpec.post enc Try.prog Try.f3 false true false false) := by
  refine fr_lift (C := Try.checked) own started (by kernel_rfl) Try.func3 laid_out rfl (by kernel_rfl) (tb := 4) rfl Try.underlying4 ?hs
    (ChangeSpec.witness6 (enc := enc) (C := Try.checked) false ⟨#[], #[.agg #[.int .i64 0, .int .u32 0]], []⟩ 8 (by kernel_rfl) (by kernel_rfl) (by kernel_rfl) (by kernel_rfl)) ?_
  case hs =>
    intro ds h
    match ds, h with
    | [d0], _ => rfl
  intro W base args ds p hval0 hA0 hlt hsz
  have hval : ∀ (j : Nat) t v, Try.f3.params[j]? = some t → args[j]? = some v → Value.okWide Try.prog W .any base t v := hval0
  have hA : DataW.TrodAll enc Try.prog W 0 (fun _ => true) true Try.f3.params.toList args.toList ds p := hA0
  rw [Try.params3] at hA hval
  obtain ⟨v0, vs0, d0, ds0, p0, q0, hargs, rfl, rfl, h0, r0⟩ := trodAll_cons hA
  obtain ⟨rfl, rfl, rfl⟩ := trodAll_nil r0
  obtain rfl : args = #[v0] := by cases args; simp_all
  obtain ⟨a0, b0, rfl, w0, u0⟩ := open_lgraph (hval 0 24 v0 rfl rfl) h0
  exact PairsOfLaw.walk a0 b0 w0 u0 W

theorem po_holds : Rows.FnExactPairsOfSaid :=
  OpenClaim.holds_of_wide 3 Try.f3 rfl rfl rfl rfl rfl rfl rfl ⟨rfl, rfl, rfl, rfl, rfl⟩ rfl rfl rfl rfl rfl (by kernel_rfl) Try.func3 (by kernel_rfl)
    (of_decide_eq_true (by kernel_rfl)) (by unfold Func.isWrapper; rw [if_neg (of_decide_eq_false (by kernel_rfl))]; exact ⟨rfl, rfl⟩)
    (fun os started H enc _ => PairsOfLaw.lifted os started H enc)
#print axioms po_holds
end Go.Proofs.Ytoiepgdjknpjiab
