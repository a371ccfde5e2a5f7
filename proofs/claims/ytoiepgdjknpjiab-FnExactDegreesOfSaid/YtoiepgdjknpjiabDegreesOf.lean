/-
  PROVED: for every graph, valid or not, DegreesOf of the program answers as the model's does, twice alike, and its list is new memory that may be written. Conditions: none.
-/
import Derived.Test.YtoiepgdjknpjiabOpen
import Derived.Test.YtoiepgdjknpjiabDeg
namespace Go.Proofs.Ytoiepgdjknpjiab
open Go.ChangeShapes Go.WideShapes Go.ChangeAt Go.RowKit
set_option maxRecDepth 100000

namespace DegreesOfLaw
set_option maxHeartbeats 1000000 in
theorem walk (n e : Int) (_hn : (Lit.int .i64 n).wf = true) (he : (Lit.int .u32 e).wf = true) (w : World) :
    Calls Try.prog 9 #[.agg #[.int .i64 n, .int .u32 e]] w fun r w' => r = .returned (.bool true) ∧ Below w.heap.size w w' := by
  have bd := bounds_u32 he
  obtain ⟨l, f, c, hl, hs, hi⟩ := deg_both n e (by omega) bd.1
  replace hs := Lib.hid hs
  replace hi := Lib.hid hi
  have hE := Lib.hid (fun W u v (h : SlI W u (lst l f)) (h' : SlI W v (lst l f)) => eqI_any W u v (lst l f) h h' (by rw [lst_length]; omega))
  clear he _hn bd
  go_enter Try.func9, Try.ntmps9
  go_wp2_with fail
  refine (toGraph_any _ n e).mono ?_
  rintro r1 w1 ⟨rfl, hb1⟩
  obtain ⟨hc1_0, hz1_0⟩ := bkeep hb1 (w.heap.size) (by (try simp) <;> omega)
  go_wp2_with fail
  refine (hs.out _).mono ?_
  rintro r2 w2 ⟨⟨u, rfl, hU⟩, hb2⟩
  obtain ⟨hc2, hz2⟩ := bkeep hb2 (w.heap.size) (by (try simp) <;> omega)
  replace hU := Lib.hid hU.sl
  go_wp2_with fail
  refine (toGraph_any _ n e).mono ?_
  rintro r3 w3 ⟨rfl, hb3⟩
  obtain ⟨hc3_0, hz3_0⟩ := bkeep hb3 (w.heap.size) (by (try simp) <;> omega)
  go_wp2_with fail
  refine (hi.out _).mono ?_
  rintro r4 w4 ⟨⟨v, rfl, hV⟩, hb4⟩
  obtain ⟨hc4, hz4⟩ := bkeep hb4 (w.heap.size) (by (try simp) <;> omega)
  have hU4 := Lib.hid ((hU.out.below hb3).below hb4)
  have hU3 := Lib.hid (hU.out.below hb3)
  replace hV := Lib.hid hV
  go_wp2_with fail
  refine (hE.out _ _ _ hV.out.sl hU4.out).mono ?_
  rintro r5 w5 ⟨rfl, hb5⟩
  obtain ⟨hc5, hz5⟩ := bkeep hb5 (w.heap.size) (by (try simp) <;> omega)
  have hV5 := Lib.hid (hV.out.below hb5)
  have hb35 : Below w3.heap.size w3 w5 := hb4.trans (hb5.mono hb4.size)
  go_wp2_with fail
  refine (markI_any w5 w3 hb35 v l 1 f (by omega) (by omega) hV5.out).mono ?_
  rintro r6 w6 ⟨rfl, hb6, hV6⟩
  have hb36 : Below w3.heap.size w3 w6 := hb35.trans hb6
  have hB6 : Below w.heap.size w w6 := (show Below w.heap.size w w3 by (repeat (first | exact Below.refl _ _ | assumption | refine bchain (by assumption) ?_ | refine balloc ?_ _ | apply Below.drew | apply below_drewN | (refine Below.alloc ?_ (by (try simp) <;> omega) _) | (refine Below.setCell ?_ (by (try simp) <;> omega) _)))).trans (hb36.mono (by omega))
  have hc6 : ∀ o, w6.cell? ⟨w.heap.size, o, none⟩ = w5.cell? ⟨w.heap.size, o, none⟩ := fun o => hb6.cell (p := ⟨w.heap.size, o, none⟩) hz3_0
  have hz6 : w.heap.size < w6.heap.size := by have := hb36.size; omega
  have hU6 := Lib.hid (hU3.out.below hb36)
  replace hV6 := Lib.hid hV6
  obtain ⟨m, hm⟩ : ∃ m : Nat, 1 + l = m := ⟨_, rfl⟩
  have hH := Lib.hid (fun W (h : OwnI w3 W v l (fun i => ((1 + i : Nat) : Int))) => heldI_any W w3 v l 1 (by omega) (by omega) h)
  rw [hm] at hH ⊢
  have hmm : m ≤ 6 := by omega
  clear hm
  go_wp2_with fail
  refine (hH.out _ hV6.out).mono ?_
  rintro r7 w7 ⟨rfl, hb7⟩
  obtain ⟨hc7, hz7⟩ := bkeep hb7 (w.heap.size) hz6
  go_wp2_with fail
  refine (toGraph_any _ n e).mono ?_
  rintro r8 w8 ⟨rfl, hb8⟩
  obtain ⟨hc8_0, hz8_0⟩ := bkeep hb8 (w.heap.size) (by (try simp) <;> omega)
  go_wp2_with fail
  refine (hi.out _).mono ?_
  rintro r9 w9 ⟨⟨x, rfl, hX⟩, hb9⟩
  have hU9 := Lib.hid (((hU6.out.below hb7).below hb8).below hb9)
  replace hX := Lib.hid hX
  go_wp2_with fail
  refine (hE.out _ _ _ hX.out.sl hU9.out).mono ?_
  rintro r10 w10 ⟨rfl, hb10⟩
  have hV10 := Lib.hid ((((hV6.out.below hb7).below hb8).below hb9).below hb10)
  go_wp2_with fail
  refine (hH.out _ hV10.out).mono ?_
  rintro r11 w11 ⟨rfl, hb11⟩
  go_wp2
  go_ret
  exact ⟨rfl, by (repeat (first | exact Below.refl _ _ | assumption | refine bchain (by assumption) ?_ | refine balloc ?_ _ | apply Below.drew | apply below_drewN | (refine Below.alloc ?_ (by (try simp) <;> omega) _) | (refine Below.setCell ?_ (by (try simp) <;> omega) _)))⟩
end DegreesOfLaw
theorem DegreesOfLaw.lifted (os : Os) (started : os.Started) (H : Type) (enc : TypeId × Value → H) :
    ReturnsInHanded {} Try.checked os 9 .any (Rows.fnExactDegreesOfSpec.pre6 enc Try.prog Try.f9 Rows.fnExactDegreesOfRow.domain false)
      (Rows.fnExactDegreesOfSpec.post enc Try.prog Try.f9 false true false false) := by
  refine fr_lift (C := Try.checked) own started (by kernel_rfl) Try.func9 laid_out rfl (by kernel_rfl) (tb := 4) rfl Try.underlying4 ?hs
    (ChangeSpec.witness6 (enc := enc) (C := Try.checked) false ⟨#[], #[.agg #[.int .i64 0, .int .u32 0]], []⟩ 8 (by kernel_rfl) (by kernel_rfl) (by kernel_rfl) (by kernel_rfl)) ?_
  case hs =>
    intro ds h
    match ds, h with
    | [d0], _ => rfl
  intro W base args ds p hval0 hA0 hlt hsz
  have hval : ∀ (j : Nat) t v, Try.f9.params[j]? = some t → args[j]? = some v → Value.okWide Try.prog W .any base t v := hval0
  have hA : DataW.TrodAll enc Try.prog W 0 (fun _ => true) true Try.f9.params.toList args.toList ds p := hA0
  rw [Try.params9] at hA hval
  obtain ⟨v0, vs0, d0, ds0, p0, q0, hargs, rfl, rfl, h0, r0⟩ := trodAll_cons hA
  obtain ⟨rfl, rfl, rfl⟩ := trodAll_nil r0
  obtain rfl : args = #[v0] := by cases args; simp_all
  obtain ⟨a0, b0, rfl, w0, u0⟩ := open_lgraph (hval 0 24 v0 rfl rfl) h0
  exact DegreesOfLaw.walk a0 b0 w0 u0 W

theorem deg_holds : Rows.FnExactDegreesOfSaid :=
  OpenClaim.holds_of_wide 9 Try.f9 rfl rfl rfl rfl rfl rfl rfl ⟨rfl, rfl, rfl, rfl, rfl⟩ rfl rfl rfl rfl rfl (by kernel_rfl) Try.func9 (by kernel_rfl)
    (of_decide_eq_true (by kernel_rfl)) (by unfold Func.isWrapper; rw [if_neg (of_decide_eq_false (by kernel_rfl))]; exact ⟨rfl, rfl⟩)
    (fun os started H enc _ => DegreesOfLaw.lifted os started H enc)
#print axioms deg_holds
end Go.Proofs.Ytoiepgdjknpjiab
