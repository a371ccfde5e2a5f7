/-
  PROVED: for every graph, valid or not, and every list of numbers, RenameGraph of the program answers as the model's does, and its list is left as it was. Conditions: none.
-/
import Derived.Test.YtoiepgdjknpjiabOpen
import Derived.Test.YtoiepgdjknpjiabRen
import Derived.Test.YtoiepgdjknpjiabMade
namespace Go.Proofs.Ytoiepgdjknpjiab
open Go.ChangeShapes Go.WideShapes Go.ChangeAt Go.RowKit
set_option maxRecDepth 100000

theorem cells_i64 : Try.prog.cellsOf 2 = 1 := by kernel_rfl
theorem open_i64s {H : Type} {enc : TypeId × Value → H} {W : World} {base : Nat} {v : Value} {d : DataW H} {p : List MemPlace} (hv : Value.okWide Try.prog W .any base 38 v) (h : DataW.Trod enc Try.prog W 0 (fun _ => true) true 38 v d p) :
    ∃ zs : List Int, SlI W v zs := by
  obtain ⟨a0, len, cap, rfl⟩ := okWide_slice Try.underlying38 hv
  obtain ⟨fuel, hf⟩ := h
  rcases open_ints Try.underlying38 Try.underlying2 cells_i64 hf with ⟨hcs, hx⟩ | ⟨a, len', cap', zs, hcs, _, hl, hm, hz, hx, hcell, hwz⟩
  · simp only [Value.cells] at hcs
    cases hcs
    exact ⟨[], none, 0, rfl, by simp, by simp, fun c => absurd rfl c⟩
  · simp only [Value.cells] at hcs
    cases hcs
    simp only [if_true] at hz
    refine ⟨zs.take len, some a, cap, by rw [List.length_take]; congr 1; omega, by rw [List.length_take]; omega, by unfold maxLen at hm; omega, fun hne => ?_⟩
    have hlen : 0 < zs.length := by
      rcases Nat.eq_zero_or_pos zs.length with h0 | h0
      · exact absurd (by rw [List.length_eq_zero_iff.1 h0]; exact List.take_nil) hne
      · exact h0
    obtain ⟨b, off, rfl, hc⟩ := ints_at hcell hlen
    have hlt : b < W.heap.size := by
      have := hc 0 hlen
      unfold World.cell? at this
      rcases Nat.lt_or_ge b W.heap.size with h1 | h1
      · exact h1
      · simp [Array.getElem?_eq_none h1] at this
    refine ⟨b, off, rfl, hlt, fun i hi => ?_⟩
    rw [List.length_take] at hi
    rw [hc i (by omega), List.getElem?_take]
    rw [if_pos (by omega)]
    simp [List.getD]

namespace RenameGraphLaw
theorem walk_long (n e : Int) (v : Value) (zs : List Int) (w : World) (hS : SlI w v zs) (hm : 1048576 < zs.length) :
    Calls Try.prog 10 #[.agg #[.int .i64 n, .int .u32 e], v] w fun r w' => r = .returned (.bool true) ∧ Below w.heap.size w w' := by
  obtain ⟨a, cap, rfl, _⟩ := hS
  go_enter Try.func10, Try.ntmps10
  go_wp2
  go_ret
  exact ⟨rfl, by (repeat (first | exact Below.refl _ _ | assumption | refine bchain (by assumption) ?_ | refine balloc ?_ _ | apply Below.drew | apply below_drewN | (refine Below.alloc ?_ (by (try simp) <;> omega) _) | (refine Below.setCell ?_ (by (try simp) <;> omega) _)))⟩

theorem walk (n e : Int) (_hn : (Lit.int .i64 n).wf = true) (he : (Lit.int .u32 e).wf = true) (v : Value) (zs : List Int) (w : World) (hS : SlI w v zs) :
    Calls Try.prog 10 #[.agg #[.int .i64 n, .int .u32 e], v] w fun r w' => r = .returned (.bool true) ∧ Below w.heap.size w w' := by
  by_cases hm : 1048576 < zs.length
  · exact walk_long n e v zs w hS hm
  have bd := bounds_u32 he
  obtain ⟨m, f, c, hs, hi⟩ := ren_both n e zs (by omega) bd.1 (by omega)
  have hT := Lib.hid (fun W v (h : SlI W v zs) => toI_any W v zs h (by omega))
  have hE := Lib.hid (fun W u v (h : SlI W u zs) (h' : SlI W v zs) => eqI_any W u v zs h h' (by omega))
  replace hs := Lib.hid hs
  replace hi := Lib.hid hi
  clear he _hn bd
  obtain ⟨a, cap, hv, hx1, hx2, hx3⟩ := id hS
  replace hS := Lib.hid hS
  have hg : decide (1048576 < (zs.length : Int)) = false := decide_eq_false (by omega)
  subst hv
  clear hx1 hx2 hx3 hm
  obtain ⟨l, hl⟩ : ∃ l : Nat, zs.length = l := ⟨_, rfl⟩
  rw [hl] at hg hS ⊢
  clear hl
  go_enter Try.func10, Try.ntmps10
  go_wp2_with fail
  refine (toGraph_any _ n e).mono ?_
  rintro r1 w1 ⟨rfl, hb1⟩
  obtain ⟨hc1_0, hz1_0⟩ := bkeep hb1 (w.heap.size) (by (try simp) <;> omega)
  go_wp2_with fail
  refine (hT.out _ _ (hS.out.below (by (repeat (first | exact Below.refl _ _ | assumption | refine bchain (by assumption) ?_ | refine balloc ?_ _ | apply Below.drew | apply below_drewN | (refine Below.alloc ?_ (by (try simp) <;> omega) _) | (refine Below.setCell ?_ (by (try simp) <;> omega) _)))))).mono ?_
  rintro r2 w2 ⟨⟨u2, rfl, hU2⟩, hb2⟩
  obtain ⟨hc2_0, hz2_0⟩ := bkeep hb2 (w.heap.size) (by (try simp) <;> omega)
  replace hU2 := Lib.hid hU2
  go_wp2_with fail
  refine (hs.out _ _ hU2.out).mono ?_
  rintro r3 w3 ⟨rfl, hb3⟩
  obtain ⟨hc3_0, hz3_0⟩ := bkeep hb3 (w.heap.size) (by (try simp) <;> omega)
  go_wp2_with fail
  refine (hT.out _ _ (hS.out.below (by (repeat (first | exact Below.refl _ _ | assumption | refine bchain (by assumption) ?_ | refine balloc ?_ _ | apply Below.drew | apply below_drewN | (refine Below.alloc ?_ (by (try simp) <;> omega) _) | (refine Below.setCell ?_ (by (try simp) <;> omega) _)))))).mono ?_
  rintro r4 w4 ⟨⟨u4, rfl, hU4⟩, hb4⟩
  obtain ⟨hc4_0, hz4_0⟩ := bkeep hb4 (w.heap.size) (by (try simp) <;> omega)
  obtain ⟨hc4_1, hz4_1⟩ := bkeep hb4 (w3.heap.size) (by (try simp) <;> omega)
  replace hU4 := Lib.hid hU4
  go_wp2_with fail
  refine (toGraph_any _ n e).mono ?_
  rintro r5 w5 ⟨rfl, hb5⟩
  obtain ⟨hc5_0, hz5_0⟩ := bkeep hb5 (w.heap.size) (by (try simp) <;> omega)
  obtain ⟨hc5_1, hz5_1⟩ := bkeep hb5 (w3.heap.size) (by (try simp) <;> omega)
  go_wp2_with fail
  refine (hi.out _ _ (hU4.out.below hb5)).mono ?_
  rintro r6 w6 ⟨rfl, hb6⟩
  obtain ⟨hc6_0, hz6_0⟩ := bkeep hb6 (w.heap.size) (by (try simp) <;> omega)
  obtain ⟨hc6_1, hz6_1⟩ := bkeep hb6 (w3.heap.size) (by (try simp) <;> omega)
  go_wp2_with fail
  refine (eqGraph_any _ _ _).mono ?_
  rintro r7 w7 ⟨rfl, hb7⟩
  go_wp2_with fail
  refine (hT.out _ _ (hS.out.below (by (repeat (first | exact Below.refl _ _ | assumption | refine bchain (by assumption) ?_ | refine balloc ?_ _ | apply Below.drew | apply below_drewN | (refine Below.alloc ?_ (by (try simp) <;> omega) _) | (refine Below.setCell ?_ (by (try simp) <;> omega) _)))))).mono ?_
  rintro r8 w8 ⟨⟨u8, rfl, hU8⟩, hb8⟩
  go_wp2_with fail
  refine (hE.out _ _ _ (((((hU4.out.below hb5).below hb6).below ((Below.refl _ _).alloc (Nat.le_refl _) _)).below hb7).below hb8) hU8).mono ?_
  rintro r9 w9 ⟨rfl, hb9⟩
  go_wp2
  go_ret
  exact ⟨rfl, by (repeat (first | exact Below.refl _ _ | assumption | refine bchain (by assumption) ?_ | refine balloc ?_ _ | apply Below.drew | apply below_drewN | (refine Below.alloc ?_ (by (try simp) <;> omega) _) | (refine Below.setCell ?_ (by (try simp) <;> omega) _)))⟩
end RenameGraphLaw
theorem RenameGraphLaw.lifted (os : Os) (started : os.Started) (H : Type) (enc : TypeId × Value → H) :
    ReturnsInHanded {} Try.checked os 10 .any (Rows.fnExactRenameGraphSpec.pre6 enc Try.prog Try.f10 Rows.fnExactRenameGraphRow.domain false)
      (Rows.fnExactRenameGraphSpec.post enc Try.prog Try.f10 false true false false) := by
  refine fr_lift (C := Try.checked) own started (by kernel_rfl) Try.func10 laid_out rfl (by kernel_rfl) (tb := 4) rfl Try.underlying4 ?hs
    (ChangeSpec.witness6 (enc := enc) (C := Try.checked) false ⟨#[], #[.agg #[.int .i64 0, .int .u32 0], .slice none 0 0], []⟩ 8 (by kernel_rfl) (by kernel_rfl) (by kernel_rfl) (by kernel_rfl)) ?_
  case hs =>
    intro ds h
    match ds, h with
    | [d0, d1], _ => rfl
  intro W base args ds p hval0 hA0 hlt hsz
  have hval : ∀ (j : Nat) t v, Try.f10.params[j]? = some t → args[j]? = some v → Value.okWide Try.prog W .any base t v := hval0
  have hA : DataW.TrodAll enc Try.prog W 0 (fun _ => true) true Try.f10.params.toList args.toList ds p := hA0
  rw [Try.params10] at hA hval
  obtain ⟨v0, vs0, d0, ds0, p0, q0, hargs, rfl, rfl, h0, r0⟩ := trodAll_cons hA
  obtain ⟨v1, vs1, d1, ds1, p1, q1, rfl, rfl, rfl, h1, r1⟩ := trodAll_cons r0
  obtain ⟨rfl, rfl, rfl⟩ := trodAll_nil r1
  obtain rfl : args = #[v0, v1] := by cases args; simp_all
  obtain ⟨a0, b0, rfl, w0, u0⟩ := open_lgraph (hval 0 24 v0 rfl rfl) h0
  obtain ⟨x1, R1⟩ := open_i64s (hval 1 38 v1 rfl rfl) h1
  exact RenameGraphLaw.walk a0 b0 w0 u0 v1 x1 W R1

theorem ren_holds : Rows.FnExactRenameGraphSaid :=
  OpenClaim.holds_of_wide 10 Try.f10 rfl rfl rfl rfl rfl rfl rfl ⟨rfl, rfl, rfl, rfl, rfl⟩ rfl rfl rfl rfl rfl (by kernel_rfl) Try.func10 (by kernel_rfl)
    (of_decide_eq_true (by kernel_rfl)) (by unfold Func.isWrapper; rw [if_neg (of_decide_eq_false (by kernel_rfl))]; exact ⟨rfl, rfl⟩)
    (fun os started H enc _ => RenameGraphLaw.lifted os started H enc)
#print axioms ren_holds
end Go.Proofs.Ytoiepgdjknpjiab
