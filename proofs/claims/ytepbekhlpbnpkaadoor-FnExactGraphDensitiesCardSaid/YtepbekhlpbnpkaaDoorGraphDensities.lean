/-
  PROVED: for every size and graph, valid or not, GraphDensities of the program answers as the model's does, twice alike, and its list is new memory that may be written. Conditions: the table of math/bits holds what the library lays there (the card ties it).
-/
import Derived.Test.YtepbekhlpbnpkaaDoorOpen
import Derived.Test.YtepbekhlpbnpkaaDoorGds
import Derived.Test.YtepbekhlpbnpkaaDoorTie
import Derived.Test.YtepbekhlpbnpkaaDoorCards
import Derived.SevenTiedAt
namespace Go.Proofs.YtepbekhlpbnpkaaDoor
open Go.ChangeShapes Go.WideShapes Go.ChangeAt Go.RowKit
set_option maxRecDepth 100000

namespace GraphDensitiesLaw
set_option maxHeartbeats 2000000 in
theorem walk (n0 : Int) (_ : (Lit.int .i64 n0).wf = true) (n e : Int) (_hn : (Lit.int .i64 n).wf = true) (he : (Lit.int .u32 e).wf = true) (w : World) (hT : TabZ w) :
    Calls Tryd.prog 11 #[.int .i64 n0, .agg #[.int .i64 n, .int .u32 e]] w fun r w' => r = .returned (.bool true) ∧ Below w.heap.size w w' := by
  have bd := bounds_u32 he
  obtain ⟨ds, c, hL, hs, hi⟩ := gds_both n0 n e (by omega) bd.1
  have hTw := Lib.hid (fun W (h : Below w.heap.size w W) => hT.below h)
  replace hs := Lib.hid hs
  replace hi := Lib.hid hi
  have hE := Lib.hid (fun W u v (h : Fr.SlG W u ds) (h' : Fr.SlG W v ds) => Fr.eqGs_any W u v ds h h' (by omega))
  obtain ⟨W0, hW0⟩ : ∃ W0, W0 = w.alloc (.cells #[.int .i64 n, .int .u32 e] 24) := ⟨_, rfl⟩
  have hB0 : Below w.heap.size w W0 := by rw [hW0]; (repeat (first | exact Below.refl _ _ | assumption | refine bchain (by assumption) ?_ | refine balloc ?_ _ | apply Below.drew | apply below_drewN | (refine Below.alloc ?_ (by (try simp) <;> omega) _) | (refine Below.setCell ?_ (by (try simp) <;> omega) _)))
  have hzb : w.heap.size < W0.heap.size := by rw [hW0]; simp
  have g0 : W0.cell? ⟨w.heap.size, 0, none⟩ = some (.int .i64 n) := by rw [hW0, cNew _ _ _ _ _ rfl]; rfl
  have g1 : W0.cell? ⟨w.heap.size, 1, none⟩ = some (.int .u32 e) := by rw [hW0, cNew _ _ _ _ _ rfl]; rfl
  replace hW0 := Lib.hid hW0
  clear he _hn bd hT
  go_enter Tryd.func11, Tryd.ntmps11
  go_wp2_with fail
  rw [← hW0.out]
  go_wp2_with fail
  refine (toGraph_any _ _ _).mono ?_
  rintro ra wa ⟨rfl, hBa⟩
  go_wp2_with fail
  refine (hs.out _).mono ?_
  rintro r1 w1 ⟨⟨u, rfl, hU⟩, hb1⟩
  have hB1 : Below W0.heap.size W0 w1 := hBa.trans (hb1.mono hBa.size)
  clear hBa hb1
  have hz1 := hB1.size
  replace hU := Lib.hid hU
  have q0 := (hB1.cell (p := ⟨w.heap.size, 0, none⟩) hzb).trans g0
  have q1 := (hB1.cell (p := ⟨w.heap.size, 1, none⟩) hzb).trans g1
  go_wp2_with fail
  refine (toGraph_any _ _ _).mono ?_
  rintro rb wb ⟨rfl, hBb⟩
  clear q0 q1
  go_wp2_with fail
  refine (hi.out _ (hTw.out _ (hB0.trans ((hB1.trans (hBb.mono hz1)).mono (by omega))))).mono ?_
  rintro r2 w2 ⟨⟨v, rfl, hV⟩, hb2⟩
  have hD2 : Below w1.heap.size w1 w2 := hBb.trans (hb2.mono hBb.size)
  have hV : Hid (OwnD w1.heap.size w2 v ds) := by
    rcases hV.out with h | ⟨B, cap, e1, h1, h2, h3, h4⟩
    · exact .inl h
    · exact .inr ⟨B, cap, e1, h1, h2, by have := hBb.size; omega, h4⟩
  clear hBb hb2
  go_wp2_with fail
  refine (hE.out _ _ _ hV.out.sl (hU.out.below hD2)).mono ?_
  rintro r3 w3 ⟨rfl, hb3⟩
  have hz3 := hb3.size
  have hz2 := hD2.size
  have hD3 : Below w1.heap.size w1 w3 := hD2.trans (hb3.mono hz2)
  have hB3 : Below W0.heap.size W0 w3 := hB1.trans (hD3.mono hz1)
  rcases id hV.out with ⟨rfl, h0⟩ | ⟨B, cap, rfl, h1, h2, h3, h4, h5, h6⟩
  · clear hD2 hb3
    go_wp2_with fail
    refine (markD_zero _ none 0 1).mono ?_
    rintro r4 w4 ⟨rfl, hb4⟩
    go_wp2_with fail
    refine (heldD_zero _ none 0 1).mono ?_
    rintro r5 w5 ⟨rfl, hb5⟩
    have hD5 : Below w1.heap.size w1 w5 := (hD3.trans (hb4.mono (by omega))).trans (hb5.mono (by have := hb4.size; omega))
    have hB5 : Below W0.heap.size W0 w5 := hB1.trans (hD5.mono hz1)
    clear hD3 hB3 hb4 hb5
    have q0 := (hB5.cell (p := ⟨w.heap.size, 0, none⟩) hzb).trans g0
    have q1 := (hB5.cell (p := ⟨w.heap.size, 1, none⟩) hzb).trans g1
    go_wp2_with fail
    refine (toGraph_any _ _ _).mono ?_
    rintro rb w6 ⟨rfl, hb6⟩
    clear q0 q1
    have hB6 : Below W0.heap.size W0 w6 := hB5.trans (hb6.mono hB5.size)
    have hD6 : Below w1.heap.size w1 w6 := hD5.trans (hb6.mono hD5.size)
    clear hB5 hD5 hb6
    go_wp2_with fail
    refine (hi.out _ (hTw.out _ (hB0.trans (hB6.mono (by omega))))).mono ?_
    rintro r7 w7 ⟨⟨v7, rfl, hV7⟩, hb7⟩
    have hD7 : Below w1.heap.size w1 w7 := hD6.trans (hb7.mono hD6.size)
    have hB7 : Below W0.heap.size W0 w7 := hB6.trans (hb7.mono hB6.size)
    clear hD6 hB6 hb7
    go_wp2_with fail
    refine (hE.out _ _ _ hV7.out.sl (hU.out.below hD7)).mono ?_
    rintro r8 w8 ⟨rfl, hb8⟩
    have hB8 : Below W0.heap.size W0 w8 := hB7.trans (hb8.mono hB7.size)
    clear hB7 hb8
    go_wp2_with fail
    refine (heldD_zero _ none 0 1).mono ?_
    rintro r9 w9 ⟨rfl, hb9⟩
    have hB9 := hB0.trans ((hB8.trans (hb9.mono hB8.size)).mono (Nat.le_of_lt hzb))
    clear hB8 hb9
    go_wp2
    go_ret
    exact ⟨rfl, hB9⟩
  · obtain ⟨l, hl⟩ : ∃ l, ds.length = l := ⟨_, rfl⟩
    have hC := Lib.hid ((cfd_of h6).below h4 hb3)
    have hF : Hid (∀ x, w3.frozen? ⟨B, x, none⟩ = false) := fun x => (hb3.frozen (p := ⟨B, x, none⟩) h4).trans (h5 x)
    rw [hl] at hC hL ⊢
    obtain ⟨f, hf⟩ : ∃ f, dsF ds = f := ⟨_, rfl⟩
    rw [hf] at hC
    have hB4 : B < w3.heap.size := by omega
    clear hD2 hb3 h1 h2 h4 h5 h6 hV hl hf
    go_wp2_with fail
    refine (markD_row _ w1.heap.size B cap l 1 f (by omega) (by omega) h3 hC.out hF.out).mono ?_
    rintro r4 w4 ⟨rfl, hb4, hc4, _, _⟩
    replace hc4 := Lib.hid hc4
    have hD4 := hD3.trans hb4
    have hz4 := hb4.size
    clear hD3 hB3 hb4 hC hF
    obtain ⟨K, hK⟩ : ∃ K : Nat, 1 + l * 2 = K := ⟨_, rfl⟩
    have hK0 : 1 ≤ K ∧ K ≤ 4000 := by omega
    rw [hK]
    have hH := Lib.hid (fun W (h : B < W.heap.size) (hc : CFd W B (l * 2) (fun c => ((1 + c : Nat) : Int))) => heldD_row W B cap l 1 (by omega) (by omega) h hc)
    rw [hK] at hH
    have hB4 : B < w4.heap.size := by omega
    clear hz3 hz4 hz2
    go_wp2_with fail
    refine (hH.out _ hB4 hc4.out).mono ?_
    rintro r5 w5 ⟨rfl, hb5⟩
    have hc5 := Lib.hid (hc4.out.below hB4 hb5)
    have hB5l : B < w5.heap.size := Nat.lt_of_lt_of_le hB4 hb5.size
    have hD5 : Below w1.heap.size w1 w5 := hD4.trans (hb5.mono hD4.size)
    have hB5 : Below W0.heap.size W0 w5 := hB1.trans (hD5.mono hz1)
    clear hD4 hb5 hc4
    have q0 := (hB5.cell (p := ⟨w.heap.size, 0, none⟩) hzb).trans g0
    have q1 := (hB5.cell (p := ⟨w.heap.size, 1, none⟩) hzb).trans g1
    go_wp2_with fail
    refine (toGraph_any _ _ _).mono ?_
    rintro rb w6 ⟨rfl, hb6⟩
    clear q0 q1
    have hB6 : Below W0.heap.size W0 w6 := hB5.trans (hb6.mono hB5.size)
    have hD6 : Below w1.heap.size w1 w6 := hD5.trans (hb6.mono hD5.size)
    have hc6 := Lib.hid (hc5.out.below hB5l hb6)
    have hB6l : B < w6.heap.size := Nat.lt_of_lt_of_le hB5l hb6.size
    clear hB5 hD5 hb6 hc5
    go_wp2_with fail
    refine (hi.out _ (hTw.out _ (hB0.trans (hB6.mono (by omega))))).mono ?_
    rintro r7 w7 ⟨⟨v7, rfl, hV7⟩, hb7⟩
    have hD7 : Below w1.heap.size w1 w7 := hD6.trans (hb7.mono hD6.size)
    have hB7 : Below W0.heap.size W0 w7 := hB6.trans (hb7.mono hB6.size)
    have hc7 := Lib.hid (hc6.out.below hB6l hb7)
    have hB7l : B < w7.heap.size := Nat.lt_of_lt_of_le hB6l hb7.size
    clear hD6 hB6 hb7 hc6
    go_wp2_with fail
    refine (hE.out _ _ _ hV7.out.sl (hU.out.below hD7)).mono ?_
    rintro r8 w8 ⟨rfl, hb8⟩
    have hB8 : Below W0.heap.size W0 w8 := hB7.trans (hb8.mono hB7.size)
    have hc8 := Lib.hid (hc7.out.below hB7l hb8)
    have hB8l : B < w8.heap.size := Nat.lt_of_lt_of_le hB7l hb8.size
    clear hB7 hb8 hc7
    go_wp2_with fail
    refine (hH.out _ hB8l hc8.out).mono ?_
    rintro r9 w9 ⟨rfl, hb9⟩
    have hB9 := hB0.trans ((hB8.trans (hb9.mono hB8.size)).mono (Nat.le_of_lt hzb))
    clear hB8 hb9
    go_wp2
    go_ret
    exact ⟨rfl, hB9⟩
end GraphDensitiesLaw
theorem GraphDensitiesLaw.lifted (os : Os) (started : os.Started) (H : Type) (enc : TypeId × Value → H) :
    ReturnsInHanded {} Tryd.checked os 11 .any (fun w args => (Rows.fnExactGraphDensitiesSpec.pre enc Tryd.prog Tryd.f11 [] false w args ∧ laidMetH Tryd.prog Rows.fnExactGraphDensitiesRow.laid w) ∧ sizedMet enc Tryd.prog Tryd.f11 (OpenSpec.ofChange Rows.fnExactGraphDensitiesSpec) false w args)
      (Rows.fnExactGraphDensitiesSpec.post enc Tryd.prog Tryd.f11 false true false false) := by
  refine fr_liftC (C := Tryd.checked) (laid := Rows.fnExactGraphDensitiesRow.laid) own started (by kernel_rfl) Tryd.func11 laid_out (by kernel_rfl) (by kernel_rfl) (tb := 4) rfl Tryd.underlying4 ?hs
    (ChangeSpec.witness_shaped (enc := enc) (C := Tryd.checked) (os := os) (X := fun w _ => laidMetH Tryd.prog Rows.fnExactGraphDensitiesRow.laid w) false (World.doorLaid Tryd.prog 400 os) #[.int .i64 0, .agg #[.int .i64 0, .int .u32 0]] 8 rfl
      (World.shaped_of_RefB (by kernel_rfl) (by kernel_rfl)) (by kernel_rfl) (by kernel_rfl) (by kernel_rfl) (laidMetH_of_parts3 (fuel := 8) (laidMet_of_run' 8 (by kernel_rfl) (by kernel_rfl)) (by kernel_rfl) (by kernel_rfl))) ?_
  case hs =>
    intro ds gs h h2
    match ds, h, gs, h2 with
    | [d0, d1], _, [], _ => rfl
  intro W base args ds gs p hval0 hA0 hlt hsz hL0
  have hL : laidMet Tryd.prog Rows.fnExactGraphDensitiesRow.laid W := by rw [← MakeChecks.laidMetH_plain _ _ _ (by kernel_rfl)]; exact hL0
  have hval : ∀ (j : Nat) t v, Tryd.f11.params[j]? = some t → args[j]? = some v → Value.okWide Tryd.prog W .any base t v := hval0
  have hA : DataW.TrodAll enc Tryd.prog W 0 (fun _ => true) true Tryd.f11.params.toList args.toList ds p := hA0
  rw [Tryd.params11] at hA hval
  obtain ⟨v0, vs0, d0, ds0, p0, q0, hargs, rfl, rfl, h0, r0⟩ := trodAll_cons hA
  obtain ⟨v1, vs1, d1, ds1, p1, q1, rfl, rfl, rfl, h1, r1⟩ := trodAll_cons r0
  obtain ⟨rfl, rfl, rfl⟩ := trodAll_nil r1
  obtain rfl : args = #[v0, v1] := by cases args; simp_all
  obtain ⟨a0, rfl, w0⟩ := open_i64 (hval 0 2 v0 rfl rfl) h0
  obtain ⟨a1, b1, rfl, w1, u1⟩ := open_lgraph (hval 1 24 v1 rfl rfl) h1
  exact GraphDensitiesLaw.walk a0 w0 a1 b1 w1 u1 W (tabZ_of_laid hL)

theorem graphDensities_holds_row : Rows.FnExactGraphDensitiesSaid :=
  OpenClaim.holds_of_wide 11 Tryd.f11 rfl rfl rfl rfl rfl rfl rfl ⟨rfl, rfl, rfl, rfl, rfl⟩ rfl rfl rfl rfl rfl (by kernel_rfl) Tryd.func11 (by kernel_rfl)
    (of_decide_eq_true (by kernel_rfl)) (by unfold Func.isWrapper; rw [if_neg (of_decide_eq_false (by kernel_rfl))]; exact ⟨rfl, rfl⟩)
    (fun os started H enc _ => GraphDensitiesLaw.lifted os started H enc)
theorem graphDensities_holds : Rows.FnExactGraphDensitiesCardSaid :=
  Claim7.holds_tied_plain_at .later [] Rows.fnExactGraphDensitiesCard.laidKinds true Rows.fnExactGraphDensitiesCard.stood.harness Rows.fnExactGraphDensitiesCard.stood.looks graphDensities_holds_row (fun _ h => by cases h) (by kernel_rfl) (fun _ h => by cases h) fnExactGraphDensities_row_tie rfl ⟨rfl, rfl⟩ (by kernel_rfl) rfl
    (fun f fn hf hfn => by
      obtain rfl : f = 11 := Option.some.inj ((show Tryd.prog.funcNamed "loop.example/g01169/laws.FnExactGraphDensities" = some 11 by kernel_rfl).symm.trans hf) |>.symm
      obtain rfl : fn = Tryd.f11 := (Option.some.inj (Tryd.func11.symm.trans hfn)).symm
      exact ⟨by kernel_rfl, fun j t ht => by
        rw [Tryd.params11] at ht
        have hm : t ∈ [2, 24] := by simpa using Array.mem_of_getElem? ht
        have hall : ([2, 24].all fun u => !Tryd.prog.wantsStandIn u) = true := by kernel_rfl
        exact (show Tryd.prog.wantsStandIn t = false by simpa using List.all_eq_true.1 hall t hm)⟩)
    (by kernel_rfl)
#print axioms graphDensities_holds
end Go.Proofs.YtepbekhlpbnpkaaDoor
