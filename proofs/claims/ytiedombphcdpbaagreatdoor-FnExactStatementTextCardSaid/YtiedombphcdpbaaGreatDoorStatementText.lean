/-
  PROVED: for every statement, valid or not, StatementText of the program answers as the model's does, and its statement is left as it was. Condition: the tables of the library hold what the program's text lays there (the card ties them).
-/
import Derived.Test.YtiedombphcdpbaaGreatDoorQTb
import Derived.Test.YtiedombphcdpbaaGreatDoorQl
import Derived.Test.YtiedombphcdpbaaGreatDoorTie
import Derived.Test.YtiedombphcdpbaaGreatDoorCards
import Derived.SevenTiedAt
namespace Go.Proofs.YtiedombphcdpbaaGreatDoor
open Go.ChangeShapes Go.WideShapes Go.ChangeAt Go.RowKit
set_option maxRecDepth 100000

namespace StatementTextLaw
theorem walk_long (v : Value) (Y : QM) (w : World) (h : StS w v Y) (hm : ¬ ((Y.gs.length : Int) + Y.X.ts.length ≤ 1048576)) :
    Calls Tryz.prog 3 #[v] w fun r w' => r = .returned (.bool true) ∧ Below w.heap.size w w' := by
  have hC := Lib.hid (fun W (hb : Below w.heap.size w W) => szQ_bad W v Y (h.below hb) 1048576 (by omega) (by omega) hm)
  obtain ⟨z, u, rfl, ⟨a, cap, rfl, _⟩, ⟨au, cu, rfl, _⟩⟩ := h
  clear hm
  go_enter Tryz.func3, Tryz.ntmps3
  go_wp2_with fail
  refine (hC.out _ (by (repeat (first | exact Below.refl _ _ | assumption | refine bchain (by assumption) ?_ | refine balloc ?_ _ | apply Below.drew | apply below_drewN | (refine Below.alloc ?_ (by (try simp) <;> omega) _) | (refine Below.setCell ?_ (by (try simp) <;> omega) _))))).mono ?_
  rintro r1 w1 ⟨rfl, hb1⟩
  go_wp2
  go_ret
  exact ⟨rfl, by (repeat (first | exact Below.refl _ _ | assumption | refine bchain (by assumption) ?_ | refine balloc ?_ _ | apply Below.drew | apply below_drewN | (refine Below.alloc ?_ (by (try simp) <;> omega) _) | (refine Below.setCell ?_ (by (try simp) <;> omega) _)))⟩
set_option maxHeartbeats 8000000 in
theorem walk_short (v : Value) (Y : QM) (w : World) (h : StS w v Y) (hbd : BdQ Y) (hw : TabP w) (hm : (Y.gs.length : Int) + Y.X.ts.length ≤ 1048576) :
    Calls Tryz.prog 3 #[v] w fun r w' => r = .returned (.bool true) ∧ Below w.heap.size w w' := by
  obtain ⟨R, hs, hi⟩ := qs_both Y hbd (by omega)
  replace hs := Lib.hid hs
  replace hi := Lib.hid (fun W (hb : Below w.heap.size w W) z u (hz : SlG W z Y.gs) (hu : SlT W u Y.X.ts) => hi W z u hz hu (hw.below hb))
  have hC := Lib.hid (fun W (hb : Below w.heap.size w W) => szQ_ok W v Y (h.below hb) 1048576 (by omega) (by omega) hm)
  have hT := Lib.hid (fun W (hb : Below w.heap.size w W) => toQ_any W v Y (h.below hb) (by omega) (by omega))
  have hE := Lib.hid (fun W z u z' u' (hz : SlG W z Y.gs) (hu : SlT W u Y.X.ts) (hz' : SlG W z' Y.gs) (hu' : SlT W u' Y.X.ts) => eqQ_any W Y z u z' u' hz hu hz' hu' (by omega) (by omega))
  obtain ⟨gs, ⟨n, e, s, ts⟩, p, q⟩ := Y
  obtain ⟨z, u, rfl, ⟨a, cap, rfl, _⟩, ⟨au, cu, rfl, _⟩⟩ := h
  dsimp only at *
  have hl0 : 0 ≤ 1048576 - (gs.length : Int) - (ts.length : Int) := by omega
  obtain ⟨q0, hq⟩ : ∃ q0 : Int, 1048576 - (gs.length : Int) - (ts.length : Int) = q0 := ⟨_, rfl⟩
  rw [hq] at hC hl0
  clear hq hm hbd hw
  obtain ⟨l1, hl1⟩ : ∃ l, gs.length = l := ⟨_, rfl⟩
  obtain ⟨l2, hl2⟩ : ∃ l, ts.length = l := ⟨_, rfl⟩
  rw [hl1, hl2] at hC hT ⊢
  replace hl1 := Lib.hid hl1
  replace hl2 := Lib.hid hl2
  obtain ⟨W0, hW0⟩ : ∃ W0, W0 = w.alloc (.cells #[.slice a l1 cap, .int .i64 n, .int .u32 e, .int .i64 s, .slice au l2 cu, .int .i64 p, .int .i64 q] 32) := ⟨_, rfl⟩
  have hB0 : Below w.heap.size w W0 := by rw [hW0]; (repeat (first | exact Below.refl _ _ | assumption | refine bchain (by assumption) ?_ | refine balloc ?_ _ | apply Below.drew | apply below_drewN | (refine Below.alloc ?_ (by (try simp) <;> omega) _) | (refine Below.setCell ?_ (by (try simp) <;> omega) _)))
  have k1 : QB W0 w.heap.size (.slice a l1 cap) n e s (.slice au l2 cu) p q := by rw [hW0]; exact QB.made _ _ _ _ _ _ _ _ _
  replace hW0 := Lib.hid hW0
  obtain ⟨_, x0, x1, x2, x3, x4, x5, x6, _⟩ := id k1
  go_enter Tryz.func3, Tryz.ntmps3
  go_wp2_with fail
  rw [← hW0.out]
  go_wp2_with fail
  refine (hC.out _ hB0).mono ?_
  rintro r1 w1 ⟨rfl, hb1⟩
  clear x0 x1 x2 x3 x4 x5 x6
  obtain ⟨_, x0, x1, x2, x3, x4, x5, x6, _⟩ := k1.below hb1
  go_wp2_with fail
  refine (hT.out _ (bchain hb1 hB0)).mono ?_
  rintro r3 w3 ⟨⟨z3, u3, rfl, hZ3, hU3⟩, hb3⟩
  have D3 : Below W0.heap.size W0 w3 := bchain hb3 hb1
  clear x0 x1 x2 x3 x4 x5 x6
  go_wp2_with fail
  refine (hs.out _ _ _ hZ3.sl hU3.sl).mono ?_
  rintro r5 w5 ⟨rfl, hb5⟩
  have D5 : Below W0.heap.size W0 w5 := bchain hb5 D3
  clear hb1 hb3 hb5 hU3 hZ3 D3
  obtain ⟨_, x0, x1, x2, x3, x4, x5, x6, _⟩ := k1.below D5
  go_wp2_with fail
  refine (hT.out _ (bchain D5 hB0)).mono ?_
  rintro r6 w6 ⟨⟨z6, u6, rfl, hZ6, hU6⟩, hb6⟩
  have D6 : Below W0.heap.size W0 w6 := bchain hb6 D5
  obtain ⟨a6, c6, rfl, _⟩ := id hZ6
  obtain ⟨b6, d6, rfl, _⟩ := id hU6
  rw [hl1.out] at hZ6 ⊢
  rw [hl2.out] at hU6 ⊢
  clear D5 hb6 x0 x1 x2 x3 x4 x5 x6
  obtain ⟨WX, hWX⟩ : ∃ WX, WX = w6.alloc (.cells #[.slice a6 l1 c6, .int .i64 n, .int .u32 e, .int .i64 s, .slice b6 l2 d6, .int .i64 p, .int .i64 q] 42) := ⟨_, rfl⟩
  have sX : QB WX w6.heap.size (.slice a6 l1 c6) n e s (.slice b6 l2 d6) p q := by rw [hWX]; exact QB.made _ _ _ _ _ _ _ _ _
  have bX : Below w6.heap.size w6 WX := by rw [hWX]; exact balloc (Below.refl _ _) _
  replace hWX := Lib.hid hWX
  have D6' : Below W0.heap.size W0 WX := bchain bX D6
  have hZ6' := Lib.hid (hZ6.sl.below bX)
  have hU6' := Lib.hid (hU6.sl.below bX)
  have hn6 : w.heap.size ≠ w6.heap.size := by have := k1.lt; have := D6.size; omega
  clear hU6 hZ6
  obtain ⟨_, x0, x1, x2, x3, x4, x5, x6, _⟩ := id sX
  go_wp2_with fail
  rw [← hWX.out]
  go_wp2_with fail
  refine (hi.out _ (bchain D6' hB0) _ _ hZ6'.out hU6'.out).mono ?_
  rintro r9 w9 ⟨rfl, hb9⟩
  have D9 : Below W0.heap.size W0 w9 := bchain hb9 D6'
  have sX9 := sX.below hb9
  have hZ69 := Lib.hid (hZ6'.out.below hb9)
  have hU69 := Lib.hid (hU6'.out.below hb9)
  clear D6 D6' sX hb9 hU6' hZ6' x0 x1 x2 x3 x4 x5 x6
  have k1' := Lib.hid (k1.below D9)
  have hBB9 := bchain D9 hB0
  have s1' := Lib.hid sX9
  obtain ⟨_, x0, x1, x2, x3, x4, x5, x6, _⟩ := id sX9
  obtain ⟨_, y0, y1, y2, y3, y4, y5, y6, _⟩ := k1.below D9
  clear sX9
  go_wp2_with fail
  go_region_held3 (fun A => (A.cell? ⟨w.heap.size, 0, none⟩ = some (.slice a l1 cap) ∧ A.cell? ⟨w.heap.size, 1, none⟩ = some (.int .i64 n) ∧ A.cell? ⟨w.heap.size, 2, none⟩ = some (.int .u32 e) ∧ A.cell? ⟨w.heap.size, 3, none⟩ = some (.int .i64 s) ∧ A.cell? ⟨w.heap.size, 4, none⟩ = some (.slice au l2 cu) ∧ A.cell? ⟨w.heap.size, 5, none⟩ = some (.int .i64 p) ∧ A.cell? ⟨w.heap.size, 6, none⟩ = some (.int .i64 q)) ∧ (A.cell? ⟨w6.heap.size, 0, none⟩ = some (.slice a6 l1 c6) ∧ A.cell? ⟨w6.heap.size, 1, none⟩ = some (.int .i64 n) ∧ A.cell? ⟨w6.heap.size, 2, none⟩ = some (.int .u32 e) ∧ A.cell? ⟨w6.heap.size, 3, none⟩ = some (.int .i64 s) ∧ A.cell? ⟨w6.heap.size, 4, none⟩ = some (.slice b6 l2 d6) ∧ A.cell? ⟨w6.heap.size, 5, none⟩ = some (.int .i64 p) ∧ A.cell? ⟨w6.heap.size, 6, none⟩ = some (.int .i64 q)))
    (exact ⟨⟨(k1'.out.below (by (repeat (first | exact Below.refl _ _ | assumption | refine bchain (by assumption) ?_ | refine balloc ?_ _ | apply Below.drew | apply below_drewN | (refine Below.alloc ?_ (by (try simp) <;> omega) _) | (refine Below.setCell ?_ (by (try simp) <;> omega) _))))).c0, (k1'.out.below (by (repeat (first | exact Below.refl _ _ | assumption | refine bchain (by assumption) ?_ | refine balloc ?_ _ | apply Below.drew | apply below_drewN | (refine Below.alloc ?_ (by (try simp) <;> omega) _) | (refine Below.setCell ?_ (by (try simp) <;> omega) _))))).c1, (k1'.out.below (by (repeat (first | exact Below.refl _ _ | assumption | refine bchain (by assumption) ?_ | refine balloc ?_ _ | apply Below.drew | apply below_drewN | (refine Below.alloc ?_ (by (try simp) <;> omega) _) | (refine Below.setCell ?_ (by (try simp) <;> omega) _))))).c2, (k1'.out.below (by (repeat (first | exact Below.refl _ _ | assumption | refine bchain (by assumption) ?_ | refine balloc ?_ _ | apply Below.drew | apply below_drewN | (refine Below.alloc ?_ (by (try simp) <;> omega) _) | (refine Below.setCell ?_ (by (try simp) <;> omega) _))))).c3, (k1'.out.below (by (repeat (first | exact Below.refl _ _ | assumption | refine bchain (by assumption) ?_ | refine balloc ?_ _ | apply Below.drew | apply below_drewN | (refine Below.alloc ?_ (by (try simp) <;> omega) _) | (refine Below.setCell ?_ (by (try simp) <;> omega) _))))).c4, (k1'.out.below (by (repeat (first | exact Below.refl _ _ | assumption | refine bchain (by assumption) ?_ | refine balloc ?_ _ | apply Below.drew | apply below_drewN | (refine Below.alloc ?_ (by (try simp) <;> omega) _) | (refine Below.setCell ?_ (by (try simp) <;> omega) _))))).c5, (k1'.out.below (by (repeat (first | exact Below.refl _ _ | assumption | refine bchain (by assumption) ?_ | refine balloc ?_ _ | apply Below.drew | apply below_drewN | (refine Below.alloc ?_ (by (try simp) <;> omega) _) | (refine Below.setCell ?_ (by (try simp) <;> omega) _))))).c6⟩, ⟨(s1'.out.below (by (repeat (first | exact Below.refl _ _ | assumption | refine bchain (by assumption) ?_ | refine balloc ?_ _ | apply Below.drew | apply below_drewN | (refine Below.alloc ?_ (by (try simp) <;> omega) _) | (refine Below.setCell ?_ (by (try simp) <;> omega) _))))).c0, (s1'.out.below (by (repeat (first | exact Below.refl _ _ | assumption | refine bchain (by assumption) ?_ | refine balloc ?_ _ | apply Below.drew | apply below_drewN | (refine Below.alloc ?_ (by (try simp) <;> omega) _) | (refine Below.setCell ?_ (by (try simp) <;> omega) _))))).c1, (s1'.out.below (by (repeat (first | exact Below.refl _ _ | assumption | refine bchain (by assumption) ?_ | refine balloc ?_ _ | apply Below.drew | apply below_drewN | (refine Below.alloc ?_ (by (try simp) <;> omega) _) | (refine Below.setCell ?_ (by (try simp) <;> omega) _))))).c2, (s1'.out.below (by (repeat (first | exact Below.refl _ _ | assumption | refine bchain (by assumption) ?_ | refine balloc ?_ _ | apply Below.drew | apply below_drewN | (refine Below.alloc ?_ (by (try simp) <;> omega) _) | (refine Below.setCell ?_ (by (try simp) <;> omega) _))))).c3, (s1'.out.below (by (repeat (first | exact Below.refl _ _ | assumption | refine bchain (by assumption) ?_ | refine balloc ?_ _ | apply Below.drew | apply below_drewN | (refine Below.alloc ?_ (by (try simp) <;> omega) _) | (refine Below.setCell ?_ (by (try simp) <;> omega) _))))).c4, (s1'.out.below (by (repeat (first | exact Below.refl _ _ | assumption | refine bchain (by assumption) ?_ | refine balloc ?_ _ | apply Below.drew | apply below_drewN | (refine Below.alloc ?_ (by (try simp) <;> omega) _) | (refine Below.setCell ?_ (by (try simp) <;> omega) _))))).c5, (s1'.out.below (by (repeat (first | exact Below.refl _ _ | assumption | refine bchain (by assumption) ?_ | refine balloc ?_ _ | apply Below.drew | apply below_drewN | (refine Below.alloc ?_ (by (try simp) <;> omega) _) | (refine Below.setCell ?_ (by (try simp) <;> omega) _))))).c6⟩⟩)
    (first
    | (go_at_call 6; refine (hT.out _ (by (repeat (first | exact Below.refl _ _ | assumption | refine bchain (by assumption) ?_ | refine balloc ?_ _ | apply Below.drew | apply below_drewN | (refine Below.alloc ?_ (by (try simp) <;> omega) _) | (refine Below.setCell ?_ (by (try simp) <;> omega) _))))).mono ?_; rintro r10 w10 ⟨⟨z10, u10, rfl, hZ10, hU10⟩, hb10⟩)
    | (go_at_call 8; refine (hE.out _ _ _ _ _ (hZ69.out.below (by (repeat (first | exact Below.refl _ _ | assumption | refine bchain (by assumption) ?_ | refine balloc ?_ _ | apply Below.drew | apply below_drewN | (refine Below.alloc ?_ (by (try simp) <;> omega) _) | (refine Below.setCell ?_ (by (try simp) <;> omega) _))))) (hU69.out.below (by (repeat (first | exact Below.refl _ _ | assumption | refine bchain (by assumption) ?_ | refine balloc ?_ _ | apply Below.drew | apply below_drewN | (refine Below.alloc ?_ (by (try simp) <;> omega) _) | (refine Below.setCell ?_ (by (try simp) <;> omega) _))))) hZ10.sl hU10.sl).mono ?_; rintro r11 w11 ⟨rfl, hb11⟩))
  have D911 : Below w9.heap.size w9 w11 := bchain hb11 (bchain hb10 (Below.refl _ w9).drew)
  have D11 : Below W0.heap.size W0 w11 := bchain D911 D9
  go_wp2
  go_ret
  exact ⟨rfl, bchain D11 hB0⟩
theorem walk (v : Value) (Y : QM) (w : World) (h : StS w v Y) (hb : BdQ Y) (hw : TabP w) :
    Calls Tryz.prog 3 #[v] w fun r w' => r = .returned (.bool true) ∧ Below w.heap.size w w' := by
  by_cases c : (Y.gs.length : Int) + Y.X.ts.length ≤ 1048576
  · exact walk_short v Y w h hb hw c
  · exact walk_long v Y w h c
end StatementTextLaw
theorem StatementTextLaw.lifted (os : Os) (started : os.Started) (H : Type) (enc : TypeId × Value → H) :
    ReturnsInHanded {} Tryz.checked os 3 .any (fun w args => (Rows.fnExactStatementTextSpec.pre enc Tryz.prog Tryz.f3 [] false w args ∧ laidMetH Tryz.prog Rows.fnExactStatementTextRow.laid w) ∧ sizedMet enc Tryz.prog Tryz.f3 (OpenSpec.ofChange Rows.fnExactStatementTextSpec) false w args)
      (Rows.fnExactStatementTextSpec.post enc Tryz.prog Tryz.f3 false true false false) := by
  refine fr_liftC (C := Tryz.checked) (laid := Rows.fnExactStatementTextRow.laid) own started (by kernel_rfl) Tryz.func3 laid_out (by kernel_rfl) (by kernel_rfl) (tb := 4) rfl Tryz.underlying4 ?hs
    (ChangeSpec.witness_shaped (enc := enc) (C := Tryz.checked) (os := os) (X := fun w _ => laidMetH Tryz.prog Rows.fnExactStatementTextRow.laid w) false (World.doorLaid Tryz.prog 400 os) #[.agg #[.slice none 0 0, .int .i64 0, .int .u32 0, .int .i64 0, .slice none 0 0, .int .i64 0, .int .i64 0]] 8 rfl
      (World.shaped_of_RefB (by kernel_rfl) (by kernel_rfl)) (by kernel_rfl) (by kernel_rfl) (by kernel_rfl) (laidMetH_of_parts3 (fuel := 8) (laidMet_of_run' 8 (by kernel_rfl) (by kernel_rfl)) (by kernel_rfl) (by kernel_rfl))) ?_
  case hs =>
    intro ds gs h h2
    match ds, h, gs, h2 with
    | [d0], _, [], _ => rfl
  intro W base args ds gs p hval0 hA0 hlt hsz hL0
  have hL : laidMet Tryz.prog Rows.fnExactStatementTextRow.laid W := by rw [← MakeChecks.laidMetH_plain _ _ _ (by kernel_rfl)]; exact hL0
  have hval : ∀ (j : Nat) t v, Tryz.f3.params[j]? = some t → args[j]? = some v → Value.okWide Tryz.prog W .any base t v := hval0
  have hA : DataW.TrodAll enc Tryz.prog W 0 (fun _ => true) true Tryz.f3.params.toList args.toList ds p := hA0
  rw [Tryz.params3] at hA hval
  obtain ⟨v0, vs0, d0, ds0, p0, q0, hargs, rfl, rfl, h0, r0⟩ := trodAll_cons hA
  obtain ⟨rfl, rfl, rfl⟩ := trodAll_nil r0
  obtain rfl : args = #[v0] := by cases args; simp_all
  obtain ⟨x0, R0⟩ := open_stmt (hval 0 32 v0 rfl rfl) h0
  exact StatementTextLaw.walk v0 x0 W R0.1 R0.2 (tabP_of_laid (laidMet.tail (laidMet.tail hL)))

theorem statementText_holds_row : Rows.FnExactStatementTextSaid :=
  OpenClaim.holds_of_wide 3 Tryz.f3 rfl rfl rfl rfl rfl rfl rfl ⟨rfl, rfl, rfl, rfl, rfl⟩ rfl rfl rfl rfl rfl (by kernel_rfl) Tryz.func3 (by kernel_rfl)
    (of_decide_eq_true (by kernel_rfl)) (by unfold Func.isWrapper; rw [if_neg (of_decide_eq_false (by kernel_rfl))]; exact ⟨rfl, rfl⟩)
    (fun os started H enc _ => StatementTextLaw.lifted os started H enc)
theorem statementText_holds : Rows.FnExactStatementTextCardSaid :=
  Claim7.holds_tied_plain_at .later [] Rows.fnExactStatementTextCard.laidKinds true Rows.fnExactStatementTextCard.stood.harness Rows.fnExactStatementTextCard.stood.looks statementText_holds_row (fun _ h => by cases h) (by kernel_rfl) (fun _ h => by cases h) fnExactStatementText_row_tie rfl ⟨rfl, rfl⟩ (by kernel_rfl) rfl
    (fun f fn hf hfn => by
      obtain rfl : f = 3 := Option.some.inj ((show Tryz.prog.funcNamed "loop.example/g01169/laws.FnExactStatementText" = some 3 by kernel_rfl).symm.trans hf) |>.symm
      obtain rfl : fn = Tryz.f3 := (Option.some.inj (Tryz.func3.symm.trans hfn)).symm
      exact ⟨by kernel_rfl, fun j t ht => by
        rw [Tryz.params3] at ht
        have hm : t ∈ [32] := by simpa using Array.mem_of_getElem? ht
        have hall : ([32].all fun u => !Tryz.prog.wantsStandIn u) = true := by kernel_rfl
        exact (show Tryz.prog.wantsStandIn t = false by simpa using List.all_eq_true.1 hall t hm)⟩)
    (by kernel_rfl)
#print axioms statementText_holds
end Go.Proofs.YtiedombphcdpbaaGreatDoor
