/-
  PROVED: for every pattern, valid or not, and every list of sizes, BlowUp of the program answers as the model's does, and its arguments are left as they were. Conditions: none.
-/
import Derived.Test.YtfnjgdocmfmfgaaBlB
import Derived.Deep.RegionHeld3
namespace Go.Proofs.Ytfnjgdocmfmfgaa
open Go.ChangeShapes Go.WideShapes Go.ChangeAt Go.RowKit
set_option maxRecDepth 100000
theorem cells_i64 : Try.prog.cellsOf 2 = 1 := by kernel_rfl
theorem open_i64s {H : Type} {enc : TypeId × Value → H} {W : World} {base : Nat} {v : Value} {d : DataW H} {p : List MemPlace} (hv : Value.okWide Try.prog W .any base 46 v) (h : DataW.Trod enc Try.prog W 0 (fun _ => true) true 46 v d p) :
    ∃ zs : List Int, SlI W v zs := by
  obtain ⟨a0, len, cap, rfl⟩ := okWide_slice Try.underlying46 hv
  obtain ⟨fuel, hf⟩ := h
  rcases open_ints Try.underlying46 Try.underlying2 cells_i64 hf with ⟨hcs, hx⟩ | ⟨a, len', cap', zs, hcs, _, hl, hm, hz, hx, hcell, hwz⟩
  · simp only [Value.cells] at hcs
    cases hcs
    exact ⟨[], none, 0, rfl, by simp, by simp, fun c => absurd rfl c⟩
  · simp only [Value.cells] at hcs
    cases hcs
    simp only [if_true] at hz
    refine ⟨zs.take len, some a, cap, by rw [List.length_take]; congr 1; omega, by rw [List.length_take]; omega, by unfold maxLen at hm; omega, fun hne => ?_⟩
    have hlen : 0 < zs.length := by
      rcases Nat.eq_zero_or_pos zs.length with h0 | h0
      · exact absurd (by rw [List.length_eq_zero_iff.1 h0]; exact List.take_nil) hne
      · exact h0
    obtain ⟨b, off, rfl, hc⟩ := ints_at hcell hlen
    have hlt : b < W.heap.size := by
      have := hc 0 hlen
      unfold World.cell? at this
      rcases Nat.lt_or_ge b W.heap.size with h1 | h1
      · exact h1
      · simp [Array.getElem?_eq_none h1] at this
    refine ⟨b, off, rfl, hlt, fun i hi => ?_⟩
    rw [List.length_take] at hi
    rw [hc i (by omega), List.getElem?_take]
    rw [if_pos (by omega)]
    simp [List.getD]

namespace BlowUpLaw
theorem walk_long0 (v v2 : Value) (X : PM) (zs : List Int) (w : World) (h : PatS w v X) (hS : SlI w v2 zs) (hm : 1048576 < zs.length) :
    Calls Try.prog 8 #[v, v2] w fun r w' => r = .returned (.bool true) ∧ Below w.heap.size w w' := by
  obtain ⟨u, rfl, a, cap, rfl, _⟩ := h
  obtain ⟨a2, cap2, rfl, _⟩ := hS
  have hd : decide ((1048576 : Int) < (zs.length : Int)) = true := decide_eq_true (by omega)
  obtain ⟨l, hl⟩ : ∃ l : Nat, zs.length = l := ⟨_, rfl⟩
  rw [hl] at hd ⊢
  clear hl hm
  go_enter Try.func8, Try.ntmps8
  go_wp2
  go_ret
  exact ⟨rfl, by (repeat (first | exact Below.refl _ _ | assumption | refine bchain (by assumption) ?_ | refine balloc ?_ _ | apply Below.drew | apply below_drewN | (refine Below.alloc ?_ (by (try simp) <;> omega) _) | (refine Below.setCell ?_ (by (try simp) <;> omega) _)))⟩
theorem walk_long (v v2 : Value) (X : PM) (zs : List Int) (w : World) (h : PatS w v X) (hS : SlI w v2 zs) (hm2 : zs.length ≤ 1048576) (hm : 1048576 < X.ts.length) :
    Calls Try.prog 8 #[v, v2] w fun r w' => r = .returned (.bool true) ∧ Below w.heap.size w w' := by
  have hC := Lib.hid (fun W (hb : Below w.heap.size w W) => szP_long W v X (h.below hb) hm)
  obtain ⟨u, rfl, a, cap, rfl, _⟩ := h
  obtain ⟨a2, cap2, rfl, _⟩ := hS
  have hd : decide ((1048576 : Int) < (zs.length : Int)) = false := decide_eq_false (by omega)
  obtain ⟨l, hl⟩ : ∃ l : Nat, zs.length = l := ⟨_, rfl⟩
  rw [hl] at hd ⊢
  clear hl hm hm2
  go_enter Try.func8, Try.ntmps8
  go_wp2_with fail
  refine (hC.out _ (by (repeat (first | exact Below.refl _ _ | assumption | refine bchain (by assumption) ?_ | refine balloc ?_ _ | apply Below.drew | apply below_drewN | (refine Below.alloc ?_ (by (try simp) <;> omega) _) | (refine Below.setCell ?_ (by (try simp) <;> omega) _))))).mono ?_
  rintro r1 w1 ⟨rfl, hb1⟩
  go_wp2
  go_ret
  exact ⟨rfl, by (repeat (first | exact Below.refl _ _ | assumption | refine bchain (by assumption) ?_ | refine balloc ?_ _ | apply Below.drew | apply below_drewN | (refine Below.alloc ?_ (by (try simp) <;> omega) _) | (refine Below.setCell ?_ (by (try simp) <;> omega) _)))⟩
set_option maxHeartbeats 8000000 in
theorem walk_short (v v2 : Value) (X : PM) (zs : List Int) (w : World) (h : PatS w v X) (hbd : BdP X) (hS : SlI w v2 zs) (hm2 : zs.length ≤ 1048576) (hm : X.ts.length ≤ 1048576) :
    Calls Try.prog 8 #[v, v2] w fun r w' => r = .returned (.bool true) ∧ Below w.heap.size w w' := by
  obtain ⟨m, f, c, hs, hi⟩ := bl_both X hbd zs
  unfold RetGr at hs hi
  replace hs := Lib.hid hs
  replace hi := Lib.hid hi
  have hC := Lib.hid (fun W (hb : Below w.heap.size w W) => szP_ok W v X (h.below hb) hm)
  have hT := Lib.hid (fun W (hb : Below w.heap.size w W) => toP_any W v X (h.below hb) hm)
  have hTi := Lib.hid (fun W (hb : Below w.heap.size w W) => toI_any W v2 zs (hS.below hb) hm2)
  have hE := Lib.hid (fun W u u' (h : Fr.SlG W u X.ts) (h' : Fr.SlG W u' X.ts) => eqP_any W u u' X h h' hm)
  have hEi := Lib.hid (fun W u u' (h : SlI W u zs) (h' : SlI W u' zs) => eqI_any W u u' zs h h' hm2)
  have hEg := Lib.hid (fun W => eqGraph_any W m f)
  have hl0 : 0 ≤ 1048576 - (X.ts.length : Int) := by omega
  obtain ⟨q, hq⟩ : ∃ q : Int, 1048576 - (X.ts.length : Int) = q := ⟨_, rfl⟩
  rw [hq] at hC hl0
  obtain ⟨u, rfl, a, cap, rfl, _⟩ := h
  obtain ⟨a2, cap2, rfl, _⟩ := hS
  have hd : decide ((1048576 : Int) < (zs.length : Int)) = false := decide_eq_false (by omega)
  obtain ⟨l, hl⟩ : ∃ l : Nat, zs.length = l := ⟨_, rfl⟩
  rw [hl] at hd hTi ⊢
  replace hl := Lib.hid hl
  obtain ⟨W0, hW0⟩ : ∃ W0, W0 = w.alloc (.cells #[.int .i64 X.n, .int .u32 X.e, .int .u32 X.s, .slice a X.ts.length cap] 27) := ⟨_, rfl⟩
  have hB0 : Below w.heap.size w W0 := by rw [hW0]; (repeat (first | exact Below.refl _ _ | assumption | refine bchain (by assumption) ?_ | refine balloc ?_ _ | apply Below.drew | apply below_drewN | (refine Below.alloc ?_ (by (try simp) <;> omega) _) | (refine Below.setCell ?_ (by (try simp) <;> omega) _)))
  have k1 : PB W0 w.heap.size X.n X.e X.s (.slice a X.ts.length cap) := by rw [hW0]; exact PB.made w _ _ _ _ _
  replace hW0 := Lib.hid hW0
  clear hm hq hbd hm2
  obtain ⟨_, x0, x1, x2, x3, _⟩ := id k1
  go_enter Try.func8, Try.ntmps8
  go_wp2_with fail
  rw [← hW0.out]
  go_wp2_with fail
  refine (hC.out _ hB0).mono ?_
  rintro r1 w1 ⟨rfl, hb1⟩
  clear x0 x1 x2 x3
  obtain ⟨_, x0, x1, x2, x3, _⟩ := k1.below hb1
  go_wp2_with fail
  refine (hT.out _ (bchain hb1 hB0)).mono ?_
  rintro r3 w3 ⟨⟨u3, rfl, hU3⟩, hb3⟩
  have D3 : Below W0.heap.size W0 w3 := bchain hb3 hb1
  clear x0 x1 x2 x3
  go_wp2_with fail
  refine (hTi.out _ (bchain D3 hB0)).mono ?_
  rintro r4 w4 ⟨⟨u4, rfl, hU4⟩, hb4⟩
  have D4 : Below W0.heap.size W0 w4 := bchain hb4 D3
  go_wp2_with fail
  refine (hs.out _ _ _ (hU3.sl.below hb4) hU4).mono ?_
  rintro r5 w5 ⟨rfl, hb5⟩
  have D5 : Below W0.heap.size W0 w5 := bchain hb5 D4
  clear hb1 hb3 hb4 hb5 hU3 hU4 D3 D4
  obtain ⟨WU, hWU⟩ : ∃ WU, WU = w5.alloc (.cells #[.int .i64 m, .int .u32 f] 30) := ⟨_, rfl⟩
  have sU : GB WU w5.heap.size m f := by rw [hWU]; exact GB.made _ _ _ _
  have bU : Below w5.heap.size w5 WU := by rw [hWU]; exact balloc (Below.refl _ _) _
  replace hWU := Lib.hid hWU
  have D5' : Below W0.heap.size W0 WU := bchain bU D5
  have hnU : w.heap.size ≠ w5.heap.size := by have := k1.lt; have := D5.size; omega
  clear bU
  obtain ⟨_, x0, x1, x2, x3, _⟩ := k1.below D5
  obtain ⟨_, y0, y1, y2, y3, _⟩ := k1.below D5'
  clear D5
  go_wp2_with fail
  rw [← hWU.out]
  go_wp2_with fail
  refine (hT.out _ (bchain D5' hB0)).mono ?_
  rintro r6 w6 ⟨⟨u6, rfl, hU6⟩, hb6⟩
  have E6 : Below WU.heap.size WU w6 := hb6
  obtain ⟨a6, c6, rfl, _⟩ := id hU6
  clear x0 x1 x2 x3 y0 y1 y2 y3 hb6
  obtain ⟨WX, hWX⟩ : ∃ WX, WX = w6.alloc (.cells #[.int .i64 X.n, .int .u32 X.e, .int .u32 X.s, (.slice a6 X.ts.length c6)] 33) := ⟨_, rfl⟩
  have sX : PB WX w6.heap.size X.n X.e X.s (.slice a6 X.ts.length c6) := by rw [hWX]; exact PB.made _ _ _ _ _ _
  have bX : Below w6.heap.size w6 WX := by rw [hWX]; exact balloc (Below.refl _ _) _
  replace hWX := Lib.hid hWX
  have E6' : Below WU.heap.size WU WX := bchain bX E6
  have hU6' := Lib.hid (hU6.sl.below bX)
  clear hU6 bX
  go_wp2_with fail
  rw [← hWX.out]
  go_wp2_with fail
  refine (hTi.out _ (bchain E6' (bchain D5' hB0))).mono ?_
  rintro r7 w7 ⟨⟨u7, rfl, hU7⟩, hb7⟩
  have E7 : Below WU.heap.size WU w7 := bchain hb7 E6'
  have sX7 := sX.below hb7
  have hU67 := Lib.hid (hU6'.out.below hb7)
  replace hU7 := Lib.hid hU7
  clear hb7 hU6' E6' sX
  obtain ⟨_, x0, x1, x2, x3, _⟩ := id sX7
  go_wp2_with fail
  refine (hi.out _ _ _ hU67.out hU7.out).mono ?_
  rintro r8 w8 ⟨rfl, hb8⟩
  have E8 : Below WU.heap.size WU w8 := bchain hb8 E7
  have sX8 := sX7.below hb8
  have hU68 := Lib.hid (hU67.out.below hb8)
  have hU78 := Lib.hid (hU7.out.below hb8)
  clear x0 x1 x2 x3 hb8 sX7 hU67 hU7 E7
  obtain ⟨WV, hWV⟩ : ∃ WV, WV = w8.alloc (.cells #[.int .i64 m, .int .u32 f] 30) := ⟨_, rfl⟩
  have sV : GB WV w8.heap.size m f := by rw [hWV]; exact GB.made _ _ _ _
  have bV : Below w8.heap.size w8 WV := by rw [hWV]; exact balloc (Below.refl _ _) _
  replace hWV := Lib.hid hWV
  have E8' : Below WU.heap.size WU WV := bchain bV E8
  have hnV : w5.heap.size ≠ w8.heap.size := by have := sU.lt; have := E8.size; omega
  have sX9 := sX8.below bV
  have hU69 := Lib.hid (hU68.out.below bV)
  have hU79 := Lib.hid (hU78.out.below bV)
  obtain ⟨_, y0, y1, _⟩ := sU.below E8
  clear sX8 hU68 hU78
  have d1 : (c != c) = false := by simp
  go_wp2_with fail
  rw [← hWV.out]
  refine (hEg.out _).mono ?_
  rintro r9 w9 ⟨rfl, hb9⟩
  have E9 : Below WU.heap.size WU w9 := bchain hb9 E8'
  have s1' := Lib.hid (sX9.below hb9)
  have hU6z := Lib.hid (hU69.out.below hb9)
  have hU7z := Lib.hid (hU79.out.below hb9)
  have k1' := Lib.hid (k1.below (bchain E9 D5'))
  have hBB9 := bchain (bchain E9 D5') hB0
  clear y0 y1 sX9 hU69 hU79 hb9 E8 E8' bV
  obtain ⟨_, x0, x1, x2, x3, _⟩ := s1'.out
  obtain ⟨_, y0, y1, y2, y3, _⟩ := k1'.out
  have E9' := Lib.hid E9
  clear E9
  go_wp2_with fail
  go_region_held3 (fun A => (A.cell? ⟨w.heap.size, 0, none⟩ = some (.int .i64 X.n) ∧ A.cell? ⟨w.heap.size, 1, none⟩ = some (.int .u32 X.e) ∧ A.cell? ⟨w.heap.size, 2, none⟩ = some (.int .u32 X.s) ∧ A.cell? ⟨w.heap.size, 3, none⟩ = some (.slice a X.ts.length cap)) ∧ A.cell? ⟨w6.heap.size, 0, none⟩ = some (.int .i64 X.n) ∧ A.cell? ⟨w6.heap.size, 1, none⟩ = some (.int .u32 X.e) ∧ A.cell? ⟨w6.heap.size, 2, none⟩ = some (.int .u32 X.s) ∧ A.cell? ⟨w6.heap.size, 3, none⟩ = some (.slice a6 X.ts.length c6))
    (exact ⟨⟨(k1'.out.below (by (repeat (first | exact Below.refl _ _ | assumption | refine bchain (by assumption) ?_ | refine balloc ?_ _ | apply Below.drew | apply below_drewN | (refine Below.alloc ?_ (by (try simp) <;> omega) _) | (refine Below.setCell ?_ (by (try simp) <;> omega) _))))).c0, (k1'.out.below (by (repeat (first | exact Below.refl _ _ | assumption | refine bchain (by assumption) ?_ | refine balloc ?_ _ | apply Below.drew | apply below_drewN | (refine Below.alloc ?_ (by (try simp) <;> omega) _) | (refine Below.setCell ?_ (by (try simp) <;> omega) _))))).c1, (k1'.out.below (by (repeat (first | exact Below.refl _ _ | assumption | refine bchain (by assumption) ?_ | refine balloc ?_ _ | apply Below.drew | apply below_drewN | (refine Below.alloc ?_ (by (try simp) <;> omega) _) | (refine Below.setCell ?_ (by (try simp) <;> omega) _))))).c2, (k1'.out.below (by (repeat (first | exact Below.refl _ _ | assumption | refine bchain (by assumption) ?_ | refine balloc ?_ _ | apply Below.drew | apply below_drewN | (refine Below.alloc ?_ (by (try simp) <;> omega) _) | (refine Below.setCell ?_ (by (try simp) <;> omega) _))))).c3⟩, (s1'.out.below (by (repeat (first | exact Below.refl _ _ | assumption | refine bchain (by assumption) ?_ | refine balloc ?_ _ | apply Below.drew | apply below_drewN | (refine Below.alloc ?_ (by (try simp) <;> omega) _) | (refine Below.setCell ?_ (by (try simp) <;> omega) _))))).c0, (s1'.out.below (by (repeat (first | exact Below.refl _ _ | assumption | refine bchain (by assumption) ?_ | refine balloc ?_ _ | apply Below.drew | apply below_drewN | (refine Below.alloc ?_ (by (try simp) <;> omega) _) | (refine Below.setCell ?_ (by (try simp) <;> omega) _))))).c1, (s1'.out.below (by (repeat (first | exact Below.refl _ _ | assumption | refine bchain (by assumption) ?_ | refine balloc ?_ _ | apply Below.drew | apply below_drewN | (refine Below.alloc ?_ (by (try simp) <;> omega) _) | (refine Below.setCell ?_ (by (try simp) <;> omega) _))))).c2, (s1'.out.below (by (repeat (first | exact Below.refl _ _ | assumption | refine bchain (by assumption) ?_ | refine balloc ?_ _ | apply Below.drew | apply below_drewN | (refine Below.alloc ?_ (by (try simp) <;> omega) _) | (refine Below.setCell ?_ (by (try simp) <;> omega) _))))).c3⟩)
    (first
    | (go_at_call 15; with_reducible refine (hT.out _ hBB9.drew).mono ?_; rintro r10 w10 ⟨⟨u10, rfl, hU10⟩, hb10⟩)
    | (go_at_call 17; with_reducible refine (hE.out _ _ _ (hU6z.out.below (by (repeat (first | exact Below.refl _ _ | assumption | refine bchain (by assumption) ?_ | refine balloc ?_ _ | apply Below.drew | apply below_drewN | (refine Below.alloc ?_ (by (try simp) <;> omega) _) | (refine Below.setCell ?_ (by (try simp) <;> omega) _))))) hU10.sl).mono ?_; rintro r11 w11 ⟨rfl, hb11⟩))
  have b911 : Below w9.heap.size w9 w11 := bchain hb11 (bchain hb10 (Below.refl _ w9).drew)
  have E11 : Below w.heap.size w w11 := bchain b911 hBB9
  have hU7y := Lib.hid (hU7z.out.below b911)
  clear hb10 hb11 hU10 k1' x0 x1 x2 x3 y0 y1 y2 y3 E9' b911 hU6z hU7z s1'
  go_wp2_with fail
  refine (hTi.out _ E11).mono ?_
  rintro r12 w12 ⟨⟨u12, rfl, hU12⟩, hb12⟩
  go_wp2_with fail
  refine (hEi.out _ _ _ (hU7y.out.below hb12) hU12).mono ?_
  rintro r13 w13 ⟨rfl, hb13⟩
  have Dz := bchain hb13 (bchain hb12 E11)
  go_wp2
  go_ret
  exact ⟨rfl, Dz⟩
theorem walk (v : Value) (X : PM) (v2 : Value) (zs : List Int) (w : World) (h : PatS w v X) (hb : BdP X) (hS : SlI w v2 zs) :
    Calls Try.prog 8 #[v, v2] w fun r w' => r = .returned (.bool true) ∧ Below w.heap.size w w' := by
  by_cases c0 : 1048576 < zs.length
  · exact walk_long0 v v2 X zs w h hS c0
  · rcases Nat.lt_or_ge 1048576 X.ts.length with c | c
    · exact walk_long v v2 X zs w h hS (by omega) c
    · exact walk_short v v2 X zs w h hb hS (by omega) c
end BlowUpLaw
theorem BlowUpLaw.lifted (os : Os) (started : os.Started) (H : Type) (enc : TypeId × Value → H) :
    ReturnsInHanded {} Try.checked os 8 .any (Rows.fnExactBlowUpSpec.pre6 enc Try.prog Try.f8 Rows.fnExactBlowUpRow.domain false)
      (Rows.fnExactBlowUpSpec.post enc Try.prog Try.f8 false true false false) := by
  refine fr_lift (C := Try.checked) own started (by kernel_rfl) Try.func8 laid_out rfl (by kernel_rfl) (tb := 4) rfl Try.underlying4 ?hs
    (ChangeSpec.witness6 (enc := enc) (C := Try.checked) false ⟨#[], #[.agg #[.int .i64 0, .int .u32 0, .int .u32 0, .slice none 0 0], .slice none 0 0], []⟩ 8 (by kernel_rfl) (by kernel_rfl) (by kernel_rfl) (by kernel_rfl)) ?_
  case hs =>
    intro ds h
    match ds, h with
    | [d0, d1], _ => rfl
  intro W base args ds p hval0 hA0 hlt hsz
  have hval : ∀ (j : Nat) t v, Try.f8.params[j]? = some t → args[j]? = some v → Value.okWide Try.prog W .any base t v := hval0
  have hA : DataW.TrodAll enc Try.prog W 0 (fun _ => true) true Try.f8.params.toList args.toList ds p := hA0
  rw [Try.params8] at hA hval
  obtain ⟨v0, vs0, d0, ds0, p0, q0, hargs, rfl, rfl, h0, r0⟩ := trodAll_cons hA
  obtain ⟨v1, vs1, d1, ds1, p1, q1, rfl, rfl, rfl, h1, r1⟩ := trodAll_cons r0
  obtain ⟨rfl, rfl, rfl⟩ := trodAll_nil r1
  obtain rfl : args = #[v0, v1] := by cases args; simp_all
  obtain ⟨x0, R0⟩ := open_pat (hval 0 27 v0 rfl rfl) h0
  obtain ⟨x1, R1⟩ := open_i64s (hval 1 46 v1 rfl rfl) h1
  exact BlowUpLaw.walk v0 x0 v1 x1 W R0.1 R0.2 R1

theorem blowUp_holds : Rows.FnExactBlowUpSaid :=
  OpenClaim.holds_of_wide 8 Try.f8 rfl rfl rfl rfl rfl rfl rfl ⟨rfl, rfl, rfl, rfl, rfl⟩ rfl rfl rfl rfl rfl (by kernel_rfl) Try.func8 (by kernel_rfl)
    (of_decide_eq_true (by kernel_rfl)) (by unfold Func.isWrapper; rw [if_neg (of_decide_eq_false (by kernel_rfl))]; exact ⟨rfl, rfl⟩)
    (fun os started H enc _ => BlowUpLaw.lifted os started H enc)
#print axioms blowUp_holds
end Go.Proofs.Ytfnjgdocmfmfgaa
