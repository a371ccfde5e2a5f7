/-
  PROVED: for every pattern, valid or not, and every list of graphs, IsPatternFree of the program answers as the model's does, and its arguments are left as they were. Conditions: none.
-/
import Derived.Test.YtfnjgdocmfmfgaaIpB
import Derived.Test.YtfnjgdocmfmfgaaOpenGsP
import Derived.Deep.RegionHeld3
namespace Go.Proofs.Ytfnjgdocmfmfgaa
open Go.ChangeShapes Go.WideShapes Go.ChangeAt Go.RowKit
set_option maxRecDepth 100000
section
variable (w : World)
theorem szg_left (a : Option Addr) (l cap : Nat) (q : Int) (hq : q ≤ 1048576) (hl : (l : Int) ≤ q) :
    Calls Try.prog 34 #[.slice a l cap, .int .i64 q] w fun r w' => r = .returned (.int .i64 (q - (l : Int))) ∧ w = w' := by
  go_enter Try.func34, Try.ntmps34
  go_wp2
  go_ret
  exact ⟨rfl, rfl⟩
theorem szg_over (a : Option Addr) (l cap : Nat) (q : Int) (h0 : 0 ≤ q) (hq : q ≤ 1048576) (hl : q < (l : Int)) (hm : l ≤ 9223372036854775807) :
    Calls Try.prog 34 #[.slice a l cap, .int .i64 q] w fun r w' => r = .returned (.int .i64 (-1)) ∧ w = w' := by
  go_enter Try.func34, Try.ntmps34
  go_wp2
  go_ret
  exact ⟨rfl, rfl⟩
end
namespace IsPatternFreeLaw
theorem walk_long (v v2 : Value) (X : PM) (gs : List (Int × Int)) (w : World) (h : PatS w v X) (hS : SlG w v2 gs) (hm : 1048576 < X.ts.length) :
    Calls Try.prog 9 #[v, v2] w fun r w' => r = .returned (.bool true) ∧ Below w.heap.size w w' := by
  have hC := Lib.hid (fun W (hb : Below w.heap.size w W) => szP_long W v X (h.below hb) hm)
  obtain ⟨u, rfl, a, cap, rfl, _⟩ := h
  obtain ⟨a2, cap2, rfl, _⟩ := hS
  clear hm
  go_enter Try.func9, Try.ntmps9
  go_wp2_with fail
  refine (hC.out _ (by (repeat (first | exact Below.refl _ _ | assumption | refine bchain (by assumption) ?_ | refine balloc ?_ _ | apply Below.drew | apply below_drewN | (refine Below.alloc ?_ (by (try simp) <;> omega) _) | (refine Below.setCell ?_ (by (try simp) <;> omega) _))))).mono ?_
  rintro r1 w1 ⟨rfl, hb1⟩
  go_wp2
  go_ret
  exact ⟨rfl, by (repeat (first | exact Below.refl _ _ | assumption | refine bchain (by assumption) ?_ | refine balloc ?_ _ | apply Below.drew | apply below_drewN | (refine Below.alloc ?_ (by (try simp) <;> omega) _) | (refine Below.setCell ?_ (by (try simp) <;> omega) _)))⟩
theorem walk_over (v v2 : Value) (X : PM) (gs : List (Int × Int)) (w : World) (h : PatS w v X) (hS : SlG w v2 gs) (hm : X.ts.length ≤ 1048576) (hm2 : 1048576 - (X.ts.length : Int) < (gs.length : Int)) :
    Calls Try.prog 9 #[v, v2] w fun r w' => r = .returned (.bool true) ∧ Below w.heap.size w w' := by
  have hC := Lib.hid (fun W (hb : Below w.heap.size w W) => szP_ok W v X (h.below hb) hm)
  obtain ⟨u, rfl, a, cap, rfl, _⟩ := h
  obtain ⟨a2, cap2, rfl, hc2, hc3, _⟩ := hS
  have hl0 : 0 ≤ 1048576 - (X.ts.length : Int) := by omega
  have hZ := Lib.hid (fun W => szg_over W a2 gs.length cap2 _ hl0 (by omega) hm2 (by omega))
  obtain ⟨q, hq⟩ : ∃ q : Int, 1048576 - (X.ts.length : Int) = q := ⟨_, rfl⟩
  rw [hq] at hC hl0 hZ
  obtain ⟨l, hl⟩ : ∃ l : Nat, gs.length = l := ⟨_, rfl⟩
  rw [hl] at hZ ⊢
  clear hl hm hm2 hq hc2 hc3
  go_enter Try.func9, Try.ntmps9
  go_wp2_with fail
  refine (hC.out _ (by (repeat (first | exact Below.refl _ _ | assumption | refine bchain (by assumption) ?_ | refine balloc ?_ _ | apply Below.drew | apply below_drewN | (refine Below.alloc ?_ (by (try simp) <;> omega) _) | (refine Below.setCell ?_ (by (try simp) <;> omega) _))))).mono ?_
  rintro r1 w1 ⟨rfl, hb1⟩
  go_wp2_with fail
  refine (hZ.out _).mono ?_
  rintro r2 w2 ⟨rfl, rfl⟩
  go_wp2
  go_ret
  exact ⟨rfl, by (repeat (first | exact Below.refl _ _ | assumption | refine bchain (by assumption) ?_ | refine balloc ?_ _ | apply Below.drew | apply below_drewN | (refine Below.alloc ?_ (by (try simp) <;> omega) _) | (refine Below.setCell ?_ (by (try simp) <;> omega) _)))⟩
set_option maxHeartbeats 8000000 in
theorem walk_short (v v2 : Value) (X : PM) (gs : List (Int × Int)) (w : World) (h : PatS w v X) (hbd : BdP X) (hS : SlG w v2 gs) (hgb : Bd gs) (hm : X.ts.length ≤ 1048576) (hm2 : (gs.length : Int) ≤ 1048576 - (X.ts.length : Int)) :
    Calls Try.prog 9 #[v, v2] w fun r w' => r = .returned (.bool true) ∧ Below w.heap.size w w' := by
  have hg1 : gs.length ≤ 1048576 := by omega
  obtain ⟨z, c, hs, hi⟩ := ip_both X hbd gs hg1 hgb
  unfold RetBC at hs hi
  replace hs := Lib.hid hs
  replace hi := Lib.hid hi
  have hC := Lib.hid (fun W (hb : Below w.heap.size w W) => szP_ok W v X (h.below hb) hm)
  have hT := Lib.hid (fun W (hb : Below w.heap.size w W) => toP_any W v X (h.below hb) hm)
  have hTi := Lib.hid (fun W (hb : Below w.heap.size w W) => toGs_any W v2 gs (hS.below hb) hg1)
  have hE := Lib.hid (fun W u u' (h : Fr.SlG W u X.ts) (h' : Fr.SlG W u' X.ts) => eqP_any W u u' X h h' hm)
  have hEi := Lib.hid (fun W u u' (h : SlG W u gs) (h' : SlG W u' gs) => eqGs_any W u u' gs h h' hg1)
  have hl0 : 0 ≤ 1048576 - (X.ts.length : Int) := by omega
  have hl1 : 0 ≤ 1048576 - (X.ts.length : Int) - (gs.length : Int) := by omega
  obtain ⟨u, rfl, a, cap, rfl, _⟩ := h
  obtain ⟨a2, cap2, rfl, _⟩ := hS
  have hZ := Lib.hid (fun W => szg_left W a2 gs.length cap2 (1048576 - (X.ts.length : Int)) (by omega) hm2)
  obtain ⟨q, hq⟩ : ∃ q : Int, 1048576 - (X.ts.length : Int) = q := ⟨_, rfl⟩
  rw [hq] at hC hl0 hZ hl1
  obtain ⟨l, hl⟩ : ∃ l : Nat, gs.length = l := ⟨_, rfl⟩
  rw [hl] at hTi hZ hl1 ⊢
  replace hl := Lib.hid hl
  obtain ⟨W0, hW0⟩ : ∃ W0, W0 = w.alloc (.cells #[.int .i64 X.n, .int .u32 X.e, .int .u32 X.s, .slice a X.ts.length cap] 27) := ⟨_, rfl⟩
  have hB0 : Below w.heap.size w W0 := by rw [hW0]; (repeat (first | exact Below.refl _ _ | assumption | refine bchain (by assumption) ?_ | refine balloc ?_ _ | apply Below.drew | apply below_drewN | (refine Below.alloc ?_ (by (try simp) <;> omega) _) | (refine Below.setCell ?_ (by (try simp) <;> omega) _)))
  have k1 : PB W0 w.heap.size X.n X.e X.s (.slice a X.ts.length cap) := by rw [hW0]; exact PB.made w _ _ _ _ _
  replace hW0 := Lib.hid hW0
  clear hm hq hbd hm2 hg1 hgb
  obtain ⟨_, x0, x1, x2, x3, _⟩ := id k1
  go_enter Try.func9, Try.ntmps9
  go_wp2_with fail
  rw [← hW0.out]
  go_wp2_with fail
  refine (hC.out _ hB0).mono ?_
  rintro r1 w1 ⟨rfl, hb1⟩
  clear x0 x1 x2 x3
  obtain ⟨_, x0, x1, x2, x3, _⟩ := k1.below hb1
  go_wp2_with fail
  refine (hZ.out _).mono ?_
  rintro r2 w2 ⟨rfl, rfl⟩
  go_wp2_with fail
  refine (hT.out _ (bchain hb1 hB0)).mono ?_
  rintro r3 w3 ⟨⟨u3, rfl, hU3⟩, hb3⟩
  have D3 : Below W0.heap.size W0 w3 := bchain hb3 hb1
  clear x0 x1 x2 x3
  go_wp2_with fail
  refine (hTi.out _ (bchain D3 hB0)).mono ?_
  rintro r4 w4 ⟨⟨u4, rfl, hU4⟩, hb4⟩
  have D4 : Below W0.heap.size W0 w4 := bchain hb4 D3
  go_wp2_with fail
  refine (hs.out _ _ _ (hU3.sl.below hb4) hU4).mono ?_
  rintro r5 w5 ⟨rfl, hb5⟩
  have D5 : Below W0.heap.size W0 w5 := bchain hb5 D4
  clear hb1 hb3 hb4 hb5 hU3 hU4 D3 D4
  obtain ⟨_, x0, x1, x2, x3, _⟩ := k1.below D5
  go_wp2_with fail
  refine (hT.out _ (bchain D5 hB0)).mono ?_
  rintro r6 w6 ⟨⟨u6, rfl, hU6⟩, hb6⟩
  have E6 : Below w5.heap.size w5 w6 := hb6
  obtain ⟨a6, c6, rfl, _⟩ := id hU6
  clear x0 x1 x2 x3 hb6
  obtain ⟨WX, hWX⟩ : ∃ WX, WX = w6.alloc (.cells #[.int .i64 X.n, .int .u32 X.e, .int .u32 X.s, (.slice a6 X.ts.length c6)] 33) := ⟨_, rfl⟩
  have sX : PB WX w6.heap.size X.n X.e X.s (.slice a6 X.ts.length c6) := by rw [hWX]; exact PB.made _ _ _ _ _ _
  have bX : Below w6.heap.size w6 WX := by rw [hWX]; exact balloc (Below.refl _ _) _
  replace hWX := Lib.hid hWX
  have E6' : Below w5.heap.size w5 WX := bchain bX E6
  have hU6' := Lib.hid (hU6.sl.below bX)
  clear hU6 bX
  go_wp2_with fail
  rw [← hWX.out]
  refine (hTi.out _ (bchain E6' (bchain D5 hB0))).mono ?_
  rintro r7 w7 ⟨⟨u7, rfl, hU7⟩, hb7⟩
  have E7 : Below w5.heap.size w5 w7 := bchain hb7 E6'
  have sX7 := sX.below hb7
  have hU67 := Lib.hid (hU6'.out.below hb7)
  replace hU7 := Lib.hid hU7
  clear hb7 hU6' E6' sX
  obtain ⟨_, x0, x1, x2, x3, _⟩ := id sX7
  go_wp2_with fail
  refine (hi.out _ _ _ hU67.out hU7.out).mono ?_
  rintro r8 w8 ⟨rfl, hb8⟩
  have E8 : Below w5.heap.size w5 w8 := bchain hb8 E7
  have s1' := Lib.hid (sX7.below hb8)
  have hU6z := Lib.hid (hU67.out.below hb8)
  have hU7z := Lib.hid (hU7.out.below hb8)
  have k1' := Lib.hid (k1.below (bchain E8 D5))
  have hBB8 := bchain (bchain E8 D5) hB0
  clear x0 x1 x2 x3 hb8 sX7 hU67 hU7 E7 E8
  have d1 : (c != c) = false := by simp
  have d2 : (z != z) = false := by simp
  obtain ⟨_, x0, x1, x2, x3, _⟩ := s1'.out
  obtain ⟨_, y0, y1, y2, y3, _⟩ := k1'.out
  go_wp2_with fail
  go_region_held3 (fun A => (A.cell? ⟨w.heap.size, 0, none⟩ = some (.int .i64 X.n) ∧ A.cell? ⟨w.heap.size, 1, none⟩ = some (.int .u32 X.e) ∧ A.cell? ⟨w.heap.size, 2, none⟩ = some (.int .u32 X.s) ∧ A.cell? ⟨w.heap.size, 3, none⟩ = some (.slice a X.ts.length cap)) ∧ A.cell? ⟨w6.heap.size, 0, none⟩ = some (.int .i64 X.n) ∧ A.cell? ⟨w6.heap.size, 1, none⟩ = some (.int .u32 X.e) ∧ A.cell? ⟨w6.heap.size, 2, none⟩ = some (.int .u32 X.s) ∧ A.cell? ⟨w6.heap.size, 3, none⟩ = some (.slice a6 X.ts.length c6))
    (exact ⟨⟨(k1'.out.below (by (repeat (first | exact Below.refl _ _ | assumption | refine bchain (by assumption) ?_ | refine balloc ?_ _ | apply Below.drew | apply below_drewN | (refine Below.alloc ?_ (by (try simp) <;> omega) _) | (refine Below.setCell ?_ (by (try simp) <;> omega) _))))).c0, (k1'.out.below (by (repeat (first | exact Below.refl _ _ | assumption | refine bchain (by assumption) ?_ | refine balloc ?_ _ | apply Below.drew | apply below_drewN | (refine Below.alloc ?_ (by (try simp) <;> omega) _) | (refine Below.setCell ?_ (by (try simp) <;> omega) _))))).c1, (k1'.out.below (by (repeat (first | exact Below.refl _ _ | assumption | refine bchain (by assumption) ?_ | refine balloc ?_ _ | apply Below.drew | apply below_drewN | (refine Below.alloc ?_ (by (try simp) <;> omega) _) | (refine Below.setCell ?_ (by (try simp) <;> omega) _))))).c2, (k1'.out.below (by (repeat (first | exact Below.refl _ _ | assumption | refine bchain (by assumption) ?_ | refine balloc ?_ _ | apply Below.drew | apply below_drewN | (refine Below.alloc ?_ (by (try simp) <;> omega) _) | (refine Below.setCell ?_ (by (try simp) <;> omega) _))))).c3⟩, (s1'.out.below (by (repeat (first | exact Below.refl _ _ | assumption | refine bchain (by assumption) ?_ | refine balloc ?_ _ | apply Below.drew | apply below_drewN | (refine Below.alloc ?_ (by (try simp) <;> omega) _) | (refine Below.setCell ?_ (by (try simp) <;> omega) _))))).c0, (s1'.out.below (by (repeat (first | exact Below.refl _ _ | assumption | refine bchain (by assumption) ?_ | refine balloc ?_ _ | apply Below.drew | apply below_drewN | (refine Below.alloc ?_ (by (try simp) <;> omega) _) | (refine Below.setCell ?_ (by (try simp) <;> omega) _))))).c1, (s1'.out.below (by (repeat (first | exact Below.refl _ _ | assumption | refine bchain (by assumption) ?_ | refine balloc ?_ _ | apply Below.drew | apply below_drewN | (refine Below.alloc ?_ (by (try simp) <;> omega) _) | (refine Below.setCell ?_ (by (try simp) <;> omega) _))))).c2, (s1'.out.below (by (repeat (first | exact Below.refl _ _ | assumption | refine bchain (by assumption) ?_ | refine balloc ?_ _ | apply Below.drew | apply below_drewN | (refine Below.alloc ?_ (by (try simp) <;> omega) _) | (refine Below.setCell ?_ (by (try simp) <;> omega) _))))).c3⟩)
    (first
    | (go_at_call 15; with_reducible refine (hT.out _ hBB8.drew).mono ?_; rintro r10 w10 ⟨⟨u10, rfl, hU10⟩, hb10⟩)
    | (go_at_call 17; with_reducible refine (hE.out _ _ _ (hU6z.out.below (by (repeat (first | exact Below.refl _ _ | assumption | refine bchain (by assumption) ?_ | refine balloc ?_ _ | apply Below.drew | apply below_drewN | (refine Below.alloc ?_ (by (try simp) <;> omega) _) | (refine Below.setCell ?_ (by (try simp) <;> omega) _))))) hU10.sl).mono ?_; rintro r11 w11 ⟨rfl, hb11⟩))
  have b811 : Below w8.heap.size w8 w11 := bchain hb11 (bchain hb10 (Below.refl _ w8).drew)
  have E11 : Below w.heap.size w w11 := bchain b811 hBB8
  have hU7y := Lib.hid (hU7z.out.below b811)
  clear hb10 hb11 hU10 k1' x0 x1 x2 x3 y0 y1 y2 y3 b811 hU6z hU7z s1'
  go_wp2_with fail
  refine (hTi.out _ E11).mono ?_
  rintro r12 w12 ⟨⟨u12, rfl, hU12⟩, hb12⟩
  go_wp2_with fail
  refine (hEi.out _ _ _ (hU7y.out.below hb12) hU12).mono ?_
  rintro r13 w13 ⟨rfl, hb13⟩
  have Dz := bchain hb13 (bchain hb12 E11)
  go_wp2
  go_ret
  exact ⟨rfl, Dz⟩
theorem walk (v : Value) (X : PM) (v2 : Value) (gs : List (Int × Int)) (w : World) (h : PatS w v X) (hb : BdP X) (hS : SlG w v2 gs ∧ Bd gs) :
    Calls Try.prog 9 #[v, v2] w fun r w' => r = .returned (.bool true) ∧ Below w.heap.size w w' := by
  rcases Nat.lt_or_ge 1048576 X.ts.length with c | c
  · exact walk_long v v2 X gs w h hS.1 c
  · by_cases c2 : 1048576 - (X.ts.length : Int) < (gs.length : Int)
    · exact walk_over v v2 X gs w h hS.1 c c2
    · exact walk_short v v2 X gs w h hb hS.1 hS.2 c (by omega)
end IsPatternFreeLaw
theorem IsPatternFreeLaw.lifted (os : Os) (started : os.Started) (H : Type) (enc : TypeId × Value → H) :
    ReturnsInHanded {} Try.checked os 9 .any (Rows.fnExactIsPatternFreeSpec.pre6 enc Try.prog Try.f9 Rows.fnExactIsPatternFreeRow.domain false)
      (Rows.fnExactIsPatternFreeSpec.post enc Try.prog Try.f9 false true false false) := by
  refine fr_lift (C := Try.checked) own started (by kernel_rfl) Try.func9 laid_out rfl (by kernel_rfl) (tb := 4) rfl Try.underlying4 ?hs
    (ChangeSpec.witness6 (enc := enc) (C := Try.checked) false ⟨#[], #[.agg #[.int .i64 0, .int .u32 0, .int .u32 0, .slice none 0 0], .slice none 0 0], []⟩ 8 (by kernel_rfl) (by kernel_rfl) (by kernel_rfl) (by kernel_rfl)) ?_
  case hs =>
    intro ds h
    match ds, h with
    | [d0, d1], _ => rfl
  intro W base args ds p hval0 hA0 hlt hsz
  have hval : ∀ (j : Nat) t v, Try.f9.params[j]? = some t → args[j]? = some v → Value.okWide Try.prog W .any base t v := hval0
  have hA : DataW.TrodAll enc Try.prog W 0 (fun _ => true) true Try.f9.params.toList args.toList ds p := hA0
  rw [Try.params9] at hA hval
  obtain ⟨v0, vs0, d0, ds0, p0, q0, hargs, rfl, rfl, h0, r0⟩ := trodAll_cons hA
  obtain ⟨v1, vs1, d1, ds1, p1, q1, rfl, rfl, rfl, h1, r1⟩ := trodAll_cons r0
  obtain ⟨rfl, rfl, rfl⟩ := trodAll_nil r1
  obtain rfl : args = #[v0, v1] := by cases args; simp_all
  obtain ⟨x0, R0⟩ := open_pat (hval 0 27 v0 rfl rfl) h0
  obtain ⟨x1, R1⟩ := open_gs (hval 1 53 v1 rfl rfl) h1
  exact IsPatternFreeLaw.walk v0 x0 v1 x1 W R0.1 R0.2 R1

theorem isPatternFree_holds : Rows.FnExactIsPatternFreeSaid :=
  OpenClaim.holds_of_wide 9 Try.f9 rfl rfl rfl rfl rfl rfl rfl ⟨rfl, rfl, rfl, rfl, rfl⟩ rfl rfl rfl rfl rfl (by kernel_rfl) Try.func9 (by kernel_rfl)
    (of_decide_eq_true (by kernel_rfl)) (by unfold Func.isWrapper; rw [if_neg (of_decide_eq_false (by kernel_rfl))]; exact ⟨rfl, rfl⟩)
    (fun os started H enc _ => IsPatternFreeLaw.lifted os started H enc)
#print axioms isPatternFree_holds
end Go.Proofs.Ytfnjgdocmfmfgaa
