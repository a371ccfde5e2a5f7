/-
  PROVED: for every pattern, valid or not, OppositePattern of the program answers as the model's does, twice alike; its arguments are left as they were, and the result is new memory that may be written. Conditions: none.
-/
import Derived.Test.YtfnjgdocmfmfgaaPt
import Derived.Test.YtfnjgdocmfmfgaaPos
import Derived.Deep.RegionHeld3
namespace Go.Proofs.Ytfnjgdocmfmfgaa
open Go.ChangeShapes Go.WideShapes Go.ChangeAt Go.RowKit
set_option maxRecDepth 100000
namespace OppositePatternLaw
theorem walk_long (v : Value) (X : PM) (w : World) (h : PatS w v X) (hm : 1048576 < X.ts.length) :
    Calls Try.prog 7 #[v] w fun r w' => r = .returned (.bool true) ∧ Below w.heap.size w w' := by
  have hC := Lib.hid (fun W (hb : Below w.heap.size w W) => szP_long W v X (h.below hb) hm)
  obtain ⟨u, rfl, a, cap, rfl, _⟩ := h
  clear hm
  go_enter Try.func7, Try.ntmps7
  go_wp2_with fail
  refine (hC.out _ (by (repeat (first | exact Below.refl _ _ | assumption | refine bchain (by assumption) ?_ | refine balloc ?_ _ | apply Below.drew | apply below_drewN | (refine Below.alloc ?_ (by (try simp) <;> omega) _) | (refine Below.setCell ?_ (by (try simp) <;> omega) _))))).mono ?_
  rintro r1 w1 ⟨rfl, hb1⟩
  go_wp2
  go_ret
  exact ⟨rfl, by (repeat (first | exact Below.refl _ _ | assumption | refine bchain (by assumption) ?_ | refine balloc ?_ _ | apply Below.drew | apply below_drewN | (refine Below.alloc ?_ (by (try simp) <;> omega) _) | (refine Below.setCell ?_ (by (try simp) <;> omega) _)))⟩
set_option maxHeartbeats 8000000 in
theorem walk_short (v : Value) (X : PM) (w : World) (h : PatS w v X) (hbd : BdP X) (hm : X.ts.length ≤ 1048576) :
    Calls Try.prog 7 #[v] w fun r w' => r = .returned (.bool true) ∧ Below w.heap.size w w' := by
  obtain ⟨L, c, hLl, hs, hi⟩ := po_both X hbd
  unfold RetP at hs hi
  replace hs := Lib.hid hs
  replace hi := Lib.hid hi
  have hC := Lib.hid (fun W (hb : Below w.heap.size w W) => szP_ok W v X (h.below hb) hm)
  have hT := Lib.hid (fun W (hb : Below w.heap.size w W) => toP_any W v X (h.below hb) hm)
  have hE := Lib.hid (fun W u u' (h : Fr.SlG W u X.ts) (h' : Fr.SlG W u' X.ts) => eqP_any W u u' X h h' hm)
  have hEL := Lib.hid (fun W u u' (h : Fr.SlG W u L.ts) (h' : Fr.SlG W u' L.ts) => eqP_any W u u' L h h' (by omega))
  have hMX := Lib.hid (fun W w1 u (h : OwnF w1 W u X.ts) => markP_any W w1 u X.n X.e X.s X.ts.length 1 _ (by omega) (by omega) h)
  have hMV := Lib.hid (fun W w1 u (h : OwnF w1 W u L.ts) => markP_any W w1 u L.n L.e L.s L.ts.length 1 _ (by omega) (by omega) h)
  have hHV := Lib.hid (fun W w1 u f (h : OwnV w1 W u L.ts.length 2 (mkF 1 (L.ts.length * 2) f)) => heldP_any W w1 u L.n L.e L.s L.ts.length 1 f (by omega) (by omega) h)
  obtain ⟨k1, hk1⟩ : ∃ k1 : Int, ((1 : Nat) : Int) + (X.ts.length : Int) * 2 = k1 := ⟨_, rfl⟩
  have hk0 : 0 ≤ k1 := by omega
  simp only [hk1] at hMX
  have hl0 : 0 ≤ 1048576 - (X.ts.length : Int) := by omega
  obtain ⟨u, rfl, a, cap, rfl, _⟩ := h
  obtain ⟨q, hq⟩ : ∃ q : Int, 1048576 - (X.ts.length : Int) = q := ⟨_, rfl⟩
  rw [hq] at hC hl0
  obtain ⟨z, hz⟩ : ∃ z : Int, ((1 : Nat) : Int) + (L.ts.length : Int) * 2 = z := ⟨_, rfl⟩
  have hz0 : 0 ≤ z := by omega
  simp only [hz] at hMV hHV
  obtain ⟨W0, hW0⟩ : ∃ W0, W0 = w.alloc (.cells #[.int .i64 X.n, .int .u32 X.e, .int .u32 X.s, .slice a X.ts.length cap] 27) := ⟨_, rfl⟩
  have hB0 : Below w.heap.size w W0 := by rw [hW0]; (repeat (first | exact Below.refl _ _ | assumption | refine bchain (by assumption) ?_ | refine balloc ?_ _ | apply Below.drew | apply below_drewN | (refine Below.alloc ?_ (by (try simp) <;> omega) _) | (refine Below.setCell ?_ (by (try simp) <;> omega) _)))
  have kx : PB W0 w.heap.size X.n X.e X.s (.slice a X.ts.length cap) := by rw [hW0]; exact PB.made w _ _ _ _ _
  replace hW0 := Lib.hid hW0
  clear hm hq hz hk1 hbd
  obtain ⟨_, x0, x1, x2, x3, _⟩ := id kx
  go_enter Try.func7, Try.ntmps7
  go_wp2_with fail
  rw [← hW0.out]
  go_wp2_with fail
  refine (hC.out _ hB0).mono ?_
  rintro r1 w1 ⟨rfl, hb1⟩
  clear x0 x1 x2 x3
  obtain ⟨_, x0, x1, x2, x3, _⟩ := kx.below hb1
  go_wp2_with fail
  refine (hT.out _ (bchain hb1 hB0)).mono ?_
  rintro r2 w2 ⟨⟨u2, rfl, hU2⟩, hb2⟩
  have D2 : Below W0.heap.size W0 w2 := bchain hb2 hb1
  clear x0 x1 x2 x3
  go_wp2_with fail
  refine (hs.out _ _ hU2.sl).mono ?_
  rintro r4 w4 ⟨⟨U, rfl, hU⟩, hb4⟩
  have D4 : Below W0.heap.size W0 w4 := bchain hb4 D2
  obtain ⟨aU, cU, rfl, _⟩ := id hU
  clear hb1 hb2 hb4 hU2 D2
  obtain ⟨WU, hWU⟩ : ∃ WU, WU = w4.alloc (.cells #[.int .i64 L.n, .int .u32 L.e, .int .u32 L.s, (.slice aU L.ts.length cU)] 33) := ⟨_, rfl⟩
  have sU : PB WU w4.heap.size L.n L.e L.s (.slice aU L.ts.length cU) := by rw [hWU]; exact PB.made _ _ _ _ _ _
  have bU : Below w4.heap.size w4 WU := by rw [hWU]; exact balloc (Below.refl _ _) _
  replace hWU := Lib.hid hWU
  have D4' : Below W0.heap.size W0 WU := bchain bU D4
  have hU4 := Lib.hid (OwnF.below hU bU).sl
  have hn4 : w.heap.size ≠ w4.heap.size := by have := kx.lt; have := D4.size; omega
  obtain ⟨_, x0, x1, x2, x3, _⟩ := kx.below D4
  obtain ⟨_, y0, y1, y2, y3, _⟩ := kx.below D4'
  clear hU D4 bU
  go_wp2_with fail
  rw [← hWU.out]
  go_wp2_with fail
  refine (hT.out _ (bchain D4' hB0)).mono ?_
  rintro r5 w5 ⟨⟨u5, rfl, hX⟩, hb5⟩
  have E5 : Below WU.heap.size WU w5 := hb5
  have E5z := hb5.size
  obtain ⟨a5, c5, rfl, _⟩ := id hX
  clear x0 x1 x2 x3 y0 y1 y2 y3 hb5
  obtain ⟨WX, hWX⟩ : ∃ WX, WX = w5.alloc (.cells #[.int .i64 X.n, .int .u32 X.e, .int .u32 X.s, (.slice a5 X.ts.length c5)] 33) := ⟨_, rfl⟩
  have sX : PB WX w5.heap.size X.n X.e X.s (.slice a5 X.ts.length c5) := by rw [hWX]; exact PB.made _ _ _ _ _ _
  have bX : Below w5.heap.size w5 WX := by rw [hWX]; exact balloc (Below.refl _ _) _
  replace hWX := Lib.hid hWX
  have E5' : Below WU.heap.size WU WX := bchain bX E5
  have hX5 := Lib.hid (OwnF.below hX bX)
  have hXb := Lib.hid (fun b (h : 0 < X.ts.length ∧ Value.ownBlock (.slice a5 X.ts.length c5) = some b) => OwnV.block hX h.1 h.2)
  clear hX bX E5
  go_wp2_with fail
  rw [← hWX.out]
  obtain ⟨_, x0, x1, x2, x3, _⟩ := id sX
  go_wp2_with fail
  refine (hi.out _ _ hX5.out.sl).mono ?_
  rintro r7 w7 ⟨⟨V, rfl, hV⟩, hb7⟩
  have hVb := Lib.hid (fun b (h : 0 < L.ts.length ∧ Value.ownBlock V = some b) => OwnV.block hV h.1 h.2)
  obtain ⟨aV, cV, rfl, _⟩ := id hV
  have E7 : Below WU.heap.size WU w7 := bchain hb7 E5'
  have hz67 := hb7.size
  clear x0 x1 x2 x3
  obtain ⟨WV, hWV⟩ : ∃ WV, WV = w7.alloc (.cells #[.int .i64 L.n, .int .u32 L.e, .int .u32 L.s, (.slice aV L.ts.length cV)] 33) := ⟨_, rfl⟩
  have sV : PB WV w7.heap.size L.n L.e L.s (.slice aV L.ts.length cV) := by rw [hWV]; exact PB.made _ _ _ _ _ _
  have bV : Below w7.heap.size w7 WV := by rw [hWV]; exact balloc (Below.refl _ _) _
  replace hWV := Lib.hid hWV
  have hb8 : Below WX.heap.size WX WV := bchain bV hb7
  have E8 : Below WU.heap.size WU WV := bchain hb8 E5'
  have hV8 := Lib.hid (OwnF.below hV bV)
  have sX8 := sX.below hb8
  have hX8 := Lib.hid (OwnF.below hX5.out hb8)
  have hn7 : w4.heap.size ≠ w7.heap.size := by have := sU.lt; have := E7.size; omega
  clear hV bV hb7 hb8 hX5 E5'
  obtain ⟨_, x0, x1, x2, x3, _⟩ := sU.below E7
  obtain ⟨_, y0, y1, y2, y3, _⟩ := sU.below E8
  obtain ⟨_, z0, z1, z2, z3, _⟩ := id sV
  have d1 : (c != c) = false := by simp
  have d2 : (c == c) = true := by simp
  go_wp2_with fail
  rw [← hWV.out]
  go_wp2_with fail
  refine (hEL.out _ _ _ hV8.out.sl (hU4.out.below E8)).mono ?_
  rintro r9 w9 ⟨rfl, hb9⟩
  have E9 : Below WU.heap.size WU w9 := bchain hb9 E8
  have hV9 := Lib.hid (OwnF.below hV8.out hb9)
  have sV9 := Lib.hid (sV.below hb9)
  have sX9 := Lib.hid (sX8.below hb9)
  have hX9 := Lib.hid (OwnF.below hX8.out hb9)
  clear hV8 sV sX8 hX8 hb9 E7 E8 x0 x1 x2 x3 y0 y1 y2 y3 z0 z1 z2 z3
  have kx9 := Lib.hid (kx.below (bchain E9 D4'))
  have hBB9 := bchain (bchain E9 D4') hB0
  obtain ⟨_, x0, x1, x2, x3, _⟩ := sX9.out
  obtain ⟨_, y0, y1, y2, y3, _⟩ := kx9.out
  have E9' := Lib.hid E9
  have D4'' := Lib.hid D4'
  clear E9 D4'
  go_wp2_with fail
  go_region_held3 (fun A => (A.cell? ⟨w.heap.size, 0, none⟩ = some (.int .i64 X.n) ∧ A.cell? ⟨w.heap.size, 1, none⟩ = some (.int .u32 X.e) ∧ A.cell? ⟨w.heap.size, 2, none⟩ = some (.int .u32 X.s) ∧ A.cell? ⟨w.heap.size, 3, none⟩ = some (.slice a X.ts.length cap)) ∧ A.cell? ⟨w5.heap.size, 0, none⟩ = some (.int .i64 X.n) ∧ A.cell? ⟨w5.heap.size, 1, none⟩ = some (.int .u32 X.e) ∧ A.cell? ⟨w5.heap.size, 2, none⟩ = some (.int .u32 X.s) ∧ A.cell? ⟨w5.heap.size, 3, none⟩ = some (.slice a5 X.ts.length c5))
    (exact ⟨⟨(kx9.out.below (by (repeat (first | exact Below.refl _ _ | assumption | refine bchain (by assumption) ?_ | refine balloc ?_ _ | apply Below.drew | apply below_drewN | (refine Below.alloc ?_ (by (try simp) <;> omega) _) | (refine Below.setCell ?_ (by (try simp) <;> omega) _))))).c0, (kx9.out.below (by (repeat (first | exact Below.refl _ _ | assumption | refine bchain (by assumption) ?_ | refine balloc ?_ _ | apply Below.drew | apply below_drewN | (refine Below.alloc ?_ (by (try simp) <;> omega) _) | (refine Below.setCell ?_ (by (try simp) <;> omega) _))))).c1, (kx9.out.below (by (repeat (first | exact Below.refl _ _ | assumption | refine bchain (by assumption) ?_ | refine balloc ?_ _ | apply Below.drew | apply below_drewN | (refine Below.alloc ?_ (by (try simp) <;> omega) _) | (refine Below.setCell ?_ (by (try simp) <;> omega) _))))).c2, (kx9.out.below (by (repeat (first | exact Below.refl _ _ | assumption | refine bchain (by assumption) ?_ | refine balloc ?_ _ | apply Below.drew | apply below_drewN | (refine Below.alloc ?_ (by (try simp) <;> omega) _) | (refine Below.setCell ?_ (by (try simp) <;> omega) _))))).c3⟩, (sX9.out.below (by (repeat (first | exact Below.refl _ _ | assumption | refine bchain (by assumption) ?_ | refine balloc ?_ _ | apply Below.drew | apply below_drewN | (refine Below.alloc ?_ (by (try simp) <;> omega) _) | (refine Below.setCell ?_ (by (try simp) <;> omega) _))))).c0, (sX9.out.below (by (repeat (first | exact Below.refl _ _ | assumption | refine bchain (by assumption) ?_ | refine balloc ?_ _ | apply Below.drew | apply below_drewN | (refine Below.alloc ?_ (by (try simp) <;> omega) _) | (refine Below.setCell ?_ (by (try simp) <;> omega) _))))).c1, (sX9.out.below (by (repeat (first | exact Below.refl _ _ | assumption | refine bchain (by assumption) ?_ | refine balloc ?_ _ | apply Below.drew | apply below_drewN | (refine Below.alloc ?_ (by (try simp) <;> omega) _) | (refine Below.setCell ?_ (by (try simp) <;> omega) _))))).c2, (sX9.out.below (by (repeat (first | exact Below.refl _ _ | assumption | refine bchain (by assumption) ?_ | refine balloc ?_ _ | apply Below.drew | apply below_drewN | (refine Below.alloc ?_ (by (try simp) <;> omega) _) | (refine Below.setCell ?_ (by (try simp) <;> omega) _))))).c3⟩)
    (first
    | (go_at_call 15; with_reducible refine (hT.out _ hBB9.drew).mono ?_; rintro r10 w10 ⟨⟨u10, rfl, hU10⟩, hb10⟩)
    | (go_at_call 17; with_reducible refine (hE.out _ _ _ (hX9.out.sl.below (by (repeat (first | exact Below.refl _ _ | assumption | refine bchain (by assumption) ?_ | refine balloc ?_ _ | apply Below.drew | apply below_drewN | (refine Below.alloc ?_ (by (try simp) <;> omega) _) | (refine Below.setCell ?_ (by (try simp) <;> omega) _))))) hU10.sl).mono ?_; rintro r11 w11 ⟨rfl, hb11⟩))
  have b911 : Below w9.heap.size w9 w11 := bchain hb11 (bchain hb10 (Below.refl _ w9).drew)
  have E11 : Below WU.heap.size WU w11 := bchain b911 E9'.out
  have hV11 := Lib.hid (OwnF.below hV9.out b911)
  have sV11 := sV9.out.below b911
  have sX11 := sX9.out.below b911
  have hX11 := Lib.hid (OwnF.below hX9.out b911)
  clear hV9 sV9 sX9 hX9 hb10 hb11 hU10 kx9 hBB9 x0 x1 x2 x3 y0 y1 y2 y3 E9' b911
  obtain ⟨_, x0, x1, x2, x3, _⟩ := id sX11
  go_wp2_with fail
  refine (hMX.out _ _ _ hX11.out).mono ?_
  rintro r14 w14 ⟨rfl, hc14, _⟩
  have E14 : Below WU.heap.size WU w14 := E11.trans (hc14.below (by have := E11.size; omega) (fun b hb => (hXb.out b hb).1))
  have hV14 := Lib.hid (OwnV.chg hV11.out hc14 (fun b hb => by have := (hXb.out b hb).2; omega))
  have sV14 := sV11.chg hc14 (fun hb => by have := (hXb.out _ hb).2; omega)
  clear hV11 sV11 sX11 hX11 hc14 E11 x0 x1 x2 x3
  obtain ⟨_, x0, x1, x2, x3, _⟩ := sU.below E14
  obtain ⟨_, z0, z1, z2, z3, _⟩ := id sV14
  go_wp2_with fail
  refine (hEL.out _ _ _ (OwnF.sl hV14.out) (hU4.out.below E14)).mono ?_
  rintro r16 w16 ⟨rfl, hb16⟩
  have E16 : Below WU.heap.size WU w16 := bchain hb16 E14
  have hV16 := Lib.hid (OwnF.below hV14.out hb16)
  have sV16 := sV14.below hb16
  clear hV14 sV14 hb16 E14 x0 x1 x2 x3 z0 z1 z2 z3
  obtain ⟨_, z0, z1, z2, z3, _⟩ := id sV16
  go_wp2_with fail
  refine (hMV.out _ _ _ hV16.out).mono ?_
  rintro r17 w17 ⟨rfl, hc17, hV17⟩
  have E17 : Below WU.heap.size WU w17 := E16.trans (hc17.below (by have := E16.size; omega) (fun b hb => by have := (hVb.out b hb).1; omega))
  have sV17 := sV16.chg hc17 (fun hb => by have := (hVb.out _ hb).2; omega)
  replace hV17 := Lib.hid hV17
  clear hV16 sV16 hc17 E16 z0 z1 z2 z3
  obtain ⟨_, z0, z1, z2, z3, _⟩ := id sV17
  go_wp2_with fail
  refine (hHV.out _ _ _ _ hV17.out).mono ?_
  rintro r18 w18 ⟨rfl, hb18⟩
  have E18 : Below WU.heap.size WU w18 := bchain hb18 E17
  have hV18 := Lib.hid (OwnV.below hV17.out hb18)
  have sV18 := sV17.below hb18
  clear hV17 sV17 hb18 E17 z0 z1 z2 z3
  obtain ⟨_, x0, x1, x2, x3, _⟩ := kx.below (bchain E18 D4''.out)
  go_wp2_with fail
  refine (hT.out _ (bchain (bchain E18 D4''.out) hB0)).mono ?_
  rintro r19 w19 ⟨⟨u19, rfl, hU19⟩, hb19⟩
  clear x0 x1 x2 x3
  go_wp2_with fail
  refine (hi.out _ _ hU19.sl).mono ?_
  rintro r21 w21 ⟨⟨H, rfl, hH⟩, hb21⟩
  have b21 : Below w18.heap.size w18 w21 := bchain hb21 hb19
  have E21 : Below WU.heap.size WU w21 := bchain b21 E18
  have hV21 := Lib.hid (OwnV.below hV18.out b21)
  have sV21 := sV18.below b21
  obtain ⟨aH, cH, rfl, _⟩ := id hH
  clear hV18 sV18 hb19 hb21 hU19 b21 E18
  obtain ⟨WH, hWH⟩ : ∃ WH, WH = w21.alloc (.cells #[.int .i64 L.n, .int .u32 L.e, .int .u32 L.s, (.slice aH L.ts.length cH)] 33) := ⟨_, rfl⟩
  have sH : PB WH w21.heap.size L.n L.e L.s (.slice aH L.ts.length cH) := by rw [hWH]; exact PB.made _ _ _ _ _ _
  have bH : Below w21.heap.size w21 WH := by rw [hWH]; exact balloc (Below.refl _ _) _
  replace hWH := Lib.hid hWH
  have E22 : Below WU.heap.size WU WH := bchain bH E21
  have hH22 := Lib.hid (OwnF.below hH bH).sl
  have hV22 := Lib.hid (OwnV.below hV21.out bH)
  have sV22 := sV21.below bH
  have hn21 : w4.heap.size ≠ w21.heap.size := by have := sU.lt; have := E21.size; omega
  obtain ⟨_, x0, x1, x2, x3, _⟩ := sU.below E21
  obtain ⟨_, y0, y1, y2, y3, _⟩ := sU.below E22
  obtain ⟨_, z0, z1, z2, z3, _⟩ := id sH
  clear hH hV21 sV21 bH E21
  go_wp2_with fail
  rw [← hWH.out]
  go_wp2_with fail
  refine (hEL.out _ _ _ hH22.out (hU4.out.below E22)).mono ?_
  rintro r23 w23 ⟨rfl, hb23⟩
  have E23 : Below WU.heap.size WU w23 := bchain hb23 E22
  have hV23 := Lib.hid (OwnV.below hV22.out hb23)
  have sV23 := sV22.below hb23
  clear hV22 sV22 hb23 E22 hH22 x0 x1 x2 x3 y0 y1 y2 y3 z0 z1 z2 z3
  obtain ⟨_, z0, z1, z2, z3, _⟩ := id sV23
  go_wp2_with fail
  refine (hHV.out _ _ _ _ hV23.out).mono ?_
  rintro r24 w24 ⟨rfl, hb24⟩
  have Dz := bchain (bchain (bchain hb24 E23) D4''.out) hB0
  clear hV23 sV23 z0 z1 z2 z3
  go_wp2
  go_ret
  exact ⟨rfl, Dz⟩
theorem walk (v : Value) (X : PM) (w : World) (h : PatS w v X) (hb : BdP X) :
    Calls Try.prog 7 #[v] w fun r w' => r = .returned (.bool true) ∧ Below w.heap.size w w' := by
  rcases Nat.lt_or_ge 1048576 X.ts.length with c | c
  · exact walk_long v X w h c
  · exact walk_short v X w h hb c
end OppositePatternLaw
theorem OppositePatternLaw.lifted (os : Os) (started : os.Started) (H : Type) (enc : TypeId × Value → H) :
    ReturnsInHanded {} Try.checked os 7 .any (Rows.fnExactOppositePatternSpec.pre6 enc Try.prog Try.f7 Rows.fnExactOppositePatternRow.domain false)
      (Rows.fnExactOppositePatternSpec.post enc Try.prog Try.f7 false true false false) := by
  refine fr_lift (C := Try.checked) own started (by kernel_rfl) Try.func7 laid_out rfl (by kernel_rfl) (tb := 4) rfl Try.underlying4 ?hs
    (ChangeSpec.witness6 (enc := enc) (C := Try.checked) false ⟨#[], #[.agg #[.int .i64 0, .int .u32 0, .int .u32 0, .slice none 0 0]], []⟩ 8 (by kernel_rfl) (by kernel_rfl) (by kernel_rfl) (by kernel_rfl)) ?_
  case hs =>
    intro ds h
    match ds, h with
    | [d0], _ => rfl
  intro W base args ds p hval0 hA0 hlt hsz
  have hval : ∀ (j : Nat) t v, Try.f7.params[j]? = some t → args[j]? = some v → Value.okWide Try.prog W .any base t v := hval0
  have hA : DataW.TrodAll enc Try.prog W 0 (fun _ => true) true Try.f7.params.toList args.toList ds p := hA0
  rw [Try.params7] at hA hval
  obtain ⟨v0, vs0, d0, ds0, p0, q0, hargs, rfl, rfl, h0, r0⟩ := trodAll_cons hA
  obtain ⟨rfl, rfl, rfl⟩ := trodAll_nil r0
  obtain rfl : args = #[v0] := by cases args; simp_all
  obtain ⟨x0, R0⟩ := open_pat (hval 0 27 v0 rfl rfl) h0
  exact OppositePatternLaw.walk v0 x0 W R0.1 R0.2

theorem oppositePattern_holds : Rows.FnExactOppositePatternSaid :=
  OpenClaim.holds_of_wide 7 Try.f7 rfl rfl rfl rfl rfl rfl rfl ⟨rfl, rfl, rfl, rfl, rfl⟩ rfl rfl rfl rfl rfl (by kernel_rfl) Try.func7 (by kernel_rfl)
    (of_decide_eq_true (by kernel_rfl)) (by unfold Func.isWrapper; rw [if_neg (of_decide_eq_false (by kernel_rfl))]; exact ⟨rfl, rfl⟩)
    (fun os started H enc _ => OppositePatternLaw.lifted os started H enc)
#print axioms oppositePattern_holds
end Go.Proofs.Ytfnjgdocmfmfgaa
