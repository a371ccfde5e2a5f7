/-
  PROVED: for every pattern and every graph, valid or not, FirstMapOf of the program answers as the model's does, its result is the call's own memory, and its arguments are left as they were. Conditions: none.
-/
import Derived.Test.YtfnjgdocmfmfgaaFiB
import Derived.Test.YtfnjgdocmfmfgaaOpenGsP
import Derived.Deep.RegionHeld3
namespace Go.Proofs.Ytfnjgdocmfmfgaa
open Go.ChangeShapes Go.WideShapes Go.ChangeAt Go.RowKit
set_option maxRecDepth 100000
namespace FirstMapOfLaw
theorem walk_long (v : Value) (X : PM) (n e : Int) (w : World) (h : PatS w v X) (hm : 1048576 < X.ts.length) :
    Calls Try.prog 10 #[v, .agg #[.int .i64 n, .int .u32 e]] w fun r w' => r = .returned (.bool true) ∧ Below w.heap.size w w' := by
  have hC := Lib.hid (fun W (hb : Below w.heap.size w W) => szP_long W v X (h.below hb) hm)
  obtain ⟨u, rfl, a, cap, rfl, _⟩ := h
  clear hm
  go_enter Try.func10, Try.ntmps10
  go_wp2_with fail
  refine (hC.out _ (by (repeat (first | exact Below.refl _ _ | assumption | refine bchain (by assumption) ?_ | refine balloc ?_ _ | apply Below.drew | apply below_drewN | (refine Below.alloc ?_ (by (try simp) <;> omega) _) | (refine Below.setCell ?_ (by (try simp) <;> omega) _))))).mono ?_
  rintro r1 w1 ⟨rfl, hb1⟩
  go_wp2
  go_ret
  exact ⟨rfl, by (repeat (first | exact Below.refl _ _ | assumption | refine bchain (by assumption) ?_ | refine balloc ?_ _ | apply Below.drew | apply below_drewN | (refine Below.alloc ?_ (by (try simp) <;> omega) _) | (refine Below.setCell ?_ (by (try simp) <;> omega) _)))⟩
set_option maxHeartbeats 8000000 in
theorem walk_short (v : Value) (X : PM) (n e : Int) (w : World) (h : PatS w v X) (hbd : BdP X) (h0 : 0 ≤ e) (he : e < 4294967296) (hm : X.ts.length ≤ 1048576) :
    Calls Try.prog 10 #[v, .agg #[.int .i64 n, .int .u32 e]] w fun r w' => r = .returned (.bool true) ∧ Below w.heap.size w w' := by
  obtain ⟨l, f, c, hl, hs, hi⟩ := fi_both X hbd n e h0 he
  unfold RetNL at hs hi
  replace hs := Lib.hid hs
  replace hi := Lib.hid hi
  have hC := Lib.hid (fun W (hb : Below w.heap.size w W) => szP_ok W v X (h.below hb) hm)
  have hT := Lib.hid (fun W (hb : Below w.heap.size w W) => toP_any W v X (h.below hb) hm)
  have hE := Lib.hid (fun W u u' (h : Fr.SlG W u X.ts) (h' : Fr.SlG W u' X.ts) => eqP_any W u u' X h h' hm)
  have hG := Lib.hid (fun W => toGraph_any W n e)
  have hEL := Lib.hid (fun W u u' (h : SlI W u (lst l f)) (h' : SlI W u' (lst l f)) => eqI_any W u u' (lst l f) h h' (by rw [lst_length]; omega))
  have hMX := Lib.hid (fun W w1 u (h : OwnF w1 W u X.ts) => markP_any W w1 u X.n X.e X.s X.ts.length 1 _ (by omega) (by omega) h)
  have hMV := Lib.hid (fun W w1 u (hb : Below w1.heap.size w1 W) (h : OwnI w1 W u l f) => markI_any W w1 hb u l 1 f (by omega) (by omega) h)
  have hHV := Lib.hid (fun W w1 u (h : OwnI w1 W u l (fun i => ((1 + i : Nat) : Int))) => heldI_any W w1 u l 1 (by omega) (by omega) h)
  obtain ⟨k1, hk1⟩ : ∃ k1 : Int, ((1 : Nat) : Int) + (X.ts.length : Int) * 2 = k1 := ⟨_, rfl⟩
  have hk0 : 0 ≤ k1 := by omega
  simp only [hk1] at hMX
  obtain ⟨z, hz⟩ : ∃ z : Nat, 1 + l = z := ⟨_, rfl⟩
  have hzz : z ≤ 6 := by omega
  rw [hz] at hMV hHV
  have hl0 : 0 ≤ 1048576 - (X.ts.length : Int) := by omega
  obtain ⟨u, rfl, a, cap, rfl, _⟩ := h
  obtain ⟨q, hq⟩ : ∃ q : Int, 1048576 - (X.ts.length : Int) = q := ⟨_, rfl⟩
  rw [hq] at hC hl0
  obtain ⟨W0, hW0⟩ : ∃ W0, W0 = (w.alloc (.cells #[.int .i64 X.n, .int .u32 X.e, .int .u32 X.s, .slice a X.ts.length cap] 27)).alloc (.cells #[.int .i64 n, .int .u32 e] 24) := ⟨_, rfl⟩
  have hB0 : Below w.heap.size w W0 := by rw [hW0]; (repeat (first | exact Below.refl _ _ | assumption | refine bchain (by assumption) ?_ | refine balloc ?_ _ | apply Below.drew | apply below_drewN | (refine Below.alloc ?_ (by (try simp) <;> omega) _) | (refine Below.setCell ?_ (by (try simp) <;> omega) _)))
  have kx : PB W0 w.heap.size X.n X.e X.s (.slice a X.ts.length cap) := by rw [hW0]; exact (PB.made w _ _ _ _ _).below (balloc (Below.refl _ _) _)
  have gx : GB W0 (w.heap.size + 1) n e := by
    rw [hW0, show w.heap.size + 1 = (w.alloc (.cells #[.int .i64 X.n, .int .u32 X.e, .int .u32 X.s, .slice a X.ts.length cap] 27)).heap.size by simp]
    exact GB.made _ _ _ _
  replace hW0 := Lib.hid hW0
  clear hm hq hz hk1 hbd h0 he
  obtain ⟨_, x0, x1, x2, x3, _⟩ := id kx
  go_enter Try.func10, Try.ntmps10
  go_wp2_with fail
  rw [← hW0.out]
  go_wp2_with fail
  refine (hC.out _ hB0).mono ?_
  rintro r1 w1 ⟨rfl, hb1⟩
  clear x0 x1 x2 x3
  have kx1 := Lib.hid (kx.below hb1)
  have gx1 := Lib.hid (gx.below hb1)
  have hBB1 := bchain hb1 hB0
  obtain ⟨_, x0, x1, x2, x3, _⟩ := kx1.out
  obtain ⟨_, y0, y1, _⟩ := gx1.out
  go_wp2_with fail
  go_region_held3 (fun A => (A.cell? ⟨w.heap.size, 0, none⟩ = some (.int .i64 X.n) ∧ A.cell? ⟨w.heap.size, 1, none⟩ = some (.int .u32 X.e) ∧ A.cell? ⟨w.heap.size, 2, none⟩ = some (.int .u32 X.s) ∧ A.cell? ⟨w.heap.size, 3, none⟩ = some (.slice a X.ts.length cap)) ∧ (A.cell? ⟨w.heap.size + 1, 0, none⟩ = some (.int .i64 n) ∧ A.cell? ⟨w.heap.size + 1, 1, none⟩ = some (.int .u32 e)))
    (exact ⟨⟨(kx1.out.below (by (repeat (first | exact Below.refl _ _ | assumption | refine bchain (by assumption) ?_ | refine balloc ?_ _ | apply Below.drew | apply below_drewN | (refine Below.alloc ?_ (by (try simp) <;> omega) _) | (refine Below.setCell ?_ (by (try simp) <;> omega) _))))).c0, (kx1.out.below (by (repeat (first | exact Below.refl _ _ | assumption | refine bchain (by assumption) ?_ | refine balloc ?_ _ | apply Below.drew | apply below_drewN | (refine Below.alloc ?_ (by (try simp) <;> omega) _) | (refine Below.setCell ?_ (by (try simp) <;> omega) _))))).c1, (kx1.out.below (by (repeat (first | exact Below.refl _ _ | assumption | refine bchain (by assumption) ?_ | refine balloc ?_ _ | apply Below.drew | apply below_drewN | (refine Below.alloc ?_ (by (try simp) <;> omega) _) | (refine Below.setCell ?_ (by (try simp) <;> omega) _))))).c2, (kx1.out.below (by (repeat (first | exact Below.refl _ _ | assumption | refine bchain (by assumption) ?_ | refine balloc ?_ _ | apply Below.drew | apply below_drewN | (refine Below.alloc ?_ (by (try simp) <;> omega) _) | (refine Below.setCell ?_ (by (try simp) <;> omega) _))))).c3⟩, ⟨(gx1.out.below (by (repeat (first | exact Below.refl _ _ | assumption | refine bchain (by assumption) ?_ | refine balloc ?_ _ | apply Below.drew | apply below_drewN | (refine Below.alloc ?_ (by (try simp) <;> omega) _) | (refine Below.setCell ?_ (by (try simp) <;> omega) _))))).c0, (gx1.out.below (by (repeat (first | exact Below.refl _ _ | assumption | refine bchain (by assumption) ?_ | refine balloc ?_ _ | apply Below.drew | apply below_drewN | (refine Below.alloc ?_ (by (try simp) <;> omega) _) | (refine Below.setCell ?_ (by (try simp) <;> omega) _))))).c1⟩⟩)
    (first
    | (go_at_call 15; with_reducible refine (hT.out _ (by (repeat (first | exact Below.refl _ _ | assumption | refine bchain (by assumption) ?_ | refine balloc ?_ _ | apply Below.drew | apply below_drewN | (refine Below.alloc ?_ (by (try simp) <;> omega) _) | (refine Below.setCell ?_ (by (try simp) <;> omega) _))))).mono ?_; rintro r2 w2 ⟨⟨u2, rfl, hU2⟩, hb2⟩)
    | (go_at_call 21; with_reducible refine (hG.out _).mono ?_; rintro r3 w3 ⟨rfl, hb3⟩)
    | (go_at_call 39; with_reducible refine (hs.out _ _ (hU2.sl.below (by (repeat (first | exact Below.refl _ _ | assumption | refine bchain (by assumption) ?_ | refine balloc ?_ _ | apply Below.drew | apply below_drewN | (refine Below.alloc ?_ (by (try simp) <;> omega) _) | (refine Below.setCell ?_ (by (try simp) <;> omega) _)))))).mono ?_; rintro r4 w4 ⟨⟨U, rfl, hU⟩, hb4⟩))
  have D4 : Below W0.heap.size W0 w4 := by (repeat (first | exact Below.refl _ _ | assumption | refine bchain (by assumption) ?_ | refine balloc ?_ _ | apply Below.drew | apply below_drewN | (refine Below.alloc ?_ (by (try simp) <;> omega) _) | (refine Below.setCell ?_ (by (try simp) <;> omega) _)))
  have hU4 := Lib.hid hU.sl
  clear hb1 hb2 hb3 hb4 hU2 hU x0 x1 x2 x3 y0 y1 kx1 gx1 hBB1
  obtain ⟨_, x0, x1, x2, x3, _⟩ := kx.below D4
  go_wp2_with fail
  refine (hT.out _ (bchain D4 hB0)).mono ?_
  rintro r5 w5 ⟨⟨u5, rfl, hX⟩, hb5⟩
  have E5 : Below w4.heap.size w4 w5 := hb5
  have hz45 := hb5.size
  obtain ⟨a5, c5, rfl, _⟩ := id hX
  clear x0 x1 x2 x3 hb5
  obtain ⟨WX, hWX⟩ : ∃ WX, WX = w5.alloc (.cells #[.int .i64 X.n, .int .u32 X.e, .int .u32 X.s, (.slice a5 X.ts.length c5)] 33) := ⟨_, rfl⟩
  have sX : PB WX w5.heap.size X.n X.e X.s (.slice a5 X.ts.length c5) := by rw [hWX]; exact PB.made _ _ _ _ _ _
  have bX : Below w5.heap.size w5 WX := by rw [hWX]; exact balloc (Below.refl _ _) _
  replace hWX := Lib.hid hWX
  have E5' : Below w4.heap.size w4 WX := bchain bX E5
  have hX5 := Lib.hid (OwnF.below hX bX)
  have hXb := Lib.hid (fun b (h : 0 < X.ts.length ∧ Value.ownBlock (.slice a5 X.ts.length c5) = some b) => OwnV.block hX h.1 h.2)
  have hzX := bX.size
  clear hX bX E5
  go_wp2_with fail
  rw [← hWX.out]
  have sX' := Lib.hid sX
  have gxX := Lib.hid (gx.below (bchain E5' D4))
  have hXsl := Lib.hid hX5.out.sl
  obtain ⟨_, x0, x1, x2, x3, _⟩ := id sX
  obtain ⟨_, y0, y1, _⟩ := gxX.out
  go_wp2_with fail
  go_region_held3 (fun A => (A.cell? ⟨w5.heap.size, 0, none⟩ = some (.int .i64 X.n) ∧ A.cell? ⟨w5.heap.size, 1, none⟩ = some (.int .u32 X.e) ∧ A.cell? ⟨w5.heap.size, 2, none⟩ = some (.int .u32 X.s) ∧ A.cell? ⟨w5.heap.size, 3, none⟩ = some (.slice a5 X.ts.length c5)) ∧ (A.cell? ⟨w.heap.size + 1, 0, none⟩ = some (.int .i64 n) ∧ A.cell? ⟨w.heap.size + 1, 1, none⟩ = some (.int .u32 e)))
    (exact ⟨⟨(sX'.out.below (by (repeat (first | exact Below.refl _ _ | assumption | refine bchain (by assumption) ?_ | refine balloc ?_ _ | apply Below.drew | apply below_drewN | (refine Below.alloc ?_ (by (try simp) <;> omega) _) | (refine Below.setCell ?_ (by (try simp) <;> omega) _))))).c0, (sX'.out.below (by (repeat (first | exact Below.refl _ _ | assumption | refine bchain (by assumption) ?_ | refine balloc ?_ _ | apply Below.drew | apply below_drewN | (refine Below.alloc ?_ (by (try simp) <;> omega) _) | (refine Below.setCell ?_ (by (try simp) <;> omega) _))))).c1, (sX'.out.below (by (repeat (first | exact Below.refl _ _ | assumption | refine bchain (by assumption) ?_ | refine balloc ?_ _ | apply Below.drew | apply below_drewN | (refine Below.alloc ?_ (by (try simp) <;> omega) _) | (refine Below.setCell ?_ (by (try simp) <;> omega) _))))).c2, (sX'.out.below (by (repeat (first | exact Below.refl _ _ | assumption | refine bchain (by assumption) ?_ | refine balloc ?_ _ | apply Below.drew | apply below_drewN | (refine Below.alloc ?_ (by (try simp) <;> omega) _) | (refine Below.setCell ?_ (by (try simp) <;> omega) _))))).c3⟩, ⟨(gxX.out.below (by (repeat (first | exact Below.refl _ _ | assumption | refine bchain (by assumption) ?_ | refine balloc ?_ _ | apply Below.drew | apply below_drewN | (refine Below.alloc ?_ (by (try simp) <;> omega) _) | (refine Below.setCell ?_ (by (try simp) <;> omega) _))))).c0, (gxX.out.below (by (repeat (first | exact Below.refl _ _ | assumption | refine bchain (by assumption) ?_ | refine balloc ?_ _ | apply Below.drew | apply below_drewN | (refine Below.alloc ?_ (by (try simp) <;> omega) _) | (refine Below.setCell ?_ (by (try simp) <;> omega) _))))).c1⟩⟩)
    (first
    | (go_at_call 21; with_reducible refine (hG.out _).mono ?_; rintro r6 w6 ⟨rfl, hb6⟩)
    | (go_at_call 40; with_reducible refine (hi.out _ _ (hXsl.out.below (by (repeat (first | exact Below.refl _ _ | assumption | refine bchain (by assumption) ?_ | refine balloc ?_ _ | apply Below.drew | apply below_drewN | (refine Below.alloc ?_ (by (try simp) <;> omega) _) | (refine Below.setCell ?_ (by (try simp) <;> omega) _)))))).mono ?_; rintro r7 w7 ⟨⟨V, rfl, hV⟩, hb7⟩))
  have bX7 : Below WX.heap.size WX w7 := by (repeat (first | exact Below.refl _ _ | assumption | refine bchain (by assumption) ?_ | refine balloc ?_ _ | apply Below.drew | apply below_drewN | (refine Below.alloc ?_ (by (try simp) <;> omega) _) | (refine Below.setCell ?_ (by (try simp) <;> omega) _)))
  have hz6 : w5.heap.size ≤ w6.heap.size := by have := hb6.size; simp at this; omega
  have E7 : Below w4.heap.size w4 w7 := bchain bX7 E5'
  have sX7 := Lib.hid (sX.below bX7)
  have hX7 := Lib.hid (OwnF.below hX5.out bX7)
  obtain ⟨WB, hWBz, hV⟩ : ∃ WB : World, w5.heap.size ≤ WB.heap.size ∧ OwnI WB w7 V l f := ⟨_, (by first | exact hz6 | simpa using hz6), hV⟩
  replace hV := Lib.hid hV
  clear hb6 hb7 hX5 sX sX' gxX hXsl x0 x1 x2 x3 y0 y1 bX7 E5' hz6
  have d1 : (c != c) = false := by simp
  go_wp2_with fail
  refine (hEL.out _ _ _ hV.out.sl (hU4.out.below E7)).mono ?_
  rintro r9 w9 ⟨rfl, hb9⟩
  have E9 : Below w4.heap.size w4 w9 := bchain hb9 E7
  have hV9 := Lib.hid (hV.out.below hb9)
  have sX9 := Lib.hid (sX7.out.below hb9)
  have hX9 := Lib.hid (OwnF.below hX7.out hb9)
  clear hV sX7 hX7 hb9 E7
  have kx9 := Lib.hid (kx.below (bchain E9 D4))
  have hBB9 := bchain (bchain E9 D4) hB0
  obtain ⟨_, x0, x1, x2, x3, _⟩ := sX9.out
  obtain ⟨_, y0, y1, y2, y3, _⟩ := kx9.out
  have E9' := Lib.hid E9
  have D4'' := Lib.hid D4
  clear E9 D4
  go_wp2_with fail
  go_region_held3 (fun A => (A.cell? ⟨w.heap.size, 0, none⟩ = some (.int .i64 X.n) ∧ A.cell? ⟨w.heap.size, 1, none⟩ = some (.int .u32 X.e) ∧ A.cell? ⟨w.heap.size, 2, none⟩ = some (.int .u32 X.s) ∧ A.cell? ⟨w.heap.size, 3, none⟩ = some (.slice a X.ts.length cap)) ∧ (A.cell? ⟨w5.heap.size, 0, none⟩ = some (.int .i64 X.n) ∧ A.cell? ⟨w5.heap.size, 1, none⟩ = some (.int .u32 X.e) ∧ A.cell? ⟨w5.heap.size, 2, none⟩ = some (.int .u32 X.s) ∧ A.cell? ⟨w5.heap.size, 3, none⟩ = some (.slice a5 X.ts.length c5)))
    (exact ⟨⟨(kx9.out.below (by (repeat (first | exact Below.refl _ _ | assumption | refine bchain (by assumption) ?_ | refine balloc ?_ _ | apply Below.drew | apply below_drewN | (refine Below.alloc ?_ (by (try simp) <;> omega) _) | (refine Below.setCell ?_ (by (try simp) <;> omega) _))))).c0, (kx9.out.below (by (repeat (first | exact Below.refl _ _ | assumption | refine bchain (by assumption) ?_ | refine balloc ?_ _ | apply Below.drew | apply below_drewN | (refine Below.alloc ?_ (by (try simp) <;> omega) _) | (refine Below.setCell ?_ (by (try simp) <;> omega) _))))).c1, (kx9.out.below (by (repeat (first | exact Below.refl _ _ | assumption | refine bchain (by assumption) ?_ | refine balloc ?_ _ | apply Below.drew | apply below_drewN | (refine Below.alloc ?_ (by (try simp) <;> omega) _) | (refine Below.setCell ?_ (by (try simp) <;> omega) _))))).c2, (kx9.out.below (by (repeat (first | exact Below.refl _ _ | assumption | refine bchain (by assumption) ?_ | refine balloc ?_ _ | apply Below.drew | apply below_drewN | (refine Below.alloc ?_ (by (try simp) <;> omega) _) | (refine Below.setCell ?_ (by (try simp) <;> omega) _))))).c3⟩, ⟨(sX9.out.below (by (repeat (first | exact Below.refl _ _ | assumption | refine bchain (by assumption) ?_ | refine balloc ?_ _ | apply Below.drew | apply below_drewN | (refine Below.alloc ?_ (by (try simp) <;> omega) _) | (refine Below.setCell ?_ (by (try simp) <;> omega) _))))).c0, (sX9.out.below (by (repeat (first | exact Below.refl _ _ | assumption | refine bchain (by assumption) ?_ | refine balloc ?_ _ | apply Below.drew | apply below_drewN | (refine Below.alloc ?_ (by (try simp) <;> omega) _) | (refine Below.setCell ?_ (by (try simp) <;> omega) _))))).c1, (sX9.out.below (by (repeat (first | exact Below.refl _ _ | assumption | refine bchain (by assumption) ?_ | refine balloc ?_ _ | apply Below.drew | apply below_drewN | (refine Below.alloc ?_ (by (try simp) <;> omega) _) | (refine Below.setCell ?_ (by (try simp) <;> omega) _))))).c2, (sX9.out.below (by (repeat (first | exact Below.refl _ _ | assumption | refine bchain (by assumption) ?_ | refine balloc ?_ _ | apply Below.drew | apply below_drewN | (refine Below.alloc ?_ (by (try simp) <;> omega) _) | (refine Below.setCell ?_ (by (try simp) <;> omega) _))))).c3⟩⟩)
    (first
    | (go_at_call 15; with_reducible refine (hT.out _ hBB9.drew).mono ?_; rintro r10 w10 ⟨⟨u10, rfl, hU10⟩, hb10⟩)
    | (go_at_call 17; with_reducible refine (hE.out _ _ _ (hX9.out.sl.below (by (repeat (first | exact Below.refl _ _ | assumption | refine bchain (by assumption) ?_ | refine balloc ?_ _ | apply Below.drew | apply below_drewN | (refine Below.alloc ?_ (by (try simp) <;> omega) _) | (refine Below.setCell ?_ (by (try simp) <;> omega) _))))) hU10.sl).mono ?_; rintro r11 w11 ⟨rfl, hb11⟩))
  have b911 : Below w9.heap.size w9 w11 := bchain hb11 (bchain hb10 (Below.refl _ w9).drew)
  have E11 : Below w4.heap.size w4 w11 := bchain b911 E9'.out
  have hV11 := Lib.hid (hV9.out.below b911)
  have sX11 := sX9.out.below b911
  have hX11 := Lib.hid (OwnF.below hX9.out b911)
  clear hV9 sX9 hX9 hb10 hb11 hU10 kx9 hBB9 x0 x1 x2 x3 y0 y1 y2 y3 E9' b911
  obtain ⟨_, x0, x1, x2, x3, _⟩ := id sX11
  go_wp2_with fail
  refine (hMX.out _ _ _ hX11.out).mono ?_
  rintro r14 w14 ⟨rfl, hc14, _⟩
  have E14 : Below w4.heap.size w4 w14 := E11.trans (hc14.below (by have := E11.size; omega) (fun b hb => (hXb.out b hb).1))
  have hV14 := Lib.hid (OwnI.base (w0 := w4) (hV11.out.chg hc14 (fun b hb => by have := (hXb.out b hb).2; omega)) (by omega))
  clear hV11 sX11 hX11 hc14 E11 x0 x1 x2 x3
  go_wp2_with fail
  refine (hEL.out _ _ _ hV14.out.sl (hU4.out.below E14)).mono ?_
  rintro r16 w16 ⟨rfl, hb16⟩
  have E16 : Below w4.heap.size w4 w16 := bchain hb16 E14
  have hV16 := Lib.hid (hV14.out.below hb16)
  clear hV14 hb16 E14
  go_wp2_with fail
  refine (hMV.out _ w4 _ E16 hV16.out).mono ?_
  rintro r17 w17 ⟨rfl, hb17, hV17⟩
  have E17 : Below w4.heap.size w4 w17 := E16.trans hb17
  replace hV17 := Lib.hid hV17
  clear hV16 hb17 E16
  go_wp2_with fail
  refine (hHV.out _ w4 _ hV17.out).mono ?_
  rintro r18 w18 ⟨rfl, hb18⟩
  have E18 : Below w4.heap.size w4 w18 := bchain hb18 E17
  have hV18 := Lib.hid (hV17.out.below hb18)
  clear hV17 hb18 E17
  have kx18 := Lib.hid (kx.below (bchain E18 D4''.out))
  have gx18 := Lib.hid (gx.below (bchain E18 D4''.out))
  have hBB18 := bchain (bchain E18 D4''.out) hB0
  have E18' := Lib.hid E18
  clear E18
  obtain ⟨_, x0, x1, x2, x3, _⟩ := kx18.out
  obtain ⟨_, y0, y1, _⟩ := gx18.out
  go_wp2_with fail
  go_region_held3 (fun A => (A.cell? ⟨w.heap.size, 0, none⟩ = some (.int .i64 X.n) ∧ A.cell? ⟨w.heap.size, 1, none⟩ = some (.int .u32 X.e) ∧ A.cell? ⟨w.heap.size, 2, none⟩ = some (.int .u32 X.s) ∧ A.cell? ⟨w.heap.size, 3, none⟩ = some (.slice a X.ts.length cap)) ∧ (A.cell? ⟨w.heap.size + 1, 0, none⟩ = some (.int .i64 n) ∧ A.cell? ⟨w.heap.size + 1, 1, none⟩ = some (.int .u32 e)))
    (exact ⟨⟨(kx18.out.below (by (repeat (first | exact Below.refl _ _ | assumption | refine bchain (by assumption) ?_ | refine balloc ?_ _ | apply Below.drew | apply below_drewN | (refine Below.alloc ?_ (by (try simp) <;> omega) _) | (refine Below.setCell ?_ (by (try simp) <;> omega) _))))).c0, (kx18.out.below (by (repeat (first | exact Below.refl _ _ | assumption | refine bchain (by assumption) ?_ | refine balloc ?_ _ | apply Below.drew | apply below_drewN | (refine Below.alloc ?_ (by (try simp) <;> omega) _) | (refine Below.setCell ?_ (by (try simp) <;> omega) _))))).c1, (kx18.out.below (by (repeat (first | exact Below.refl _ _ | assumption | refine bchain (by assumption) ?_ | refine balloc ?_ _ | apply Below.drew | apply below_drewN | (refine Below.alloc ?_ (by (try simp) <;> omega) _) | (refine Below.setCell ?_ (by (try simp) <;> omega) _))))).c2, (kx18.out.below (by (repeat (first | exact Below.refl _ _ | assumption | refine bchain (by assumption) ?_ | refine balloc ?_ _ | apply Below.drew | apply below_drewN | (refine Below.alloc ?_ (by (try simp) <;> omega) _) | (refine Below.setCell ?_ (by (try simp) <;> omega) _))))).c3⟩, ⟨(gx18.out.below (by (repeat (first | exact Below.refl _ _ | assumption | refine bchain (by assumption) ?_ | refine balloc ?_ _ | apply Below.drew | apply below_drewN | (refine Below.alloc ?_ (by (try simp) <;> omega) _) | (refine Below.setCell ?_ (by (try simp) <;> omega) _))))).c0, (gx18.out.below (by (repeat (first | exact Below.refl _ _ | assumption | refine bchain (by assumption) ?_ | refine balloc ?_ _ | apply Below.drew | apply below_drewN | (refine Below.alloc ?_ (by (try simp) <;> omega) _) | (refine Below.setCell ?_ (by (try simp) <;> omega) _))))).c1⟩⟩)
    (first
    | (go_at_call 15; with_reducible refine (hT.out _ (by (repeat (first | exact Below.refl _ _ | assumption | refine bchain (by assumption) ?_ | refine balloc ?_ _ | apply Below.drew | apply below_drewN | (refine Below.alloc ?_ (by (try simp) <;> omega) _) | (refine Below.setCell ?_ (by (try simp) <;> omega) _))))).mono ?_; rintro r19 w19 ⟨⟨u19, rfl, hU19⟩, hb19⟩)
    | (go_at_call 21; with_reducible refine (hG.out _).mono ?_; rintro r20 w20 ⟨rfl, hb20⟩)
    | (go_at_call 40; with_reducible refine (hi.out _ _ (hU19.sl.below (by (repeat (first | exact Below.refl _ _ | assumption | refine bchain (by assumption) ?_ | refine balloc ?_ _ | apply Below.drew | apply below_drewN | (refine Below.alloc ?_ (by (try simp) <;> omega) _) | (refine Below.setCell ?_ (by (try simp) <;> omega) _)))))).mono ?_; rintro r21 w21 ⟨⟨Z, rfl, hZ⟩, hb21⟩))
  have b21 : Below w18.heap.size w18 w21 := by (repeat (first | exact Below.refl _ _ | assumption | refine bchain (by assumption) ?_ | refine balloc ?_ _ | apply Below.drew | apply below_drewN | (refine Below.alloc ?_ (by (try simp) <;> omega) _) | (refine Below.setCell ?_ (by (try simp) <;> omega) _)))
  have E21 : Below w4.heap.size w4 w21 := bchain b21 E18'.out
  have hV21 := Lib.hid (hV18.out.below b21)
  have hZ21 := Lib.hid hZ.sl
  clear hb19 hb20 hb21 hU19 hZ hV18 kx18 gx18 x0 x1 x2 x3 y0 y1 b21 E18' hBB18
  go_wp2_with fail
  refine (hEL.out _ _ _ hZ21.out (hU4.out.below E21)).mono ?_
  rintro r23 w23 ⟨rfl, hb23⟩
  have E23 : Below w4.heap.size w4 w23 := bchain hb23 E21
  have hV23 := Lib.hid (hV21.out.below hb23)
  clear hV21 hb23 E21 hZ21
  go_wp2_with fail
  refine (hHV.out _ w4 _ hV23.out).mono ?_
  rintro r24 w24 ⟨rfl, hb24⟩
  have Dz := bchain (bchain (bchain hb24 E23) D4''.out) hB0
  clear hV23
  go_wp2
  go_ret
  exact ⟨rfl, Dz⟩
theorem walk (v : Value) (X : PM) (n e : Int) (_hn : (Lit.int .i64 n).wf = true) (he : (Lit.int .u32 e).wf = true) (w : World) (h : PatS w v X) (hb : BdP X) :
    Calls Try.prog 10 #[v, .agg #[.int .i64 n, .int .u32 e]] w fun r w' => r = .returned (.bool true) ∧ Below w.heap.size w w' := by
  have bd := bounds_u32 he
  rcases Nat.lt_or_ge 1048576 X.ts.length with c | c
  · exact walk_long v X n e w h c
  · exact walk_short v X n e w h hb bd.1 (by have := bd.2; omega) c
end FirstMapOfLaw
theorem FirstMapOfLaw.lifted (os : Os) (started : os.Started) (H : Type) (enc : TypeId × Value → H) :
    ReturnsInHanded {} Try.checked os 10 .any (Rows.fnExactFirstMapOfSpec.pre6 enc Try.prog Try.f10 Rows.fnExactFirstMapOfRow.domain false)
      (Rows.fnExactFirstMapOfSpec.post enc Try.prog Try.f10 false true false false) := by
  refine fr_lift (C := Try.checked) own started (by kernel_rfl) Try.func10 laid_out rfl (by kernel_rfl) (tb := 4) rfl Try.underlying4 ?hs
    (ChangeSpec.witness6 (enc := enc) (C := Try.checked) false ⟨#[], #[.agg #[.int .i64 0, .int .u32 0, .int .u32 0, .slice none 0 0], .agg #[.int .i64 0, .int .u32 0]], []⟩ 8 (by kernel_rfl) (by kernel_rfl) (by kernel_rfl) (by kernel_rfl)) ?_
  case hs =>
    intro ds h
    match ds, h with
    | [d0, d1], _ => rfl
  intro W base args ds p hval0 hA0 hlt hsz
  have hval : ∀ (j : Nat) t v, Try.f10.params[j]? = some t → args[j]? = some v → Value.okWide Try.prog W .any base t v := hval0
  have hA : DataW.TrodAll enc Try.prog W 0 (fun _ => true) true Try.f10.params.toList args.toList ds p := hA0
  rw [Try.params10] at hA hval
  obtain ⟨v0, vs0, d0, ds0, p0, q0, hargs, rfl, rfl, h0, r0⟩ := trodAll_cons hA
  obtain ⟨v1, vs1, d1, ds1, p1, q1, rfl, rfl, rfl, h1, r1⟩ := trodAll_cons r0
  obtain ⟨rfl, rfl, rfl⟩ := trodAll_nil r1
  obtain rfl : args = #[v0, v1] := by cases args; simp_all
  obtain ⟨x0, R0⟩ := open_pat (hval 0 27 v0 rfl rfl) h0
  obtain ⟨a1, b1, rfl, w1, u1⟩ := open_lgraph (hval 1 24 v1 rfl rfl) h1
  exact FirstMapOfLaw.walk v0 x0 a1 b1 w1 u1 W R0.1 R0.2

theorem firstMapOf_holds : Rows.FnExactFirstMapOfSaid :=
  OpenClaim.holds_of_wide 10 Try.f10 rfl rfl rfl rfl rfl rfl rfl ⟨rfl, rfl, rfl, rfl, rfl⟩ rfl rfl rfl rfl rfl (by kernel_rfl) Try.func10 (by kernel_rfl)
    (of_decide_eq_true (by kernel_rfl)) (by unfold Func.isWrapper; rw [if_neg (of_decide_eq_false (by kernel_rfl))]; exact ⟨rfl, rfl⟩)
    (fun os started H enc _ => FirstMapOfLaw.lifted os started H enc)
#print axioms firstMapOf_holds
end Go.Proofs.Ytfnjgdocmfmfgaa
