/-
  PROVED: for every sum of flags and every list of graphs, LeastValue of the program answers as the model's does, and its arguments are left as they were. Conditions: none.
-/
import Derived.Test.YtfnjgdocmfmfgabLvN2
import Derived.Test.YtfnjgdocmfmfgabLvN1
namespace Go.Proofs.Ytfnjgdocmfmfgab
open Go.ChangeShapes Go.WideShapes Go.ChangeAt Go.RowKit
set_option maxRecDepth 100000
section
variable (w : World)
theorem szgL_ok (a : Option Addr) (l cap : Nat) (q : Int) (hq : q ≤ 1048576) (hl : (l : Int) ≤ q) :
    Calls Try.prog 5 #[.slice a l cap, .int .i64 q] w fun r w' => r = .returned (.int .i64 (q - (l : Int))) ∧ w = w' := by
  go_enter Try.func5, Try.ntmps5
  go_wp2
  go_ret
  exact ⟨rfl, rfl⟩
theorem szgL_over (a : Option Addr) (l cap : Nat) (q : Int) (h0 : 0 ≤ q) (hq : q ≤ 1048576) (hl : q < (l : Int)) (hm : l ≤ 9223372036854775807) :
    Calls Try.prog 5 #[.slice a l cap, .int .i64 q] w fun r w' => r = .returned (.int .i64 (-1)) ∧ w = w' := by
  go_enter Try.func5, Try.ntmps5
  go_wp2
  go_ret
  exact ⟨rfl, rfl⟩
end
namespace LeastValueLaw
theorem walk_long (v v2 : Value) (X : SM) (gs : List (Int × Int)) (w : World) (h : SumS w v X) (h2 : SlG w v2 gs) (hm : 1048576 < X.ts.length) :
    Calls Try.prog 3 #[v, v2] w fun r w' => r = .returned (.bool true) ∧ Below w.heap.size w w' := by
  have hC := Lib.hid (fun W (hb : Below w.heap.size w W) => szS_long W v X (h.below hb) hm)
  obtain ⟨u, rfl, a, cap, rfl, _⟩ := h
  obtain ⟨a2, cap2, rfl, _⟩ := h2
  clear hm
  go_enter Try.func3, Try.ntmps3
  go_wp2_with fail
  refine (hC.out _ (by (repeat (first | exact Below.refl _ _ | assumption | refine bchain (by assumption) ?_ | refine balloc ?_ _ | apply Below.drew | apply below_drewN | (refine Below.alloc ?_ (by (try simp) <;> omega) _) | (refine Below.setCell ?_ (by (try simp) <;> omega) _))))).mono ?_
  rintro r1 w1 ⟨rfl, hb1⟩
  go_wp2
  go_ret
  exact ⟨rfl, by (repeat (first | exact Below.refl _ _ | assumption | refine bchain (by assumption) ?_ | refine balloc ?_ _ | apply Below.drew | apply below_drewN | (refine Below.alloc ?_ (by (try simp) <;> omega) _) | (refine Below.setCell ?_ (by (try simp) <;> omega) _)))⟩
theorem walk_long2 (v v2 : Value) (X : SM) (gs : List (Int × Int)) (w : World) (h : SumS w v X) (h2 : SlG w v2 gs) (hm : X.ts.length ≤ 1048576) (hm2 : 1048576 - (X.ts.length : Int) < gs.length) :
    Calls Try.prog 3 #[v, v2] w fun r w' => r = .returned (.bool true) ∧ Below w.heap.size w w' := by
  have hC := Lib.hid (fun W (hb : Below w.heap.size w W) => szS_ok W v X (h.below hb) hm)
  have hl0 : 0 ≤ 1048576 - (X.ts.length : Int) := by omega
  obtain ⟨u, rfl, a, cap, rfl, _⟩ := h
  obtain ⟨a2, cap2, rfl, g1, g2, _⟩ := h2
  have hD := Lib.hid (fun W => szgL_over W a2 gs.length cap2 (1048576 - (X.ts.length : Int)) (by omega) (by omega) hm2 (by omega))
  obtain ⟨q, hq⟩ : ∃ q : Int, 1048576 - (X.ts.length : Int) = q := ⟨_, rfl⟩
  obtain ⟨gl, hgl⟩ : ∃ gl, gs.length = gl := ⟨_, rfl⟩
  rw [hq] at hC hD hl0
  rw [hgl] at hD ⊢
  clear hm hm2 hq hgl g1 g2
  go_enter Try.func3, Try.ntmps3
  go_wp2_with fail
  refine (hC.out _ (by (repeat (first | exact Below.refl _ _ | assumption | refine bchain (by assumption) ?_ | refine balloc ?_ _ | apply Below.drew | apply below_drewN | (refine Below.alloc ?_ (by (try simp) <;> omega) _) | (refine Below.setCell ?_ (by (try simp) <;> omega) _))))).mono ?_
  rintro r1 w1 ⟨rfl, hb1⟩
  go_wp2_with fail
  refine (hD.out _).mono ?_
  rintro r2 w2 ⟨rfl, rfl⟩
  go_wp2
  go_ret
  exact ⟨rfl, by (repeat (first | exact Below.refl _ _ | assumption | refine bchain (by assumption) ?_ | refine balloc ?_ _ | apply Below.drew | apply below_drewN | (refine Below.alloc ?_ (by (try simp) <;> omega) _) | (refine Below.setCell ?_ (by (try simp) <;> omega) _)))⟩
set_option maxHeartbeats 8000000 in
theorem walk_short (v v2 : Value) (X : SM) (gs : List (Int × Int)) (w : World) (h : SumS w v X) (hbd : BdS X) (h2 : SlG w v2 gs) (hbg : Bd gs) (hm : X.ts.length ≤ 1048576) (hm2 : (gs.length : Int) ≤ 1048576 - (X.ts.length : Int)) :
    Calls Try.prog 3 #[v, v2] w fun r w' => r = .returned (.bool true) ∧ Below w.heap.size w w' := by
  obtain ⟨P, Q, k, n, e, c, hs, hi⟩ := lv_both X hbd gs (by omega) hbg
  unfold RetL at hs hi
  replace hs := Lib.hid hs
  replace hi := Lib.hid hi
  have hC := Lib.hid (fun W (hb : Below w.heap.size w W) => szS_ok W v X (h.below hb) hm)
  have hT := Lib.hid (fun W (hb : Below w.heap.size w W) => toS_any W v X (h.below hb) hm)
  have hTg := Lib.hid (fun W (hb : Below w.heap.size w W) => toGo_any W v2 gs (h2.below hb) (by omega))
  have hE := Lib.hid (fun W u u' (h : SlT W u X.ts) (h' : SlT W u' X.ts) => eqS_any W u u' X h h' hm)
  have hEg := Lib.hid (fun W u u' (h : SlG W u gs) (h' : SlG W u' gs) => eqGs_any W u u' gs h h' (by omega))
  have hEF := Lib.hid (fun W => Fr.eqF_any W P Q)
  have hEK := Lib.hid (fun W => eqFlag_any W k n e)
  have hl0 : 0 ≤ 1048576 - (X.ts.length : Int) := by omega
  have hl1 : 0 ≤ 1048576 - (X.ts.length : Int) - (gs.length : Int) := by omega
  obtain ⟨u, rfl, a, cap, rfl, _⟩ := h
  obtain ⟨a2, cap2, rfl, _⟩ := h2
  have hD := Lib.hid (fun W => szgL_ok W a2 gs.length cap2 (1048576 - (X.ts.length : Int)) (by omega) (by omega))
  obtain ⟨q, hq⟩ : ∃ q : Int, 1048576 - (X.ts.length : Int) = q := ⟨_, rfl⟩
  rw [hq] at hC hD hl0 hl1
  obtain ⟨q2, hq2⟩ : ∃ q2 : Int, q - (gs.length : Int) = q2 := ⟨_, rfl⟩
  rw [hq2] at hD hl1
  obtain ⟨W0, hW0⟩ : ∃ W0, W0 = w.alloc (.cells #[.int .i64 X.n, .int .u32 X.e, .int .i64 X.s, .slice a X.ts.length cap] 27) := ⟨_, rfl⟩
  have hB0 : Below w.heap.size w W0 := by rw [hW0]; (repeat (first | exact Below.refl _ _ | assumption | refine bchain (by assumption) ?_ | refine balloc ?_ _ | apply Below.drew | apply below_drewN | (refine Below.alloc ?_ (by (try simp) <;> omega) _) | (refine Below.setCell ?_ (by (try simp) <;> omega) _)))
  have kx : SB W0 w.heap.size X.n X.e X.s (.slice a X.ts.length cap) := by rw [hW0]; exact SB.made w _ _ _ _ _
  replace hW0 := Lib.hid hW0
  clear hm hm2 hq hq2 hbd hbg
  obtain ⟨_, x0, x1, x2, x3, _⟩ := id kx
  go_enter Try.func3, Try.ntmps3
  go_wp2_with fail
  rw [← hW0.out]
  go_wp2_with fail
  refine (hC.out _ hB0).mono ?_
  rintro r1 w1 ⟨rfl, hb1⟩
  clear x0 x1 x2 x3
  go_wp2_with fail
  refine (hD.out _).mono ?_
  rintro r1' w1' ⟨rfl, rfl⟩
  obtain ⟨_, x0, x1, x2, x3, _⟩ := kx.below hb1
  go_wp2_with fail
  refine (hT.out _ (bchain hb1 hB0)).mono ?_
  rintro r2 w2 ⟨⟨u2, rfl, hU2⟩, hb2⟩
  have D2 : Below W0.heap.size W0 w2 := bchain hb2 hb1
  clear x0 x1 x2 x3
  go_wp2_with fail
  refine (hTg.out _ (bchain D2 hB0)).mono ?_
  rintro r3 w3 ⟨⟨u3, rfl, hU3⟩, hb3⟩
  have D3 : Below W0.heap.size W0 w3 := bchain hb3 D2
  go_wp2_with fail
  refine (hs.out _ _ _ (hU2.sl.below hb3) hU3.sl).mono ?_
  rintro r4 w4 ⟨rfl, hb4⟩
  have D4 : Below W0.heap.size W0 w4 := bchain hb4 D3
  clear hb1 hb2 hb3 hb4 hU2 hU3 D2 D3
  have sz : ∀ (W : World) (o : Obj), (W.alloc o).heap.size = W.heap.size + 1 := fun W o => by simp
  obtain ⟨WU, hWU⟩ : ∃ WU, WU = (w4.alloc (.cells #[.int .i64 P, .int .i64 Q] 32)).alloc (.cells #[.int .i64 k, .int .i64 n, .int .u32 e] 35) := ⟨_, rfl⟩
  have fU : FrB WU w4.heap.size P Q := by rw [hWU]; exact (FrB.made _ _ _ _).below (balloc (Below.refl _ _) _)
  have gU : FC WU (w4.heap.size + 1) k n e := by rw [hWU, ← sz w4 (.cells #[.int .i64 P, .int .i64 Q] 32)]; exact FC.made _ _ _ _ _
  have bU : Below w4.heap.size w4 WU := by rw [hWU]; exact balloc (balloc (Below.refl _ _) _) _
  replace hWU := Lib.hid hWU
  have D4' : Below W0.heap.size W0 WU := bchain bU D4
  obtain ⟨_, x0, x1, x2, x3, _⟩ := kx.below D4
  obtain ⟨_, y0, y1, y2, y3, _⟩ := kx.below D4'
  have hn4 : w.heap.size ≠ w4.heap.size := by have := kx.lt; have := D4.size; omega
  have hn4' : w.heap.size ≠ w4.heap.size + 1 := by have := kx.lt; have := D4.size; omega
  clear D4 bU
  go_wp2_with fail
  rw [← hWU.out]
  go_wp2_with fail
  refine (hT.out _ (bchain D4' hB0)).mono ?_
  rintro r5 w5 ⟨⟨u5, rfl, hX⟩, hb5⟩
  obtain ⟨a5, c5, rfl, _⟩ := id hX
  have fU5 := fU.below hb5
  have gU5 := gU.below hb5
  have D5 := bchain hb5 D4'
  clear x0 x1 x2 x3 y0 y1 y2 y3 hb5 fU gU D4'
  obtain ⟨WX, hWX⟩ : ∃ WX, WX = w5.alloc (.cells #[.int .i64 X.n, .int .u32 X.e, .int .i64 X.s, (.slice a5 X.ts.length c5)] 40) := ⟨_, rfl⟩
  have sX : SB WX w5.heap.size X.n X.e X.s (.slice a5 X.ts.length c5) := by rw [hWX]; exact SB.made _ _ _ _ _ _
  have bX : Below w5.heap.size w5 WX := by rw [hWX]; exact balloc (Below.refl _ _) _
  replace hWX := Lib.hid hWX
  have hX5 := Lib.hid (hX.sl.below bX)
  have fX := fU5.below bX
  have gX := gU5.below bX
  have DX := bchain bX D5
  clear hX bX fU5 gU5
  go_wp2_with fail
  rw [← hWX.out]
  go_wp2_with fail
  refine (hTg.out _ (bchain DX hB0)).mono ?_
  rintro r6 w6 ⟨⟨G, rfl, hG⟩, hb6⟩
  have sX6 := sX.below hb6
  have hX6 := Lib.hid (hX5.out.below hb6)
  have fX6 := fX.below hb6
  have gX6 := gX.below hb6
  have D6 := bchain hb6 DX
  replace hG := Lib.hid hG.sl
  clear hX5 hb6 fX gX sX DX D5
  obtain ⟨_, x0, x1, x2, x3, _⟩ := id sX6
  go_wp2_with fail
  refine (hi.out _ _ _ hX6.out hG.out).mono ?_
  rintro r7 w7 ⟨rfl, hb7⟩
  have sX7 := sX6.below hb7
  have hX7 := Lib.hid (hX6.out.below hb7)
  have hG7 := Lib.hid (hG.out.below hb7)
  have fX7 := fX6.below hb7
  have gX7 := gX6.below hb7
  have D7 := bchain hb7 D6
  clear hX6 hG fX6 gX6 sX6 hb7 x0 x1 x2 x3 D6
  obtain ⟨WV, hWV⟩ : ∃ WV, WV = (w7.alloc (.cells #[.int .i64 P, .int .i64 Q] 32)).alloc (.cells #[.int .i64 k, .int .i64 n, .int .u32 e] 35) := ⟨_, rfl⟩
  have fV : FrB WV w7.heap.size P Q := by rw [hWV]; exact (FrB.made _ _ _ _).below (balloc (Below.refl _ _) _)
  have gV : FC WV (w7.heap.size + 1) k n e := by rw [hWV, ← sz w7 (.cells #[.int .i64 P, .int .i64 Q] 32)]; exact FC.made _ _ _ _ _
  have bV : Below w7.heap.size w7 WV := by rw [hWV]; exact balloc (balloc (Below.refl _ _) _) _
  replace hWV := Lib.hid hWV
  have sX8 := sX7.below bV
  have hX8 := Lib.hid (hX7.out.below bV)
  have hG8 := Lib.hid (hG7.out.below bV)
  have fX8 := fX7.below bV
  have gX8 := gX7.below bV
  have D8 := bchain bV D7
  have hlt7 := fX7.lt
  have hlt7' := gX7.lt
  have hne1 : w4.heap.size ≠ w7.heap.size := by omega
  have hne2 : w4.heap.size ≠ w7.heap.size + 1 := by omega
  have hne3 : w4.heap.size + 1 ≠ w7.heap.size := by omega
  have hne4 : w4.heap.size + 1 ≠ w7.heap.size + 1 := by omega
  obtain ⟨_, z0, z1, _⟩ := id fX7
  obtain ⟨_, z2, z3, z4⟩ := id gX7
  clear sz hX7 hG7 fX7 gX7 sX7 bV D7
  obtain ⟨_, x0, x1, _⟩ := id fX8
  obtain ⟨_, x2, x3, x4⟩ := id gX8
  obtain ⟨_, y0, y1, _⟩ := id fV
  obtain ⟨_, y2, y3, y4⟩ := id gV
  have d1 : (c != c) = false := by simp
  go_wp2_with fail
  rw [← hWV.out]
  go_wp2_with fail
  refine (hEF.out _).mono ?_
  rintro r8 w8 ⟨rfl, hb8⟩
  have gX9 := gX8.below hb8
  have gV9 := gV.below hb8
  have sX9' := sX8.below hb8
  have hX9' := Lib.hid (hX8.out.below hb8)
  have hG9' := Lib.hid (hG8.out.below hb8)
  have D9' := bchain hb8 D8
  clear x0 x1 x2 x3 x4 y0 y1 y2 y3 y4 z0 z1 z2 z3 z4 hX8 hG8 sX8 gX8 gV fX8 fV hb8 D8
  obtain ⟨_, x2, x3, x4⟩ := id gX9
  obtain ⟨_, y2, y3, y4⟩ := id gV9
  go_wp2_with fail
  refine (hEK.out _).mono ?_
  rintro r9 w9 ⟨rfl, hb9⟩
  have sX9 := Lib.hid (sX9'.below hb9)
  have hX9 := Lib.hid (hX9'.out.below hb9)
  have hG9 := Lib.hid (hG9'.out.below hb9)
  have D9 := bchain hb9 D9'
  clear x2 x3 x4 y2 y3 y4 gX9 gV9 hX9' hG9' sX9' hb9 D9'
  have kx9 := Lib.hid (kx.below D9)
  have hBB9 := bchain D9 hB0
  obtain ⟨_, x0, x1, x2, x3, _⟩ := sX9.out
  obtain ⟨_, y0, y1, y2, y3, _⟩ := kx9.out
  have D9'' := Lib.hid D9
  clear D9
  go_wp2_with fail
  go_region_held3 (fun A => (A.cell? ⟨w.heap.size, 0, none⟩ = some (.int .i64 X.n) ∧ A.cell? ⟨w.heap.size, 1, none⟩ = some (.int .u32 X.e) ∧ A.cell? ⟨w.heap.size, 2, none⟩ = some (.int .i64 X.s) ∧ A.cell? ⟨w.heap.size, 3, none⟩ = some (.slice a X.ts.length cap)) ∧ (A.cell? ⟨w5.heap.size, 0, none⟩ = some (.int .i64 X.n) ∧ A.cell? ⟨w5.heap.size, 1, none⟩ = some (.int .u32 X.e) ∧ A.cell? ⟨w5.heap.size, 2, none⟩ = some (.int .i64 X.s) ∧ A.cell? ⟨w5.heap.size, 3, none⟩ = some (.slice a5 X.ts.length c5)))
    (exact ⟨⟨(kx9.out.below (by (repeat (first | exact Below.refl _ _ | assumption | refine bchain (by assumption) ?_ | refine balloc ?_ _ | apply Below.drew | apply below_drewN | (refine Below.alloc ?_ (by (try simp) <;> omega) _) | (refine Below.setCell ?_ (by (try simp) <;> omega) _))))).c0, (kx9.out.below (by (repeat (first | exact Below.refl _ _ | assumption | refine bchain (by assumption) ?_ | refine balloc ?_ _ | apply Below.drew | apply below_drewN | (refine Below.alloc ?_ (by (try simp) <;> omega) _) | (refine Below.setCell ?_ (by (try simp) <;> omega) _))))).c1, (kx9.out.below (by (repeat (first | exact Below.refl _ _ | assumption | refine bchain (by assumption) ?_ | refine balloc ?_ _ | apply Below.drew | apply below_drewN | (refine Below.alloc ?_ (by (try simp) <;> omega) _) | (refine Below.setCell ?_ (by (try simp) <;> omega) _))))).c2, (kx9.out.below (by (repeat (first | exact Below.refl _ _ | assumption | refine bchain (by assumption) ?_ | refine balloc ?_ _ | apply Below.drew | apply below_drewN | (refine Below.alloc ?_ (by (try simp) <;> omega) _) | (refine Below.setCell ?_ (by (try simp) <;> omega) _))))).c3⟩, ⟨(sX9.out.below (by (repeat (first | exact Below.refl _ _ | assumption | refine bchain (by assumption) ?_ | refine balloc ?_ _ | apply Below.drew | apply below_drewN | (refine Below.alloc ?_ (by (try simp) <;> omega) _) | (refine Below.setCell ?_ (by (try simp) <;> omega) _))))).c0, (sX9.out.below (by (repeat (first | exact Below.refl _ _ | assumption | refine bchain (by assumption) ?_ | refine balloc ?_ _ | apply Below.drew | apply below_drewN | (refine Below.alloc ?_ (by (try simp) <;> omega) _) | (refine Below.setCell ?_ (by (try simp) <;> omega) _))))).c1, (sX9.out.below (by (repeat (first | exact Below.refl _ _ | assumption | refine bchain (by assumption) ?_ | refine balloc ?_ _ | apply Below.drew | apply below_drewN | (refine Below.alloc ?_ (by (try simp) <;> omega) _) | (refine Below.setCell ?_ (by (try simp) <;> omega) _))))).c2, (sX9.out.below (by (repeat (first | exact Below.refl _ _ | assumption | refine bchain (by assumption) ?_ | refine balloc ?_ _ | apply Below.drew | apply below_drewN | (refine Below.alloc ?_ (by (try simp) <;> omega) _) | (refine Below.setCell ?_ (by (try simp) <;> omega) _))))).c3⟩⟩)
    (first
    | (go_at_call 7; with_reducible refine (hT.out _ hBB9.drew).mono ?_; rintro r10 w10 ⟨⟨u10, rfl, hU10⟩, hb10⟩)
    | (go_at_call 12; with_reducible refine (hE.out _ _ _ (hX9.out.below (by (repeat (first | exact Below.refl _ _ | assumption | refine bchain (by assumption) ?_ | refine balloc ?_ _ | apply Below.drew | apply below_drewN | (refine Below.alloc ?_ (by (try simp) <;> omega) _) | (refine Below.setCell ?_ (by (try simp) <;> omega) _))))) hU10.sl).mono ?_; rintro r11 w11 ⟨rfl, hb11⟩))
  have b911 : Below w9.heap.size w9 w11 := bchain hb11 (bchain hb10 (Below.refl _ w9).drew)
  have E11 := bchain b911 D9''.out
  have hG11 := Lib.hid (hG9.out.below b911)
  clear hb10 hb11 hU10 kx9 hBB9 x0 x1 x2 x3 y0 y1 y2 y3 b911 hX9 sX9
  go_wp2_with fail
  refine (hTg.out _ (bchain E11 hB0)).mono ?_
  rintro r12 w12 ⟨⟨u12, rfl, hU12⟩, hb12⟩
  go_wp2_with fail
  refine (hEg.out _ _ _ (hG11.out.below hb12) hU12.sl).mono ?_
  rintro r13 w13 ⟨rfl, hb13⟩
  have E13 := bchain hb13 (bchain hb12 E11)
  go_wp2
  go_ret
  exact ⟨rfl, bchain E13 hB0⟩
theorem walk (v : Value) (X : SM) (v2 : Value) (gs : List (Int × Int)) (w : World) (h : SumS w v X) (hb : BdS X) (h2 : SlG w v2 gs ∧ Bd gs) :
    Calls Try.prog 3 #[v, v2] w fun r w' => r = .returned (.bool true) ∧ Below w.heap.size w w' := by
  rcases Nat.lt_or_ge 1048576 X.ts.length with c | c
  · exact walk_long v v2 X gs w h h2.1 c
  · by_cases c2 : (gs.length : Int) ≤ 1048576 - (X.ts.length : Int)
    · exact walk_short v v2 X gs w h hb h2.1 h2.2 c c2
    · exact walk_long2 v v2 X gs w h h2.1 c (by omega)
end LeastValueLaw
theorem LeastValueLaw.lifted (os : Os) (started : os.Started) (H : Type) (enc : TypeId × Value → H) :
    ReturnsInHanded {} Try.checked os 3 .any (Rows.fnExactLeastValueSpec.pre6 enc Try.prog Try.f3 Rows.fnExactLeastValueRow.domain false)
      (Rows.fnExactLeastValueSpec.post enc Try.prog Try.f3 false true false false) := by
  refine fr_lift (C := Try.checked) own started (by kernel_rfl) Try.func3 laid_out rfl (by kernel_rfl) (tb := 4) rfl Try.underlying4 ?hs
    (ChangeSpec.witness6 (enc := enc) (C := Try.checked) false ⟨#[], #[.agg #[.int .i64 0, .int .u32 0, .int .i64 0, .slice none 0 0], .slice none 0 0], []⟩ 8 (by kernel_rfl) (by kernel_rfl) (by kernel_rfl) (by kernel_rfl)) ?_
  case hs =>
    intro ds h
    match ds, h with
    | [d0, d1], _ => rfl
  intro W base args ds p hval0 hA0 hlt hsz
  have hval : ∀ (j : Nat) t v, Try.f3.params[j]? = some t → args[j]? = some v → Value.okWide Try.prog W .any base t v := hval0
  have hA : DataW.TrodAll enc Try.prog W 0 (fun _ => true) true Try.f3.params.toList args.toList ds p := hA0
  rw [Try.params3] at hA hval
  obtain ⟨v0, vs0, d0, ds0, p0, q0, hargs, rfl, rfl, h0, r0⟩ := trodAll_cons hA
  obtain ⟨v1, vs1, d1, ds1, p1, q1, rfl, rfl, rfl, h1, r1⟩ := trodAll_cons r0
  obtain ⟨rfl, rfl, rfl⟩ := trodAll_nil r1
  obtain rfl : args = #[v0, v1] := by cases args; simp_all
  obtain ⟨x0, R0⟩ := open_lsum (hval 0 27 v0 rfl rfl) h0
  obtain ⟨x1, R1⟩ := open_gs (hval 1 28 v1 rfl rfl) h1
  exact LeastValueLaw.walk v0 x0 v1 x1 W R0.1 R0.2 R1

theorem leastValue_holds : Rows.FnExactLeastValueSaid :=
  OpenClaim.holds_of_wide 3 Try.f3 rfl rfl rfl rfl rfl rfl rfl ⟨rfl, rfl, rfl, rfl, rfl⟩ rfl rfl rfl rfl rfl (by kernel_rfl) Try.func3 (by kernel_rfl)
    (of_decide_eq_true (by kernel_rfl)) (by unfold Func.isWrapper; rw [if_neg (of_decide_eq_false (by kernel_rfl))]; exact ⟨rfl, rfl⟩)
    (fun os started H enc _ => LeastValueLaw.lifted os started H enc)
#print axioms leastValue_holds
end Go.Proofs.Ytfnjgdocmfmfgab
