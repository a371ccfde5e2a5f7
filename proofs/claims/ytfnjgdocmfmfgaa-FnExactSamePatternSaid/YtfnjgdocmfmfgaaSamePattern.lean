/-
  PROVED: for every two patterns, valid or not, SamePattern of the program answers as the model's does, and its patterns are left as they were. Conditions: none.
-/
import Derived.Test.YtfnjgdocmfmfgaaPd
import Derived.Test.YtfnjgdocmfmfgaaPt
namespace Go.Proofs.Ytfnjgdocmfmfgaa
open Go.ChangeShapes Go.WideShapes Go.ChangeAt Go.RowKit
set_option maxRecDepth 100000

section
variable (w : World)
theorem szfL_ok (a : Option Addr) (l cap : Nat) (q : Int) (hq : q ≤ 1048576) (hl : (l : Int) ≤ q) :
    Calls Try.prog 48 #[.slice a l cap, .int .i64 q] w fun r w' => r = .returned (.int .i64 (q - (l : Int))) ∧ w = w' := by
  go_enter Try.func48, Try.ntmps48
  go_wp2
  go_ret
  exact ⟨rfl, rfl⟩
theorem szfL_over (a : Option Addr) (l cap : Nat) (q : Int) (h0 : 0 ≤ q) (hq : q ≤ 1048576) (hl : q < (l : Int)) (hm : l ≤ 9223372036854775807) :
    Calls Try.prog 48 #[.slice a l cap, .int .i64 q] w fun r w' => r = .returned (.int .i64 (-1)) ∧ w = w' := by
  go_enter Try.func48, Try.ntmps48
  go_wp2
  go_ret
  exact ⟨rfl, rfl⟩
theorem szP_left (v : Value) (X : PM) (q : Int) (h : PatS w v X) (hq : q ≤ 1048576) (hl : (X.ts.length : Int) ≤ q) :
    Calls Try.prog 13 #[v, .int .i64 q] w fun r w' => r = .returned (.int .i64 (q - (X.ts.length : Int))) ∧ Below w.heap.size w w' := by
  obtain ⟨n, e, s, ts⟩ := X
  obtain ⟨u, rfl, a, cap, rfl, _, _, _⟩ := h
  have hC := Lib.hid (fun W => szfL_ok W a ts.length cap q hq hl)
  have hl : (ts.length : Int) ≤ q := hl
  dsimp only
  obtain ⟨l, hld⟩ : ∃ l, ts.length = l := ⟨_, rfl⟩
  rw [hld] at hC hl ⊢
  clear hld
  have hp : 0 ≤ q - (l : Int) := by omega
  obtain ⟨p, hpd⟩ : ∃ p : Int, q - (l : Int) = p := ⟨_, rfl⟩
  rw [hpd] at hC hp ⊢
  clear hl hpd
  go_enter Try.func13, Try.ntmps13
  go_wp2_with (go_at_call 48; refine (hC.out _).mono ?_; rintro r1 w1 ⟨rfl, rfl⟩)
  go_ret
  exact ⟨rfl, by (repeat (first | exact Below.refl _ _ | assumption | refine bchain (by assumption) ?_ | refine balloc ?_ _ | apply Below.drew | apply below_drewN | (refine Below.alloc ?_ (by (try simp) <;> omega) _) | (refine Below.setCell ?_ (by (try simp) <;> omega) _)))⟩
theorem szP_over (v : Value) (X : PM) (q : Int) (h : PatS w v X) (h0 : 0 ≤ q) (hq : q ≤ 1048576) (hl : q < (X.ts.length : Int)) :
    Calls Try.prog 13 #[v, .int .i64 q] w fun r w' => r = .returned (.int .i64 (-1)) ∧ Below w.heap.size w w' := by
  obtain ⟨n, e, s, ts⟩ := X
  obtain ⟨u, rfl, a, cap, rfl, h1, h2, _⟩ := h
  have hC := Lib.hid (fun W => szfL_over W a ts.length cap q h0 hq hl (by have : ts.length ≤ cap := h1; omega))
  dsimp only
  obtain ⟨l, hld⟩ : ∃ l, ts.length = l := ⟨_, rfl⟩
  rw [hld] at hC ⊢
  clear hld hl h1 h2
  go_enter Try.func13, Try.ntmps13
  go_wp2_with (go_at_call 48; refine (hC.out _).mono ?_; rintro r1 w1 ⟨rfl, rfl⟩)
  go_ret
  exact ⟨rfl, by (repeat (first | exact Below.refl _ _ | assumption | refine bchain (by assumption) ?_ | refine balloc ?_ _ | apply Below.drew | apply below_drewN | (refine Below.alloc ?_ (by (try simp) <;> omega) _) | (refine Below.setCell ?_ (by (try simp) <;> omega) _)))⟩
end
namespace SamePatternLaw
theorem walk_long (v v2 : Value) (X : PM) (w : World) (h : PatS w v X) (h2 : ∃ Y, PatS w v2 Y) (hm : 1048576 < X.ts.length) :
    Calls Try.prog 4 #[v, v2] w fun r w' => r = .returned (.bool true) ∧ Below w.heap.size w w' := by
  have hC := Lib.hid (fun W (hb : Below w.heap.size w W) => szP_long W v X (h.below hb) hm)
  obtain ⟨u, rfl, a, cap, rfl, _⟩ := h
  obtain ⟨Y, u2, rfl, a2, cap2, rfl, _⟩ := h2
  clear hm
  go_enter Try.func4, Try.ntmps4
  go_wp2_with fail
  refine (hC.out _ (by (repeat (first | exact Below.refl _ _ | assumption | refine bchain (by assumption) ?_ | refine balloc ?_ _ | apply Below.drew | apply below_drewN | (refine Below.alloc ?_ (by (try simp) <;> omega) _) | (refine Below.setCell ?_ (by (try simp) <;> omega) _))))).mono ?_
  rintro r1 w1 ⟨rfl, hb1⟩
  go_wp2
  go_ret
  exact ⟨rfl, by (repeat (first | exact Below.refl _ _ | assumption | refine bchain (by assumption) ?_ | refine balloc ?_ _ | apply Below.drew | apply below_drewN | (refine Below.alloc ?_ (by (try simp) <;> omega) _) | (refine Below.setCell ?_ (by (try simp) <;> omega) _)))⟩
theorem walk_long2 (v v2 : Value) (X Y : PM) (w : World) (h : PatS w v X) (h2 : PatS w v2 Y) (hm : X.ts.length ≤ 1048576) (hm2 : 1048576 - (X.ts.length : Int) < Y.ts.length) :
    Calls Try.prog 4 #[v, v2] w fun r w' => r = .returned (.bool true) ∧ Below w.heap.size w w' := by
  have hC := Lib.hid (fun W (hb : Below w.heap.size w W) => szP_ok W v X (h.below hb) hm)
  have hD := Lib.hid (fun W (hb : Below w.heap.size w W) => szP_over W v2 Y (1048576 - (X.ts.length : Int)) (h2.below hb) (by omega) (by omega) hm2)
  have hl0 : 0 ≤ 1048576 - (X.ts.length : Int) := by omega
  obtain ⟨u, rfl, a, cap, rfl, _⟩ := h
  obtain ⟨u2, rfl, a2, cap2, rfl, _⟩ := h2
  obtain ⟨q, hq⟩ : ∃ q : Int, 1048576 - (X.ts.length : Int) = q := ⟨_, rfl⟩
  rw [hq] at hC hD hl0
  obtain ⟨W0, hW0⟩ : ∃ W0, W0 = (w.alloc (.cells #[.int .i64 X.n, .int .u32 X.e, .int .u32 X.s, .slice a X.ts.length cap] 27)).alloc (.cells #[.int .i64 Y.n, .int .u32 Y.e, .int .u32 Y.s, .slice a2 Y.ts.length cap2] 27) := ⟨_, rfl⟩
  have hB0 : Below w.heap.size w W0 := by rw [hW0]; (repeat (first | exact Below.refl _ _ | assumption | refine bchain (by assumption) ?_ | refine balloc ?_ _ | apply Below.drew | apply below_drewN | (refine Below.alloc ?_ (by (try simp) <;> omega) _) | (refine Below.setCell ?_ (by (try simp) <;> omega) _)))
  have sz : (w.alloc (.cells #[.int .i64 X.n, .int .u32 X.e, .int .u32 X.s, .slice a X.ts.length cap] 27)).heap.size = w.heap.size + 1 := by simp
  have k1 : PB W0 w.heap.size X.n X.e X.s (.slice a X.ts.length cap) := by rw [hW0]; exact (PB.made w _ _ _ _ _).below (balloc (Below.refl _ _) _)
  have k2 : PB W0 (w.heap.size + 1) Y.n Y.e Y.s (.slice a2 Y.ts.length cap2) := by rw [hW0, ← sz]; exact PB.made _ _ _ _ _ _
  replace hW0 := Lib.hid hW0
  clear sz hm hm2 hq
  obtain ⟨_, x0, x1, x2, x3, _⟩ := id k1
  go_enter Try.func4, Try.ntmps4
  go_wp2_with fail
  rw [← hW0.out]
  go_wp2_with fail
  refine (hC.out _ hB0).mono ?_
  rintro r1 w1 ⟨rfl, hb1⟩
  obtain ⟨_, y0, y1, y2, y3, _⟩ := k2.below hb1
  go_wp2_with fail
  refine (hD.out _ (bchain hb1 hB0)).mono ?_
  rintro r2 w2 ⟨rfl, hb2⟩
  go_wp2
  go_ret
  exact ⟨rfl, bchain hb2 (bchain hb1 hB0)⟩
set_option maxHeartbeats 8000000 in
theorem walk_short (v v2 : Value) (X Y : PM) (w : World) (h : PatS w v X) (h2 : PatS w v2 Y) (hm : X.ts.length ≤ 1048576) (hm2 : (Y.ts.length : Int) ≤ 1048576 - (X.ts.length : Int)) :
    Calls Try.prog 4 #[v, v2] w fun r w' => r = .returned (.bool true) ∧ Below w.heap.size w w' := by
  obtain ⟨B, hBB⟩ : ∃ B : Bool, (B = true ↔ (X.n = Y.n ∧ X.e = Y.e ∧ X.s = Y.s ∧ X.ts = Y.ts)) := ⟨@decide (X.n = Y.n ∧ X.e = Y.e ∧ X.s = Y.s ∧ X.ts = Y.ts) (Classical.propDecidable _), by simp⟩
  have hC := Lib.hid (fun W (hb : Below w.heap.size w W) => szP_ok W v X (h.below hb) hm)
  have hD := Lib.hid (fun W (hb : Below w.heap.size w W) => szP_left W v2 Y (1048576 - (X.ts.length : Int)) (h2.below hb) (by omega) hm2)
  have hT := Lib.hid (fun W (hb : Below w.heap.size w W) => toP_any W v X (h.below hb) hm)
  have hT2 := Lib.hid (fun W (hb : Below w.heap.size w W) => toP_any W v2 Y (h2.below hb) (by omega))
  have hs := Lib.hid (fun W u u' (h : Fr.SlG W u X.ts) (h' : Fr.SlG W u' Y.ts) => ssp_any W X Y u u' h h' hm B hBB)
  have hi := Lib.hid (fun W u u' (h : Fr.SlG W u X.ts) (h' : Fr.SlG W u' Y.ts) => isp_any W X Y u u' h h' hm B hBB)
  have hE := Lib.hid (fun W u u' (h : Fr.SlG W u X.ts) (h' : Fr.SlG W u' X.ts) => eqP_any W u u' X h h' hm)
  have hE2 := Lib.hid (fun W u u' (h : Fr.SlG W u Y.ts) (h' : Fr.SlG W u' Y.ts) => eqP_any W u u' Y h h' (by omega))
  have hl0 : 0 ≤ 1048576 - (X.ts.length : Int) := by omega
  have hl1 : 0 ≤ 1048576 - (X.ts.length : Int) - (Y.ts.length : Int) := by omega
  obtain ⟨q, hq⟩ : ∃ q : Int, 1048576 - (X.ts.length : Int) = q := ⟨_, rfl⟩
  rw [hq] at hC hD hl0 hl1
  obtain ⟨q2, hq2⟩ : ∃ q2 : Int, q - (Y.ts.length : Int) = q2 := ⟨_, rfl⟩
  rw [hq2] at hD hl1
  obtain ⟨u, rfl, a, cap, rfl, _⟩ := h
  obtain ⟨u2, rfl, a2, cap2, rfl, _⟩ := h2
  obtain ⟨W0, hW0⟩ : ∃ W0, W0 = (w.alloc (.cells #[.int .i64 X.n, .int .u32 X.e, .int .u32 X.s, .slice a X.ts.length cap] 27)).alloc (.cells #[.int .i64 Y.n, .int .u32 Y.e, .int .u32 Y.s, .slice a2 Y.ts.length cap2] 27) := ⟨_, rfl⟩
  have hB0 : Below w.heap.size w W0 := by rw [hW0]; (repeat (first | exact Below.refl _ _ | assumption | refine bchain (by assumption) ?_ | refine balloc ?_ _ | apply Below.drew | apply below_drewN | (refine Below.alloc ?_ (by (try simp) <;> omega) _) | (refine Below.setCell ?_ (by (try simp) <;> omega) _)))
  have sz : (w.alloc (.cells #[.int .i64 X.n, .int .u32 X.e, .int .u32 X.s, .slice a X.ts.length cap] 27)).heap.size = w.heap.size + 1 := by simp
  have k1 : PB W0 w.heap.size X.n X.e X.s (.slice a X.ts.length cap) := by rw [hW0]; exact (PB.made w _ _ _ _ _).below (balloc (Below.refl _ _) _)
  have k2 : PB W0 (w.heap.size + 1) Y.n Y.e Y.s (.slice a2 Y.ts.length cap2) := by rw [hW0, ← sz]; exact PB.made _ _ _ _ _ _
  replace hW0 := Lib.hid hW0
  clear sz hm hm2 hq hq2 hBB
  obtain ⟨_, x0, x1, x2, x3, _⟩ := id k1
  go_enter Try.func4, Try.ntmps4
  go_wp2_with fail
  rw [← hW0.out]
  go_wp2_with fail
  refine (hC.out _ hB0).mono ?_
  rintro r1 w1 ⟨rfl, hb1⟩
  clear x0 x1 x2 x3
  obtain ⟨_, y0, y1, y2, y3, _⟩ := k2.below hb1
  go_wp2_with fail
  refine (hD.out _ (bchain hb1 hB0)).mono ?_
  rintro r2 w2 ⟨rfl, hb2⟩
  have D2 : Below W0.heap.size W0 w2 := bchain hb2 hb1
  clear y0 y1 y2 y3 hb1 hb2
  have k1' := Lib.hid (k1.below D2)
  have k2' := Lib.hid (k2.below D2)
  have hB2 := bchain D2 hB0
  obtain ⟨_, x0, x1, x2, x3, _⟩ := k1'.out
  obtain ⟨_, y0, y1, y2, y3, _⟩ := k2'.out
  go_wp2_with fail
  go_region_held3 (fun A => (A.cell? ⟨w.heap.size, 0, none⟩ = some (.int .i64 X.n) ∧ A.cell? ⟨w.heap.size, 1, none⟩ = some (.int .u32 X.e) ∧ A.cell? ⟨w.heap.size, 2, none⟩ = some (.int .u32 X.s) ∧ A.cell? ⟨w.heap.size, 3, none⟩ = some (.slice a X.ts.length cap)) ∧ A.cell? ⟨w.heap.size + 1, 0, none⟩ = some (.int .i64 Y.n) ∧ A.cell? ⟨w.heap.size + 1, 1, none⟩ = some (.int .u32 Y.e) ∧ A.cell? ⟨w.heap.size + 1, 2, none⟩ = some (.int .u32 Y.s) ∧ A.cell? ⟨w.heap.size + 1, 3, none⟩ = some (.slice a2 Y.ts.length cap2))
    (exact ⟨⟨(k1'.out.below (by (repeat (first | exact Below.refl _ _ | assumption | refine bchain (by assumption) ?_ | refine balloc ?_ _ | apply Below.drew | apply below_drewN | (refine Below.alloc ?_ (by (try simp) <;> omega) _) | (refine Below.setCell ?_ (by (try simp) <;> omega) _))))).c0, (k1'.out.below (by (repeat (first | exact Below.refl _ _ | assumption | refine bchain (by assumption) ?_ | refine balloc ?_ _ | apply Below.drew | apply below_drewN | (refine Below.alloc ?_ (by (try simp) <;> omega) _) | (refine Below.setCell ?_ (by (try simp) <;> omega) _))))).c1, (k1'.out.below (by (repeat (first | exact Below.refl _ _ | assumption | refine bchain (by assumption) ?_ | refine balloc ?_ _ | apply Below.drew | apply below_drewN | (refine Below.alloc ?_ (by (try simp) <;> omega) _) | (refine Below.setCell ?_ (by (try simp) <;> omega) _))))).c2, (k1'.out.below (by (repeat (first | exact Below.refl _ _ | assumption | refine bchain (by assumption) ?_ | refine balloc ?_ _ | apply Below.drew | apply below_drewN | (refine Below.alloc ?_ (by (try simp) <;> omega) _) | (refine Below.setCell ?_ (by (try simp) <;> omega) _))))).c3⟩, (k2'.out.below (by (repeat (first | exact Below.refl _ _ | assumption | refine bchain (by assumption) ?_ | refine balloc ?_ _ | apply Below.drew | apply below_drewN | (refine Below.alloc ?_ (by (try simp) <;> omega) _) | (refine Below.setCell ?_ (by (try simp) <;> omega) _))))).c0, (k2'.out.below (by (repeat (first | exact Below.refl _ _ | assumption | refine bchain (by assumption) ?_ | refine balloc ?_ _ | apply Below.drew | apply below_drewN | (refine Below.alloc ?_ (by (try simp) <;> omega) _) | (refine Below.setCell ?_ (by (try simp) <;> omega) _))))).c1, (k2'.out.below (by (repeat (first | exact Below.refl _ _ | assumption | refine bchain (by assumption) ?_ | refine balloc ?_ _ | apply Below.drew | apply below_drewN | (refine Below.alloc ?_ (by (try simp) <;> omega) _) | (refine Below.setCell ?_ (by (try simp) <;> omega) _))))).c2, (k2'.out.below (by (repeat (first | exact Below.refl _ _ | assumption | refine bchain (by assumption) ?_ | refine balloc ?_ _ | apply Below.drew | apply below_drewN | (refine Below.alloc ?_ (by (try simp) <;> omega) _) | (refine Below.setCell ?_ (by (try simp) <;> omega) _))))).c3⟩)
    (first
    | (go_at_call 15; first | (with_reducible refine (hT.out _ (by (repeat (first | exact Below.refl _ _ | assumption | refine bchain (by assumption) ?_ | refine balloc ?_ _ | apply Below.drew | apply below_drewN | (refine Below.alloc ?_ (by (try simp) <;> omega) _) | (refine Below.setCell ?_ (by (try simp) <;> omega) _))))).mono ?_; rintro r3 w3 ⟨⟨u3, rfl, hU3⟩, hb3⟩) | (with_reducible refine (hT2.out _ (by (repeat (first | exact Below.refl _ _ | assumption | refine bchain (by assumption) ?_ | refine balloc ?_ _ | apply Below.drew | apply below_drewN | (refine Below.alloc ?_ (by (try simp) <;> omega) _) | (refine Below.setCell ?_ (by (try simp) <;> omega) _))))).mono ?_; rintro r4 w4 ⟨⟨u4, rfl, hU4⟩, hb4⟩))
    | (go_at_call 18; refine (hs.out _ _ _ (hU3.sl.below (by (repeat (first | exact Below.refl _ _ | assumption | refine bchain (by assumption) ?_ | refine balloc ?_ _ | apply Below.drew | apply below_drewN | (refine Below.alloc ?_ (by (try simp) <;> omega) _) | (refine Below.setCell ?_ (by (try simp) <;> omega) _))))) hU4.sl).mono ?_; rintro r5 w5 ⟨rfl, hb5⟩))
  have D5 : Below W0.heap.size W0 w5 := by (repeat (first | exact Below.refl _ _ | assumption | refine bchain (by assumption) ?_ | refine balloc ?_ _ | apply Below.drew | apply below_drewN | (refine Below.alloc ?_ (by (try simp) <;> omega) _) | (refine Below.setCell ?_ (by (try simp) <;> omega) _)))
  clear hb3 hb4 hb5 hU3 hU4 x0 x1 x2 x3 y0 y1 y2 y3 k1' k2' hB2 D2
  obtain ⟨_, x0, x1, x2, x3, _⟩ := k1.below D5
  go_wp2_with fail
  refine (hT.out _ (bchain D5 hB0)).mono ?_
  rintro r6 w6 ⟨⟨u6, rfl, hU6⟩, hb6⟩
  have D6 : Below W0.heap.size W0 w6 := bchain hb6 D5
  obtain ⟨a6, c6, rfl, _⟩ := id hU6
  clear D5 hb6 x0 x1 x2 x3
  obtain ⟨WX, hWX⟩ : ∃ WX, WX = w6.alloc (.cells #[.int .i64 X.n, .int .u32 X.e, .int .u32 X.s, (.slice a6 X.ts.length c6)] 33) := ⟨_, rfl⟩
  have sX : PB WX w6.heap.size X.n X.e X.s (.slice a6 X.ts.length c6) := by rw [hWX]; exact PB.made _ _ _ _ _ _
  have bX : Below w6.heap.size w6 WX := by rw [hWX]; exact balloc (Below.refl _ _) _
  replace hWX := Lib.hid hWX
  have D6' : Below W0.heap.size W0 WX := bchain bX D6
  have hU6' := Lib.hid (hU6.sl.below bX)
  have hn6 : w.heap.size ≠ w6.heap.size := by have := k2.lt; have := D6.size; omega
  have hn6b : w.heap.size + 1 ≠ w6.heap.size := by have := k2.lt; have := D6.size; omega
  obtain ⟨_, y0, y1, y2, y3, _⟩ := k2.below D6
  clear hU6 D6
  obtain ⟨_, x0, x1, x2, x3, _⟩ := k2.below D6'
  go_wp2_with fail
  rw [← hWX.out]
  go_wp2_with fail
  refine (hT2.out _ (bchain D6' hB0)).mono ?_
  rintro r7 w7 ⟨⟨u7, rfl, hU7⟩, hb7⟩
  have D7 : Below W0.heap.size W0 w7 := bchain hb7 D6'
  obtain ⟨a7, c7, rfl, _⟩ := id hU7
  have sX7 := sX.below hb7
  have hU6b := Lib.hid (hU6'.out.below hb7)
  clear hU6' D6' hb7 sX y0 y1 y2 y3 x0 x1 x2 x3 bX
  obtain ⟨WY, hWY⟩ : ∃ WY, WY = w7.alloc (.cells #[.int .i64 Y.n, .int .u32 Y.e, .int .u32 Y.s, (.slice a7 Y.ts.length c7)] 33) := ⟨_, rfl⟩
  have sY : PB WY w7.heap.size Y.n Y.e Y.s (.slice a7 Y.ts.length c7) := by rw [hWY]; exact PB.made _ _ _ _ _ _
  have bY : Below w7.heap.size w7 WY := by rw [hWY]; exact balloc (Below.refl _ _) _
  replace hWY := Lib.hid hWY
  have D8 : Below W0.heap.size W0 WY := bchain bY D7
  have hU7' := Lib.hid (hU7.sl.below bY)
  have sX8 := sX7.below bY
  have hU6c := Lib.hid (hU6b.out.below bY)
  have hn7 : w6.heap.size ≠ w7.heap.size := by have := sX7.lt; omega
  obtain ⟨_, y0, y1, y2, y3, _⟩ := id sX7
  clear hU7 D7 sX7 hU6b bY
  obtain ⟨_, x0, x1, x2, x3, _⟩ := id sX8
  obtain ⟨_, z0, z1, z2, z3, _⟩ := id sY
  go_wp2_with fail
  rw [← hWY.out]
  go_wp2_with fail
  refine (hi.out _ _ _ hU6c.out hU7'.out).mono ?_
  rintro r9 w9 ⟨rfl, hb9⟩
  have D9 : Below W0.heap.size W0 w9 := bchain hb9 D8
  have sX9 := sX8.below hb9
  have sY9 := sY.below hb9
  have hU69 := Lib.hid (hU6c.out.below hb9)
  have hU79 := Lib.hid (hU7'.out.below hb9)
  clear D8 sX8 sY hb9 hU6c hU7' x0 x1 x2 x3 y0 y1 y2 y3 z0 z1 z2 z3
  have d1 : (B != B) = false := by cases B <;> rfl
  have k1' := Lib.hid (k1.below D9)
  have hBB9 := bchain D9 hB0
  have s1' := Lib.hid sX9
  obtain ⟨_, x0, x1, x2, x3, _⟩ := id sX9
  obtain ⟨_, y0, y1, y2, y3, _⟩ := k1.below D9
  clear sX9
  go_wp2_with fail
  go_region_held3 (fun A => (A.cell? ⟨w.heap.size, 0, none⟩ = some (.int .i64 X.n) ∧ A.cell? ⟨w.heap.size, 1, none⟩ = some (.int .u32 X.e) ∧ A.cell? ⟨w.heap.size, 2, none⟩ = some (.int .u32 X.s) ∧ A.cell? ⟨w.heap.size, 3, none⟩ = some (.slice a X.ts.length cap)) ∧ A.cell? ⟨w6.heap.size, 0, none⟩ = some (.int .i64 X.n) ∧ A.cell? ⟨w6.heap.size, 1, none⟩ = some (.int .u32 X.e) ∧ A.cell? ⟨w6.heap.size, 2, none⟩ = some (.int .u32 X.s) ∧ A.cell? ⟨w6.heap.size, 3, none⟩ = some (.slice a6 X.ts.length c6))
    (exact ⟨⟨(k1'.out.below (by (repeat (first | exact Below.refl _ _ | assumption | refine bchain (by assumption) ?_ | refine balloc ?_ _ | apply Below.drew | apply below_drewN | (refine Below.alloc ?_ (by (try simp) <;> omega) _) | (refine Below.setCell ?_ (by (try simp) <;> omega) _))))).c0, (k1'.out.below (by (repeat (first | exact Below.refl _ _ | assumption | refine bchain (by assumption) ?_ | refine balloc ?_ _ | apply Below.drew | apply below_drewN | (refine Below.alloc ?_ (by (try simp) <;> omega) _) | (refine Below.setCell ?_ (by (try simp) <;> omega) _))))).c1, (k1'.out.below (by (repeat (first | exact Below.refl _ _ | assumption | refine bchain (by assumption) ?_ | refine balloc ?_ _ | apply Below.drew | apply below_drewN | (refine Below.alloc ?_ (by (try simp) <;> omega) _) | (refine Below.setCell ?_ (by (try simp) <;> omega) _))))).c2, (k1'.out.below (by (repeat (first | exact Below.refl _ _ | assumption | refine bchain (by assumption) ?_ | refine balloc ?_ _ | apply Below.drew | apply below_drewN | (refine Below.alloc ?_ (by (try simp) <;> omega) _) | (refine Below.setCell ?_ (by (try simp) <;> omega) _))))).c3⟩, (s1'.out.below (by (repeat (first | exact Below.refl _ _ | assumption | refine bchain (by assumption) ?_ | refine balloc ?_ _ | apply Below.drew | apply below_drewN | (refine Below.alloc ?_ (by (try simp) <;> omega) _) | (refine Below.setCell ?_ (by (try simp) <;> omega) _))))).c0, (s1'.out.below (by (repeat (first | exact Below.refl _ _ | assumption | refine bchain (by assumption) ?_ | refine balloc ?_ _ | apply Below.drew | apply below_drewN | (refine Below.alloc ?_ (by (try simp) <;> omega) _) | (refine Below.setCell ?_ (by (try simp) <;> omega) _))))).c1, (s1'.out.below (by (repeat (first | exact Below.refl _ _ | assumption | refine bchain (by assumption) ?_ | refine balloc ?_ _ | apply Below.drew | apply below_drewN | (refine Below.alloc ?_ (by (try simp) <;> omega) _) | (refine Below.setCell ?_ (by (try simp) <;> omega) _))))).c2, (s1'.out.below (by (repeat (first | exact Below.refl _ _ | assumption | refine bchain (by assumption) ?_ | refine balloc ?_ _ | apply Below.drew | apply below_drewN | (refine Below.alloc ?_ (by (try simp) <;> omega) _) | (refine Below.setCell ?_ (by (try simp) <;> omega) _))))).c3⟩)
    (first
    | (go_at_call 15; refine (hT.out _ (by (repeat (first | exact Below.refl _ _ | assumption | refine bchain (by assumption) ?_ | refine balloc ?_ _ | apply Below.drew | apply below_drewN | (refine Below.alloc ?_ (by (try simp) <;> omega) _) | (refine Below.setCell ?_ (by (try simp) <;> omega) _))))).mono ?_; rintro r10 w10 ⟨⟨u10, rfl, hU10⟩, hb10⟩)
    | (go_at_call 17; refine (hE.out _ _ _ (hU69.out.below (by (repeat (first | exact Below.refl _ _ | assumption | refine bchain (by assumption) ?_ | refine balloc ?_ _ | apply Below.drew | apply below_drewN | (refine Below.alloc ?_ (by (try simp) <;> omega) _) | (refine Below.setCell ?_ (by (try simp) <;> omega) _))))) hU10.sl).mono ?_; rintro r11 w11 ⟨rfl, hb11⟩))
  have D911 : Below w9.heap.size w9 w11 := bchain hb11 (bchain hb10 (Below.refl _ w9).drew)
  have D11 : Below W0.heap.size W0 w11 := bchain D911 D9
  have sY11 := Lib.hid (sY9.below D911)
  have hU7b := Lib.hid (hU79.out.below D911)
  clear hb10 hb11 hU10 hU69 hU79 s1' k1' x0 x1 x2 x3 y0 y1 y2 y3 D9 sY9 D911
  have k2' := Lib.hid (k2.below D11)
  have hBB11 := bchain D11 hB0
  obtain ⟨_, x0, x1, x2, x3, _⟩ := sY11.out
  obtain ⟨_, y0, y1, y2, y3, _⟩ := k2'.out
  go_wp2_with fail
  go_region_held3 (fun A => (A.cell? ⟨w.heap.size + 1, 0, none⟩ = some (.int .i64 Y.n) ∧ A.cell? ⟨w.heap.size + 1, 1, none⟩ = some (.int .u32 Y.e) ∧ A.cell? ⟨w.heap.size + 1, 2, none⟩ = some (.int .u32 Y.s) ∧ A.cell? ⟨w.heap.size + 1, 3, none⟩ = some (.slice a2 Y.ts.length cap2)) ∧ A.cell? ⟨w7.heap.size, 0, none⟩ = some (.int .i64 Y.n) ∧ A.cell? ⟨w7.heap.size, 1, none⟩ = some (.int .u32 Y.e) ∧ A.cell? ⟨w7.heap.size, 2, none⟩ = some (.int .u32 Y.s) ∧ A.cell? ⟨w7.heap.size, 3, none⟩ = some (.slice a7 Y.ts.length c7))
    (exact ⟨⟨(k2'.out.below (by (repeat (first | exact Below.refl _ _ | assumption | refine bchain (by assumption) ?_ | refine balloc ?_ _ | apply Below.drew | apply below_drewN | (refine Below.alloc ?_ (by (try simp) <;> omega) _) | (refine Below.setCell ?_ (by (try simp) <;> omega) _))))).c0, (k2'.out.below (by (repeat (first | exact Below.refl _ _ | assumption | refine bchain (by assumption) ?_ | refine balloc ?_ _ | apply Below.drew | apply below_drewN | (refine Below.alloc ?_ (by (try simp) <;> omega) _) | (refine Below.setCell ?_ (by (try simp) <;> omega) _))))).c1, (k2'.out.below (by (repeat (first | exact Below.refl _ _ | assumption | refine bchain (by assumption) ?_ | refine balloc ?_ _ | apply Below.drew | apply below_drewN | (refine Below.alloc ?_ (by (try simp) <;> omega) _) | (refine Below.setCell ?_ (by (try simp) <;> omega) _))))).c2, (k2'.out.below (by (repeat (first | exact Below.refl _ _ | assumption | refine bchain (by assumption) ?_ | refine balloc ?_ _ | apply Below.drew | apply below_drewN | (refine Below.alloc ?_ (by (try simp) <;> omega) _) | (refine Below.setCell ?_ (by (try simp) <;> omega) _))))).c3⟩, (sY11.out.below (by (repeat (first | exact Below.refl _ _ | assumption | refine bchain (by assumption) ?_ | refine balloc ?_ _ | apply Below.drew | apply below_drewN | (refine Below.alloc ?_ (by (try simp) <;> omega) _) | (refine Below.setCell ?_ (by (try simp) <;> omega) _))))).c0, (sY11.out.below (by (repeat (first | exact Below.refl _ _ | assumption | refine bchain (by assumption) ?_ | refine balloc ?_ _ | apply Below.drew | apply below_drewN | (refine Below.alloc ?_ (by (try simp) <;> omega) _) | (refine Below.setCell ?_ (by (try simp) <;> omega) _))))).c1, (sY11.out.below (by (repeat (first | exact Below.refl _ _ | assumption | refine bchain (by assumption) ?_ | refine balloc ?_ _ | apply Below.drew | apply below_drewN | (refine Below.alloc ?_ (by (try simp) <;> omega) _) | (refine Below.setCell ?_ (by (try simp) <;> omega) _))))).c2, (sY11.out.below (by (repeat (first | exact Below.refl _ _ | assumption | refine bchain (by assumption) ?_ | refine balloc ?_ _ | apply Below.drew | apply below_drewN | (refine Below.alloc ?_ (by (try simp) <;> omega) _) | (refine Below.setCell ?_ (by (try simp) <;> omega) _))))).c3⟩)
    (first
    | (go_at_call 15; refine (hT2.out _ (by (repeat (first | exact Below.refl _ _ | assumption | refine bchain (by assumption) ?_ | refine balloc ?_ _ | apply Below.drew | apply below_drewN | (refine Below.alloc ?_ (by (try simp) <;> omega) _) | (refine Below.setCell ?_ (by (try simp) <;> omega) _))))).mono ?_; rintro r12 w12 ⟨⟨u12, rfl, hU12⟩, hb12⟩)
    | (go_at_call 17; refine (hE2.out _ _ _ (hU7b.out.below (by (repeat (first | exact Below.refl _ _ | assumption | refine bchain (by assumption) ?_ | refine balloc ?_ _ | apply Below.drew | apply below_drewN | (refine Below.alloc ?_ (by (try simp) <;> omega) _) | (refine Below.setCell ?_ (by (try simp) <;> omega) _))))) hU12.sl).mono ?_; rintro r13 w13 ⟨rfl, hb13⟩))
  have D13 : Below W0.heap.size W0 w13 := bchain hb13 (bchain hb12 D11.drew)
  go_wp2
  go_ret
  exact ⟨rfl, bchain D13 hB0⟩
theorem walk (v : Value) (X : PM) (v2 : Value) (Y : PM) (w : World) (h : PatS w v X) (_ : BdP X) (h2 : PatS w v2 Y) (_ : BdP Y) :
    Calls Try.prog 4 #[v, v2] w fun r w' => r = .returned (.bool true) ∧ Below w.heap.size w w' := by
  rcases Nat.lt_or_ge 1048576 X.ts.length with c | c
  · exact walk_long v v2 X w h ⟨Y, h2⟩ c
  · by_cases c2 : (Y.ts.length : Int) ≤ 1048576 - (X.ts.length : Int)
    · exact walk_short v v2 X Y w h h2 c c2
    · exact walk_long2 v v2 X Y w h h2 c (by omega)
end SamePatternLaw
theorem SamePatternLaw.lifted (os : Os) (started : os.Started) (H : Type) (enc : TypeId × Value → H) :
    ReturnsInHanded {} Try.checked os 4 .any (Rows.fnExactSamePatternSpec.pre6 enc Try.prog Try.f4 Rows.fnExactSamePatternRow.domain false)
      (Rows.fnExactSamePatternSpec.post enc Try.prog Try.f4 false true false false) := by
  refine fr_lift (C := Try.checked) own started (by kernel_rfl) Try.func4 laid_out rfl (by kernel_rfl) (tb := 4) rfl Try.underlying4 ?hs
    (ChangeSpec.witness6 (enc := enc) (C := Try.checked) false ⟨#[], #[.agg #[.int .i64 0, .int .u32 0, .int .u32 0, .slice none 0 0], .agg #[.int .i64 0, .int .u32 0, .int .u32 0, .slice none 0 0]], []⟩ 8 (by kernel_rfl) (by kernel_rfl) (by kernel_rfl) (by kernel_rfl)) ?_
  case hs =>
    intro ds h
    match ds, h with
    | [d0, d1], _ => rfl
  intro W base args ds p hval0 hA0 hlt hsz
  have hval : ∀ (j : Nat) t v, Try.f4.params[j]? = some t → args[j]? = some v → Value.okWide Try.prog W .any base t v := hval0
  have hA : DataW.TrodAll enc Try.prog W 0 (fun _ => true) true Try.f4.params.toList args.toList ds p := hA0
  rw [Try.params4] at hA hval
  obtain ⟨v0, vs0, d0, ds0, p0, q0, hargs, rfl, rfl, h0, r0⟩ := trodAll_cons hA
  obtain ⟨v1, vs1, d1, ds1, p1, q1, rfl, rfl, rfl, h1, r1⟩ := trodAll_cons r0
  obtain ⟨rfl, rfl, rfl⟩ := trodAll_nil r1
  obtain rfl : args = #[v0, v1] := by cases args; simp_all
  obtain ⟨x0, R0⟩ := open_pat (hval 0 27 v0 rfl rfl) h0
  obtain ⟨x1, R1⟩ := open_pat (hval 1 27 v1 rfl rfl) h1
  exact SamePatternLaw.walk v0 x0 v1 x1 W R0.1 R0.2 R1.1 R1.2

theorem samePattern_holds : Rows.FnExactSamePatternSaid :=
  OpenClaim.holds_of_wide 4 Try.f4 rfl rfl rfl rfl rfl rfl rfl ⟨rfl, rfl, rfl, rfl, rfl⟩ rfl rfl rfl rfl rfl (by kernel_rfl) Try.func4 (by kernel_rfl)
    (of_decide_eq_true (by kernel_rfl)) (by unfold Func.isWrapper; rw [if_neg (of_decide_eq_false (by kernel_rfl))]; exact ⟨rfl, rfl⟩)
    (fun os started H enc _ => SamePatternLaw.lifted os started H enc)
#print axioms samePattern_holds
end Go.Proofs.Ytfnjgdocmfmfgaa
