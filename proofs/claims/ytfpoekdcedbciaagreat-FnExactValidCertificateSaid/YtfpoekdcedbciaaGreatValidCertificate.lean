/-
  PROVED: for every statement and every certificate, valid or not, ValidCertificate of the program answers as the model's does, and its statement and its certificate are left as they were. Conditions: none.
-/
import Derived.Test.YtfpoekdcedbciaaGreatVcM
import Derived.Deep.RegionHeld3
namespace Go.Proofs.YtfpoekdcedbciaaGreat
open Go.ChangeShapes Go.WideShapes Go.ChangeAt Go.RowKit
set_option maxRecDepth 100000

namespace ValidCertificateLaw
theorem walk_long (v v2 : Value) (Y : QM) (C : CM) (w : World) (h : StS w v Y) (h2 : CtS w v2 C) (hm : ¬ ((Y.gs.length : Int) + Y.X.ts.length ≤ 1048576)) :
    Calls Tryz.prog 3 #[v, v2] w fun r w' => r = .returned (.bool true) ∧ Below w.heap.size w w' := by
  have hC := Lib.hid (fun W (hb : Below w.heap.size w W) => szQ_bad W v Y (h.below hb) 1048576 (by omega) (by omega) hm)
  obtain ⟨gs, ⟨n, e, s, ts⟩, p, q⟩ := Y
  obtain ⟨sz, bs⟩ := C
  obtain ⟨z, u, rfl, ⟨a, cap, rfl, _⟩, ⟨au, cu, rfl, _⟩⟩ := h
  obtain ⟨u', rfl, ⟨a', cap', rfl, _⟩⟩ := h2
  dsimp only at *
  clear hm
  go_enter Tryz.func3, Tryz.ntmps3
  go_wp2_with fail
  refine (hC.out _ (by (repeat (first | exact Below.refl _ _ | assumption | refine bchain (by assumption) ?_ | refine balloc ?_ _ | apply Below.drew | apply below_drewN | (refine Below.alloc ?_ (by (try simp) <;> omega) _) | (refine Below.setCell ?_ (by (try simp) <;> omega) _))))).mono ?_
  rintro r1 w1 ⟨rfl, hb1⟩
  go_wp2
  go_ret
  exact ⟨rfl, by (repeat (first | exact Below.refl _ _ | assumption | refine bchain (by assumption) ?_ | refine balloc ?_ _ | apply Below.drew | apply below_drewN | (refine Below.alloc ?_ (by (try simp) <;> omega) _) | (refine Below.setCell ?_ (by (try simp) <;> omega) _)))⟩
theorem walk_long2 (v v2 : Value) (Y : QM) (C : CM) (w : World) (h : StS w v Y) (h2 : CtS w v2 C) (hm : (Y.gs.length : Int) + Y.X.ts.length ≤ 1048576) (hm2 : ¬ ((tC C : Int) ≤ 1048576 - (Y.gs.length : Int) - (Y.X.ts.length : Int))) :
    Calls Tryz.prog 3 #[v, v2] w fun r w' => r = .returned (.bool true) ∧ Below w.heap.size w w' := by
  have hC := Lib.hid (fun W (hb : Below w.heap.size w W) => szQ_ok W v Y (h.below hb) 1048576 (by omega) (by omega) hm)
  have hD := Lib.hid (fun W (hb : Below w.heap.size w W) => szC_bad W v2 C (h2.below hb) (1048576 - (Y.gs.length : Int) - (Y.X.ts.length : Int)) (by omega) (by omega) hm2)
  obtain ⟨gs, ⟨n, e, s, ts⟩, p, q⟩ := Y
  obtain ⟨sz, bs⟩ := C
  obtain ⟨z, u, rfl, ⟨a, cap, rfl, _⟩, ⟨au, cu, rfl, _⟩⟩ := h
  obtain ⟨u', rfl, ⟨a', cap', rfl, _⟩⟩ := h2
  dsimp only at *
  have hl0 : 0 ≤ 1048576 - (gs.length : Int) - (ts.length : Int) := by omega
  obtain ⟨q0, hq⟩ : ∃ q0 : Int, 1048576 - (gs.length : Int) - (ts.length : Int) = q0 := ⟨_, rfl⟩
  rw [hq] at hC hD hl0
  clear hq hm hm2
  obtain ⟨l1, hk1⟩ : ∃ l, gs.length = l := ⟨_, rfl⟩
  obtain ⟨l2, hk2⟩ : ∃ l, ts.length = l := ⟨_, rfl⟩
  obtain ⟨l', hk'⟩ : ∃ l, bs.length = l := ⟨_, rfl⟩
  rw [hk1, hk2] at hC ⊢
  rw [hk'] at hD ⊢
  clear hk1 hk2 hk'
  obtain ⟨W0, hW0⟩ : ∃ W0, W0 = (w.alloc (.cells #[.slice a l1 cap, .int .i64 n, .int .u32 e, .int .i64 s, .slice au l2 cu, .int .i64 p, .int .i64 q] 32)).alloc (.cells #[.int .i64 sz, .slice a' l' cap'] 35) := ⟨_, rfl⟩
  have hB0 : Below w.heap.size w W0 := by rw [hW0]; (repeat (first | exact Below.refl _ _ | assumption | refine bchain (by assumption) ?_ | refine balloc ?_ _ | apply Below.drew | apply below_drewN | (refine Below.alloc ?_ (by (try simp) <;> omega) _) | (refine Below.setCell ?_ (by (try simp) <;> omega) _)))
  have szz : ∀ (W : World) (o : Obj), (W.alloc o).heap.size = W.heap.size + 1 := fun W o => by simp
  have k1 : QB W0 w.heap.size (.slice a l1 cap) n e s (.slice au l2 cu) p q := by rw [hW0]; exact (QB.made _ _ _ _ _ _ _ _ _).below (balloc (Below.refl _ _) _)
  have k2 : CB W0 (w.heap.size + 1) sz (.slice a' l' cap') := by rw [hW0, ← szz w (.cells #[.slice a l1 cap, .int .i64 n, .int .u32 e, .int .i64 s, .slice au l2 cu, .int .i64 p, .int .i64 q] 32)]; exact CB.made _ _ _ _
  replace hW0 := Lib.hid hW0
  clear szz
  obtain ⟨_, x0, x1, x2, x3, x4, x5, x6, _⟩ := id k1
  go_enter Tryz.func3, Tryz.ntmps3
  go_wp2_with fail
  rw [← hW0.out]
  go_wp2_with fail
  refine (hC.out _ hB0).mono ?_
  rintro r1 w1 ⟨rfl, hb1⟩
  obtain ⟨_, y0, y1, _⟩ := k2.below hb1
  go_wp2_with fail
  refine (hD.out _ (bchain hb1 hB0)).mono ?_
  rintro r2 w2 ⟨rfl, hb2⟩
  go_wp2
  go_ret
  exact ⟨rfl, bchain hb2 (bchain hb1 hB0)⟩
set_option maxHeartbeats 16000000 in
theorem walk_short (v v2 : Value) (Y : QM) (C : CM) (w : World) (h : StS w v Y) (h2 : CtS w v2 C) (hbd : BdQ Y) (hbd2 : BdB C.bs) (hm : (Y.gs.length : Int) + Y.X.ts.length ≤ 1048576) (hm2 : (tC C : Int) ≤ 1048576 - (Y.gs.length : Int) - (Y.X.ts.length : Int)) :
    Calls Tryz.prog 3 #[v, v2] w fun r w' => r = .returned (.bool true) ∧ Below w.heap.size w w' := by
  obtain ⟨B, hBB⟩ : ∃ B : Bool, (B = true ↔ VC Y C) := ⟨@decide (VC Y C) (Classical.propDecidable _), by simp⟩
  have hC := Lib.hid (fun W (hb : Below w.heap.size w W) => szQ_ok W v Y (h.below hb) 1048576 (by omega) (by omega) hm)
  have hD := Lib.hid (fun W (hb : Below w.heap.size w W) => szC_ok W v2 C (h2.below hb) (1048576 - (Y.gs.length : Int) - (Y.X.ts.length : Int)) (by omega) (by omega) hm2)
  have hT := Lib.hid (fun W (hb : Below w.heap.size w W) => toQ_any W v Y (h.below hb) (by omega) (by omega))
  have hT2 := Lib.hid (fun W (hb : Below w.heap.size w W) => toC_any W v2 C (h2.below hb) (by omega))
  have hs := Lib.hid (fun W z u u' (hz : SlG W z Y.gs) (hu : SlT W u Y.X.ts) (hu' : SlB W u' C.bs) => svc_any W Y C z u u' hz hu hu' hbd hbd2 (by omega) (by omega) B hBB)
  have hi := Lib.hid (fun W z u u' (hz : SlG W z Y.gs) (hu : SlT W u Y.X.ts) (hu' : SlB W u' C.bs) => ivc_any W Y C z u u' hz hu hu' hbd hbd2 (by omega) (by omega) B hBB)
  have hE := Lib.hid (fun W z u z' u' (hz : SlG W z Y.gs) (hu : SlT W u Y.X.ts) (hz' : SlG W z' Y.gs) (hu' : SlT W u' Y.X.ts) => eqQ_any W Y z u z' u' hz hu hz' hu' (by omega) (by omega))
  have hE2 := Lib.hid (fun W u u' (hu : SlB W u C.bs) (hu' : SlB W u' C.bs) => eqC_any W C u u' hu hu' (by omega))
  have hl1 : 0 ≤ 1048576 - (Y.gs.length : Int) - (Y.X.ts.length : Int) - (tC C : Int) := by omega
  obtain ⟨tc, htc⟩ : ∃ tc, tC C = tc := ⟨_, rfl⟩
  rw [htc] at hD hl1 hm2
  obtain ⟨gs, ⟨n, e, s, ts⟩, p, q⟩ := Y
  obtain ⟨sz, bs⟩ := C
  obtain ⟨z, u, rfl, ⟨a, cap, rfl, _⟩, ⟨au, cu, rfl, _⟩⟩ := h
  obtain ⟨u', rfl, ⟨a', cap', rfl, _⟩⟩ := h2
  dsimp only at *
  have hl0 : 0 ≤ 1048576 - (gs.length : Int) - (ts.length : Int) := by omega
  obtain ⟨q0, hq⟩ : ∃ q0 : Int, 1048576 - (gs.length : Int) - (ts.length : Int) = q0 := ⟨_, rfl⟩
  rw [hq] at hC hD hl0 hl1
  obtain ⟨q1, hq1⟩ : ∃ q1 : Int, q0 - (tc : Int) = q1 := ⟨_, rfl⟩
  rw [hq1] at hD hl1
  clear hq hq1 hm hm2 hBB htc hbd hbd2
  obtain ⟨l1, hk1⟩ : ∃ l, gs.length = l := ⟨_, rfl⟩
  obtain ⟨l2, hk2⟩ : ∃ l, ts.length = l := ⟨_, rfl⟩
  obtain ⟨l', hk'⟩ : ∃ l, bs.length = l := ⟨_, rfl⟩
  rw [hk1, hk2] at hC hT ⊢
  rw [hk'] at hD hT2 ⊢
  replace hk1 := Lib.hid hk1
  replace hk2 := Lib.hid hk2
  replace hk' := Lib.hid hk'
  obtain ⟨W0, hW0⟩ : ∃ W0, W0 = (w.alloc (.cells #[.slice a l1 cap, .int .i64 n, .int .u32 e, .int .i64 s, .slice au l2 cu, .int .i64 p, .int .i64 q] 32)).alloc (.cells #[.int .i64 sz, .slice a' l' cap'] 35) := ⟨_, rfl⟩
  have hB0 : Below w.heap.size w W0 := by rw [hW0]; (repeat (first | exact Below.refl _ _ | assumption | refine bchain (by assumption) ?_ | refine balloc ?_ _ | apply Below.drew | apply below_drewN | (refine Below.alloc ?_ (by (try simp) <;> omega) _) | (refine Below.setCell ?_ (by (try simp) <;> omega) _)))
  have szz : ∀ (W : World) (o : Obj), (W.alloc o).heap.size = W.heap.size + 1 := fun W o => by simp
  have k1 : QB W0 w.heap.size (.slice a l1 cap) n e s (.slice au l2 cu) p q := by rw [hW0]; exact (QB.made _ _ _ _ _ _ _ _ _).below (balloc (Below.refl _ _) _)
  have k2 : CB W0 (w.heap.size + 1) sz (.slice a' l' cap') := by rw [hW0, ← szz w (.cells #[.slice a l1 cap, .int .i64 n, .int .u32 e, .int .i64 s, .slice au l2 cu, .int .i64 p, .int .i64 q] 32)]; exact CB.made _ _ _ _
  replace hW0 := Lib.hid hW0
  clear szz
  obtain ⟨_, x0, x1, x2, x3, x4, x5, x6, _⟩ := id k1
  go_enter Tryz.func3, Tryz.ntmps3
  go_wp2_with fail
  rw [← hW0.out]
  go_wp2_with fail
  refine (hC.out _ hB0).mono ?_
  rintro r1 w1 ⟨rfl, hb1⟩
  clear x0 x1 x2 x3 x4 x5 x6
  obtain ⟨_, y0, y1, _⟩ := k2.below hb1
  go_wp2_with fail
  refine (hD.out _ (bchain hb1 hB0)).mono ?_
  rintro r2 w2 ⟨rfl, hb2⟩
  have D2 : Below W0.heap.size W0 w2 := bchain hb2 hb1
  clear y0 y1 hb1 hb2
  have k1' := Lib.hid (k1.below D2)
  have k2' := Lib.hid (k2.below D2)
  have hB2 := bchain D2 hB0
  obtain ⟨_, x0, x1, x2, x3, x4, x5, x6, _⟩ := k1'.out
  obtain ⟨_, y0, y1, _⟩ := k2'.out
  go_wp2_with fail
  go_region_held3 (fun A => (A.cell? ⟨w.heap.size, 0, none⟩ = some (.slice a l1 cap) ∧ A.cell? ⟨w.heap.size, 1, none⟩ = some (.int .i64 n) ∧ A.cell? ⟨w.heap.size, 2, none⟩ = some (.int .u32 e) ∧ A.cell? ⟨w.heap.size, 3, none⟩ = some (.int .i64 s) ∧ A.cell? ⟨w.heap.size, 4, none⟩ = some (.slice au l2 cu) ∧ A.cell? ⟨w.heap.size, 5, none⟩ = some (.int .i64 p) ∧ A.cell? ⟨w.heap.size, 6, none⟩ = some (.int .i64 q)) ∧ (A.cell? ⟨w.heap.size + 1, 0, none⟩ = some (.int .i64 sz) ∧ A.cell? ⟨w.heap.size + 1, 1, none⟩ = some (.slice a' l' cap')))
    (exact ⟨⟨(k1'.out.below (by (repeat (first | exact Below.refl _ _ | assumption | refine bchain (by assumption) ?_ | refine balloc ?_ _ | apply Below.drew | apply below_drewN | (refine Below.alloc ?_ (by (try simp) <;> omega) _) | (refine Below.setCell ?_ (by (try simp) <;> omega) _))))).c0, (k1'.out.below (by (repeat (first | exact Below.refl _ _ | assumption | refine bchain (by assumption) ?_ | refine balloc ?_ _ | apply Below.drew | apply below_drewN | (refine Below.alloc ?_ (by (try simp) <;> omega) _) | (refine Below.setCell ?_ (by (try simp) <;> omega) _))))).c1, (k1'.out.below (by (repeat (first | exact Below.refl _ _ | assumption | refine bchain (by assumption) ?_ | refine balloc ?_ _ | apply Below.drew | apply below_drewN | (refine Below.alloc ?_ (by (try simp) <;> omega) _) | (refine Below.setCell ?_ (by (try simp) <;> omega) _))))).c2, (k1'.out.below (by (repeat (first | exact Below.refl _ _ | assumption | refine bchain (by assumption) ?_ | refine balloc ?_ _ | apply Below.drew | apply below_drewN | (refine Below.alloc ?_ (by (try simp) <;> omega) _) | (refine Below.setCell ?_ (by (try simp) <;> omega) _))))).c3, (k1'.out.below (by (repeat (first | exact Below.refl _ _ | assumption | refine bchain (by assumption) ?_ | refine balloc ?_ _ | apply Below.drew | apply below_drewN | (refine Below.alloc ?_ (by (try simp) <;> omega) _) | (refine Below.setCell ?_ (by (try simp) <;> omega) _))))).c4, (k1'.out.below (by (repeat (first | exact Below.refl _ _ | assumption | refine bchain (by assumption) ?_ | refine balloc ?_ _ | apply Below.drew | apply below_drewN | (refine Below.alloc ?_ (by (try simp) <;> omega) _) | (refine Below.setCell ?_ (by (try simp) <;> omega) _))))).c5, (k1'.out.below (by (repeat (first | exact Below.refl _ _ | assumption | refine bchain (by assumption) ?_ | refine balloc ?_ _ | apply Below.drew | apply below_drewN | (refine Below.alloc ?_ (by (try simp) <;> omega) _) | (refine Below.setCell ?_ (by (try simp) <;> omega) _))))).c6⟩, ⟨(k2'.out.below (by (repeat (first | exact Below.refl _ _ | assumption | refine bchain (by assumption) ?_ | refine balloc ?_ _ | apply Below.drew | apply below_drewN | (refine Below.alloc ?_ (by (try simp) <;> omega) _) | (refine Below.setCell ?_ (by (try simp) <;> omega) _))))).c0, (k2'.out.below (by (repeat (first | exact Below.refl _ _ | assumption | refine bchain (by assumption) ?_ | refine balloc ?_ _ | apply Below.drew | apply below_drewN | (refine Below.alloc ?_ (by (try simp) <;> omega) _) | (refine Below.setCell ?_ (by (try simp) <;> omega) _))))).c1⟩⟩)
    (first
    | (go_at_call 8; with_reducible refine (hT.out _ (by (repeat (first | exact Below.refl _ _ | assumption | refine bchain (by assumption) ?_ | refine balloc ?_ _ | apply Below.drew | apply below_drewN | (refine Below.alloc ?_ (by (try simp) <;> omega) _) | (refine Below.setCell ?_ (by (try simp) <;> omega) _))))).mono ?_; rintro r3 w3 ⟨⟨z3, u3, rfl, hZ3, hU3⟩, hb3⟩)
    | (go_at_call 9; with_reducible refine (hT2.out _ (by (repeat (first | exact Below.refl _ _ | assumption | refine bchain (by assumption) ?_ | refine balloc ?_ _ | apply Below.drew | apply below_drewN | (refine Below.alloc ?_ (by (try simp) <;> omega) _) | (refine Below.setCell ?_ (by (try simp) <;> omega) _))))).mono ?_; rintro r4 w4 ⟨⟨u4, rfl, hU4⟩, hb4⟩)
    | (go_at_call 7; refine (hs.out _ _ _ _ (hZ3.sl.below (by (repeat (first | exact Below.refl _ _ | assumption | refine bchain (by assumption) ?_ | refine balloc ?_ _ | apply Below.drew | apply below_drewN | (refine Below.alloc ?_ (by (try simp) <;> omega) _) | (refine Below.setCell ?_ (by (try simp) <;> omega) _))))) (hU3.sl.below (by (repeat (first | exact Below.refl _ _ | assumption | refine bchain (by assumption) ?_ | refine balloc ?_ _ | apply Below.drew | apply below_drewN | (refine Below.alloc ?_ (by (try simp) <;> omega) _) | (refine Below.setCell ?_ (by (try simp) <;> omega) _))))) hU4.sl).mono ?_; rintro r5 w5 ⟨rfl, hb5⟩))
  have D5 : Below W0.heap.size W0 w5 := by (repeat (first | exact Below.refl _ _ | assumption | refine bchain (by assumption) ?_ | refine balloc ?_ _ | apply Below.drew | apply below_drewN | (refine Below.alloc ?_ (by (try simp) <;> omega) _) | (refine Below.setCell ?_ (by (try simp) <;> omega) _)))
  clear hb3 hb4 hb5 hZ3 hU3 hU4 x0 x1 x2 x3 x4 x5 x6 y0 y1 k1' k2' hB2 D2
  obtain ⟨_, x0, x1, x2, x3, x4, x5, x6, _⟩ := k1.below D5
  go_wp2_with fail
  refine (hT.out _ (bchain D5 hB0)).mono ?_
  rintro r6 w6 ⟨⟨z6, u6, rfl, hZ6, hU6⟩, hb6⟩
  have D6 : Below W0.heap.size W0 w6 := bchain hb6 D5
  obtain ⟨a6, c6, rfl, _⟩ := id hZ6
  obtain ⟨b6, d6, rfl, _⟩ := id hU6
  rw [hk1.out] at hZ6 ⊢
  rw [hk2.out] at hU6 ⊢
  clear D5 hb6 x0 x1 x2 x3 x4 x5 x6
  obtain ⟨WX, hWX⟩ : ∃ WX, WX = w6.alloc (.cells #[.slice a6 l1 c6, .int .i64 n, .int .u32 e, .int .i64 s, .slice b6 l2 d6, .int .i64 p, .int .i64 q] 46) := ⟨_, rfl⟩
  have sX : QB WX w6.heap.size (.slice a6 l1 c6) n e s (.slice b6 l2 d6) p q := by rw [hWX]; exact QB.made _ _ _ _ _ _ _ _ _
  have bX : Below w6.heap.size w6 WX := by rw [hWX]; exact balloc (Below.refl _ _) _
  replace hWX := Lib.hid hWX
  have D6' : Below W0.heap.size W0 WX := bchain bX D6
  have hZ6' := Lib.hid (hZ6.sl.below bX)
  have hU6' := Lib.hid (hU6.sl.below bX)
  have hn6 : w.heap.size ≠ w6.heap.size := by have := k2.lt; have := D6.size; omega
  have hn6b : w.heap.size + 1 ≠ w6.heap.size := by have := k2.lt; have := D6.size; omega
  obtain ⟨_, y0, y1, _⟩ := k2.below D6
  clear hU6 hZ6 D6
  obtain ⟨_, x0, x1, _⟩ := k2.below D6'
  go_wp2_with fail
  rw [← hWX.out]
  go_wp2_with fail
  refine (hT2.out _ (bchain D6' hB0)).mono ?_
  rintro r7 w7 ⟨⟨u7, rfl, hU7⟩, hb7⟩
  have D7 : Below W0.heap.size W0 w7 := bchain hb7 D6'
  obtain ⟨a7, c7, rfl, _⟩ := id hU7
  rw [hk'.out] at hU7 ⊢
  have sX7 := sX.below hb7
  have hZ6b := Lib.hid (hZ6'.out.below hb7)
  have hU6b := Lib.hid (hU6'.out.below hb7)
  clear hU6' hZ6' D6' hb7 sX x0 x1 y0 y1 bX
  obtain ⟨WY, hWY⟩ : ∃ WY, WY = w7.alloc (.cells #[.int .i64 sz, .slice a7 l' c7] 50) := ⟨_, rfl⟩
  have sY : CB WY w7.heap.size sz (.slice a7 l' c7) := by rw [hWY]; exact CB.made _ _ _ _
  have bY : Below w7.heap.size w7 WY := by rw [hWY]; exact balloc (Below.refl _ _) _
  replace hWY := Lib.hid hWY
  have D8 : Below W0.heap.size W0 WY := bchain bY D7
  have hU7' := Lib.hid (hU7.sl.below bY)
  have sX8 := sX7.below bY
  have hZ6c := Lib.hid (hZ6b.out.below bY)
  have hU6c := Lib.hid (hU6b.out.below bY)
  have hn7 : w6.heap.size ≠ w7.heap.size := by have := sX7.lt; omega
  obtain ⟨_, y0, y1, y2, y3, y4, y5, y6, _⟩ := id sX7
  clear hU7 D7 sX7 hU6b hZ6b bY
  obtain ⟨_, x0, x1, x2, x3, x4, x5, x6, _⟩ := id sX8
  obtain ⟨_, z0, z1, _⟩ := id sY
  go_wp2_with fail
  rw [← hWY.out]
  go_wp2_with fail
  refine (hi.out _ _ _ _ hZ6c.out hU6c.out hU7'.out).mono ?_
  rintro r9 w9 ⟨rfl, hb9⟩
  have D9 : Below W0.heap.size W0 w9 := bchain hb9 D8
  have sX9 := sX8.below hb9
  have sY9 := sY.below hb9
  have hZ69 := Lib.hid (hZ6c.out.below hb9)
  have hU69 := Lib.hid (hU6c.out.below hb9)
  have hU79 := Lib.hid (hU7'.out.below hb9)
  clear D8 sX8 sY hb9 hZ6c hU6c hU7' x0 x1 x2 x3 x4 x5 x6 y0 y1 y2 y3 y4 y5 y6 z0 z1
  have d1 : (B != B) = false := by cases B <;> rfl
  have k1' := Lib.hid (k1.below D9)
  have hBB9 := bchain D9 hB0
  have s1' := Lib.hid sX9
  obtain ⟨_, x0, x1, x2, x3, x4, x5, x6, _⟩ := id sX9
  obtain ⟨_, y0, y1, y2, y3, y4, y5, y6, _⟩ := k1.below D9
  clear sX9
  go_wp2_with fail
  go_region_held3 (fun A => (A.cell? ⟨w.heap.size, 0, none⟩ = some (.slice a l1 cap) ∧ A.cell? ⟨w.heap.size, 1, none⟩ = some (.int .i64 n) ∧ A.cell? ⟨w.heap.size, 2, none⟩ = some (.int .u32 e) ∧ A.cell? ⟨w.heap.size, 3, none⟩ = some (.int .i64 s) ∧ A.cell? ⟨w.heap.size, 4, none⟩ = some (.slice au l2 cu) ∧ A.cell? ⟨w.heap.size, 5, none⟩ = some (.int .i64 p) ∧ A.cell? ⟨w.heap.size, 6, none⟩ = some (.int .i64 q)) ∧ (A.cell? ⟨w6.heap.size, 0, none⟩ = some (.slice a6 l1 c6) ∧ A.cell? ⟨w6.heap.size, 1, none⟩ = some (.int .i64 n) ∧ A.cell? ⟨w6.heap.size, 2, none⟩ = some (.int .u32 e) ∧ A.cell? ⟨w6.heap.size, 3, none⟩ = some (.int .i64 s) ∧ A.cell? ⟨w6.heap.size, 4, none⟩ = some (.slice b6 l2 d6) ∧ A.cell? ⟨w6.heap.size, 5, none⟩ = some (.int .i64 p) ∧ A.cell? ⟨w6.heap.size, 6, none⟩ = some (.int .i64 q)))
    (exact ⟨⟨(k1'.out.below (by (repeat (first | exact Below.refl _ _ | assumption | refine bchain (by assumption) ?_ | refine balloc ?_ _ | apply Below.drew | apply below_drewN | (refine Below.alloc ?_ (by (try simp) <;> omega) _) | (refine Below.setCell ?_ (by (try simp) <;> omega) _))))).c0, (k1'.out.below (by (repeat (first | exact Below.refl _ _ | assumption | refine bchain (by assumption) ?_ | refine balloc ?_ _ | apply Below.drew | apply below_drewN | (refine Below.alloc ?_ (by (try simp) <;> omega) _) | (refine Below.setCell ?_ (by (try simp) <;> omega) _))))).c1, (k1'.out.below (by (repeat (first | exact Below.refl _ _ | assumption | refine bchain (by assumption) ?_ | refine balloc ?_ _ | apply Below.drew | apply below_drewN | (refine Below.alloc ?_ (by (try simp) <;> omega) _) | (refine Below.setCell ?_ (by (try simp) <;> omega) _))))).c2, (k1'.out.below (by (repeat (first | exact Below.refl _ _ | assumption | refine bchain (by assumption) ?_ | refine balloc ?_ _ | apply Below.drew | apply below_drewN | (refine Below.alloc ?_ (by (try simp) <;> omega) _) | (refine Below.setCell ?_ (by (try simp) <;> omega) _))))).c3, (k1'.out.below (by (repeat (first | exact Below.refl _ _ | assumption | refine bchain (by assumption) ?_ | refine balloc ?_ _ | apply Below.drew | apply below_drewN | (refine Below.alloc ?_ (by (try simp) <;> omega) _) | (refine Below.setCell ?_ (by (try simp) <;> omega) _))))).c4, (k1'.out.below (by (repeat (first | exact Below.refl _ _ | assumption | refine bchain (by assumption) ?_ | refine balloc ?_ _ | apply Below.drew | apply below_drewN | (refine Below.alloc ?_ (by (try simp) <;> omega) _) | (refine Below.setCell ?_ (by (try simp) <;> omega) _))))).c5, (k1'.out.below (by (repeat (first | exact Below.refl _ _ | assumption | refine bchain (by assumption) ?_ | refine balloc ?_ _ | apply Below.drew | apply below_drewN | (refine Below.alloc ?_ (by (try simp) <;> omega) _) | (refine Below.setCell ?_ (by (try simp) <;> omega) _))))).c6⟩, ⟨(s1'.out.below (by (repeat (first | exact Below.refl _ _ | assumption | refine bchain (by assumption) ?_ | refine balloc ?_ _ | apply Below.drew | apply below_drewN | (refine Below.alloc ?_ (by (try simp) <;> omega) _) | (refine Below.setCell ?_ (by (try simp) <;> omega) _))))).c0, (s1'.out.below (by (repeat (first | exact Below.refl _ _ | assumption | refine bchain (by assumption) ?_ | refine balloc ?_ _ | apply Below.drew | apply below_drewN | (refine Below.alloc ?_ (by (try simp) <;> omega) _) | (refine Below.setCell ?_ (by (try simp) <;> omega) _))))).c1, (s1'.out.below (by (repeat (first | exact Below.refl _ _ | assumption | refine bchain (by assumption) ?_ | refine balloc ?_ _ | apply Below.drew | apply below_drewN | (refine Below.alloc ?_ (by (try simp) <;> omega) _) | (refine Below.setCell ?_ (by (try simp) <;> omega) _))))).c2, (s1'.out.below (by (repeat (first | exact Below.refl _ _ | assumption | refine bchain (by assumption) ?_ | refine balloc ?_ _ | apply Below.drew | apply below_drewN | (refine Below.alloc ?_ (by (try simp) <;> omega) _) | (refine Below.setCell ?_ (by (try simp) <;> omega) _))))).c3, (s1'.out.below (by (repeat (first | exact Below.refl _ _ | assumption | refine bchain (by assumption) ?_ | refine balloc ?_ _ | apply Below.drew | apply below_drewN | (refine Below.alloc ?_ (by (try simp) <;> omega) _) | (refine Below.setCell ?_ (by (try simp) <;> omega) _))))).c4, (s1'.out.below (by (repeat (first | exact Below.refl _ _ | assumption | refine bchain (by assumption) ?_ | refine balloc ?_ _ | apply Below.drew | apply below_drewN | (refine Below.alloc ?_ (by (try simp) <;> omega) _) | (refine Below.setCell ?_ (by (try simp) <;> omega) _))))).c5, (s1'.out.below (by (repeat (first | exact Below.refl _ _ | assumption | refine bchain (by assumption) ?_ | refine balloc ?_ _ | apply Below.drew | apply below_drewN | (refine Below.alloc ?_ (by (try simp) <;> omega) _) | (refine Below.setCell ?_ (by (try simp) <;> omega) _))))).c6⟩⟩)
    (first
    | (go_at_call 8; refine (hT.out _ (by (repeat (first | exact Below.refl _ _ | assumption | refine bchain (by assumption) ?_ | refine balloc ?_ _ | apply Below.drew | apply below_drewN | (refine Below.alloc ?_ (by (try simp) <;> omega) _) | (refine Below.setCell ?_ (by (try simp) <;> omega) _))))).mono ?_; rintro r10 w10 ⟨⟨z10, u10, rfl, hZ10, hU10⟩, hb10⟩)
    | (go_at_call 11; refine (hE.out _ _ _ _ _ (hZ69.out.below (by (repeat (first | exact Below.refl _ _ | assumption | refine bchain (by assumption) ?_ | refine balloc ?_ _ | apply Below.drew | apply below_drewN | (refine Below.alloc ?_ (by (try simp) <;> omega) _) | (refine Below.setCell ?_ (by (try simp) <;> omega) _))))) (hU69.out.below (by (repeat (first | exact Below.refl _ _ | assumption | refine bchain (by assumption) ?_ | refine balloc ?_ _ | apply Below.drew | apply below_drewN | (refine Below.alloc ?_ (by (try simp) <;> omega) _) | (refine Below.setCell ?_ (by (try simp) <;> omega) _))))) hZ10.sl hU10.sl).mono ?_; rintro r11 w11 ⟨rfl, hb11⟩))
  have D911 : Below w9.heap.size w9 w11 := bchain hb11 (bchain hb10 (Below.refl _ w9).drew)
  have D11 : Below W0.heap.size W0 w11 := bchain D911 D9
  have sY11 := Lib.hid (sY9.below D911)
  have hU7b := Lib.hid (hU79.out.below D911)
  clear hb10 hb11 hU10 hZ10 hU69 hZ69 hU79 s1' k1' x0 x1 x2 x3 x4 x5 x6 y0 y1 y2 y3 y4 y5 y6 D9 sY9 D911
  have k2' := Lib.hid (k2.below D11)
  have hBB11 := bchain D11 hB0
  obtain ⟨_, x0, x1, _⟩ := sY11.out
  obtain ⟨_, y0, y1, _⟩ := k2'.out
  go_wp2_with fail
  go_region_held3 (fun A => (A.cell? ⟨w.heap.size + 1, 0, none⟩ = some (.int .i64 sz) ∧ A.cell? ⟨w.heap.size + 1, 1, none⟩ = some (.slice a' l' cap')) ∧ (A.cell? ⟨w7.heap.size, 0, none⟩ = some (.int .i64 sz) ∧ A.cell? ⟨w7.heap.size, 1, none⟩ = some (.slice a7 l' c7)))
    (exact ⟨⟨(k2'.out.below (by (repeat (first | exact Below.refl _ _ | assumption | refine bchain (by assumption) ?_ | refine balloc ?_ _ | apply Below.drew | apply below_drewN | (refine Below.alloc ?_ (by (try simp) <;> omega) _) | (refine Below.setCell ?_ (by (try simp) <;> omega) _))))).c0, (k2'.out.below (by (repeat (first | exact Below.refl _ _ | assumption | refine bchain (by assumption) ?_ | refine balloc ?_ _ | apply Below.drew | apply below_drewN | (refine Below.alloc ?_ (by (try simp) <;> omega) _) | (refine Below.setCell ?_ (by (try simp) <;> omega) _))))).c1⟩, ⟨(sY11.out.below (by (repeat (first | exact Below.refl _ _ | assumption | refine bchain (by assumption) ?_ | refine balloc ?_ _ | apply Below.drew | apply below_drewN | (refine Below.alloc ?_ (by (try simp) <;> omega) _) | (refine Below.setCell ?_ (by (try simp) <;> omega) _))))).c0, (sY11.out.below (by (repeat (first | exact Below.refl _ _ | assumption | refine bchain (by assumption) ?_ | refine balloc ?_ _ | apply Below.drew | apply below_drewN | (refine Below.alloc ?_ (by (try simp) <;> omega) _) | (refine Below.setCell ?_ (by (try simp) <;> omega) _))))).c1⟩⟩)
    (first
    | (go_at_call 9; refine (hT2.out _ (by (repeat (first | exact Below.refl _ _ | assumption | refine bchain (by assumption) ?_ | refine balloc ?_ _ | apply Below.drew | apply below_drewN | (refine Below.alloc ?_ (by (try simp) <;> omega) _) | (refine Below.setCell ?_ (by (try simp) <;> omega) _))))).mono ?_; rintro r12 w12 ⟨⟨u12, rfl, hU12⟩, hb12⟩)
    | (go_at_call 12; refine (hE2.out _ _ _ (hU7b.out.below (by (repeat (first | exact Below.refl _ _ | assumption | refine bchain (by assumption) ?_ | refine balloc ?_ _ | apply Below.drew | apply below_drewN | (refine Below.alloc ?_ (by (try simp) <;> omega) _) | (refine Below.setCell ?_ (by (try simp) <;> omega) _))))) hU12.sl).mono ?_; rintro r13 w13 ⟨rfl, hb13⟩))
  have D13 : Below W0.heap.size W0 w13 := bchain hb13 (bchain hb12 D11.drew)
  go_wp2
  go_ret
  exact ⟨rfl, bchain D13 hB0⟩
theorem walk (v : Value) (Y : QM) (v2 : Value) (C : CM) (w : World) (h : StS w v Y) (hb : BdQ Y) (h2 : CtS w v2 C) (hb2 : BdB C.bs) :
    Calls Tryz.prog 3 #[v, v2] w fun r w' => r = .returned (.bool true) ∧ Below w.heap.size w w' := by
  by_cases c : (Y.gs.length : Int) + Y.X.ts.length ≤ 1048576
  · by_cases c2 : (tC C : Int) ≤ 1048576 - (Y.gs.length : Int) - (Y.X.ts.length : Int)
    · exact walk_short v v2 Y C w h h2 hb hb2 c c2
    · exact walk_long2 v v2 Y C w h h2 c c2
  · exact walk_long v v2 Y C w h h2 c
end ValidCertificateLaw
theorem ValidCertificateLaw.lifted (os : Os) (started : os.Started) (H : Type) (enc : TypeId × Value → H) :
    ReturnsInHanded {} Tryz.checked os 3 .any (Rows.fnExactValidCertificateSpec.pre6 enc Tryz.prog Tryz.f3 Rows.fnExactValidCertificateRow.domain false)
      (Rows.fnExactValidCertificateSpec.post enc Tryz.prog Tryz.f3 false true false false) := by
  refine fr_lift (C := Tryz.checked) own started (by kernel_rfl) Tryz.func3 laid_out rfl (by kernel_rfl) (tb := 4) rfl Tryz.underlying4 ?hs
    (ChangeSpec.witness6 (enc := enc) (C := Tryz.checked) false ⟨#[], #[.agg #[.slice none 0 0, .int .i64 0, .int .u32 0, .int .i64 0, .slice none 0 0, .int .i64 0, .int .i64 0], .agg #[.int .i64 0, .slice none 0 0]], []⟩ 8 (by kernel_rfl) (by kernel_rfl) (by kernel_rfl) (by kernel_rfl)) ?_
  case hs =>
    intro ds h
    match ds, h with
    | [d0, d1], _ => rfl
  intro W base args ds p hval0 hA0 hlt hsz
  have hval : ∀ (j : Nat) t v, Tryz.f3.params[j]? = some t → args[j]? = some v → Value.okWide Tryz.prog W .any base t v := hval0
  have hA : DataW.TrodAll enc Tryz.prog W 0 (fun _ => true) true Tryz.f3.params.toList args.toList ds p := hA0
  rw [Tryz.params3] at hA hval
  obtain ⟨v0, vs0, d0, ds0, p0, q0, hargs, rfl, rfl, h0, r0⟩ := trodAll_cons hA
  obtain ⟨v1, vs1, d1, ds1, p1, q1, rfl, rfl, rfl, h1, r1⟩ := trodAll_cons r0
  obtain ⟨rfl, rfl, rfl⟩ := trodAll_nil r1
  obtain rfl : args = #[v0, v1] := by cases args; simp_all
  obtain ⟨x0, R0⟩ := open_stmt (hval 0 32 v0 rfl rfl) h0
  obtain ⟨x1, R1⟩ := open_cert (hval 1 35 v1 rfl rfl) h1
  exact ValidCertificateLaw.walk v0 x0 v1 x1 W R0.1 R0.2 R1.1 R1.2

theorem validCertificate_holds : Rows.FnExactValidCertificateSaid :=
  OpenClaim.holds_of_wide 3 Tryz.f3 rfl rfl rfl rfl rfl rfl rfl ⟨rfl, rfl, rfl, rfl, rfl⟩ rfl rfl rfl rfl rfl (by kernel_rfl) Tryz.func3 (by kernel_rfl)
    (of_decide_eq_true (by kernel_rfl)) (by unfold Func.isWrapper; rw [if_neg (of_decide_eq_false (by kernel_rfl))]; exact ⟨rfl, rfl⟩)
    (fun os started H enc _ => ValidCertificateLaw.lifted os started H enc)
#print axioms validCertificate_holds
end Go.Proofs.YtfpoekdcedbciaaGreat
