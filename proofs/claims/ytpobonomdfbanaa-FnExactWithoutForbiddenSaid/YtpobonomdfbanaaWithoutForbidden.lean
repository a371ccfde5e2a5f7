/-
  PROVED: for every sum of flags and every list of graphs, WithoutForbidden of the program answers as the model's does, twice alike; its arguments are left as they were, and the result is new memory that may be written. Conditions: none.
-/
import Derived.Test.YtpobonomdfbanaaOpenGs
import Derived.Test.YtpobonomdfbanaaOpenTs
import Derived.Test.YtpobonomdfbanaaWfM
import Derived.Test.YtpobonomdfbanaaGto
import Derived.Test.YtpobonomdfbanaaGMkB
namespace Go.Proofs.Ytpobonomdfbanaa
open Go.ChangeShapes Go.WideShapes Go.ChangeAt Go.RowKit
set_option maxRecDepth 100000
theorem wf_both (X : SM) (hbd : BdS X) (gs : List (Int × Int)) (hm : gs.length ≤ 1048576) (hbg : Bd gs) : ∃ (L : SM) (c : Int), L.ts.length ≤ 1048576 ∧
    (∀ W u v, SlT W u X.ts → SlG W v gs → Calls Try.prog 40 #[.agg #[.int .i64 X.n, .int .u32 X.e, .int .i64 X.s, u], v] W (RetS W L c)) ∧
    (∀ W u v, SlT W u X.ts → SlG W v gs → Calls Try.prog 41 #[.agg #[.int .i64 X.n, .int .u32 X.e, .int .i64 X.s, u], v] W (RetS W L c)) := by
  by_cases hv : VSum X
  · obtain ⟨c, hc0, _, _, hi, hs⟩ := forb_both gs hm hbg
    by_cases hc : c = 0
    · subst hc
      obtain ⟨hV, h6⟩ := hc0 rfl
      refine ⟨⟨X.n, X.e, X.s, X.ts.filter (frT gs)⟩, 0, by have h1 := List.length_filter_le (frT gs) X.ts; have h2 := hv.2.2.1; show (X.ts.filter (frT gs)).length ≤ _; omega, fun W u v h hG => swf_ok W X u h hbd hv v gs hG hm hbg hV h6, fun W u v h hG => iwf_ok W X u h hbd hv v gs hG hm hbg hV h6⟩
    · refine ⟨⟨0, 0, 0, []⟩, c, by simp, fun W u v h hG => ?_, fun W u v h hG => ?_⟩
      · obtain ⟨a, cap, rfl, hl⟩ := hG.lies
        exact swf_code W X u h hbd hv a _ cap c hc (fun W' hW => hs W' a cap (hl.below hW))
      · obtain ⟨a, cap, rfl, hl⟩ := hG.lies
        exact iwf_code W X u h hbd hv a _ cap c hc (fun W' hW => hi W' a cap (hl.below hW))
  · refine ⟨⟨0, 0, 0, []⟩, 1, by simp, fun W u v h hG => ?_, fun W u v h hG => ?_⟩
    · obtain ⟨a, cap, rfl, _⟩ := hG.lies
      exact swf_sum W X u h hbd hv a _ cap
    · obtain ⟨a, cap, rfl, _⟩ := hG.lies
      exact iwf_sum W X u h hbd hv a _ cap
section
variable (w : World)
theorem szgL_ok (a : Option Addr) (l cap : Nat) (q : Int) (hq : q ≤ 1048576) (hl : (l : Int) ≤ q) :
    Calls Try.prog 13 #[.slice a l cap, .int .i64 q] w fun r w' => r = .returned (.int .i64 (q - (l : Int))) ∧ w = w' := by
  go_enter Try.func13, Try.ntmps13
  go_wp2
  go_ret
  exact ⟨rfl, rfl⟩
theorem szgL_over (a : Option Addr) (l cap : Nat) (q : Int) (h0 : 0 ≤ q) (hq : q ≤ 1048576) (hl : q < (l : Int)) (hm : l ≤ 9223372036854775807) :
    Calls Try.prog 13 #[.slice a l cap, .int .i64 q] w fun r w' => r = .returned (.int .i64 (-1)) ∧ w = w' := by
  go_enter Try.func13, Try.ntmps13
  go_wp2
  go_ret
  exact ⟨rfl, rfl⟩
end
namespace WithoutForbiddenLaw
theorem walk_long (v v2 : Value) (X : SM) (gs : List (Int × Int)) (w : World) (h : SumS w v X) (h2 : SlG w v2 gs) (hm : 1048576 < X.ts.length) :
    Calls Try.prog 9 #[v, v2] w fun r w' => r = .returned (.bool true) ∧ Below w.heap.size w w' := by
  have hC := Lib.hid (fun W (hb : Below w.heap.size w W) => szS_long W v X (h.below hb) hm)
  obtain ⟨u, rfl, a, cap, rfl, _⟩ := h
  obtain ⟨a2, cap2, rfl, _⟩ := h2
  clear hm
  go_enter Try.func9, Try.ntmps9
  go_wp2_with fail
  refine (hC.out _ (by (repeat (first | exact Below.refl _ _ | assumption | refine bchain (by assumption) ?_ | refine balloc ?_ _ | apply Below.drew | apply below_drewN | (refine Below.alloc ?_ (by (try simp) <;> omega) _) | (refine Below.setCell ?_ (by (try simp) <;> omega) _))))).mono ?_
  rintro r1 w1 ⟨rfl, hb1⟩
  go_wp2
  go_ret
  exact ⟨rfl, by (repeat (first | exact Below.refl _ _ | assumption | refine bchain (by assumption) ?_ | refine balloc ?_ _ | apply Below.drew | apply below_drewN | (refine Below.alloc ?_ (by (try simp) <;> omega) _) | (refine Below.setCell ?_ (by (try simp) <;> omega) _)))⟩
theorem walk_long2 (v v2 : Value) (X : SM) (gs : List (Int × Int)) (w : World) (h : SumS w v X) (h2 : SlG w v2 gs) (hm : X.ts.length ≤ 1048576) (hm2 : 1048576 - (X.ts.length : Int) < gs.length) :
    Calls Try.prog 9 #[v, v2] w fun r w' => r = .returned (.bool true) ∧ Below w.heap.size w w' := by
  have hC := Lib.hid (fun W (hb : Below w.heap.size w W) => szS_ok W v X (h.below hb) hm)
  have hl0 : 0 ≤ 1048576 - (X.ts.length : Int) := by omega
  obtain ⟨u, rfl, a, cap, rfl, _⟩ := h
  obtain ⟨a2, cap2, rfl, g1, g2, _⟩ := h2
  have hD := Lib.hid (fun W => szgL_over W a2 gs.length cap2 (1048576 - (X.ts.length : Int)) (by omega) (by omega) hm2 (by omega))
  obtain ⟨q, hq⟩ : ∃ q : Int, 1048576 - (X.ts.length : Int) = q := ⟨_, rfl⟩
  obtain ⟨gl, hgl⟩ : ∃ gl, gs.length = gl := ⟨_, rfl⟩
  rw [hq] at hC hD hl0
  rw [hgl] at hD ⊢
  clear hm hm2 hq hgl g1 g2
  go_enter Try.func9, Try.ntmps9
  go_wp2_with fail
  refine (hC.out _ (by (repeat (first | exact Below.refl _ _ | assumption | refine bchain (by assumption) ?_ | refine balloc ?_ _ | apply Below.drew | apply below_drewN | (refine Below.alloc ?_ (by (try simp) <;> omega) _) | (refine Below.setCell ?_ (by (try simp) <;> omega) _))))).mono ?_
  rintro r1 w1 ⟨rfl, hb1⟩
  go_wp2_with fail
  refine (hD.out _).mono ?_
  rintro r2 w2 ⟨rfl, rfl⟩
  go_wp2
  go_ret
  exact ⟨rfl, by (repeat (first | exact Below.refl _ _ | assumption | refine bchain (by assumption) ?_ | refine balloc ?_ _ | apply Below.drew | apply below_drewN | (refine Below.alloc ?_ (by (try simp) <;> omega) _) | (refine Below.setCell ?_ (by (try simp) <;> omega) _)))⟩
set_option maxHeartbeats 8000000 in
theorem walk_short (v v2 : Value) (X : SM) (gs : List (Int × Int)) (w : World) (h : SumS w v X) (hbd : BdS X) (h2 : SlG w v2 gs) (hbg : Bd gs) (hm : X.ts.length ≤ 1048576) (hm2 : (gs.length : Int) ≤ 1048576 - (X.ts.length : Int)) :
    Calls Try.prog 9 #[v, v2] w fun r w' => r = .returned (.bool true) ∧ Below w.heap.size w w' := by
  obtain ⟨L, c, hLl, hs, hi⟩ := wf_both X hbd gs (by omega) hbg
  unfold RetS at hs hi
  replace hs := Lib.hid hs
  replace hi := Lib.hid hi
  have hC := Lib.hid (fun W (hb : Below w.heap.size w W) => szS_ok W v X (h.below hb) hm)
  have hT := Lib.hid (fun W (hb : Below w.heap.size w W) => toS_any W v X (h.below hb) hm)
  have hTg := Lib.hid (fun W (hb : Below w.heap.size w W) => toGo_any W v2 gs (h2.below hb) (by omega))
  have hE := Lib.hid (fun W u u' (h : SlT W u X.ts) (h' : SlT W u' X.ts) => eqS_any W u u' X h h' hm)
  have hEg := Lib.hid (fun W u u' (h : SlG W u gs) (h' : SlG W u' gs) => eqGs_any W u u' gs h h' (by omega))
  have hEL := Lib.hid (fun W u u' (h : SlT W u L.ts) (h' : SlT W u' L.ts) => eqS_any W u u' L h h' (by omega))
  have hMX := Lib.hid (fun W w1 u (h : OwnT w1 W u X.ts) => markS_any W w1 u X.n X.e X.s X.ts.length 1 _ (by omega) (by omega) h)
  have hMG := Lib.hid (fun W w1 u (h : OwnG w1 W u gs) => markGB_any W w1 u gs.length (1 + X.ts.length * 5) _ (by omega) (by omega) h)
  have hMV := Lib.hid (fun W w1 u (h : OwnT w1 W u L.ts) => markS_any W w1 u L.n L.e L.s L.ts.length 1 _ (by omega) (by omega) h)
  have hHV := Lib.hid (fun W w1 u f (h : OwnV w1 W u L.ts.length 5 (mkT 1 (L.ts.length * 5) f)) => heldS_any W w1 u L.n L.e L.s L.ts.length 1 f (by omega) (by omega) h)
  have hl0 : 0 ≤ 1048576 - (X.ts.length : Int) := by omega
  have hl1 : 0 ≤ 1048576 - (X.ts.length : Int) - (gs.length : Int) := by omega
  obtain ⟨u, rfl, a, cap, rfl, _⟩ := h
  obtain ⟨a2, cap2, rfl, _⟩ := h2
  have hD := Lib.hid (fun W => szgL_ok W a2 gs.length cap2 (1048576 - (X.ts.length : Int)) (by omega) (by omega))
  obtain ⟨q, hq⟩ : ∃ q : Int, 1048576 - (X.ts.length : Int) = q := ⟨_, rfl⟩
  rw [hq] at hC hD hl0 hl1
  obtain ⟨q2, hq2⟩ : ∃ q2 : Int, q - (gs.length : Int) = q2 := ⟨_, rfl⟩
  rw [hq2] at hD hl1
  obtain ⟨z, hz⟩ : ∃ z : Int, ((1 : Nat) : Int) + (L.ts.length : Int) * 5 = z := ⟨_, rfl⟩
  have hz0 : 0 ≤ z := by omega
  simp only [hz] at hMV hHV
  obtain ⟨k1, hk1⟩ : ∃ k1 : Int, ((1 + X.ts.length * 5 : Nat) : Int) = k1 := ⟨_, rfl⟩
  have hk1' : ((1 : Nat) : Int) + (X.ts.length : Int) * 5 = k1 := by rw [← hk1]; push_cast; rfl
  simp only [hk1'] at hMX
  simp only [hk1] at hMG
  obtain ⟨k2, hk2⟩ : ∃ k2 : Int, k1 + (gs.length : Int) * 2 = k2 := ⟨_, rfl⟩
  have hk0 : 0 ≤ k2 := by omega
  simp only [hk2] at hMG
  obtain ⟨W0, hW0⟩ : ∃ W0, W0 = w.alloc (.cells #[.int .i64 X.n, .int .u32 X.e, .int .i64 X.s, .slice a X.ts.length cap] 45) := ⟨_, rfl⟩
  have hB0 : Below w.heap.size w W0 := by rw [hW0]; (repeat (first | exact Below.refl _ _ | assumption | refine bchain (by assumption) ?_ | refine balloc ?_ _ | apply Below.drew | apply below_drewN | (refine Below.alloc ?_ (by (try simp) <;> omega) _) | (refine Below.setCell ?_ (by (try simp) <;> omega) _)))
  have kx : SB W0 w.heap.size X.n X.e X.s (.slice a X.ts.length cap) := by rw [hW0]; exact SB.made w _ _ _ _ _
  replace hW0 := Lib.hid hW0
  clear hm hm2 hq hq2 hz hk1 hk1' hk2 hbd hbg
  obtain ⟨_, x0, x1, x2, x3, _⟩ := id kx
  go_enter Try.func9, Try.ntmps9
  go_wp2_with fail
  rw [← hW0.out]
  go_wp2_with fail
  refine (hC.out _ hB0).mono ?_
  rintro r1 w1 ⟨rfl, hb1⟩
  clear x0 x1 x2 x3
  go_wp2_with fail
  refine (hD.out _).mono ?_
  rintro r1' w1' ⟨rfl, rfl⟩
  obtain ⟨_, x0, x1, x2, x3, _⟩ := kx.below hb1
  go_wp2_with fail
  refine (hT.out _ (bchain hb1 hB0)).mono ?_
  rintro r2 w2 ⟨⟨u2, rfl, hU2⟩, hb2⟩
  have D2 : Below W0.heap.size W0 w2 := bchain hb2 hb1
  clear x0 x1 x2 x3
  go_wp2_with fail
  refine (hTg.out _ (bchain D2 hB0)).mono ?_
  rintro r3 w3 ⟨⟨u3, rfl, hU3⟩, hb3⟩
  have D3 : Below W0.heap.size W0 w3 := bchain hb3 D2
  go_wp2_with fail
  refine (hs.out _ _ _ (hU2.sl.below hb3) hU3.sl).mono ?_
  rintro r4 w4 ⟨⟨U, rfl, hU⟩, hb4⟩
  have D4 : Below W0.heap.size W0 w4 := bchain hb4 D3
  obtain ⟨aU, cU, rfl, _⟩ := id hU
  clear hb1 hb2 hb3 hb4 hU2 hU3 D2 D3
  obtain ⟨WU, hWU⟩ : ∃ WU, WU = w4.alloc (.cells #[.int .i64 L.n, .int .u32 L.e, .int .i64 L.s, (.slice aU L.ts.length cU)] 50) := ⟨_, rfl⟩
  have sU : SB WU w4.heap.size L.n L.e L.s (.slice aU L.ts.length cU) := by rw [hWU]; exact SB.made _ _ _ _ _ _
  have bU : Below w4.heap.size w4 WU := by rw [hWU]; exact balloc (Below.refl _ _) _
  replace hWU := Lib.hid hWU
  have D4' : Below W0.heap.size W0 WU := bchain bU D4
  have hU4 := Lib.hid (OwnT.below hU bU).sl
  have hn4 : w.heap.size ≠ w4.heap.size := by have := kx.lt; have := D4.size; omega
  obtain ⟨_, x0, x1, x2, x3, _⟩ := kx.below D4
  obtain ⟨_, y0, y1, y2, y3, _⟩ := kx.below D4'
  clear hU D4 bU
  go_wp2_with fail
  rw [← hWU.out]
  go_wp2_with fail
  refine (hT.out _ (bchain D4' hB0)).mono ?_
  rintro r5 w5 ⟨⟨u5, rfl, hX⟩, hb5⟩
  have E5 : Below WU.heap.size WU w5 := hb5
  have E5z := hb5.size
  obtain ⟨a5, c5, rfl, _⟩ := id hX
  clear x0 x1 x2 x3 y0 y1 y2 y3 hb5
  obtain ⟨WX, hWX⟩ : ∃ WX, WX = w5.alloc (.cells #[.int .i64 X.n, .int .u32 X.e, .int .i64 X.s, (.slice a5 X.ts.length c5)] 50) := ⟨_, rfl⟩
  have sX : SB WX w5.heap.size X.n X.e X.s (.slice a5 X.ts.length c5) := by rw [hWX]; exact SB.made _ _ _ _ _ _
  have bX : Below w5.heap.size w5 WX := by rw [hWX]; exact balloc (Below.refl _ _) _
  replace hWX := Lib.hid hWX
  have E5' : Below WU.heap.size WU WX := bchain bX E5
  have hX5 := Lib.hid (OwnT.below hX bX)
  have hXb := Lib.hid (fun b (h : 0 < X.ts.length ∧ Value.ownBlock (.slice a5 X.ts.length c5) = some b) => OwnV.block hX h.1 h.2)
  clear hX bX E5
  go_wp2_with fail
  rw [← hWX.out]
  go_wp2_with fail
  refine (hTg.out _ (bchain E5' (bchain D4' hB0))).mono ?_
  rintro r6 w6 ⟨⟨G, rfl, hG⟩, hb6⟩
  have hGb := Lib.hid (fun b (h : 0 < gs.length ∧ Value.ownBlock G = some b) => OwnV.block hG h.1 h.2)
  have E6 : Below WU.heap.size WU w6 := bchain hb6 E5'
  have sX6 := sX.below hb6
  have hX6 := Lib.hid (OwnT.below hX5.out hb6)
  have hzX6 := hb6.size
  clear hX5 hb6 E5'
  replace hG := Lib.hid hG
  obtain ⟨_, x0, x1, x2, x3, _⟩ := id sX6
  go_wp2_with fail
  refine (hi.out _ _ _ hX6.out.sl hG.out.sl).mono ?_
  rintro r7 w7 ⟨⟨V, rfl, hV⟩, hb7⟩
  have hVb := Lib.hid (fun b (h : 0 < L.ts.length ∧ Value.ownBlock V = some b) => OwnV.block hV h.1 h.2)
  obtain ⟨aV, cV, rfl, _⟩ := id hV
  have E7 : Below WU.heap.size WU w7 := bchain hb7 E6
  have hz67 := hb7.size
  clear x0 x1 x2 x3
  obtain ⟨WV, hWV⟩ : ∃ WV, WV = w7.alloc (.cells #[.int .i64 L.n, .int .u32 L.e, .int .i64 L.s, (.slice aV L.ts.length cV)] 50) := ⟨_, rfl⟩
  have sV : SB WV w7.heap.size L.n L.e L.s (.slice aV L.ts.length cV) := by rw [hWV]; exact SB.made _ _ _ _ _ _
  have bV : Below w7.heap.size w7 WV := by rw [hWV]; exact balloc (Below.refl _ _) _
  replace hWV := Lib.hid hWV
  have hb8 : Below w6.heap.size w6 WV := bchain bV hb7
  have E8 : Below WU.heap.size WU WV := bchain hb8 E6
  have hV8 := Lib.hid (OwnT.below hV bV)
  have sX8 := sX6.below hb8
  have hX8 := Lib.hid (OwnT.below hX6.out hb8)
  have hG8 := Lib.hid (OwnG.below hG.out hb8)
  have hn7 : w4.heap.size ≠ w7.heap.size := by have := sU.lt; have := E7.size; omega
  clear hV bV hb7 hb8 sX6 hX6 hG
  obtain ⟨_, x0, x1, x2, x3, _⟩ := sU.below E7
  obtain ⟨_, y0, y1, y2, y3, _⟩ := sU.below E8
  obtain ⟨_, z0, z1, z2, z3, _⟩ := id sV
  have d1 : (c != c) = false := by simp
  have d2 : (c == c) = true := by simp
  go_wp2_with fail
  rw [← hWV.out]
  go_wp2_with fail
  refine (hEL.out _ _ _ hV8.out.sl (hU4.out.below E8)).mono ?_
  rintro r9 w9 ⟨rfl, hb9⟩
  have E9 : Below WU.heap.size WU w9 := bchain hb9 E8
  have hV9 := Lib.hid (OwnT.below hV8.out hb9)
  have sV9 := Lib.hid (sV.below hb9)
  have sX9 := Lib.hid (sX8.below hb9)
  have hX9 := Lib.hid (OwnT.below hX8.out hb9)
  have hG9 := Lib.hid (OwnG.below hG8.out hb9)
  clear hV8 sV sX8 hX8 hG8 hb9 E7 E8 x0 x1 x2 x3 y0 y1 y2 y3 z0 z1 z2 z3
  have kx9 := Lib.hid (kx.below (bchain E9 D4'))
  have hBB9 := bchain (bchain E9 D4') hB0
  obtain ⟨_, x0, x1, x2, x3, _⟩ := sX9.out
  obtain ⟨_, y0, y1, y2, y3, _⟩ := kx9.out
  have E9' := Lib.hid E9
  have D4'' := Lib.hid D4'
  clear E9 D4'
  go_wp2_with fail
  go_region_held3 (fun A => (A.cell? ⟨w.heap.size, 0, none⟩ = some (.int .i64 X.n) ∧ A.cell? ⟨w.heap.size, 1, none⟩ = some (.int .u32 X.e) ∧ A.cell? ⟨w.heap.size, 2, none⟩ = some (.int .i64 X.s) ∧ A.cell? ⟨w.heap.size, 3, none⟩ = some (.slice a X.ts.length cap)) ∧ A.cell? ⟨w5.heap.size, 0, none⟩ = some (.int .i64 X.n) ∧ A.cell? ⟨w5.heap.size, 1, none⟩ = some (.int .u32 X.e) ∧ A.cell? ⟨w5.heap.size, 2, none⟩ = some (.int .i64 X.s) ∧ A.cell? ⟨w5.heap.size, 3, none⟩ = some (.slice a5 X.ts.length c5))
    (exact ⟨⟨(kx9.out.below (by (repeat (first | exact Below.refl _ _ | assumption | refine bchain (by assumption) ?_ | refine balloc ?_ _ | apply Below.drew | apply below_drewN | (refine Below.alloc ?_ (by (try simp) <;> omega) _) | (refine Below.setCell ?_ (by (try simp) <;> omega) _))))).c0, (kx9.out.below (by (repeat (first | exact Below.refl _ _ | assumption | refine bchain (by assumption) ?_ | refine balloc ?_ _ | apply Below.drew | apply below_drewN | (refine Below.alloc ?_ (by (try simp) <;> omega) _) | (refine Below.setCell ?_ (by (try simp) <;> omega) _))))).c1, (kx9.out.below (by (repeat (first | exact Below.refl _ _ | assumption | refine bchain (by assumption) ?_ | refine balloc ?_ _ | apply Below.drew | apply below_drewN | (refine Below.alloc ?_ (by (try simp) <;> omega) _) | (refine Below.setCell ?_ (by (try simp) <;> omega) _))))).c2, (kx9.out.below (by (repeat (first | exact Below.refl _ _ | assumption | refine bchain (by assumption) ?_ | refine balloc ?_ _ | apply Below.drew | apply below_drewN | (refine Below.alloc ?_ (by (try simp) <;> omega) _) | (refine Below.setCell ?_ (by (try simp) <;> omega) _))))).c3⟩, (sX9.out.below (by (repeat (first | exact Below.refl _ _ | assumption | refine bchain (by assumption) ?_ | refine balloc ?_ _ | apply Below.drew | apply below_drewN | (refine Below.alloc ?_ (by (try simp) <;> omega) _) | (refine Below.setCell ?_ (by (try simp) <;> omega) _))))).c0, (sX9.out.below (by (repeat (first | exact Below.refl _ _ | assumption | refine bchain (by assumption) ?_ | refine balloc ?_ _ | apply Below.drew | apply below_drewN | (refine Below.alloc ?_ (by (try simp) <;> omega) _) | (refine Below.setCell ?_ (by (try simp) <;> omega) _))))).c1, (sX9.out.below (by (repeat (first | exact Below.refl _ _ | assumption | refine bchain (by assumption) ?_ | refine balloc ?_ _ | apply Below.drew | apply below_drewN | (refine Below.alloc ?_ (by (try simp) <;> omega) _) | (refine Below.setCell ?_ (by (try simp) <;> omega) _))))).c2, (sX9.out.below (by (repeat (first | exact Below.refl _ _ | assumption | refine bchain (by assumption) ?_ | refine balloc ?_ _ | apply Below.drew | apply below_drewN | (refine Below.alloc ?_ (by (try simp) <;> omega) _) | (refine Below.setCell ?_ (by (try simp) <;> omega) _))))).c3⟩)
    (first
    | (go_at_call 25; with_reducible refine (hT.out _ hBB9.drew).mono ?_; rintro r10 w10 ⟨⟨u10, rfl, hU10⟩, hb10⟩)
    | (go_at_call 27; with_reducible refine (hE.out _ _ _ (hX9.out.sl.below (by (repeat (first | exact Below.refl _ _ | assumption | refine bchain (by assumption) ?_ | refine balloc ?_ _ | apply Below.drew | apply below_drewN | (refine Below.alloc ?_ (by (try simp) <;> omega) _) | (refine Below.setCell ?_ (by (try simp) <;> omega) _))))) hU10.sl).mono ?_; rintro r11 w11 ⟨rfl, hb11⟩))
  have b911 : Below w9.heap.size w9 w11 := bchain hb11 (bchain hb10 (Below.refl _ w9).drew)
  have E11 : Below WU.heap.size WU w11 := bchain b911 E9'.out
  have hV11 := Lib.hid (OwnT.below hV9.out b911)
  have sV11 := sV9.out.below b911
  have sX11 := sX9.out.below b911
  have hX11 := Lib.hid (OwnT.below hX9.out b911)
  have hG11 := Lib.hid (OwnG.below hG9.out b911)
  clear hV9 sV9 sX9 hX9 hG9 hb10 hb11 hU10 kx9 hBB9 x0 x1 x2 x3 y0 y1 y2 y3 E9' b911
  go_wp2_with fail
  refine (hTg.out _ (bchain (bchain E11 D4''.out) hB0)).mono ?_
  rintro r12 w12 ⟨⟨u12, rfl, hU12⟩, hb12⟩
  go_wp2_with fail
  refine (hEg.out _ _ _ (OwnG.below hG11.out hb12).sl hU12.sl).mono ?_
  rintro r13 w13 ⟨rfl, hb13⟩
  have b13 : Below w11.heap.size w11 w13 := bchain hb13 hb12
  have E13 : Below WU.heap.size WU w13 := bchain b13 E11
  have hV13 := Lib.hid (OwnT.below hV11.out b13)
  have sV13 := sV11.below b13
  have sX13 := sX11.below b13
  have hX13 := Lib.hid (OwnT.below hX11.out b13)
  have hG13 := Lib.hid (OwnG.below hG11.out b13)
  clear hV11 sV11 sX11 hX11 hG11 hb12 hb13 hU12 b13 E11
  obtain ⟨_, x0, x1, x2, x3, _⟩ := id sX13
  go_wp2_with fail
  refine (hMX.out _ _ _ hX13.out).mono ?_
  rintro r14 w14 ⟨rfl, hc14, _⟩
  have E14 : Below WU.heap.size WU w14 := E13.trans (hc14.below (by have := E13.size; omega) (fun b hb => (hXb.out b hb).1))
  have hV14 := Lib.hid (OwnV.chg hV13.out hc14 (fun b hb => by have := (hXb.out b hb).2; omega))
  have sV14 := sV13.chg hc14 (fun hb => by have := (hXb.out _ hb).2; omega)
  have hG14 := Lib.hid (OwnV.chg hG13.out hc14 (fun b hb => by have := (hXb.out b hb).2; have := sX.lt; omega))
  clear hV13 sV13 sX13 hX13 hG13 hc14 E13 x0 x1 x2 x3
  go_wp2_with fail
  refine (hMG.out _ _ _ hG14.out).mono ?_
  rintro r15 w15 ⟨rfl, hc15, _⟩
  have E15 : Below WU.heap.size WU w15 := E14.trans (hc15.below (by have := E14.size; omega) (fun b hb => by have := (hGb.out b hb).1; have := sX.lt; have := E5z; omega))
  have hV15 := Lib.hid (OwnV.chg hV14.out hc15 (fun b hb => (hGb.out b hb).2))
  have sV15 := sV14.chg hc15 (fun hb => by have := (hGb.out _ hb).2; omega)
  clear hV14 sV14 hG14 hc15 E14
  obtain ⟨_, x0, x1, x2, x3, _⟩ := sU.below E15
  obtain ⟨_, z0, z1, z2, z3, _⟩ := id sV15
  go_wp2_with fail
  refine (hEL.out _ _ _ (OwnT.sl hV15.out) (hU4.out.below E15)).mono ?_
  rintro r16 w16 ⟨rfl, hb16⟩
  have E16 : Below WU.heap.size WU w16 := bchain hb16 E15
  have hV16 := Lib.hid (OwnT.below hV15.out hb16)
  have sV16 := sV15.below hb16
  clear hV15 sV15 hb16 E15 x0 x1 x2 x3 z0 z1 z2 z3
  obtain ⟨_, z0, z1, z2, z3, _⟩ := id sV16
  go_wp2_with fail
  refine (hMV.out _ _ _ hV16.out).mono ?_
  rintro r17 w17 ⟨rfl, hc17, hV17⟩
  have E17 : Below WU.heap.size WU w17 := E16.trans (hc17.below (by have := E16.size; omega) (fun b hb => by have := (hVb.out b hb).1; omega))
  have sV17 := sV16.chg hc17 (fun hb => by have := (hVb.out _ hb).2; omega)
  replace hV17 := Lib.hid hV17
  clear hV16 sV16 hc17 E16 z0 z1 z2 z3
  obtain ⟨_, z0, z1, z2, z3, _⟩ := id sV17
  go_wp2_with fail
  refine (hHV.out _ _ _ _ hV17.out).mono ?_
  rintro r18 w18 ⟨rfl, hb18⟩
  have E18 : Below WU.heap.size WU w18 := bchain hb18 E17
  have hV18 := Lib.hid (OwnV.below hV17.out hb18)
  have sV18 := sV17.below hb18
  clear hV17 sV17 hb18 E17 z0 z1 z2 z3
  obtain ⟨_, x0, x1, x2, x3, _⟩ := kx.below (bchain E18 D4''.out)
  go_wp2_with fail
  refine (hT.out _ (bchain (bchain E18 D4''.out) hB0)).mono ?_
  rintro r19 w19 ⟨⟨u19, rfl, hU19⟩, hb19⟩
  clear x0 x1 x2 x3
  go_wp2_with fail
  refine (hTg.out _ (bchain hb19 (bchain (bchain E18 D4''.out) hB0))).mono ?_
  rintro r20 w20 ⟨⟨u20, rfl, hU20⟩, hb20⟩
  go_wp2_with fail
  refine (hi.out _ _ _ (hU19.sl.below hb20) hU20.sl).mono ?_
  rintro r21 w21 ⟨⟨H, rfl, hH⟩, hb21⟩
  have b21 : Below w18.heap.size w18 w21 := bchain hb21 (bchain hb20 hb19)
  have E21 : Below WU.heap.size WU w21 := bchain b21 E18
  have hV21 := Lib.hid (OwnV.below hV18.out b21)
  have sV21 := sV18.below b21
  obtain ⟨aH, cH, rfl, _⟩ := id hH
  clear hV18 sV18 hb19 hb20 hb21 hU19 hU20 b21 E18
  obtain ⟨WH, hWH⟩ : ∃ WH, WH = w21.alloc (.cells #[.int .i64 L.n, .int .u32 L.e, .int .i64 L.s, (.slice aH L.ts.length cH)] 50) := ⟨_, rfl⟩
  have sH : SB WH w21.heap.size L.n L.e L.s (.slice aH L.ts.length cH) := by rw [hWH]; exact SB.made _ _ _ _ _ _
  have bH : Below w21.heap.size w21 WH := by rw [hWH]; exact balloc (Below.refl _ _) _
  replace hWH := Lib.hid hWH
  have E22 : Below WU.heap.size WU WH := bchain bH E21
  have hH22 := Lib.hid (OwnT.below hH bH).sl
  have hV22 := Lib.hid (OwnV.below hV21.out bH)
  have sV22 := sV21.below bH
  have hn21 : w4.heap.size ≠ w21.heap.size := by have := sU.lt; have := E21.size; omega
  obtain ⟨_, x0, x1, x2, x3, _⟩ := sU.below E21
  obtain ⟨_, y0, y1, y2, y3, _⟩ := sU.below E22
  obtain ⟨_, z0, z1, z2, z3, _⟩ := id sH
  clear hH hV21 sV21 bH E21
  go_wp2_with fail
  rw [← hWH.out]
  go_wp2_with fail
  refine (hEL.out _ _ _ hH22.out (hU4.out.below E22)).mono ?_
  rintro r23 w23 ⟨rfl, hb23⟩
  have E23 : Below WU.heap.size WU w23 := bchain hb23 E22
  have hV23 := Lib.hid (OwnV.below hV22.out hb23)
  have sV23 := sV22.below hb23
  clear hV22 sV22 hb23 E22 hH22 x0 x1 x2 x3 y0 y1 y2 y3 z0 z1 z2 z3
  obtain ⟨_, z0, z1, z2, z3, _⟩ := id sV23
  go_wp2_with fail
  refine (hHV.out _ _ _ _ hV23.out).mono ?_
  rintro r24 w24 ⟨rfl, hb24⟩
  have Dz := bchain (bchain (bchain hb24 E23) D4''.out) hB0
  clear hV23 sV23 z0 z1 z2 z3
  go_wp2
  go_ret
  exact ⟨rfl, Dz⟩
theorem walk (v : Value) (X : SM) (v2 : Value) (gs : List (Int × Int)) (w : World) (h : SumS w v X) (hb : BdS X) (h2 : SlG w v2 gs ∧ Bd gs) :
    Calls Try.prog 9 #[v, v2] w fun r w' => r = .returned (.bool true) ∧ Below w.heap.size w w' := by
  rcases Nat.lt_or_ge 1048576 X.ts.length with c | c
  · exact walk_long v v2 X gs w h h2.1 c
  · by_cases c2 : (gs.length : Int) ≤ 1048576 - (X.ts.length : Int)
    · exact walk_short v v2 X gs w h hb h2.1 h2.2 c c2
    · exact walk_long2 v v2 X gs w h h2.1 c (by omega)
end WithoutForbiddenLaw
theorem WithoutForbiddenLaw.lifted (os : Os) (started : os.Started) (H : Type) (enc : TypeId × Value → H) :
    ReturnsInHanded {} Try.checked os 9 .any (Rows.fnExactWithoutForbiddenSpec.pre6 enc Try.prog Try.f9 Rows.fnExactWithoutForbiddenRow.domain false)
      (Rows.fnExactWithoutForbiddenSpec.post enc Try.prog Try.f9 false true false false) := by
  refine fr_lift (C := Try.checked) own started (by kernel_rfl) Try.func9 laid_out rfl (by kernel_rfl) (tb := 4) rfl Try.underlying4 ?hs
    (ChangeSpec.witness6 (enc := enc) (C := Try.checked) false ⟨#[], #[.agg #[.int .i64 0, .int .u32 0, .int .i64 0, .slice none 0 0], .slice none 0 0], []⟩ 8 (by kernel_rfl) (by kernel_rfl) (by kernel_rfl) (by kernel_rfl)) ?_
  case hs =>
    intro ds h
    match ds, h with
    | [d0, d1], _ => rfl
  intro W base args ds p hval0 hA0 hlt hsz
  have hval : ∀ (j : Nat) t v, Try.f9.params[j]? = some t → args[j]? = some v → Value.okWide Try.prog W .any base t v := hval0
  have hA : DataW.TrodAll enc Try.prog W 0 (fun _ => true) true Try.f9.params.toList args.toList ds p := hA0
  rw [Try.params9] at hA hval
  obtain ⟨v0, vs0, d0, ds0, p0, q0, hargs, rfl, rfl, h0, r0⟩ := trodAll_cons hA
  obtain ⟨v1, vs1, d1, ds1, p1, q1, rfl, rfl, rfl, h1, r1⟩ := trodAll_cons r0
  obtain ⟨rfl, rfl, rfl⟩ := trodAll_nil r1
  obtain rfl : args = #[v0, v1] := by cases args; simp_all
  obtain ⟨x0, R0⟩ := open_lsum (hval 0 45 v0 rfl rfl) h0
  obtain ⟨x1, R1⟩ := open_gs (hval 1 27 v1 rfl rfl) h1
  exact WithoutForbiddenLaw.walk v0 x0 v1 x1 W R0.1 R0.2 R1

theorem withoutForbidden_holds : Rows.FnExactWithoutForbiddenSaid :=
  OpenClaim.holds_of_wide 9 Try.f9 rfl rfl rfl rfl rfl rfl rfl ⟨rfl, rfl, rfl, rfl, rfl⟩ rfl rfl rfl rfl rfl (by kernel_rfl) Try.func9 (by kernel_rfl)
    (of_decide_eq_true (by kernel_rfl)) (by unfold Func.isWrapper; rw [if_neg (of_decide_eq_false (by kernel_rfl))]; exact ⟨rfl, rfl⟩)
    (fun os started H enc _ => WithoutForbiddenLaw.lifted os started H enc)
#print axioms withoutForbidden_holds
end Go.Proofs.Ytpobonomdfbanaa
