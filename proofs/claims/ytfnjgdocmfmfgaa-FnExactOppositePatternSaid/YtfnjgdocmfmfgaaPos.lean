/-
  THE OPPOSITE PATTERN: the model's contract; both sides.
-/
import Derived.Test.YtfnjgdocmfmfgaaPo
namespace Go.Proofs.Ytfnjgdocmfmfgaa
open Go.RowKit
set_option maxRecDepth 100000
section
variable (w : World)
set_option maxHeartbeats 2000000 in
theorem sop_1 (e s : Int) (ts : List (Int × Int)) (a : Option Addr) (l cap : Nat) (m f c x : Int) (hx : bits .xor .u32 1 s = x)
    (hV : ∀ W, Below w.heap.size w W → ∀ G, PB W G 1 e s (.slice a l cap) → Calls Try.prog 49 #[.pointer (some ⟨G, 0, none⟩)] W fun r w' => r = .returned (.bool true) ∧ Below W.heap.size W w')
    (hCl : ∀ W, Below w.heap.size w W → ∀ G, PB W G 1 e s (.slice a l cap) → Calls Try.prog 65 #[.pointer (some ⟨G, 0, none⟩)] W fun r w' => (∃ u, r = .returned (.agg #[.int .i64 1, .int .u32 e, .int .u32 s, u]) ∧ OwnF W w' u ts) ∧ Below W.heap.size W w')
    (hO : ∀ W, Calls Try.prog 66 #[.agg #[.int .i64 1, .int .u32 e]] W fun r w' => r = .returned (.tuple #[.agg #[.int .i64 m, .int .u32 f], .int .i64 c]) ∧ Below W.heap.size W w') :
    Calls Try.prog 27 #[.agg #[.int .i64 1, .int .u32 e, .int .u32 s, .slice a l cap]] w (RetP w ⟨m, f, x, ts⟩ 0) := by
  unfold RetP
  dsimp only
  replace hO := Lib.hid hO
  replace hV := Lib.hid hV
  replace hCl := Lib.hid hCl
  obtain ⟨W0, hW0⟩ : ∃ W0, W0 = (w.alloc (.cells #[.int .i64 1, .int .u32 e, .int .u32 s, .slice a l cap] 33)).alloc (.cells #[.int .i64 0, .int .u32 0, .int .u32 0, .slice none 0 0] 33) := ⟨_, rfl⟩
  have hB0 : Below w.heap.size w W0 := by rw [hW0]; (repeat (first | exact Below.refl _ _ | assumption | refine bchain (by assumption) ?_ | refine balloc ?_ _ | apply Below.drew | apply below_drewN | (refine Below.alloc ?_ (by (try simp) <;> omega) _) | (refine Below.setCell ?_ (by (try simp) <;> omega) _)))
  have sz : (w.alloc (.cells #[.int .i64 1, .int .u32 e, .int .u32 s, .slice a l cap] 33)).heap.size = w.heap.size + 1 := by simp
  have k0 : PB W0 w.heap.size 1 e s (.slice a l cap) := by rw [hW0]; exact (PB.made w _ _ _ _ _).below (balloc (Below.refl _ _) _)
  have k1 : PB W0 (w.heap.size + 1) 0 0 0 (.slice none 0 0) := by rw [hW0, ← sz]; exact PB.made _ 0 0 0 _ _
  replace hW0 := Lib.hid hW0
  clear sz
  go_enter Try.func27, Try.ntmps27
  go_wp2_with fail
  rw [← hW0.out]
  go_wp2_with fail
  refine (hV.out _ hB0 _ k0).mono ?_
  rintro r1 w1 ⟨rfl, hb1⟩
  replace k0 := k0.below hb1
  replace k1 := k1.below hb1
  replace hB0 := bchain hb1 hB0
  clear hb1
  go_wp2_with fail
  refine (hCl.out _ hB0 _ k0).mono ?_
  rintro r2 w2 ⟨⟨u2, rfl, hU⟩, hb2⟩
  obtain ⟨av, cv, rfl, _⟩ := id hU
  have hz1 := k1.lt
  have hw1 := hB0.size
  replace hU := Lib.hid hU
  replace k0 := k0.below hb2
  replace k1 := k1.below hb2
  replace hB0 := bchain hb2 hB0
  have hzr := k1.lt
  clear hb2
  obtain ⟨L, hL⟩ : ∃ L, ts.length = L := ⟨_, rfl⟩
  rw [hL]
  replace hL := Lib.hid hL
  obtain ⟨W3, hW3⟩ : ∃ W3, W3 = w2.alloc (.cells #[.int .i64 1, .int .u32 e, .int .u32 s, .slice av L cv] 33) := ⟨_, rfl⟩
  have kT : PB W3 w2.heap.size 1 e s (.slice av L cv) := by rw [hW3]; exact PB.made _ _ _ _ _ _
  have b2 : Below w2.heap.size w2 W3 := by rw [hW3]; exact balloc (Below.refl _ _) _
  replace hW3 := Lib.hid hW3
  obtain ⟨hzw, x0, x1, x2, x3, _⟩ := id k0
  have hnw : w.heap.size ≠ w2.heap.size := by omega
  go_wp2_with fail
  rw [← hW3.out]
  refine (hO.out _).mono ?_
  rintro r4 w4 ⟨rfl, hb4⟩
  have kT4 := kT.below hb4
  have b4 : Below w2.heap.size w2 w4 := bchain hb4 b2
  clear x0 x1 x2 x3 hb4 kT b2
  have k04 := k0.below b4
  have k14 := k1.below b4
  obtain ⟨_, x0, x1, x2, x3, _⟩ := id k04
  obtain ⟨_, y0, y1, y2, y3, fT⟩ := id kT4
  obtain ⟨_, q0, q1, q2, q3, fR⟩ := id k14
  have hnw2 : w2.heap.size ≠ w.heap.size := by omega
  have hnr : w.heap.size + 1 ≠ w2.heap.size := by omega
  have hnr2 : w2.heap.size ≠ w.heap.size + 1 := by omega
  obtain ⟨W6, hW6⟩ : ∃ W6, W6 = ((w4.setCell ⟨w2.heap.size, 0, none⟩ (.int .i64 m)).setCell ⟨w2.heap.size, 1, none⟩ (.int .u32 f)).setCell ⟨w2.heap.size, 2, none⟩ (.int .u32 x) := ⟨_, rfl⟩
  have hsb : PB W6 (w.heap.size + 1) 0 0 0 (.slice none 0 0) := by rw [hW6]; exact (((k14.other _ (by show w2.heap.size ≠ w.heap.size + 1; omega)).other _ (by show w2.heap.size ≠ w.heap.size + 1; omega)).other _ (by show w2.heap.size ≠ w.heap.size + 1; omega))
  have b6 : Below w2.heap.size w2 W6 := by rw [hW6]; exact ((b4.setCell (p := ⟨w2.heap.size, 0, none⟩) (Nat.le_refl _) _).setCell (p := ⟨w2.heap.size, 1, none⟩) (Nat.le_refl _) _).setCell (p := ⟨w2.heap.size, 2, none⟩) (Nat.le_refl _) _
  go_wp2
  rw [← hW6]
  clear hW6
  have hbw := bchain b6 hB0
  have hown : OwnF w1 W6 (.slice av L cv) ts := by have := OwnF.below hU.out b6; rw [hL.out] at this; exact this
  have hz5 : w.heap.size + 1 < w1.heap.size := hz1
  have hw5 : w.heap.size ≤ w1.heap.size := hw1
  clear x0 x1 x2 x3 y0 y1 y2 y3 fT q0 q1 q2 q3 fR hU
  have hF := hsb.all (m) (f) (x) (.slice av L cv)
  have hBB := ((((hbw.setCell (p := ⟨w.heap.size + 1, 0, none⟩) (by show w.heap.size ≤ w.heap.size + 1; omega) (.int .i64 (m))).setCell (p := ⟨w.heap.size + 1, 1, none⟩) (by show w.heap.size ≤ w.heap.size + 1; omega) (.int .u32 (f))).setCell (p := ⟨w.heap.size + 1, 2, none⟩) (by show w.heap.size ≤ w.heap.size + 1; omega) (.int .u32 (x))).setCell (p := ⟨w.heap.size + 1, 3, none⟩) (by show w.heap.size ≤ w.heap.size + 1; omega) (.slice av L cv))
  obtain ⟨WW, hWW⟩ : ∃ WW, WW = ((((W6.setCell ⟨w.heap.size + 1, 0, none⟩ (.int .i64 (m))).setCell ⟨w.heap.size + 1, 1, none⟩ (.int .u32 (f))).setCell ⟨w.heap.size + 1, 2, none⟩ (.int .u32 (x))).setCell ⟨w.heap.size + 1, 3, none⟩ (.slice av L cv)) := ⟨_, rfl⟩
  have hOW := OwnF.four hown hz5 hw5 (.int .i64 (m)) (.int .u32 (f)) (.int .u32 (x)) (.slice av L cv)
  rw [← hWW] at hF hBB hOW ⊢
  clear hWW
  obtain ⟨_, hF0, hF1, hF2, hF3, _⟩ := hF
  exact bodyPost_ret (v := .tuple #[.agg #[.int .i64 (m), .int .u32 (f), .int .u32 (x), .slice av L cv], .int .i64 0]) (by simp [results, Try.results27, go_sem, hF0, hF1, hF2, hF3]) rfl ⟨⟨_, rfl, hOW⟩, hBB⟩
set_option maxHeartbeats 2000000 in
theorem sop_2 (e s : Int) (ts : List (Int × Int)) (a : Option Addr) (l cap : Nat) (m f c x : Int) (hx : bits .xor .u32 3 s = x)
    (hV : ∀ W, Below w.heap.size w W → ∀ G, PB W G 2 e s (.slice a l cap) → Calls Try.prog 49 #[.pointer (some ⟨G, 0, none⟩)] W fun r w' => r = .returned (.bool true) ∧ Below W.heap.size W w')
    (hCl : ∀ W, Below w.heap.size w W → ∀ G, PB W G 2 e s (.slice a l cap) → Calls Try.prog 65 #[.pointer (some ⟨G, 0, none⟩)] W fun r w' => (∃ u, r = .returned (.agg #[.int .i64 2, .int .u32 e, .int .u32 s, u]) ∧ OwnF W w' u ts) ∧ Below W.heap.size W w')
    (hO : ∀ W, Calls Try.prog 66 #[.agg #[.int .i64 2, .int .u32 e]] W fun r w' => r = .returned (.tuple #[.agg #[.int .i64 m, .int .u32 f], .int .i64 c]) ∧ Below W.heap.size W w') :
    Calls Try.prog 27 #[.agg #[.int .i64 2, .int .u32 e, .int .u32 s, .slice a l cap]] w (RetP w ⟨m, f, x, ts⟩ 0) := by
  unfold RetP
  dsimp only
  replace hO := Lib.hid hO
  replace hV := Lib.hid hV
  replace hCl := Lib.hid hCl
  obtain ⟨W0, hW0⟩ : ∃ W0, W0 = (w.alloc (.cells #[.int .i64 2, .int .u32 e, .int .u32 s, .slice a l cap] 33)).alloc (.cells #[.int .i64 0, .int .u32 0, .int .u32 0, .slice none 0 0] 33) := ⟨_, rfl⟩
  have hB0 : Below w.heap.size w W0 := by rw [hW0]; (repeat (first | exact Below.refl _ _ | assumption | refine bchain (by assumption) ?_ | refine balloc ?_ _ | apply Below.drew | apply below_drewN | (refine Below.alloc ?_ (by (try simp) <;> omega) _) | (refine Below.setCell ?_ (by (try simp) <;> omega) _)))
  have sz : (w.alloc (.cells #[.int .i64 2, .int .u32 e, .int .u32 s, .slice a l cap] 33)).heap.size = w.heap.size + 1 := by simp
  have k0 : PB W0 w.heap.size 2 e s (.slice a l cap) := by rw [hW0]; exact (PB.made w _ _ _ _ _).below (balloc (Below.refl _ _) _)
  have k1 : PB W0 (w.heap.size + 1) 0 0 0 (.slice none 0 0) := by rw [hW0, ← sz]; exact PB.made _ 0 0 0 _ _
  replace hW0 := Lib.hid hW0
  clear sz
  go_enter Try.func27, Try.ntmps27
  go_wp2_with fail
  rw [← hW0.out]
  go_wp2_with fail
  refine (hV.out _ hB0 _ k0).mono ?_
  rintro r1 w1 ⟨rfl, hb1⟩
  replace k0 := k0.below hb1
  replace k1 := k1.below hb1
  replace hB0 := bchain hb1 hB0
  clear hb1
  go_wp2_with fail
  refine (hCl.out _ hB0 _ k0).mono ?_
  rintro r2 w2 ⟨⟨u2, rfl, hU⟩, hb2⟩
  obtain ⟨av, cv, rfl, _⟩ := id hU
  have hz1 := k1.lt
  have hw1 := hB0.size
  replace hU := Lib.hid hU
  replace k0 := k0.below hb2
  replace k1 := k1.below hb2
  replace hB0 := bchain hb2 hB0
  have hzr := k1.lt
  clear hb2
  obtain ⟨L, hL⟩ : ∃ L, ts.length = L := ⟨_, rfl⟩
  rw [hL]
  replace hL := Lib.hid hL
  obtain ⟨W3, hW3⟩ : ∃ W3, W3 = w2.alloc (.cells #[.int .i64 2, .int .u32 e, .int .u32 s, .slice av L cv] 33) := ⟨_, rfl⟩
  have kT : PB W3 w2.heap.size 2 e s (.slice av L cv) := by rw [hW3]; exact PB.made _ _ _ _ _ _
  have b2 : Below w2.heap.size w2 W3 := by rw [hW3]; exact balloc (Below.refl _ _) _
  replace hW3 := Lib.hid hW3
  obtain ⟨hzw, x0, x1, x2, x3, _⟩ := id k0
  have hnw : w.heap.size ≠ w2.heap.size := by omega
  go_wp2_with fail
  rw [← hW3.out]
  refine (hO.out _).mono ?_
  rintro r4 w4 ⟨rfl, hb4⟩
  have kT4 := kT.below hb4
  have b4 : Below w2.heap.size w2 w4 := bchain hb4 b2
  clear x0 x1 x2 x3 hb4 kT b2
  have k04 := k0.below b4
  have k14 := k1.below b4
  obtain ⟨_, x0, x1, x2, x3, _⟩ := id k04
  obtain ⟨_, y0, y1, y2, y3, fT⟩ := id kT4
  obtain ⟨_, q0, q1, q2, q3, fR⟩ := id k14
  have hnw2 : w2.heap.size ≠ w.heap.size := by omega
  have hnr : w.heap.size + 1 ≠ w2.heap.size := by omega
  have hnr2 : w2.heap.size ≠ w.heap.size + 1 := by omega
  obtain ⟨W6, hW6⟩ : ∃ W6, W6 = ((w4.setCell ⟨w2.heap.size, 0, none⟩ (.int .i64 m)).setCell ⟨w2.heap.size, 1, none⟩ (.int .u32 f)).setCell ⟨w2.heap.size, 2, none⟩ (.int .u32 x) := ⟨_, rfl⟩
  have hsb : PB W6 (w.heap.size + 1) 0 0 0 (.slice none 0 0) := by rw [hW6]; exact (((k14.other _ (by show w2.heap.size ≠ w.heap.size + 1; omega)).other _ (by show w2.heap.size ≠ w.heap.size + 1; omega)).other _ (by show w2.heap.size ≠ w.heap.size + 1; omega))
  have b6 : Below w2.heap.size w2 W6 := by rw [hW6]; exact ((b4.setCell (p := ⟨w2.heap.size, 0, none⟩) (Nat.le_refl _) _).setCell (p := ⟨w2.heap.size, 1, none⟩) (Nat.le_refl _) _).setCell (p := ⟨w2.heap.size, 2, none⟩) (Nat.le_refl _) _
  go_wp2
  rw [← hW6]
  clear hW6
  have hbw := bchain b6 hB0
  have hown : OwnF w1 W6 (.slice av L cv) ts := by have := OwnF.below hU.out b6; rw [hL.out] at this; exact this
  have hz5 : w.heap.size + 1 < w1.heap.size := hz1
  have hw5 : w.heap.size ≤ w1.heap.size := hw1
  clear x0 x1 x2 x3 y0 y1 y2 y3 fT q0 q1 q2 q3 fR hU
  have hF := hsb.all (m) (f) (x) (.slice av L cv)
  have hBB := ((((hbw.setCell (p := ⟨w.heap.size + 1, 0, none⟩) (by show w.heap.size ≤ w.heap.size + 1; omega) (.int .i64 (m))).setCell (p := ⟨w.heap.size + 1, 1, none⟩) (by show w.heap.size ≤ w.heap.size + 1; omega) (.int .u32 (f))).setCell (p := ⟨w.heap.size + 1, 2, none⟩) (by show w.heap.size ≤ w.heap.size + 1; omega) (.int .u32 (x))).setCell (p := ⟨w.heap.size + 1, 3, none⟩) (by show w.heap.size ≤ w.heap.size + 1; omega) (.slice av L cv))
  obtain ⟨WW, hWW⟩ : ∃ WW, WW = ((((W6.setCell ⟨w.heap.size + 1, 0, none⟩ (.int .i64 (m))).setCell ⟨w.heap.size + 1, 1, none⟩ (.int .u32 (f))).setCell ⟨w.heap.size + 1, 2, none⟩ (.int .u32 (x))).setCell ⟨w.heap.size + 1, 3, none⟩ (.slice av L cv)) := ⟨_, rfl⟩
  have hOW := OwnF.four hown hz5 hw5 (.int .i64 (m)) (.int .u32 (f)) (.int .u32 (x)) (.slice av L cv)
  rw [← hWW] at hF hBB hOW ⊢
  clear hWW
  obtain ⟨_, hF0, hF1, hF2, hF3, _⟩ := hF
  exact bodyPost_ret (v := .tuple #[.agg #[.int .i64 (m), .int .u32 (f), .int .u32 (x), .slice av L cv], .int .i64 0]) (by simp [results, Try.results27, go_sem, hF0, hF1, hF2, hF3]) rfl ⟨⟨_, rfl, hOW⟩, hBB⟩
set_option maxHeartbeats 2000000 in
theorem sop_3 (e s : Int) (ts : List (Int × Int)) (a : Option Addr) (l cap : Nat) (m f c x : Int) (hx : bits .xor .u32 7 s = x)
    (hV : ∀ W, Below w.heap.size w W → ∀ G, PB W G 3 e s (.slice a l cap) → Calls Try.prog 49 #[.pointer (some ⟨G, 0, none⟩)] W fun r w' => r = .returned (.bool true) ∧ Below W.heap.size W w')
    (hCl : ∀ W, Below w.heap.size w W → ∀ G, PB W G 3 e s (.slice a l cap) → Calls Try.prog 65 #[.pointer (some ⟨G, 0, none⟩)] W fun r w' => (∃ u, r = .returned (.agg #[.int .i64 3, .int .u32 e, .int .u32 s, u]) ∧ OwnF W w' u ts) ∧ Below W.heap.size W w')
    (hO : ∀ W, Calls Try.prog 66 #[.agg #[.int .i64 3, .int .u32 e]] W fun r w' => r = .returned (.tuple #[.agg #[.int .i64 m, .int .u32 f], .int .i64 c]) ∧ Below W.heap.size W w') :
    Calls Try.prog 27 #[.agg #[.int .i64 3, .int .u32 e, .int .u32 s, .slice a l cap]] w (RetP w ⟨m, f, x, ts⟩ 0) := by
  unfold RetP
  dsimp only
  replace hO := Lib.hid hO
  replace hV := Lib.hid hV
  replace hCl := Lib.hid hCl
  obtain ⟨W0, hW0⟩ : ∃ W0, W0 = (w.alloc (.cells #[.int .i64 3, .int .u32 e, .int .u32 s, .slice a l cap] 33)).alloc (.cells #[.int .i64 0, .int .u32 0, .int .u32 0, .slice none 0 0] 33) := ⟨_, rfl⟩
  have hB0 : Below w.heap.size w W0 := by rw [hW0]; (repeat (first | exact Below.refl _ _ | assumption | refine bchain (by assumption) ?_ | refine balloc ?_ _ | apply Below.drew | apply below_drewN | (refine Below.alloc ?_ (by (try simp) <;> omega) _) | (refine Below.setCell ?_ (by (try simp) <;> omega) _)))
  have sz : (w.alloc (.cells #[.int .i64 3, .int .u32 e, .int .u32 s, .slice a l cap] 33)).heap.size = w.heap.size + 1 := by simp
  have k0 : PB W0 w.heap.size 3 e s (.slice a l cap) := by rw [hW0]; exact (PB.made w _ _ _ _ _).below (balloc (Below.refl _ _) _)
  have k1 : PB W0 (w.heap.size + 1) 0 0 0 (.slice none 0 0) := by rw [hW0, ← sz]; exact PB.made _ 0 0 0 _ _
  replace hW0 := Lib.hid hW0
  clear sz
  go_enter Try.func27, Try.ntmps27
  go_wp2_with fail
  rw [← hW0.out]
  go_wp2_with fail
  refine (hV.out _ hB0 _ k0).mono ?_
  rintro r1 w1 ⟨rfl, hb1⟩
  replace k0 := k0.below hb1
  replace k1 := k1.below hb1
  replace hB0 := bchain hb1 hB0
  clear hb1
  go_wp2_with fail
  refine (hCl.out _ hB0 _ k0).mono ?_
  rintro r2 w2 ⟨⟨u2, rfl, hU⟩, hb2⟩
  obtain ⟨av, cv, rfl, _⟩ := id hU
  have hz1 := k1.lt
  have hw1 := hB0.size
  replace hU := Lib.hid hU
  replace k0 := k0.below hb2
  replace k1 := k1.below hb2
  replace hB0 := bchain hb2 hB0
  have hzr := k1.lt
  clear hb2
  obtain ⟨L, hL⟩ : ∃ L, ts.length = L := ⟨_, rfl⟩
  rw [hL]
  replace hL := Lib.hid hL
  obtain ⟨W3, hW3⟩ : ∃ W3, W3 = w2.alloc (.cells #[.int .i64 3, .int .u32 e, .int .u32 s, .slice av L cv] 33) := ⟨_, rfl⟩
  have kT : PB W3 w2.heap.size 3 e s (.slice av L cv) := by rw [hW3]; exact PB.made _ _ _ _ _ _
  have b2 : Below w2.heap.size w2 W3 := by rw [hW3]; exact balloc (Below.refl _ _) _
  replace hW3 := Lib.hid hW3
  obtain ⟨hzw, x0, x1, x2, x3, _⟩ := id k0
  have hnw : w.heap.size ≠ w2.heap.size := by omega
  go_wp2_with fail
  rw [← hW3.out]
  refine (hO.out _).mono ?_
  rintro r4 w4 ⟨rfl, hb4⟩
  have kT4 := kT.below hb4
  have b4 : Below w2.heap.size w2 w4 := bchain hb4 b2
  clear x0 x1 x2 x3 hb4 kT b2
  have k04 := k0.below b4
  have k14 := k1.below b4
  obtain ⟨_, x0, x1, x2, x3, _⟩ := id k04
  obtain ⟨_, y0, y1, y2, y3, fT⟩ := id kT4
  obtain ⟨_, q0, q1, q2, q3, fR⟩ := id k14
  have hnw2 : w2.heap.size ≠ w.heap.size := by omega
  have hnr : w.heap.size + 1 ≠ w2.heap.size := by omega
  have hnr2 : w2.heap.size ≠ w.heap.size + 1 := by omega
  obtain ⟨W6, hW6⟩ : ∃ W6, W6 = ((w4.setCell ⟨w2.heap.size, 0, none⟩ (.int .i64 m)).setCell ⟨w2.heap.size, 1, none⟩ (.int .u32 f)).setCell ⟨w2.heap.size, 2, none⟩ (.int .u32 x) := ⟨_, rfl⟩
  have hsb : PB W6 (w.heap.size + 1) 0 0 0 (.slice none 0 0) := by rw [hW6]; exact (((k14.other _ (by show w2.heap.size ≠ w.heap.size + 1; omega)).other _ (by show w2.heap.size ≠ w.heap.size + 1; omega)).other _ (by show w2.heap.size ≠ w.heap.size + 1; omega))
  have b6 : Below w2.heap.size w2 W6 := by rw [hW6]; exact ((b4.setCell (p := ⟨w2.heap.size, 0, none⟩) (Nat.le_refl _) _).setCell (p := ⟨w2.heap.size, 1, none⟩) (Nat.le_refl _) _).setCell (p := ⟨w2.heap.size, 2, none⟩) (Nat.le_refl _) _
  go_wp2
  rw [← hW6]
  clear hW6
  have hbw := bchain b6 hB0
  have hown : OwnF w1 W6 (.slice av L cv) ts := by have := OwnF.below hU.out b6; rw [hL.out] at this; exact this
  have hz5 : w.heap.size + 1 < w1.heap.size := hz1
  have hw5 : w.heap.size ≤ w1.heap.size := hw1
  clear x0 x1 x2 x3 y0 y1 y2 y3 fT q0 q1 q2 q3 fR hU
  have hF := hsb.all (m) (f) (x) (.slice av L cv)
  have hBB := ((((hbw.setCell (p := ⟨w.heap.size + 1, 0, none⟩) (by show w.heap.size ≤ w.heap.size + 1; omega) (.int .i64 (m))).setCell (p := ⟨w.heap.size + 1, 1, none⟩) (by show w.heap.size ≤ w.heap.size + 1; omega) (.int .u32 (f))).setCell (p := ⟨w.heap.size + 1, 2, none⟩) (by show w.heap.size ≤ w.heap.size + 1; omega) (.int .u32 (x))).setCell (p := ⟨w.heap.size + 1, 3, none⟩) (by show w.heap.size ≤ w.heap.size + 1; omega) (.slice av L cv))
  obtain ⟨WW, hWW⟩ : ∃ WW, WW = ((((W6.setCell ⟨w.heap.size + 1, 0, none⟩ (.int .i64 (m))).setCell ⟨w.heap.size + 1, 1, none⟩ (.int .u32 (f))).setCell ⟨w.heap.size + 1, 2, none⟩ (.int .u32 (x))).setCell ⟨w.heap.size + 1, 3, none⟩ (.slice av L cv)) := ⟨_, rfl⟩
  have hOW := OwnF.four hown hz5 hw5 (.int .i64 (m)) (.int .u32 (f)) (.int .u32 (x)) (.slice av L cv)
  rw [← hWW] at hF hBB hOW ⊢
  clear hWW
  obtain ⟨_, hF0, hF1, hF2, hF3, _⟩ := hF
  exact bodyPost_ret (v := .tuple #[.agg #[.int .i64 (m), .int .u32 (f), .int .u32 (x), .slice av L cv], .int .i64 0]) (by simp [results, Try.results27, go_sem, hF0, hF1, hF2, hF3]) rfl ⟨⟨_, rfl, hOW⟩, hBB⟩
set_option maxHeartbeats 2000000 in
theorem sop_4 (e s : Int) (ts : List (Int × Int)) (a : Option Addr) (l cap : Nat) (m f c x : Int) (hx : bits .xor .u32 15 s = x)
    (hV : ∀ W, Below w.heap.size w W → ∀ G, PB W G 4 e s (.slice a l cap) → Calls Try.prog 49 #[.pointer (some ⟨G, 0, none⟩)] W fun r w' => r = .returned (.bool true) ∧ Below W.heap.size W w')
    (hCl : ∀ W, Below w.heap.size w W → ∀ G, PB W G 4 e s (.slice a l cap) → Calls Try.prog 65 #[.pointer (some ⟨G, 0, none⟩)] W fun r w' => (∃ u, r = .returned (.agg #[.int .i64 4, .int .u32 e, .int .u32 s, u]) ∧ OwnF W w' u ts) ∧ Below W.heap.size W w')
    (hO : ∀ W, Calls Try.prog 66 #[.agg #[.int .i64 4, .int .u32 e]] W fun r w' => r = .returned (.tuple #[.agg #[.int .i64 m, .int .u32 f], .int .i64 c]) ∧ Below W.heap.size W w') :
    Calls Try.prog 27 #[.agg #[.int .i64 4, .int .u32 e, .int .u32 s, .slice a l cap]] w (RetP w ⟨m, f, x, ts⟩ 0) := by
  unfold RetP
  dsimp only
  replace hO := Lib.hid hO
  replace hV := Lib.hid hV
  replace hCl := Lib.hid hCl
  obtain ⟨W0, hW0⟩ : ∃ W0, W0 = (w.alloc (.cells #[.int .i64 4, .int .u32 e, .int .u32 s, .slice a l cap] 33)).alloc (.cells #[.int .i64 0, .int .u32 0, .int .u32 0, .slice none 0 0] 33) := ⟨_, rfl⟩
  have hB0 : Below w.heap.size w W0 := by rw [hW0]; (repeat (first | exact Below.refl _ _ | assumption | refine bchain (by assumption) ?_ | refine balloc ?_ _ | apply Below.drew | apply below_drewN | (refine Below.alloc ?_ (by (try simp) <;> omega) _) | (refine Below.setCell ?_ (by (try simp) <;> omega) _)))
  have sz : (w.alloc (.cells #[.int .i64 4, .int .u32 e, .int .u32 s, .slice a l cap] 33)).heap.size = w.heap.size + 1 := by simp
  have k0 : PB W0 w.heap.size 4 e s (.slice a l cap) := by rw [hW0]; exact (PB.made w _ _ _ _ _).below (balloc (Below.refl _ _) _)
  have k1 : PB W0 (w.heap.size + 1) 0 0 0 (.slice none 0 0) := by rw [hW0, ← sz]; exact PB.made _ 0 0 0 _ _
  replace hW0 := Lib.hid hW0
  clear sz
  go_enter Try.func27, Try.ntmps27
  go_wp2_with fail
  rw [← hW0.out]
  go_wp2_with fail
  refine (hV.out _ hB0 _ k0).mono ?_
  rintro r1 w1 ⟨rfl, hb1⟩
  replace k0 := k0.below hb1
  replace k1 := k1.below hb1
  replace hB0 := bchain hb1 hB0
  clear hb1
  go_wp2_with fail
  refine (hCl.out _ hB0 _ k0).mono ?_
  rintro r2 w2 ⟨⟨u2, rfl, hU⟩, hb2⟩
  obtain ⟨av, cv, rfl, _⟩ := id hU
  have hz1 := k1.lt
  have hw1 := hB0.size
  replace hU := Lib.hid hU
  replace k0 := k0.below hb2
  replace k1 := k1.below hb2
  replace hB0 := bchain hb2 hB0
  have hzr := k1.lt
  clear hb2
  obtain ⟨L, hL⟩ : ∃ L, ts.length = L := ⟨_, rfl⟩
  rw [hL]
  replace hL := Lib.hid hL
  obtain ⟨W3, hW3⟩ : ∃ W3, W3 = w2.alloc (.cells #[.int .i64 4, .int .u32 e, .int .u32 s, .slice av L cv] 33) := ⟨_, rfl⟩
  have kT : PB W3 w2.heap.size 4 e s (.slice av L cv) := by rw [hW3]; exact PB.made _ _ _ _ _ _
  have b2 : Below w2.heap.size w2 W3 := by rw [hW3]; exact balloc (Below.refl _ _) _
  replace hW3 := Lib.hid hW3
  obtain ⟨hzw, x0, x1, x2, x3, _⟩ := id k0
  have hnw : w.heap.size ≠ w2.heap.size := by omega
  go_wp2_with fail
  rw [← hW3.out]
  refine (hO.out _).mono ?_
  rintro r4 w4 ⟨rfl, hb4⟩
  have kT4 := kT.below hb4
  have b4 : Below w2.heap.size w2 w4 := bchain hb4 b2
  clear x0 x1 x2 x3 hb4 kT b2
  have k04 := k0.below b4
  have k14 := k1.below b4
  obtain ⟨_, x0, x1, x2, x3, _⟩ := id k04
  obtain ⟨_, y0, y1, y2, y3, fT⟩ := id kT4
  obtain ⟨_, q0, q1, q2, q3, fR⟩ := id k14
  have hnw2 : w2.heap.size ≠ w.heap.size := by omega
  have hnr : w.heap.size + 1 ≠ w2.heap.size := by omega
  have hnr2 : w2.heap.size ≠ w.heap.size + 1 := by omega
  obtain ⟨W6, hW6⟩ : ∃ W6, W6 = ((w4.setCell ⟨w2.heap.size, 0, none⟩ (.int .i64 m)).setCell ⟨w2.heap.size, 1, none⟩ (.int .u32 f)).setCell ⟨w2.heap.size, 2, none⟩ (.int .u32 x) := ⟨_, rfl⟩
  have hsb : PB W6 (w.heap.size + 1) 0 0 0 (.slice none 0 0) := by rw [hW6]; exact (((k14.other _ (by show w2.heap.size ≠ w.heap.size + 1; omega)).other _ (by show w2.heap.size ≠ w.heap.size + 1; omega)).other _ (by show w2.heap.size ≠ w.heap.size + 1; omega))
  have b6 : Below w2.heap.size w2 W6 := by rw [hW6]; exact ((b4.setCell (p := ⟨w2.heap.size, 0, none⟩) (Nat.le_refl _) _).setCell (p := ⟨w2.heap.size, 1, none⟩) (Nat.le_refl _) _).setCell (p := ⟨w2.heap.size, 2, none⟩) (Nat.le_refl _) _
  go_wp2
  rw [← hW6]
  clear hW6
  have hbw := bchain b6 hB0
  have hown : OwnF w1 W6 (.slice av L cv) ts := by have := OwnF.below hU.out b6; rw [hL.out] at this; exact this
  have hz5 : w.heap.size + 1 < w1.heap.size := hz1
  have hw5 : w.heap.size ≤ w1.heap.size := hw1
  clear x0 x1 x2 x3 y0 y1 y2 y3 fT q0 q1 q2 q3 fR hU
  have hF := hsb.all (m) (f) (x) (.slice av L cv)
  have hBB := ((((hbw.setCell (p := ⟨w.heap.size + 1, 0, none⟩) (by show w.heap.size ≤ w.heap.size + 1; omega) (.int .i64 (m))).setCell (p := ⟨w.heap.size + 1, 1, none⟩) (by show w.heap.size ≤ w.heap.size + 1; omega) (.int .u32 (f))).setCell (p := ⟨w.heap.size + 1, 2, none⟩) (by show w.heap.size ≤ w.heap.size + 1; omega) (.int .u32 (x))).setCell (p := ⟨w.heap.size + 1, 3, none⟩) (by show w.heap.size ≤ w.heap.size + 1; omega) (.slice av L cv))
  obtain ⟨WW, hWW⟩ : ∃ WW, WW = ((((W6.setCell ⟨w.heap.size + 1, 0, none⟩ (.int .i64 (m))).setCell ⟨w.heap.size + 1, 1, none⟩ (.int .u32 (f))).setCell ⟨w.heap.size + 1, 2, none⟩ (.int .u32 (x))).setCell ⟨w.heap.size + 1, 3, none⟩ (.slice av L cv)) := ⟨_, rfl⟩
  have hOW := OwnF.four hown hz5 hw5 (.int .i64 (m)) (.int .u32 (f)) (.int .u32 (x)) (.slice av L cv)
  rw [← hWW] at hF hBB hOW ⊢
  clear hWW
  obtain ⟨_, hF0, hF1, hF2, hF3, _⟩ := hF
  exact bodyPost_ret (v := .tuple #[.agg #[.int .i64 (m), .int .u32 (f), .int .u32 (x), .slice av L cv], .int .i64 0]) (by simp [results, Try.results27, go_sem, hF0, hF1, hF2, hF3]) rfl ⟨⟨_, rfl, hOW⟩, hBB⟩
theorem iop_bad (X : PM) (a : Option Addr) (l cap : Nat) (hV : ∀ W, Below w.heap.size w W → Calls Try.prog 16 #[.agg #[.int .i64 X.n, .int .u32 X.e, .int .u32 X.s, .slice a l cap]] W fun r w' => r = .returned (.bool false) ∧ Below W.heap.size W w') :
    Calls Try.prog 28 #[.agg #[.int .i64 X.n, .int .u32 X.e, .int .u32 X.s, .slice a l cap]] w (RetP w ⟨0, 0, 0, []⟩ 1) := by
  obtain ⟨n, e, s, ts⟩ := X
  unfold RetP
  dsimp only at *
  replace hV := Lib.hid hV
  obtain ⟨W0, hW0⟩ : ∃ W0, W0 = (w.alloc (.cells #[.int .i64 n, .int .u32 e, .int .u32 s, .slice a l cap] 33)).alloc (.cells #[.int .i64 0, .int .u32 0, .int .u32 0, .slice none 0 0] 33) := ⟨_, rfl⟩
  have hB0 : Below w.heap.size w W0 := by rw [hW0]; (repeat (first | exact Below.refl _ _ | assumption | refine bchain (by assumption) ?_ | refine balloc ?_ _ | apply Below.drew | apply below_drewN | (refine Below.alloc ?_ (by (try simp) <;> omega) _) | (refine Below.setCell ?_ (by (try simp) <;> omega) _)))
  have sz : (w.alloc (.cells #[.int .i64 n, .int .u32 e, .int .u32 s, .slice a l cap] 33)).heap.size = w.heap.size + 1 := by simp
  have k0 : PB W0 w.heap.size n e s (.slice a l cap) := by rw [hW0]; exact (PB.made w _ _ _ _ _).below (balloc (Below.refl _ _) _)
  have k1 : PB W0 (w.heap.size + 1) 0 0 0 (.slice none 0 0) := by rw [hW0, ← sz]; exact PB.made _ 0 0 0 _ _
  replace hW0 := Lib.hid hW0
  clear sz
  obtain ⟨_, x0, x1, x2, x3, _⟩ := id k0
  go_enter Try.func28, Try.ntmps28
  go_wp2_with fail
  rw [← hW0.out]
  go_wp2_with fail
  refine (hV.out _ hB0).mono ?_
  rintro r1 w1 ⟨rfl, hb1⟩
  have hsb := k1.below hb1
  have hbw := bchain hb1 hB0
  obtain ⟨_, q0, q1, q2, q3, fR⟩ := id hsb
  clear x0 x1 x2 x3 k0 k1 hB0
  go_wp2
  clear q0 q1 q2 q3 fR
  have hF := hsb.all (0) (0) (0) (.slice none 0 0)
  have hBB := ((((hbw.setCell (p := ⟨w.heap.size + 1, 0, none⟩) (by show w.heap.size ≤ w.heap.size + 1; omega) (.int .i64 (0))).setCell (p := ⟨w.heap.size + 1, 1, none⟩) (by show w.heap.size ≤ w.heap.size + 1; omega) (.int .u32 (0))).setCell (p := ⟨w.heap.size + 1, 2, none⟩) (by show w.heap.size ≤ w.heap.size + 1; omega) (.int .u32 (0))).setCell (p := ⟨w.heap.size + 1, 3, none⟩) (by show w.heap.size ≤ w.heap.size + 1; omega) (.slice none 0 0))
  obtain ⟨WW, hWW⟩ : ∃ WW, WW = ((((w1.setCell ⟨w.heap.size + 1, 0, none⟩ (.int .i64 (0))).setCell ⟨w.heap.size + 1, 1, none⟩ (.int .u32 (0))).setCell ⟨w.heap.size + 1, 2, none⟩ (.int .u32 (0))).setCell ⟨w.heap.size + 1, 3, none⟩ (.slice none 0 0)) := ⟨_, rfl⟩
  rw [← hWW] at hF hBB ⊢
  clear hWW
  obtain ⟨_, hF0, hF1, hF2, hF3, _⟩ := hF
  exact bodyPost_ret (v := .tuple #[.agg #[.int .i64 (0), .int .u32 (0), .int .u32 (0), .slice none 0 0], .int .i64 1]) (by simp [results, Try.results28, go_sem, hF0, hF1, hF2, hF3]) rfl ⟨⟨_, rfl, ownF_nil⟩, hBB⟩
theorem sop_bad (X : PM) (a : Option Addr) (l cap : Nat) (hV : ∀ W, Below w.heap.size w W → ∀ G, PB W G X.n X.e X.s (.slice a l cap) → Calls Try.prog 49 #[.pointer (some ⟨G, 0, none⟩)] W fun r w' => r = .returned (.bool false) ∧ Below W.heap.size W w') :
    Calls Try.prog 27 #[.agg #[.int .i64 X.n, .int .u32 X.e, .int .u32 X.s, .slice a l cap]] w (RetP w ⟨0, 0, 0, []⟩ 1) := by
  obtain ⟨n, e, s, ts⟩ := X
  unfold RetP
  dsimp only at *
  replace hV := Lib.hid hV
  obtain ⟨W0, hW0⟩ : ∃ W0, W0 = (w.alloc (.cells #[.int .i64 n, .int .u32 e, .int .u32 s, .slice a l cap] 33)).alloc (.cells #[.int .i64 0, .int .u32 0, .int .u32 0, .slice none 0 0] 33) := ⟨_, rfl⟩
  have hB0 : Below w.heap.size w W0 := by rw [hW0]; (repeat (first | exact Below.refl _ _ | assumption | refine bchain (by assumption) ?_ | refine balloc ?_ _ | apply Below.drew | apply below_drewN | (refine Below.alloc ?_ (by (try simp) <;> omega) _) | (refine Below.setCell ?_ (by (try simp) <;> omega) _)))
  have sz : (w.alloc (.cells #[.int .i64 n, .int .u32 e, .int .u32 s, .slice a l cap] 33)).heap.size = w.heap.size + 1 := by simp
  have k0 : PB W0 w.heap.size n e s (.slice a l cap) := by rw [hW0]; exact (PB.made w _ _ _ _ _).below (balloc (Below.refl _ _) _)
  have k1 : PB W0 (w.heap.size + 1) 0 0 0 (.slice none 0 0) := by rw [hW0, ← sz]; exact PB.made _ 0 0 0 _ _
  replace hW0 := Lib.hid hW0
  clear sz
  obtain ⟨_, x0, x1, x2, x3, _⟩ := id k0
  go_enter Try.func27, Try.ntmps27
  go_wp2_with fail
  rw [← hW0.out]
  go_wp2_with fail
  refine (hV.out _ hB0 _ k0).mono ?_
  rintro r1 w1 ⟨rfl, hb1⟩
  have hsb := k1.below hb1
  have hbw := bchain hb1 hB0
  obtain ⟨_, q0, q1, q2, q3, fR⟩ := id hsb
  clear x0 x1 x2 x3 k0 k1 hB0
  go_wp2
  clear q0 q1 q2 q3 fR
  have hF := hsb.all (0) (0) (0) (.slice none 0 0)
  have hBB := ((((hbw.setCell (p := ⟨w.heap.size + 1, 0, none⟩) (by show w.heap.size ≤ w.heap.size + 1; omega) (.int .i64 (0))).setCell (p := ⟨w.heap.size + 1, 1, none⟩) (by show w.heap.size ≤ w.heap.size + 1; omega) (.int .u32 (0))).setCell (p := ⟨w.heap.size + 1, 2, none⟩) (by show w.heap.size ≤ w.heap.size + 1; omega) (.int .u32 (0))).setCell (p := ⟨w.heap.size + 1, 3, none⟩) (by show w.heap.size ≤ w.heap.size + 1; omega) (.slice none 0 0))
  obtain ⟨WW, hWW⟩ : ∃ WW, WW = ((((w1.setCell ⟨w.heap.size + 1, 0, none⟩ (.int .i64 (0))).setCell ⟨w.heap.size + 1, 1, none⟩ (.int .u32 (0))).setCell ⟨w.heap.size + 1, 2, none⟩ (.int .u32 (0))).setCell ⟨w.heap.size + 1, 3, none⟩ (.slice none 0 0)) := ⟨_, rfl⟩
  rw [← hWW] at hF hBB ⊢
  clear hWW
  obtain ⟨_, hF0, hF1, hF2, hF3, _⟩ := hF
  exact bodyPost_ret (v := .tuple #[.agg #[.int .i64 (0), .int .u32 (0), .int .u32 (0), .slice none 0 0], .int .i64 1]) (by simp [results, Try.results27, go_sem, hF0, hF1, hF2, hF3]) rfl ⟨⟨_, rfl, ownF_nil⟩, hBB⟩
end
theorem po_both (X : PM) (hbd : BdP X) : ∃ (L : PM) (c : Int), L.ts.length ≤ 1048576 ∧
    (∀ W u, Fr.SlG W u X.ts → Calls Try.prog 27 #[.agg #[.int .i64 X.n, .int .u32 X.e, .int .u32 X.s, u]] W (RetP W L c)) ∧
    (∀ W u, Fr.SlG W u X.ts → Calls Try.prog 28 #[.agg #[.int .i64 X.n, .int .u32 X.e, .int .u32 X.s, u]] W (RetP W L c)) := by
  by_cases hv : VPat X
  · obtain ⟨m, f, c, hs, hi⟩ := opp_both X.n X.e hbd.2.1 hbd.1
    have hn : 1 ≤ X.n ∧ X.n ≤ 4 := by
      have h1 := hv.2.1
      unfold hpB at h1
      rw [decide_eq_true_iff] at h1
      exact ⟨h1.1, h1.2.1⟩
    have hm : X.ts.length ≤ 4 := by have := hv.2.2.1; omega
    have hl0 : X.ts ≠ [] := by
      intro h
      have := hv.2.2.1
      rw [h] at this
      simp at this
      omega
    obtain ⟨x, hx1, hx2⟩ := xor_comm X.n.toNat (by omega) X.s hbd.2.2.1 hbd.2.2.2
    refine ⟨⟨m, f, x, X.ts⟩, 0, by show X.ts.length ≤ _; omega, fun W u hS => ?_, fun W u hS => ?_⟩
    · obtain ⟨a, cap, rfl, _, _, h3⟩ := id hS
      obtain ⟨b, off, rfl, hb, hc⟩ := h3 hl0
      have hV := fun W' (hB : Below W.heap.size W W') G k0 => l7_any W' X _ G k0 (hS.below hB) hbd true ⟨fun _ => hv, fun _ => rfl⟩
      have hCl := fun W' (hB : Below W.heap.size W W') G k0 => l7c_any W' X b off cap G k0 (by omega) (by have := hB.size; omega) (fun i hi => ⟨(hB.cell (p := ⟨b, _, none⟩) hb).trans (hc i hi).1, (hB.cell (p := ⟨b, _, none⟩) hb).trans (hc i hi).2⟩)
      obtain ⟨n, e, s, ts⟩ := X
      dsimp only at *
      have hc4 : n = 1 ∨ n = 2 ∨ n = 3 ∨ n = 4 := by omega
      rcases hc4 with rfl | rfl | rfl | rfl
      · exact sop_1 W e s ts _ _ cap m f c x hx2 hV hCl hs
      · exact sop_2 W e s ts _ _ cap m f c x hx2 hV hCl hs
      · exact sop_3 W e s ts _ _ cap m f c x hx2 hV hCl hs
      · exact sop_4 W e s ts _ _ cap m f c x hx2 hV hCl hs
    · obtain ⟨a, cap, rfl, _, _, h3⟩ := id hS
      obtain ⟨b, off, rfl, hb, hc⟩ := h3 hl0
      exact iop_ok W X b off cap hS hbd hv hb hc m f c x hx1 hi
  · refine ⟨⟨0, 0, 0, []⟩, 1, by simp, fun W u hS => ?_, fun W u hS => ?_⟩
    · obtain ⟨a, cap, rfl, _⟩ := id hS
      exact sop_bad W X a _ cap (fun W' hB G k0 => l7_any W' X _ G k0 (hS.below hB) hbd false ⟨fun c => (by cases c), fun c => absurd c hv⟩)
    · obtain ⟨a, cap, rfl, _⟩ := id hS
      exact iop_bad W X a _ cap (fun W' hB => ivp_any W' X _ (hS.below hB) hbd false ⟨fun c => (by cases c), fun c => absurd c hv⟩)
end Go.Proofs.Ytfnjgdocmfmfgaa
