/-
  PROVED: for every sum of flags and every flag, valid or not, CoefficientOf of the program answers as the model's does, and its sum is left as it was. Conditions: none.
-/
import Derived.Test.YtpobonomdfbanaaKOpen
import Derived.Test.YtpobonomdfbanaaSTcoS
namespace Go.Proofs.Ytpobonomdfbanaa
open Go.ChangeShapes Go.WideShapes Go.ChangeAt Go.RowKit
set_option maxRecDepth 100000
theorem co_both (X : SM) (k m y : Int) (hbd : BdS X) (hy : y < 4294967296) (hy0 : 0 ≤ y) : ∃ P Q c : Int,
    (∀ W u, SlT W u X.ts → Calls Try.prog 37 #[.agg #[.int .i64 X.n, .int .u32 X.e, .int .i64 X.s, u], .agg #[.int .i64 k, .int .i64 m, .int .u32 y]] W (RetFr W P Q c)) ∧
    (∀ W u, SlT W u X.ts → Calls Try.prog 38 #[.agg #[.int .i64 X.n, .int .u32 X.e, .int .i64 X.s, u], .agg #[.int .i64 k, .int .i64 m, .int .u32 y]] W (RetFr W P Q c)) := by
  by_cases hv : VSum X
  · by_cases hk : VK k m y
    · obtain ⟨k, m, y, rfl, rfl, rfl⟩ : ∃ k' m' y' : Nat, k = k' ∧ m = m' ∧ y = y' := ⟨k.toNat, m.toNat, y.toNat, by have := hk.2.1; omega, by have := hk.1.1; omega, by omega⟩
      by_cases hf : Fits k m y X.n X.e X.s
      · obtain ⟨P, Q, hPQ⟩ : ∃ P Q, coF X.ts k m (leastK m k y : Nat) = (P, Q) := ⟨_, _, rfl⟩
        exact ⟨P, Q, 0, fun W u h => sc_ok W X u k m y h hbd hv hk hf P Q hPQ, fun W u h => ic_ok W X u k m y h hbd hv hk hf P Q hPQ⟩
      · exact ⟨0, 0, 2, fun W u h => sc_fit W X u k m y h hbd hv hk hf, fun W u h => ic_fit W X u k m y h hbd hv hk hf⟩
    · exact ⟨0, 0, 1, fun W u h => sc_flag W X u k m y h hbd hv hy hy0 hk, fun W u h => ic_flag W X u k m y h hbd hv hy hy0 hk⟩
  · exact ⟨0, 0, 1, fun W u h => sc_sum W X u k m y h hbd hv, fun W u h => ic_sum W X u k m y h hbd hv⟩
/-- a struct of two cells, stored over another one -/
theorem frTwo {w : World} {B : Nat} {a b : Value} (h0 : w.cell? ⟨B, 0, none⟩ = some a) (h1 : w.cell? ⟨B, 1, none⟩ = some b) (x y : Value) :
    ((w.setCell ⟨B, 0, none⟩ x).setCell ⟨B, 1, none⟩ y).cell? ⟨B, 0, none⟩ = some x ∧ ((w.setCell ⟨B, 0, none⟩ x).setCell ⟨B, 1, none⟩ y).cell? ⟨B, 1, none⟩ = some y :=
  ⟨(World.cell?_setCell_other _ _ _ _ (by simp)).trans (World.cell?_setCell_same _ _ _ h0), World.cell?_setCell_same _ _ _ ((World.cell?_setCell_other _ _ _ _ (by simp)).trans h1)⟩
namespace CoefficientOfLaw
theorem walk_long (v : Value) (X : SM) (k m y : Int) (w : World) (h : SumS w v X) (hm : 1048576 < X.ts.length) :
    Calls Try.prog 8 #[v, .agg #[.int .i64 k, .int .i64 m, .int .u32 y]] w fun r w' => r = .returned (.bool true) ∧ Below w.heap.size w w' := by
  have hC := Lib.hid (fun W (hb : Below w.heap.size w W) => szS_long W v X (h.below hb) hm)
  obtain ⟨u, rfl, a, cap, rfl, _⟩ := h
  clear hm
  go_enter Try.func8, Try.ntmps8
  go_wp2_with fail
  refine (hC.out _ (by (repeat (first | exact Below.refl _ _ | assumption | refine bchain (by assumption) ?_ | refine balloc ?_ _ | apply Below.drew | apply below_drewN | (refine Below.alloc ?_ (by (try simp) <;> omega) _) | (refine Below.setCell ?_ (by (try simp) <;> omega) _))))).mono ?_
  rintro r1 w1 ⟨rfl, hb1⟩
  go_wp2
  go_ret
  exact ⟨rfl, by (repeat (first | exact Below.refl _ _ | assumption | refine bchain (by assumption) ?_ | refine balloc ?_ _ | apply Below.drew | apply below_drewN | (refine Below.alloc ?_ (by (try simp) <;> omega) _) | (refine Below.setCell ?_ (by (try simp) <;> omega) _)))⟩
set_option maxHeartbeats 8000000 in
theorem walk_short (v : Value) (X : SM) (k m y : Int) (w : World) (h : SumS w v X) (hbd : BdS X) (hy : y < 4294967296) (hy0 : 0 ≤ y) (hm : X.ts.length ≤ 1048576) :
    Calls Try.prog 8 #[v, .agg #[.int .i64 k, .int .i64 m, .int .u32 y]] w fun r w' => r = .returned (.bool true) ∧ Below w.heap.size w w' := by
  obtain ⟨P, Q, c, hs, hi⟩ := co_both X k m y hbd hy hy0
  unfold RetFr at hs hi
  replace hs := Lib.hid hs
  replace hi := Lib.hid hi
  have hC := Lib.hid (fun W (hb : Below w.heap.size w W) => szS_ok W v X (h.below hb) hm)
  have hT := Lib.hid (fun W (hb : Below w.heap.size w W) => toS_any W v X (h.below hb) hm)
  have hE := Lib.hid (fun W u u' (h : SlT W u X.ts) (h' : SlT W u' X.ts) => eqS_any W u u' X h h' hm)
  have hK := Lib.hid (fun W => toFlag_any W k m y)
  have hl0 : 0 ≤ 1048576 - (X.ts.length : Int) := by omega
  obtain ⟨q, hq⟩ : ∃ q : Int, 1048576 - (X.ts.length : Int) = q := ⟨_, rfl⟩
  rw [hq] at hC hl0
  obtain ⟨u, rfl, a, cap, rfl, _⟩ := h
  obtain ⟨W0, hW0⟩ : ∃ W0, W0 = (w.alloc (.cells #[.int .i64 X.n, .int .u32 X.e, .int .i64 X.s, .slice a X.ts.length cap] 45)).alloc (.cells #[.int .i64 k, .int .i64 m, .int .u32 y] 26) := ⟨_, rfl⟩
  have hB0 : Below w.heap.size w W0 := by rw [hW0]; (repeat (first | exact Below.refl _ _ | assumption | refine bchain (by assumption) ?_ | refine balloc ?_ _ | apply Below.drew | apply below_drewN | (refine Below.alloc ?_ (by (try simp) <;> omega) _) | (refine Below.setCell ?_ (by (try simp) <;> omega) _)))
  have sz : (w.alloc (.cells #[.int .i64 X.n, .int .u32 X.e, .int .i64 X.s, .slice a X.ts.length cap] 45)).heap.size = w.heap.size + 1 := by simp
  have k1 : SB W0 w.heap.size X.n X.e X.s (.slice a X.ts.length cap) := by rw [hW0]; exact (SB.made w _ _ _ _ _).below (balloc (Below.refl _ _) _)
  have f1 : FC W0 (w.heap.size + 1) k m y := by rw [hW0, ← sz]; exact FC.made _ _ _ _ _
  replace hW0 := Lib.hid hW0
  clear hm hq hbd hy hy0 sz
  obtain ⟨_, x0, x1, x2, x3, _⟩ := id k1
  go_enter Try.func8, Try.ntmps8
  go_wp2_with fail
  rw [← hW0.out]
  go_wp2_with fail
  refine (hC.out _ hB0).mono ?_
  rintro r1 w1 ⟨rfl, hb1⟩
  clear x0 x1 x2 x3
  have hB0' := Lib.hid hB0
  clear hB0
  go_upto_region 5 with fail
  go_cut [6, 7] (fun s6 s7 wx => ∃ B : Nat, s6 = .pointer (some ⟨B, 0, none⟩) ∧ s7 = .int .i64 c ∧ Below W0.heap.size W0 wx ∧ W0.heap.size ≤ B ∧ B < wx.heap.size ∧ wx.cell? ⟨B, 0, none⟩ = some (.int .i64 P) ∧ wx.cell? ⟨B, 1, none⟩ = some (.int .i64 Q))
  case first =>
    have k1' := Lib.hid (k1.below hb1)
    have f1' := Lib.hid (f1.below hb1)
    have hz01 := hb1.size
    have hwz := f1'.out.lt
    obtain ⟨_, x0, x1, x2, x3, _⟩ := k1'.out
    obtain ⟨_, e0, e1, e2⟩ := f1'.out
    have hA0 : ∀ (c : Array Value) (t : TypeId) (i : Nat), (w1.drew.alloc (.cells c t)).cell? ⟨w1.heap.size, i, none⟩ = c[i]? := fun c t i => World.cell?_alloc_new w1.drew c t i
    have hF0 : ∀ (c : Array Value) (t : TypeId) (i : Nat), (w1.drew.alloc (.cells c t)).frozen? ⟨w1.heap.size, i, none⟩ = false := fun c t i => by
      have := (show ∀ W : World, (W.alloc (.cells c t)).frozen? ⟨W.heap.size, i, none⟩ = false from fun W => by simp) w1.drew
      exact this
    go_region_held3 (fun A => (A.cell? ⟨w.heap.size, 0, none⟩ = some (.int .i64 X.n) ∧ A.cell? ⟨w.heap.size, 1, none⟩ = some (.int .u32 X.e) ∧ A.cell? ⟨w.heap.size, 2, none⟩ = some (.int .i64 X.s) ∧ A.cell? ⟨w.heap.size, 3, none⟩ = some (.slice a X.ts.length cap)) ∧ (A.cell? ⟨w.heap.size + 1, 0, none⟩ = some (.int .i64 k) ∧ A.cell? ⟨w.heap.size + 1, 1, none⟩ = some (.int .i64 m) ∧ A.cell? ⟨w.heap.size + 1, 2, none⟩ = some (.int .u32 y)) ∧ w.heap.size + 1 < A.heap.size)
      (exact ⟨⟨(k1'.out.below (by (repeat (first | exact Below.refl _ _ | assumption | refine bchain (by assumption) ?_ | refine balloc ?_ _ | apply Below.drew | apply below_drewN | (refine Below.alloc ?_ (by (try simp) <;> omega) _) | (refine Below.setCell ?_ (by (try simp) <;> omega) _))))).c0, (k1'.out.below (by (repeat (first | exact Below.refl _ _ | assumption | refine bchain (by assumption) ?_ | refine balloc ?_ _ | apply Below.drew | apply below_drewN | (refine Below.alloc ?_ (by (try simp) <;> omega) _) | (refine Below.setCell ?_ (by (try simp) <;> omega) _))))).c1, (k1'.out.below (by (repeat (first | exact Below.refl _ _ | assumption | refine bchain (by assumption) ?_ | refine balloc ?_ _ | apply Below.drew | apply below_drewN | (refine Below.alloc ?_ (by (try simp) <;> omega) _) | (refine Below.setCell ?_ (by (try simp) <;> omega) _))))).c2, (k1'.out.below (by (repeat (first | exact Below.refl _ _ | assumption | refine bchain (by assumption) ?_ | refine balloc ?_ _ | apply Below.drew | apply below_drewN | (refine Below.alloc ?_ (by (try simp) <;> omega) _) | (refine Below.setCell ?_ (by (try simp) <;> omega) _))))).c3⟩, ⟨(f1'.out.below (by (repeat (first | exact Below.refl _ _ | assumption | refine bchain (by assumption) ?_ | refine balloc ?_ _ | apply Below.drew | apply below_drewN | (refine Below.alloc ?_ (by (try simp) <;> omega) _) | (refine Below.setCell ?_ (by (try simp) <;> omega) _))))).c0, (f1'.out.below (by (repeat (first | exact Below.refl _ _ | assumption | refine bchain (by assumption) ?_ | refine balloc ?_ _ | apply Below.drew | apply below_drewN | (refine Below.alloc ?_ (by (try simp) <;> omega) _) | (refine Below.setCell ?_ (by (try simp) <;> omega) _))))).c1, (f1'.out.below (by (repeat (first | exact Below.refl _ _ | assumption | refine bchain (by assumption) ?_ | refine balloc ?_ _ | apply Below.drew | apply below_drewN | (refine Below.alloc ?_ (by (try simp) <;> omega) _) | (refine Below.setCell ?_ (by (try simp) <;> omega) _))))).c2⟩, (f1'.out.below (by (repeat (first | exact Below.refl _ _ | assumption | refine bchain (by assumption) ?_ | refine balloc ?_ _ | apply Below.drew | apply below_drewN | (refine Below.alloc ?_ (by (try simp) <;> omega) _) | (refine Below.setCell ?_ (by (try simp) <;> omega) _))))).lt⟩)
      (first
      | (go_at_call 25; with_reducible refine (hT.out _ (bchain (by (repeat (first | exact Below.refl _ _ | assumption | refine bchain (by assumption) ?_ | refine balloc ?_ _ | apply Below.drew | apply below_drewN | (refine Below.alloc ?_ (by (try simp) <;> omega) _) | (refine Below.setCell ?_ (by (try simp) <;> omega) _)))) hB0'.out)).mono ?_; rintro r3 w3 ⟨⟨u3, rfl, hU3⟩, hb3⟩; have hk3 := keepAll hb3; have hf3 := keepFz hb3; have hz3 := keepLt hb3; have hs3 := hb3.size; try (simp at hs3); try (rw [Nat.add_one_le_iff] at hs3))
      | (go_at_call 15; with_reducible refine (hK.out _).mono ?_; rintro r4 w4 ⟨rfl, hb4⟩; have hk4 := keepAll hb4; have hf4 := keepFz hb4; have hz4 := keepLt hb4; have hs4 := hb4.size; try (simp at hs4); try (rw [Nat.add_one_le_iff] at hs4))
      | (go_at_call 37; with_reducible refine (hs.out _ _ (hU3.sl.below (by (repeat (first | exact Below.refl _ _ | assumption | refine bchain (by assumption) ?_ | refine balloc ?_ _ | apply Below.drew | apply below_drewN | (refine Below.alloc ?_ (by (try simp) <;> omega) _) | (refine Below.setCell ?_ (by (try simp) <;> omega) _)))))).mono ?_; rintro r5 w5 ⟨rfl, hb5⟩; have hk5 := keepAll hb5; have hf5 := keepFz hb5; have hz5 := keepLt hb5; have hs5 := hb5.size; try (simp at hs5); try (rw [Nat.add_one_le_iff] at hs5)))
    all_goals (go_wp2_with fail; go_meet; exact ⟨_, rfl, rfl, by (repeat (first | exact Below.refl _ _ | assumption | refine bchain (by assumption) ?_ | refine balloc ?_ _ | apply Below.drew | apply below_drewN | (refine Below.alloc ?_ (by (try simp) <;> omega) _) | (refine Below.setCell ?_ (by (try simp) <;> omega) _))), by (try simp) <;> omega, by (try simp) <;> omega, by first | (simp; done) | exact (frTwo (a := .int .i64 0) (b := .int .i64 0) (by simp [*]) (by simp [*]) _ _).1, by first | (simp; done) | exact (frTwo (a := .int .i64 0) (b := .int .i64 0) (by simp [*]) (by simp [*]) _ _).2⟩)
  case rest =>
    clear hb1
    obtain ⟨B, rfl, rfl, D5, hB1, hB2, q0, q1⟩ := hcut
    rename World => w5
    obtain ⟨_, x0, x1, x2, x3, _⟩ := k1.below D5
    go_wp2_with fail
    refine (hT.out _ (bchain D5 hB0'.out)).mono ?_
    rintro r6 w6 ⟨⟨u6, rfl, hU6⟩, hb6⟩
    have D6 : Below W0.heap.size W0 w6 := bchain hb6 D5
    have q0' := (hb6.cell (p := ⟨B, 0, none⟩) hB2).trans q0
    have q1' := (hb6.cell (p := ⟨B, 1, none⟩) hB2).trans q1
    have hB3 : B < w6.heap.size := by have := hb6.size; omega
    obtain ⟨a6, c6, rfl, _⟩ := id hU6
    clear D5 hb6 x0 x1 x2 x3 q0 q1 hB2
    obtain ⟨WX, hWX⟩ : ∃ WX, WX = w6.alloc (.cells #[.int .i64 X.n, .int .u32 X.e, .int .i64 X.s, (.slice a6 X.ts.length c6)] 50) := ⟨_, rfl⟩
    have sX : SB WX w6.heap.size X.n X.e X.s (.slice a6 X.ts.length c6) := by rw [hWX]; exact SB.made _ _ _ _ _ _
    have bX : Below w6.heap.size w6 WX := by rw [hWX]; exact balloc (Below.refl _ _) _
    replace hWX := Lib.hid hWX
    have D7 : Below W0.heap.size W0 WX := bchain bX D6
    have hU7 := Lib.hid (hU6.sl.below bX)
    have p0 := Lib.hid ((bX.cell (p := ⟨B, 0, none⟩) hB3).trans q0')
    have p1 := Lib.hid ((bX.cell (p := ⟨B, 1, none⟩) hB3).trans q1')
    have hB4 : B < WX.heap.size := by have := bX.size; omega
    have hW6X : w6.heap.size < WX.heap.size := sX.lt
    have hn6 : w.heap.size + 1 < w6.heap.size := by have := f1.lt; have := D6.size; omega
    clear hU6 D6 q0' q1' hB3 bX
    go_upto_region 7 with fail
    rw [← hWX.out]
    go_cut [9, 10] (fun s9 s10 wy => ∃ C : Nat, s9 = .pointer (some ⟨C, 0, none⟩) ∧ s10 = .int .i64 c ∧ Below WX.heap.size WX wy ∧ C < wy.heap.size ∧ wy.cell? ⟨C, 0, none⟩ = some (.int .i64 P) ∧ wy.cell? ⟨C, 1, none⟩ = some (.int .i64 Q))
    case first =>
      have s1' := Lib.hid sX
      have f1' := Lib.hid (f1.below D7)
      obtain ⟨_, x0, x1, x2, x3, _⟩ := id sX
      obtain ⟨hwz, e0, e1, e2⟩ := f1'.out
      have hXX : Below WX.heap.size WX WX := Below.refl _ _
      have hA0 : ∀ (c : Array Value) (t : TypeId) (i : Nat), (WX.drew.alloc (.cells c t)).cell? ⟨WX.heap.size, i, none⟩ = c[i]? := fun c t i => World.cell?_alloc_new WX.drew c t i
      have hF0 : ∀ (c : Array Value) (t : TypeId) (i : Nat), (WX.drew.alloc (.cells c t)).frozen? ⟨WX.heap.size, i, none⟩ = false := fun c t i => by
        have := (show ∀ W : World, (W.alloc (.cells c t)).frozen? ⟨W.heap.size, i, none⟩ = false from fun W => by simp) WX.drew
        exact this
      go_region_held3 (fun A => (A.cell? ⟨w6.heap.size, 0, none⟩ = some (.int .i64 X.n) ∧ A.cell? ⟨w6.heap.size, 1, none⟩ = some (.int .u32 X.e) ∧ A.cell? ⟨w6.heap.size, 2, none⟩ = some (.int .i64 X.s) ∧ A.cell? ⟨w6.heap.size, 3, none⟩ = some (.slice a6 X.ts.length c6)) ∧ (A.cell? ⟨w.heap.size + 1, 0, none⟩ = some (.int .i64 k) ∧ A.cell? ⟨w.heap.size + 1, 1, none⟩ = some (.int .i64 m) ∧ A.cell? ⟨w.heap.size + 1, 2, none⟩ = some (.int .u32 y)) ∧ w.heap.size + 1 < A.heap.size)
        (exact ⟨⟨(s1'.out.below (by (repeat (first | exact Below.refl _ _ | assumption | refine bchain (by assumption) ?_ | refine balloc ?_ _ | apply Below.drew | apply below_drewN | (refine Below.alloc ?_ (by (try simp) <;> omega) _) | (refine Below.setCell ?_ (by (try simp) <;> omega) _))))).c0, (s1'.out.below (by (repeat (first | exact Below.refl _ _ | assumption | refine bchain (by assumption) ?_ | refine balloc ?_ _ | apply Below.drew | apply below_drewN | (refine Below.alloc ?_ (by (try simp) <;> omega) _) | (refine Below.setCell ?_ (by (try simp) <;> omega) _))))).c1, (s1'.out.below (by (repeat (first | exact Below.refl _ _ | assumption | refine bchain (by assumption) ?_ | refine balloc ?_ _ | apply Below.drew | apply below_drewN | (refine Below.alloc ?_ (by (try simp) <;> omega) _) | (refine Below.setCell ?_ (by (try simp) <;> omega) _))))).c2, (s1'.out.below (by (repeat (first | exact Below.refl _ _ | assumption | refine bchain (by assumption) ?_ | refine balloc ?_ _ | apply Below.drew | apply below_drewN | (refine Below.alloc ?_ (by (try simp) <;> omega) _) | (refine Below.setCell ?_ (by (try simp) <;> omega) _))))).c3⟩, ⟨(f1'.out.below (by (repeat (first | exact Below.refl _ _ | assumption | refine bchain (by assumption) ?_ | refine balloc ?_ _ | apply Below.drew | apply below_drewN | (refine Below.alloc ?_ (by (try simp) <;> omega) _) | (refine Below.setCell ?_ (by (try simp) <;> omega) _))))).c0, (f1'.out.below (by (repeat (first | exact Below.refl _ _ | assumption | refine bchain (by assumption) ?_ | refine balloc ?_ _ | apply Below.drew | apply below_drewN | (refine Below.alloc ?_ (by (try simp) <;> omega) _) | (refine Below.setCell ?_ (by (try simp) <;> omega) _))))).c1, (f1'.out.below (by (repeat (first | exact Below.refl _ _ | assumption | refine bchain (by assumption) ?_ | refine balloc ?_ _ | apply Below.drew | apply below_drewN | (refine Below.alloc ?_ (by (try simp) <;> omega) _) | (refine Below.setCell ?_ (by (try simp) <;> omega) _))))).c2⟩, (f1'.out.below (by (repeat (first | exact Below.refl _ _ | assumption | refine bchain (by assumption) ?_ | refine balloc ?_ _ | apply Below.drew | apply below_drewN | (refine Below.alloc ?_ (by (try simp) <;> omega) _) | (refine Below.setCell ?_ (by (try simp) <;> omega) _))))).lt⟩)
        (first
        | (go_at_call 15; with_reducible refine (hK.out _).mono ?_; rintro r8 w8 ⟨rfl, hb8⟩; have hk8 := keepAll hb8; have hf8 := keepFz hb8; have hz8 := keepLt hb8; have hs8 := hb8.size; try (simp at hs8); try (rw [Nat.add_one_le_iff] at hs8))
        | (go_at_call 38; with_reducible refine (hi.out _ _ (hU7.out.below (by (repeat (first | exact Below.refl _ _ | assumption | refine bchain (by assumption) ?_ | refine balloc ?_ _ | apply Below.drew | apply below_drewN | (refine Below.alloc ?_ (by (try simp) <;> omega) _) | (refine Below.setCell ?_ (by (try simp) <;> omega) _)))))).mono ?_; rintro r9 w9 ⟨rfl, hb9⟩; have hk9 := keepAll hb9; have hf9 := keepFz hb9; have hz9 := keepLt hb9; have hs9 := hb9.size; try (simp at hs9); try (rw [Nat.add_one_le_iff] at hs9)))
      all_goals (go_wp2_with fail; go_meet; exact ⟨_, rfl, rfl, by (repeat (first | exact Below.refl _ _ | assumption | refine bchain (by assumption) ?_ | refine balloc ?_ _ | apply Below.drew | apply below_drewN | (refine Below.alloc ?_ (by (try simp) <;> omega) _) | (refine Below.setCell ?_ (by (try simp) <;> omega) _))), by (try simp) <;> omega, by first | (simp; done) | exact (frTwo (a := .int .i64 0) (b := .int .i64 0) (by simp [*]) (by simp [*]) _ _).1, by first | (simp; done) | exact (frTwo (a := .int .i64 0) (b := .int .i64 0) (by simp [*]) (by simp [*]) _ _).2⟩)
    case rest =>
      obtain ⟨C, rfl, rfl, D9, hC2, g0, g1⟩ := hcut
      rename World => w9
      have b0 := (D9.cell (p := ⟨B, 0, none⟩) hB4).trans p0.out
      have b1 := (D9.cell (p := ⟨B, 1, none⟩) hB4).trans p1.out
      have d1 : (c != c) = false := by simp
      have d2 : (c == c) = true := by simp
      go_wp2_with fail
      refine (eqFrac_any _ P Q).mono ?_
      rintro r10 w10 ⟨rfl, hb10⟩
      have D10 : Below WX.heap.size WX w10 := bchain hb10 D9
      have s1' := Lib.hid (sX.below D10)
      have k1' := Lib.hid (k1.below (bchain D10 D7))
      have hBB := bchain (bchain D10 D7) hB0'.out
      obtain ⟨_, x0, x1, x2, x3, _⟩ := s1'.out
      obtain ⟨_, y0, y1, y2, y3, _⟩ := k1'.out
      have hU10 := Lib.hid (hU7.out.below D10)
      have D10' := Lib.hid D10
      have D7' := Lib.hid D7
      clear D9 hb10 g0 g1 b0 b1 D10 D7 hU7
      go_wp2_with fail
      go_region_held3 (fun A => (A.cell? ⟨w.heap.size, 0, none⟩ = some (.int .i64 X.n) ∧ A.cell? ⟨w.heap.size, 1, none⟩ = some (.int .u32 X.e) ∧ A.cell? ⟨w.heap.size, 2, none⟩ = some (.int .i64 X.s) ∧ A.cell? ⟨w.heap.size, 3, none⟩ = some (.slice a X.ts.length cap)) ∧ A.cell? ⟨w6.heap.size, 0, none⟩ = some (.int .i64 X.n) ∧ A.cell? ⟨w6.heap.size, 1, none⟩ = some (.int .u32 X.e) ∧ A.cell? ⟨w6.heap.size, 2, none⟩ = some (.int .i64 X.s) ∧ A.cell? ⟨w6.heap.size, 3, none⟩ = some (.slice a6 X.ts.length c6))
        (exact ⟨⟨(k1'.out.below (by (repeat (first | exact Below.refl _ _ | assumption | refine bchain (by assumption) ?_ | refine balloc ?_ _ | apply Below.drew | apply below_drewN | (refine Below.alloc ?_ (by (try simp) <;> omega) _) | (refine Below.setCell ?_ (by (try simp) <;> omega) _))))).c0, (k1'.out.below (by (repeat (first | exact Below.refl _ _ | assumption | refine bchain (by assumption) ?_ | refine balloc ?_ _ | apply Below.drew | apply below_drewN | (refine Below.alloc ?_ (by (try simp) <;> omega) _) | (refine Below.setCell ?_ (by (try simp) <;> omega) _))))).c1, (k1'.out.below (by (repeat (first | exact Below.refl _ _ | assumption | refine bchain (by assumption) ?_ | refine balloc ?_ _ | apply Below.drew | apply below_drewN | (refine Below.alloc ?_ (by (try simp) <;> omega) _) | (refine Below.setCell ?_ (by (try simp) <;> omega) _))))).c2, (k1'.out.below (by (repeat (first | exact Below.refl _ _ | assumption | refine bchain (by assumption) ?_ | refine balloc ?_ _ | apply Below.drew | apply below_drewN | (refine Below.alloc ?_ (by (try simp) <;> omega) _) | (refine Below.setCell ?_ (by (try simp) <;> omega) _))))).c3⟩, (s1'.out.below (by (repeat (first | exact Below.refl _ _ | assumption | refine bchain (by assumption) ?_ | refine balloc ?_ _ | apply Below.drew | apply below_drewN | (refine Below.alloc ?_ (by (try simp) <;> omega) _) | (refine Below.setCell ?_ (by (try simp) <;> omega) _))))).c0, (s1'.out.below (by (repeat (first | exact Below.refl _ _ | assumption | refine bchain (by assumption) ?_ | refine balloc ?_ _ | apply Below.drew | apply below_drewN | (refine Below.alloc ?_ (by (try simp) <;> omega) _) | (refine Below.setCell ?_ (by (try simp) <;> omega) _))))).c1, (s1'.out.below (by (repeat (first | exact Below.refl _ _ | assumption | refine bchain (by assumption) ?_ | refine balloc ?_ _ | apply Below.drew | apply below_drewN | (refine Below.alloc ?_ (by (try simp) <;> omega) _) | (refine Below.setCell ?_ (by (try simp) <;> omega) _))))).c2, (s1'.out.below (by (repeat (first | exact Below.refl _ _ | assumption | refine bchain (by assumption) ?_ | refine balloc ?_ _ | apply Below.drew | apply below_drewN | (refine Below.alloc ?_ (by (try simp) <;> omega) _) | (refine Below.setCell ?_ (by (try simp) <;> omega) _))))).c3⟩)
        (first
        | (go_at_call 25; with_reducible refine (hT.out _ hBB.drew).mono ?_; rintro r11 w11 ⟨⟨u11, rfl, hU11⟩, hb11⟩)
        | (go_at_call 27; with_reducible refine (hE.out _ _ _ (hU10.out.below (by (repeat (first | exact Below.refl _ _ | assumption | refine bchain (by assumption) ?_ | refine balloc ?_ _ | apply Below.drew | apply below_drewN | (refine Below.alloc ?_ (by (try simp) <;> omega) _) | (refine Below.setCell ?_ (by (try simp) <;> omega) _))))) hU11.sl).mono ?_; rintro r12 w12 ⟨rfl, hb12⟩))
      have Dz := bchain hb12 (bchain hb11 (Below.refl _ w10).drew)
      go_wp2
      go_ret
      exact ⟨rfl, bchain Dz hBB⟩
theorem walk (v : Value) (X : SM) (k m y : Int) (_hm : (Lit.int .i64 m).wf = true) (hy : (Lit.int .u32 y).wf = true) (w : World) (h : SumS w v X) (hb : BdS X) :
    Calls Try.prog 8 #[v, .agg #[.int .i64 k, .int .i64 m, .int .u32 y]] w fun r w' => r = .returned (.bool true) ∧ Below w.heap.size w w' := by
  rcases Nat.lt_or_ge 1048576 X.ts.length with c | c
  · exact walk_long v X k m y w h c
  · exact walk_short v X k m y w h hb (by have := (bounds_u32 hy).2; omega) (bounds_u32 hy).1 c
end CoefficientOfLaw
theorem CoefficientOfLaw.lifted (os : Os) (started : os.Started) (H : Type) (enc : TypeId × Value → H) :
    ReturnsInHanded {} Try.checked os 8 .any (Rows.fnExactCoefficientOfSpec.pre6 enc Try.prog Try.f8 Rows.fnExactCoefficientOfRow.domain false)
      (Rows.fnExactCoefficientOfSpec.post enc Try.prog Try.f8 false true false false) := by
  refine fr_lift (C := Try.checked) own started (by kernel_rfl) Try.func8 laid_out rfl (by kernel_rfl) (tb := 4) rfl Try.underlying4 ?hs
    (ChangeSpec.witness6 (enc := enc) (C := Try.checked) false ⟨#[], #[.agg #[.int .i64 0, .int .u32 0, .int .i64 0, .slice none 0 0], .agg #[.int .i64 0, .int .i64 0, .int .u32 0]], []⟩ 8 (by kernel_rfl) (by kernel_rfl) (by kernel_rfl) (by kernel_rfl)) ?_
  case hs =>
    intro ds h
    match ds, h with
    | [d0, d1], _ => rfl
  intro W base args ds p hval0 hA0 hlt hsz
  have hval : ∀ (j : Nat) t v, Try.f8.params[j]? = some t → args[j]? = some v → Value.okWide Try.prog W .any base t v := hval0
  have hA : DataW.TrodAll enc Try.prog W 0 (fun _ => true) true Try.f8.params.toList args.toList ds p := hA0
  rw [Try.params8] at hA hval
  obtain ⟨v0, vs0, d0, ds0, p0, q0, hargs, rfl, rfl, h0, r0⟩ := trodAll_cons hA
  obtain ⟨v1, vs1, d1, ds1, p1, q1, rfl, rfl, rfl, h1, r1⟩ := trodAll_cons r0
  obtain ⟨rfl, rfl, rfl⟩ := trodAll_nil r1
  obtain rfl : args = #[v0, v1] := by cases args; simp_all
  obtain ⟨x0, R0⟩ := open_lsum (hval 0 45 v0 rfl rfl) h0
  obtain ⟨k1, a1, b1, rfl, l1, w1, u1⟩ := open_lflag (hval 1 26 v1 rfl rfl) h1
  exact CoefficientOfLaw.walk v0 x0 k1 a1 b1 w1 u1 W R0.1 R0.2

theorem coefficientOf_holds : Rows.FnExactCoefficientOfSaid :=
  OpenClaim.holds_of_wide 8 Try.f8 rfl rfl rfl rfl rfl rfl rfl ⟨rfl, rfl, rfl, rfl, rfl⟩ rfl rfl rfl rfl rfl (by kernel_rfl) Try.func8 (by kernel_rfl)
    (of_decide_eq_true (by kernel_rfl)) (by unfold Func.isWrapper; rw [if_neg (of_decide_eq_false (by kernel_rfl))]; exact ⟨rfl, rfl⟩)
    (fun os started H enc _ => CoefficientOfLaw.lifted os started H enc)
#print axioms coefficientOf_holds
end Go.Proofs.Ytpobonomdfbanaa
