/-
  ReadGraph: the program's readPair.
-/
import Derived.Test.YtkmlgoklmmbmjaaDoorWg
import Derived.Test.YtkmlgoklmmbmjaaDoorRfI
namespace Go.Proofs.YtkmlgoklmmbmjaaDoor
open Go.RowKit
set_option maxRecDepth 100000
attribute [local go_sem] Oper.semAt_some
/-- what is read off a pair's word -/
def RpP (u : List UInt8) (r : Ending) : Prop := ∃ x y b, r = .returned (.tuple #[.agg #[.int .i64 x, .int .i64 y], .bool b]) ∧ ∀ p : Nat × Nat, p.1 < 1000000 → p.2 < 1000000 → u = pWord p → x = p.1 ∧ y = p.2 ∧ b = true
theorem rpP_bad {u : List UInt8} (h : ∀ p : Nat × Nat, p.1 < 1000000 → p.2 < 1000000 → u ≠ pWord p) : RpP u (.returned (.tuple #[.agg #[.int .i64 0, .int .i64 0], .bool false])) := ⟨0, 0, false, rfl, fun p h1 h2 e => absurd e (h p h1 h2)⟩
section
variable (w : World)
set_option maxHeartbeats 2000000 in
theorem irp_any (l : List UInt8) (hl : l.length ≤ 2000000) (hL : LibW w) :
    Calls Tryd.prog 66 #[.string (tx l)] w fun r w' => RpP l r ∧ Below w.heap.size w w' := by
  have hC := Lib.hid (fun W (h : Below w.heap.size w W) => cut_any W l 45 hl (hL.below h))
  obtain ⟨x, hx⟩ : ∃ x, (Lib.cut l [45]).1 = x := ⟨_, rfl⟩
  obtain ⟨y, hy⟩ : ∃ y, (Lib.cut l [45]).2.1 = y := ⟨_, rfl⟩
  obtain ⟨b, hb⟩ : ∃ b, (Lib.cut l [45]).2.2 = b := ⟨_, rfl⟩
  have hxl : x.length ≤ 2000000 ∧ y.length ≤ 2000000 := by
    rw [← hx, ← hy]
    unfold Lib.cut
    split
    · simp; omega
    · simp; omega
  have hrd := Lib.hid (fun (p : Nat × Nat) (e : l = pWord p) => show x = Lib.decDigits p.1 ∧ y = Lib.decDigits p.2 ∧ b = true by
    have h := cut_p p
    rw [← e] at h
    rw [← hx, ← hy, ← hb, h]
    exact ⟨rfl, rfl, rfl⟩)
  rw [hx, hy, hb] at hC
  have hP1 := Lib.hid (fun W (h : Below w.heap.size w W) => pi_any W x hxl.1 (hL.below h))
  have hP2 := Lib.hid (fun W (h : Below w.heap.size w W) => pi_any W y hxl.2 (hL.below h))
  have e45 : ({ data := #[45] } : ByteArray) = tx [45] := rfl
  have hfb0 := FxB.made w 0 0 67
  have hB0 : Below w.heap.size w (w.alloc (.cells #[.int .i64 0, .int .i64 0] 67)) := by (repeat (first | exact Below.refl _ _ | assumption | refine bchain (by assumption) ?_ | refine balloc ?_ _ | apply Below.drew | apply below_drewN | (refine Below.alloc ?_ (by (try simp) <;> omega) _) | (refine Below.setCell ?_ (by (try simp) <;> omega) _)))
  obtain ⟨W0, hW0⟩ : ∃ W0, W0 = w.alloc (.cells #[.int .i64 0, .int .i64 0] 67) := ⟨_, rfl⟩
  rw [← hW0] at hfb0 hB0
  replace hW0 := Lib.hid hW0
  obtain ⟨s, hs⟩ : ∃ s, tx l = s := ⟨_, rfl⟩
  rw [hs] at hC ⊢
  obtain ⟨sx, hsx⟩ : ∃ s, tx x = s := ⟨_, rfl⟩
  obtain ⟨sy, hsy⟩ : ∃ s, tx y = s := ⟨_, rfl⟩
  rw [hsx] at hC hP1
  rw [hsy] at hC hP2
  clear hL hx hy hb hs hsx hsy
  have hfb0' := Lib.hid hfb0
  clear hfb0
  go_enter Tryd.func66, Tryd.ntmps66
  rw [e45]
  go_wp2_with fail
  rw [← hW0.out]
  go_wp2_with fail
  refine (hC.out _ hB0).mono ?_
  rintro r1 w1 ⟨rfl, hb1⟩
  have hfb1 := hfb0'.out.below hb1
  have hB1 := bchain hb1 hB0
  clear hb1
  have hfb1' := Lib.hid hfb1
  obtain ⟨_, k0, k1, k2⟩ := hfb1
  have k20 := k2 0
  have k21 := k2 1
  clear k2
  cases b
  · have hbad := Lib.hid (rpP_bad (fun p _ _ e => by have := (hrd.out p e).2.2; cases this))
    go_wp2
    have hG := (hfb1'.out).put (0) (0)
    have hBB := ((hB1).setCell (p := ⟨w.heap.size, 0, none⟩) (Nat.le_refl _) (.int .i64 (0))).setCell (p := ⟨w.heap.size, 1, none⟩) (Nat.le_refl _) (.int .i64 (0))
    obtain ⟨WW, hWW⟩ : ∃ WW, WW = ((w1).setCell ⟨w.heap.size, 0, none⟩ (.int .i64 (0))).setCell ⟨w.heap.size, 1, none⟩ (.int .i64 (0)) := ⟨_, rfl⟩
    rw [← hWW] at hG hBB ⊢
    clear hWW
    obtain ⟨_, F0, F1, _⟩ := hG
    exact bodyPost_ret (v := .tuple #[.agg #[.int .i64 (0), .int .i64 (0)], .bool false]) (by simp [results, Tryd.results66, go_sem, F0, F1]) rfl ⟨hbad.out, hBB⟩
  clear k0 k1 k20 k21
  go_wp2_with fail
  refine (hP1.out _ hB1).mono ?_
  rintro r2 w2 ⟨⟨v, ev, rfl, hpr⟩, hb2⟩
  have hfb2 := hfb1'.out.below hb2
  have hB2 := bchain hb2 hB1
  clear hb2
  have hfb2' := Lib.hid hfb2
  obtain ⟨_, k0, k1, k2⟩ := hfb2
  have k20 := k2 0
  have k21 := k2 1
  clear k2
  rcases hpr with ⟨rfl, hok⟩ | ⟨⟨t, p0, rfl⟩, hno⟩
  rotate_left
  · have hbad := Lib.hid (rpP_bad (fun p h1 h2 e => by
      have h := (hrd.out p e).1
      subst h
      exact hno _ (parse_dec p.1 (by omega))))
    clear hno
    go_wp2
    have hG := (hfb2'.out).put (0) (0)
    have hBB := ((hB2).setCell (p := ⟨w.heap.size, 0, none⟩) (Nat.le_refl _) (.int .i64 (0))).setCell (p := ⟨w.heap.size, 1, none⟩) (Nat.le_refl _) (.int .i64 (0))
    obtain ⟨WW, hWW⟩ : ∃ WW, WW = ((w2).setCell ⟨w.heap.size, 0, none⟩ (.int .i64 (0))).setCell ⟨w.heap.size, 1, none⟩ (.int .i64 (0)) := ⟨_, rfl⟩
    rw [← hWW] at hG hBB ⊢
    clear hWW
    obtain ⟨_, F0, F1, _⟩ := hG
    exact bodyPost_ret (v := .tuple #[.agg #[.int .i64 (0), .int .i64 (0)], .bool false]) (by simp [results, Tryd.results66, go_sem, F0, F1]) rfl ⟨hbad.out, hBB⟩
  clear k0 k1 k20 k21
  replace hok := Lib.hid hok
  go_wp2_with fail
  refine (hP2.out _ hB2).mono ?_
  rintro r3 w3 ⟨⟨v2, ev2, rfl, hpr2⟩, hb3⟩
  have hfb3 := hfb2'.out.below hb3
  have hB3 := bchain hb3 hB2
  clear hb3
  have hfb3' := Lib.hid hfb3
  obtain ⟨_, k0, k1, k2⟩ := hfb3
  have k20 := k2 0
  have k21 := k2 1
  clear k2
  rcases hpr2 with ⟨rfl, hok2⟩ | ⟨⟨t, p0, rfl⟩, hno⟩
  rotate_left
  · have hbad := Lib.hid (rpP_bad (fun p h1 h2 e => by
      have h := (hrd.out p e).2.1
      subst h
      exact hno _ (parse_dec p.2 (by omega))))
    clear hno
    go_wp2
    have hG := (hfb3'.out).put (0) (0)
    have hBB := ((hB3).setCell (p := ⟨w.heap.size, 0, none⟩) (Nat.le_refl _) (.int .i64 (0))).setCell (p := ⟨w.heap.size, 1, none⟩) (Nat.le_refl _) (.int .i64 (0))
    obtain ⟨WW, hWW⟩ : ∃ WW, WW = ((w3).setCell ⟨w.heap.size, 0, none⟩ (.int .i64 (0))).setCell ⟨w.heap.size, 1, none⟩ (.int .i64 (0)) := ⟨_, rfl⟩
    rw [← hWW] at hG hBB ⊢
    clear hWW
    obtain ⟨_, F0, F1, _⟩ := hG
    exact bodyPost_ret (v := .tuple #[.agg #[.int .i64 (0), .int .i64 (0)], .bool false]) (by simp [results, Tryd.results66, go_sem, F0, F1]) rfl ⟨hbad.out, hBB⟩
  have hR : Hid (RpP l (.returned (.tuple #[.agg #[.int .i64 v, .int .i64 v2], .bool true]))) := ⟨v, v2, true, rfl, fun p h1 h2 e => by
    obtain ⟨f1, f2, _⟩ := hrd.out p e
    have g1 := hok.out
    have g2 := hok2
    rw [f1, parse_dec p.1 (by omega)] at g1
    rw [f2, parse_dec p.2 (by omega)] at g2
    exact ⟨(Lib.NumEnd.ok.inj g1).symm, (Lib.NumEnd.ok.inj g2).symm, rfl⟩⟩
  clear hok2
  go_wp2
  have hG := (hfb3'.out).put (v) (v2)
  have hBB := ((hB3).setCell (p := ⟨w.heap.size, 0, none⟩) (Nat.le_refl _) (.int .i64 (v))).setCell (p := ⟨w.heap.size, 1, none⟩) (Nat.le_refl _) (.int .i64 (v2))
  obtain ⟨WW, hWW⟩ : ∃ WW, WW = ((w3).setCell ⟨w.heap.size, 0, none⟩ (.int .i64 (v))).setCell ⟨w.heap.size, 1, none⟩ (.int .i64 (v2)) := ⟨_, rfl⟩
  rw [← hWW] at hG hBB ⊢
  clear hWW
  obtain ⟨_, F0, F1, _⟩ := hG
  exact bodyPost_ret (v := .tuple #[.agg #[.int .i64 (v), .int .i64 (v2)], .bool true]) (by simp [results, Tryd.results66, go_sem, F0, F1]) rfl ⟨hR.out, hBB⟩
end
end Go.Proofs.YtkmlgoklmmbmjaaDoor
