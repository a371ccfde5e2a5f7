/-
  FromSquares: the program's closure.
-/
import Derived.Test.YtdibcchhamapjacFrF
import Derived.Test.YtdibcchhamapjacFSc
import Derived.Test.YtdibcchhamapjacFAd
import Derived.Test.YtdibcchhamapjacFWh
namespace Go.Proofs.Ytdibcchhamapjac
open Go.RowKit
set_option maxRecDepth 100000
section
variable (w : World)
theorem zclo_any (i j : Nat) :
    Calls Try.prog 67 #[.int .i64 i, .int .i64 j] w fun r w' => r = .returned (.agg #[.int .i64 0, .int .i64 1]) ∧ Below w.heap.size w w' := by
  have hQ := Lib.hid (fun W n => whole_any W n)
  go_enter Try.func67, Try.ntmps67
  go_wp2_with fail
  refine (hQ.out _ 0).mono ?_
  rintro r1 w1 ⟨rfl, hb1⟩
  obtain ⟨hk1, hz1⟩ := bkeep hb1 w.heap.size (by simp)
  have hf1 := bkeepz hb1 w.heap.size (by simp)
  have g0 : w1.cell? ⟨w.heap.size, 0, none⟩ = some (.int .i64 0) := (hk1 0).trans (by simp [go_sem])
  have g1 : w1.cell? ⟨w.heap.size, 1, none⟩ = some (.int .i64 0) := (hk1 1).trans (by simp [go_sem])
  have h2 := twoCells g0 g1 (.int .i64 0) (.int .i64 1)
  go_wp2
  exact bodyPost_ret (v := .agg #[.int .i64 0, .int .i64 1]) (by simp [results, Try.results67, go_sem, h2.1, h2.2]) rfl ⟨rfl, by (repeat (first | exact Below.refl _ _ | assumption | refine bchain (by assumption) ?_ | refine balloc ?_ _ | apply Below.drew | apply below_drewN | (refine Below.alloc ?_ (by (try simp) <;> omega) _) | (refine Below.setCell ?_ (by (try simp) <;> omega) _)))⟩
theorem zmat_any (n : Nat) (hn : n ≤ 8) :
    Calls Try.prog 66 #[.int .i64 n, .func (.func 67) #[] #[]] w fun r w' => (∃ u, r = .returned u ∧ MR w.heap.size w' u n (gv n (fun _ _ => (0, 1)))) ∧ Below w.heap.size w w' := by
  refine (imatB_ok w 67 #[] (fun _ _ => by kernel_rfl) n hn (fun _ _ => (0, 1)) (fun W i j _ _ _ => zclo_any W i j)).mono ?_
  rintro r1 w1 ⟨rfl, hb1, h1, h2, h3, h4⟩
  refine ⟨⟨_, rfl, ?_⟩, hb1⟩
  by_cases c : n = 0
  · exact .inl ⟨c, some ⟨w.heap.size + 1, 0, none⟩, n, by rw [c], by omega⟩
  · exact .inr ⟨w.heap.size + 1, w.heap.size, rfl, hn, by omega, ⟨by omega, by omega⟩, by omega, by omega, h1, h3, h2⟩
/-- what a list of rows that fits holds -/
def Fits (n : Nat) (rs : List (List (Int × Int))) : Prop := rs.length = n ∧ ∀ i, i < n → (rAt rs i).length = n ∧ AllV (rAt rs i)
theorem row_at {ra : Option Addr} {rs : List (List (Int × Int))} {n k : Nat} (h : Rows w ra rs) (hf : Fits n rs) (hk : k < n) : ∃ b off a2 dc, ra = some ⟨b, off, none⟩ ∧ b < w.heap.size ∧ w.cell? ⟨b, off + k, none⟩ = some (.slice a2 n dc) ∧ Lies w a2 (rAt rs k) := by
  obtain ⟨b, off, e1, hlt, u, hu, hS⟩ := h k (by rw [hf.1]; exact hk)
  obtain ⟨a', cap, rfl, hL⟩ := hS.lies
  rw [(hf.2 k hk).1] at hu
  exact ⟨b, off, a', cap, e1, hlt, hu, hL⟩
theorem sqR_ok (a : Option Addr) (cap n : Nat) (xs : List (Int × Int)) (hn : xs.length = n) (hn8 : n ≤ 8) (hc : Lies w a xs) (hV : AllV xs) (ho : AllO n (oS xs)) :
    Calls Try.prog 60 #[.slice a n cap] w fun r w' => (∃ u, r = .returned u ∧ MR w.heap.size w' u n (gv n (gS xs))) ∧ Below w.heap.size w w' := by
  subst hn
  exact sq_ok w a cap xs hn8 hc hV ho
theorem sqR_pan (a : Option Addr) (cap n : Nat) (xs : List (Int × Int)) (hn : xs.length = n) (hn8 : n ≤ 8) (hc : Lies w a xs) (hV : AllV xs) (ho : ¬ AllO n (oS xs)) :
    Calls Try.prog 60 #[.slice a n cap] w fun r w' => r = tooBig ∧ Below w.heap.size w w' := by
  subst hn
  exact sq_pan w a cap xs hn8 hc hV (not_allO ho)
theorem scR_ok (b n : Nat) (g : Nat → Nat → Int × Int) (x y : Int) (u : Value) (h : MR b w u n (gv n g)) (hv : VS n g) (hn8 : n ≤ 8) (hy : VP (x, y)) (ho : AllO n (oO (scF (matL n g) (x, y)))) :
    Calls Try.prog 55 #[u, .agg #[.int .i64 x, .int .i64 y]] w fun r w' => (∃ u', r = .returned u' ∧ MR w.heap.size w' u' n (gv n (gO (scF (matL n g) (x, y))))) ∧ Below w.heap.size w w' := by
  obtain ⟨a, cap, e, hR⟩ := h.slm.rows
  subst e
  have hc := sc_ok w a cap (matL n g) (x, y) hR (hv.vm hn8) hy (by rw [matL_length]; exact ho)
  rw [matL_length] at hc ⊢
  exact hc
theorem scR_pan (b n : Nat) (g : Nat → Nat → Int × Int) (x y : Int) (u : Value) (h : MR b w u n (gv n g)) (hv : VS n g) (hn8 : n ≤ 8) (hy : VP (x, y)) (ho : ¬ AllO n (oO (scF (matL n g) (x, y)))) :
    Calls Try.prog 55 #[u, .agg #[.int .i64 x, .int .i64 y]] w fun r w' => r = tooBig ∧ Below w.heap.size w w' := by
  obtain ⟨a, cap, e, hR⟩ := h.slm.rows
  subst e
  exact sc_pan w a cap (matL n g) (x, y) hR (hv.vm hn8) hy (by rw [matL_length]; exact not_allO ho)
theorem adR_ok (b b' n : Nat) (g f : Nat → Nat → Int × Int) (u u' : Value) (h : MR b w u n (gv n g)) (h' : MR b' w u' n (gv n f)) (hv : VS n g) (hv' : VS n f) (hn8 : n ≤ 8) (ho : AllO n (oO (adF (matL n g) (matL n f)))) :
    Calls Try.prog 50 #[u, u'] w fun r w' => (∃ u', r = .returned u' ∧ MR w.heap.size w' u' n (gv n (gO (adF (matL n g) (matL n f))))) ∧ Below w.heap.size w w' := by
  obtain ⟨a, cap, e, hR⟩ := h.slm.rows
  obtain ⟨a', cap', e', hR'⟩ := h'.slm.rows
  subst e e'
  have hc := ad_ok w a cap a' cap' (matL n g) (matL n f) hR hR' (hv.vm hn8) (hv'.vm hn8) (by rw [matL_length, matL_length]) (by rw [matL_length]; exact ho)
  rw [matL_length] at hc ⊢
  rw [matL_length]
  exact hc
theorem adR_pan (b b' n : Nat) (g f : Nat → Nat → Int × Int) (u u' : Value) (h : MR b w u n (gv n g)) (h' : MR b' w u' n (gv n f)) (hv : VS n g) (hv' : VS n f) (hn8 : n ≤ 8) (ho : ¬ AllO n (oO (adF (matL n g) (matL n f)))) :
    Calls Try.prog 50 #[u, u'] w fun r w' => r = tooBig ∧ Below w.heap.size w w' := by
  obtain ⟨a, cap, e, hR⟩ := h.slm.rows
  obtain ⟨a', cap', e', hR'⟩ := h'.slm.rows
  subst e e'
  have hc := ad_pan w a cap a' cap' (matL n g) (matL n f) hR hR' (hv.vm hn8) (hv'.vm hn8) (by rw [matL_length, matL_length]) (by rw [matL_length]; exact not_allO ho)
  rw [matL_length] at hc ⊢
  rw [matL_length]
  exact hc
set_option maxHeartbeats 4000000 in
theorem fr1_any (pa ra : Option Addr) (pcap rcap n : Nat) (ps : List (Int × Int)) (rs : List (List (Int × Int))) (Pb Rb : Nat) (hP : w.cell? ⟨Pb, 0, none⟩ = some (.slice pa n pcap)) (hR : w.cell? ⟨Rb, 0, none⟩ = some (.slice ra n rcap)) (hn : ps.length = n) (hn8 : n ≤ 8) (hc : Lies w pa ps) (hV : AllV ps) (hr : Rows w ra rs) (hf : Fits n rs) :
    Calls Try.prog 65 #[.pointer (some ⟨Pb, 0, none⟩), .pointer (some ⟨Rb, 0, none⟩)] w fun r w' => ((∃ s u, FrS n ps rs n s ∧ r = .returned u ∧ MR w.heap.size w' u n (gv n s)) ∨ ((∀ s, ¬ FrS n ps rs n s) ∧ r = tooBig)) ∧ Below w.heap.size w w' := by
  have hZ := Lib.hid (fun W => zmat_any W n hn8)
  have lP := World.block_lt_of_cell? w _ hP
  have lR := World.block_lt_of_cell? w _ hR
  dsimp only at lP lR
  replace hc := Lib.hid hc
  replace hr := Lib.hid hr
  replace hf := Lib.hid hf
  replace hV := Lib.hid hV
  go_enter Try.func65, Try.ntmps65
  go_wp2_with fail
  refine (hZ.out _).mono ?_
  rintro r1 w1 ⟨⟨u1, rfl, hU⟩, hb1⟩
  have p1 := (hb1.cell (p := ⟨Pb, 0, none⟩) lP).trans hP
  replace hU := Lib.hid hU
  go_wp2
  go_loopw [3, 4, 5, 11] (fun u _ _ i wr => ∃ (k : Nat) (s : Nat → Nat → Int × Int), k ≤ n ∧ i = .int .i64 k ∧ FrS n ps rs k s ∧ Hid (MR w.heap.size wr u n (gv n s)) ∧ Below w.heap.size w wr) (fun _ _ _ i _ => n - (intOf i).toNat)
  case atStart => exact ⟨0, _, by omega, rfl, FrS.zero, hU.out, hb1⟩
  case round =>
    clear hU hb1 p1
    obtain ⟨k, s, hk, rfl, hs, hU, hb⟩ := hrel
    by_cases hlt : k < n
    · obtain ⟨B, off, rfl, hB, hg⟩ := hc.out k (by omega)
      obtain ⟨x, y, hxy⟩ : ∃ p q : Int, gAt ps k = (p, q) := ⟨_, _, rfl⟩
      have s0 : wr.cell? ⟨B, off + k * 2, none⟩ = some (.int .i64 x) := by rw [hb.cell (p := ⟨B, _, none⟩) hB, hg.1, hxy]
      have s1 : wr.cell? ⟨B, off + k * 2 + 1, none⟩ = some (.int .i64 y) := by rw [hb.cell (p := ⟨B, _, none⟩) hB, hg.2, hxy]
      have hkn : (k : Int) < (n : Int) := by omega
      have hk0 : (0 : Int) ≤ (k : Int) := by omega
      clear hg
      go_upto_region 5 with fail
      obtain ⟨B2, off2, a2, dc, rfl, hB2, hrow, hLk⟩ := row_at w hr.out hf.out hlt
      have hVk := Lib.hid (hf.out.2 k hlt).2
      have hlk := (hf.out.2 k hlt).1
      obtain ⟨wb, hwb⟩ : ∃ wb, wb = wr.alloc (.cells #[.int .i64 x, .int .i64 y] 36) := ⟨_, rfl⟩
      have hrb : Below wr.heap.size wr wb := by rw [hwb]; exact (Below.refl _ wr).alloc (Nat.le_refl _) _
      have hBb : Below w.heap.size w wb := hb.trans (hrb.mono hb.size)
      have zx : wr.heap.size < wb.heap.size := by rw [hwb]; simp
      have zR : Rb < wb.heap.size := Nat.lt_of_lt_of_le lR hBb.size
      have zB : B2 < wb.heap.size := Nat.lt_of_lt_of_le hB2 hBb.size
      have c0 := (hBb.cell (p := ⟨Rb, 0, none⟩) lR).trans hR
      have c1 := (hBb.cell (p := ⟨B2, _, none⟩) hB2).trans hrow
      have c2 : wb.cell? ⟨wr.heap.size, 0, none⟩ = some (.int .i64 x) := by rw [hwb]; simp
      have c3 : wb.cell? ⟨wr.heap.size, 1, none⟩ = some (.int .i64 y) := by rw [hwb]; simp
      have hvp : VP (x, y) := by rw [← hxy]; exact hV.out k (by omega)
      have hsv := FrS.vs hV.out hn hf.out.2 (by omega) hs
      have hLb := Lib.hid (hLk.below hBb)
      have hUb := Lib.hid (hU.out.below hrb)
      have hge : w.heap.size ≤ wb.heap.size := hBb.size
      have hET : Ending.panicked [{ v := .iface 110 (.agg #[]), recovered := false }] = tooBig := rfl
      replace hwb := Lib.hid hwb
      rw [← hwb.out]
      clear s0 s1 hrow hLk hU
      by_cases h1 : AllO n (oS (rAt rs k))
      · have hQ1 := Lib.hid (fun W (hbW : Below wb.heap.size wb W) => sqR_ok W a2 dc n (rAt rs k) hlk hn8 (hLb.out.below hbW) hVk.out h1)
        have hv1 := sq_vs hlk hVk.out h1
        by_cases h2 : AllO n (oO (scF (matL n (gS (rAt rs k))) (x, y)))
        · have hQ2 := Lib.hid (fun W b u (h : MR b W u n (gv n (gS (rAt rs k)))) => scR_ok W b n (gS (rAt rs k)) x y u h hv1 hn8 hvp h2)
          have hv2 := sc_vs hv1 hvp h2
          have hsq : sqG n ps rs k = gO (scF (matL n (gS (rAt rs k))) (x, y)) := by unfold sqG; rw [hxy]
          by_cases h3 : AllO n (oO (adF (matL n s) (matL n (gO (scF (matL n (gS (rAt rs k))) (x, y))))))
          · have hQ3 := Lib.hid (fun W b b' u u' (h : MR b W u n (gv n s)) (h' : MR b' W u' n (gv n (gO (scF (matL n (gS (rAt rs k))) (x, y))))) => adR_ok W b b' n s _ u u' h h' hsv hv2 hn8 h3)
            have hnext : FrS n ps rs (k + 1) (gO (adF (matL n s) (matL n (gO (scF (matL n (gS (rAt rs k))) (x, y)))))) := by
              rw [← hsq]
              exact FrS.succ hs h1 (by rw [hxy]; exact h2) (by rw [hsq]; exact h3)
            replace hnext := Lib.hid hnext
            clear h1 h2 h3 hv1 hv2 hsq hsv hs hvp hxy
            go_region_held3 (fun W => W.cell? ⟨Rb, 0, none⟩ = some (.slice (some ⟨B2, off2, none⟩) n rcap) ∧ W.cell? ⟨B2, off2 + k, none⟩ = some (.slice a2 n dc) ∧ W.cell? ⟨wr.heap.size, 0, none⟩ = some (.int .i64 x) ∧ W.cell? ⟨wr.heap.size, 1, none⟩ = some (.int .i64 y))
              (exact ⟨old_cell zR c0 (by (repeat (first | exact Below.refl _ _ | assumption | refine bchain (by assumption) ?_ | refine balloc ?_ _ | apply Below.drew | apply below_drewN | (refine Below.alloc ?_ (by (try simp) <;> omega) _) | (refine Below.setCell ?_ (by (try simp) <;> omega) _)))), old_cell zB c1 (by (repeat (first | exact Below.refl _ _ | assumption | refine bchain (by assumption) ?_ | refine balloc ?_ _ | apply Below.drew | apply below_drewN | (refine Below.alloc ?_ (by (try simp) <;> omega) _) | (refine Below.setCell ?_ (by (try simp) <;> omega) _)))), old_cell zx c2 (by (repeat (first | exact Below.refl _ _ | assumption | refine bchain (by assumption) ?_ | refine balloc ?_ _ | apply Below.drew | apply below_drewN | (refine Below.alloc ?_ (by (try simp) <;> omega) _) | (refine Below.setCell ?_ (by (try simp) <;> omega) _)))), old_cell zx c3 (by (repeat (first | exact Below.refl _ _ | assumption | refine bchain (by assumption) ?_ | refine balloc ?_ _ | apply Below.drew | apply below_drewN | (refine Below.alloc ?_ (by (try simp) <;> omega) _) | (refine Below.setCell ?_ (by (try simp) <;> omega) _))))⟩)
              (first | (go_at_call 60; refine (hQ1.out _ (by (repeat (first | exact Below.refl _ _ | assumption | refine bchain (by assumption) ?_ | refine balloc ?_ _ | apply Below.drew | apply below_drewN | (refine Below.alloc ?_ (by (try simp) <;> omega) _) | (refine Below.setCell ?_ (by (try simp) <;> omega) _))))).mono ?_; rintro r3 w3 ⟨⟨u4, rfl, hm3⟩, hb3⟩; replace hm3 := Lib.hid hm3) | (go_at_call 55; refine (hQ2.out _ _ _ (hm3.out.below (by (repeat (first | exact Below.refl _ _ | assumption | refine bchain (by assumption) ?_ | refine balloc ?_ _ | apply Below.drew | apply below_drewN | (refine Below.alloc ?_ (by (try simp) <;> omega) _) | (refine Below.setCell ?_ (by (try simp) <;> omega) _)))))).mono ?_; rintro r4 w4 ⟨⟨u5, rfl, hm4⟩, hb4⟩; replace hm4 := Lib.hid hm4) | (go_at_call 50; refine (hQ3.out _ _ _ _ _ (hUb.out.below (by (repeat (first | exact Below.refl _ _ | assumption | refine bchain (by assumption) ?_ | refine balloc ?_ _ | apply Below.drew | apply below_drewN | (refine Below.alloc ?_ (by (try simp) <;> omega) _) | (refine Below.setCell ?_ (by (try simp) <;> omega) _))))) (hm4.out.below (by (repeat (first | exact Below.refl _ _ | assumption | refine bchain (by assumption) ?_ | refine balloc ?_ _ | apply Below.drew | apply below_drewN | (refine Below.alloc ?_ (by (try simp) <;> omega) _) | (refine Below.setCell ?_ (by (try simp) <;> omega) _)))))).mono ?_; rintro r5 w5 ⟨⟨u6, rfl, hm5⟩, hb5⟩; replace hm5 := Lib.hid hm5))
            have hB5 : Below w.heap.size w w5 := by (repeat (first | exact Below.refl _ _ | assumption | refine bchain (by assumption) ?_ | refine balloc ?_ _ | apply Below.drew | apply below_drewN | (refine Below.alloc ?_ (by (try simp) <;> omega) _) | (refine Below.setCell ?_ (by (try simp) <;> omega) _)))
            have hm6 := Lib.hid (hm5.out.le (b1 := w.heap.size) (by have h3 := hb3.size; have h4 := hb4.size; simp at h3 h4 ⊢; omega))
            clear hm3 hm4 hm5 hb3 hb4 hb5
            go_wp2
            go_roundw
            case rel => exact ⟨k + 1, _, by omega, by go_num, hnext.out, hm6.out, hB5⟩
            case measure => simp [intOf]; omega
          · have hQ3 := Lib.hid (fun W b b' u u' (h : MR b W u n (gv n s)) (h' : MR b' W u' n (gv n (gO (scF (matL n (gS (rAt rs k))) (x, y))))) => adR_pan W b b' n s _ u u' h h' hsv hv2 hn8 h3)
            have hno : Hid (∀ s, ¬ FrS n ps rs n s) := FrS.stop (k := k) (fun t ht => by
              obtain ⟨t', ht', _, _, h3'⟩ := ht.prev
              rw [FrS.uniq ht' hs, hsq] at h3'
              exact h3 h3') n hlt
            clear h1 h2 h3 hv1 hv2 hsq hsv hs hvp hxy
            unfold tooBig at hQ3
            go_region_held2 (fun W => W.cell? ⟨Rb, 0, none⟩ = some (.slice (some ⟨B2, off2, none⟩) n rcap) ∧ W.cell? ⟨B2, off2 + k, none⟩ = some (.slice a2 n dc) ∧ W.cell? ⟨wr.heap.size, 0, none⟩ = some (.int .i64 x) ∧ W.cell? ⟨wr.heap.size, 1, none⟩ = some (.int .i64 y))
              (first | exact (Hid.out (p := False) (by assumption)).elim | exact ⟨old_cell zR c0 (by (repeat (first | exact Below.refl _ _ | assumption | refine bchain (by assumption) ?_ | refine balloc ?_ _ | apply Below.drew | apply below_drewN | (refine Below.alloc ?_ (by (try simp) <;> omega) _) | (refine Below.setCell ?_ (by (try simp) <;> omega) _)))), old_cell zB c1 (by (repeat (first | exact Below.refl _ _ | assumption | refine bchain (by assumption) ?_ | refine balloc ?_ _ | apply Below.drew | apply below_drewN | (refine Below.alloc ?_ (by (try simp) <;> omega) _) | (refine Below.setCell ?_ (by (try simp) <;> omega) _)))), old_cell zx c2 (by (repeat (first | exact Below.refl _ _ | assumption | refine bchain (by assumption) ?_ | refine balloc ?_ _ | apply Below.drew | apply below_drewN | (refine Below.alloc ?_ (by (try simp) <;> omega) _) | (refine Below.setCell ?_ (by (try simp) <;> omega) _)))), old_cell zx c3 (by (repeat (first | exact Below.refl _ _ | assumption | refine bchain (by assumption) ?_ | refine balloc ?_ _ | apply Below.drew | apply below_drewN | (refine Below.alloc ?_ (by (try simp) <;> omega) _) | (refine Below.setCell ?_ (by (try simp) <;> omega) _))))⟩)
              (first | (go_at_call 60; refine (hQ1.out _ (by (repeat (first | exact Below.refl _ _ | assumption | refine bchain (by assumption) ?_ | refine balloc ?_ _ | apply Below.drew | apply below_drewN | (refine Below.alloc ?_ (by (try simp) <;> omega) _) | (refine Below.setCell ?_ (by (try simp) <;> omega) _))))).mono ?_; rintro r3 w3 ⟨⟨u4, rfl, hm3⟩, hb3⟩; replace hm3 := Lib.hid hm3) | (go_at_call 55; refine (hQ2.out _ _ _ (hm3.out.below (by (repeat (first | exact Below.refl _ _ | assumption | refine bchain (by assumption) ?_ | refine balloc ?_ _ | apply Below.drew | apply below_drewN | (refine Below.alloc ?_ (by (try simp) <;> omega) _) | (refine Below.setCell ?_ (by (try simp) <;> omega) _)))))).mono ?_; rintro r4 w4 ⟨⟨u5, rfl, hm4⟩, hb4⟩; replace hm4 := Lib.hid hm4) | (go_at_call 50; refine Or.elim (Classical.em (Hid False)) (fun hf => ?_) (fun _ => panicM_call (hQ3.out _ _ _ _ _ (hUb.out.below (by (repeat (first | exact Below.refl _ _ | assumption | refine bchain (by assumption) ?_ | refine balloc ?_ _ | apply Below.drew | apply below_drewN | (refine Below.alloc ?_ (by (try simp) <;> omega) _) | (refine Below.setCell ?_ (by (try simp) <;> omega) _))))) (hm4.out.below (by (repeat (first | exact Below.refl _ _ | assumption | refine bchain (by assumption) ?_ | refine balloc ?_ _ | apply Below.drew | apply below_drewN | (refine Below.alloc ?_ (by (try simp) <;> omega) _) | (refine Below.setCell ?_ (by (try simp) <;> omega) _)))))) (fun w9 hb9 => ⟨rfl, .inr ⟨hno.out, hET⟩, by (repeat (first | exact Below.refl _ _ | assumption | refine bchain (by assumption) ?_ | refine balloc ?_ _ | apply Below.drew | apply below_drewN | (refine Below.alloc ?_ (by (try simp) <;> omega) _) | (refine Below.setCell ?_ (by (try simp) <;> omega) _)))⟩)); refine fakeM_call (v := .slice none 0 0) (by assumption) ?_))
            all_goals exact (Hid.out (p := False) (by assumption)).elim
        · have hQ2 := Lib.hid (fun W b u (h : MR b W u n (gv n (gS (rAt rs k)))) => scR_pan W b n (gS (rAt rs k)) x y u h hv1 hn8 hvp h2)
          have hno : Hid (∀ s, ¬ FrS n ps rs n s) := FrS.stop (k := k) (fun t ht => by
            obtain ⟨t', ht', _, h2', _⟩ := ht.prev
            rw [hxy] at h2'
            exact h2 h2') n hlt
          clear h1 h2 hv1 hsv hs hvp hxy
          unfold tooBig at hQ2
          go_region_held2 (fun W => W.cell? ⟨Rb, 0, none⟩ = some (.slice (some ⟨B2, off2, none⟩) n rcap) ∧ W.cell? ⟨B2, off2 + k, none⟩ = some (.slice a2 n dc) ∧ W.cell? ⟨wr.heap.size, 0, none⟩ = some (.int .i64 x) ∧ W.cell? ⟨wr.heap.size, 1, none⟩ = some (.int .i64 y))
            (first | exact (Hid.out (p := False) (by assumption)).elim | exact ⟨old_cell zR c0 (by (repeat (first | exact Below.refl _ _ | assumption | refine bchain (by assumption) ?_ | refine balloc ?_ _ | apply Below.drew | apply below_drewN | (refine Below.alloc ?_ (by (try simp) <;> omega) _) | (refine Below.setCell ?_ (by (try simp) <;> omega) _)))), old_cell zB c1 (by (repeat (first | exact Below.refl _ _ | assumption | refine bchain (by assumption) ?_ | refine balloc ?_ _ | apply Below.drew | apply below_drewN | (refine Below.alloc ?_ (by (try simp) <;> omega) _) | (refine Below.setCell ?_ (by (try simp) <;> omega) _)))), old_cell zx c2 (by (repeat (first | exact Below.refl _ _ | assumption | refine bchain (by assumption) ?_ | refine balloc ?_ _ | apply Below.drew | apply below_drewN | (refine Below.alloc ?_ (by (try simp) <;> omega) _) | (refine Below.setCell ?_ (by (try simp) <;> omega) _)))), old_cell zx c3 (by (repeat (first | exact Below.refl _ _ | assumption | refine bchain (by assumption) ?_ | refine balloc ?_ _ | apply Below.drew | apply below_drewN | (refine Below.alloc ?_ (by (try simp) <;> omega) _) | (refine Below.setCell ?_ (by (try simp) <;> omega) _))))⟩)
            (first | (go_at_call 60; refine (hQ1.out _ (by (repeat (first | exact Below.refl _ _ | assumption | refine bchain (by assumption) ?_ | refine balloc ?_ _ | apply Below.drew | apply below_drewN | (refine Below.alloc ?_ (by (try simp) <;> omega) _) | (refine Below.setCell ?_ (by (try simp) <;> omega) _))))).mono ?_; rintro r3 w3 ⟨⟨u4, rfl, hm3⟩, hb3⟩; replace hm3 := Lib.hid hm3) | (go_at_call 55; refine Or.elim (Classical.em (Hid False)) (fun hf => ?_) (fun _ => panicM_call (hQ2.out _ _ _ (hm3.out.below (by (repeat (first | exact Below.refl _ _ | assumption | refine bchain (by assumption) ?_ | refine balloc ?_ _ | apply Below.drew | apply below_drewN | (refine Below.alloc ?_ (by (try simp) <;> omega) _) | (refine Below.setCell ?_ (by (try simp) <;> omega) _)))))) (fun w9 hb9 => ⟨rfl, .inr ⟨hno.out, hET⟩, by (repeat (first | exact Below.refl _ _ | assumption | refine bchain (by assumption) ?_ | refine balloc ?_ _ | apply Below.drew | apply below_drewN | (refine Below.alloc ?_ (by (try simp) <;> omega) _) | (refine Below.setCell ?_ (by (try simp) <;> omega) _)))⟩)); refine fakeM_call (v := .slice none 0 0) (by assumption) ?_) | (refine fakeM_call (v := .slice none 0 0) (by assumption) ?_))
          all_goals exact (Hid.out (p := False) (by assumption)).elim
      · have hQ1 := Lib.hid (fun W (hbW : Below wb.heap.size wb W) => sqR_pan W a2 dc n (rAt rs k) hlk hn8 (hLb.out.below hbW) hVk.out h1)
        have hno : Hid (∀ s, ¬ FrS n ps rs n s) := FrS.stop (k := k) (fun t ht => by
          obtain ⟨t', ht', h1', _, _⟩ := ht.prev
          exact h1 h1') n hlt
        clear h1 hsv hs hvp hxy
        unfold tooBig at hQ1
        go_region_held2 (fun W => W.cell? ⟨Rb, 0, none⟩ = some (.slice (some ⟨B2, off2, none⟩) n rcap) ∧ W.cell? ⟨B2, off2 + k, none⟩ = some (.slice a2 n dc) ∧ W.cell? ⟨wr.heap.size, 0, none⟩ = some (.int .i64 x) ∧ W.cell? ⟨wr.heap.size, 1, none⟩ = some (.int .i64 y))
          (first | exact (Hid.out (p := False) (by assumption)).elim | exact ⟨old_cell zR c0 (by (repeat (first | exact Below.refl _ _ | assumption | refine bchain (by assumption) ?_ | refine balloc ?_ _ | apply Below.drew | apply below_drewN | (refine Below.alloc ?_ (by (try simp) <;> omega) _) | (refine Below.setCell ?_ (by (try simp) <;> omega) _)))), old_cell zB c1 (by (repeat (first | exact Below.refl _ _ | assumption | refine bchain (by assumption) ?_ | refine balloc ?_ _ | apply Below.drew | apply below_drewN | (refine Below.alloc ?_ (by (try simp) <;> omega) _) | (refine Below.setCell ?_ (by (try simp) <;> omega) _)))), old_cell zx c2 (by (repeat (first | exact Below.refl _ _ | assumption | refine bchain (by assumption) ?_ | refine balloc ?_ _ | apply Below.drew | apply below_drewN | (refine Below.alloc ?_ (by (try simp) <;> omega) _) | (refine Below.setCell ?_ (by (try simp) <;> omega) _)))), old_cell zx c3 (by (repeat (first | exact Below.refl _ _ | assumption | refine bchain (by assumption) ?_ | refine balloc ?_ _ | apply Below.drew | apply below_drewN | (refine Below.alloc ?_ (by (try simp) <;> omega) _) | (refine Below.setCell ?_ (by (try simp) <;> omega) _))))⟩)
          (first | (go_at_call 60; refine Or.elim (Classical.em (Hid False)) (fun hf => ?_) (fun _ => panicM_call (hQ1.out _ (by (repeat (first | exact Below.refl _ _ | assumption | refine bchain (by assumption) ?_ | refine balloc ?_ _ | apply Below.drew | apply below_drewN | (refine Below.alloc ?_ (by (try simp) <;> omega) _) | (refine Below.setCell ?_ (by (try simp) <;> omega) _))))) (fun w9 hb9 => ⟨rfl, .inr ⟨hno.out, hET⟩, by (repeat (first | exact Below.refl _ _ | assumption | refine bchain (by assumption) ?_ | refine balloc ?_ _ | apply Below.drew | apply below_drewN | (refine Below.alloc ?_ (by (try simp) <;> omega) _) | (refine Below.setCell ?_ (by (try simp) <;> omega) _)))⟩)); refine fakeM_call (v := .slice none 0 0) (by assumption) ?_) | (refine fakeM_call (v := .slice none 0 0) (by assumption) ?_))
        all_goals exact (Hid.out (p := False) (by assumption)).elim
    · obtain rfl : k = n := by omega
      have hd := decide_eq_false (show ¬ ((k : Int) < (k : Int)) by omega)
      go_wp2
      go_ret
      exact ⟨.inl ⟨s, _, hs, rfl, hU.out⟩, hb⟩
end
end Go.Proofs.Ytdibcchhamapjac
