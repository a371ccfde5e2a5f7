/-
  THE LEAST GRAPH THAT IS ALIKE: the model's contract.
-/
import Derived.Test.YtepbekhlpbnpkaaDoorFirst
import Derived.Test.YtepbekhlpbnpkaaDoorLeast
import Derived.Deep.LoopGhost
namespace Go.Proofs.YtepbekhlpbnpkaaDoor
open Go.RowKit Go.Shelf
set_option maxRecDepth 100000

theorem OwnI.congr {w0 w : World} {v : Value} {l : Nat} {f g : Nat → Int} (h : OwnI w0 w v l f) (hg : ∀ i, i < l → g i = f i) : OwnI w0 w v l g := by
  obtain ⟨a, cap, e, h1, h2, h3⟩ := h
  exact ⟨a, cap, e, h1, h2, fun hz => by obtain ⟨B, e2, h4, h5, h6, h7⟩ := h3 hz; exact ⟨B, e2, h4, h5, h6.congr hg, h7⟩⟩
theorem lst_lf {x : List Nat} {k : Nat} (h : x.length = k) : lst k (lf x) = zl x := by
  apply List.ext_getElem
  · rw [lst_length, zl_length, h]
  · intro i h1 h2
    rw [lst_length] at h1
    simp only [lst, lf, zl, List.getElem_map, List.getElem_range]
    rw [List.getElem?_eq_getElem (by omega)]
    rfl
theorem OwnI.see {w0 w : World} {v : Value} {k : Nat} {x : List Nat} (h : OwnI w0 w v k (lf x)) (hx : x.length = k) : See x v w := by
  have := h.sl
  rw [lst_lf hx] at this
  exact this
theorem lf_range (n i : Nat) (h : i < n) : lf (List.range n) i = (i : Int) := by
  unfold lf
  rw [List.getElem?_range h]
  rfl

/-- a store before the list's block -/
theorem OwnI.sets {w0 w : World} {v : Value} {l : Nat} {f : Nat → Int} (h : OwnI w0 w v l f) {p : Addr} {u : Value} (hp : p.block < w0.heap.size) : OwnI w0 (w.setCell p u) v l f := by
  obtain ⟨a, cap, e, h1, h2, h3⟩ := h
  exact ⟨a, cap, e, h1, h2, fun hz => by
    obtain ⟨B, e2, h4, h5, h6, h7⟩ := h3 hz
    refine ⟨B, e2, h4, by simpa using h5, fun i hi => (World.cell?_setCell_other _ _ _ _ (by rintro rfl; exact absurd hp (by show ¬ B < _; omega))).trans (h6 i hi), fun o ho => by rw [World.frozen?_setCell]; exact h7 o ho⟩⟩
def NextAt (n k : Nat) (w0 : World) (v : Value) (x : List Nat) (w : World) (e : Ending) (w' : World) : Prop :=
  (∃ y, nxt n x = some y ∧ e = .returned (.bool true) ∧ y.length = k ∧ OwnI w0 w' v k (lf y) ∧ Below w0.heap.size w w') ∨ (nxt n x = none ∧ e = .returned (.bool false) ∧ Below w0.heap.size w w')
theorem next_any (w w0 : World) (v : Value) (n k : Nat) (x : List Nat) (h : OwnI w0 w v k (lf x)) (hn : n ≤ 5) (hk : k ≤ 5) (hx : okList n k x = true) :
    Calls Tryd.prog 84 #[v, .int .i64 n] w fun e w' => NextAt n k w0 v x w e w' := by
  obtain ⟨a, cap, rfl, h1, h2, h3⟩ := id h
  have hxk := ok_length hx
  rcases Nat.eq_zero_or_pos k with h0 | h0
  · subst h0
    obtain rfl : x = [] := List.length_eq_zero_iff.1 hxk
    exact (next_zero w a cap n).mono fun e w' ⟨he, hw⟩ => .inr ⟨rfl, he, by subst hw; exact Below.refl _ _⟩
  · obtain ⟨B, rfl, hB0, hB, hc, hf⟩ := h3 h0
    refine (next_some w B cap k n x hxk h0 hk hn h1 h2 (fun i hi => ok_lt hx hi) hc hf).mono fun e w' hp => ?_
    rcases hp with ⟨y, hy, he, hyk, hC, hF, hO⟩ | ⟨hy, he, rfl⟩
    · refine .inl ⟨y, hy, he, hyk, ⟨_, cap, rfl, h1, h2, fun _ => ⟨B, rfl, hB0, Nat.lt_of_lt_of_le hB hO.size, hC, hF⟩⟩, ⟨hO.os, hO.tape, hO.output, hO.size, fun i hi => hO.block i (by omega) (fun e => by injection e; omega)⟩⟩
    · exact .inr ⟨hy, he, Below.refl _ _⟩
theorem sonL_any (w : World) (v : Value) (x : List Nat) (n k e : Nat) (h : See x v w) (hn5 : n ≤ 5) (he : e < 4294967296) (hx : okList n k x = true) :
    Calls Tryd.prog 42 #[.agg #[.int .i64 n, .int .u32 e], v] w fun r w' => r = .returned (.agg #[.int .i64 k, .int .u32 (onL e x : Nat)]) ∧ Below w.heap.size w w' := by
  have := son_any w v (zl x) n e h hn5 he (diff_zl hx)
  rw [zl_length, ok_length hx] at this
  unfold onL
  rw [ok_length hx]
  exact this
theorem P3.put {wr : World} {G : Nat} {n e l acc : Int} (h : P3 wr G n e l acc) (x : Int) : P3 ((wr.setCell ⟨G + 2, 0, none⟩ (.int .i64 l)).setCell ⟨G + 2, 1, none⟩ (.int .u32 x)) G n e l x where
  size := by have := h.size; simpa using this
  g0 := (World.cell?_setCell_other _ _ _ _ (by simp)).trans ((World.cell?_setCell_other _ _ _ _ (by simp)).trans h.g0)
  g1 := (World.cell?_setCell_other _ _ _ _ (by simp)).trans ((World.cell?_setCell_other _ _ _ _ (by simp)).trans h.g1)
  r0 := (World.cell?_setCell_other _ _ _ _ (by simp)).trans ((World.cell?_setCell_other _ _ _ _ (by simp)).trans h.r0)
  r1 := (World.cell?_setCell_other _ _ _ _ (by simp)).trans ((World.cell?_setCell_other _ _ _ _ (by simp)).trans h.r1)
  p0 := (World.cell?_setCell_other _ _ _ _ (by simp)).trans (World.cell?_setCell_same _ _ _ h.p0)
  p1 := World.cell?_setCell_same _ _ _ ((World.cell?_setCell_other _ _ _ _ (by simp)).trans h.p1)
  fr0 := by rw [World.frozen?_setCell, World.frozen?_setCell]; exact h.fr0
  fr1 := by rw [World.frozen?_setCell, World.frozen?_setCell]; exact h.fr1
  fp1 := by rw [World.frozen?_setCell, World.frozen?_setCell]; exact h.fp1

/-- where the model's walk over the lists stands -/
theorem lists_step {n k j : Nat} (hn : n ≤ 5) (hk : k ≤ n) (hj : j < (lists n k).length) {x : List Nat} (hx : (lists n k)[j]? = some x) : nxt n x = (lists n k)[j + 1]? := by
  have := lists_next n hn k hk j hj
  rw [hx] at this
  exact this
theorem take_snoc' {α : Type} {l : List α} {j : Nat} {x : α} (h : l[j]? = some x) : l.take (j + 1) = l.take j ++ [x] := by
  obtain ⟨hj, e⟩ := List.getElem?_eq_some_iff.1 h
  rw [List.take_succ_eq_append_getElem hj, e]
def SlHead (w0 : World) (v : Value) (n k : Nat) (T : List (List Nat) → World → Prop) (c : Nat) (s : Value) (wr : World) : Prop :=
  (∃ j x, j < (lists n k).length ∧ c = (lists n k).length - j ∧ s = .bool true ∧ (lists n k)[j]? = some x ∧ OwnI w0 wr v k (lf x) ∧ T ((lists n k).take j) wr) ∨ (c = 0 ∧ s = .bool false ∧ T (lists n k) wr)

set_option maxHeartbeats 4000000 in
theorem sleast_any (w : World) (n e : Nat) (h : VG n e) :
    Calls Tryd.prog 40 #[.agg #[.int .i64 n, .int .u32 e]] w fun r w' => r = .returned (.agg #[.int .i64 n, .int .u32 (leastE n e : Nat)]) ∧ Below w.heap.size w w' := by
  have he : e < 4294967296 := by have := h.2.2.2; have := eMax_le n; simp at *; omega
  have hn5 : n ≤ 5 := by have := h.2.1; omega
  go_enter Tryd.func40, Tryd.ntmps40
  go_wp2_with fail
  refine (first_any _ n hn5).mono ?_
  rintro r1 w1 ⟨⟨v, rfl, hO⟩, hb1⟩
  have hP := (P3.begin w n e n e 27)
  have hB0 : Below w.heap.size w (((w.alloc (.cells #[.int .i64 (n : Int), .int .u32 (e : Int)] 27)).alloc (.cells #[.int .i64 0, .int .u32 0] 27)).alloc (.cells #[.int .i64 (n : Int), .int .u32 (e : Int)] 27)) := by (repeat (first | exact Below.refl _ _ | assumption | refine bchain (by assumption) ?_ | refine balloc ?_ _ | apply Below.drew | apply below_drewN | (refine Below.alloc ?_ (by (try simp) <;> omega) _) | (refine Below.setCell ?_ (by (try simp) <;> omega) _)))
  obtain ⟨G, hG⟩ : ∃ G, w.heap.size = G := ⟨_, rfl⟩
  rw [hG] at hP hB0
  obtain ⟨w0, hw0⟩ : ∃ w0, w0 = (((w.alloc (.cells #[.int .i64 (n : Int), .int .u32 (e : Int)] 27)).alloc (.cells #[.int .i64 0, .int .u32 0] 27)).alloc (.cells #[.int .i64 (n : Int), .int .u32 (e : Int)] 27)) := ⟨_, rfl⟩
  rw [← hw0] at hP hO hb1 hB0
  have hGz : G + 2 < w0.heap.size := hP.size
  have hz1 : Hid (w1.frozen? ⟨G + 2, 0, none⟩ = false) := by
    show w1.frozen? ⟨G + 2, 0, none⟩ = false
    rw [hb1.frozen (p := ⟨G + 2, 0, none⟩) hGz, hw0, ← hG, fNew _ _ _ _ _ (by simp)]
  have hP1 := Lib.hid (hP.below hb1)
  have hB1 := Lib.hid (hB0.trans (hb1.mono (by omega)))
  replace hO := Lib.hid (hO.congr (fun i hi => lf_range n i hi))
  rw [hG]
  clear hw0 hP hb1 hB0
  replace hG := Lib.hid hG
  go_wp2_with fail
  go_loopg [5] ((lists n n).length) (fun c s wr => SlHead w0 v n n (fun pre W => P3 W G n e n (minE e pre : Nat) ∧ W.frozen? ⟨G + 2, 0, none⟩ = false ∧ Below G w W) c s wr)
  case atStart =>
    have hf := lists_first n hn5 n (Nat.le_refl _)
    exact .inl ⟨0, _, (List.getElem?_eq_some_iff.1 hf).1, by omega, rfl, hf, hO.out, hP1.out, hz1.out, hB1.out⟩
  case round =>
    rcases hrel with ⟨j, x, hj, hc, rfl, hx, hOx, hPx, hz0, hBx⟩ | ⟨hc, rfl, hPx, hz0, hBx⟩
    · have hok := lists_ok hn5 hn5 (x := x) (List.mem_of_getElem? hx)
      have hst := lists_step hn5 (Nat.le_refl _) hj hx
      have hOn := Lib.hid (sonL_any wr v x n n e (hOx.see (ok_length hok)) hn5 he hok)
      have hle := minE_le e ((lists n n).take j)
      have hyl := onL_lt e x (by rw [ok_length hok]; exact hn5)
      have hnx : minE e ((lists n n).take (j + 1)) = min (minE e ((lists n n).take j)) (onL e x) := by rw [take_snoc' hx, minE_snoc]
      obtain ⟨y, hy⟩ : ∃ y, onL e x = y := ⟨_, rfl⟩
      obtain ⟨z, hz⟩ : ∃ z, minE e ((lists n n).take j) = z := ⟨_, rfl⟩
      rw [hy] at hOn hnx hyl
      rw [hz] at hPx hnx hle
      clear hy hz
      obtain ⟨q0, q1, q2, q3, q4, q5, q6, q7, q8, q9⟩ := id hPx
      replace hx := Lib.hid hx
      replace hst := Lib.hid hst
      replace hnx := Lib.hid hnx
      replace hPx := Lib.hid hPx
      replace hOx := Lib.hid hOx
      replace hc := Lib.hid hc
      have hB1 : Below G w w1 := hB1.out
      go_wp2_with fail
      refine (hOn.out).mono ?_
      rintro r3 w3 ⟨rfl, hb3⟩
      obtain ⟨hc3, hz3⟩ := bkeep hb3 (G + 2) q0
      have hf3 := bkeepz hb3 (G + 2) q0
      obtain ⟨hc3', hz3'⟩ := bkeep hb3 G (by omega)
      have hPw := Lib.hid (hPx.out.below hb3)
      have hOw := Lib.hid (hOx.out.below hb3)
      have hfw : w3.frozen? ⟨G + 2, 0, none⟩ = false := (hf3 0).trans hz0
      have hBw : Below G w w3 := hBx.trans (hb3.mono (by omega))
      have hend : ∀ (e4 : Ending) (W w4 : World) (f : Nat), NextAt n n w0 v x W e4 w4 → f = minE e ((lists n n).take (j + 1)) → P3 W G n e n f → W.frozen? ⟨G + 2, 0, none⟩ = false → Below G w W →
          ∃ ok : Bool, e4 = .returned (.bool ok) ∧ Hid (∃ c', c' < gk ∧ SlHead w0 v n n (fun pre W => P3 W G n e n (minE e pre : Nat) ∧ W.frozen? ⟨G + 2, 0, none⟩ = false ∧ Below G w W) c' (.bool ok) w4) := fun e4 W w4 f hN hf hPW hFW hBW => by
        rcases hN with ⟨x', hy, he4, hyk, hOy, hbN⟩ | ⟨hy, he4, hbN⟩
        · rw [hst.out] at hy
          have hj1 := (List.getElem?_eq_some_iff.1 hy).1
          exact ⟨true, he4, (lists n n).length - (j + 1), by have := hc.out; omega, .inl ⟨j + 1, x', hj1, rfl, rfl, hy, hOy, by rw [← hf]; exact hPW.under hbN hGz, (hbN.frozen (p := ⟨G + 2, 0, none⟩) hGz).trans hFW, hBW.trans (hbN.mono (by omega))⟩⟩
        · rw [hst.out] at hy
          have hj1 : (lists n n).length ≤ j + 1 := by simpa using hy
          rw [List.take_of_length_le hj1] at hf
          exact ⟨false, he4, 0, by have := hc.out; omega, .inr ⟨rfl, rfl, by rw [← hf]; exact hPW.under hbN hGz, (hbN.frozen (p := ⟨G + 2, 0, none⟩) hGz).trans hFW, hBW.trans (hbN.mono (by omega))⟩⟩
      replace hend := Lib.hid hend
      have hG3 : G + 2 < w3.heap.size := hz3
      by_cases hlt : y < z
      · have hd : decide ((y : Int) < (z : Int)) = true := by simpa using hlt
        go_wp2_with fail
        refine (next_any _ w0 v n n x (((hOw.out.sets (by omega)).sets (by omega)).below (balloc (Below.refl _ _) _)) hn5 hn5 hok).mono ?_
        rintro r4 w4 hN
        obtain ⟨ok, rfl, hE⟩ := hend.out r4 _ w4 y hN (by rw [hnx.out]; omega) (((hPw.out).put y).below (balloc (Below.refl _ _) _)) (by rw [World.frozen?_alloc_old _ _ _ (by simp; omega), World.frozen?_setCell, World.frozen?_setCell]; exact hfw) (by (repeat (first | exact Below.refl _ _ | assumption | refine bchain (by assumption) ?_ | refine balloc ?_ _ | apply Below.drew | apply below_drewN | (refine Below.alloc ?_ (by (try simp) <;> omega) _) | (refine Below.setCell ?_ (by (try simp) <;> omega) _))))
        clear hN
        go_wp2
        obtain ⟨c', hc1, hc2⟩ := hE.out
        go_roundg c'
        case measure => exact hc1
        case rel => exact hc2
      · have hd : decide ((y : Int) < (z : Int)) = false := by simpa using hlt
        go_wp2_with fail
        refine (next_any _ w0 v n n x (hOw.out.below (balloc (Below.refl _ _) _)) hn5 hn5 hok).mono ?_
        rintro r4 w4 hN
        obtain ⟨ok, rfl, hE⟩ := hend.out r4 _ w4 z hN (by rw [hnx.out]; omega) (hPw.out.below (balloc (Below.refl _ _) _)) (by rw [World.frozen?_alloc_old _ _ _ (by simp; omega)]; exact hfw) (by (repeat (first | exact Below.refl _ _ | assumption | refine bchain (by assumption) ?_ | refine balloc ?_ _ | apply Below.drew | apply below_drewN | (refine Below.alloc ?_ (by (try simp) <;> omega) _) | (refine Below.setCell ?_ (by (try simp) <;> omega) _))))
        clear hN
        go_wp2
        obtain ⟨c', hc1, hc2⟩ := hE.out
        go_roundg c'
        case measure => exact hc1
        case rel => exact hc2
    · obtain ⟨y, hy⟩ : ∃ y : Nat, leastE n e = y := ⟨_, rfl⟩
      rw [show minE e (lists n n) = y from hy] at hPx
      obtain ⟨q0, q1, q2, q3, q4, q5, q6, q7, q8, q9⟩ := id hPx
      replace hy := Lib.hid hy
      clear hPx hz0
      have hB1 : Below G w w1 := hB1.out
      go_wp2
      have h2 := twoCells q3 q4 (.int .i64 n) (.int .u32 y)
      refine bodyPost_ret (v := .agg #[.int .i64 n, .int .u32 y]) (by simp [results, Tryd.results40, go_sem, h2.1, h2.2]) rfl ⟨by rw [hy.out], ?_⟩
      rw [hG.out]
      exact (hBx.setCell (p := ⟨G + 1, 0, none⟩) (by show _ ≤ G + 1; omega) _).setCell (p := ⟨G + 1, 1, none⟩) (by show _ ≤ G + 1; omega) _
end Go.Proofs.YtepbekhlpbnpkaaDoor
