/-
  ScaleMatrix: the program, whole. (made by gen_mops.py)
-/
import Derived.Test.YtdibcchhamapjacFEl
import Derived.Test.YtdibcchhamapjacFMatP2
import Derived.Test.YtdibcchhamapjacFLimM
namespace Go.Proofs.Ytdibcchhamapjac
open Go.RowKit
set_option maxRecDepth 100000
section
variable (w : World)
set_option maxHeartbeats 4000000 in
theorem scclo_any (a : Option Addr) (cap n : Nat) (m : List (List (Int × Int))) (y : Int × Int) (Xb Yb i j : Nat) (hB : w.cell? ⟨Xb, 0, none⟩ = some (.slice a n cap)) (hn : m.length = n) (hY0 : w.cell? ⟨Yb, 0, none⟩ = some (.int .i64 y.1)) (hY1 : w.cell? ⟨Yb, 1, none⟩ = some (.int .i64 y.2)) (hR : Rows w a m) (hV : VM m) (hy : VP y) (hi : i < n) (hj : j < n) :
    Calls Try.prog 87 #[.int .i64 i, .int .i64 j, .pointer (some ⟨Xb, 0, none⟩), .pointer (some ⟨Yb, 0, none⟩)] w fun r w' => r = qe (scF m y i j) ∧ Below w.heap.size w w' := by
  have hM := Lib.hid (fun W => times_any W (gAt (rAt m i) j) y (hV.vp (by omega) (by omega)) hy)
  obtain ⟨b, off, d, e, dc, rfl, hb, hd, hrow, hx0, hx1⟩ := el_at hR hV (i := i) (j := j) (by omega) (by omega)
  rw [hn] at hrow
  have hu0 := hY0
  have hu1 := hY1
  obtain ⟨x, y1, hxy⟩ : ∃ p q : Int, (gAt (rAt m i) j) = (p, q) := ⟨_, _, rfl⟩
  obtain ⟨x2, y2, hxy2⟩ : ∃ p q : Int, y = (p, q) := ⟨_, _, rfl⟩
  rw [hxy] at hx0 hx1
  rw [hxy2] at hu0 hu1
  dsimp only at hx0 hx1 hu0 hu1
  have l0 := World.block_lt_of_cell? w _ hB
  have l1 := World.block_lt_of_cell? w _ hY0
  dsimp only at l0 l1
  obtain ⟨wb, hwb⟩ : ∃ wb, wb = w.alloc (.cells #[.int .i64 0, .int .i64 0] 36) := ⟨_, rfl⟩
  have hBb : Below w.heap.size w wb := by rw [hwb]; exact (Below.refl _ w).alloc (Nat.le_refl _) _
  have hz : wb.heap.size = w.heap.size + 1 := by rw [hwb]; simp
  have c0 := (hBb.cell (p := ⟨Xb, 0, none⟩) l0).trans hB
  have r0 := (hBb.cell (p := ⟨b, _, none⟩) hb).trans hrow
  have s0 := (hBb.cell (p := ⟨d, _, none⟩) hd).trans hx0
  have s1 := (hBb.cell (p := ⟨d, _, none⟩) hd).trans hx1
  have t0 := (hBb.cell (p := ⟨Yb, _, none⟩) l1).trans hu0
  have t1 := (hBb.cell (p := ⟨Yb, _, none⟩) l1).trans hu1
  have zX : Xb < wb.heap.size := by omega
  have zY : Yb < wb.heap.size := by omega
  have zb : b < wb.heap.size := by omega
  have zd : d < wb.heap.size := by omega
  have nX : Xb ≠ w.heap.size := by omega
  have nY : Yb ≠ w.heap.size := by omega
  have nb : b ≠ w.heap.size := by omega
  have nd : d ≠ w.heap.size := by omega
  have zr : w.heap.size < wb.heap.size := by omega
  have g0r : wb.cell? ⟨w.heap.size, 0, none⟩ = some (.int .i64 0) := by rw [hwb]; simp
  have g1r : wb.cell? ⟨w.heap.size, 1, none⟩ = some (.int .i64 0) := by rw [hwb]; simp
  have rf : ∀ q, wb.frozen? ⟨w.heap.size, q, none⟩ = false := fun q => by rw [hwb]; simp
  have f0 := rf 0
  have f1 := rf 1
  have hin : (i : Int) < (n : Int) := by omega
  have hjn : (j : Int) < (n : Int) := by omega
  have hi0 : (0 : Int) ≤ (i : Int) := by omega
  have hj0 : (0 : Int) ≤ (j : Int) := by omega
  unfold scF
  rw [hxy, hxy2] at hM ⊢
  obtain ⟨o, ho⟩ : ∃ o, mulF (x, y1) (x2, y2) = o := ⟨_, rfl⟩
  rw [ho] at hM ⊢
  unfold fv at hM
  dsimp only at hM
  replace rf := Lib.hid rf
  replace hwb := Lib.hid hwb
  clear hR hV hy hY0 hY1 hB hrow hx0 hx1 hu0 hu1 hxy hxy2 ho hb hd hn
  go_enter Try.func87, Try.ntmps87
  go_wp2_with fail
  rw [← hwb.out]
  cases o with
  | none =>
    have hQ := Lib.hid (fun W => (hM.out W).mono fun e w' (h : e = qe none ∧ Below W.heap.size W w') => (show e = tooBig ∧ Below W.heap.size W w' from h))
    have hET : Ending.panicked [{ v := .iface 110 (.agg #[]), recovered := false }] = qe none := rfl
    clear hM
    unfold tooBig at hQ
    go_region_held2 (fun W => W.cell? ⟨Xb, 0, none⟩ = some (.slice (some ⟨b, off, none⟩) n cap) ∧ W.cell? ⟨b, off + i, none⟩ = some (.slice (some ⟨d, e, none⟩) n dc) ∧ W.cell? ⟨d, e + j * 2, none⟩ = some (.int .i64 x) ∧ W.cell? ⟨d, e + j * 2 + 1, none⟩ = some (.int .i64 y1) ∧ W.cell? ⟨Yb, 0, none⟩ = some (.int .i64 x2) ∧ W.cell? ⟨Yb, 1, none⟩ = some (.int .i64 y2) ∧ W.cell? ⟨w.heap.size, 0, none⟩ = some (cellOf W ⟨w.heap.size, 0, none⟩) ∧ W.cell? ⟨w.heap.size, 1, none⟩ = some (cellOf W ⟨w.heap.size, 1, none⟩) ∧ W.frozen? ⟨w.heap.size, 0, none⟩ = false ∧ W.frozen? ⟨w.heap.size, 1, none⟩ = false)
      (first | exact (Hid.out (p := False) (by assumption)).elim | exact ⟨old_cell zX c0 (by (repeat (first | exact Below.refl _ _ | assumption | refine bchain (by assumption) ?_ | refine balloc ?_ _ | apply Below.drew | apply below_drewN | (refine Below.alloc ?_ (by (try simp) <;> omega) _) | (refine Below.setCell ?_ (by (try simp) <;> omega) _)))), old_cell zb r0 (by (repeat (first | exact Below.refl _ _ | assumption | refine bchain (by assumption) ?_ | refine balloc ?_ _ | apply Below.drew | apply below_drewN | (refine Below.alloc ?_ (by (try simp) <;> omega) _) | (refine Below.setCell ?_ (by (try simp) <;> omega) _)))), old_cell zd s0 (by (repeat (first | exact Below.refl _ _ | assumption | refine bchain (by assumption) ?_ | refine balloc ?_ _ | apply Below.drew | apply below_drewN | (refine Below.alloc ?_ (by (try simp) <;> omega) _) | (refine Below.setCell ?_ (by (try simp) <;> omega) _)))), old_cell zd s1 (by (repeat (first | exact Below.refl _ _ | assumption | refine bchain (by assumption) ?_ | refine balloc ?_ _ | apply Below.drew | apply below_drewN | (refine Below.alloc ?_ (by (try simp) <;> omega) _) | (refine Below.setCell ?_ (by (try simp) <;> omega) _)))), old_cell zY t0 (by (repeat (first | exact Below.refl _ _ | assumption | refine bchain (by assumption) ?_ | refine balloc ?_ _ | apply Below.drew | apply below_drewN | (refine Below.alloc ?_ (by (try simp) <;> omega) _) | (refine Below.setCell ?_ (by (try simp) <;> omega) _)))), old_cell zY t1 (by (repeat (first | exact Below.refl _ _ | assumption | refine bchain (by assumption) ?_ | refine balloc ?_ _ | apply Below.drew | apply below_drewN | (refine Below.alloc ?_ (by (try simp) <;> omega) _) | (refine Below.setCell ?_ (by (try simp) <;> omega) _)))), cellOf_of (old_cell zr g0r (by (repeat (first | exact Below.refl _ _ | assumption | refine bchain (by assumption) ?_ | refine balloc ?_ _ | apply Below.drew | apply below_drewN | (refine Below.alloc ?_ (by (try simp) <;> omega) _) | (refine Below.setCell ?_ (by (try simp) <;> omega) _))))), cellOf_of (old_cell zr g1r (by (repeat (first | exact Below.refl _ _ | assumption | refine bchain (by assumption) ?_ | refine balloc ?_ _ | apply Below.drew | apply below_drewN | (refine Below.alloc ?_ (by (try simp) <;> omega) _) | (refine Below.setCell ?_ (by (try simp) <;> omega) _))))), (Below.frozen (p := ⟨w.heap.size, 0, none⟩) (by (repeat (first | exact Below.refl _ _ | assumption | refine bchain (by assumption) ?_ | refine balloc ?_ _ | apply Below.drew | apply below_drewN | (refine Below.alloc ?_ (by (try simp) <;> omega) _) | (refine Below.setCell ?_ (by (try simp) <;> omega) _)))) zr).trans (rf.out 0), (Below.frozen (p := ⟨w.heap.size, 1, none⟩) (by (repeat (first | exact Below.refl _ _ | assumption | refine bchain (by assumption) ?_ | refine balloc ?_ _ | apply Below.drew | apply below_drewN | (refine Below.alloc ?_ (by (try simp) <;> omega) _) | (refine Below.setCell ?_ (by (try simp) <;> omega) _)))) zr).trans (rf.out 1)⟩)
      (first | (go_at_call 88; refine Or.elim (Classical.em (Hid False)) (fun hf => ?_) (fun _ => panicM_call (hQ.out _) (fun w3 hb3 => ⟨rfl, hET, by (repeat (first | exact Below.refl _ _ | assumption | refine bchain (by assumption) ?_ | refine balloc ?_ _ | apply Below.drew | apply below_drewN | (refine Below.alloc ?_ (by (try simp) <;> omega) _) | (refine Below.setCell ?_ (by (try simp) <;> omega) _)))⟩)); refine fakeM_call (v := .agg #[.int .i64 0, .int .i64 0]) (by assumption) ?_))
    all_goals exact (Hid.out (p := False) (by assumption)).elim
  | some q =>
    obtain ⟨m1, m2⟩ := q
    have hQ := Lib.hid (fun W => (hM.out W).mono fun e w' (h : e = qe (some (m1, m2)) ∧ Below W.heap.size W w') => (show e = .returned (.agg #[.int .i64 m1, .int .i64 m2]) ∧ Below W.heap.size W w' from h))
    clear hM
    go_region_held3 (fun W => W.cell? ⟨Xb, 0, none⟩ = some (.slice (some ⟨b, off, none⟩) n cap) ∧ W.cell? ⟨b, off + i, none⟩ = some (.slice (some ⟨d, e, none⟩) n dc) ∧ W.cell? ⟨d, e + j * 2, none⟩ = some (.int .i64 x) ∧ W.cell? ⟨d, e + j * 2 + 1, none⟩ = some (.int .i64 y1) ∧ W.cell? ⟨Yb, 0, none⟩ = some (.int .i64 x2) ∧ W.cell? ⟨Yb, 1, none⟩ = some (.int .i64 y2))
      (first | exact ⟨two_oth v0 nX, two_oth v1 nb, two_oth v2 nd, two_oth v3 nd, two_oth v4 nY, two_oth v5 nY⟩ | exact ⟨old_cell zX c0 (by (repeat (first | exact Below.refl _ _ | assumption | refine bchain (by assumption) ?_ | refine balloc ?_ _ | apply Below.drew | apply below_drewN | (refine Below.alloc ?_ (by (try simp) <;> omega) _) | (refine Below.setCell ?_ (by (try simp) <;> omega) _)))), old_cell zb r0 (by (repeat (first | exact Below.refl _ _ | assumption | refine bchain (by assumption) ?_ | refine balloc ?_ _ | apply Below.drew | apply below_drewN | (refine Below.alloc ?_ (by (try simp) <;> omega) _) | (refine Below.setCell ?_ (by (try simp) <;> omega) _)))), old_cell zd s0 (by (repeat (first | exact Below.refl _ _ | assumption | refine bchain (by assumption) ?_ | refine balloc ?_ _ | apply Below.drew | apply below_drewN | (refine Below.alloc ?_ (by (try simp) <;> omega) _) | (refine Below.setCell ?_ (by (try simp) <;> omega) _)))), old_cell zd s1 (by (repeat (first | exact Below.refl _ _ | assumption | refine bchain (by assumption) ?_ | refine balloc ?_ _ | apply Below.drew | apply below_drewN | (refine Below.alloc ?_ (by (try simp) <;> omega) _) | (refine Below.setCell ?_ (by (try simp) <;> omega) _)))), old_cell zY t0 (by (repeat (first | exact Below.refl _ _ | assumption | refine bchain (by assumption) ?_ | refine balloc ?_ _ | apply Below.drew | apply below_drewN | (refine Below.alloc ?_ (by (try simp) <;> omega) _) | (refine Below.setCell ?_ (by (try simp) <;> omega) _)))), old_cell zY t1 (by (repeat (first | exact Below.refl _ _ | assumption | refine bchain (by assumption) ?_ | refine balloc ?_ _ | apply Below.drew | apply below_drewN | (refine Below.alloc ?_ (by (try simp) <;> omega) _) | (refine Below.setCell ?_ (by (try simp) <;> omega) _))))⟩)
      (first | (go_at_call 88; refine (hQ.out _).mono ?_; rintro r3 w3 ⟨rfl, hb3⟩; have hb33 : Below wb.heap.size wb w3 := (by (repeat (first | exact Below.refl _ _ | assumption | refine bchain (by assumption) ?_ | refine balloc ?_ _ | apply Below.drew | apply below_drewN | (refine Below.alloc ?_ (by (try simp) <;> omega) _) | (refine Below.setCell ?_ (by (try simp) <;> omega) _)))); have v0 := old_cell zX c0 hb33; have v1 := old_cell zb r0 hb33; have v2 := old_cell zd s0 hb33; have v3 := old_cell zd s1 hb33; have v4 := old_cell zY t0 hb33; have v5 := old_cell zY t1 hb33; have g0 := old_cell zr g0r hb33; have g1 := old_cell zr g1r hb33; have gf := fun q => (hb33.frozen (p := ⟨w.heap.size, q, none⟩) zr).trans (rf.out q)))
    have h2 := twoCells g0 g1 (.int .i64 m1) (.int .i64 m2)
    have hbw : Below w.heap.size w w3 := hBb.trans (hb33.mono hBb.size)
    go_wp2
    exact bodyPost_ret (v := .agg #[.int .i64 m1, .int .i64 m2]) (by simp [results, Try.results87, go_sem, h2.1, h2.2]) rfl ⟨rfl, by (repeat (first | exact Below.refl _ _ | assumption | refine bchain (by assumption) ?_ | refine balloc ?_ _ | apply Below.drew | apply below_drewN | (refine Below.alloc ?_ (by (try simp) <;> omega) _) | (refine Below.setCell ?_ (by (try simp) <;> omega) _)))⟩
theorem sc_ok (a : Option Addr) (cap : Nat) (m : List (List (Int × Int))) (y : Int × Int) (hR : Rows w a m) (hV : VM m) (hy : VP y) (ho : ∀ i j, i < m.length → j < m.length → oO (scF m y) i j = true) :
    Calls Try.prog 55 #[.slice a m.length cap, .agg #[.int .i64 y.1, .int .i64 y.2]] w fun r w' => (∃ u, r = .returned u ∧ MR w.heap.size w' u m.length (gv m.length (gO (scF m y)))) ∧ Below w.heap.size w w' := by
  have hmf : ∀ (fn : Fn) (first cap : Array Value) (w : World), (Instr.makeFunc fn first cap).run Try.prog w = .ok (.func fn first cap) w := fun _ _ _ _ => rfl
  have h8 := hV.1
  obtain ⟨n, hn⟩ : ∃ n, m.length = n := ⟨_, rfl⟩
  have hM := Lib.hid (fun W (hb : Below w.heap.size w W) X Y (hX : W.cell? ⟨X, 0, none⟩ = some (.slice a n cap)) (hY0 : W.cell? ⟨Y, 0, none⟩ = some (.int .i64 y.1)) (hY1 : W.cell? ⟨Y, 1, none⟩ = some (.int .i64 y.2)) => imatB_ok W 87 #[.pointer (some ⟨X, 0, none⟩), .pointer (some ⟨Y, 0, none⟩)] (fun _ _ => by kernel_rfl) n (by omega) (gO (scF m y)) (fun W' i j hi hj hb' =>
    (scclo_any W' a cap n m y X Y i j ((hb'.cell (World.block_lt_of_cell? W _ hX)).trans hX) hn ((hb'.cell (World.block_lt_of_cell? W _ hY0)).trans hY0) ((hb'.cell (World.block_lt_of_cell? W _ hY1)).trans hY1) ((hR.below hb).below hb') hV hy hi hj).mono fun e w' h => ⟨by rw [h.1, qO, ho i j (by omega) (by omega)]; rfl, h.2⟩))
  rw [hn]
  have h8' : n ≤ 8 := by omega
  obtain ⟨f, hf⟩ : ∃ f, gO (scF m y) = f := ⟨_, rfl⟩
  rw [hf] at hM ⊢
  clear hf hR hV ho h8 hy hn
  go_enter Try.func55, Try.ntmps55
  go_wp2_with fail
  refine (hM.out _ (by (repeat (first | exact Below.refl _ _ | assumption | refine bchain (by assumption) ?_ | refine balloc ?_ _ | apply Below.drew | apply below_drewN | (refine Below.alloc ?_ (by (try simp) <;> omega) _) | (refine Below.setCell ?_ (by (try simp) <;> omega) _)))) w.heap.size (w.heap.size + 1) (by simp [go_sem]) (by simp [go_sem]) (by simp [go_sem])).mono ?_
  rintro r1 w1 ⟨rfl, hb1, h1, h2, h3, h4⟩
  have hB : Below w.heap.size w w1 := by (repeat (first | exact Below.refl _ _ | assumption | refine bchain (by assumption) ?_ | refine balloc ?_ _ | apply Below.drew | apply below_drewN | (refine Below.alloc ?_ (by (try simp) <;> omega) _) | (refine Below.setCell ?_ (by (try simp) <;> omega) _)))
  have hR : MR w.heap.size w1 (.slice (some ⟨w.heap.size + 1 + 1 + 1, 0, none⟩) n n) n (gv n f) := by
    by_cases c : n = 0
    · exact .inl ⟨c, some ⟨w.heap.size + 1 + 1 + 1, 0, none⟩, n, by rw [c], by omega⟩
    · simp only [World.size_alloc] at h1 h2 h3 h4
      exact .inr ⟨w.heap.size + 1 + 1 + 1, w.heap.size + 1 + 1, rfl, h8', by omega, ⟨by omega, by omega⟩, by omega, by omega, h1, h3, h2⟩
  go_wp2
  go_ret
  exact ⟨⟨_, rfl, hR⟩, hB⟩
theorem scC_ok (a : Option Addr) (cap : Nat) (m : List (List (Int × Int))) (y : Int × Int) (X Y : Nat) (hX : w.cell? ⟨X, 0, none⟩ = some (.slice a m.length cap)) (hY0 : w.cell? ⟨Y, 0, none⟩ = some (.int .i64 y.1)) (hY1 : w.cell? ⟨Y, 1, none⟩ = some (.int .i64 y.2)) (hR : Rows w a m) (hV : VM m) (hy : VP y) (ho : ∀ i j, i < m.length → j < m.length → oO (scF m y) i j = true) :
    Calls Try.prog 54 #[.pointer (some ⟨X, 0, none⟩), .pointer (some ⟨Y, 0, none⟩)] w fun r w' => (∃ u, r = .returned u ∧ MR w.heap.size w' u m.length (gv m.length (gO (scF m y)))) ∧ Below w.heap.size w w' := by
  have hM := Lib.hid (sc_ok w a cap m y hR hV hy ho)
  clear hR hV ho hy
  go_enter Try.func54, Try.ntmps54
  go_wp2_with fail
  refine hM.out.mono ?_
  rintro r1 w1 ⟨⟨u, rfl, hR⟩, hb1⟩
  replace hR := Lib.hid hR
  go_wp2
  go_ret
  exact ⟨⟨_, rfl, hR.out⟩, hb1⟩
theorem sc_pan (a : Option Addr) (cap : Nat) (m : List (List (Int × Int))) (y : Int × Int) (hR : Rows w a m) (hV : VM m) (hy : VP y) (ho : ∃ i j, i < m.length ∧ j < m.length ∧ oO (scF m y) i j = false) :
    Calls Try.prog 55 #[.slice a m.length cap, .agg #[.int .i64 y.1, .int .i64 y.2]] w fun r w' => r = tooBig ∧ Below w.heap.size w w' := by
  have hmf : ∀ (fn : Fn) (first cap : Array Value) (w : World), (Instr.makeFunc fn first cap).run Try.prog w = .ok (.func fn first cap) w := fun _ _ _ _ => rfl
  have h8 := hV.1
  obtain ⟨n, hn⟩ : ∃ n, m.length = n := ⟨_, rfl⟩
  have hM := Lib.hid (fun W (hb : Below w.heap.size w W) X Y (hX : W.cell? ⟨X, 0, none⟩ = some (.slice a n cap)) (hY0 : W.cell? ⟨Y, 0, none⟩ = some (.int .i64 y.1)) (hY1 : W.cell? ⟨Y, 1, none⟩ = some (.int .i64 y.2)) => imatB_pan W 87 #[.pointer (some ⟨X, 0, none⟩), .pointer (some ⟨Y, 0, none⟩)] (fun _ _ => by kernel_rfl) n (by omega) (gO (scF m y)) (oO (scF m y)) (by rw [← hn]; exact ho) (fun W' i j hi hj hb' =>
    (scclo_any W' a cap n m y X Y i j ((hb'.cell (World.block_lt_of_cell? W _ hX)).trans hX) hn ((hb'.cell (World.block_lt_of_cell? W _ hY0)).trans hY0) ((hb'.cell (World.block_lt_of_cell? W _ hY1)).trans hY1) ((hR.below hb).below hb') hV hy hi hj).mono fun e w' h => ⟨by rw [h.1, qO], h.2⟩))
  rw [hn]
  have h8' : n ≤ 8 := by omega
  obtain ⟨f, hf⟩ : ∃ f, gO (scF m y) = f := ⟨_, rfl⟩
  
  clear hf hR hV ho h8 hy hn
  go_enter Try.func55, Try.ntmps55
  go_wp2_with fail
  refine (hM.out _ (by (repeat (first | exact Below.refl _ _ | assumption | refine bchain (by assumption) ?_ | refine balloc ?_ _ | apply Below.drew | apply below_drewN | (refine Below.alloc ?_ (by (try simp) <;> omega) _) | (refine Below.setCell ?_ (by (try simp) <;> omega) _)))) w.heap.size (w.heap.size + 1) (by simp [go_sem]) (by simp [go_sem]) (by simp [go_sem])).mono ?_
  rintro r1 w1 ⟨rfl, hb1⟩
  have hB : Below w.heap.size w w1 := by (repeat (first | exact Below.refl _ _ | assumption | refine bchain (by assumption) ?_ | refine balloc ?_ _ | apply Below.drew | apply below_drewN | (refine Below.alloc ?_ (by (try simp) <;> omega) _) | (refine Below.setCell ?_ (by (try simp) <;> omega) _)))
  unfold tooBig
  go_wp2
  exact ⟨rfl, rfl, hB⟩
theorem scC_pan (a : Option Addr) (cap : Nat) (m : List (List (Int × Int))) (y : Int × Int) (X Y : Nat) (hX : w.cell? ⟨X, 0, none⟩ = some (.slice a m.length cap)) (hY0 : w.cell? ⟨Y, 0, none⟩ = some (.int .i64 y.1)) (hY1 : w.cell? ⟨Y, 1, none⟩ = some (.int .i64 y.2)) (hR : Rows w a m) (hV : VM m) (hy : VP y) (ho : ∃ i j, i < m.length ∧ j < m.length ∧ oO (scF m y) i j = false) :
    Calls Try.prog 54 #[.pointer (some ⟨X, 0, none⟩), .pointer (some ⟨Y, 0, none⟩)] w fun r w' => r = tooBig ∧ Below w.heap.size w w' := by
  have hM := Lib.hid (sc_pan w a cap m y hR hV hy ho)
  clear hR hV ho hy
  go_enter Try.func54, Try.ntmps54
  go_wp2_with fail
  refine hM.out.mono ?_
  rintro r1 w1 ⟨rfl, hb1⟩
  unfold tooBig
  go_wp2
  exact ⟨rfl, rfl, hb1⟩
end
end Go.Proofs.Ytdibcchhamapjac
