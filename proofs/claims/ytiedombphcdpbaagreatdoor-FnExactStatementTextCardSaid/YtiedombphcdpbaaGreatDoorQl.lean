/-
  STATEMENTS: counted, copied, held against each other.
-/
import Derived.Test.YtiedombphcdpbaaGreatDoorQt
namespace Go.Proofs.YtiedombphcdpbaaGreatDoor
open Go.RowKit
set_option maxRecDepth 100000
theorem QB.put0 {W : World} {B : Nat} {z : Value} {n e s : Int} {u : Value} {p q : Int} (h : QB W B z n e s u p q) (z' : Value) : QB (W.setCell ⟨B, 0, none⟩ (z')) B z' n e s u p q :=
  ⟨by simpa using h.lt, (World.cell?_setCell_same _ _ _ (h.c0)), ((World.cell?_setCell_other _ _ _ _ (by simp)).trans h.c1), ((World.cell?_setCell_other _ _ _ _ (by simp)).trans h.c2), ((World.cell?_setCell_other _ _ _ _ (by simp)).trans h.c3), ((World.cell?_setCell_other _ _ _ _ (by simp)).trans h.c4), ((World.cell?_setCell_other _ _ _ _ (by simp)).trans h.c5), ((World.cell?_setCell_other _ _ _ _ (by simp)).trans h.c6), fun o => by simp [h.fz o]⟩
theorem QB.put14 {W : World} {B : Nat} {z : Value} {n e s : Int} {u : Value} {p q : Int} (h : QB W B z n e s u p q) (n' : Int) (e' : Int) (s' : Int) (u' : Value) : QB ((((W.setCell ⟨B, 1, none⟩ (.int .i64 n')).setCell ⟨B, 2, none⟩ (.int .u32 e')).setCell ⟨B, 3, none⟩ (.int .i64 s')).setCell ⟨B, 4, none⟩ (u')) B z n' e' s' u' p q :=
  ⟨by simpa using h.lt, ((World.cell?_setCell_other _ _ _ _ (by simp)).trans ((World.cell?_setCell_other _ _ _ _ (by simp)).trans ((World.cell?_setCell_other _ _ _ _ (by simp)).trans ((World.cell?_setCell_other _ _ _ _ (by simp)).trans h.c0)))), ((World.cell?_setCell_other _ _ _ _ (by simp)).trans ((World.cell?_setCell_other _ _ _ _ (by simp)).trans ((World.cell?_setCell_other _ _ _ _ (by simp)).trans (World.cell?_setCell_same _ _ _ (h.c1))))), ((World.cell?_setCell_other _ _ _ _ (by simp)).trans ((World.cell?_setCell_other _ _ _ _ (by simp)).trans (World.cell?_setCell_same _ _ _ (((World.cell?_setCell_other _ _ _ _ (by simp)).trans h.c2))))), ((World.cell?_setCell_other _ _ _ _ (by simp)).trans (World.cell?_setCell_same _ _ _ (((World.cell?_setCell_other _ _ _ _ (by simp)).trans ((World.cell?_setCell_other _ _ _ _ (by simp)).trans h.c3))))), (World.cell?_setCell_same _ _ _ (((World.cell?_setCell_other _ _ _ _ (by simp)).trans ((World.cell?_setCell_other _ _ _ _ (by simp)).trans ((World.cell?_setCell_other _ _ _ _ (by simp)).trans h.c4))))), ((World.cell?_setCell_other _ _ _ _ (by simp)).trans ((World.cell?_setCell_other _ _ _ _ (by simp)).trans ((World.cell?_setCell_other _ _ _ _ (by simp)).trans ((World.cell?_setCell_other _ _ _ _ (by simp)).trans h.c5)))), ((World.cell?_setCell_other _ _ _ _ (by simp)).trans ((World.cell?_setCell_other _ _ _ _ (by simp)).trans ((World.cell?_setCell_other _ _ _ _ (by simp)).trans ((World.cell?_setCell_other _ _ _ _ (by simp)).trans h.c6)))), fun o => by simp [h.fz o]⟩
theorem QB.put56 {W : World} {B : Nat} {z : Value} {n e s : Int} {u : Value} {p q : Int} (h : QB W B z n e s u p q) (p' : Int) (q' : Int) : QB ((W.setCell ⟨B, 5, none⟩ (.int .i64 p')).setCell ⟨B, 6, none⟩ (.int .i64 q')) B z n e s u p' q' :=
  ⟨by simpa using h.lt, ((World.cell?_setCell_other _ _ _ _ (by simp)).trans ((World.cell?_setCell_other _ _ _ _ (by simp)).trans h.c0)), ((World.cell?_setCell_other _ _ _ _ (by simp)).trans ((World.cell?_setCell_other _ _ _ _ (by simp)).trans h.c1)), ((World.cell?_setCell_other _ _ _ _ (by simp)).trans ((World.cell?_setCell_other _ _ _ _ (by simp)).trans h.c2)), ((World.cell?_setCell_other _ _ _ _ (by simp)).trans ((World.cell?_setCell_other _ _ _ _ (by simp)).trans h.c3)), ((World.cell?_setCell_other _ _ _ _ (by simp)).trans ((World.cell?_setCell_other _ _ _ _ (by simp)).trans h.c4)), ((World.cell?_setCell_other _ _ _ _ (by simp)).trans (World.cell?_setCell_same _ _ _ (h.c5))), (World.cell?_setCell_same _ _ _ (((World.cell?_setCell_other _ _ _ _ (by simp)).trans h.c6))), fun o => by simp [h.fz o]⟩
theorem QB.all {W : World} {B : Nat} {z : Value} {n e s : Int} {u : Value} {p q : Int} (h : QB W B z n e s u p q) (z' : Value) (n' : Int) (e' : Int) (s' : Int) (u' : Value) (p' : Int) (q' : Int) : QB (((((((W.setCell ⟨B, 0, none⟩ (z')).setCell ⟨B, 1, none⟩ (.int .i64 n')).setCell ⟨B, 2, none⟩ (.int .u32 e')).setCell ⟨B, 3, none⟩ (.int .i64 s')).setCell ⟨B, 4, none⟩ (u')).setCell ⟨B, 5, none⟩ (.int .i64 p')).setCell ⟨B, 6, none⟩ (.int .i64 q')) B z' n' e' s' u' p' q' :=
  ⟨by simpa using h.lt, ((World.cell?_setCell_other _ _ _ _ (by simp)).trans ((World.cell?_setCell_other _ _ _ _ (by simp)).trans ((World.cell?_setCell_other _ _ _ _ (by simp)).trans ((World.cell?_setCell_other _ _ _ _ (by simp)).trans ((World.cell?_setCell_other _ _ _ _ (by simp)).trans ((World.cell?_setCell_other _ _ _ _ (by simp)).trans (World.cell?_setCell_same _ _ _ (h.c0)))))))), ((World.cell?_setCell_other _ _ _ _ (by simp)).trans ((World.cell?_setCell_other _ _ _ _ (by simp)).trans ((World.cell?_setCell_other _ _ _ _ (by simp)).trans ((World.cell?_setCell_other _ _ _ _ (by simp)).trans ((World.cell?_setCell_other _ _ _ _ (by simp)).trans (World.cell?_setCell_same _ _ _ (((World.cell?_setCell_other _ _ _ _ (by simp)).trans h.c1)))))))), ((World.cell?_setCell_other _ _ _ _ (by simp)).trans ((World.cell?_setCell_other _ _ _ _ (by simp)).trans ((World.cell?_setCell_other _ _ _ _ (by simp)).trans ((World.cell?_setCell_other _ _ _ _ (by simp)).trans (World.cell?_setCell_same _ _ _ (((World.cell?_setCell_other _ _ _ _ (by simp)).trans ((World.cell?_setCell_other _ _ _ _ (by simp)).trans h.c2)))))))), ((World.cell?_setCell_other _ _ _ _ (by simp)).trans ((World.cell?_setCell_other _ _ _ _ (by simp)).trans ((World.cell?_setCell_other _ _ _ _ (by simp)).trans (World.cell?_setCell_same _ _ _ (((World.cell?_setCell_other _ _ _ _ (by simp)).trans ((World.cell?_setCell_other _ _ _ _ (by simp)).trans ((World.cell?_setCell_other _ _ _ _ (by simp)).trans h.c3)))))))), ((World.cell?_setCell_other _ _ _ _ (by simp)).trans ((World.cell?_setCell_other _ _ _ _ (by simp)).trans (World.cell?_setCell_same _ _ _ (((World.cell?_setCell_other _ _ _ _ (by simp)).trans ((World.cell?_setCell_other _ _ _ _ (by simp)).trans ((World.cell?_setCell_other _ _ _ _ (by simp)).trans ((World.cell?_setCell_other _ _ _ _ (by simp)).trans h.c4)))))))), ((World.cell?_setCell_other _ _ _ _ (by simp)).trans (World.cell?_setCell_same _ _ _ (((World.cell?_setCell_other _ _ _ _ (by simp)).trans ((World.cell?_setCell_other _ _ _ _ (by simp)).trans ((World.cell?_setCell_other _ _ _ _ (by simp)).trans ((World.cell?_setCell_other _ _ _ _ (by simp)).trans ((World.cell?_setCell_other _ _ _ _ (by simp)).trans h.c5)))))))), (World.cell?_setCell_same _ _ _ (((World.cell?_setCell_other _ _ _ _ (by simp)).trans ((World.cell?_setCell_other _ _ _ _ (by simp)).trans ((World.cell?_setCell_other _ _ _ _ (by simp)).trans ((World.cell?_setCell_other _ _ _ _ (by simp)).trans ((World.cell?_setCell_other _ _ _ _ (by simp)).trans ((World.cell?_setCell_other _ _ _ _ (by simp)).trans h.c6)))))))), fun o => by simp [h.fz o]⟩

theorem own_far {W5 : World} {B : Nat} (hB : B < W5.heap.size) {l m : Nat} {u : Value} {f : Nat → Value} (A : World) (i : Nat) (v : Value) (h : OwnV W5 A u l m f) : OwnV W5 (A.setCell ⟨B, i, none⟩ v) u l m f :=
  OwnV.chg h (Chg.setCell (Own := fun b => b < W5.heap.size) _ _ _ hB) (fun _ hb => hb)
section
variable (w : World)
theorem szQ_ok (v : Value) (Y : QM) (h : StS w v Y) (q0 : Int) (h0 : 0 ≤ q0) (hq : q0 ≤ 1048576) (hl : (Y.gs.length : Int) + Y.X.ts.length ≤ q0) :
    Calls Tryz.prog 4 #[v, .int .i64 q0] w fun r w' => r = .returned (.int .i64 (q0 - (Y.gs.length : Int) - (Y.X.ts.length : Int))) ∧ Below w.heap.size w w' := by
  obtain ⟨gs, ⟨n, e, s, ts⟩, p, q⟩ := Y
  obtain ⟨z, u, rfl, ⟨a, cap, rfl, g1, g2, _⟩, ⟨au, cu, rfl, t1, t2, _⟩⟩ := h
  dsimp only at *
  obtain ⟨l1, hl1⟩ : ∃ l, gs.length = l := ⟨_, rfl⟩
  obtain ⟨l2, hl2⟩ : ∃ l, ts.length = l := ⟨_, rfl⟩
  rw [hl1, hl2] at hl ⊢
  have hC := Lib.hid (fun W => szg_left W a l1 cap q0 hq (by omega))
  have hD := Lib.hid (fun W => szs_left W n e s au l2 cu (q0 - (l1 : Int)) (by omega) (by omega))
  have h1 : 0 ≤ q0 - (l1 : Int) := by omega
  have h2 : 0 ≤ q0 - (l1 : Int) - (l2 : Int) := by omega
  obtain ⟨q1, hq1⟩ : ∃ q1 : Int, q0 - (l1 : Int) = q1 := ⟨_, rfl⟩
  rw [hq1] at hC hD h1 h2 ⊢
  obtain ⟨q2, hq2⟩ : ∃ q2 : Int, q1 - (l2 : Int) = q2 := ⟨_, rfl⟩
  rw [hq2] at hD h2 ⊢
  clear hl hq1 hq2 hl1 hl2 g1 g2 t1 t2 hq
  obtain ⟨W0, hW0⟩ : ∃ W0, W0 = w.alloc (.cells #[.slice a l1 cap, .int .i64 n, .int .u32 e, .int .i64 s, .slice au l2 cu, .int .i64 p, .int .i64 q] 32) := ⟨_, rfl⟩
  have hb0 : Below w.heap.size w W0 := by rw [hW0]; (repeat (first | exact Below.refl _ _ | assumption | refine bchain (by assumption) ?_ | refine balloc ?_ _ | apply Below.drew | apply below_drewN | (refine Below.alloc ?_ (by (try simp) <;> omega) _) | (refine Below.setCell ?_ (by (try simp) <;> omega) _)))
  have k0 : QB W0 w.heap.size (.slice a l1 cap) n e s (.slice au l2 cu) p q := by rw [hW0]; exact QB.made _ _ _ _ _ _ _ _ _
  replace hW0 := Lib.hid hW0
  obtain ⟨_, x0, x1, x2, x3, x4, x5, x6, _⟩ := id k0
  go_enter Tryz.func4, Tryz.ntmps4
  go_wp2_with fail
  rw [← hW0.out]
  go_wp2_with fail
  refine (hC.out _).mono ?_
  rintro r1 w1 ⟨rfl, rfl⟩
  go_wp2_with fail
  refine (hD.out _).mono ?_
  rintro r2 w2 ⟨rfl, hb2⟩
  go_wp2
  go_ret
  exact ⟨rfl, bchain hb2 hb0⟩
theorem szQ_over1 (v : Value) (Y : QM) (h : StS w v Y) (q0 : Int) (h0 : 0 ≤ q0) (hq : q0 ≤ 1048576) (hl : q0 < (Y.gs.length : Int)) :
    Calls Tryz.prog 4 #[v, .int .i64 q0] w fun r w' => r = .returned (.int .i64 (-1)) ∧ Below w.heap.size w w' := by
  obtain ⟨gs, ⟨n, e, s, ts⟩, p, q⟩ := Y
  obtain ⟨z, u, rfl, ⟨a, cap, rfl, g1, g2, _⟩, ⟨au, cu, rfl, t1, t2, _⟩⟩ := h
  dsimp only at *
  obtain ⟨l1, hl1⟩ : ∃ l, gs.length = l := ⟨_, rfl⟩
  obtain ⟨l2, hl2⟩ : ∃ l, ts.length = l := ⟨_, rfl⟩
  rw [hl1] at hl g1
  rw [hl1, hl2]
  have hC := Lib.hid (fun W => szg_over W a l1 cap q0 h0 hq hl (by omega))
  clear hl hl1 hl2 g1 g2 t1 t2 hq h0
  obtain ⟨W0, hW0⟩ : ∃ W0, W0 = w.alloc (.cells #[.slice a l1 cap, .int .i64 n, .int .u32 e, .int .i64 s, .slice au l2 cu, .int .i64 p, .int .i64 q] 32) := ⟨_, rfl⟩
  have hb0 : Below w.heap.size w W0 := by rw [hW0]; (repeat (first | exact Below.refl _ _ | assumption | refine bchain (by assumption) ?_ | refine balloc ?_ _ | apply Below.drew | apply below_drewN | (refine Below.alloc ?_ (by (try simp) <;> omega) _) | (refine Below.setCell ?_ (by (try simp) <;> omega) _)))
  have k0 : QB W0 w.heap.size (.slice a l1 cap) n e s (.slice au l2 cu) p q := by rw [hW0]; exact QB.made _ _ _ _ _ _ _ _ _
  replace hW0 := Lib.hid hW0
  obtain ⟨_, x0, x1, x2, x3, x4, x5, x6, _⟩ := id k0
  go_enter Tryz.func4, Tryz.ntmps4
  go_wp2_with fail
  rw [← hW0.out]
  go_wp2_with fail
  refine (hC.out _).mono ?_
  rintro r1 w1 ⟨rfl, rfl⟩
  go_wp2
  go_ret
  exact ⟨rfl, hb0⟩
theorem szQ_over2 (v : Value) (Y : QM) (h : StS w v Y) (q0 : Int) (h0 : 0 ≤ q0) (hq : q0 ≤ 1048576) (hl1 : (Y.gs.length : Int) ≤ q0) (hl : q0 - (Y.gs.length : Int) < (Y.X.ts.length : Int)) :
    Calls Tryz.prog 4 #[v, .int .i64 q0] w fun r w' => r = .returned (.int .i64 (-1)) ∧ Below w.heap.size w w' := by
  obtain ⟨gs, ⟨n, e, s, ts⟩, p, q⟩ := Y
  obtain ⟨z, u, rfl, ⟨a, cap, rfl, g1, g2, _⟩, ⟨au, cu, rfl, t1, t2, _⟩⟩ := h
  dsimp only at *
  obtain ⟨l1, hk1⟩ : ∃ l, gs.length = l := ⟨_, rfl⟩
  obtain ⟨l2, hk2⟩ : ∃ l, ts.length = l := ⟨_, rfl⟩
  rw [hk1] at hl hl1 g1
  rw [hk2] at hl t1
  rw [hk1, hk2]
  have hC := Lib.hid (fun W => szg_left W a l1 cap q0 hq hl1)
  have hD := Lib.hid (fun W => szs_over W n e s au l2 cu (q0 - (l1 : Int)) (by omega) (by omega) hl (by omega))
  have h1 : 0 ≤ q0 - (l1 : Int) := by omega
  obtain ⟨q1, hq1⟩ : ∃ q1 : Int, q0 - (l1 : Int) = q1 := ⟨_, rfl⟩
  rw [hq1] at hC hD h1
  clear hl hl1 hq1 hk1 hk2 g1 g2 t1 t2 hq h0
  obtain ⟨W0, hW0⟩ : ∃ W0, W0 = w.alloc (.cells #[.slice a l1 cap, .int .i64 n, .int .u32 e, .int .i64 s, .slice au l2 cu, .int .i64 p, .int .i64 q] 32) := ⟨_, rfl⟩
  have hb0 : Below w.heap.size w W0 := by rw [hW0]; (repeat (first | exact Below.refl _ _ | assumption | refine bchain (by assumption) ?_ | refine balloc ?_ _ | apply Below.drew | apply below_drewN | (refine Below.alloc ?_ (by (try simp) <;> omega) _) | (refine Below.setCell ?_ (by (try simp) <;> omega) _)))
  have k0 : QB W0 w.heap.size (.slice a l1 cap) n e s (.slice au l2 cu) p q := by rw [hW0]; exact QB.made _ _ _ _ _ _ _ _ _
  replace hW0 := Lib.hid hW0
  obtain ⟨_, x0, x1, x2, x3, x4, x5, x6, _⟩ := id k0
  go_enter Tryz.func4, Tryz.ntmps4
  go_wp2_with fail
  rw [← hW0.out]
  go_wp2_with fail
  refine (hC.out _).mono ?_
  rintro r1 w1 ⟨rfl, rfl⟩
  go_wp2_with fail
  refine (hD.out _).mono ?_
  rintro r2 w2 ⟨rfl, hb2⟩
  go_wp2
  go_ret
  exact ⟨rfl, bchain hb2 hb0⟩
theorem szQ_bad (v : Value) (Y : QM) (h : StS w v Y) (q0 : Int) (h0 : 0 ≤ q0) (hq : q0 ≤ 1048576) (hl : ¬ ((Y.gs.length : Int) + Y.X.ts.length ≤ q0)) :
    Calls Tryz.prog 4 #[v, .int .i64 q0] w fun r w' => r = .returned (.int .i64 (-1)) ∧ Below w.heap.size w w' := by
  by_cases c : q0 < (Y.gs.length : Int)
  · exact szQ_over1 w v Y h q0 h0 hq c
  · exact szQ_over2 w v Y h q0 h0 hq (by omega) (by omega)
theorem eqQ_any (Y : QM) (z u z' u' : Value) (hz : SlG w z Y.gs) (hu : SlT w u Y.X.ts) (hz' : SlG w z' Y.gs) (hu' : SlT w u' Y.X.ts) (hm : Y.gs.length ≤ 1048576) (hm2 : Y.X.ts.length ≤ 1048576) :
    Calls Tryz.prog 8 #[.agg #[z, .int .i64 Y.X.n, .int .u32 Y.X.e, .int .i64 Y.X.s, u, .int .i64 Y.p, .int .i64 Y.q], .agg #[z', .int .i64 Y.X.n, .int .u32 Y.X.e, .int .i64 Y.X.s, u', .int .i64 Y.p, .int .i64 Y.q]] w fun r w' => r = .returned (.bool true) ∧ Below w.heap.size w w' := by
  have hC := Lib.hid (fun W (hb : Below w.heap.size w W) => eqGs_any W z z' Y.gs (hz.below hb) (hz'.below hb) hm)
  have hD := Lib.hid (fun W (hb : Below w.heap.size w W) => eqS_any W u u' Y.X (hu.below hb) (hu'.below hb) hm2)
  obtain ⟨gs, ⟨n, e, s, ts⟩, p, q⟩ := Y
  have hF := Lib.hid (fun W => Fr.eqF_any W p q)
  obtain ⟨a, cap, rfl, _⟩ := hz
  obtain ⟨au, cu, rfl, _⟩ := hu
  obtain ⟨a', cap', rfl, _⟩ := hz'
  obtain ⟨au', cu', rfl, _⟩ := hu'
  dsimp only at *
  obtain ⟨l1, hl1⟩ : ∃ l, gs.length = l := ⟨_, rfl⟩
  obtain ⟨l2, hl2⟩ : ∃ l, ts.length = l := ⟨_, rfl⟩
  rw [hl1] at hC ⊢
  rw [hl2] at hD ⊢
  clear hl1 hl2 hm hm2
  obtain ⟨W0, hW0⟩ : ∃ W0, W0 = (w.alloc (.cells #[.slice a l1 cap, .int .i64 n, .int .u32 e, .int .i64 s, .slice au l2 cu, .int .i64 p, .int .i64 q] 42)).alloc (.cells #[.slice a' l1 cap', .int .i64 n, .int .u32 e, .int .i64 s, .slice au' l2 cu', .int .i64 p, .int .i64 q] 42) := ⟨_, rfl⟩
  have hb0 : Below w.heap.size w W0 := by rw [hW0]; (repeat (first | exact Below.refl _ _ | assumption | refine bchain (by assumption) ?_ | refine balloc ?_ _ | apply Below.drew | apply below_drewN | (refine Below.alloc ?_ (by (try simp) <;> omega) _) | (refine Below.setCell ?_ (by (try simp) <;> omega) _)))
  have sz : ∀ (W : World) (o : Obj), (W.alloc o).heap.size = W.heap.size + 1 := fun W o => by simp
  have k0 : QB W0 w.heap.size (.slice a l1 cap) n e s (.slice au l2 cu) p q := by rw [hW0]; exact (QB.made _ _ _ _ _ _ _ _ _).below (balloc (Below.refl _ _) _)
  have k1 : QB W0 (w.heap.size + 1) (.slice a' l1 cap') n e s (.slice au' l2 cu') p q := by rw [hW0, ← sz w (.cells #[.slice a l1 cap, .int .i64 n, .int .u32 e, .int .i64 s, .slice au l2 cu, .int .i64 p, .int .i64 q] 42)]; exact QB.made _ _ _ _ _ _ _ _ _
  replace hW0 := Lib.hid hW0
  clear sz
  obtain ⟨_, x0, x1, x2, x3, x4, x5, x6, _⟩ := id k0
  obtain ⟨_, y0, y1, y2, y3, y4, y5, y6, _⟩ := id k1
  go_enter Tryz.func8, Tryz.ntmps8
  go_wp2_with fail
  rw [← hW0.out]
  go_wp2_with fail
  refine (hC.out _ hb0).mono ?_
  rintro r1 w1 ⟨rfl, hb1⟩
  replace k0 := k0.below hb1
  replace k1 := k1.below hb1
  replace hb0 := bchain hb1 hb0
  clear hb1 x0 x1 x2 x3 x4 x5 x6 y0 y1 y2 y3 y4 y5 y6
  obtain ⟨_, x0, x1, x2, x3, x4, x5, x6, _⟩ := id k0
  obtain ⟨_, y0, y1, y2, y3, y4, y5, y6, _⟩ := id k1
  go_wp2_with fail
  refine (hD.out _ hb0).mono ?_
  rintro r2 w2 ⟨rfl, hb2⟩
  replace k0 := k0.below hb2
  replace k1 := k1.below hb2
  replace hb0 := bchain hb2 hb0
  clear hb2 x0 x1 x2 x3 x4 x5 x6 y0 y1 y2 y3 y4 y5 y6
  obtain ⟨_, x0, x1, x2, x3, x4, x5, x6, _⟩ := id k0
  obtain ⟨_, y0, y1, y2, y3, y4, y5, y6, _⟩ := id k1
  go_wp2_with fail
  refine (hF.out _).mono ?_
  rintro r3 w3 ⟨rfl, hb3⟩
  go_wp2
  go_ret
  exact ⟨rfl, bchain hb3 hb0⟩
set_option maxHeartbeats 2000000 in
theorem toQ_any (v : Value) (Y : QM) (h : StS w v Y) (hm : Y.gs.length ≤ 1048576) (hm2 : Y.X.ts.length ≤ 1048576) :
    Calls Tryz.prog 6 #[v] w fun r w' => (∃ z u, r = .returned (.agg #[z, .int .i64 Y.X.n, .int .u32 Y.X.e, .int .i64 Y.X.s, u, .int .i64 Y.p, .int .i64 Y.q]) ∧ OwnG w w' z Y.gs ∧ OwnT w w' u Y.X.ts) ∧ Below w.heap.size w w' := by
  obtain ⟨gs, X, p, q⟩ := Y
  obtain ⟨z, u, rfl, hz, hu⟩ := h
  dsimp only at *
  have hC := Lib.hid (fun W (hb : Below w.heap.size w W) => toGo_any W z gs (hz.below hb) hm)
  have hD := Lib.hid (fun W (hb : Below w.heap.size w W) => toS_any W (.agg #[.int .i64 X.n, .int .u32 X.e, .int .i64 X.s, u]) X ⟨u, rfl, hu.below hb⟩ hm2)
  have hF := Lib.hid (fun W => Fr.toF_any W p q)
  obtain ⟨n, e, s, ts⟩ := X
  obtain ⟨a, cap, rfl, _⟩ := hz
  obtain ⟨au, cu, rfl, _⟩ := hu
  dsimp only at *
  clear hm hm2
  obtain ⟨l1, hl1⟩ : ∃ l, gs.length = l := ⟨_, rfl⟩
  obtain ⟨l2, hl2⟩ : ∃ l, ts.length = l := ⟨_, rfl⟩
  rw [hl1] at hC ⊢
  rw [hl2] at hD ⊢
  replace hl1 := Lib.hid hl1
  replace hl2 := Lib.hid hl2
  obtain ⟨W0, hW0⟩ : ∃ W0, W0 = ((w.alloc (.cells #[.slice a l1 cap, .int .i64 n, .int .u32 e, .int .i64 s, .slice au l2 cu, .int .i64 p, .int .i64 q] 32)).alloc (.cells #[.slice none 0 0, .int .i64 0, .int .u32 0, .int .i64 0, .slice none 0 0, .int .i64 0, .int .i64 0] 42)).alloc (.cells #[.slice none 0 0, .int .i64 0, .int .u32 0, .int .i64 0, .slice none 0 0, .int .i64 0, .int .i64 0] 42) := ⟨_, rfl⟩
  have hb0 : Below w.heap.size w W0 := by rw [hW0]; (repeat (first | exact Below.refl _ _ | assumption | refine bchain (by assumption) ?_ | refine balloc ?_ _ | apply Below.drew | apply below_drewN | (refine Below.alloc ?_ (by (try simp) <;> omega) _) | (refine Below.setCell ?_ (by (try simp) <;> omega) _)))
  have sz : ∀ (W : World) (o : Obj), (W.alloc o).heap.size = W.heap.size + 1 := fun W o => by simp
  have tA : QB W0 w.heap.size (.slice a l1 cap) n e s (.slice au l2 cu) p q := by rw [hW0]; exact ((QB.made _ _ _ _ _ _ _ _ _).below (balloc (Below.refl _ _) _)).below (balloc (Below.refl _ _) _)
  have tR : QB W0 (w.heap.size + 1) (.slice none 0 0) 0 0 0 (.slice none 0 0) 0 0 := by rw [hW0, ← sz w (.cells #[.slice a l1 cap, .int .i64 n, .int .u32 e, .int .i64 s, .slice au l2 cu, .int .i64 p, .int .i64 q] 32)]; exact (QB.made _ (.slice none 0 0) 0 0 0 _ 0 0 42).below (balloc (Below.refl _ _) _)
  have tO : QB W0 (w.heap.size + 1 + 1) (.slice none 0 0) 0 0 0 (.slice none 0 0) 0 0 := by rw [hW0, ← sz w (.cells #[.slice a l1 cap, .int .i64 n, .int .u32 e, .int .i64 s, .slice au l2 cu, .int .i64 p, .int .i64 q] 32), ← sz _ (.cells #[.slice none 0 0, .int .i64 0, .int .u32 0, .int .i64 0, .slice none 0 0, .int .i64 0, .int .i64 0] 42)]; exact QB.made _ (.slice none 0 0) 0 0 0 _ 0 0 42
  clear sz
  replace hW0 := Lib.hid hW0
  have hzO : w.heap.size + 1 + 1 < W0.heap.size := tO.lt
  obtain ⟨_, x0, x1, x2, x3, x4, x5, x6, _⟩ := id tA
  go_enter Tryz.func6, Tryz.ntmps6
  go_wp2_with fail
  rw [← hW0.out]
  go_wp2_with fail
  refine (hC.out _ hb0).mono ?_
  rintro r1 w1 ⟨⟨z1, rfl, hZ⟩, hb1⟩
  obtain ⟨a1, c1, rfl, _⟩ := id hZ
  rw [hl1.out] at hZ ⊢
  replace hZ := Lib.hid hZ
  replace tA := tA.below hb1
  replace tR := tR.below hb1
  replace tO := tO.below hb1
  replace hb0 := bchain hb1 hb0
  clear hb1 x0 x1 x2 x3 x4 x5 x6
  obtain ⟨_, x0, x1, x2, x3, x4, x5, x6, _⟩ := id tA
  obtain ⟨_, y0, y1, y2, y3, y4, y5, y6, fO⟩ := id tO
  obtain ⟨W4, hW4⟩ : ∃ W4, W4 = (w1.setCell ⟨w.heap.size + 1 + 1, 0, none⟩ (.slice a1 l1 c1)) := ⟨_, rfl⟩
  have uA : QB W4 w.heap.size (.slice a l1 cap) n e s (.slice au l2 cu) p q := by rw [hW4]; exact (tA.other (a := ⟨w.heap.size + 1 + 1, 0, none⟩) (.slice a1 l1 c1) (by show w.heap.size + 1 + 1 ≠ w.heap.size; omega))
  have uR : QB W4 (w.heap.size + 1) (.slice none 0 0) 0 0 0 (.slice none 0 0) 0 0 := by rw [hW4]; exact (tR.other (a := ⟨w.heap.size + 1 + 1, 0, none⟩) (.slice a1 l1 c1) (by show w.heap.size + 1 + 1 ≠ w.heap.size + 1; omega))
  have uO : QB W4 (w.heap.size + 1 + 1) (.slice a1 l1 c1) 0 0 0 (.slice none 0 0) 0 0 := by rw [hW4]; exact tO.put0 _
  have ub : Below w.heap.size w W4 := by rw [hW4]; exact (hb0.setCell (p := ⟨w.heap.size + 1 + 1, 0, none⟩) (by show w.heap.size ≤ w.heap.size + 1 + 1; omega) (.slice a1 l1 c1))
  have uZ : Hid (OwnG W0 W4 (.slice a1 l1 c1) gs) := by rw [hW4]; exact own_far hzO _ _ _ hZ.out
  replace hW4 := Lib.hid hW4
  clear hZ tA tR tO hb0
  go_wp2_with fail
  rw [← hW4.out]
  refine (hD.out _ ub).mono ?_
  rintro r2 w2 ⟨⟨u2, rfl, hU⟩, hb2⟩
  obtain ⟨a2, c2, rfl, _⟩ := id hU
  rw [hl2.out] at hU ⊢
  have hzO2 : w.heap.size + 1 + 1 < W4.heap.size := uO.lt
  have hw4 : w.heap.size ≤ W4.heap.size := ub.size
  replace hU := Lib.hid hU
  replace uZ := Lib.hid (OwnG.below uZ.out hb2)
  replace uA := uA.below hb2
  replace uR := uR.below hb2
  replace uO := uO.below hb2
  replace ub := bchain hb2 ub
  clear hb2 hW4 x0 x1 x2 x3 x4 x5 x6 y0 y1 y2 y3 y4 y5 y6 fO
  obtain ⟨_, x0, x1, x2, x3, x4, x5, x6, _⟩ := id uA
  obtain ⟨_, y0, y1, y2, y3, y4, y5, y6, fO⟩ := id uO
  obtain ⟨W5, hW5⟩ : ∃ W5, W5 = ((((w2.setCell ⟨w.heap.size + 1 + 1, 1, none⟩ (.int .i64 n)).setCell ⟨w.heap.size + 1 + 1, 2, none⟩ (.int .u32 e)).setCell ⟨w.heap.size + 1 + 1, 3, none⟩ (.int .i64 s)).setCell ⟨w.heap.size + 1 + 1, 4, none⟩ (.slice a2 l2 c2)) := ⟨_, rfl⟩
  have vR : QB W5 (w.heap.size + 1) (.slice none 0 0) 0 0 0 (.slice none 0 0) 0 0 := by rw [hW5]; exact ((((uR.other (a := ⟨w.heap.size + 1 + 1, 1, none⟩) (.int .i64 n) (by show w.heap.size + 1 + 1 ≠ w.heap.size + 1; omega)).other (a := ⟨w.heap.size + 1 + 1, 2, none⟩) (.int .u32 e) (by show w.heap.size + 1 + 1 ≠ w.heap.size + 1; omega)).other (a := ⟨w.heap.size + 1 + 1, 3, none⟩) (.int .i64 s) (by show w.heap.size + 1 + 1 ≠ w.heap.size + 1; omega)).other (a := ⟨w.heap.size + 1 + 1, 4, none⟩) (.slice a2 l2 c2) (by show w.heap.size + 1 + 1 ≠ w.heap.size + 1; omega))
  have vO : QB W5 (w.heap.size + 1 + 1) (.slice a1 l1 c1) n e s (.slice a2 l2 c2) 0 0 := by rw [hW5]; exact uO.put14 n e s _
  have vb : Below w.heap.size w W5 := by rw [hW5]; exact ((((ub.setCell (p := ⟨w.heap.size + 1 + 1, 1, none⟩) (by show w.heap.size ≤ w.heap.size + 1 + 1; omega) (.int .i64 n)).setCell (p := ⟨w.heap.size + 1 + 1, 2, none⟩) (by show w.heap.size ≤ w.heap.size + 1 + 1; omega) (.int .u32 e)).setCell (p := ⟨w.heap.size + 1 + 1, 3, none⟩) (by show w.heap.size ≤ w.heap.size + 1 + 1; omega) (.int .i64 s)).setCell (p := ⟨w.heap.size + 1 + 1, 4, none⟩) (by show w.heap.size ≤ w.heap.size + 1 + 1; omega) (.slice a2 l2 c2))
  have vZ : Hid (OwnG W0 W5 (.slice a1 l1 c1) gs) := by rw [hW5]; exact own_far hzO _ _ _ (own_far hzO _ _ _ (own_far hzO _ _ _ (own_far hzO _ _ _ uZ.out)))
  have vU : Hid (OwnT W4 W5 (.slice a2 l2 c2) ts) := by rw [hW5]; exact own_far hzO2 _ _ _ (own_far hzO2 _ _ _ (own_far hzO2 _ _ _ (own_far hzO2 _ _ _ hU.out)))
  replace hW5 := Lib.hid hW5
  clear hU uZ uA uR uO ub
  go_wp2_with fail
  rw [← hW5.out]
  refine (hF.out _).mono ?_
  rintro r3 w3 ⟨rfl, hb3⟩
  replace vZ := Lib.hid (OwnG.below vZ.out hb3)
  replace vU := Lib.hid (OwnT.below vU.out hb3)
  replace vR := vR.below hb3
  replace vO := vO.below hb3
  replace vb := bchain hb3 vb
  clear hb3 hW5 x0 x1 x2 x3 x4 x5 x6 y0 y1 y2 y3 y4 y5 y6 fO
  obtain ⟨_, y0, y1, y2, y3, y4, y5, y6, fO⟩ := id vO
  obtain ⟨_, x0, x1, x2, x3, x4, x5, x6, fR⟩ := id vR
  obtain ⟨W6, hW6⟩ : ∃ W6, W6 = ((w3.setCell ⟨w.heap.size + 1 + 1, 5, none⟩ (.int .i64 p)).setCell ⟨w.heap.size + 1 + 1, 6, none⟩ (.int .i64 q)) := ⟨_, rfl⟩
  have jR : QB W6 (w.heap.size + 1) (.slice none 0 0) 0 0 0 (.slice none 0 0) 0 0 := by rw [hW6]; exact ((vR.other (a := ⟨w.heap.size + 1 + 1, 5, none⟩) (.int .i64 p) (by show w.heap.size + 1 + 1 ≠ w.heap.size + 1; omega)).other (a := ⟨w.heap.size + 1 + 1, 6, none⟩) (.int .i64 q) (by show w.heap.size + 1 + 1 ≠ w.heap.size + 1; omega))
  have jb : Below w.heap.size w W6 := by rw [hW6]; exact ((vb.setCell (p := ⟨w.heap.size + 1 + 1, 5, none⟩) (by show w.heap.size ≤ w.heap.size + 1 + 1; omega) (.int .i64 p)).setCell (p := ⟨w.heap.size + 1 + 1, 6, none⟩) (by show w.heap.size ≤ w.heap.size + 1 + 1; omega) (.int .i64 q))
  have jZ : Hid (OwnG W0 W6 (.slice a1 l1 c1) gs) := by rw [hW6]; exact own_far hzO _ _ _ (own_far hzO _ _ _ vZ.out)
  have jU : Hid (OwnT W4 W6 (.slice a2 l2 c2) ts) := by rw [hW6]; exact own_far hzO2 _ _ _ (own_far hzO2 _ _ _ vU.out)
  have jF := jR.all (.slice a1 l1 c1) n e s (.slice a2 l2 c2) p q
  have jBB := (((((((jb.setCell (p := ⟨w.heap.size + 1, 0, none⟩) (by show w.heap.size ≤ w.heap.size + 1; omega) (.slice a1 l1 c1)).setCell (p := ⟨w.heap.size + 1, 1, none⟩) (by show w.heap.size ≤ w.heap.size + 1; omega) (.int .i64 n)).setCell (p := ⟨w.heap.size + 1, 2, none⟩) (by show w.heap.size ≤ w.heap.size + 1; omega) (.int .u32 e)).setCell (p := ⟨w.heap.size + 1, 3, none⟩) (by show w.heap.size ≤ w.heap.size + 1; omega) (.int .i64 s)).setCell (p := ⟨w.heap.size + 1, 4, none⟩) (by show w.heap.size ≤ w.heap.size + 1; omega) (.slice a2 l2 c2)).setCell (p := ⟨w.heap.size + 1, 5, none⟩) (by show w.heap.size ≤ w.heap.size + 1; omega) (.int .i64 p)).setCell (p := ⟨w.heap.size + 1, 6, none⟩) (by show w.heap.size ≤ w.heap.size + 1; omega) (.int .i64 q))
  have hzR : w.heap.size + 1 < W0.heap.size := by omega
  have hzR2 : w.heap.size + 1 < W4.heap.size := by omega
  have hw0 : w.heap.size ≤ W0.heap.size := by omega
  clear vR vO vb jR jb vZ vU
  go_wp2
  rw [← hW6]
  obtain ⟨WW, hWW⟩ : ∃ WW, WW = (((((((W6.setCell ⟨w.heap.size + 1, 0, none⟩ (.slice a1 l1 c1)).setCell ⟨w.heap.size + 1, 1, none⟩ (.int .i64 n)).setCell ⟨w.heap.size + 1, 2, none⟩ (.int .u32 e)).setCell ⟨w.heap.size + 1, 3, none⟩ (.int .i64 s)).setCell ⟨w.heap.size + 1, 4, none⟩ (.slice a2 l2 c2)).setCell ⟨w.heap.size + 1, 5, none⟩ (.int .i64 p)).setCell ⟨w.heap.size + 1, 6, none⟩ (.int .i64 q)) := ⟨_, rfl⟩
  have hOZ : OwnG W0 WW (.slice a1 l1 c1) gs := by rw [hWW]; exact own_far hzR _ _ _ (own_far hzR _ _ _ (own_far hzR _ _ _ (own_far hzR _ _ _ (own_far hzR _ _ _ (own_far hzR _ _ _ (own_far hzR _ _ _ jZ.out))))))
  have hOU : OwnT W4 WW (.slice a2 l2 c2) ts := by rw [hWW]; exact own_far hzR2 _ _ _ (own_far hzR2 _ _ _ (own_far hzR2 _ _ _ (own_far hzR2 _ _ _ (own_far hzR2 _ _ _ (own_far hzR2 _ _ _ (own_far hzR2 _ _ _ jU.out))))))
  rw [← hWW] at jF jBB ⊢
  clear hWW hW6
  obtain ⟨_, v0, v1, v2, v3, v4, v5, v6, _⟩ := jF
  exact bodyPost_ret (v := .agg #[.slice a1 l1 c1, .int .i64 n, .int .u32 e, .int .i64 s, .slice a2 l2 c2, .int .i64 p, .int .i64 q]) (by simp [results, Tryz.results6, go_sem, v0, v1, v2, v3, v4, v5, v6]) rfl ⟨⟨_, _, rfl, OwnG.mono hOZ hw0, OwnT.mono hOU hw4⟩, jBB⟩
end
end Go.Proofs.YtiedombphcdpbaaGreatDoor
