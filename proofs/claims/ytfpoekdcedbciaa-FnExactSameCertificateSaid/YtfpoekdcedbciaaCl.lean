/-
  CERTIFICATES: counted, copied, held against each other.
-/
import Derived.Test.YtfpoekdcedbciaaCt
namespace Go.Proofs.Ytfpoekdcedbciaa
open Go.RowKit
set_option maxRecDepth 100000
def tC (Y : CM) : Nat := Y.bs.length + totB Y.bs Y.bs.length
theorem OwnB.mono {N N' : Nat} {w : World} {v : Value} {bs : List BM} (h : OwnB N w v bs) (hz : N' ≤ N) : OwnB N' w v bs := by
  obtain ⟨a, cap, e, h1, h2, h3⟩ := h
  refine ⟨a, cap, e, h1, h2, fun hzz => ?_⟩
  obtain ⟨b, off, e2, hn, hlt, hc⟩ := h3 hzz
  refine ⟨b, off, e2, by omega, hlt, fun i hi => ?_⟩
  obtain ⟨z, u, g0, g1, g2, g3, g4⟩ := hc i hi
  exact ⟨z, u, g0, g1, g2, g3, fun a l c e hm b off hb => Nat.le_trans hz (g4 a l c e hm b off hb)⟩
/-- a certificate's box -/
structure CB (W : World) (B : Nat) (s : Int) (u : Value) : Prop where
  lt : B < W.heap.size
  c0 : W.cell? ⟨B, 0, none⟩ = some (.int .i64 s)
  c1 : W.cell? ⟨B, 1, none⟩ = some u
  fz : ∀ o, W.frozen? ⟨B, o, none⟩ = false
theorem CB.below {W W' : World} {B : Nat} {s : Int} {u : Value} (h : CB W B s u) (hb : Below W.heap.size W W') : CB W' B s u :=
  ⟨Nat.lt_of_lt_of_le h.lt hb.size, (hb.cell (p := ⟨B, 0, none⟩) h.lt).trans h.c0, (hb.cell (p := ⟨B, 1, none⟩) h.lt).trans h.c1, fun o => (hb.frozen (p := ⟨B, o, none⟩) h.lt).trans (h.fz o)⟩
theorem CB.made (W : World) (s : Int) (u : Value) (t : TypeId) : CB (W.alloc (.cells #[.int .i64 s, u] t)) W.heap.size s u :=
  ⟨by simp, by rw [World.cell?_alloc_new]; rfl, by rw [World.cell?_alloc_new]; rfl, fun o => by simp⟩
theorem CB.other {W : World} {B : Nat} {s : Int} {u : Value} (h : CB W B s u) {a : Addr} (v : Value) (hp : a.block ≠ B) : CB (W.setCell a v) B s u := by
  have hs : (W.setCell a v).heap[B]? = W.heap[B]? := Below.heap_setCell _ _ _ _ (by omega)
  exact ⟨by simpa using h.lt, (World.cell?_of_block (a := ⟨B, 0, none⟩) hs).trans h.c0, (World.cell?_of_block (a := ⟨B, 1, none⟩) hs).trans h.c1, fun o => by simp [h.fz o]⟩
theorem CB.put0 {W : World} {B : Nat} {s : Int} {u : Value} (h : CB W B s u) (s' : Int) : CB (W.setCell ⟨B, 0, none⟩ (.int .i64 s')) B s' u :=
  ⟨by simpa using h.lt, World.cell?_setCell_same _ _ _ h.c0, (World.cell?_setCell_other _ _ _ _ (by simp)).trans h.c1, fun o => by simp [h.fz o]⟩
theorem CB.put1 {W : World} {B : Nat} {s : Int} {u : Value} (h : CB W B s u) (u' : Value) : CB (W.setCell ⟨B, 1, none⟩ u') B s u' :=
  ⟨by simpa using h.lt, (World.cell?_setCell_other _ _ _ _ (by simp)).trans h.c0, World.cell?_setCell_same _ _ _ h.c1, fun o => by simp [h.fz o]⟩
section
variable (w : World)
theorem szC_ok (v : Value) (Y : CM) (h : CtS w v Y) (q : Int) (h0 : 0 ≤ q) (hq : q ≤ 1048576) (hl : (tC Y : Int) ≤ q) :
    Calls Try.prog 23 #[v, .int .i64 q] w fun r w' => r = .returned (.int .i64 (q - (tC Y : Int))) ∧ Below w.heap.size w w' := by
  obtain ⟨s, bs⟩ := Y
  obtain ⟨u, rfl, hu⟩ := h
  unfold tC at hl
  dsimp only at *
  have hC := Lib.hid (fun W (hb : Below w.heap.size w W) => szBS_ok W u bs (hu.below hb) q h0 hq (by omega))
  obtain ⟨a, cap, rfl, _⟩ := hu
  unfold tC
  dsimp only
  rw [show q - ((bs.length + totB bs bs.length : Nat) : Int) = q - (bs.length : Int) - (totB bs bs.length : Nat) by push_cast; omega]
  have h2 : 0 ≤ q - (bs.length : Int) - (totB bs bs.length : Nat) := by omega
  obtain ⟨q2, hq2⟩ : ∃ q2, q - (bs.length : Int) - (totB bs bs.length : Nat) = q2 := ⟨_, rfl⟩
  rw [hq2] at hC h2 ⊢
  clear hq2
  obtain ⟨l, hl1⟩ : ∃ l, bs.length = l := ⟨_, rfl⟩
  rw [hl1] at hC ⊢
  clear hl hl1
  obtain ⟨W0, hW0⟩ : ∃ W0, W0 = w.alloc (.cells #[.int .i64 s, .slice a l cap] 62) := ⟨_, rfl⟩
  have hb0 : Below w.heap.size w W0 := by rw [hW0]; (repeat (first | exact Below.refl _ _ | assumption | refine bchain (by assumption) ?_ | refine balloc ?_ _ | apply Below.drew | apply below_drewN | (refine Below.alloc ?_ (by (try simp) <;> omega) _) | (refine Below.setCell ?_ (by (try simp) <;> omega) _)))
  have k0 : CB W0 w.heap.size s (.slice a l cap) := by rw [hW0]; exact CB.made _ _ _ _
  replace hW0 := Lib.hid hW0
  obtain ⟨_, x0, x1, _⟩ := id k0
  go_enter Try.func23, Try.ntmps23
  go_wp2_with fail
  rw [← hW0.out]
  go_wp2_with fail
  refine (hC.out _ hb0).mono ?_
  rintro r1 w1 ⟨rfl, hb1⟩
  go_wp2
  go_ret
  exact ⟨rfl, bchain hb1 hb0⟩
theorem szC_bad (v : Value) (Y : CM) (h : CtS w v Y) (q : Int) (h0 : 0 ≤ q) (hq : q ≤ 1048576) (hl : ¬ ((tC Y : Int) ≤ q)) :
    Calls Try.prog 23 #[v, .int .i64 q] w fun r w' => r = .returned (.int .i64 (-1)) ∧ Below w.heap.size w w' := by
  obtain ⟨s, bs⟩ := Y
  obtain ⟨u, rfl, hu⟩ := h
  unfold tC at hl
  dsimp only at *
  have hC := Lib.hid (fun W (hb : Below w.heap.size w W) => szBS_bad W u bs (hu.below hb) q h0 hq (by omega))
  obtain ⟨a, cap, rfl, _⟩ := hu
  obtain ⟨l, hl1⟩ : ∃ l, bs.length = l := ⟨_, rfl⟩
  rw [hl1] at hC ⊢
  clear hl hl1
  obtain ⟨W0, hW0⟩ : ∃ W0, W0 = w.alloc (.cells #[.int .i64 s, .slice a l cap] 62) := ⟨_, rfl⟩
  have hb0 : Below w.heap.size w W0 := by rw [hW0]; (repeat (first | exact Below.refl _ _ | assumption | refine bchain (by assumption) ?_ | refine balloc ?_ _ | apply Below.drew | apply below_drewN | (refine Below.alloc ?_ (by (try simp) <;> omega) _) | (refine Below.setCell ?_ (by (try simp) <;> omega) _)))
  have k0 : CB W0 w.heap.size s (.slice a l cap) := by rw [hW0]; exact CB.made _ _ _ _
  replace hW0 := Lib.hid hW0
  obtain ⟨_, x0, x1, _⟩ := id k0
  go_enter Try.func23, Try.ntmps23
  go_wp2_with fail
  rw [← hW0.out]
  go_wp2_with fail
  refine (hC.out _ hb0).mono ?_
  rintro r1 w1 ⟨rfl, hb1⟩
  go_wp2
  go_ret
  exact ⟨rfl, bchain hb1 hb0⟩
theorem eqC_any (Y : CM) (u u' : Value) (hu : SlB w u Y.bs) (hu' : SlB w u' Y.bs) (hm : tC Y ≤ 1048576) :
    Calls Try.prog 27 #[.agg #[.int .i64 Y.s, u], .agg #[.int .i64 Y.s, u']] w fun r w' => r = .returned (.bool true) ∧ Below w.heap.size w w' := by
  obtain ⟨s, bs⟩ := Y
  unfold tC at hm
  dsimp only at *
  have hC := Lib.hid (fun W (hb : Below w.heap.size w W) => eqBS_any W u u' bs (hu.below hb) (hu'.below hb) hm)
  obtain ⟨a, cap, rfl, _⟩ := hu
  obtain ⟨a', cap', rfl, _⟩ := hu'
  obtain ⟨l, hl1⟩ : ∃ l, bs.length = l := ⟨_, rfl⟩
  rw [hl1] at hC ⊢
  clear hm hl1
  obtain ⟨W0, hW0⟩ : ∃ W0, W0 = (w.alloc (.cells #[.int .i64 s, .slice a l cap] 67)).alloc (.cells #[.int .i64 s, .slice a' l cap'] 67) := ⟨_, rfl⟩
  have hb0 : Below w.heap.size w W0 := by rw [hW0]; (repeat (first | exact Below.refl _ _ | assumption | refine bchain (by assumption) ?_ | refine balloc ?_ _ | apply Below.drew | apply below_drewN | (refine Below.alloc ?_ (by (try simp) <;> omega) _) | (refine Below.setCell ?_ (by (try simp) <;> omega) _)))
  have sz : ∀ (W : World) (o : Obj), (W.alloc o).heap.size = W.heap.size + 1 := fun W o => by simp
  have k0 : CB W0 w.heap.size s (.slice a l cap) := by rw [hW0]; exact (CB.made _ _ _ _).below (balloc (Below.refl _ _) _)
  have k1 : CB W0 (w.heap.size + 1) s (.slice a' l cap') := by rw [hW0, ← sz w (.cells #[.int .i64 s, .slice a l cap] 67)]; exact CB.made _ _ _ _
  replace hW0 := Lib.hid hW0
  clear sz
  obtain ⟨_, x0, x1, _⟩ := id k0
  obtain ⟨_, y0, y1, _⟩ := id k1
  go_enter Try.func27, Try.ntmps27
  go_wp2_with fail
  rw [← hW0.out]
  go_wp2_with fail
  refine (hC.out _ hb0).mono ?_
  rintro r1 w1 ⟨rfl, hb1⟩
  go_wp2
  go_ret
  exact ⟨rfl, bchain hb1 hb0⟩
set_option maxHeartbeats 2000000 in
theorem toC_any (v : Value) (Y : CM) (h : CtS w v Y) (hm : tC Y ≤ 1048576) :
    Calls Try.prog 25 #[v] w fun r w' => (∃ u, r = .returned (.agg #[.int .i64 Y.s, u]) ∧ OwnB w.heap.size w' u Y.bs) ∧ Below w.heap.size w w' := by
  obtain ⟨s, bs⟩ := Y
  obtain ⟨u, rfl, hu⟩ := h
  unfold tC at hm
  dsimp only at *
  have hD := Lib.hid (fun W (hb : Below w.heap.size w W) => toBS_any W u bs (hu.below hb) hm)
  obtain ⟨a, cap, rfl, _⟩ := hu
  clear hm
  obtain ⟨l, hl⟩ : ∃ l, bs.length = l := ⟨_, rfl⟩
  rw [hl] at hD ⊢
  replace hl := Lib.hid hl
  obtain ⟨W4, hW4⟩ : ∃ W4, W4 = ((w.alloc (.cells #[.int .i64 s, .slice a l cap] 62)).alloc (.cells #[.int .i64 0, .slice none 0 0] 67)).alloc (.cells #[.int .i64 s, .slice none 0 0] 67) := ⟨_, rfl⟩
  have ub : Below w.heap.size w W4 := by rw [hW4]; (repeat (first | exact Below.refl _ _ | assumption | refine bchain (by assumption) ?_ | refine balloc ?_ _ | apply Below.drew | apply below_drewN | (refine Below.alloc ?_ (by (try simp) <;> omega) _) | (refine Below.setCell ?_ (by (try simp) <;> omega) _)))
  have sz : ∀ (W : World) (o : Obj), (W.alloc o).heap.size = W.heap.size + 1 := fun W o => by simp
  have uA : CB W4 w.heap.size s (.slice a l cap) := by rw [hW4]; exact ((CB.made _ _ _ _).below (balloc (Below.refl _ _) _)).below (balloc (Below.refl _ _) _)
  have uR : CB W4 (w.heap.size + 1) 0 (.slice none 0 0) := by rw [hW4, ← sz w (.cells #[.int .i64 s, .slice a l cap] 62)]; exact (CB.made _ 0 _ 67).below (balloc (Below.refl _ _) _)
  have uO : CB W4 (w.heap.size + 1 + 1) s (.slice none 0 0) := by rw [hW4, ← sz w (.cells #[.int .i64 s, .slice a l cap] 62), ← sz _ (.cells #[.int .i64 0, .slice none 0 0] 67)]; exact CB.made _ s _ 67
  clear sz
  replace hW4 := Lib.hid hW4
  go_enter Try.func25, Try.ntmps25
  go_wp2_with fail
  rw [← hW4.out]
  refine (hD.out _ ub).mono ?_
  rintro r2 w2 ⟨⟨u2, rfl, hU⟩, hb2⟩
  obtain ⟨a2, c2, rfl, _⟩ := id hU
  rw [hl.out] at hU ⊢
  have hzO2 : w.heap.size + 1 + 1 < W4.heap.size := uO.lt
  have hzR2 : w.heap.size + 1 < W4.heap.size := uR.lt
  have hw4 : w.heap.size ≤ W4.heap.size := ub.size
  replace hU := Lib.hid hU
  replace uR := uR.below hb2
  replace uO := uO.below hb2
  replace ub := bchain hb2 ub
  clear hb2 hW4 uA
  obtain ⟨_, x0, x1, fR⟩ := id uR
  obtain ⟨_, y0, y1, fO⟩ := id uO
  obtain ⟨W5, hW5⟩ : ∃ W5, W5 = w2.setCell ⟨w.heap.size + 1 + 1, 1, none⟩ (.slice a2 l c2) := ⟨_, rfl⟩
  have vR : CB W5 (w.heap.size + 1) 0 (.slice none 0 0) := by rw [hW5]; exact uR.other _ (by show w.heap.size + 1 + 1 ≠ w.heap.size + 1; omega)
  have vb : Below w.heap.size w W5 := by rw [hW5]; exact ub.setCell (p := ⟨w.heap.size + 1 + 1, 1, none⟩) (by show w.heap.size ≤ w.heap.size + 1 + 1; omega) _
  have vU : Hid (OwnB W4.heap.size W5 (.slice a2 l c2) bs) := by rw [hW5]; exact hU.out.setS hzO2 y1
  have v1 := vR.put0 s
  have jF := v1.put1 (.slice a2 l c2)
  have jBB := (vb.setCell (p := ⟨w.heap.size + 1, 0, none⟩) (by show w.heap.size ≤ w.heap.size + 1; omega) (.int .i64 s)).setCell (p := ⟨w.heap.size + 1, 1, none⟩) (by show w.heap.size ≤ w.heap.size + 1; omega) (.slice a2 l c2)
  have jU := Lib.hid (OwnB.setS (OwnB.set0 vU.out hzR2 vR.c1 (x := .int .i64 s)) hzR2 v1.c1 (x := .slice a2 l c2))
  clear uR uO ub hU vR vb vU v1
  go_wp2
  rw [← hW5]
  obtain ⟨WW, hWW⟩ : ∃ WW, WW = (W5.setCell ⟨w.heap.size + 1, 0, none⟩ (.int .i64 s)).setCell ⟨w.heap.size + 1, 1, none⟩ (.slice a2 l c2) := ⟨_, rfl⟩
  rw [← hWW] at jF jBB jU ⊢
  clear hWW hW5
  obtain ⟨_, v0, v1, _⟩ := jF
  exact bodyPost_ret (v := .agg #[.int .i64 s, .slice a2 l c2]) (by simp [results, Try.results25, go_sem, v0, v1]) rfl ⟨⟨_, rfl, OwnB.mono jU.out hw4⟩, jBB⟩
end
end Go.Proofs.Ytfpoekdcedbciaa
