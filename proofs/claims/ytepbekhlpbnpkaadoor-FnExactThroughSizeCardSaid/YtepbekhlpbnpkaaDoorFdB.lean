/-
  FlagDensity and GraphDensity: both sides.
-/
import Derived.Test.YtepbekhlpbnpkaaDoorFd
namespace Go.Proofs.YtepbekhlpbnpkaaDoor
open Go.RowKit Go.Shelf
set_option maxRecDepth 100000
attribute [local go_sem] Oper.semAt_some
theorem fd0_made (w : World) (k0 n0 e0 k n e : Int) : Fd0 (((w.alloc (.cells #[.int .i64 k0, .int .i64 n0, .int .u32 e0] 34)).alloc (.cells #[.int .i64 k, .int .i64 n, .int .u32 e] 34)).alloc (.cells #[.int .i64 0, .int .i64 0] 38)) w.heap.size k0 n0 e0 k n e := by
  obtain ⟨hF0, hG0⟩ := two_boxes w k0 n0 e0 k n e 34
  have hR0 := FqB.made ((w.alloc (.cells #[.int .i64 k0, .int .i64 n0, .int .u32 e0] 34)).alloc (.cells #[.int .i64 k, .int .i64 n, .int .u32 e] 34)) 0 0 38
  rw [World.size_alloc, World.size_alloc] at hR0
  exact ⟨hF0.below (balloc (Below.refl _ _) _), hG0.below (balloc (Below.refl _ _) _), hR0⟩
/-- a graph's box -/
structure GxB (W : World) (B : Nat) (n e : Int) : Prop where
  lt : B < W.heap.size
  c0 : W.cell? ⟨B, 0, none⟩ = some (.int .i64 n)
  c1 : W.cell? ⟨B, 1, none⟩ = some (.int .u32 e)
theorem GxB.below {W W' : World} {B : Nat} {n e : Int} (h : GxB W B n e) (hb : Below W.heap.size W W') : GxB W' B n e :=
  ⟨Nat.lt_of_lt_of_le h.lt hb.size, (hb.cell (p := ⟨B, 0, none⟩) h.lt).trans h.c0, (hb.cell (p := ⟨B, 1, none⟩) h.lt).trans h.c1⟩
theorem GxB.made (W : World) (n e : Int) (t : TypeId) : GxB (W.alloc (.cells #[.int .i64 n, .int .u32 e] t)) W.heap.size n e :=
  ⟨by simp, by rw [World.cell?_alloc_new]; rfl, by rw [World.cell?_alloc_new]; rfl⟩
structure Gd0 (w : World) (G : Nat) (n0 e0 n e : Int) : Prop where
  f : GxB w G n0 e0
  g : GxB w (G + 1) n e
  r : FqB w (G + 2) 0 0
theorem Gd0.below {w W : World} {G : Nat} {n0 e0 n e : Int} (h : Gd0 w G n0 e0 n e) (hb : Below w.heap.size w W) : Gd0 W G n0 e0 n e := ⟨h.f.below hb, h.g.below hb, h.r.below hb⟩
theorem gd0_made (w : World) (n0 e0 n e : Int) : Gd0 (((w.alloc (.cells #[.int .i64 n0, .int .u32 e0] 27)).alloc (.cells #[.int .i64 n, .int .u32 e] 27)).alloc (.cells #[.int .i64 0, .int .i64 0] 38)) w.heap.size n0 e0 n e := by
  have hG0 := GxB.made (w.alloc (.cells #[.int .i64 n0, .int .u32 e0] 27)) n e 27
  rw [World.size_alloc] at hG0
  have hR0 := FqB.made ((w.alloc (.cells #[.int .i64 n0, .int .u32 e0] 27)).alloc (.cells #[.int .i64 n, .int .u32 e] 27)) 0 0 38
  rw [World.size_alloc, World.size_alloc] at hR0
  exact ⟨((GxB.made w n0 e0 _).below (balloc (Below.refl _ _) _)).below (balloc (Below.refl _ _) _), hG0.below (balloc (Below.refl _ _) _), hR0⟩
section
variable (w : World)
theorem ifdn_err (k0 n0 e0 k n e c : Int) (hc : c = 1 ∨ c = 4 ∨ c = 2) (hC : ∀ W, Calls Tryd.prog 49 #[.agg #[.int .i64 k0, .int .i64 n0, .int .u32 e0], .agg #[.int .i64 k, .int .i64 n, .int .u32 e]] W fun r w' => r = .returned (.int .i64 c) ∧ Below W.heap.size W w') :
    Calls Tryd.prog 20 #[.agg #[.int .i64 k0, .int .i64 n0, .int .u32 e0], .agg #[.int .i64 k, .int .i64 n, .int .u32 e]] w fun r w' => r = .returned (.tuple #[.agg #[.int .i64 0, .int .i64 0], .int .i64 c]) ∧ Below w.heap.size w w' := by
  replace hC := Lib.hid hC
  have kk0 := Lib.hid (fd0_made w k0 n0 e0 k n e)
  rcases hc with rfl | rfl | rfl
  all_goals
    go_enter Tryd.func20, Tryd.ntmps20
    go_wp2_with fail
    refine (hC.out _).mono ?_
    rintro r3 w3 ⟨rfl, hb3⟩
    have kk := kk0.out.below hb3
    obtain ⟨_, z0, z1, z2⟩ := id kk.r
    have z20 := z2 0
    have z21 := z2 1
    obtain ⟨_, F0, F1, _⟩ := kk.r.put 0 0
    go_wp2
    exact bodyPost_ret (v := .tuple #[.agg #[.int .i64 0, .int .i64 0], .int .i64 _]) (by simp [results, Tryd.results20, go_sem, F0, F1] <;> rfl) rfl ⟨rfl, by (repeat (first | exact Below.refl _ _ | assumption | refine bchain (by assumption) ?_ | refine balloc ?_ _ | apply Below.drew | apply below_drewN | (refine Below.alloc ?_ (by (try simp) <;> omega) _) | (refine Below.setCell ?_ (by (try simp) <;> omega) _)))⟩
theorem sfdn_err (k0 n0 e0 k n e c : Int) (hc : c = 1 ∨ c = 4 ∨ c = 2) (hC : ∀ W, Calls Tryd.prog 47 #[.agg #[.int .i64 k0, .int .i64 n0, .int .u32 e0], .agg #[.int .i64 k, .int .i64 n, .int .u32 e]] W fun r w' => r = .returned (.int .i64 c) ∧ Below W.heap.size W w') :
    Calls Tryd.prog 19 #[.agg #[.int .i64 k0, .int .i64 n0, .int .u32 e0], .agg #[.int .i64 k, .int .i64 n, .int .u32 e]] w fun r w' => r = .returned (.tuple #[.agg #[.int .i64 0, .int .i64 0], .int .i64 c]) ∧ Below w.heap.size w w' := by
  replace hC := Lib.hid hC
  have kk0 := Lib.hid (fd0_made w k0 n0 e0 k n e)
  rcases hc with rfl | rfl | rfl
  all_goals
    go_enter Tryd.func19, Tryd.ntmps19
    go_wp2_with fail
    refine (hC.out _).mono ?_
    rintro r3 w3 ⟨rfl, hb3⟩
    have kk := kk0.out.below hb3
    obtain ⟨_, z0, z1, z2⟩ := id kk.r
    have z20 := z2 0
    have z21 := z2 1
    obtain ⟨_, F0, F1, _⟩ := kk.r.put 0 0
    go_wp2
    exact bodyPost_ret (v := .tuple #[.agg #[.int .i64 0, .int .i64 0], .int .i64 _]) (by simp [results, Tryd.results19, go_sem, F0, F1] <;> rfl) rfl ⟨rfl, by (repeat (first | exact Below.refl _ _ | assumption | refine bchain (by assumption) ?_ | refine balloc ?_ _ | apply Below.drew | apply below_drewN | (refine Below.alloc ?_ (by (try simp) <;> omega) _) | (refine Below.setCell ?_ (by (try simp) <;> omega) _)))⟩
theorem ifdn_ok (k n0 e0 n e : Nat) (h : VK k n e) (h0 : VK k n0 e0) (hle : n0 ≤ n) (hT : TabZ w) (hC : ∀ W, Calls Tryd.prog 49 #[.agg #[.int .i64 k, .int .i64 n0, .int .u32 e0], .agg #[.int .i64 k, .int .i64 n, .int .u32 e]] W fun r w' => r = .returned (.int .i64 0) ∧ Below W.heap.size W w') :
    Calls Tryd.prog 20 #[.agg #[.int .i64 k, .int .i64 n0, .int .u32 e0], .agg #[.int .i64 k, .int .i64 n, .int .u32 e]] w fun r w' => r = .returned (.tuple #[.agg #[.int .i64 (fdF k n e n0 e0).1, .int .i64 (fdF k n e n0 e0).2], .int .i64 0]) ∧ Below w.heap.size w w' := by
  replace hC := Lib.hid hC
  have hF := Lib.hid (fun W (hW : Below w.heap.size w W) => ifd_any W k n e n0 e0 h h0 hle (hT.below hW))
  obtain ⟨x, hx⟩ : ∃ x, (fdF k n e n0 e0).1 = x := ⟨_, rfl⟩
  obtain ⟨y, hy⟩ : ∃ x, (fdF k n e n0 e0).2 = x := ⟨_, rfl⟩
  rw [hx, hy] at hF ⊢
  have kk0 := Lib.hid (fd0_made w k n0 e0 k n e)
  clear hx hy
  go_enter Tryd.func20, Tryd.ntmps20
  go_wp2_with fail
  refine (hC.out _).mono ?_
  rintro r3 w3 ⟨rfl, hb3⟩
  have kk := kk0.out.below hb3
  obtain ⟨f0, f1, f2, f3⟩ := id kk.f
  obtain ⟨g0, g1, g2, g3⟩ := id kk.g
  replace kk := Lib.hid kk
  go_wp2_with fail
  refine (hF.out _ (by (repeat (first | exact Below.refl _ _ | assumption | refine bchain (by assumption) ?_ | refine balloc ?_ _ | apply Below.drew | apply below_drewN | (refine Below.alloc ?_ (by (try simp) <;> omega) _) | (refine Below.setCell ?_ (by (try simp) <;> omega) _))))).mono ?_
  rintro r4 w4 ⟨rfl, hb4⟩
  have k4 := kk.out.below hb4
  obtain ⟨_, z0, z1, z2⟩ := id k4.r
  have z20 := z2 0
  have z21 := z2 1
  obtain ⟨_, F0, F1, _⟩ := k4.r.put x y
  go_wp2
  exact bodyPost_ret (v := .tuple #[.agg #[.int .i64 x, .int .i64 y], .int .i64 0]) (by simp [results, Tryd.results20, go_sem, F0, F1]) rfl ⟨rfl, by (repeat (first | exact Below.refl _ _ | assumption | refine bchain (by assumption) ?_ | refine balloc ?_ _ | apply Below.drew | apply below_drewN | (refine Below.alloc ?_ (by (try simp) <;> omega) _) | (refine Below.setCell ?_ (by (try simp) <;> omega) _)))⟩
theorem sfdn_ok (k n0 e0 n e : Nat) (h : VK k n e) (h0 : VK k n0 e0) (hle : n0 ≤ n) (hC : ∀ W, Calls Tryd.prog 47 #[.agg #[.int .i64 k, .int .i64 n0, .int .u32 e0], .agg #[.int .i64 k, .int .i64 n, .int .u32 e]] W fun r w' => r = .returned (.int .i64 0) ∧ Below W.heap.size W w') :
    Calls Tryd.prog 19 #[.agg #[.int .i64 k, .int .i64 n0, .int .u32 e0], .agg #[.int .i64 k, .int .i64 n, .int .u32 e]] w fun r w' => r = .returned (.tuple #[.agg #[.int .i64 (fdF k n e n0 e0).1, .int .i64 (fdF k n e n0 e0).2], .int .i64 0]) ∧ Below w.heap.size w w' := by
  replace hC := Lib.hid hC
  have hF := Lib.hid (fun W => sfd_any W k n e n0 e0 h h0 hle)
  obtain ⟨x, hx⟩ : ∃ x, (fdF k n e n0 e0).1 = x := ⟨_, rfl⟩
  obtain ⟨y, hy⟩ : ∃ x, (fdF k n e n0 e0).2 = x := ⟨_, rfl⟩
  rw [hx, hy] at hF ⊢
  have kk0 := Lib.hid (fd0_made w k n0 e0 k n e)
  clear hx hy
  go_enter Tryd.func19, Tryd.ntmps19
  go_wp2_with fail
  refine (hC.out _).mono ?_
  rintro r3 w3 ⟨rfl, hb3⟩
  have kk := kk0.out.below hb3
  obtain ⟨f0, f1, f2, f3⟩ := id kk.f
  obtain ⟨g0, g1, g2, g3⟩ := id kk.g
  replace kk := Lib.hid kk
  go_wp2_with fail
  refine (hF.out _).mono ?_
  rintro r4 w4 ⟨rfl, hb4⟩
  have k4 := kk.out.below hb4
  obtain ⟨_, z0, z1, z2⟩ := id k4.r
  have z20 := z2 0
  have z21 := z2 1
  obtain ⟨_, F0, F1, _⟩ := k4.r.put x y
  go_wp2
  exact bodyPost_ret (v := .tuple #[.agg #[.int .i64 x, .int .i64 y], .int .i64 0]) (by simp [results, Tryd.results19, go_sem, F0, F1]) rfl ⟨rfl, by (repeat (first | exact Below.refl _ _ | assumption | refine bchain (by assumption) ?_ | refine balloc ?_ _ | apply Below.drew | apply below_drewN | (refine Below.alloc ?_ (by (try simp) <;> omega) _) | (refine Below.setCell ?_ (by (try simp) <;> omega) _)))⟩
end
theorem fdn_both (k0 n0 e0 k n e : Int) (he0 : e0 < 4294967296) (h00 : 0 ≤ e0) (he : e < 4294967296) (h0 : 0 ≤ e) : ∃ x y c : Int,
    (∀ W, Calls Tryd.prog 19 #[.agg #[.int .i64 k0, .int .i64 n0, .int .u32 e0], .agg #[.int .i64 k, .int .i64 n, .int .u32 e]] W fun r w' => r = .returned (.tuple #[.agg #[.int .i64 x, .int .i64 y], .int .i64 c]) ∧ Below W.heap.size W w') ∧
    (∀ W, TabZ W → Calls Tryd.prog 20 #[.agg #[.int .i64 k0, .int .i64 n0, .int .u32 e0], .agg #[.int .i64 k, .int .i64 n, .int .u32 e]] W fun r w' => r = .returned (.tuple #[.agg #[.int .i64 x, .int .i64 y], .int .i64 c]) ∧ Below W.heap.size W w') := by
  obtain ⟨c, hi, hs, hc⟩ := cp_both k0 n0 e0 k n e he0 h00 he h0
  rcases hc with hc | ⟨rfl, K, N0, E0, N, E, rfl, rfl, rfl, rfl, rfl, rfl, hv0, hv, hle⟩
  · exact ⟨0, 0, c, fun W => sfdn_err W k0 n0 e0 k n e c hc hs, fun W _ => ifdn_err W k0 n0 e0 k n e c hc hi⟩
  · exact ⟨_, _, 0, fun W => sfdn_ok W K N0 E0 N E hv hv0 hle hs, fun W hT => ifdn_ok W K N0 E0 N E hv hv0 hle hT hi⟩
theorem vk_zero {n e : Nat} (h : VG n e) : VK ((0 : Nat) : Int) n e := ⟨h, by omega, by omega, by have := h.1; omega⟩
section
variable (w : World)
theorem igdp_any (n0 e0 n e : Nat) (h : VG n e) (h0 : VG n0 e0) (hle : n0 ≤ n) (hT : TabZ w) :
    Calls Tryd.prog 63 #[.agg #[.int .i64 n0, .int .u32 e0], .agg #[.int .i64 n, .int .u32 e]] w fun r w' => r = .returned (.agg #[.int .i64 (fdF 0 n e n0 e0).1, .int .i64 (fdF 0 n e n0 e0).2]) ∧ Below w.heap.size w w' := by
  have hF := Lib.hid (fun W (hW : Below w.heap.size w W) => (show Calls Tryd.prog 52 #[.agg #[.int .i64 0, .int .i64 n0, .int .u32 e0], .agg #[.int .i64 0, .int .i64 n, .int .u32 e]] W fun r w' => r = .returned (.agg #[.int .i64 (fdF 0 n e n0 e0).1, .int .i64 (fdF 0 n e n0 e0).2]) ∧ Below W.heap.size W w' from ifd_any W 0 n e n0 e0 (vk_zero h) (vk_zero h0) hle (hT.below hW)))
  obtain ⟨x, hx⟩ : ∃ x, (fdF 0 n e n0 e0).1 = x := ⟨_, rfl⟩
  obtain ⟨y, hy⟩ : ∃ x, (fdF 0 n e n0 e0).2 = x := ⟨_, rfl⟩
  rw [hx, hy] at hF ⊢
  have kk0 := Lib.hid (gd0_made w n0 e0 n e)
  clear hx hy
  go_enter Tryd.func63, Tryd.ntmps63
  go_wp2_with fail
  refine (hF.out _ (by (repeat (first | exact Below.refl _ _ | assumption | refine bchain (by assumption) ?_ | refine balloc ?_ _ | apply Below.drew | apply below_drewN | (refine Below.alloc ?_ (by (try simp) <;> omega) _) | (refine Below.setCell ?_ (by (try simp) <;> omega) _))))).mono ?_
  rintro r4 w4 ⟨rfl, hb4⟩
  have k4 := kk0.out.below hb4
  obtain ⟨_, z0, z1, z2⟩ := id k4.r
  have z20 := z2 0
  have z21 := z2 1
  obtain ⟨_, F0, F1, _⟩ := k4.r.put x y
  go_wp2
  exact bodyPost_ret (v := .agg #[.int .i64 x, .int .i64 y]) (by simp [results, Tryd.results63, go_sem, F0, F1]) rfl ⟨rfl, by (repeat (first | exact Below.refl _ _ | assumption | refine bchain (by assumption) ?_ | refine balloc ?_ _ | apply Below.drew | apply below_drewN | (refine Below.alloc ?_ (by (try simp) <;> omega) _) | (refine Below.setCell ?_ (by (try simp) <;> omega) _)))⟩
end
section
variable (w : World)
theorem igd_inv1 (n0 e0 n e : Int) (he0 : e0 < 4294967296) (h00 : 0 ≤ e0) (h0 : ¬ VG n0 e0) :
    Calls Tryd.prog 27 #[.agg #[.int .i64 n0, .int .u32 e0], .agg #[.int .i64 n, .int .u32 e]] w fun r w' => r = .returned (.tuple #[.agg #[.int .i64 0, .int .i64 0], .int .i64 1]) ∧ Below w.heap.size w w' := by
  have hV := Lib.hid (fun W => valid_f W n0 e0 he0 h00 h0)
  have kk0 := Lib.hid (gd0_made w n0 e0 n e)
  clear he0 h00 h0
  go_enter Tryd.func27, Tryd.ntmps27
  go_wp2_with fail
  refine (hV.out _).mono ?_
  rintro r3 w3 ⟨rfl, hb3⟩
  have kk := kk0.out.below hb3
  obtain ⟨_, z0, z1, z2⟩ := id kk.r
  have z20 := z2 0
  have z21 := z2 1
  obtain ⟨_, F0, F1, _⟩ := kk.r.put 0 0
  go_wp2
  exact bodyPost_ret (v := .tuple #[.agg #[.int .i64 0, .int .i64 0], .int .i64 1]) (by simp [results, Tryd.results27, go_sem, F0, F1]) rfl ⟨rfl, by (repeat (first | exact Below.refl _ _ | assumption | refine bchain (by assumption) ?_ | refine balloc ?_ _ | apply Below.drew | apply below_drewN | (refine Below.alloc ?_ (by (try simp) <;> omega) _) | (refine Below.setCell ?_ (by (try simp) <;> omega) _)))⟩
theorem igd_inv2 (n0 e0 n e : Int) (h0 : VG n0 e0) (he : e < 4294967296) (h0' : 0 ≤ e) (h : ¬ VG n e) :
    Calls Tryd.prog 27 #[.agg #[.int .i64 n0, .int .u32 e0], .agg #[.int .i64 n, .int .u32 e]] w fun r w' => r = .returned (.tuple #[.agg #[.int .i64 0, .int .i64 0], .int .i64 1]) ∧ Below w.heap.size w w' := by
  have hV := Lib.hid (fun W => valid_t W n0 e0 h0)
  have kk0 := Lib.hid (gd0_made w n0 e0 n e)
  have hV2 := Lib.hid (fun W => valid_f W n e he h0' h)
  clear h0 he h0' h
  go_enter Tryd.func27, Tryd.ntmps27
  go_wp2_with fail
  refine (hV.out _).mono ?_
  rintro r3 w3 ⟨rfl, hb3⟩
  have kk := Lib.hid (kk0.out.below hb3)
  obtain ⟨g0, g1, g2⟩ := id kk.out.g
  go_wp2_with fail
  refine (hV2.out _).mono ?_
  rintro r4 w4 ⟨rfl, hb4⟩
  have k4 := kk.out.below hb4
  obtain ⟨_, z0, z1, z2⟩ := id k4.r
  have z20 := z2 0
  have z21 := z2 1
  obtain ⟨_, F0, F1, _⟩ := k4.r.put 0 0
  go_wp2
  exact bodyPost_ret (v := .tuple #[.agg #[.int .i64 0, .int .i64 0], .int .i64 1]) (by simp [results, Tryd.results27, go_sem, F0, F1]) rfl ⟨rfl, by (repeat (first | exact Below.refl _ _ | assumption | refine bchain (by assumption) ?_ | refine balloc ?_ _ | apply Below.drew | apply below_drewN | (refine Below.alloc ?_ (by (try simp) <;> omega) _) | (refine Below.setCell ?_ (by (try simp) <;> omega) _)))⟩
theorem igd_rng (n0 e0 n e : Int) (h0 : VG n0 e0) (h : VG n e) (hlt : n < n0) :
    Calls Tryd.prog 27 #[.agg #[.int .i64 n0, .int .u32 e0], .agg #[.int .i64 n, .int .u32 e]] w fun r w' => r = .returned (.tuple #[.agg #[.int .i64 0, .int .i64 0], .int .i64 2]) ∧ Below w.heap.size w w' := by
  have hV := Lib.hid (fun W => valid_t W n0 e0 h0)
  have kk0 := Lib.hid (gd0_made w n0 e0 n e)
  have hV2 := Lib.hid (fun W => valid_t W n e h)
  have hd := decide_eq_true hlt
  clear h0 h
  go_enter Tryd.func27, Tryd.ntmps27
  go_wp2_with fail
  refine (hV.out _).mono ?_
  rintro r3 w3 ⟨rfl, hb3⟩
  have kk := Lib.hid (kk0.out.below hb3)
  obtain ⟨g0, g1, g2⟩ := id kk.out.g
  go_wp2_with fail
  refine (hV2.out _).mono ?_
  rintro r4 w4 ⟨rfl, hb4⟩
  have k4 := kk.out.below hb4
  obtain ⟨f0, f1, f2⟩ := id k4.f
  obtain ⟨y0, y1, y2⟩ := id k4.g
  obtain ⟨_, z0, z1, z2⟩ := id k4.r
  have z20 := z2 0
  have z21 := z2 1
  obtain ⟨_, F0, F1, _⟩ := k4.r.put 0 0
  go_wp2
  exact bodyPost_ret (v := .tuple #[.agg #[.int .i64 0, .int .i64 0], .int .i64 2]) (by simp [results, Tryd.results27, go_sem, F0, F1]) rfl ⟨rfl, by (repeat (first | exact Below.refl _ _ | assumption | refine bchain (by assumption) ?_ | refine balloc ?_ _ | apply Below.drew | apply below_drewN | (refine Below.alloc ?_ (by (try simp) <;> omega) _) | (refine Below.setCell ?_ (by (try simp) <;> omega) _)))⟩
theorem igd_ok (n0 e0 n e : Nat) (h0 : VG n0 e0) (h : VG n e) (hle : n0 ≤ n) (hT : TabZ w) :
    Calls Tryd.prog 27 #[.agg #[.int .i64 n0, .int .u32 e0], .agg #[.int .i64 n, .int .u32 e]] w fun r w' => r = .returned (.tuple #[.agg #[.int .i64 (fdF 0 n e n0 e0).1, .int .i64 (fdF 0 n e n0 e0).2], .int .i64 0]) ∧ Below w.heap.size w w' := by
  have hV := Lib.hid (fun W => valid_t W n0 e0 h0)
  have kk0 := Lib.hid (gd0_made w n0 e0 n e)
  have hV2 := Lib.hid (fun W => valid_t W n e h)
  have hd := decide_eq_false (show ¬ ((n : Int) < (n0 : Int)) by omega)
  have hF := Lib.hid (fun W (hW : Below w.heap.size w W) => igdp_any W n0 e0 n e h h0 hle (hT.below hW))
  obtain ⟨x, hx⟩ : ∃ x, (fdF 0 n e n0 e0).1 = x := ⟨_, rfl⟩
  obtain ⟨y, hy⟩ : ∃ x, (fdF 0 n e n0 e0).2 = x := ⟨_, rfl⟩
  rw [hx, hy] at hF ⊢
  clear h0 h hx hy
  go_enter Tryd.func27, Tryd.ntmps27
  go_wp2_with fail
  refine (hV.out _).mono ?_
  rintro r3 w3 ⟨rfl, hb3⟩
  have kk := Lib.hid (kk0.out.below hb3)
  obtain ⟨g0, g1, g2⟩ := id kk.out.g
  go_wp2_with fail
  refine (hV2.out _).mono ?_
  rintro r4 w4 ⟨rfl, hb4⟩
  have k4 := kk.out.below hb4
  obtain ⟨f0, f1, f2⟩ := id k4.f
  obtain ⟨y0, y1, y2⟩ := id k4.g
  replace k4 := Lib.hid k4
  go_wp2_with fail
  refine (hF.out _ (by (repeat (first | exact Below.refl _ _ | assumption | refine bchain (by assumption) ?_ | refine balloc ?_ _ | apply Below.drew | apply below_drewN | (refine Below.alloc ?_ (by (try simp) <;> omega) _) | (refine Below.setCell ?_ (by (try simp) <;> omega) _))))).mono ?_
  rintro r5 w5 ⟨rfl, hb5⟩
  have k5 := k4.out.below hb5
  obtain ⟨_, z0, z1, z2⟩ := id k5.r
  have z20 := z2 0
  have z21 := z2 1
  obtain ⟨_, F0, F1, _⟩ := k5.r.put x y
  go_wp2
  exact bodyPost_ret (v := .tuple #[.agg #[.int .i64 x, .int .i64 y], .int .i64 0]) (by simp [results, Tryd.results27, go_sem, F0, F1]) rfl ⟨rfl, by (repeat (first | exact Below.refl _ _ | assumption | refine bchain (by assumption) ?_ | refine balloc ?_ _ | apply Below.drew | apply below_drewN | (refine Below.alloc ?_ (by (try simp) <;> omega) _) | (refine Below.setCell ?_ (by (try simp) <;> omega) _)))⟩
theorem sgd_inv1 (n0 e0 n e : Int) (he0 : e0 < 4294967296) (h00 : 0 ≤ e0) (h0 : ¬ VG n0 e0) :
    Calls Tryd.prog 26 #[.agg #[.int .i64 n0, .int .u32 e0], .agg #[.int .i64 n, .int .u32 e]] w fun r w' => r = .returned (.tuple #[.agg #[.int .i64 0, .int .i64 0], .int .i64 1]) ∧ Below w.heap.size w w' := by
  have hV := Lib.hid (fun W => ok_f W n0 e0 he0 h00 h0)
  have kk0 := Lib.hid (gd0_made w n0 e0 n e)
  clear he0 h00 h0
  go_enter Tryd.func26, Tryd.ntmps26
  go_wp2_with fail
  refine (hV.out _).mono ?_
  rintro r3 w3 ⟨rfl, hb3⟩
  have kk := kk0.out.below hb3
  obtain ⟨_, z0, z1, z2⟩ := id kk.r
  have z20 := z2 0
  have z21 := z2 1
  obtain ⟨_, F0, F1, _⟩ := kk.r.put 0 0
  go_wp2
  exact bodyPost_ret (v := .tuple #[.agg #[.int .i64 0, .int .i64 0], .int .i64 1]) (by simp [results, Tryd.results26, go_sem, F0, F1]) rfl ⟨rfl, by (repeat (first | exact Below.refl _ _ | assumption | refine bchain (by assumption) ?_ | refine balloc ?_ _ | apply Below.drew | apply below_drewN | (refine Below.alloc ?_ (by (try simp) <;> omega) _) | (refine Below.setCell ?_ (by (try simp) <;> omega) _)))⟩
theorem sgd_inv2 (n0 e0 n e : Int) (h0 : VG n0 e0) (he : e < 4294967296) (h0' : 0 ≤ e) (h : ¬ VG n e) :
    Calls Tryd.prog 26 #[.agg #[.int .i64 n0, .int .u32 e0], .agg #[.int .i64 n, .int .u32 e]] w fun r w' => r = .returned (.tuple #[.agg #[.int .i64 0, .int .i64 0], .int .i64 1]) ∧ Below w.heap.size w w' := by
  have hV := Lib.hid (fun W => ok_t W n0 e0 h0)
  have kk0 := Lib.hid (gd0_made w n0 e0 n e)
  have hV2 := Lib.hid (fun W => ok_f W n e he h0' h)
  clear h0 he h0' h
  go_enter Tryd.func26, Tryd.ntmps26
  go_wp2_with fail
  refine (hV.out _).mono ?_
  rintro r3 w3 ⟨rfl, hb3⟩
  have kk := Lib.hid (kk0.out.below hb3)
  obtain ⟨g0, g1, g2⟩ := id kk.out.g
  go_wp2_with fail
  refine (hV2.out _).mono ?_
  rintro r4 w4 ⟨rfl, hb4⟩
  have k4 := kk.out.below hb4
  obtain ⟨_, z0, z1, z2⟩ := id k4.r
  have z20 := z2 0
  have z21 := z2 1
  obtain ⟨_, F0, F1, _⟩ := k4.r.put 0 0
  go_wp2
  exact bodyPost_ret (v := .tuple #[.agg #[.int .i64 0, .int .i64 0], .int .i64 1]) (by simp [results, Tryd.results26, go_sem, F0, F1]) rfl ⟨rfl, by (repeat (first | exact Below.refl _ _ | assumption | refine bchain (by assumption) ?_ | refine balloc ?_ _ | apply Below.drew | apply below_drewN | (refine Below.alloc ?_ (by (try simp) <;> omega) _) | (refine Below.setCell ?_ (by (try simp) <;> omega) _)))⟩
theorem sgd_rng (n0 e0 n e : Int) (h0 : VG n0 e0) (h : VG n e) (hlt : n < n0) :
    Calls Tryd.prog 26 #[.agg #[.int .i64 n0, .int .u32 e0], .agg #[.int .i64 n, .int .u32 e]] w fun r w' => r = .returned (.tuple #[.agg #[.int .i64 0, .int .i64 0], .int .i64 2]) ∧ Below w.heap.size w w' := by
  have hV := Lib.hid (fun W => ok_t W n0 e0 h0)
  have kk0 := Lib.hid (gd0_made w n0 e0 n e)
  have hV2 := Lib.hid (fun W => ok_t W n e h)
  have hd := decide_eq_true hlt
  clear h0 h
  go_enter Tryd.func26, Tryd.ntmps26
  go_wp2_with fail
  refine (hV.out _).mono ?_
  rintro r3 w3 ⟨rfl, hb3⟩
  have kk := Lib.hid (kk0.out.below hb3)
  obtain ⟨g0, g1, g2⟩ := id kk.out.g
  go_wp2_with fail
  refine (hV2.out _).mono ?_
  rintro r4 w4 ⟨rfl, hb4⟩
  have k4 := kk.out.below hb4
  obtain ⟨f0, f1, f2⟩ := id k4.f
  obtain ⟨y0, y1, y2⟩ := id k4.g
  obtain ⟨_, z0, z1, z2⟩ := id k4.r
  have z20 := z2 0
  have z21 := z2 1
  obtain ⟨_, F0, F1, _⟩ := k4.r.put 0 0
  go_wp2
  exact bodyPost_ret (v := .tuple #[.agg #[.int .i64 0, .int .i64 0], .int .i64 2]) (by simp [results, Tryd.results26, go_sem, F0, F1]) rfl ⟨rfl, by (repeat (first | exact Below.refl _ _ | assumption | refine bchain (by assumption) ?_ | refine balloc ?_ _ | apply Below.drew | apply below_drewN | (refine Below.alloc ?_ (by (try simp) <;> omega) _) | (refine Below.setCell ?_ (by (try simp) <;> omega) _)))⟩
theorem sgd_ok (n0 e0 n e : Nat) (h0 : VG n0 e0) (h : VG n e) (hle : n0 ≤ n) :
    Calls Tryd.prog 26 #[.agg #[.int .i64 n0, .int .u32 e0], .agg #[.int .i64 n, .int .u32 e]] w fun r w' => r = .returned (.tuple #[.agg #[.int .i64 (fdF 0 n e n0 e0).1, .int .i64 (fdF 0 n e n0 e0).2], .int .i64 0]) ∧ Below w.heap.size w w' := by
  have hV := Lib.hid (fun W => ok_t W n0 e0 h0)
  have kk0 := Lib.hid (gd0_made w n0 e0 n e)
  have hV2 := Lib.hid (fun W => ok_t W n e h)
  have hd := decide_eq_false (show ¬ ((n : Int) < (n0 : Int)) by omega)
  have hF := Lib.hid (fun W => (show Calls Tryd.prog 51 #[.agg #[.int .i64 0, .int .i64 n0, .int .u32 e0], .agg #[.int .i64 0, .int .i64 n, .int .u32 e]] W fun r w' => r = .returned (.agg #[.int .i64 (fdF 0 n e n0 e0).1, .int .i64 (fdF 0 n e n0 e0).2]) ∧ Below W.heap.size W w' from sfd_any W 0 n e n0 e0 (vk_zero h) (vk_zero h0) hle))
  obtain ⟨x, hx⟩ : ∃ x, (fdF 0 n e n0 e0).1 = x := ⟨_, rfl⟩
  obtain ⟨y, hy⟩ : ∃ x, (fdF 0 n e n0 e0).2 = x := ⟨_, rfl⟩
  rw [hx, hy] at hF ⊢
  clear h0 h hx hy
  go_enter Tryd.func26, Tryd.ntmps26
  go_wp2_with fail
  refine (hV.out _).mono ?_
  rintro r3 w3 ⟨rfl, hb3⟩
  have kk := Lib.hid (kk0.out.below hb3)
  obtain ⟨g0, g1, g2⟩ := id kk.out.g
  go_wp2_with fail
  refine (hV2.out _).mono ?_
  rintro r4 w4 ⟨rfl, hb4⟩
  have k4 := kk.out.below hb4
  obtain ⟨f0, f1, f2⟩ := id k4.f
  obtain ⟨y0, y1, y2⟩ := id k4.g
  replace k4 := Lib.hid k4
  go_wp2_with fail
  refine (hF.out _).mono ?_
  rintro r5 w5 ⟨rfl, hb5⟩
  have k5 := k4.out.below hb5
  obtain ⟨_, z0, z1, z2⟩ := id k5.r
  have z20 := z2 0
  have z21 := z2 1
  obtain ⟨_, F0, F1, _⟩ := k5.r.put x y
  go_wp2
  exact bodyPost_ret (v := .tuple #[.agg #[.int .i64 x, .int .i64 y], .int .i64 0]) (by simp [results, Tryd.results26, go_sem, F0, F1]) rfl ⟨rfl, by (repeat (first | exact Below.refl _ _ | assumption | refine bchain (by assumption) ?_ | refine balloc ?_ _ | apply Below.drew | apply below_drewN | (refine Below.alloc ?_ (by (try simp) <;> omega) _) | (refine Below.setCell ?_ (by (try simp) <;> omega) _)))⟩
end
theorem gdn_both (n0 e0 n e : Int) (he0 : e0 < 4294967296) (h00 : 0 ≤ e0) (he : e < 4294967296) (h0 : 0 ≤ e) : ∃ x y c : Int,
    (∀ W, Calls Tryd.prog 26 #[.agg #[.int .i64 n0, .int .u32 e0], .agg #[.int .i64 n, .int .u32 e]] W fun r w' => r = .returned (.tuple #[.agg #[.int .i64 x, .int .i64 y], .int .i64 c]) ∧ Below W.heap.size W w') ∧
    (∀ W, TabZ W → Calls Tryd.prog 27 #[.agg #[.int .i64 n0, .int .u32 e0], .agg #[.int .i64 n, .int .u32 e]] W fun r w' => r = .returned (.tuple #[.agg #[.int .i64 x, .int .i64 y], .int .i64 c]) ∧ Below W.heap.size W w') := by
  by_cases h1 : VG n0 e0
  · by_cases h2 : VG n e
    · by_cases h3 : n < n0
      · exact ⟨0, 0, 2, fun W => sgd_rng W n0 e0 n e h1 h2 h3, fun W _ => igd_rng W n0 e0 n e h1 h2 h3⟩
      · obtain ⟨N0, rfl⟩ : ∃ x : Nat, n0 = x := ⟨n0.toNat, by have := h1.1; omega⟩
        obtain ⟨E0, rfl⟩ : ∃ x : Nat, e0 = x := ⟨e0.toNat, by omega⟩
        obtain ⟨N, rfl⟩ : ∃ x : Nat, n = x := ⟨n.toNat, by have := h2.1; omega⟩
        obtain ⟨E, rfl⟩ : ∃ x : Nat, e = x := ⟨e.toNat, by omega⟩
        exact ⟨_, _, 0, fun W => sgd_ok W N0 E0 N E h1 h2 (by omega), fun W hT => igd_ok W N0 E0 N E h1 h2 (by omega) hT⟩
    · exact ⟨0, 0, 1, fun W => sgd_inv2 W n0 e0 n e h1 he h0 h2, fun W _ => igd_inv2 W n0 e0 n e h1 he h0 h2⟩
  · exact ⟨0, 0, 1, fun W => sgd_inv1 W n0 e0 n e he0 h00 h1, fun W _ => igd_inv1 W n0 e0 n e he0 h00 h1⟩
end Go.Proofs.YtepbekhlpbnpkaaDoor
