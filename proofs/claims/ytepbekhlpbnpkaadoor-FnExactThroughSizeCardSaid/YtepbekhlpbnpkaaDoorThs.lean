/-
  ThroughSize: the model.
-/
import Derived.Test.YtepbekhlpbnpkaaDoorThA
import Derived.Test.YtepbekhlpbnpkaaDoorFdl
import Derived.Test.YtepbekhlpbnpkaaDoorFdB
import Derived.Deep.RegionHeld3
import Derived.Deep.DeepCutAuto
namespace Go.Proofs.YtepbekhlpbnpkaaDoor
open Go.RowKit Go.Shelf
set_option maxRecDepth 100000
attribute [local go_sem] Oper.semAt_some
/-- what the model's test of the types answers -/
def CtS (k0 n0 e0 k n e c : Int) : Prop := ∀ W, Calls Tryd.prog 69 #[.agg #[.int .i64 k0, .int .i64 n0, .int .u32 e0], .agg #[.int .i64 k, .int .i64 n, .int .u32 e]] W fun r w' => r = .returned (.int .i64 c) ∧ Below W.heap.size W w'
section
variable (w : World)
theorem sthr_err (k0 n0 e0 k n e h c : Int) (hc : c = 1 ∨ c = 4) (hC : CtS k0 n0 e0 k n e c) :
    Calls Tryd.prog 33 #[.agg #[.int .i64 k0, .int .i64 n0, .int .u32 e0], .agg #[.int .i64 k, .int .i64 n, .int .u32 e], .int .i64 h] w fun r w' => r = .returned (.tuple #[.agg #[.int .i64 0, .int .i64 0], .int .i64 c]) ∧ Below w.heap.size w w' := by
  unfold CtS at hC
  replace hC := Lib.hid hC
  have kk0 := Lib.hid (fd0_made w k0 n0 e0 k n e)
  rcases hc with rfl | rfl
  all_goals
    go_enter Tryd.func33, Tryd.ntmps33
    go_wp2_with fail
    refine (hC.out _).mono ?_
    rintro r3 w3 ⟨rfl, hb3⟩
    have kk := kk0.out.below hb3
    obtain ⟨_, z0, z1, z2⟩ := id kk.r
    have z20 := z2 0
    have z21 := z2 1
    obtain ⟨_, F0, F1, _⟩ := kk.r.put 0 0
    go_wp2
    exact bodyPost_ret (v := .tuple #[.agg #[.int .i64 0, .int .i64 0], .int .i64 _]) (by simp [results, Tryd.results33, go_sem, F0, F1] <;> rfl) rfl ⟨rfl, by (repeat (first | exact Below.refl _ _ | assumption | refine bchain (by assumption) ?_ | refine balloc ?_ _ | apply Below.drew | apply below_drewN | (refine Below.alloc ?_ (by (try simp) <;> omega) _) | (refine Below.setCell ?_ (by (try simp) <;> omega) _)))⟩
theorem sthr_rng (k0 n0 e0 k n e h : Int) (hlt : h < n0 ∨ n < h) (hC : CtS k0 n0 e0 k n e 0) :
    Calls Tryd.prog 33 #[.agg #[.int .i64 k0, .int .i64 n0, .int .u32 e0], .agg #[.int .i64 k, .int .i64 n, .int .u32 e], .int .i64 h] w fun r w' => r = .returned (.tuple #[.agg #[.int .i64 0, .int .i64 0], .int .i64 2]) ∧ Below w.heap.size w w' := by
  unfold CtS at hC
  replace hC := Lib.hid hC
  have kk0 := Lib.hid (fd0_made w k0 n0 e0 k n e)
  have hI := Lib.hid (fun W => in_f W h n0 n (by omega))
  clear hlt
  go_enter Tryd.func33, Tryd.ntmps33
  go_wp2_with fail
  refine (hC.out _).mono ?_
  rintro r3 w3 ⟨rfl, hb3⟩
  have kk := Lib.hid (kk0.out.below hb3)
  obtain ⟨f0, f1, f2, f3⟩ := id kk.out.f
  obtain ⟨g0, g1, g2, g3⟩ := id kk.out.g
  go_wp2_with fail
  refine (hI.out _).mono ?_
  rintro r4 w4 ⟨rfl, rfl⟩
  obtain ⟨_, z0, z1, z2⟩ := id kk.out.r
  have z20 := z2 0
  have z21 := z2 1
  obtain ⟨_, F0, F1, _⟩ := kk.out.r.put 0 0
  go_wp2
  exact bodyPost_ret (v := .tuple #[.agg #[.int .i64 0, .int .i64 0], .int .i64 _]) (by simp [results, Tryd.results33, go_sem, F0, F1] <;> rfl) rfl ⟨rfl, by (repeat (first | exact Below.refl _ _ | assumption | refine bchain (by assumption) ?_ | refine balloc ?_ _ | apply Below.drew | apply below_drewN | (refine Below.alloc ?_ (by (try simp) <;> omega) _) | (refine Below.setCell ?_ (by (try simp) <;> omega) _)))⟩
theorem sthr_code (k n0 e0 n e h : Nat) (hg : VK k n e) (hl : n0 ≤ h) (hr : h ≤ n) (hC : CtS k n0 e0 k n e 0) (hA : ∀ W a, Calls Tryd.prog 65 #[.agg #[.int .i64 k, .int .u32 (onL e (List.range k) : Nat)], .int .i64 h, .slice a 0 0] W (RetK W [] 3)) :
    Calls Tryd.prog 33 #[.agg #[.int .i64 k, .int .i64 n0, .int .u32 e0], .agg #[.int .i64 k, .int .i64 n, .int .u32 e], .int .i64 h] w fun r w' => r = .returned (.tuple #[.agg #[.int .i64 0, .int .i64 0], .int .i64 3]) ∧ Below w.heap.size w w' := by
  unfold CtS at hC
  replace hC := Lib.hid hC
  replace hA := Lib.hid hA
  have kk0 := Lib.hid (fd0_made w k n0 e0 k n e)
  have hI := Lib.hid (fun W => in_t W h n0 n (by omega) (by omega))
  have hTy := Lib.hid (fun W => sty_any W k n e hg)
  obtain ⟨t, ht⟩ : ∃ t, onL e (List.range k) = t := ⟨_, rfl⟩
  rw [ht] at hA hTy
  clear ht hg hl hr
  go_enter Tryd.func33, Tryd.ntmps33
  go_wp2_with fail
  refine (hC.out _).mono ?_
  rintro r3 w3 ⟨rfl, hb3⟩
  have kk := Lib.hid (kk0.out.below hb3)
  obtain ⟨f0, f1, f2, f3⟩ := id kk.out.f
  obtain ⟨g0, g1, g2, g3⟩ := id kk.out.g
  go_wp2_with fail
  refine (hI.out _).mono ?_
  rintro r4 w4 ⟨rfl, rfl⟩
  go_wp2_with fail
  refine (hTy.out _).mono ?_
  rintro r5 w5 ⟨rfl, hb5⟩
  have k5 := Lib.hid ((kk.out.below hb5).below (balloc (Below.refl _ _) (.cells #[] 27)))
  go_wp2_with fail
  refine (hA.out _ _).mono ?_
  rintro r7 w7 ⟨⟨u, rfl, _⟩, hb7⟩
  have k7 := k5.out.below hb7
  obtain ⟨_, z0, z1, z2⟩ := id k7.r
  have z20 := z2 0
  have z21 := z2 1
  obtain ⟨_, F0, F1, _⟩ := k7.r.put 0 0
  replace k7 := Lib.hid k7
  go_wp2
  exact bodyPost_ret (v := .tuple #[.agg #[.int .i64 0, .int .i64 0], .int .i64 _]) (by simp [results, Tryd.results33, go_sem, F0, F1] <;> rfl) rfl ⟨rfl, by (repeat (first | exact Below.refl _ _ | assumption | refine bchain (by assumption) ?_ | refine balloc ?_ _ | apply Below.drew | apply below_drewN | (refine Below.alloc ?_ (by (try simp) <;> omega) _) | (refine Below.setCell ?_ (by (try simp) <;> omega) _)))⟩
set_option maxHeartbeats 8000000 in
theorem sthr_ok (k n0 e0 n e h : Nat) (hf : VK k n0 e0) (hg : VK k n e) (hl : n0 ≤ h) (hr : h ≤ n) (L : List (Int × Int × Int)) (hL : L.length ≤ 64) (hel : ∀ i, i < L.length → ∃ E : Nat, kAt L i = ((k : Int), (h : Int), (E : Int)) ∧ VK k h E)
    (hC : CtS k n0 e0 k n e 0) (hA : ∀ W a, Calls Tryd.prog 65 #[.agg #[.int .i64 k, .int .u32 (onL e (List.range k) : Nat)], .int .i64 h, .slice a 0 0] W (RetK W L 0)) :
    Calls Tryd.prog 33 #[.agg #[.int .i64 k, .int .i64 n0, .int .u32 e0], .agg #[.int .i64 k, .int .i64 n, .int .u32 e], .int .i64 h] w fun r w' => r = .returned (.tuple #[.agg #[.int .i64 (thF k n e n0 e0 h L L.length).1, .int .i64 (thF k n e n0 e0 h L L.length).2], .int .i64 0]) ∧ Below w.heap.size w w' := by
  obtain ⟨_, hn5, _, hkn⟩ := hg.nums
  obtain ⟨_, _, _, hk0⟩ := hf.nums
  unfold CtS at hC
  replace hC := Lib.hid hC
  replace hA := Lib.hid hA
  have kk0 := Lib.hid (fd0_made w k n0 e0 k n e)
  have hI := Lib.hid (fun W => in_t W h n0 n (by omega) (by omega))
  have hTy := Lib.hid (fun W => sty_any W k n e hg)
  have hD1 := Lib.hid (fun W (E : Nat) (hE : VK k h E) => sfd_any W k h E n0 e0 hE hf hl)
  have hD2 := Lib.hid (fun W (E : Nat) (hE : VK k h E) => sfd_any W k n e h E hg hE hr)
  have hM := Lib.hid (fun W (E : Nat) => (Fr.stimes_any W (fdF k h E n0 e0) (fdF k n e h E) (fd_vf (by omega) hk0 hl) (fd_vf hn5 (by omega) hr)))
  have hP := Lib.hid (fun W (i E : Nat) (hi : i ≤ 64) => Fr.splus_any W (thF k n e n0 e0 h L i) (thP k n e n0 e0 h E) (th_F hn5 hk0 hl hr L i (by omega)).2 (th_P hn5 hk0 hl hr E).2.2)
  have hMs := Lib.hid (fun E : Nat => (th_P (e := e) (e0 := e0) hn5 hk0 hl hr E).1)
  have hPs := Lib.hid (fun i (E : Nat) (hi : i < 64) (hE : (kAt L i).2.2 = (E : Int)) => th_step (e := e) (e0 := e0) hn5 hk0 hl hr L i (by omega) E hE)
  have h0 : thF k n e n0 e0 h L 0 = (0, 1) := th_zero hn5 hk0 hl hr L
  have hWh := Lib.hid (fun W => Fr.zero_any W)
  obtain ⟨t, ht⟩ : ∃ t, onL e (List.range k) = t := ⟨_, rfl⟩
  rw [ht] at hA hTy
  obtain ⟨F, hF⟩ : ∃ F, thF k n e n0 e0 h L = F := ⟨_, rfl⟩
  rw [hF] at hP hPs h0 ⊢
  obtain ⟨N, hN⟩ : ∃ N, L.length = N := ⟨_, rfl⟩
  rw [hN] at hL ⊢
  replace hN := Lib.hid hN
  replace hel := Lib.hid hel
  clear ht hF hf hg
  go_enter Tryd.func33, Tryd.ntmps33
  go_wp2_with fail
  refine (hC.out _).mono ?_
  rintro r3 w3 ⟨rfl, hb3⟩
  have kk := Lib.hid (kk0.out.below hb3)
  have hB3 : Below w.heap.size w w3 := by (repeat (first | exact Below.refl _ _ | assumption | refine bchain (by assumption) ?_ | refine balloc ?_ _ | apply Below.drew | apply below_drewN | (refine Below.alloc ?_ (by (try simp) <;> omega) _) | (refine Below.setCell ?_ (by (try simp) <;> omega) _)))
  obtain ⟨f0, f1, f2, f3⟩ := id kk.out.f
  obtain ⟨g0, g1, g2, g3⟩ := id kk.out.g
  clear hb3
  go_wp2_with fail
  refine (hI.out _).mono ?_
  rintro r4 w4 ⟨rfl, rfl⟩
  go_wp2_with fail
  refine (hTy.out _).mono ?_
  rintro r5 w5 ⟨rfl, hb5⟩
  have k5 := Lib.hid ((kk.out.below hb5).below (balloc (Below.refl _ _) (.cells #[] 27)))
  go_wp2_with fail
  refine (hA.out _ _).mono ?_
  rintro r7 w7 ⟨⟨u, rfl, hO⟩, hb7⟩
  have k7 := Lib.hid (k5.out.below hb7)
  have hB7 : Below w.heap.size w w7 := by (repeat (first | exact Below.refl _ _ | assumption | refine bchain (by assumption) ?_ | refine balloc ?_ _ | apply Below.drew | apply below_drewN | (refine Below.alloc ?_ (by (try simp) <;> omega) _) | (refine Below.setCell ?_ (by (try simp) <;> omega) _)))
  obtain ⟨a, cap, rfl, hl2⟩ := hO.sl.lies
  rw [hN.out]
  replace hl2 := Lib.hid hl2
  clear kk0 kk k5 hB3 hb5 hb7 hO f0 f1 f2 f3 g0 g1 g2 g3
  go_wp2_with fail
  refine (hWh.out _).mono ?_
  rintro r8 w8 ⟨rfl, hb8⟩
  have k8 := k7.out.below hb8
  have hB8 : Below w.heap.size w w8 := hB7.trans (hb8.mono hB7.size)
  have hz8 := hB8.size
  have hl8 : Hid (LiesK w8 a L) := hl2.out.below hb8
  have hS0 := Lib.hid (FqB.made w8 0 1 38)
  clear hb8 hl2 hB7 k7
  replace k8 := Lib.hid k8
  go_wp2
  go_loopw [12] (fun i wr => ∃ j : Nat, j ≤ N ∧ i = .int .i64 j ∧ Hid (FqB wr w8.heap.size (F j).1 (F j).2) ∧ Below w8.heap.size w8 wr) (fun i _ => N - (intOf i).toNat)
  case atStart => exact ⟨0, by omega, rfl, by rw [h0]; exact hS0, by (repeat (first | exact Below.refl _ _ | assumption | refine bchain (by assumption) ?_ | refine balloc ?_ _ | apply Below.drew | apply below_drewN | (refine Below.alloc ?_ (by (try simp) <;> omega) _) | (refine Below.setCell ?_ (by (try simp) <;> omega) _)))⟩
  case round =>
    obtain ⟨j, hj, rfl, hS, hb⟩ := hrel
    by_cases hlt : j < N
    · have hjL : j < L.length := by rw [hN.out]; exact hlt
      obtain ⟨b, off, rfl, hbl, hgk⟩ := hl8.out j hjL
      obtain ⟨E, hE, hVE⟩ := hel.out j hjL
      have hn1 := hPs.out j E (by omega) (by rw [hE])
      have hm1 := hMs.out E
      have hMc := Lib.hid (fun W => hM.out W E)
      have hPc := Lib.hid (fun W => hP.out W j E (by omega))
      rw [hm1] at hMc
      rw [hn1] at hPc
      rw [hE] at hgk
      have kA : Hid (∀ A, Below wr.heap.size wr A → (A.cell? ⟨b, off + j * 3, none⟩ = some (.int .i64 k) ∧ A.cell? ⟨b, off + j * 3 + 1, none⟩ = some (.int .i64 h) ∧ A.cell? ⟨b, off + j * 3 + 2, none⟩ = some (.int .u32 E) ∧ A.cell? ⟨w.heap.size, 0, none⟩ = some (.int .i64 k) ∧ A.cell? ⟨w.heap.size, 1, none⟩ = some (.int .i64 n0) ∧ A.cell? ⟨w.heap.size, 2, none⟩ = some (.int .u32 e0) ∧ A.cell? ⟨w.heap.size + 1, 0, none⟩ = some (.int .i64 k) ∧ A.cell? ⟨w.heap.size + 1, 1, none⟩ = some (.int .i64 n) ∧ A.cell? ⟨w.heap.size + 1, 2, none⟩ = some (.int .u32 e))) := fun A hA => by
        have hbA : Below w8.heap.size w8 A := hb.trans (hA.mono hb.size)
        have q := k8.out.below hbA
        exact ⟨(hbA.cell (p := ⟨b, off + j * 3, none⟩) hbl).trans hgk.1, (hbA.cell (p := ⟨b, off + j * 3 + 1, none⟩) hbl).trans hgk.2.1, (hbA.cell (p := ⟨b, off + j * 3 + 2, none⟩) hbl).trans hgk.2.2, q.f.c0, q.f.c1, q.f.c2, q.g.c0, q.g.c1, q.g.c2⟩
      have hC1 := Lib.hid (fun W => hD1.out W E hVE)
      have hC2 := Lib.hid (fun W => hD2.out W E hVE)
      have hjn : (j : Int) < (N : Int) := by omega
      obtain ⟨x1, hx1⟩ : ∃ x, (fdF k h E n0 e0).1 = x := ⟨_, rfl⟩
      obtain ⟨y1, hy1⟩ : ∃ x, (fdF k h E n0 e0).2 = x := ⟨_, rfl⟩
      obtain ⟨x2, hx2⟩ : ∃ x, (fdF k n e h E).1 = x := ⟨_, rfl⟩
      obtain ⟨y2, hy2⟩ : ∃ x, (fdF k n e h E).2 = x := ⟨_, rfl⟩
      obtain ⟨x3, hx3⟩ : ∃ x, (thP k n e n0 e0 h E).1 = x := ⟨_, rfl⟩
      obtain ⟨y3, hy3⟩ : ∃ x, (thP k n e n0 e0 h E).2 = x := ⟨_, rfl⟩
      obtain ⟨x4, hx4⟩ : ∃ x, (F j).1 = x := ⟨_, rfl⟩
      obtain ⟨y4, hy4⟩ : ∃ x, (F j).2 = x := ⟨_, rfl⟩
      obtain ⟨x5, hx5⟩ : ∃ x, (F (j + 1)).1 = x := ⟨_, rfl⟩
      obtain ⟨y5, hy5⟩ : ∃ x, (F (j + 1)).2 = x := ⟨_, rfl⟩
      simp only [Fr.fv, Fr.lv] at hMc hPc
      rw [hx1, hy1] at hC1 hMc
      rw [hx2, hy2] at hC2 hMc
      rw [hx3, hy3] at hMc hPc
      rw [hx4, hy4] at hPc hS
      rw [hx5, hy5] at hPc
      obtain ⟨s0, s1, s2, s3, s4, s5, s6, s7, s8⟩ := kA.out wr (Below.refl _ _)
      have hA0 : ∀ (c : Array Value) (t : TypeId) (i : Nat), (wr.drew.alloc (.cells c t)).cell? ⟨wr.heap.size, i, none⟩ = c[i]? := fun c t i => World.cell?_alloc_new wr.drew c t i
      have hF0 : ∀ (c : Array Value) (t : TypeId) (i : Nat), (wr.drew.alloc (.cells c t)).frozen? ⟨wr.heap.size, i, none⟩ = false := fun c t i => by
        have := (show ∀ W : World, (W.alloc (.cells c t)).frozen? ⟨W.heap.size, i, none⟩ = false from fun W => by simp) wr.drew
        exact this
      have hzw := hb.size
      clear hM hP hMs hPs hD1 hD2 hgk hE hVE hn1 hm1 hx1 hy1 hx2 hy2 hx3 hy3 hx4 hy4 hC hA hI hTy hWh hel hl8 hS0
      go_upto_region 13 with fail
      go_cut [13] from 45 to 72 (fun s13 wx => ∃ D : Nat, s13 = .pointer (some ⟨D, 0, none⟩) ∧ wr.heap.size ≤ D ∧ D < wx.heap.size ∧ wx.cell? ⟨D, 0, none⟩ = some (.int .i64 x3) ∧ wx.cell? ⟨D, 1, none⟩ = some (.int .i64 y3) ∧ Below wr.heap.size wr wx)
      case first =>
        go_region_held3 (fun A => A.cell? ⟨b, off + j * 3, none⟩ = some (.int .i64 k) ∧ A.cell? ⟨b, off + j * 3 + 1, none⟩ = some (.int .i64 h) ∧ A.cell? ⟨b, off + j * 3 + 2, none⟩ = some (.int .u32 E) ∧ A.cell? ⟨w.heap.size, 0, none⟩ = some (.int .i64 k) ∧ A.cell? ⟨w.heap.size, 1, none⟩ = some (.int .i64 n0) ∧ A.cell? ⟨w.heap.size, 2, none⟩ = some (.int .u32 e0) ∧ A.cell? ⟨w.heap.size + 1, 0, none⟩ = some (.int .i64 k) ∧ A.cell? ⟨w.heap.size + 1, 1, none⟩ = some (.int .i64 n) ∧ A.cell? ⟨w.heap.size + 1, 2, none⟩ = some (.int .u32 e))
          (first | exact kA.out _ (by (repeat (first | exact Below.refl _ _ | assumption | refine bchain (by assumption) ?_ | refine balloc ?_ _ | apply Below.drew | apply below_drewN | (refine Below.alloc ?_ (by (try simp) <;> omega) _) | (refine Below.setCell ?_ (by (try simp) <;> omega) _)))))
          (first
            | (go_at_call 51; first | (with_reducible refine (hC1.out _).mono ?_; rintro r1 w1 ⟨rfl, hb1⟩; have hk1 := keepAll hb1; have hf1 := keepFz hb1; have hz1 := keepLt hb1; have hs1 := hb1.size; try (simp at hs1); try (rw [Nat.add_one_le_iff] at hs1)) | (with_reducible refine (hC2.out _).mono ?_; rintro r2 w2 ⟨rfl, hb2⟩; have hk2 := keepAll hb2; have hf2 := keepFz hb2; have hz2 := keepLt hb2; have hs2 := hb2.size; try (simp at hs2); try (rw [Nat.add_one_le_iff] at hs2)))
            | (go_at_call 71; refine (hMc.out _).mono ?_; rintro r3 w3 ⟨rfl, hb3⟩; have hk3 := keepAll hb3; have hf3 := keepFz hb3; have hz3 := keepLt hb3; have hs3 := hb3.size; try (simp at hs3); try (rw [Nat.add_one_le_iff] at hs3)))
        all_goals (go_wp2_with fail; go_meet; exact ⟨_, rfl, by (try simp) <;> omega, by (try simp) <;> omega, by first | (simp; done) | exact (Fr.twoCells (a := .int .i64 0) (b := .int .i64 0) (by simp [*]) (by simp [*]) _ _).1, by first | (simp; done) | exact (Fr.twoCells (a := .int .i64 0) (b := .int .i64 0) (by simp [*]) (by simp [*]) _ _).2, by (repeat (first | exact Below.refl _ _ | assumption | refine bchain (by assumption) ?_ | refine balloc ?_ _ | apply Below.drew | apply below_drewN | (refine Below.alloc ?_ (by (try simp) <;> omega) _) | (refine Below.setCell ?_ (by (try simp) <;> omega) _)))⟩)
      case rest =>
        obtain ⟨D, rfl, hD0, hD1, d0, d1, hBr⟩ := hcut
        have kS := hS.out.below hBr
        obtain ⟨_, y0, y1, y2⟩ := id kS
        have y20 := y2 0
        have y21 := y2 1
        clear hA0 hF0 s0 s1 s2 s3 s4 s5 s6 s7 s8 kS
        go_wp2_with fail
        refine (hPc.out _).mono ?_
        rintro r4 w4 ⟨rfl, hb4⟩
        have kS4 := (hS.out.below hBr).below hb4
        obtain ⟨_, y0, y1, y2⟩ := id kS4
        have y20 := y2 0
        have y21 := y2 1
        have hS4 := Lib.hid (kS4.put x5 y5)
        have hB4 : Below w8.heap.size w8 w4 := (hb.trans (hBr.mono hzw)).trans (hb4.mono (Nat.le_trans hzw hBr.size))
        have hbe : Below w8.heap.size w8 ((w4.setCell ⟨w8.heap.size, 0, none⟩ (.int .i64 x5)).setCell ⟨w8.heap.size, 1, none⟩ (.int .i64 y5)) := (hB4.setCell (p := ⟨w8.heap.size, 0, none⟩) (Nat.le_refl _) _).setCell (p := ⟨w8.heap.size, 1, none⟩) (Nat.le_refl _) _
        clear kS4
        go_wp2
        go_roundw
        case rel => exact ⟨j + 1, by omega, by go_num, by rw [hx5, hy5]; exact hS4.out, hbe⟩
        case measure => simp [intOf]; omega
    · obtain rfl : j = N := by omega
      have hdd := decide_eq_false (show ¬ ((j : Int) < (j : Int)) by omega)
      have k9 := k8.out.below hb
      obtain ⟨_, y0, y1, y2⟩ := id hS.out
      obtain ⟨_, z0, z1, z2⟩ := id k9.r
      have z20 := z2 0
      have z21 := z2 1
      obtain ⟨_, F0, F1, _⟩ := k9.r.put (F j).1 (F j).2
      replace k9 := Lib.hid k9
      go_wp2
      exact bodyPost_ret (v := .tuple #[.agg #[.int .i64 (F j).1, .int .i64 (F j).2], .int .i64 0]) (by simp [results, Tryd.results33, go_sem, F0, F1]) rfl ⟨rfl, by (repeat (first | exact Below.refl _ _ | assumption | refine bchain (by assumption) ?_ | refine balloc ?_ _ | apply Below.drew | apply below_drewN | (refine Below.alloc ?_ (by (try simp) <;> omega) _) | (refine Below.setCell ?_ (by (try simp) <;> omega) _)))⟩
end
end Go.Proofs.YtepbekhlpbnpkaaDoor
