/-
  ThroughSize: the program, with an answer.
-/
import Derived.Test.YtepbekhlpbnpkaaDoorThi
namespace Go.Proofs.YtepbekhlpbnpkaaDoor
open Go.RowKit Go.Shelf
set_option maxRecDepth 100000
attribute [local go_sem] Oper.semAt_some
/-- a load under another name: it is met where it comes, and not ahead of the calls -/
def ldA (t : TypeId) (x : Operand) : Op := Op.load t x
attribute [local go_sem] ldA
section
variable (w : World)
set_option maxHeartbeats 30000000 in
theorem ithr_ok (k n0 e0 n e h : Nat) (hf : VK k n0 e0) (hg : VK k n e) (hl : n0 ≤ h) (hr : h ≤ n) (hT : TabZ w) (L : List (Int × Int × Int)) (hL : L.length ≤ 64) (hel : ∀ i, i < L.length → ∃ E : Nat, kAt L i = ((k : Int), (h : Int), (E : Int)) ∧ VK k h E)
    (hC : CtA k n0 e0 k n e 0) (hA : ∀ W, Calls Tryd.prog 67 #[.agg #[.int .i64 k, .int .u32 (onL e0 (List.range k) : Nat)], .int .i64 h, .slice none 0 0] W (RetK W L 0)) :
    Calls Tryd.prog 34 #[.agg #[.int .i64 k, .int .i64 n0, .int .u32 e0], .agg #[.int .i64 k, .int .i64 n, .int .u32 e], .int .i64 h] w fun r w' => r = .returned (.tuple #[.agg #[.int .i64 (thF k n e n0 e0 h L L.length).1, .int .i64 (thF k n e n0 e0 h L L.length).2], .int .i64 0]) ∧ Below w.heap.size w w' := by
  obtain ⟨_, hn5, _, hkn⟩ := hg.nums
  obtain ⟨_, _, _, hk0⟩ := hf.nums
  unfold CtA at hC
  replace hC := Lib.hid hC
  replace hA := Lib.hid hA
  have kk0 := Lib.hid (fd0_made w k n0 e0 k n e)
  have hz1 := Lib.hid (fun W => siz_any W k n0 e0)
  have hz2 := Lib.hid (fun W => siz_any W k n e)
  have hTy := Lib.hid (fun W => ity_any W k n0 e0 hf)
  have hd := decide_eq_false (show ¬ ((h : Int) < (n0 : Int)) by omega)
  have hd2 := decide_eq_false (show ¬ ((n : Int) < (h : Int)) by omega)
  have hD1 := Lib.hid (fun W (hW : Below w.heap.size w W) (E : Nat) (hE : VK k h E) => ifd_any W k h E n0 e0 hE hf hl (hT.below hW))
  have hD2 := Lib.hid (fun W (hW : Below w.heap.size w W) (E : Nat) (hE : VK k h E) => ifd_any W k n e h E hg hE hr (hT.below hW))
  have hM := Lib.hid (fun W (E : Nat) => (Fr.times_any W (fdF k h E n0 e0) (fdF k n e h E) (fd_vf (by omega) hk0 hl) (fd_vf hn5 (by omega) hr)))
  have hP := Lib.hid (fun W (i E : Nat) (hi : i ≤ 64) => Fr.plus_any W (thF k n e n0 e0 h L i) (thP k n e n0 e0 h E) (th_F hn5 hk0 hl hr L i (by omega)).2 (th_P hn5 hk0 hl hr E).2.2)
  have hMs := Lib.hid (fun E : Nat => (th_P (e := e) (e0 := e0) hn5 hk0 hl hr E).1)
  have hPs := Lib.hid (fun i (E : Nat) (hi : i < 64) (hE : (kAt L i).2.2 = (E : Int)) => th_step (e := e) (e0 := e0) hn5 hk0 hl hr L i (by omega) E hE)
  have h0 : thF k n e n0 e0 h L 0 = (0, 1) := th_zero hn5 hk0 hl hr L
  have hWh := Lib.hid (fun W => Fr.whole_any W 0)
  obtain ⟨t, ht⟩ : ∃ t, onL e0 (List.range k) = t := ⟨_, rfl⟩
  rw [ht] at hA hTy
  obtain ⟨F, hF⟩ : ∃ F, thF k n e n0 e0 h L = F := ⟨_, rfl⟩
  rw [hF] at hP hPs h0 ⊢
  obtain ⟨N, hN⟩ : ∃ N, L.length = N := ⟨_, rfl⟩
  rw [hN] at hL ⊢
  replace hN := Lib.hid hN
  replace hel := Lib.hid hel
  clear ht hF hf hg hT
  go_enter Tryd.func34, Tryd.ntmps34
  go_wp2_with fail
  refine (hC.out _ _ (by simp) _ rfl).mono ?_
  rintro r3 w3 ⟨rfl, hb3⟩
  have kk := Lib.hid ((kk0.out.below (balloc (Below.refl _ _) _)).below hb3)
  have hB3 : Below w.heap.size w w3 := by (repeat (first | exact Below.refl _ _ | assumption | refine bchain (by assumption) ?_ | refine balloc ?_ _ | apply Below.drew | apply below_drewN | (refine Below.alloc ?_ (by (try simp) <;> omega) _) | (refine Below.setCell ?_ (by (try simp) <;> omega) _)))
  obtain ⟨f0, f1, f2, f3⟩ := id kk.out.f
  clear hb3
  go_wp2_with fail
  refine (hz1.out _).mono ?_
  rintro r4 w4 ⟨rfl, hb4⟩
  have k4 := Lib.hid (kk.out.below hb4)
  obtain ⟨g0, g1, g2, g3⟩ := id k4.out.g
  go_wp2_with fail
  refine (hz2.out _).mono ?_
  rintro r5 w5 ⟨rfl, hb5⟩
  have k5 := Lib.hid (k4.out.below hb5)
  obtain ⟨p0, p1, p2, p3⟩ := id k5.out.f
  go_wp2_with fail
  refine (hTy.out _).mono ?_
  rintro r6 w6 ⟨rfl, hb6⟩
  go_wp2_with fail
  refine (hA.out _).mono ?_
  rintro r7 w7 ⟨⟨u, rfl, hO⟩, hb7⟩
  have k7 := Lib.hid ((k5.out.below hb6).below hb7)
  have hB7 : Below w.heap.size w w7 := by (repeat (first | exact Below.refl _ _ | assumption | refine bchain (by assumption) ?_ | refine balloc ?_ _ | apply Below.drew | apply below_drewN | (refine Below.alloc ?_ (by (try simp) <;> omega) _) | (refine Below.setCell ?_ (by (try simp) <;> omega) _)))
  obtain ⟨a, cap, rfl, hl2⟩ := hO.sl.lies
  rw [hN.out]
  replace hl2 := Lib.hid hl2
  clear kk0 kk k4 k5 hB3 hb4 hb5 hb6 hb7 hO f0 f1 f2 f3 g0 g1 g2 g3 p0 p1 p2 p3
  go_wp2_with fail
  refine (hWh.out _).mono ?_
  rintro r8 w8 ⟨rfl, hb8⟩
  have k8 := k7.out.below hb8
  have hB8 : Below w.heap.size w w8 := hB7.trans (hb8.mono hB7.size)
  have hz8 := hB8.size
  have hl8 : Hid (LiesK w8 a L) := hl2.out.below hb8
  have hS0 := Lib.hid (FqB.made w8 0 1 38)
  clear hb8 hl2 hB7 k7
  replace k8 := Lib.hid k8
  go_wp2
  go_loopw [47] (fun i wr => ∃ j : Nat, j ≤ N ∧ i = .int .i64 j ∧ Hid (FqB wr w8.heap.size (F j).1 (F j).2) ∧ Below w8.heap.size w8 wr) (fun i _ => N - (intOf i).toNat)
  case atStart => exact ⟨0, by omega, rfl, by rw [h0]; exact hS0, by (repeat (first | exact Below.refl _ _ | assumption | refine bchain (by assumption) ?_ | refine balloc ?_ _ | apply Below.drew | apply below_drewN | (refine Below.alloc ?_ (by (try simp) <;> omega) _) | (refine Below.setCell ?_ (by (try simp) <;> omega) _)))⟩
  case round =>
    obtain ⟨j, hj, rfl, hS, hb⟩ := hrel
    by_cases hlt : j < N
    · have hjL : j < L.length := by rw [hN.out]; exact hlt
      obtain ⟨b, off, rfl, hbl, hgk⟩ := hl8.out j hjL
      obtain ⟨E, hE, hVE⟩ := hel.out j hjL
      have hn1 := hPs.out j E (by omega) (by rw [hE])
      have hm1 := hMs.out E
      have hMc := Lib.hid (fun W => hM.out W E)
      have hPc := Lib.hid (fun W => hP.out W j E (by omega))
      rw [hm1] at hMc
      rw [hn1] at hPc
      rw [hE] at hgk
      have s0 := (hb.cell (p := ⟨b, off + j * 3, none⟩) hbl).trans hgk.1
      have s1 := (hb.cell (p := ⟨b, off + j * 3 + 1, none⟩) hbl).trans hgk.2.1
      have s2 := (hb.cell (p := ⟨b, off + j * 3 + 2, none⟩) hbl).trans hgk.2.2
      have hB : Below w.heap.size w wr := hB8.trans (hb.mono hz8)
      have hC1 := Lib.hid (fun W (hW : Below w.heap.size w W) => hD1.out W hW E hVE)
      have hC2 := Lib.hid (fun W (hW : Below w.heap.size w W) => hD2.out W hW E hVE)
      have hjn : (j : Int) < (N : Int) := by omega
      obtain ⟨x1, hx1⟩ : ∃ x, (fdF k h E n0 e0).1 = x := ⟨_, rfl⟩
      obtain ⟨y1, hy1⟩ : ∃ x, (fdF k h E n0 e0).2 = x := ⟨_, rfl⟩
      obtain ⟨x2, hx2⟩ : ∃ x, (fdF k n e h E).1 = x := ⟨_, rfl⟩
      obtain ⟨y2, hy2⟩ : ∃ x, (fdF k n e h E).2 = x := ⟨_, rfl⟩
      obtain ⟨x3, hx3⟩ : ∃ x, (thP k n e n0 e0 h E).1 = x := ⟨_, rfl⟩
      obtain ⟨y3, hy3⟩ : ∃ x, (thP k n e n0 e0 h E).2 = x := ⟨_, rfl⟩
      obtain ⟨x4, hx4⟩ : ∃ x, (F j).1 = x := ⟨_, rfl⟩
      obtain ⟨y4, hy4⟩ : ∃ x, (F j).2 = x := ⟨_, rfl⟩
      obtain ⟨x5, hx5⟩ : ∃ x, (F (j + 1)).1 = x := ⟨_, rfl⟩
      obtain ⟨y5, hy5⟩ : ∃ x, (F (j + 1)).2 = x := ⟨_, rfl⟩
      simp only [Fr.fv, Fr.qe] at hMc hPc
      rw [hx1, hy1] at hC1 hMc
      rw [hx2, hy2] at hC2 hMc
      rw [hx3, hy3] at hMc hPc
      rw [hx4, hy4] at hPc hS
      rw [hx5, hy5] at hPc
      have k9 := k8.out.below hb
      obtain ⟨W1, hW1⟩ : ∃ W1, W1 = wr.alloc (.cells #[.int .i64 (k : Int), .int .i64 (h : Int), .int .u32 (E : Int)] 34) := ⟨_, rfl⟩
      have hb1 : Below wr.heap.size wr W1 := by rw [hW1]; exact balloc (Below.refl _ _) _
      have kf := Lib.hid (k9.below hb1)
      have kS := Lib.hid (hS.out.below hb1)
      have kH : Hid (FC W1 wr.heap.size k h E) := by rw [hW1]; exact FC.made wr k h E _
      have hlt8 : w8.heap.size < wr.heap.size := hS.out.lt
      have hlw : w.heap.size + 1 < w8.heap.size := k8.out.g.lt
      have hP1 : Hid (∀ A, Below W1.heap.size W1 A → (A.cell? ⟨w.heap.size, 0, none⟩ = some (.int .i64 k) ∧ A.cell? ⟨w.heap.size, 1, none⟩ = some (.int .i64 n0) ∧ A.cell? ⟨w.heap.size, 2, none⟩ = some (.int .u32 e0) ∧ A.cell? ⟨w.heap.size + 1, 0, none⟩ = some (.int .i64 k) ∧ A.cell? ⟨w.heap.size + 1, 1, none⟩ = some (.int .i64 n) ∧ A.cell? ⟨w.heap.size + 1, 2, none⟩ = some (.int .u32 e) ∧ A.cell? ⟨wr.heap.size, 0, none⟩ = some (.int .i64 k) ∧ A.cell? ⟨wr.heap.size, 1, none⟩ = some (.int .i64 h) ∧ A.cell? ⟨wr.heap.size, 2, none⟩ = some (.int .u32 E))) := fun A hA => by
        have q1 := kf.out.below hA
        have q2 := kS.out.below hA
        have q3 := kH.out.below hA
        exact ⟨q1.f.c0, q1.f.c1, q1.f.c2, q1.g.c0, q1.g.c1, q1.g.c2, q3.c0, q3.c1, q3.c2⟩
      have hP2 : Hid (∀ S A, Below W1.heap.size W1 S → A = (S.setCell ⟨w8.heap.size, 0, none⟩ (.int .i64 x5)).setCell ⟨w8.heap.size, 1, none⟩ (.int .i64 y5) → (A.cell? ⟨w.heap.size, 0, none⟩ = some (.int .i64 k) ∧ A.cell? ⟨w.heap.size, 1, none⟩ = some (.int .i64 n0) ∧ A.cell? ⟨w.heap.size, 2, none⟩ = some (.int .u32 e0) ∧ A.cell? ⟨w.heap.size + 1, 0, none⟩ = some (.int .i64 k) ∧ A.cell? ⟨w.heap.size + 1, 1, none⟩ = some (.int .i64 n) ∧ A.cell? ⟨w.heap.size + 1, 2, none⟩ = some (.int .u32 e) ∧ A.cell? ⟨wr.heap.size, 0, none⟩ = some (.int .i64 k) ∧ A.cell? ⟨wr.heap.size, 1, none⟩ = some (.int .i64 h) ∧ A.cell? ⟨wr.heap.size, 2, none⟩ = some (.int .u32 E))) := fun S A hS0 hA => by
        have q1 := kf.out.below hS0
        have q2 := (kS.out.below hS0).put x5 y5
        have q3 := kH.out.below hS0
        subst hA
        have m1 := (q1.f.other (p := ⟨w8.heap.size, 0, none⟩) (.int .i64 x5) (by show w8.heap.size ≠ w.heap.size; omega)).other (p := ⟨w8.heap.size, 1, none⟩) (.int .i64 y5) (by show w8.heap.size ≠ w.heap.size; omega)
        have m2 := (q1.g.other (p := ⟨w8.heap.size, 0, none⟩) (.int .i64 x5) (by show w8.heap.size ≠ w.heap.size + 1; omega)).other (p := ⟨w8.heap.size, 1, none⟩) (.int .i64 y5) (by show w8.heap.size ≠ w.heap.size + 1; omega)
        have m3 := (q3.other (p := ⟨w8.heap.size, 0, none⟩) (.int .i64 x5) (by show w8.heap.size ≠ wr.heap.size; omega)).other (p := ⟨w8.heap.size, 1, none⟩) (.int .i64 y5) (by show w8.heap.size ≠ wr.heap.size; omega)
        exact ⟨m1.c0, m1.c1, m1.c2, m2.c0, m2.c1, m2.c2, m3.c0, m3.c1, m3.c2⟩
      have hSd := Lib.hid (fun A (hA : Below W1.heap.size W1 A) => (show A.cell? ⟨w8.heap.size, 0, none⟩ = some (.int .i64 x4) ∧ A.cell? ⟨w8.heap.size, 1, none⟩ = some (.int .i64 y4) ∧ A.frozen? ⟨w8.heap.size, 0, none⟩ = false ∧ A.frozen? ⟨w8.heap.size, 1, none⟩ = false from
        have q2 := kS.out.below hA
        ⟨q2.c0, q2.c1, q2.fz 0, q2.fz 1⟩))
      have hbW : Below w.heap.size w W1 := hB.trans (hb1.mono hB.size)
      have hbW8 : Below w8.heap.size w8 W1 := hb.trans (hb1.mono hb.size)
      clear hM hP hMs hPs hD1 hD2 hgk hE hVE hn1 hm1 k9 kf kH hB hS hb1 hx1 hy1 hx2 hy2 hx3 hy3 hx4 hy4 hC hA hz1 hz2 hTy hWh
      go_wp2
      rw [← hW1]
      rw [show Op.load 38 (Operand.tmp 11) = ldA 38 (Operand.tmp 11) from rfl]
      have hH0 := hP1.out W1 (Below.refl _ _)
      obtain ⟨v0, v1, v2, v3, v4, v5, v6, v7, v8⟩ := hH0
      obtain ⟨u9, u10, u11, u12⟩ := hSd.out W1 (Below.refl _ _)
      replace hW1 := Lib.hid hW1
      clear hW1 s0 s1 s2 hd hd2 h0 hel hl8 hS0
      go_region_held3 (fun A => A.cell? ⟨w.heap.size, 0, none⟩ = some (.int .i64 k) ∧ A.cell? ⟨w.heap.size, 1, none⟩ = some (.int .i64 n0) ∧ A.cell? ⟨w.heap.size, 2, none⟩ = some (.int .u32 e0) ∧ A.cell? ⟨w.heap.size + 1, 0, none⟩ = some (.int .i64 k) ∧ A.cell? ⟨w.heap.size + 1, 1, none⟩ = some (.int .i64 n) ∧ A.cell? ⟨w.heap.size + 1, 2, none⟩ = some (.int .u32 e) ∧ A.cell? ⟨wr.heap.size, 0, none⟩ = some (.int .i64 k) ∧ A.cell? ⟨wr.heap.size, 1, none⟩ = some (.int .i64 h) ∧ A.cell? ⟨wr.heap.size, 2, none⟩ = some (.int .u32 E))
        (first | exact hP2.out _ _ (by (repeat (first | exact Below.refl _ _ | assumption | refine bchain (by assumption) ?_ | refine balloc ?_ _ | apply Below.drew | apply below_drewN | (refine Below.alloc ?_ (by (try simp) <;> omega) _) | (refine Below.setCell ?_ (by (try simp) <;> omega) _)))) rfl | exact hP1.out _ (by (repeat (first | exact Below.refl _ _ | assumption | refine bchain (by assumption) ?_ | refine balloc ?_ _ | apply Below.drew | apply below_drewN | (refine Below.alloc ?_ (by (try simp) <;> omega) _) | (refine Below.setCell ?_ (by (try simp) <;> omega) _)))))
        (first
          | (go_at_call 52; first | (with_reducible refine (hC1.out _ ?_).mono ?_; (· (repeat (first | exact Below.refl _ _ | assumption | refine bchain (by assumption) ?_ | refine balloc ?_ _ | apply Below.drew | apply below_drewN | (refine Below.alloc ?_ (by (try simp) <;> omega) _) | (refine Below.setCell ?_ (by (try simp) <;> omega) _)))); rintro r1 w1 ⟨rfl, hb1⟩; have huw1 := hSd.out w1 (by (repeat (first | exact Below.refl _ _ | assumption | refine bchain (by assumption) ?_ | refine balloc ?_ _ | apply Below.drew | apply below_drewN | (refine Below.alloc ?_ (by (try simp) <;> omega) _) | (refine Below.setCell ?_ (by (try simp) <;> omega) _)))); have haw1 := huw1.1; have hcw1 := huw1.2.1; have hdw1 := huw1.2.2.1; have hew1 := huw1.2.2.2; clear huw1) | (with_reducible refine (hC2.out _ ?_).mono ?_; (· (repeat (first | exact Below.refl _ _ | assumption | refine bchain (by assumption) ?_ | refine balloc ?_ _ | apply Below.drew | apply below_drewN | (refine Below.alloc ?_ (by (try simp) <;> omega) _) | (refine Below.setCell ?_ (by (try simp) <;> omega) _)))); rintro r2 w2 ⟨rfl, hb2⟩; have huw2 := hSd.out w2 (by (repeat (first | exact Below.refl _ _ | assumption | refine bchain (by assumption) ?_ | refine balloc ?_ _ | apply Below.drew | apply below_drewN | (refine Below.alloc ?_ (by (try simp) <;> omega) _) | (refine Below.setCell ?_ (by (try simp) <;> omega) _)))); have haw2 := huw2.1; have hcw2 := huw2.2.1; have hdw2 := huw2.2.2.1; have hew2 := huw2.2.2.2; clear huw2))
          | (go_at_call 75; refine (hMc.out _).mono ?_; rintro r3 w3 ⟨rfl, hb3⟩; have huw3 := hSd.out w3 (by (repeat (first | exact Below.refl _ _ | assumption | refine bchain (by assumption) ?_ | refine balloc ?_ _ | apply Below.drew | apply below_drewN | (refine Below.alloc ?_ (by (try simp) <;> omega) _) | (refine Below.setCell ?_ (by (try simp) <;> omega) _)))); have haw3 := huw3.1; have hcw3 := huw3.2.1; have hdw3 := huw3.2.2.1; have hew3 := huw3.2.2.2; clear huw3)
          | (go_at_call 74; refine (hPc.out _).mono ?_; rintro r4 w4 ⟨rfl, hb4⟩; have huw4 := hSd.out w4 (by (repeat (first | exact Below.refl _ _ | assumption | refine bchain (by assumption) ?_ | refine balloc ?_ _ | apply Below.drew | apply below_drewN | (refine Below.alloc ?_ (by (try simp) <;> omega) _) | (refine Below.setCell ?_ (by (try simp) <;> omega) _)))); have haw4 := huw4.1; have hcw4 := huw4.2.1; have hdw4 := huw4.2.2.1; have hew4 := huw4.2.2.2; clear huw4))
      all_goals
        have hS4 := Lib.hid ((kS.out.below (show Below W1.heap.size W1 w4 by (repeat (first | exact Below.refl _ _ | assumption | refine bchain (by assumption) ?_ | refine balloc ?_ _ | apply Below.drew | apply below_drewN | (refine Below.alloc ?_ (by (try simp) <;> omega) _) | (refine Below.setCell ?_ (by (try simp) <;> omega) _))))).put x5 y5)
        have hbe : Below w8.heap.size w8 ((w4.setCell ⟨w8.heap.size, 0, none⟩ (.int .i64 x5)).setCell ⟨w8.heap.size, 1, none⟩ (.int .i64 y5)) := ((hbW8.trans (Below.mono (show Below W1.heap.size W1 w4 by (repeat (first | exact Below.refl _ _ | assumption | refine bchain (by assumption) ?_ | refine balloc ?_ _ | apply Below.drew | apply below_drewN | (refine Below.alloc ?_ (by (try simp) <;> omega) _) | (refine Below.setCell ?_ (by (try simp) <;> omega) _)))) hbW8.size)).setCell (p := ⟨w8.heap.size, 0, none⟩) (Nat.le_refl _) _).setCell (p := ⟨w8.heap.size, 1, none⟩) (Nat.le_refl _) _
        go_wp2
        go_roundw
        case rel => exact ⟨j + 1, by omega, by go_num, by rw [hx5, hy5]; exact hS4.out, hbe⟩
        case measure => simp [intOf]; omega
    · obtain rfl : j = N := by omega
      have hdd := decide_eq_false (show ¬ ((j : Int) < (j : Int)) by omega)
      have k9 := k8.out.below hb
      obtain ⟨_, y0, y1, y2⟩ := id hS.out
      obtain ⟨_, z0, z1, z2⟩ := id k9.r
      have z20 := z2 0
      have z21 := z2 1
      obtain ⟨_, F0, F1, _⟩ := k9.r.put (F j).1 (F j).2
      replace k9 := Lib.hid k9
      go_wp2
      exact bodyPost_ret (v := .tuple #[.agg #[.int .i64 (F j).1, .int .i64 (F j).2], .int .i64 0]) (by simp [results, Tryd.results34, go_sem, F0, F1]) rfl ⟨rfl, by (repeat (first | exact Below.refl _ _ | assumption | refine bchain (by assumption) ?_ | refine balloc ?_ _ | apply Below.drew | apply below_drewN | (refine Below.alloc ?_ (by (try simp) <;> omega) _) | (refine Below.setCell ?_ (by (try simp) <;> omega) _)))⟩
end
end Go.Proofs.YtepbekhlpbnpkaaDoor
