/-
  CONTRACTS OF PartOfFlag: the program's and the model's, for every list that is not nil.
-/
import Derived.Test.YtdibcchhamapjaaKSPart
namespace Go.Proofs.Ytdibcchhamapjaa
open Go.RowKit
set_option maxRecDepth 100000

theorem zl_inj {x y : List Nat} (h : zl x = zl y) : x = y := by
  unfold zl at h
  exact (List.map_inj_right (fun a b h => by omega)).1 h
theorem ok_of_diff {x : List Nat} {n : Nat} (h : Diff (zl x) n) : okList n x.length x = true := by
  obtain ⟨y, hy, hok⟩ := diff_list h
  rw [zl_length] at hok
  rw [← zl_inj hy] at hok
  exact hok
theorem VG_onL {n l e : Nat} {x : List Nat} (hl : l ≤ 5) (hx : okList n l x = true) : VG l (onL e x : Nat) := by
  have h := onE_ltN e (vx (zl x)) x.length (by rw [ok_length hx]; exact hl)
  rw [ok_length hx, ← eMax_pow l hl] at h
  unfold VG onL
  rw [ok_length hx]
  exact ⟨by omega, by omega, by omega, by simpa using h⟩
section
variable (w : World)
theorem ipo_inv (v : Value) (k n e : Int) (hn : e < 4294967296) (he0 : 0 ≤ e) (h : ¬ VK k n e) :
    Calls Try.prog 41 #[.agg #[.int .i64 k, .int .i64 n, .int .u32 e], v] w fun r w' => r = .returned (.tuple #[.agg #[.int .i64 0, .int .i64 0, .int .u32 0], .int .i64 1]) ∧ Below w.heap.size w w' := by
  go_enter Try.func41, Try.ntmps41
  go_wp2_with fail
  refine (ivk_f _ k n e hn he0 h).mono ?_
  rintro r1 w1 ⟨rfl, hb1⟩
  obtain ⟨hc1_0, hz1_0⟩ := bkeep hb1 (w.heap.size + 1) (by (try simp) <;> omega)
  have hf1_0 := bkeepz hb1 (w.heap.size + 1) (by (try simp) <;> omega)
  go_wp2
  have hfc : FC w1 (w.heap.size + 1) 0 0 0 := ⟨hz1_0, by rw [hc1_0]; simp [go_sem], by rw [hc1_0]; simp [go_sem], by rw [hc1_0]; simp [go_sem]⟩
  have hbw : Below w.heap.size w w1 := by (repeat (first | exact Below.refl _ _ | assumption | refine bchain (by assumption) ?_ | refine balloc ?_ _ | apply Below.drew | apply below_drewN | (refine Below.alloc ?_ (by (try simp) <;> omega) _) | (refine Below.setCell ?_ (by (try simp) <;> omega) _)))
  have hF := hfc.put (0) (0) (0)
  have hBB := (((hbw.setCell (p := ⟨w.heap.size + 1, 0, none⟩) (by show w.heap.size ≤ w.heap.size + 1; omega) (.int .i64 (0))).setCell (p := ⟨w.heap.size + 1, 1, none⟩) (by show w.heap.size ≤ w.heap.size + 1; omega) (.int .i64 (0))).setCell (p := ⟨w.heap.size + 1, 2, none⟩) (by show w.heap.size ≤ w.heap.size + 1; omega) (.int .u32 (0)))
  obtain ⟨WW, hWW⟩ : ∃ WW, WW = (((w1.setCell ⟨w.heap.size + 1, 0, none⟩ (.int .i64 (0))).setCell ⟨w.heap.size + 1, 1, none⟩ (.int .i64 (0))).setCell ⟨w.heap.size + 1, 2, none⟩ (.int .u32 (0))) := ⟨_, rfl⟩
  rw [← hWW] at hF hBB ⊢
  clear hWW
  obtain ⟨_, hF0, hF1, hF2⟩ := hF
  exact bodyPost_ret (v := .tuple #[.agg #[.int .i64 (0), .int .i64 (0), .int .u32 (0)], .int .i64 1]) (by simp [results, Try.results41, go_sem, hF0, hF1, hF2]) rfl ⟨rfl, hBB⟩
theorem ipo_no (v : Value) (zs : List Int) (k n e : Nat) (hS : SlI w v zs) (hm : zs.length ≤ 1048576) (h : VK k n e) (hx : ¬ (Unl zs k ∧ Diff zs n)) :
    Calls Try.prog 41 #[.agg #[.int .i64 k, .int .i64 n, .int .u32 e], v] w fun r w' => r = .returned (.tuple #[.agg #[.int .i64 0, .int .i64 0, .int .u32 0], .int .i64 2]) ∧ Below w.heap.size w w' := by
  have hU := Lib.hid (fun W (hW : SlI W v zs) => unl_any W v zs k n e h.nums.2.1 hW hm false (by simp [hx]))
  replace hS := Lib.hid hS
  clear hx hm
  go_enter Try.func41, Try.ntmps41
  go_wp2_with fail
  refine (ivk_t _ k n e h).mono ?_
  rintro r1 w1 ⟨rfl, hb1⟩
  obtain ⟨hc1_0, hz1_0⟩ := bkeep hb1 (w.heap.size) (by (try simp) <;> omega)
  obtain ⟨hc1_1, hz1_1⟩ := bkeep hb1 (w.heap.size + 1) (by (try simp) <;> omega)
  have hf1_1 := bkeepz hb1 (w.heap.size + 1) (by (try simp) <;> omega)
  go_wp2_with fail
  refine (hU.out _ (hS.out.below (by (repeat (first | exact Below.refl _ _ | assumption | refine bchain (by assumption) ?_ | refine balloc ?_ _ | apply Below.drew | apply below_drewN | (refine Below.alloc ?_ (by (try simp) <;> omega) _) | (refine Below.setCell ?_ (by (try simp) <;> omega) _)))))).mono ?_
  rintro r2 w2 ⟨rfl, hb2⟩
  obtain ⟨hc2_0, hz2_0⟩ := bkeep hb2 (w.heap.size + 1) (by (try simp) <;> omega)
  have hf2_0 := bkeepz hb2 (w.heap.size + 1) (by (try simp) <;> omega)
  go_wp2
  have hfc : FC w2 (w.heap.size + 1) 0 0 0 := ⟨hz2_0, by rw [hc2_0, hc1_1]; simp [go_sem], by rw [hc2_0, hc1_1]; simp [go_sem], by rw [hc2_0, hc1_1]; simp [go_sem]⟩
  have hbw : Below w.heap.size w w2 := by (repeat (first | exact Below.refl _ _ | assumption | refine bchain (by assumption) ?_ | refine balloc ?_ _ | apply Below.drew | apply below_drewN | (refine Below.alloc ?_ (by (try simp) <;> omega) _) | (refine Below.setCell ?_ (by (try simp) <;> omega) _)))
  have hF := hfc.put (0) (0) (0)
  have hBB := (((hbw.setCell (p := ⟨w.heap.size + 1, 0, none⟩) (by show w.heap.size ≤ w.heap.size + 1; omega) (.int .i64 (0))).setCell (p := ⟨w.heap.size + 1, 1, none⟩) (by show w.heap.size ≤ w.heap.size + 1; omega) (.int .i64 (0))).setCell (p := ⟨w.heap.size + 1, 2, none⟩) (by show w.heap.size ≤ w.heap.size + 1; omega) (.int .u32 (0)))
  obtain ⟨WW, hWW⟩ : ∃ WW, WW = (((w2.setCell ⟨w.heap.size + 1, 0, none⟩ (.int .i64 (0))).setCell ⟨w.heap.size + 1, 1, none⟩ (.int .i64 (0))).setCell ⟨w.heap.size + 1, 2, none⟩ (.int .u32 (0))) := ⟨_, rfl⟩
  rw [← hWW] at hF hBB ⊢
  clear hWW
  obtain ⟨_, hF0, hF1, hF2⟩ := hF
  exact bodyPost_ret (v := .tuple #[.agg #[.int .i64 (0), .int .i64 (0), .int .u32 (0)], .int .i64 2]) (by simp [results, Try.results41, go_sem, hF0, hF1, hF2]) rfl ⟨rfl, hBB⟩
set_option maxHeartbeats 1000000 in
theorem ipo_ok (v : Value) (k n e m : Nat) (x : List Nat) (hS : SlS w v (zl x)) (h : VK k n e) (hm : x.length = m) (hx : Unl (zl x) k ∧ Diff (zl x) n) (hok : okList n (k + m) (List.range k ++ x) = true) (hvk : VK k (k + m : Nat) (onL e (List.range k ++ x) : Nat)) :
    Calls Try.prog 41 #[.agg #[.int .i64 k, .int .i64 n, .int .u32 e], v] w fun r w' => r = .returned (.tuple #[.agg #[.int .i64 k, .int .i64 ((k + m : Nat) : Int), .int .u32 (leastK (k + m) k (onL e (List.range k ++ x)) : Nat)], .int .i64 0]) ∧ Below w.heap.size w w' := by
  have hr := ok_len hok
  have hn5 := h.nums.2.1
  have hU := Lib.hid (fun W (hW : SlI W v (zl x)) => unl_any W v (zl x) k n e hn5 hW (by rw [zl_length]; omega) true (by simp [hx]))
  have hP := Lib.hid (fun W (hW : SlS W v (zl x)) => part_any W k n e m x v h hW hm hok)
  have hM := Lib.hid (fun W => leastK_any W k (k + m) _ hvk)
  obtain ⟨y, hy⟩ : ∃ y, onL e (List.range k ++ x) = y := ⟨_, rfl⟩
  rw [hy] at hP hM ⊢
  obtain ⟨z, hz⟩ : ∃ z, leastK (k + m) k y = z := ⟨_, rfl⟩
  rw [hz] at hM ⊢
  rw [show ((k + m : Nat) : Int) = (k : Int) + (m : Int) from Int.natCast_add k m] at hP hM ⊢
  replace hS := Lib.hid hS
  clear hx hm hok hvk hy hz
  go_enter Try.func41, Try.ntmps41
  go_wp2_with fail
  refine (ivk_t _ k n e h).mono ?_
  rintro r1 w1 ⟨rfl, hb1⟩
  obtain ⟨hc1_0, hz1_0⟩ := bkeep hb1 (w.heap.size) (by (try simp) <;> omega)
  obtain ⟨hc1_1, hz1_1⟩ := bkeep hb1 (w.heap.size + 1) (by (try simp) <;> omega)
  have hf1_1 := bkeepz hb1 (w.heap.size + 1) (by (try simp) <;> omega)
  go_wp2_with fail
  refine (hU.out _ (SlI.below hS.out.1 (by (repeat (first | exact Below.refl _ _ | assumption | refine bchain (by assumption) ?_ | refine balloc ?_ _ | apply Below.drew | apply below_drewN | (refine Below.alloc ?_ (by (try simp) <;> omega) _) | (refine Below.setCell ?_ (by (try simp) <;> omega) _)))))).mono ?_
  rintro r2 w2 ⟨rfl, hb2⟩
  obtain ⟨hc2_0, hz2_0⟩ := bkeep hb2 (w.heap.size) (by (try simp) <;> omega)
  obtain ⟨hc2_1, hz2_1⟩ := bkeep hb2 (w.heap.size + 1) (by (try simp) <;> omega)
  have hf2_1 := bkeepz hb2 (w.heap.size + 1) (by (try simp) <;> omega)
  go_wp2_with fail
  refine (hP.out _ (hS.out.below (by (repeat (first | exact Below.refl _ _ | assumption | refine bchain (by assumption) ?_ | refine balloc ?_ _ | apply Below.drew | apply below_drewN | (refine Below.alloc ?_ (by (try simp) <;> omega) _) | (refine Below.setCell ?_ (by (try simp) <;> omega) _)))))).mono ?_
  rintro r3 w3 ⟨rfl, hb3⟩
  obtain ⟨hc3_0, hz3_0⟩ := bkeep hb3 (w.heap.size + 1) (by (try simp) <;> omega)
  have hf3_0 := bkeepz hb3 (w.heap.size + 1) (by (try simp) <;> omega)
  go_wp2_with fail
  refine (hM.out _).mono ?_
  rintro r4 w4 ⟨rfl, hb4⟩
  obtain ⟨hc4_0, hz4_0⟩ := bkeep hb4 (w.heap.size + 1) (by (try simp) <;> omega)
  have hf4_0 := bkeepz hb4 (w.heap.size + 1) (by (try simp) <;> omega)
  go_wp2
  have hfc : FC w4 (w.heap.size + 1) 0 0 0 := ⟨hz4_0, by rw [hc4_0, hc3_0, hc2_1, hc1_1]; simp [go_sem], by rw [hc4_0, hc3_0, hc2_1, hc1_1]; simp [go_sem], by rw [hc4_0, hc3_0, hc2_1, hc1_1]; simp [go_sem]⟩
  have hbw : Below w.heap.size w w4 := by (repeat (first | exact Below.refl _ _ | assumption | refine bchain (by assumption) ?_ | refine balloc ?_ _ | apply Below.drew | apply below_drewN | (refine Below.alloc ?_ (by (try simp) <;> omega) _) | (refine Below.setCell ?_ (by (try simp) <;> omega) _)))
  have hF := hfc.put (k) ((k : Int) + m) (z)
  have hBB := (((hbw.setCell (p := ⟨w.heap.size + 1, 0, none⟩) (by show w.heap.size ≤ w.heap.size + 1; omega) (.int .i64 (k))).setCell (p := ⟨w.heap.size + 1, 1, none⟩) (by show w.heap.size ≤ w.heap.size + 1; omega) (.int .i64 ((k : Int) + m))).setCell (p := ⟨w.heap.size + 1, 2, none⟩) (by show w.heap.size ≤ w.heap.size + 1; omega) (.int .u32 (z)))
  obtain ⟨WW, hWW⟩ : ∃ WW, WW = (((w4.setCell ⟨w.heap.size + 1, 0, none⟩ (.int .i64 (k))).setCell ⟨w.heap.size + 1, 1, none⟩ (.int .i64 ((k : Int) + m))).setCell ⟨w.heap.size + 1, 2, none⟩ (.int .u32 (z))) := ⟨_, rfl⟩
  rw [← hWW] at hF hBB ⊢
  clear hWW
  obtain ⟨_, hF0, hF1, hF2⟩ := hF
  exact bodyPost_ret (v := .tuple #[.agg #[.int .i64 (k), .int .i64 ((k : Int) + m), .int .u32 (z)], .int .i64 0]) (by simp [results, Try.results41, go_sem, hF0, hF1, hF2]) rfl ⟨rfl, hBB⟩
theorem spo_inv (v : Value) (k n e : Int) (hn : e < 4294967296) (he0 : 0 ≤ e) (h : ¬ VK k n e) :
    Calls Try.prog 40 #[.agg #[.int .i64 k, .int .i64 n, .int .u32 e], v] w fun r w' => r = .returned (.tuple #[.agg #[.int .i64 0, .int .i64 0, .int .u32 0], .int .i64 1]) ∧ Below w.heap.size w w' := by
  go_enter Try.func40, Try.ntmps40
  go_wp2_with fail
  refine (sok_f _ k n e hn he0 h).mono ?_
  rintro r1 w1 ⟨rfl, hb1⟩
  obtain ⟨hc1_0, hz1_0⟩ := bkeep hb1 (w.heap.size + 1) (by (try simp) <;> omega)
  have hf1_0 := bkeepz hb1 (w.heap.size + 1) (by (try simp) <;> omega)
  go_wp2
  have hfc : FC w1 (w.heap.size + 1) 0 0 0 := ⟨hz1_0, by rw [hc1_0]; simp [go_sem], by rw [hc1_0]; simp [go_sem], by rw [hc1_0]; simp [go_sem]⟩
  have hbw : Below w.heap.size w w1 := by (repeat (first | exact Below.refl _ _ | assumption | refine bchain (by assumption) ?_ | refine balloc ?_ _ | apply Below.drew | apply below_drewN | (refine Below.alloc ?_ (by (try simp) <;> omega) _) | (refine Below.setCell ?_ (by (try simp) <;> omega) _)))
  have hF := hfc.put (0) (0) (0)
  have hBB := (((hbw.setCell (p := ⟨w.heap.size + 1, 0, none⟩) (by show w.heap.size ≤ w.heap.size + 1; omega) (.int .i64 (0))).setCell (p := ⟨w.heap.size + 1, 1, none⟩) (by show w.heap.size ≤ w.heap.size + 1; omega) (.int .i64 (0))).setCell (p := ⟨w.heap.size + 1, 2, none⟩) (by show w.heap.size ≤ w.heap.size + 1; omega) (.int .u32 (0)))
  obtain ⟨WW, hWW⟩ : ∃ WW, WW = (((w1.setCell ⟨w.heap.size + 1, 0, none⟩ (.int .i64 (0))).setCell ⟨w.heap.size + 1, 1, none⟩ (.int .i64 (0))).setCell ⟨w.heap.size + 1, 2, none⟩ (.int .u32 (0))) := ⟨_, rfl⟩
  rw [← hWW] at hF hBB ⊢
  clear hWW
  obtain ⟨_, hF0, hF1, hF2⟩ := hF
  exact bodyPost_ret (v := .tuple #[.agg #[.int .i64 (0), .int .i64 (0), .int .u32 (0)], .int .i64 1]) (by simp [results, Try.results40, go_sem, hF0, hF1, hF2]) rfl ⟨rfl, hBB⟩
open Classical in
set_option maxHeartbeats 2000000 in
theorem spo_no (v : Value) (zs : List Int) (k n e : Nat) (hS : SlS w v zs) (hm : zs.length ≤ 1048576) (h : VK k n e) (hx : ¬ (Unl zs k ∧ Diff zs n)) :
    Calls Try.prog 40 #[.agg #[.int .i64 k, .int .i64 n, .int .u32 e], v] w fun r w' => r = .returned (.tuple #[.agg #[.int .i64 0, .int .i64 0, .int .u32 0], .int .i64 2]) ∧ Below w.heap.size w w' := by
  obtain ⟨i0, hi, hz0, hz1, hz2⟩ := info_parts info_i64
  obtain ⟨_, ad, cap, hv⟩ := id hS
  obtain ⟨l, hl⟩ : ∃ l, zs.length = l := ⟨_, rfl⟩
  rw [hl] at hv hm
  have hk3 : k ≤ 3 := h.nums.2.2.1
  have hn5 : n ≤ 5 := h.nums.2.1
  have hFr := Lib.hid (fun W => first_rowI W k (by omega))
  have hDf := Lib.hid (fun W u (hW : SlI W u (zl (List.range k) ++ zs)) => show Calls Try.prog 47 #[u, .int .i64 n] W (fun r w' => r = .returned (.bool false) ∧ Below W.heap.size W w') from by
    have := tdiff_any W u _ n hW (by rw [List.length_append, zl_length, hl]; simp; omega) (by omega) (by omega)
    rwa [decide_eq_false (fun c => hx ((diff_first h.nums.2.2.2).1 c))] at this)
  have hrow : ∀ W u base, World.ownsRow W base 2 1 u (k + l) (rowI (zl (List.range k)) ++ rowI zs) → SlI W u (zl (List.range k) ++ zs) := fun W u base hu => by
    rw [← rowI_app] at hu
    exact row_slI hu (by rw [List.length_append, zl_length, hl]; simp)
  have hrl : (rowI zs).length = l * 1 := by rw [rowI_length, hl]; omega
  have h1c := rowI_one zs
  obtain ⟨X, hX⟩ : ∃ X, X = rowI zs := ⟨_, rfl⟩
  obtain ⟨X0, hX0⟩ : ∃ X0, X0 = rowI (zl (List.range k)) := ⟨_, rfl⟩
  rw [← hX] at hrl h1c hrow
  rw [← hX0] at hrow hFr
  subst hv
  replace hX := Lib.hid hX
  replace hS := Lib.hid hS
  replace hrow := Lib.hid hrow
  replace hrl := Lib.hid hrl
  replace h1c := Lib.hid h1c
  replace hi := Lib.hid hi
  replace hz0 := Lib.hid hz0
  replace hz1 := Lib.hid hz1
  replace hz2 := Lib.hid hz2
  clear hX0 hl
  clear hx
  go_enter Try.func40, Try.ntmps40
  go_wp2_with fail
  refine (sok_t _ k n e h).mono ?_
  rintro r1 w1 ⟨rfl, hb1⟩
  obtain ⟨hc1_0, hz1_0⟩ := bkeep hb1 (w.heap.size) (by (try simp) <;> omega)
  obtain ⟨hc1_1, hz1_1⟩ := bkeep hb1 (w.heap.size + 1) (by (try simp) <;> omega)
  have hf1_1 := bkeepz hb1 (w.heap.size + 1) (by (try simp) <;> omega)
  have hB1 : Below w.heap.size w w1 := by (repeat (first | exact Below.refl _ _ | assumption | refine bchain (by assumption) ?_ | refine balloc ?_ _ | apply Below.drew | apply below_drewN | (refine Below.alloc ?_ (by (try simp) <;> omega) _) | (refine Below.setCell ?_ (by (try simp) <;> omega) _)))
  have c0 : w1.cell? ⟨w.heap.size, 0, none⟩ = some (.int .i64 k) := by rw [hc1_0]; simp [go_sem]
  have c1 : w1.cell? ⟨w.heap.size, 1, none⟩ = some (.int .i64 n) := by rw [hc1_0]; simp [go_sem]
  have c2 : w1.cell? ⟨w.heap.size, 2, none⟩ = some (.int .u32 e) := by rw [hc1_0]; simp [go_sem]
  have q0 : w1.cell? ⟨w.heap.size + 1, 0, none⟩ = some (.int .i64 0) := by rw [hc1_1]; simp [go_sem]
  have q1 : w1.cell? ⟨w.heap.size + 1, 1, none⟩ = some (.int .i64 0) := by rw [hc1_1]; simp [go_sem]
  have q2 : w1.cell? ⟨w.heap.size + 1, 2, none⟩ = some (.int .u32 0) := by rw [hc1_1]; simp [go_sem]
  have qf : ∀ i, w1.frozen? ⟨w.heap.size + 1, i, none⟩ = false := fun i => by rw [hf1_1]; simp [go_sem]
  have hS1 := hS.out.below hB1
  have hsr : ∀ W, Below w1.heap.size w1 W → ∀ q u, X[q]? = some u → W.cell? (ad.add q) = some u := fun W hW => by rw [hX.out]; exact (hS1.below hW).srcI rfl
  replace hsr := Lib.hid hsr
  replace qf := Lib.hid qf
  clear hc1_0 hc1_1 hf1_1 hb1
  go_wp2_with fail
  go_region_held3 (fun A => A.cell? ⟨w.heap.size, 0, none⟩ = some (.int .i64 k) ∧ A.cell? ⟨w.heap.size, 1, none⟩ = some (.int .i64 n) ∧ A.cell? ⟨w.heap.size, 2, none⟩ = some (.int .u32 e))
    (exact ⟨old_cell hz1_0 c0 (by (repeat (first | exact Below.refl _ _ | assumption | refine bchain (by assumption) ?_ | refine balloc ?_ _ | apply Below.drew | apply below_drewN | (refine Below.alloc ?_ (by (try simp) <;> omega) _) | (refine Below.setCell ?_ (by (try simp) <;> omega) _)))), old_cell hz1_0 c1 (by (repeat (first | exact Below.refl _ _ | assumption | refine bchain (by assumption) ?_ | refine balloc ?_ _ | apply Below.drew | apply below_drewN | (refine Below.alloc ?_ (by (try simp) <;> omega) _) | (refine Below.setCell ?_ (by (try simp) <;> omega) _)))), old_cell hz1_0 c2 (by (repeat (first | exact Below.refl _ _ | assumption | refine bchain (by assumption) ?_ | refine balloc ?_ _ | apply Below.drew | apply below_drewN | (refine Below.alloc ?_ (by (try simp) <;> omega) _) | (refine Below.setCell ?_ (by (try simp) <;> omega) _))))⟩)
    (first
    | (go_at_call 54; refine (hFr.out _).mono ?_; rintro r3 w3 ⟨⟨u3, rfl, hown3⟩, hb3⟩; have hbb : Below w1.heap.size w1 w3 := (by (repeat (first | exact Below.refl _ _ | assumption | refine bchain (by assumption) ?_ | refine balloc ?_ _ | apply Below.drew | apply below_drewN | (refine Below.alloc ?_ (by (try simp) <;> omega) _) | (refine Below.setCell ?_ (by (try simp) <;> omega) _)))))
    | (refine step_append_own rfl (.tmp 12) (.tmp 13) 43 rfl w1.heap.size 2 i0 (.int .i64 0) 1 8 Try.underlying43 hi.out hz0.out hz1.out hz2.out rfl (by decide) u3 k X0 (by simp [Act.eval]) hown3.out ad l cap X (by simp [Act.eval]) hrl.out (hsr.out w3 hbb) h1c.out (by unfold maxLen; omega) (by omega) hbb.size ?_; intro v' w4 hown' hgrow; have hb4 : Below w1.heap.size w1 w4 := hbb.grown hgrow hbb.size (fun q hq => (hown3.out.lt q hq).1); have hsl := Lib.hid (hrow.out w4 v' w1.heap.size hown'); clear hown' hgrow)
    | (go_at_call 47; refine (hDf.out _ _ hsl.out).mono ?_; rintro r5 w5 ⟨rfl, hb5⟩; have hb15 : Below w1.heap.size w1 w5 := hb4.trans (hb5.mono hb4.size)))
  have p0 := old_cell hz1_0 c0 hb15
  have p1 := old_cell hz1_0 c1 hb15
  have p2 := old_cell hz1_0 c2 hb15
  have s0 := old_cell hz1_1 q0 hb15
  have s1 := old_cell hz1_1 q1 hb15
  have s2 := old_cell hz1_1 q2 hb15
  have sf := Lib.hid (fun i => (hb15.frozen (p := ⟨w.heap.size + 1, i, none⟩) hz1_1).trans (qf.out i))
  have hz5_0 : w.heap.size < w5.heap.size := Nat.lt_of_lt_of_le hz1_0 hb15.size
  have hz5_1 : w.heap.size + 1 < w5.heap.size := Nat.lt_of_lt_of_le hz1_1 hb15.size
  have hB5 : Below w.heap.size w w5 := hB1.trans (hb15.mono hB1.size)
  clear c0 c1 c2 q0 q1 q2 hb15 hb4 hb5 hb3 hbb hsl hown3 hsr hS1 hB1
  have sf0 := sf.out 0
  have sf1 := sf.out 1
  have sf2 := sf.out 2
  have hfc : FC w5 (w.heap.size + 1) 0 0 0 := ⟨hz5_1, s0, s1, s2⟩
  replace hfc := Lib.hid hfc
  go_wp2
  replace hfc := hfc.out
  have hbw := hB5
  have hF := hfc.put (0) (0) (0)
  have hBB := (((hbw.setCell (p := ⟨w.heap.size + 1, 0, none⟩) (by show w.heap.size ≤ w.heap.size + 1; omega) (.int .i64 (0))).setCell (p := ⟨w.heap.size + 1, 1, none⟩) (by show w.heap.size ≤ w.heap.size + 1; omega) (.int .i64 (0))).setCell (p := ⟨w.heap.size + 1, 2, none⟩) (by show w.heap.size ≤ w.heap.size + 1; omega) (.int .u32 (0)))
  obtain ⟨WW, hWW⟩ : ∃ WW, WW = (((w5.setCell ⟨w.heap.size + 1, 0, none⟩ (.int .i64 (0))).setCell ⟨w.heap.size + 1, 1, none⟩ (.int .i64 (0))).setCell ⟨w.heap.size + 1, 2, none⟩ (.int .u32 (0))) := ⟨_, rfl⟩
  rw [← hWW] at hF hBB ⊢
  clear hWW
  obtain ⟨_, hF0, hF1, hF2⟩ := hF
  exact bodyPost_ret (v := .tuple #[.agg #[.int .i64 (0), .int .i64 (0), .int .u32 (0)], .int .i64 2]) (by simp [results, Try.results40, go_sem, hF0, hF1, hF2]) rfl ⟨rfl, hBB⟩
open Classical in
set_option maxHeartbeats 2000000 in
theorem spo_ok (v : Value) (k n e m : Nat) (x : List Nat) (zs : List Int) (hzs : zs = zl x) (hS : SlS w v zs) (hm : zs.length ≤ 1048576) (h : VK k n e) (hxm : x.length = m) (hx : Unl zs k ∧ Diff zs n) (hok : okList n (k + m) (List.range k ++ x) = true) (hvk : VK k (k + m : Nat) (onL e (List.range k ++ x) : Nat)) :
    Calls Try.prog 40 #[.agg #[.int .i64 k, .int .i64 n, .int .u32 e], v] w fun r w' => r = .returned (.tuple #[.agg #[.int .i64 k, .int .i64 ((k + m : Nat) : Int), .int .u32 (leastK (k + m) k (onL e (List.range k ++ x)) : Nat)], .int .i64 0]) ∧ Below w.heap.size w w' := by
  have hP := Lib.hid (fun W (hW : SlS W v (zl x)) => spart_any W k n e m x v h hW hxm hok hvk)
  obtain ⟨z, hz⟩ : ∃ z, leastK (k + m) k (onL e (List.range k ++ x)) = z := ⟨_, rfl⟩
  rw [hz] at hP ⊢
  rw [show ((k + m : Nat) : Int) = (k : Int) + (m : Int) from Int.natCast_add k m] at hP ⊢
  rw [← hzs] at hP
  clear hz hok hvk hxm hzs
  obtain ⟨i0, hi, hz0, hz1, hz2⟩ := info_parts info_i64
  obtain ⟨_, ad, cap, hv⟩ := id hS
  obtain ⟨l, hl⟩ : ∃ l, zs.length = l := ⟨_, rfl⟩
  rw [hl] at hv hm
  have hk3 : k ≤ 3 := h.nums.2.2.1
  have hn5 : n ≤ 5 := h.nums.2.1
  have hFr := Lib.hid (fun W => first_rowI W k (by omega))
  have hDf := Lib.hid (fun W u (hW : SlI W u (zl (List.range k) ++ zs)) => show Calls Try.prog 47 #[u, .int .i64 n] W (fun r w' => r = .returned (.bool true) ∧ Below W.heap.size W w') from by
    have := tdiff_any W u _ n hW (by rw [List.length_append, zl_length, hl]; simp; omega) (by omega) (by omega)
    rwa [decide_eq_true ((diff_first h.nums.2.2.2).2 hx)] at this)
  have hrow : ∀ W u base, World.ownsRow W base 2 1 u (k + l) (rowI (zl (List.range k)) ++ rowI zs) → SlI W u (zl (List.range k) ++ zs) := fun W u base hu => by
    rw [← rowI_app] at hu
    exact row_slI hu (by rw [List.length_append, zl_length, hl]; simp)
  have hrl : (rowI zs).length = l * 1 := by rw [rowI_length, hl]; omega
  have h1c := rowI_one zs
  obtain ⟨X, hX⟩ : ∃ X, X = rowI zs := ⟨_, rfl⟩
  obtain ⟨X0, hX0⟩ : ∃ X0, X0 = rowI (zl (List.range k)) := ⟨_, rfl⟩
  rw [← hX] at hrl h1c hrow
  rw [← hX0] at hrow hFr
  subst hv
  replace hX := Lib.hid hX
  replace hS := Lib.hid hS
  replace hrow := Lib.hid hrow
  replace hrl := Lib.hid hrl
  replace h1c := Lib.hid h1c
  replace hi := Lib.hid hi
  replace hz0 := Lib.hid hz0
  replace hz1 := Lib.hid hz1
  replace hz2 := Lib.hid hz2
  clear hX0 hl
  clear hx
  go_enter Try.func40, Try.ntmps40
  go_wp2_with fail
  refine (sok_t _ k n e h).mono ?_
  rintro r1 w1 ⟨rfl, hb1⟩
  obtain ⟨hc1_0, hz1_0⟩ := bkeep hb1 (w.heap.size) (by (try simp) <;> omega)
  obtain ⟨hc1_1, hz1_1⟩ := bkeep hb1 (w.heap.size + 1) (by (try simp) <;> omega)
  have hf1_1 := bkeepz hb1 (w.heap.size + 1) (by (try simp) <;> omega)
  have hB1 : Below w.heap.size w w1 := by (repeat (first | exact Below.refl _ _ | assumption | refine bchain (by assumption) ?_ | refine balloc ?_ _ | apply Below.drew | apply below_drewN | (refine Below.alloc ?_ (by (try simp) <;> omega) _) | (refine Below.setCell ?_ (by (try simp) <;> omega) _)))
  have c0 : w1.cell? ⟨w.heap.size, 0, none⟩ = some (.int .i64 k) := by rw [hc1_0]; simp [go_sem]
  have c1 : w1.cell? ⟨w.heap.size, 1, none⟩ = some (.int .i64 n) := by rw [hc1_0]; simp [go_sem]
  have c2 : w1.cell? ⟨w.heap.size, 2, none⟩ = some (.int .u32 e) := by rw [hc1_0]; simp [go_sem]
  have q0 : w1.cell? ⟨w.heap.size + 1, 0, none⟩ = some (.int .i64 0) := by rw [hc1_1]; simp [go_sem]
  have q1 : w1.cell? ⟨w.heap.size + 1, 1, none⟩ = some (.int .i64 0) := by rw [hc1_1]; simp [go_sem]
  have q2 : w1.cell? ⟨w.heap.size + 1, 2, none⟩ = some (.int .u32 0) := by rw [hc1_1]; simp [go_sem]
  have qf : ∀ i, w1.frozen? ⟨w.heap.size + 1, i, none⟩ = false := fun i => by rw [hf1_1]; simp [go_sem]
  have hS1 := hS.out.below hB1
  have hsr : ∀ W, Below w1.heap.size w1 W → ∀ q u, X[q]? = some u → W.cell? (ad.add q) = some u := fun W hW => by rw [hX.out]; exact (hS1.below hW).srcI rfl
  replace hsr := Lib.hid hsr
  replace qf := Lib.hid qf
  clear hc1_0 hc1_1 hf1_1 hb1
  go_wp2_with fail
  go_region_held3 (fun A => A.cell? ⟨w.heap.size, 0, none⟩ = some (.int .i64 k) ∧ A.cell? ⟨w.heap.size, 1, none⟩ = some (.int .i64 n) ∧ A.cell? ⟨w.heap.size, 2, none⟩ = some (.int .u32 e))
    (exact ⟨old_cell hz1_0 c0 (by (repeat (first | exact Below.refl _ _ | assumption | refine bchain (by assumption) ?_ | refine balloc ?_ _ | apply Below.drew | apply below_drewN | (refine Below.alloc ?_ (by (try simp) <;> omega) _) | (refine Below.setCell ?_ (by (try simp) <;> omega) _)))), old_cell hz1_0 c1 (by (repeat (first | exact Below.refl _ _ | assumption | refine bchain (by assumption) ?_ | refine balloc ?_ _ | apply Below.drew | apply below_drewN | (refine Below.alloc ?_ (by (try simp) <;> omega) _) | (refine Below.setCell ?_ (by (try simp) <;> omega) _)))), old_cell hz1_0 c2 (by (repeat (first | exact Below.refl _ _ | assumption | refine bchain (by assumption) ?_ | refine balloc ?_ _ | apply Below.drew | apply below_drewN | (refine Below.alloc ?_ (by (try simp) <;> omega) _) | (refine Below.setCell ?_ (by (try simp) <;> omega) _))))⟩)
    (first
    | (go_at_call 54; refine (hFr.out _).mono ?_; rintro r3 w3 ⟨⟨u3, rfl, hown3⟩, hb3⟩; have hbb : Below w1.heap.size w1 w3 := (by (repeat (first | exact Below.refl _ _ | assumption | refine bchain (by assumption) ?_ | refine balloc ?_ _ | apply Below.drew | apply below_drewN | (refine Below.alloc ?_ (by (try simp) <;> omega) _) | (refine Below.setCell ?_ (by (try simp) <;> omega) _)))))
    | (refine step_append_own rfl (.tmp 12) (.tmp 13) 43 rfl w1.heap.size 2 i0 (.int .i64 0) 1 8 Try.underlying43 hi.out hz0.out hz1.out hz2.out rfl (by decide) u3 k X0 (by simp [Act.eval]) hown3.out ad l cap X (by simp [Act.eval]) hrl.out (hsr.out w3 hbb) h1c.out (by unfold maxLen; omega) (by omega) hbb.size ?_; intro v' w4 hown' hgrow; have hb4 : Below w1.heap.size w1 w4 := hbb.grown hgrow hbb.size (fun q hq => (hown3.out.lt q hq).1); have hsl := Lib.hid (hrow.out w4 v' w1.heap.size hown'); clear hown' hgrow)
    | (go_at_call 47; refine (hDf.out _ _ hsl.out).mono ?_; rintro r5 w5 ⟨rfl, hb5⟩; have hb15 : Below w1.heap.size w1 w5 := hb4.trans (hb5.mono hb4.size)))
  have p0 := old_cell hz1_0 c0 hb15
  have p1 := old_cell hz1_0 c1 hb15
  have p2 := old_cell hz1_0 c2 hb15
  have s0 := old_cell hz1_1 q0 hb15
  have s1 := old_cell hz1_1 q1 hb15
  have s2 := old_cell hz1_1 q2 hb15
  have sf := Lib.hid (fun i => (hb15.frozen (p := ⟨w.heap.size + 1, i, none⟩) hz1_1).trans (qf.out i))
  have hz5_0 : w.heap.size < w5.heap.size := Nat.lt_of_lt_of_le hz1_0 hb15.size
  have hz5_1 : w.heap.size + 1 < w5.heap.size := Nat.lt_of_lt_of_le hz1_1 hb15.size
  have hB5 : Below w.heap.size w w5 := hB1.trans (hb15.mono hB1.size)
  clear c0 c1 c2 q0 q1 q2 hb15 hb4 hb5 hb3 hbb hsl hown3 hsr hS1 hB1
  go_wp2_with fail
  refine (hP.out _ (hS.out.below hB5)).mono ?_
  rintro r6 w6 ⟨rfl, hb6⟩
  obtain ⟨hc6_0, hz6_0⟩ := bkeep hb6 (w.heap.size + 1) (by (try simp) <;> omega)
  have hf6_0 := bkeepz hb6 (w.heap.size + 1) (by (try simp) <;> omega)
  have sf0 := (hf6_0 0).trans (sf.out 0)
  have sf1 := (hf6_0 1).trans (sf.out 1)
  have sf2 := (hf6_0 2).trans (sf.out 2)
  have u0 := (hc6_0 0).trans s0
  have u1 := (hc6_0 1).trans s1
  have u2 := (hc6_0 2).trans s2
  have hbw : Below w.heap.size w w6 := hB5.trans (hb6.mono hB5.size)
  have hfc : FC w6 (w.heap.size + 1) 0 0 0 := ⟨hz6_0, u0, u1, u2⟩
  replace hfc := Lib.hid hfc
  clear hc6_0 hf6_0 hb6 hB5 s0 s1 s2 p0 p1 p2
  go_wp2
  replace hfc := hfc.out
  have hF := hfc.put (k) ((k : Int) + m) (z)
  have hBB := (((hbw.setCell (p := ⟨w.heap.size + 1, 0, none⟩) (by show w.heap.size ≤ w.heap.size + 1; omega) (.int .i64 (k))).setCell (p := ⟨w.heap.size + 1, 1, none⟩) (by show w.heap.size ≤ w.heap.size + 1; omega) (.int .i64 ((k : Int) + m))).setCell (p := ⟨w.heap.size + 1, 2, none⟩) (by show w.heap.size ≤ w.heap.size + 1; omega) (.int .u32 (z)))
  obtain ⟨WW, hWW⟩ : ∃ WW, WW = (((w6.setCell ⟨w.heap.size + 1, 0, none⟩ (.int .i64 (k))).setCell ⟨w.heap.size + 1, 1, none⟩ (.int .i64 ((k : Int) + m))).setCell ⟨w.heap.size + 1, 2, none⟩ (.int .u32 (z))) := ⟨_, rfl⟩
  rw [← hWW] at hF hBB ⊢
  clear hWW
  obtain ⟨_, hF0, hF1, hF2⟩ := hF
  exact bodyPost_ret (v := .tuple #[.agg #[.int .i64 (k), .int .i64 ((k : Int) + m), .int .u32 (z)], .int .i64 0]) (by simp [results, Try.results40, go_sem, hF0, hF1, hF2]) rfl ⟨rfl, hBB⟩
end
theorem po_both (k n e : Int) (zs : List Int) (hn : e < 4294967296) (he0 : 0 ≤ e) (hm : zs.length ≤ 1048576) : ∃ (m1 m2 m3 c : Int),
    (∀ W v, SlS W v zs → Calls Try.prog 40 #[.agg #[.int .i64 k, .int .i64 n, .int .u32 e], v] W fun r w' => r = .returned (.tuple #[.agg #[.int .i64 m1, .int .i64 m2, .int .u32 m3], .int .i64 c]) ∧ Below W.heap.size W w') ∧
    (∀ W v, SlS W v zs → Calls Try.prog 41 #[.agg #[.int .i64 k, .int .i64 n, .int .u32 e], v] W fun r w' => r = .returned (.tuple #[.agg #[.int .i64 m1, .int .i64 m2, .int .u32 m3], .int .i64 c]) ∧ Below W.heap.size W w') := by
  by_cases h : VK k n e
  · obtain ⟨k', rfl⟩ : ∃ x : Nat, k = x := ⟨k.toNat, by have := h.2.1; omega⟩
    obtain ⟨n', rfl⟩ : ∃ x : Nat, n = x := ⟨n.toNat, by have := h.1.1; omega⟩
    obtain ⟨e', rfl⟩ : ∃ x : Nat, e = x := ⟨e.toNat, by omega⟩
    by_cases hx : Unl zs k' ∧ Diff zs n'
    · obtain ⟨x, hzx, _⟩ := diff_list hx.2
      have hd := (diff_first h.nums.2.2.2).2 hx
      rw [hzx, show zl (List.range k') ++ zl x = zl (List.range k' ++ x) by simp [zl]] at hd
      have hok := ok_of_diff hd
      rw [List.length_append, List.length_range] at hok
      have hr := ok_len hok
      have hn5 := h.nums.2.1
      have hvk : VK k' (k' + x.length : Nat) (onL e' (List.range k' ++ x) : Nat) := ⟨VG_onL (by omega) hok, h.2.1, h.2.2.1, by omega⟩
      refine ⟨_, _, _, _, fun W v hv => spo_ok W v k' n' e' x.length x zs hzx hv hm h rfl hx hok hvk, fun W v hv => ?_⟩
      rw [hzx] at hv hx
      exact ipo_ok W v k' n' e' x.length x hv h rfl hx hok hvk
    · exact ⟨_, _, _, _, fun W v hv => spo_no W v zs k' n' e' hv hm h hx, fun W v hv => ipo_no W v zs k' n' e' hv.1 hm h hx⟩
  · exact ⟨_, _, _, _, fun W v _ => spo_inv W v k n e hn he0 h, fun W v _ => ipo_inv W v k n e hn he0 h⟩
end Go.Proofs.Ytdibcchhamapjaa
