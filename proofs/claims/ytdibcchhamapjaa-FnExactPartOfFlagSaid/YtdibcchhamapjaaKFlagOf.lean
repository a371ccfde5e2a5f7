/-
  CONTRACTS OF FlagOf AND TurnLabels: the program's and the model's, for every list that is not nil.
-/
import Derived.Test.YtdibcchhamapjaaKSLabd
import Derived.Test.YtdibcchhamapjaaKSLeast
namespace Go.Proofs.Ytdibcchhamapjaa
open Go.RowKit
set_option maxRecDepth 100000

theorem pp_ltN (i j : Nat) (hij : i < j) (hj : j ≤ 4) : pp i j < pc (j + 1) := by
  have h2 : j = 1 ∨ j = 2 ∨ j = 3 ∨ j = 4 := by omega
  have h1 : i = 0 ∨ i = 1 ∨ i = 2 ∨ i = 3 := by omega
  rcases h2 with rfl | rfl | rfl | rfl <;> rcases h1 with rfl | rfl | rfl | rfl <;> first | decide | (exfalso; omega)
theorem rowE_ltN (e : Nat) (f : Nat → Nat) (j i : Nat) (hij : i ≤ j) (hj : j ≤ 4) : rowE e f j i < 2 ^ pc (j + 1) := by
  induction i with
  | zero => exact Nat.pow_pos (by omega)
  | succ i ih =>
    refine Nat.or_lt_two_pow (ih (by omega)) ?_
    split
    · exact Nat.pow_lt_pow_right (by omega) (pp_ltN i j (by omega) hj)
    · exact Nat.pow_pos (by omega)
theorem pc_mono (j : Nat) (hj : j ≤ 4) : pc j ≤ pc (j + 1) := by
  have h2 : j = 0 ∨ j = 1 ∨ j = 2 ∨ j = 3 ∨ j = 4 := by omega
  rcases h2 with rfl | rfl | rfl | rfl | rfl <;> decide
theorem onE_ltN (e : Nat) (f : Nat → Nat) (j : Nat) (hj : j ≤ 5) : onE e f j < 2 ^ pc j := by
  induction j with
  | zero => exact Nat.pow_pos (by omega)
  | succ j ih => exact Nat.or_lt_two_pow (Nat.lt_of_lt_of_le (ih (by omega)) (Nat.pow_le_pow_right (by omega) (pc_mono j (by omega)))) (rowE_ltN e f j j (Nat.le_refl _) (by omega))
/-- the graph on a list of all vertices is valid -/
theorem VG_on {n e : Nat} {x : List Nat} (hn : n ≤ 5) (hx : okList n n x = true) : VG n (onL e x : Nat) := by
  have h := onE_ltN e (vx (zl x)) x.length (by rw [ok_length hx]; exact hn)
  rw [ok_length hx, ← eMax_pow n hn] at h
  unfold VG onL
  rw [ok_length hx]
  exact ⟨by omega, by omega, by omega, by simpa using h⟩
/-- different vertices are a list of numbers -/
theorem diff_list {zs : List Int} {n : Nat} (h : Diff zs n) : ∃ x, zs = zl x ∧ okList n zs.length x = true := by
  have hx : zs = zl (zs.map Int.toNat) := by
    apply List.ext_getElem
    · simp [zl]
    · intro i h1 h2
      have := (h i h1).1
      unfold zi at this
      rw [List.getElem?_eq_getElem h1] at this
      simp only [Option.getD_some] at this
      simp [zl, Int.toNat_of_nonneg this]
  refine ⟨_, hx, ?_⟩
  have hg : ∀ i, i < zs.length → (zs.map Int.toNat)[i]?.getD 0 = (zi zs i).toNat := fun i hi => by
    rw [List.getElem?_map]
    unfold zi
    rw [List.getElem?_eq_getElem hi]
    rfl
  simp only [okList, Bool.and_eq_true, beq_iff_eq, List.all_eq_true, List.mem_range, decide_eq_true_eq, bne_iff_ne, List.length_map, true_and]
  intro i hi
  obtain ⟨h1, h2, h3⟩ := h i hi
  refine ⟨by rw [hg i hi]; omega, fun j hj => ?_⟩
  rw [hg i hi, hg j (by omega)]
  have := h3 j hj
  have := (h j (by omega)).1
  omega
theorem ok_wide {n m k : Nat} {x : List Nat} (hnm : m ≤ n) (h : okList m k x = true) : okList n k x = true := by
  simp only [okList, Bool.and_eq_true, beq_iff_eq, List.all_eq_true, List.mem_range, decide_eq_true_eq, bne_iff_ne] at h ⊢
  exact ⟨h.1, fun i hi => ⟨Nat.lt_of_lt_of_le (h.2 i hi).1 hnm, (h.2 i hi).2⟩⟩
section
variable (w : World)
theorem ifo_inv (v : Value) (n e : Int) (hn : e < 4294967296) (he0 : 0 ≤ e) (h : ¬ VG n e) :
    Calls Try.prog 28 #[.agg #[.int .i64 n, .int .u32 e], v] w fun r w' => r = .returned (.tuple #[.agg #[.int .i64 0, .int .i64 0, .int .u32 0], .int .i64 1]) ∧ Below w.heap.size w w' := by
  go_enter Try.func28, Try.ntmps28
  go_wp2_with fail
  refine (valid_f _ n e hn he0 h).mono ?_
  rintro r1 w1 ⟨rfl, hb1⟩
  obtain ⟨hc1_0, hz1_0⟩ := bkeep hb1 (w.heap.size + 1) (by (try simp) <;> omega)
  have hf1_0 := bkeepz hb1 (w.heap.size + 1) (by (try simp) <;> omega)
  go_wp2
  have hfc : FC w1 (w.heap.size + 1) 0 0 0 := ⟨hz1_0, by rw [hc1_0]; simp [go_sem], by rw [hc1_0]; simp [go_sem], by rw [hc1_0]; simp [go_sem]⟩
  have hbw : Below w.heap.size w w1 := by (repeat (first | exact Below.refl _ _ | assumption | refine bchain (by assumption) ?_ | refine balloc ?_ _ | apply Below.drew | apply below_drewN | (refine Below.alloc ?_ (by (try simp) <;> omega) _) | (refine Below.setCell ?_ (by (try simp) <;> omega) _)))
  have hF := hfc.put (0) (0) (0)
  have hBB := (((hbw.setCell (p := ⟨w.heap.size + 1, 0, none⟩) (by show w.heap.size ≤ w.heap.size + 1; omega) (.int .i64 (0))).setCell (p := ⟨w.heap.size + 1, 1, none⟩) (by show w.heap.size ≤ w.heap.size + 1; omega) (.int .i64 (0))).setCell (p := ⟨w.heap.size + 1, 2, none⟩) (by show w.heap.size ≤ w.heap.size + 1; omega) (.int .u32 (0)))
  obtain ⟨WW, hWW⟩ : ∃ WW, WW = (((w1.setCell ⟨w.heap.size + 1, 0, none⟩ (.int .i64 (0))).setCell ⟨w.heap.size + 1, 1, none⟩ (.int .i64 (0))).setCell ⟨w.heap.size + 1, 2, none⟩ (.int .u32 (0))) := ⟨_, rfl⟩
  rw [← hWW] at hF hBB ⊢
  clear hWW
  obtain ⟨_, hF0, hF1, hF2⟩ := hF
  exact bodyPost_ret (v := .tuple #[.agg #[.int .i64 (0), .int .i64 (0), .int .u32 (0)], .int .i64 1]) (by simp [results, Try.results28, go_sem, hF0, hF1, hF2]) rfl ⟨rfl, hBB⟩
theorem ifo_len (v : Value) (zs : List Int) (n e : Nat) (hS : SlI w v zs) (h : VG n e) (hl : 3 < zs.length) :
    Calls Try.prog 28 #[.agg #[.int .i64 n, .int .u32 e], v] w fun r w' => r = .returned (.tuple #[.agg #[.int .i64 0, .int .i64 0, .int .u32 0], .int .i64 2]) ∧ Below w.heap.size w w' := by
  obtain ⟨a, cap, rfl, _⟩ := hS
  have hd : decide ((3 : Int) < (zs.length : Int)) = true := decide_eq_true (by omega)
  go_enter Try.func28, Try.ntmps28
  go_wp2_with fail
  refine (valid_t _ n e h).mono ?_
  rintro r1 w1 ⟨rfl, hb1⟩
  obtain ⟨hc1_0, hz1_0⟩ := bkeep hb1 (w.heap.size) (by (try simp) <;> omega)
  obtain ⟨hc1_1, hz1_1⟩ := bkeep hb1 (w.heap.size + 1) (by (try simp) <;> omega)
  have hf1_1 := bkeepz hb1 (w.heap.size + 1) (by (try simp) <;> omega)
  go_wp2
  have hfc : FC w1 (w.heap.size + 1) 0 0 0 := ⟨hz1_1, by rw [hc1_1]; simp [go_sem], by rw [hc1_1]; simp [go_sem], by rw [hc1_1]; simp [go_sem]⟩
  have hbw : Below w.heap.size w w1 := by (repeat (first | exact Below.refl _ _ | assumption | refine bchain (by assumption) ?_ | refine balloc ?_ _ | apply Below.drew | apply below_drewN | (refine Below.alloc ?_ (by (try simp) <;> omega) _) | (refine Below.setCell ?_ (by (try simp) <;> omega) _)))
  have hF := hfc.put (0) (0) (0)
  have hBB := (((hbw.setCell (p := ⟨w.heap.size + 1, 0, none⟩) (by show w.heap.size ≤ w.heap.size + 1; omega) (.int .i64 (0))).setCell (p := ⟨w.heap.size + 1, 1, none⟩) (by show w.heap.size ≤ w.heap.size + 1; omega) (.int .i64 (0))).setCell (p := ⟨w.heap.size + 1, 2, none⟩) (by show w.heap.size ≤ w.heap.size + 1; omega) (.int .u32 (0)))
  obtain ⟨WW, hWW⟩ : ∃ WW, WW = (((w1.setCell ⟨w.heap.size + 1, 0, none⟩ (.int .i64 (0))).setCell ⟨w.heap.size + 1, 1, none⟩ (.int .i64 (0))).setCell ⟨w.heap.size + 1, 2, none⟩ (.int .u32 (0))) := ⟨_, rfl⟩
  rw [← hWW] at hF hBB ⊢
  clear hWW
  obtain ⟨_, hF0, hF1, hF2⟩ := hF
  exact bodyPost_ret (v := .tuple #[.agg #[.int .i64 (0), .int .i64 (0), .int .u32 (0)], .int .i64 2]) (by simp [results, Try.results28, go_sem, hF0, hF1, hF2]) rfl ⟨rfl, hBB⟩
theorem ifo_dif (v : Value) (zs : List Int) (n e : Nat) (hS : SlI w v zs) (h : VG n e) (hl : zs.length ≤ 3) (hx : ¬ Diff zs n) :
    Calls Try.prog 28 #[.agg #[.int .i64 n, .int .u32 e], v] w fun r w' => r = .returned (.tuple #[.agg #[.int .i64 0, .int .i64 0, .int .u32 0], .int .i64 2]) ∧ Below w.heap.size w w' := by
  obtain ⟨a, cap, hv, _⟩ := id hS
  have hn5 : n ≤ 5 := by have := h.2.1; omega
  have hm : zs.length ≤ 1048576 := by omega
  have hd : decide ((3 : Int) < (zs.length : Int)) = false := decide_eq_false (by omega)
  have hD : ∀ W, SlI W v zs → Calls Try.prog 49 #[.int .i64 n, v] W fun r w' => r = .returned (.bool false) ∧ Below W.heap.size W w' :=
    fun W hW => idiff_no W v zs n hW hm (by omega) hx
  replace hD := Lib.hid hD
  replace hS := Lib.hid hS
  subst hv
  clear hx hm
  go_enter Try.func28, Try.ntmps28
  go_wp2_with fail
  refine (valid_t _ n e h).mono ?_
  rintro r1 w1 ⟨rfl, hb1⟩
  obtain ⟨hc1_0, hz1_0⟩ := bkeep hb1 (w.heap.size) (by (try simp) <;> omega)
  obtain ⟨hc1_1, hz1_1⟩ := bkeep hb1 (w.heap.size + 1) (by (try simp) <;> omega)
  have hf1_1 := bkeepz hb1 (w.heap.size + 1) (by (try simp) <;> omega)
  go_wp2_with fail
  refine (hD.out _ (hS.out.below (by (repeat (first | exact Below.refl _ _ | assumption | refine bchain (by assumption) ?_ | refine balloc ?_ _ | apply Below.drew | apply below_drewN | (refine Below.alloc ?_ (by (try simp) <;> omega) _) | (refine Below.setCell ?_ (by (try simp) <;> omega) _)))))).mono ?_
  rintro r2 w2 ⟨rfl, hb2⟩
  obtain ⟨hc2_0, hz2_0⟩ := bkeep hb2 (w.heap.size + 1) (by (try simp) <;> omega)
  have hf2_0 := bkeepz hb2 (w.heap.size + 1) (by (try simp) <;> omega)
  go_wp2
  have hfc : FC w2 (w.heap.size + 1) 0 0 0 := ⟨hz2_0, by rw [hc2_0, hc1_1]; simp [go_sem], by rw [hc2_0, hc1_1]; simp [go_sem], by rw [hc2_0, hc1_1]; simp [go_sem]⟩
  have hbw : Below w.heap.size w w2 := by (repeat (first | exact Below.refl _ _ | assumption | refine bchain (by assumption) ?_ | refine balloc ?_ _ | apply Below.drew | apply below_drewN | (refine Below.alloc ?_ (by (try simp) <;> omega) _) | (refine Below.setCell ?_ (by (try simp) <;> omega) _)))
  have hF := hfc.put (0) (0) (0)
  have hBB := (((hbw.setCell (p := ⟨w.heap.size + 1, 0, none⟩) (by show w.heap.size ≤ w.heap.size + 1; omega) (.int .i64 (0))).setCell (p := ⟨w.heap.size + 1, 1, none⟩) (by show w.heap.size ≤ w.heap.size + 1; omega) (.int .i64 (0))).setCell (p := ⟨w.heap.size + 1, 2, none⟩) (by show w.heap.size ≤ w.heap.size + 1; omega) (.int .u32 (0)))
  obtain ⟨WW, hWW⟩ : ∃ WW, WW = (((w2.setCell ⟨w.heap.size + 1, 0, none⟩ (.int .i64 (0))).setCell ⟨w.heap.size + 1, 1, none⟩ (.int .i64 (0))).setCell ⟨w.heap.size + 1, 2, none⟩ (.int .u32 (0))) := ⟨_, rfl⟩
  rw [← hWW] at hF hBB ⊢
  clear hWW
  obtain ⟨_, hF0, hF1, hF2⟩ := hF
  exact bodyPost_ret (v := .tuple #[.agg #[.int .i64 (0), .int .i64 (0), .int .u32 (0)], .int .i64 2]) (by simp [results, Try.results28, go_sem, hF0, hF1, hF2]) rfl ⟨rfl, hBB⟩
set_option maxHeartbeats 2000000 in
theorem ifo_ok (v : Value) (k n e : Nat) (x : List Nat) (hS : SlS w v (zl x)) (h : VG n e) (hk : k ≤ 3) (hx : okList n k x = true) :
    Calls Try.prog 28 #[.agg #[.int .i64 n, .int .u32 e], v] w fun r w' => r = .returned (.tuple #[.agg #[.int .i64 k, .int .i64 n, .int .u32 (onL e (ordF n x) : Nat)], .int .i64 0]) ∧ Below w.heap.size w w' := by
  obtain ⟨_, ad, cap, hv⟩ := id hS
  have hn5 : n ≤ 5 := by have := h.2.1; omega
  have hxl := ok_length hx
  have hm : (zl x).length ≤ 1048576 := by rw [zl_length]; omega
  rw [zl_length, hxl] at hv
  have hd : decide ((3 : Int) < (k : Int)) = false := decide_eq_false (by omega)
  have hD : ∀ W, SlI W v (zl x) → Calls Try.prog 49 #[.int .i64 n, v] W fun r w' => r = .returned (.bool true) ∧ Below W.heap.size W w' :=
    fun W hW => idiff_yes W v (zl x) n hW hm (by omega) (diff_zl hx)
  have hA := Lib.hid (fun W (hW : SlS W v (zl x)) => lab_any W v x hW.1 (by omega))
  have hL := Lib.hid (fun W => labd_any W n e k x h hk hx)
  obtain ⟨y, hy⟩ : ∃ y, onL e (ordF n x) = y := ⟨_, rfl⟩
  rw [hy] at hL ⊢
  replace hD := Lib.hid hD
  replace hS := Lib.hid hS
  subst hv
  clear hx hm hxl hy
  go_enter Try.func28, Try.ntmps28
  go_wp2_with fail
  refine (valid_t _ n e h).mono ?_
  rintro r1 w1 ⟨rfl, hb1⟩
  obtain ⟨hc1_0, hz1_0⟩ := bkeep hb1 (w.heap.size) (by (try simp) <;> omega)
  obtain ⟨hc1_1, hz1_1⟩ := bkeep hb1 (w.heap.size + 1) (by (try simp) <;> omega)
  have hf1_1 := bkeepz hb1 (w.heap.size + 1) (by (try simp) <;> omega)
  go_wp2_with fail
  refine (hD.out _ (SlI.below hS.out.1 (by (repeat (first | exact Below.refl _ _ | assumption | refine bchain (by assumption) ?_ | refine balloc ?_ _ | apply Below.drew | apply below_drewN | (refine Below.alloc ?_ (by (try simp) <;> omega) _) | (refine Below.setCell ?_ (by (try simp) <;> omega) _)))))).mono ?_
  rintro r2 w2 ⟨rfl, hb2⟩
  obtain ⟨hc2_0, hz2_0⟩ := bkeep hb2 (w.heap.size) (by (try simp) <;> omega)
  obtain ⟨hc2_1, hz2_1⟩ := bkeep hb2 (w.heap.size + 1) (by (try simp) <;> omega)
  have hf2_1 := bkeepz hb2 (w.heap.size + 1) (by (try simp) <;> omega)
  go_wp2_with fail
  go_region_with (first
    | (go_at_call 51; refine (hA.out _ (hS.out.below (by (repeat (first | exact Below.refl _ _ | assumption | refine bchain (by assumption) ?_ | refine balloc ?_ _ | apply Below.drew | apply below_drewN | (refine Below.alloc ?_ (by (try simp) <;> omega) _) | (refine Below.setCell ?_ (by (try simp) <;> omega) _)))))).mono ?_; rintro r3 w3 ⟨rfl, hb3⟩; obtain ⟨hc3_0, hz3_0⟩ := bkeep hb3 w.heap.size hz2_0; obtain ⟨hc3_1, hz3_1⟩ := bkeep hb3 (w.heap.size + 1) hz2_1; have hf3_1 := bkeepz hb3 (w.heap.size + 1) hz2_1)
    | (go_at_call 50; refine (hL.out _).mono ?_; rintro r4 w4 ⟨rfl, hb4⟩; obtain ⟨hc4_0, hz4_0⟩ := bkeep hb4 (w.heap.size + 1) hz3_1; have hf4_0 := bkeepz hb4 (w.heap.size + 1) hz3_1))
  all_goals go_wp2
  all_goals have hfc : FC w4 (w.heap.size + 1) 0 0 0 := ⟨hz4_0, by rw [hc4_0, hc3_1]; simp [go_sem, hc2_1, hc1_1], by rw [hc4_0, hc3_1]; simp [go_sem, hc2_1, hc1_1], by rw [hc4_0, hc3_1]; simp [go_sem, hc2_1, hc1_1]⟩
  all_goals have hbw : Below w.heap.size w w4 := by (repeat (first | exact Below.refl _ _ | assumption | refine bchain (by assumption) ?_ | refine balloc ?_ _ | apply Below.drew | apply below_drewN | (refine Below.alloc ?_ (by (try simp) <;> omega) _) | (refine Below.setCell ?_ (by (try simp) <;> omega) _)))
  all_goals clear hc1_0 hc1_1 hc2_0 hc2_1 hc3_0 hc3_1 hc4_0 hb1 hb2 hb3 hb4
  all_goals
    have hF := hfc.put (k) (n) (y)
    have hBB := (((hbw.setCell (p := ⟨w.heap.size + 1, 0, none⟩) (by show w.heap.size ≤ w.heap.size + 1; omega) (.int .i64 (k))).setCell (p := ⟨w.heap.size + 1, 1, none⟩) (by show w.heap.size ≤ w.heap.size + 1; omega) (.int .i64 (n))).setCell (p := ⟨w.heap.size + 1, 2, none⟩) (by show w.heap.size ≤ w.heap.size + 1; omega) (.int .u32 (y)))
    obtain ⟨WW, hWW⟩ : ∃ WW, WW = (((w4.setCell ⟨w.heap.size + 1, 0, none⟩ (.int .i64 (k))).setCell ⟨w.heap.size + 1, 1, none⟩ (.int .i64 (n))).setCell ⟨w.heap.size + 1, 2, none⟩ (.int .u32 (y))) := ⟨_, rfl⟩
    rw [← hWW] at hF hBB ⊢
    clear hWW
    obtain ⟨_, hF0, hF1, hF2⟩ := hF
    exact bodyPost_ret (v := .tuple #[.agg #[.int .i64 (k), .int .i64 (n), .int .u32 (y)], .int .i64 0]) (by simp [results, Try.results28, go_sem, hF0, hF1, hF2]) rfl ⟨rfl, hBB⟩
theorem itl_inv (v : Value) (k n e : Int) (hn : e < 4294967296) (he0 : 0 ≤ e) (h : ¬ VK k n e) :
    Calls Try.prog 37 #[.agg #[.int .i64 k, .int .i64 n, .int .u32 e], v] w fun r w' => r = .returned (.tuple #[.agg #[.int .i64 0, .int .i64 0, .int .u32 0], .int .i64 1]) ∧ Below w.heap.size w w' := by
  go_enter Try.func37, Try.ntmps37
  go_wp2_with fail
  refine (ivk_f _ k n e hn he0 h).mono ?_
  rintro r1 w1 ⟨rfl, hb1⟩
  obtain ⟨hc1_0, hz1_0⟩ := bkeep hb1 (w.heap.size + 1) (by (try simp) <;> omega)
  have hf1_0 := bkeepz hb1 (w.heap.size + 1) (by (try simp) <;> omega)
  go_wp2
  have hfc : FC w1 (w.heap.size + 1) 0 0 0 := ⟨hz1_0, by rw [hc1_0]; simp [go_sem], by rw [hc1_0]; simp [go_sem], by rw [hc1_0]; simp [go_sem]⟩
  have hbw : Below w.heap.size w w1 := by (repeat (first | exact Below.refl _ _ | assumption | refine bchain (by assumption) ?_ | refine balloc ?_ _ | apply Below.drew | apply below_drewN | (refine Below.alloc ?_ (by (try simp) <;> omega) _) | (refine Below.setCell ?_ (by (try simp) <;> omega) _)))
  have hF := hfc.put (0) (0) (0)
  have hBB := (((hbw.setCell (p := ⟨w.heap.size + 1, 0, none⟩) (by show w.heap.size ≤ w.heap.size + 1; omega) (.int .i64 (0))).setCell (p := ⟨w.heap.size + 1, 1, none⟩) (by show w.heap.size ≤ w.heap.size + 1; omega) (.int .i64 (0))).setCell (p := ⟨w.heap.size + 1, 2, none⟩) (by show w.heap.size ≤ w.heap.size + 1; omega) (.int .u32 (0)))
  obtain ⟨WW, hWW⟩ : ∃ WW, WW = (((w1.setCell ⟨w.heap.size + 1, 0, none⟩ (.int .i64 (0))).setCell ⟨w.heap.size + 1, 1, none⟩ (.int .i64 (0))).setCell ⟨w.heap.size + 1, 2, none⟩ (.int .u32 (0))) := ⟨_, rfl⟩
  rw [← hWW] at hF hBB ⊢
  clear hWW
  obtain ⟨_, hF0, hF1, hF2⟩ := hF
  exact bodyPost_ret (v := .tuple #[.agg #[.int .i64 (0), .int .i64 (0), .int .u32 (0)], .int .i64 1]) (by simp [results, Try.results37, go_sem, hF0, hF1, hF2]) rfl ⟨rfl, hBB⟩
theorem itl_len (v : Value) (zs : List Int) (k n e : Nat) (hS : SlI w v zs) (h : VK k n e) (hl : zs.length ≠ k) :
    Calls Try.prog 37 #[.agg #[.int .i64 k, .int .i64 n, .int .u32 e], v] w fun r w' => r = .returned (.tuple #[.agg #[.int .i64 0, .int .i64 0, .int .u32 0], .int .i64 2]) ∧ Below w.heap.size w w' := by
  obtain ⟨a, cap, rfl, _⟩ := hS
  have hd : ((zs.length : Int) != (k : Int)) = true := by simp; omega
  go_enter Try.func37, Try.ntmps37
  go_wp2_with fail
  refine (ivk_t _ k n e h).mono ?_
  rintro r1 w1 ⟨rfl, hb1⟩
  obtain ⟨hc1_0, hz1_0⟩ := bkeep hb1 (w.heap.size) (by (try simp) <;> omega)
  obtain ⟨hc1_1, hz1_1⟩ := bkeep hb1 (w.heap.size + 1) (by (try simp) <;> omega)
  have hf1_1 := bkeepz hb1 (w.heap.size + 1) (by (try simp) <;> omega)
  go_wp2
  have hfc : FC w1 (w.heap.size + 1) 0 0 0 := ⟨hz1_1, by rw [hc1_1]; simp [go_sem], by rw [hc1_1]; simp [go_sem], by rw [hc1_1]; simp [go_sem]⟩
  have hbw : Below w.heap.size w w1 := by (repeat (first | exact Below.refl _ _ | assumption | refine bchain (by assumption) ?_ | refine balloc ?_ _ | apply Below.drew | apply below_drewN | (refine Below.alloc ?_ (by (try simp) <;> omega) _) | (refine Below.setCell ?_ (by (try simp) <;> omega) _)))
  have hF := hfc.put (0) (0) (0)
  have hBB := (((hbw.setCell (p := ⟨w.heap.size + 1, 0, none⟩) (by show w.heap.size ≤ w.heap.size + 1; omega) (.int .i64 (0))).setCell (p := ⟨w.heap.size + 1, 1, none⟩) (by show w.heap.size ≤ w.heap.size + 1; omega) (.int .i64 (0))).setCell (p := ⟨w.heap.size + 1, 2, none⟩) (by show w.heap.size ≤ w.heap.size + 1; omega) (.int .u32 (0)))
  obtain ⟨WW, hWW⟩ : ∃ WW, WW = (((w1.setCell ⟨w.heap.size + 1, 0, none⟩ (.int .i64 (0))).setCell ⟨w.heap.size + 1, 1, none⟩ (.int .i64 (0))).setCell ⟨w.heap.size + 1, 2, none⟩ (.int .u32 (0))) := ⟨_, rfl⟩
  rw [← hWW] at hF hBB ⊢
  clear hWW
  obtain ⟨_, hF0, hF1, hF2⟩ := hF
  exact bodyPost_ret (v := .tuple #[.agg #[.int .i64 (0), .int .i64 (0), .int .u32 (0)], .int .i64 2]) (by simp [results, Try.results37, go_sem, hF0, hF1, hF2]) rfl ⟨rfl, hBB⟩
theorem itl_dif (v : Value) (zs : List Int) (k n e : Nat) (hS : SlI w v zs) (h : VK k n e) (hl : zs.length = k) (hx : ¬ Diff zs k) :
    Calls Try.prog 37 #[.agg #[.int .i64 k, .int .i64 n, .int .u32 e], v] w fun r w' => r = .returned (.tuple #[.agg #[.int .i64 0, .int .i64 0, .int .u32 0], .int .i64 2]) ∧ Below w.heap.size w w' := by
  obtain ⟨a, cap, hv, _⟩ := id hS
  have hk3 : k ≤ 3 := h.nums.2.2.1
  have hm : zs.length ≤ 1048576 := by omega
  have hd : ((zs.length : Int) != (k : Int)) = false := by simp; omega
  have hD : ∀ W, SlI W v zs → Calls Try.prog 49 #[.int .i64 k, v] W fun r w' => r = .returned (.bool false) ∧ Below W.heap.size W w' :=
    fun W hW => idiff_no W v zs k hW hm (by omega) hx
  replace hD := Lib.hid hD
  replace hS := Lib.hid hS
  subst hv
  clear hx hm hl
  go_enter Try.func37, Try.ntmps37
  go_wp2_with fail
  refine (ivk_t _ k n e h).mono ?_
  rintro r1 w1 ⟨rfl, hb1⟩
  obtain ⟨hc1_0, hz1_0⟩ := bkeep hb1 (w.heap.size) (by (try simp) <;> omega)
  obtain ⟨hc1_1, hz1_1⟩ := bkeep hb1 (w.heap.size + 1) (by (try simp) <;> omega)
  have hf1_1 := bkeepz hb1 (w.heap.size + 1) (by (try simp) <;> omega)
  go_wp2_with fail
  refine (hD.out _ (hS.out.below (by (repeat (first | exact Below.refl _ _ | assumption | refine bchain (by assumption) ?_ | refine balloc ?_ _ | apply Below.drew | apply below_drewN | (refine Below.alloc ?_ (by (try simp) <;> omega) _) | (refine Below.setCell ?_ (by (try simp) <;> omega) _)))))).mono ?_
  rintro r2 w2 ⟨rfl, hb2⟩
  obtain ⟨hc2_0, hz2_0⟩ := bkeep hb2 (w.heap.size + 1) (by (try simp) <;> omega)
  have hf2_0 := bkeepz hb2 (w.heap.size + 1) (by (try simp) <;> omega)
  go_wp2
  have hfc : FC w2 (w.heap.size + 1) 0 0 0 := ⟨hz2_0, by rw [hc2_0, hc1_1]; simp [go_sem], by rw [hc2_0, hc1_1]; simp [go_sem], by rw [hc2_0, hc1_1]; simp [go_sem]⟩
  have hbw : Below w.heap.size w w2 := by (repeat (first | exact Below.refl _ _ | assumption | refine bchain (by assumption) ?_ | refine balloc ?_ _ | apply Below.drew | apply below_drewN | (refine Below.alloc ?_ (by (try simp) <;> omega) _) | (refine Below.setCell ?_ (by (try simp) <;> omega) _)))
  have hF := hfc.put (0) (0) (0)
  have hBB := (((hbw.setCell (p := ⟨w.heap.size + 1, 0, none⟩) (by show w.heap.size ≤ w.heap.size + 1; omega) (.int .i64 (0))).setCell (p := ⟨w.heap.size + 1, 1, none⟩) (by show w.heap.size ≤ w.heap.size + 1; omega) (.int .i64 (0))).setCell (p := ⟨w.heap.size + 1, 2, none⟩) (by show w.heap.size ≤ w.heap.size + 1; omega) (.int .u32 (0)))
  obtain ⟨WW, hWW⟩ : ∃ WW, WW = (((w2.setCell ⟨w.heap.size + 1, 0, none⟩ (.int .i64 (0))).setCell ⟨w.heap.size + 1, 1, none⟩ (.int .i64 (0))).setCell ⟨w.heap.size + 1, 2, none⟩ (.int .u32 (0))) := ⟨_, rfl⟩
  rw [← hWW] at hF hBB ⊢
  clear hWW
  obtain ⟨_, hF0, hF1, hF2⟩ := hF
  exact bodyPost_ret (v := .tuple #[.agg #[.int .i64 (0), .int .i64 (0), .int .u32 (0)], .int .i64 2]) (by simp [results, Try.results37, go_sem, hF0, hF1, hF2]) rfl ⟨rfl, hBB⟩
set_option maxHeartbeats 2000000 in
theorem itl_ok (v : Value) (k n e : Nat) (x : List Nat) (hS : SlS w v (zl x)) (h : VK k n e) (hx : okList k k x = true) :
    Calls Try.prog 37 #[.agg #[.int .i64 k, .int .i64 n, .int .u32 e], v] w fun r w' => r = .returned (.tuple #[.agg #[.int .i64 k, .int .i64 n, .int .u32 (leastK n k (onL e (ordF n x)) : Nat)], .int .i64 0]) ∧ Below w.heap.size w w' := by
  obtain ⟨_, ad, cap, hv⟩ := id hS
  obtain ⟨he, hn5, hk3, hkn⟩ := h.nums
  have hxl := ok_length hx
  have hm : (zl x).length ≤ 1048576 := by rw [zl_length]; omega
  rw [zl_length, hxl] at hv
  have hd : ((k : Int) != (k : Int)) = false := by simp
  have hD : ∀ W, SlI W v (zl x) → Calls Try.prog 49 #[.int .i64 k, v] W fun r w' => r = .returned (.bool true) ∧ Below W.heap.size W w' :=
    fun W hW => idiff_yes W v (zl x) k hW hm (by omega) (diff_zl hx)
  have hxn := ok_wide hkn hx
  have hvk : VK k n (onL e (ordF n x) : Nat) := ⟨VG_on hn5 (ordF_ok hn5 hk3 hxn), h.2⟩
  have hM := Lib.hid (fun W => leastK_any W k n _ hvk)
  have hA := Lib.hid (fun W (hW : SlS W v (zl x)) => lab_any W v x hW.1 (by omega))
  have hL := Lib.hid (fun W => labd_any W n e k x h.1 hk3 hxn)
  obtain ⟨y, hy⟩ : ∃ y, onL e (ordF n x) = y := ⟨_, rfl⟩
  rw [hy] at hL hM ⊢
  obtain ⟨z, hz⟩ : ∃ z, leastK n k y = z := ⟨_, rfl⟩
  rw [hz] at hM ⊢
  replace hD := Lib.hid hD
  replace hS := Lib.hid hS
  subst hv
  clear hx hm hxl hy hxn hvk hz
  go_enter Try.func37, Try.ntmps37
  go_wp2_with fail
  refine (ivk_t _ k n e h).mono ?_
  rintro r1 w1 ⟨rfl, hb1⟩
  obtain ⟨hc1_0, hz1_0⟩ := bkeep hb1 (w.heap.size) (by (try simp) <;> omega)
  obtain ⟨hc1_1, hz1_1⟩ := bkeep hb1 (w.heap.size + 1) (by (try simp) <;> omega)
  have hf1_1 := bkeepz hb1 (w.heap.size + 1) (by (try simp) <;> omega)
  go_wp2_with fail
  refine (hD.out _ (SlI.below hS.out.1 (by (repeat (first | exact Below.refl _ _ | assumption | refine bchain (by assumption) ?_ | refine balloc ?_ _ | apply Below.drew | apply below_drewN | (refine Below.alloc ?_ (by (try simp) <;> omega) _) | (refine Below.setCell ?_ (by (try simp) <;> omega) _)))))).mono ?_
  rintro r2 w2 ⟨rfl, hb2⟩
  obtain ⟨hc2_0, hz2_0⟩ := bkeep hb2 (w.heap.size) (by (try simp) <;> omega)
  obtain ⟨hc2_1, hz2_1⟩ := bkeep hb2 (w.heap.size + 1) (by (try simp) <;> omega)
  have hf2_1 := bkeepz hb2 (w.heap.size + 1) (by (try simp) <;> omega)
  have u0 : w2.cell? ⟨w.heap.size, 0, none⟩ = some (.int .i64 k) := by rw [hc2_0, hc1_0]; simp [go_sem]
  have u1 : w2.cell? ⟨w.heap.size, 1, none⟩ = some (.int .i64 n) := by rw [hc2_0, hc1_0]; simp [go_sem]
  have u2 : w2.cell? ⟨w.heap.size, 2, none⟩ = some (.int .u32 e) := by rw [hc2_0, hc1_0]; simp [go_sem]
  have r0 : w2.cell? ⟨w.heap.size + 1, 0, none⟩ = some (.int .i64 0) := by rw [hc2_1, hc1_1]; simp [go_sem]
  have r1 : w2.cell? ⟨w.heap.size + 1, 1, none⟩ = some (.int .i64 0) := by rw [hc2_1, hc1_1]; simp [go_sem]
  have r2 : w2.cell? ⟨w.heap.size + 1, 2, none⟩ = some (.int .u32 0) := by rw [hc2_1, hc1_1]; simp [go_sem]
  have f0 : ∀ i, w2.frozen? ⟨w.heap.size + 1, i, none⟩ = false := fun i => by rw [hf2_1, hf1_1]; simp [go_sem]
  have hB2 : Below w.heap.size w w2 := by (repeat (first | exact Below.refl _ _ | assumption | refine bchain (by assumption) ?_ | refine balloc ?_ _ | apply Below.drew | apply below_drewN | (refine Below.alloc ?_ (by (try simp) <;> omega) _) | (refine Below.setCell ?_ (by (try simp) <;> omega) _)))
  clear hc1_0 hc1_1 hc2_0 hc2_1 hf1_1 hf2_1 hb1
  go_wp2_with fail
  go_region_with (first
    | (go_at_call 51; refine (hA.out _ (hS.out.below (by (repeat (first | exact Below.refl _ _ | assumption | refine bchain (by assumption) ?_ | refine balloc ?_ _ | apply Below.drew | apply below_drewN | (refine Below.alloc ?_ (by (try simp) <;> omega) _) | (refine Below.setCell ?_ (by (try simp) <;> omega) _)))))).mono ?_; rintro r3 w3 ⟨rfl, hb3⟩; obtain ⟨hc3_0, hz3_0⟩ := bkeep hb3 w.heap.size hz2_0; obtain ⟨hc3_1, hz3_1⟩ := bkeep hb3 (w.heap.size + 1) hz2_1; have hf3_1 := bkeepz hb3 (w.heap.size + 1) hz2_1)
    | (go_at_call 50; refine (hL.out _).mono ?_; rintro r4 w4 ⟨rfl, hb4⟩; obtain ⟨hc4_0, hz4_0⟩ := bkeep hb4 (w.heap.size + 1) hz3_1; have hf4_0 := bkeepz hb4 (w.heap.size + 1) hz3_1)
    | (go_at_call 53; refine (hM.out _).mono ?_; rintro r5 w5 ⟨rfl, hb5⟩; obtain ⟨hc5_0, hz5_0⟩ := bkeep hb5 (w.heap.size + 1) hz4_0; have hf5_0 := bkeepz hb5 (w.heap.size + 1) hz4_0))
  all_goals go_wp2
  all_goals have hfc : FC w5 (w.heap.size + 1) 0 0 0 := ⟨hz5_0, by rw [hc5_0, hc4_0, hc3_1]; exact r0, by rw [hc5_0, hc4_0, hc3_1]; exact r1, by rw [hc5_0, hc4_0, hc3_1]; exact r2⟩
  all_goals have hbw : Below w.heap.size w w5 := by (repeat (first | exact Below.refl _ _ | assumption | refine bchain (by assumption) ?_ | refine balloc ?_ _ | apply Below.drew | apply below_drewN | (refine Below.alloc ?_ (by (try simp) <;> omega) _) | (refine Below.setCell ?_ (by (try simp) <;> omega) _)))
  all_goals clear hc3_0 hc3_1 hc4_0 hc5_0 hb2 hb3 hb4 hb5 hB2 r0 r1 r2 u0 u1 u2
  all_goals
    have hF := hfc.put (k) (n) (z)
    have hBB := (((hbw.setCell (p := ⟨w.heap.size + 1, 0, none⟩) (by show w.heap.size ≤ w.heap.size + 1; omega) (.int .i64 (k))).setCell (p := ⟨w.heap.size + 1, 1, none⟩) (by show w.heap.size ≤ w.heap.size + 1; omega) (.int .i64 (n))).setCell (p := ⟨w.heap.size + 1, 2, none⟩) (by show w.heap.size ≤ w.heap.size + 1; omega) (.int .u32 (z)))
    obtain ⟨WW, hWW⟩ : ∃ WW, WW = (((w5.setCell ⟨w.heap.size + 1, 0, none⟩ (.int .i64 (k))).setCell ⟨w.heap.size + 1, 1, none⟩ (.int .i64 (n))).setCell ⟨w.heap.size + 1, 2, none⟩ (.int .u32 (z))) := ⟨_, rfl⟩
    rw [← hWW] at hF hBB ⊢
    clear hWW
    obtain ⟨_, hF0, hF1, hF2⟩ := hF
    exact bodyPost_ret (v := .tuple #[.agg #[.int .i64 (k), .int .i64 (n), .int .u32 (z)], .int .i64 0]) (by simp [results, Try.results37, go_sem, hF0, hF1, hF2]) rfl ⟨rfl, hBB⟩
theorem sfo_inv (v : Value) (n e : Int) (hn : e < 4294967296) (he0 : 0 ≤ e) (h : ¬ VG n e) :
    Calls Try.prog 26 #[.agg #[.int .i64 n, .int .u32 e], v] w fun r w' => r = .returned (.tuple #[.agg #[.int .i64 0, .int .i64 0, .int .u32 0], .int .i64 1]) ∧ Below w.heap.size w w' := by
  go_enter Try.func26, Try.ntmps26
  go_wp2_with fail
  refine (ok_f _ n e hn he0 h).mono ?_
  rintro r1 w1 ⟨rfl, hb1⟩
  obtain ⟨hc1_0, hz1_0⟩ := bkeep hb1 (w.heap.size + 1) (by (try simp) <;> omega)
  have hf1_0 := bkeepz hb1 (w.heap.size + 1) (by (try simp) <;> omega)
  go_wp2
  have hfc : FC w1 (w.heap.size + 1) 0 0 0 := ⟨hz1_0, by rw [hc1_0]; simp [go_sem], by rw [hc1_0]; simp [go_sem], by rw [hc1_0]; simp [go_sem]⟩
  have hbw : Below w.heap.size w w1 := by (repeat (first | exact Below.refl _ _ | assumption | refine bchain (by assumption) ?_ | refine balloc ?_ _ | apply Below.drew | apply below_drewN | (refine Below.alloc ?_ (by (try simp) <;> omega) _) | (refine Below.setCell ?_ (by (try simp) <;> omega) _)))
  have hF := hfc.put (0) (0) (0)
  have hBB := (((hbw.setCell (p := ⟨w.heap.size + 1, 0, none⟩) (by show w.heap.size ≤ w.heap.size + 1; omega) (.int .i64 (0))).setCell (p := ⟨w.heap.size + 1, 1, none⟩) (by show w.heap.size ≤ w.heap.size + 1; omega) (.int .i64 (0))).setCell (p := ⟨w.heap.size + 1, 2, none⟩) (by show w.heap.size ≤ w.heap.size + 1; omega) (.int .u32 (0)))
  obtain ⟨WW, hWW⟩ : ∃ WW, WW = (((w1.setCell ⟨w.heap.size + 1, 0, none⟩ (.int .i64 (0))).setCell ⟨w.heap.size + 1, 1, none⟩ (.int .i64 (0))).setCell ⟨w.heap.size + 1, 2, none⟩ (.int .u32 (0))) := ⟨_, rfl⟩
  rw [← hWW] at hF hBB ⊢
  clear hWW
  obtain ⟨_, hF0, hF1, hF2⟩ := hF
  exact bodyPost_ret (v := .tuple #[.agg #[.int .i64 (0), .int .i64 (0), .int .u32 (0)], .int .i64 1]) (by simp [results, Try.results26, go_sem, hF0, hF1, hF2]) rfl ⟨rfl, hBB⟩
theorem sfo_len (v : Value) (zs : List Int) (n e : Nat) (hS : SlI w v zs) (h : VG n e) (hl : 3 < zs.length) :
    Calls Try.prog 26 #[.agg #[.int .i64 n, .int .u32 e], v] w fun r w' => r = .returned (.tuple #[.agg #[.int .i64 0, .int .i64 0, .int .u32 0], .int .i64 2]) ∧ Below w.heap.size w w' := by
  obtain ⟨a, cap, rfl, _⟩ := hS
  have hd : decide ((3 : Int) < (zs.length : Int)) = true := decide_eq_true (by omega)
  go_enter Try.func26, Try.ntmps26
  go_wp2_with fail
  refine (ok_t _ n e h).mono ?_
  rintro r1 w1 ⟨rfl, hb1⟩
  obtain ⟨hc1_0, hz1_0⟩ := bkeep hb1 (w.heap.size) (by (try simp) <;> omega)
  obtain ⟨hc1_1, hz1_1⟩ := bkeep hb1 (w.heap.size + 1) (by (try simp) <;> omega)
  have hf1_1 := bkeepz hb1 (w.heap.size + 1) (by (try simp) <;> omega)
  go_wp2
  have hfc : FC w1 (w.heap.size + 1) 0 0 0 := ⟨hz1_1, by rw [hc1_1]; simp [go_sem], by rw [hc1_1]; simp [go_sem], by rw [hc1_1]; simp [go_sem]⟩
  have hbw : Below w.heap.size w w1 := by (repeat (first | exact Below.refl _ _ | assumption | refine bchain (by assumption) ?_ | refine balloc ?_ _ | apply Below.drew | apply below_drewN | (refine Below.alloc ?_ (by (try simp) <;> omega) _) | (refine Below.setCell ?_ (by (try simp) <;> omega) _)))
  have hF := hfc.put (0) (0) (0)
  have hBB := (((hbw.setCell (p := ⟨w.heap.size + 1, 0, none⟩) (by show w.heap.size ≤ w.heap.size + 1; omega) (.int .i64 (0))).setCell (p := ⟨w.heap.size + 1, 1, none⟩) (by show w.heap.size ≤ w.heap.size + 1; omega) (.int .i64 (0))).setCell (p := ⟨w.heap.size + 1, 2, none⟩) (by show w.heap.size ≤ w.heap.size + 1; omega) (.int .u32 (0)))
  obtain ⟨WW, hWW⟩ : ∃ WW, WW = (((w1.setCell ⟨w.heap.size + 1, 0, none⟩ (.int .i64 (0))).setCell ⟨w.heap.size + 1, 1, none⟩ (.int .i64 (0))).setCell ⟨w.heap.size + 1, 2, none⟩ (.int .u32 (0))) := ⟨_, rfl⟩
  rw [← hWW] at hF hBB ⊢
  clear hWW
  obtain ⟨_, hF0, hF1, hF2⟩ := hF
  exact bodyPost_ret (v := .tuple #[.agg #[.int .i64 (0), .int .i64 (0), .int .u32 (0)], .int .i64 2]) (by simp [results, Try.results26, go_sem, hF0, hF1, hF2]) rfl ⟨rfl, hBB⟩
theorem sfo_dif (v : Value) (zs : List Int) (n e : Nat) (hS : SlI w v zs) (h : VG n e) (hl : zs.length ≤ 3) (hx : ¬ Diff zs n) :
    Calls Try.prog 26 #[.agg #[.int .i64 n, .int .u32 e], v] w fun r w' => r = .returned (.tuple #[.agg #[.int .i64 0, .int .i64 0, .int .u32 0], .int .i64 2]) ∧ Below w.heap.size w w' := by
  obtain ⟨a, cap, hv, _⟩ := id hS
  have hn5 : n ≤ 5 := by have := h.2.1; omega
  have hm : zs.length ≤ 1048576 := by omega
  have hd : decide ((3 : Int) < (zs.length : Int)) = false := decide_eq_false (by omega)
  have hD : ∀ W, SlI W v zs → Calls Try.prog 47 #[v, .int .i64 n] W fun r w' => r = .returned (.bool false) ∧ Below W.heap.size W w' :=
    fun W hW => sdiff_no W v zs n hW hm (by omega) (by omega) hx
  replace hD := Lib.hid hD
  replace hS := Lib.hid hS
  subst hv
  clear hx hm
  go_enter Try.func26, Try.ntmps26
  go_wp2_with fail
  refine (ok_t _ n e h).mono ?_
  rintro r1 w1 ⟨rfl, hb1⟩
  obtain ⟨hc1_0, hz1_0⟩ := bkeep hb1 (w.heap.size) (by (try simp) <;> omega)
  obtain ⟨hc1_1, hz1_1⟩ := bkeep hb1 (w.heap.size + 1) (by (try simp) <;> omega)
  have hf1_1 := bkeepz hb1 (w.heap.size + 1) (by (try simp) <;> omega)
  go_wp2_with fail
  refine (hD.out _ (hS.out.below (by (repeat (first | exact Below.refl _ _ | assumption | refine bchain (by assumption) ?_ | refine balloc ?_ _ | apply Below.drew | apply below_drewN | (refine Below.alloc ?_ (by (try simp) <;> omega) _) | (refine Below.setCell ?_ (by (try simp) <;> omega) _)))))).mono ?_
  rintro r2 w2 ⟨rfl, hb2⟩
  obtain ⟨hc2_0, hz2_0⟩ := bkeep hb2 (w.heap.size + 1) (by (try simp) <;> omega)
  have hf2_0 := bkeepz hb2 (w.heap.size + 1) (by (try simp) <;> omega)
  go_wp2
  have hfc : FC w2 (w.heap.size + 1) 0 0 0 := ⟨hz2_0, by rw [hc2_0, hc1_1]; simp [go_sem], by rw [hc2_0, hc1_1]; simp [go_sem], by rw [hc2_0, hc1_1]; simp [go_sem]⟩
  have hbw : Below w.heap.size w w2 := by (repeat (first | exact Below.refl _ _ | assumption | refine bchain (by assumption) ?_ | refine balloc ?_ _ | apply Below.drew | apply below_drewN | (refine Below.alloc ?_ (by (try simp) <;> omega) _) | (refine Below.setCell ?_ (by (try simp) <;> omega) _)))
  have hF := hfc.put (0) (0) (0)
  have hBB := (((hbw.setCell (p := ⟨w.heap.size + 1, 0, none⟩) (by show w.heap.size ≤ w.heap.size + 1; omega) (.int .i64 (0))).setCell (p := ⟨w.heap.size + 1, 1, none⟩) (by show w.heap.size ≤ w.heap.size + 1; omega) (.int .i64 (0))).setCell (p := ⟨w.heap.size + 1, 2, none⟩) (by show w.heap.size ≤ w.heap.size + 1; omega) (.int .u32 (0)))
  obtain ⟨WW, hWW⟩ : ∃ WW, WW = (((w2.setCell ⟨w.heap.size + 1, 0, none⟩ (.int .i64 (0))).setCell ⟨w.heap.size + 1, 1, none⟩ (.int .i64 (0))).setCell ⟨w.heap.size + 1, 2, none⟩ (.int .u32 (0))) := ⟨_, rfl⟩
  rw [← hWW] at hF hBB ⊢
  clear hWW
  obtain ⟨_, hF0, hF1, hF2⟩ := hF
  exact bodyPost_ret (v := .tuple #[.agg #[.int .i64 (0), .int .i64 (0), .int .u32 (0)], .int .i64 2]) (by simp [results, Try.results26, go_sem, hF0, hF1, hF2]) rfl ⟨rfl, hBB⟩
set_option maxHeartbeats 2000000 in
theorem sfo_ok (v : Value) (k n e : Nat) (x : List Nat) (hS : SlS w v (zl x)) (h : VG n e) (hk : k ≤ 3) (hx : okList n k x = true) :
    Calls Try.prog 26 #[.agg #[.int .i64 n, .int .u32 e], v] w fun r w' => r = .returned (.tuple #[.agg #[.int .i64 k, .int .i64 n, .int .u32 (onL e (ordF n x) : Nat)], .int .i64 0]) ∧ Below w.heap.size w w' := by
  obtain ⟨_, ad, cap, hv⟩ := id hS
  have hn5 : n ≤ 5 := by have := h.2.1; omega
  have hxl := ok_length hx
  have hm : (zl x).length ≤ 1048576 := by rw [zl_length]; omega
  rw [zl_length, hxl] at hv
  have hd : decide ((3 : Int) < (k : Int)) = false := decide_eq_false (by omega)
  have hD : ∀ W, SlI W v (zl x) → Calls Try.prog 47 #[v, .int .i64 n] W fun r w' => r = .returned (.bool true) ∧ Below W.heap.size W w' :=
    fun W hW => sdiff_yes W v (zl x) n hW hm (by omega) (by omega) (diff_zl hx)
  have hL := Lib.hid (fun W (hW : SlS W v (zl x)) => slabd_any W n e k x v h hk hx hW)
  obtain ⟨y, hy⟩ : ∃ y, onL e (ordF n x) = y := ⟨_, rfl⟩
  rw [hy] at hL ⊢
  replace hD := Lib.hid hD
  replace hS := Lib.hid hS
  subst hv
  clear hx hm hxl hy
  go_enter Try.func26, Try.ntmps26
  go_wp2_with fail
  refine (ok_t _ n e h).mono ?_
  rintro r1 w1 ⟨rfl, hb1⟩
  obtain ⟨hc1_0, hz1_0⟩ := bkeep hb1 (w.heap.size) (by (try simp) <;> omega)
  obtain ⟨hc1_1, hz1_1⟩ := bkeep hb1 (w.heap.size + 1) (by (try simp) <;> omega)
  have hf1_1 := bkeepz hb1 (w.heap.size + 1) (by (try simp) <;> omega)
  go_wp2_with fail
  refine (hD.out _ (SlI.below hS.out.1 (by (repeat (first | exact Below.refl _ _ | assumption | refine bchain (by assumption) ?_ | refine balloc ?_ _ | apply Below.drew | apply below_drewN | (refine Below.alloc ?_ (by (try simp) <;> omega) _) | (refine Below.setCell ?_ (by (try simp) <;> omega) _)))))).mono ?_
  rintro r2 w2 ⟨rfl, hb2⟩
  obtain ⟨hc2_0, hz2_0⟩ := bkeep hb2 (w.heap.size) (by (try simp) <;> omega)
  obtain ⟨hc2_1, hz2_1⟩ := bkeep hb2 (w.heap.size + 1) (by (try simp) <;> omega)
  have hf2_1 := bkeepz hb2 (w.heap.size + 1) (by (try simp) <;> omega)
  go_wp2_with fail
  refine (hL.out _ (hS.out.below (by (repeat (first | exact Below.refl _ _ | assumption | refine bchain (by assumption) ?_ | refine balloc ?_ _ | apply Below.drew | apply below_drewN | (refine Below.alloc ?_ (by (try simp) <;> omega) _) | (refine Below.setCell ?_ (by (try simp) <;> omega) _)))))).mono ?_
  rintro r3 w3 ⟨rfl, hb3⟩
  obtain ⟨hc3_0, hz3_0⟩ := bkeep hb3 (w.heap.size + 1) (by (try simp) <;> omega)
  have hf3_0 := bkeepz hb3 (w.heap.size + 1) (by (try simp) <;> omega)
  go_wp2
  have hfc : FC w3 (w.heap.size + 1) 0 0 0 := ⟨hz3_0, by rw [hc3_0, hc2_1, hc1_1]; simp [go_sem], by rw [hc3_0, hc2_1, hc1_1]; simp [go_sem], by rw [hc3_0, hc2_1, hc1_1]; simp [go_sem]⟩
  have hbw : Below w.heap.size w w3 := by (repeat (first | exact Below.refl _ _ | assumption | refine bchain (by assumption) ?_ | refine balloc ?_ _ | apply Below.drew | apply below_drewN | (refine Below.alloc ?_ (by (try simp) <;> omega) _) | (refine Below.setCell ?_ (by (try simp) <;> omega) _)))
  have hF := hfc.put (k) (n) (y)
  have hBB := (((hbw.setCell (p := ⟨w.heap.size + 1, 0, none⟩) (by show w.heap.size ≤ w.heap.size + 1; omega) (.int .i64 (k))).setCell (p := ⟨w.heap.size + 1, 1, none⟩) (by show w.heap.size ≤ w.heap.size + 1; omega) (.int .i64 (n))).setCell (p := ⟨w.heap.size + 1, 2, none⟩) (by show w.heap.size ≤ w.heap.size + 1; omega) (.int .u32 (y)))
  obtain ⟨WW, hWW⟩ : ∃ WW, WW = (((w3.setCell ⟨w.heap.size + 1, 0, none⟩ (.int .i64 (k))).setCell ⟨w.heap.size + 1, 1, none⟩ (.int .i64 (n))).setCell ⟨w.heap.size + 1, 2, none⟩ (.int .u32 (y))) := ⟨_, rfl⟩
  rw [← hWW] at hF hBB ⊢
  clear hWW
  obtain ⟨_, hF0, hF1, hF2⟩ := hF
  exact bodyPost_ret (v := .tuple #[.agg #[.int .i64 (k), .int .i64 (n), .int .u32 (y)], .int .i64 0]) (by simp [results, Try.results26, go_sem, hF0, hF1, hF2]) rfl ⟨rfl, hBB⟩
theorem stl_inv (v : Value) (k n e : Int) (hn : e < 4294967296) (he0 : 0 ≤ e) (h : ¬ VK k n e) :
    Calls Try.prog 36 #[.agg #[.int .i64 k, .int .i64 n, .int .u32 e], v] w fun r w' => r = .returned (.tuple #[.agg #[.int .i64 0, .int .i64 0, .int .u32 0], .int .i64 1]) ∧ Below w.heap.size w w' := by
  go_enter Try.func36, Try.ntmps36
  go_wp2_with fail
  refine (sok_f _ k n e hn he0 h).mono ?_
  rintro r1 w1 ⟨rfl, hb1⟩
  obtain ⟨hc1_0, hz1_0⟩ := bkeep hb1 (w.heap.size + 1) (by (try simp) <;> omega)
  have hf1_0 := bkeepz hb1 (w.heap.size + 1) (by (try simp) <;> omega)
  go_wp2
  have hfc : FC w1 (w.heap.size + 1) 0 0 0 := ⟨hz1_0, by rw [hc1_0]; simp [go_sem], by rw [hc1_0]; simp [go_sem], by rw [hc1_0]; simp [go_sem]⟩
  have hbw : Below w.heap.size w w1 := by (repeat (first | exact Below.refl _ _ | assumption | refine bchain (by assumption) ?_ | refine balloc ?_ _ | apply Below.drew | apply below_drewN | (refine Below.alloc ?_ (by (try simp) <;> omega) _) | (refine Below.setCell ?_ (by (try simp) <;> omega) _)))
  have hF := hfc.put (0) (0) (0)
  have hBB := (((hbw.setCell (p := ⟨w.heap.size + 1, 0, none⟩) (by show w.heap.size ≤ w.heap.size + 1; omega) (.int .i64 (0))).setCell (p := ⟨w.heap.size + 1, 1, none⟩) (by show w.heap.size ≤ w.heap.size + 1; omega) (.int .i64 (0))).setCell (p := ⟨w.heap.size + 1, 2, none⟩) (by show w.heap.size ≤ w.heap.size + 1; omega) (.int .u32 (0)))
  obtain ⟨WW, hWW⟩ : ∃ WW, WW = (((w1.setCell ⟨w.heap.size + 1, 0, none⟩ (.int .i64 (0))).setCell ⟨w.heap.size + 1, 1, none⟩ (.int .i64 (0))).setCell ⟨w.heap.size + 1, 2, none⟩ (.int .u32 (0))) := ⟨_, rfl⟩
  rw [← hWW] at hF hBB ⊢
  clear hWW
  obtain ⟨_, hF0, hF1, hF2⟩ := hF
  exact bodyPost_ret (v := .tuple #[.agg #[.int .i64 (0), .int .i64 (0), .int .u32 (0)], .int .i64 1]) (by simp [results, Try.results36, go_sem, hF0, hF1, hF2]) rfl ⟨rfl, hBB⟩
theorem stl_len (v : Value) (zs : List Int) (k n e : Nat) (hS : SlI w v zs) (h : VK k n e) (hl : zs.length ≠ k) :
    Calls Try.prog 36 #[.agg #[.int .i64 k, .int .i64 n, .int .u32 e], v] w fun r w' => r = .returned (.tuple #[.agg #[.int .i64 0, .int .i64 0, .int .u32 0], .int .i64 2]) ∧ Below w.heap.size w w' := by
  obtain ⟨a, cap, rfl, _⟩ := hS
  have hd : ((zs.length : Int) != (k : Int)) = true := by simp; omega
  go_enter Try.func36, Try.ntmps36
  go_wp2_with fail
  refine (sok_t _ k n e h).mono ?_
  rintro r1 w1 ⟨rfl, hb1⟩
  obtain ⟨hc1_0, hz1_0⟩ := bkeep hb1 (w.heap.size) (by (try simp) <;> omega)
  obtain ⟨hc1_1, hz1_1⟩ := bkeep hb1 (w.heap.size + 1) (by (try simp) <;> omega)
  have hf1_1 := bkeepz hb1 (w.heap.size + 1) (by (try simp) <;> omega)
  go_wp2
  have hfc : FC w1 (w.heap.size + 1) 0 0 0 := ⟨hz1_1, by rw [hc1_1]; simp [go_sem], by rw [hc1_1]; simp [go_sem], by rw [hc1_1]; simp [go_sem]⟩
  have hbw : Below w.heap.size w w1 := by (repeat (first | exact Below.refl _ _ | assumption | refine bchain (by assumption) ?_ | refine balloc ?_ _ | apply Below.drew | apply below_drewN | (refine Below.alloc ?_ (by (try simp) <;> omega) _) | (refine Below.setCell ?_ (by (try simp) <;> omega) _)))
  have hF := hfc.put (0) (0) (0)
  have hBB := (((hbw.setCell (p := ⟨w.heap.size + 1, 0, none⟩) (by show w.heap.size ≤ w.heap.size + 1; omega) (.int .i64 (0))).setCell (p := ⟨w.heap.size + 1, 1, none⟩) (by show w.heap.size ≤ w.heap.size + 1; omega) (.int .i64 (0))).setCell (p := ⟨w.heap.size + 1, 2, none⟩) (by show w.heap.size ≤ w.heap.size + 1; omega) (.int .u32 (0)))
  obtain ⟨WW, hWW⟩ : ∃ WW, WW = (((w1.setCell ⟨w.heap.size + 1, 0, none⟩ (.int .i64 (0))).setCell ⟨w.heap.size + 1, 1, none⟩ (.int .i64 (0))).setCell ⟨w.heap.size + 1, 2, none⟩ (.int .u32 (0))) := ⟨_, rfl⟩
  rw [← hWW] at hF hBB ⊢
  clear hWW
  obtain ⟨_, hF0, hF1, hF2⟩ := hF
  exact bodyPost_ret (v := .tuple #[.agg #[.int .i64 (0), .int .i64 (0), .int .u32 (0)], .int .i64 2]) (by simp [results, Try.results36, go_sem, hF0, hF1, hF2]) rfl ⟨rfl, hBB⟩
theorem stl_dif (v : Value) (zs : List Int) (k n e : Nat) (hS : SlI w v zs) (h : VK k n e) (hl : zs.length = k) (hx : ¬ Diff zs k) :
    Calls Try.prog 36 #[.agg #[.int .i64 k, .int .i64 n, .int .u32 e], v] w fun r w' => r = .returned (.tuple #[.agg #[.int .i64 0, .int .i64 0, .int .u32 0], .int .i64 2]) ∧ Below w.heap.size w w' := by
  obtain ⟨a, cap, hv, _⟩ := id hS
  have hk3 : k ≤ 3 := h.nums.2.2.1
  have hm : zs.length ≤ 1048576 := by omega
  have hd : ((zs.length : Int) != (k : Int)) = false := by simp; omega
  have hD : ∀ W, SlI W v zs → Calls Try.prog 47 #[v, .int .i64 k] W fun r w' => r = .returned (.bool false) ∧ Below W.heap.size W w' :=
    fun W hW => sdiff_no W v zs k hW hm (by omega) (by omega) hx
  replace hD := Lib.hid hD
  replace hS := Lib.hid hS
  subst hv
  clear hx hm hl
  go_enter Try.func36, Try.ntmps36
  go_wp2_with fail
  refine (sok_t _ k n e h).mono ?_
  rintro r1 w1 ⟨rfl, hb1⟩
  obtain ⟨hc1_0, hz1_0⟩ := bkeep hb1 (w.heap.size) (by (try simp) <;> omega)
  obtain ⟨hc1_1, hz1_1⟩ := bkeep hb1 (w.heap.size + 1) (by (try simp) <;> omega)
  have hf1_1 := bkeepz hb1 (w.heap.size + 1) (by (try simp) <;> omega)
  go_wp2_with fail
  refine (hD.out _ (hS.out.below (by (repeat (first | exact Below.refl _ _ | assumption | refine bchain (by assumption) ?_ | refine balloc ?_ _ | apply Below.drew | apply below_drewN | (refine Below.alloc ?_ (by (try simp) <;> omega) _) | (refine Below.setCell ?_ (by (try simp) <;> omega) _)))))).mono ?_
  rintro r2 w2 ⟨rfl, hb2⟩
  obtain ⟨hc2_0, hz2_0⟩ := bkeep hb2 (w.heap.size + 1) (by (try simp) <;> omega)
  have hf2_0 := bkeepz hb2 (w.heap.size + 1) (by (try simp) <;> omega)
  go_wp2
  have hfc : FC w2 (w.heap.size + 1) 0 0 0 := ⟨hz2_0, by rw [hc2_0, hc1_1]; simp [go_sem], by rw [hc2_0, hc1_1]; simp [go_sem], by rw [hc2_0, hc1_1]; simp [go_sem]⟩
  have hbw : Below w.heap.size w w2 := by (repeat (first | exact Below.refl _ _ | assumption | refine bchain (by assumption) ?_ | refine balloc ?_ _ | apply Below.drew | apply below_drewN | (refine Below.alloc ?_ (by (try simp) <;> omega) _) | (refine Below.setCell ?_ (by (try simp) <;> omega) _)))
  have hF := hfc.put (0) (0) (0)
  have hBB := (((hbw.setCell (p := ⟨w.heap.size + 1, 0, none⟩) (by show w.heap.size ≤ w.heap.size + 1; omega) (.int .i64 (0))).setCell (p := ⟨w.heap.size + 1, 1, none⟩) (by show w.heap.size ≤ w.heap.size + 1; omega) (.int .i64 (0))).setCell (p := ⟨w.heap.size + 1, 2, none⟩) (by show w.heap.size ≤ w.heap.size + 1; omega) (.int .u32 (0)))
  obtain ⟨WW, hWW⟩ : ∃ WW, WW = (((w2.setCell ⟨w.heap.size + 1, 0, none⟩ (.int .i64 (0))).setCell ⟨w.heap.size + 1, 1, none⟩ (.int .i64 (0))).setCell ⟨w.heap.size + 1, 2, none⟩ (.int .u32 (0))) := ⟨_, rfl⟩
  rw [← hWW] at hF hBB ⊢
  clear hWW
  obtain ⟨_, hF0, hF1, hF2⟩ := hF
  exact bodyPost_ret (v := .tuple #[.agg #[.int .i64 (0), .int .i64 (0), .int .u32 (0)], .int .i64 2]) (by simp [results, Try.results36, go_sem, hF0, hF1, hF2]) rfl ⟨rfl, hBB⟩
set_option maxHeartbeats 2000000 in
theorem stl_ok (v : Value) (k n e : Nat) (x : List Nat) (hS : SlS w v (zl x)) (h : VK k n e) (hx : okList k k x = true) :
    Calls Try.prog 36 #[.agg #[.int .i64 k, .int .i64 n, .int .u32 e], v] w fun r w' => r = .returned (.tuple #[.agg #[.int .i64 k, .int .i64 n, .int .u32 (leastK n k (onL e (ordF n x)) : Nat)], .int .i64 0]) ∧ Below w.heap.size w w' := by
  obtain ⟨_, ad, cap, hv⟩ := id hS
  obtain ⟨he, hn5, hk3, hkn⟩ := h.nums
  have hxl := ok_length hx
  have hm : (zl x).length ≤ 1048576 := by rw [zl_length]; omega
  rw [zl_length, hxl] at hv
  have hd : ((k : Int) != (k : Int)) = false := by simp
  have hD : ∀ W, SlI W v (zl x) → Calls Try.prog 47 #[v, .int .i64 k] W fun r w' => r = .returned (.bool true) ∧ Below W.heap.size W w' :=
    fun W hW => sdiff_yes W v (zl x) k hW hm (by omega) (by omega) (diff_zl hx)
  have hxn := ok_wide hkn hx
  have hvk : VK k n (onL e (ordF n x) : Nat) := ⟨VG_on hn5 (ordF_ok hn5 hk3 hxn), h.2⟩
  have hM := Lib.hid (fun W => sleastK_any W k n _ hvk)
  have hL := Lib.hid (fun W (hW : SlS W v (zl x)) => slabd_any W n e k x v h.1 hk3 hxn hW)
  obtain ⟨y, hy⟩ : ∃ y, onL e (ordF n x) = y := ⟨_, rfl⟩
  rw [hy] at hL hM ⊢
  obtain ⟨z, hz⟩ : ∃ z, leastK n k y = z := ⟨_, rfl⟩
  rw [hz] at hM ⊢
  replace hD := Lib.hid hD
  replace hS := Lib.hid hS
  subst hv
  clear hx hm hxl hy hxn hvk hz
  go_enter Try.func36, Try.ntmps36
  go_wp2_with fail
  refine (sok_t _ k n e h).mono ?_
  rintro r1 w1 ⟨rfl, hb1⟩
  obtain ⟨hc1_0, hz1_0⟩ := bkeep hb1 (w.heap.size) (by (try simp) <;> omega)
  obtain ⟨hc1_1, hz1_1⟩ := bkeep hb1 (w.heap.size + 1) (by (try simp) <;> omega)
  have hf1_1 := bkeepz hb1 (w.heap.size + 1) (by (try simp) <;> omega)
  go_wp2_with fail
  refine (hD.out _ (SlI.below hS.out.1 (by (repeat (first | exact Below.refl _ _ | assumption | refine bchain (by assumption) ?_ | refine balloc ?_ _ | apply Below.drew | apply below_drewN | (refine Below.alloc ?_ (by (try simp) <;> omega) _) | (refine Below.setCell ?_ (by (try simp) <;> omega) _)))))).mono ?_
  rintro r2 w2 ⟨rfl, hb2⟩
  obtain ⟨hc2_0, hz2_0⟩ := bkeep hb2 (w.heap.size) (by (try simp) <;> omega)
  obtain ⟨hc2_1, hz2_1⟩ := bkeep hb2 (w.heap.size + 1) (by (try simp) <;> omega)
  have hf2_1 := bkeepz hb2 (w.heap.size + 1) (by (try simp) <;> omega)
  go_wp2_with fail
  refine (hL.out _ (hS.out.below (by (repeat (first | exact Below.refl _ _ | assumption | refine bchain (by assumption) ?_ | refine balloc ?_ _ | apply Below.drew | apply below_drewN | (refine Below.alloc ?_ (by (try simp) <;> omega) _) | (refine Below.setCell ?_ (by (try simp) <;> omega) _)))))).mono ?_
  rintro r3 w3 ⟨rfl, hb3⟩
  obtain ⟨hc3_0, hz3_0⟩ := bkeep hb3 (w.heap.size + 1) (by (try simp) <;> omega)
  have hf3_0 := bkeepz hb3 (w.heap.size + 1) (by (try simp) <;> omega)
  go_wp2_with fail
  refine (hM.out _).mono ?_
  rintro r4 w4 ⟨rfl, hb4⟩
  obtain ⟨hc4_0, hz4_0⟩ := bkeep hb4 (w.heap.size + 1) (by (try simp) <;> omega)
  have hf4_0 := bkeepz hb4 (w.heap.size + 1) (by (try simp) <;> omega)
  go_wp2
  have hfc : FC w4 (w.heap.size + 1) 0 0 0 := ⟨hz4_0, by rw [hc4_0, hc3_0, hc2_1, hc1_1]; simp [go_sem], by rw [hc4_0, hc3_0, hc2_1, hc1_1]; simp [go_sem], by rw [hc4_0, hc3_0, hc2_1, hc1_1]; simp [go_sem]⟩
  have hbw : Below w.heap.size w w4 := by (repeat (first | exact Below.refl _ _ | assumption | refine bchain (by assumption) ?_ | refine balloc ?_ _ | apply Below.drew | apply below_drewN | (refine Below.alloc ?_ (by (try simp) <;> omega) _) | (refine Below.setCell ?_ (by (try simp) <;> omega) _)))
  have hF := hfc.put (k) (n) (z)
  have hBB := (((hbw.setCell (p := ⟨w.heap.size + 1, 0, none⟩) (by show w.heap.size ≤ w.heap.size + 1; omega) (.int .i64 (k))).setCell (p := ⟨w.heap.size + 1, 1, none⟩) (by show w.heap.size ≤ w.heap.size + 1; omega) (.int .i64 (n))).setCell (p := ⟨w.heap.size + 1, 2, none⟩) (by show w.heap.size ≤ w.heap.size + 1; omega) (.int .u32 (z)))
  obtain ⟨WW, hWW⟩ : ∃ WW, WW = (((w4.setCell ⟨w.heap.size + 1, 0, none⟩ (.int .i64 (k))).setCell ⟨w.heap.size + 1, 1, none⟩ (.int .i64 (n))).setCell ⟨w.heap.size + 1, 2, none⟩ (.int .u32 (z))) := ⟨_, rfl⟩
  rw [← hWW] at hF hBB ⊢
  clear hWW
  obtain ⟨_, hF0, hF1, hF2⟩ := hF
  exact bodyPost_ret (v := .tuple #[.agg #[.int .i64 (k), .int .i64 (n), .int .u32 (z)], .int .i64 0]) (by simp [results, Try.results36, go_sem, hF0, hF1, hF2]) rfl ⟨rfl, hBB⟩
end
theorem fo_both (n e : Int) (zs : List Int) (hn : e < 4294967296) (he0 : 0 ≤ e) : ∃ (m1 m2 m3 c : Int),
    (∀ W v, SlS W v zs → Calls Try.prog 26 #[.agg #[.int .i64 n, .int .u32 e], v] W fun r w' => r = .returned (.tuple #[.agg #[.int .i64 m1, .int .i64 m2, .int .u32 m3], .int .i64 c]) ∧ Below W.heap.size W w') ∧
    (∀ W v, SlS W v zs → Calls Try.prog 28 #[.agg #[.int .i64 n, .int .u32 e], v] W fun r w' => r = .returned (.tuple #[.agg #[.int .i64 m1, .int .i64 m2, .int .u32 m3], .int .i64 c]) ∧ Below W.heap.size W w') := by
  by_cases h : VG n e
  · obtain ⟨n', rfl⟩ : ∃ k : Nat, n = k := ⟨n.toNat, by have := h.1; omega⟩
    obtain ⟨e', rfl⟩ : ∃ k : Nat, e = k := ⟨e.toNat, by omega⟩
    by_cases hl : 3 < zs.length
    · exact ⟨_, _, _, _, fun W v hv => sfo_len W v zs n' e' hv.1 h hl, fun W v hv => ifo_len W v zs n' e' hv.1 h hl⟩
    · by_cases hd : Diff zs n'
      · obtain ⟨x, hx, hok⟩ := diff_list hd
        refine ⟨_, _, _, _, fun W v hv => sfo_ok W v zs.length n' e' x (by rw [← hx]; exact hv) h (by omega) hok, fun W v hv => ifo_ok W v zs.length n' e' x (by rw [← hx]; exact hv) h (by omega) hok⟩
      · exact ⟨_, _, _, _, fun W v hv => sfo_dif W v zs n' e' hv.1 h (by omega) hd, fun W v hv => ifo_dif W v zs n' e' hv.1 h (by omega) hd⟩
  · exact ⟨_, _, _, _, fun W v _ => sfo_inv W v n e hn he0 h, fun W v _ => ifo_inv W v n e hn he0 h⟩
theorem tl_both (k n e : Int) (zs : List Int) (hn : e < 4294967296) (he0 : 0 ≤ e) : ∃ (m1 m2 m3 c : Int),
    (∀ W v, SlS W v zs → Calls Try.prog 36 #[.agg #[.int .i64 k, .int .i64 n, .int .u32 e], v] W fun r w' => r = .returned (.tuple #[.agg #[.int .i64 m1, .int .i64 m2, .int .u32 m3], .int .i64 c]) ∧ Below W.heap.size W w') ∧
    (∀ W v, SlS W v zs → Calls Try.prog 37 #[.agg #[.int .i64 k, .int .i64 n, .int .u32 e], v] W fun r w' => r = .returned (.tuple #[.agg #[.int .i64 m1, .int .i64 m2, .int .u32 m3], .int .i64 c]) ∧ Below W.heap.size W w') := by
  by_cases h : VK k n e
  · obtain ⟨k', rfl⟩ : ∃ x : Nat, k = x := ⟨k.toNat, by have := h.2.1; omega⟩
    obtain ⟨n', rfl⟩ : ∃ k : Nat, n = k := ⟨n.toNat, by have := h.1.1; omega⟩
    obtain ⟨e', rfl⟩ : ∃ k : Nat, e = k := ⟨e.toNat, by omega⟩
    by_cases hl : zs.length = k'
    · by_cases hd : Diff zs k'
      · obtain ⟨x, hx, hok⟩ := diff_list hd
        rw [hl] at hok
        refine ⟨_, _, _, _, fun W v hv => stl_ok W v k' n' e' x (by rw [← hx]; exact hv) h hok, fun W v hv => itl_ok W v k' n' e' x (by rw [← hx]; exact hv) h hok⟩
      · exact ⟨_, _, _, _, fun W v hv => stl_dif W v zs k' n' e' hv.1 h hl hd, fun W v hv => itl_dif W v zs k' n' e' hv.1 h hl hd⟩
    · exact ⟨_, _, _, _, fun W v hv => stl_len W v zs k' n' e' hv.1 h hl, fun W v hv => itl_len W v zs k' n' e' hv.1 h hl⟩
  · exact ⟨_, _, _, _, fun W v _ => stl_inv W v k n e hn he0 h, fun W v _ => itl_inv W v k n e hn he0 h⟩
end Go.Proofs.Ytdibcchhamapjaa
