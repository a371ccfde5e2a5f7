/-
  CountCopies: facts; the program's contract.
-/
import Derived.Test.YtepbekhlpbnpkaaDoorVs
import Derived.Test.YtepbekhlpbnpkaaDoorCount
namespace Go.Proofs.YtepbekhlpbnpkaaDoor
open Go.RowKit Go.Shelf
set_option maxRecDepth 100000
attribute [local go_sem] Oper.semAt_some
namespace Cc
theorem eMax_pc : ∀ k, k ≤ 5 → eMax k = 2 ^ pc k := by decide
theorem pp_ltP : ∀ m, m ≤ 5 → ∀ j, j < m → ∀ i, i < j → pp i j < pc m := by decide +kernel
theorem rowE_ltP (e : Nat) (f : Nat → Nat) (j i m : Nat) (hij : i ≤ j) (hj : j < m) (hm : m ≤ 5) : rowE e f j i < 2 ^ pc m := by
  induction i with
  | zero => exact Nat.pow_pos (by omega)
  | succ i ih =>
    refine Nat.or_lt_two_pow (ih (by omega)) ?_
    split
    · exact Nat.pow_lt_pow_right (by omega) (pp_ltP m hm j hj i (by omega))
    · exact Nat.pow_pos (by omega)
theorem onE_ltP (e : Nat) (f : Nat → Nat) (j m : Nat) (hj : j ≤ m) (hm : m ≤ 5) : onE e f j < 2 ^ pc m := by
  induction j with
  | zero => exact Nat.pow_pos (by omega)
  | succ j ih => exact Nat.or_lt_two_pow (ih (by omega)) (rowE_ltP e f j j m (Nat.le_refl _) (by omega) hm)
theorem onL_lt (e : Nat) {n m : Nat} {x : List Nat} (hx : okList n m x = true) (hm : m ≤ 5) : onL e x < eMax m := by
  rw [eMax_pc m hm]
  unfold onL
  exact onE_ltP e _ _ m (by rw [ok_length hx]; exact Nat.le_refl _) hm
end Cc
theorem bits_ok : ∀ n, n ≤ 5 → ∀ s, s < 2 ^ n → okList n (bitsL s).length (bitsL s) = true := by decide +kernel
theorem sets_ok {n k : Nat} (hn : n ≤ 5) {x : List Nat} (hx : x ∈ setsL n k) : okList n k x = true ∧ k ≤ 5 := by
  unfold setsL setsTo at hx
  obtain ⟨s, hs, rfl⟩ := List.mem_map.1 hx
  obtain ⟨h1, h2⟩ := List.mem_filter.1 hs
  have h3 := List.mem_range.1 h1
  have h4 := bits_ok n hn s h3
  unfold isS at h2
  have h5 : (bitsL s).length = k := by simpa using h2
  rw [h5] at h4
  refine ⟨h4, ?_⟩
  have h6 := two_pow_le hn
  have := bitsL_len s (by omega)
  omega
theorem sets_len {n k : Nat} (hn : n ≤ 5) : (setsL n k).length ≤ 32 := by
  unfold setsL setsTo
  rw [List.length_map]
  have h1 := List.length_filter_le (isS k) (List.range (2 ^ n))
  rw [List.length_range] at h1
  exact Nat.le_trans h1 (two_pow_le hn)
/-- how many of the sets are a copy -/
def cpE (e k m : Nat) (pre : List (List Nat)) : Nat := pre.countP fun x => leastE k (onL e x) == leastE k m
theorem cpE_t {e k m : Nat} {pre : List (List Nat)} {x : List Nat} (h : leastE k (onL e x) = leastE k m) : cpE e k m (pre ++ [x]) = cpE e k m pre + 1 := by simp [cpE, h]
theorem cpE_f {e k m : Nat} {pre : List (List Nat)} {x : List Nat} (h : leastE k (onL e x) ≠ leastE k m) : cpE e k m (pre ++ [x]) = cpE e k m pre := by simp [cpE, h]
theorem cpE_le (e k m : Nat) (pre : List (List Nat)) : cpE e k m pre ≤ pre.length := List.countP_le_length
/-- the boxes: g, the least graph, the counter -/
structure CC (wr : World) (G L C : Nat) (n e k ls c : Int) : Prop where
  size : G < L ∧ L < C ∧ C < wr.heap.size
  g0 : wr.cell? ⟨G, 0, none⟩ = some (.int .i64 n)
  g1 : wr.cell? ⟨G, 1, none⟩ = some (.int .u32 e)
  l0 : wr.cell? ⟨L, 0, none⟩ = some (.int .i64 k)
  l1 : wr.cell? ⟨L, 1, none⟩ = some (.int .u32 ls)
  c0 : wr.cell? ⟨C, 0, none⟩ = some (.int .i64 c)
  fc : wr.frozen? ⟨C, 0, none⟩ = false
theorem CC.under {wr w' : World} {G L C B : Nat} {n e k ls c : Int} (h : CC wr G L C n e k ls c) (hb : Below B wr w') (hB : C < B) : CC w' G L C n e k ls c where
  size := ⟨h.size.1, h.size.2.1, Nat.lt_of_lt_of_le h.size.2.2 hb.size⟩
  g0 := (hb.cell (p := ⟨G, 0, none⟩) (by have := h.size; show G < B; omega)).trans h.g0
  g1 := (hb.cell (p := ⟨G, 1, none⟩) (by have := h.size; show G < B; omega)).trans h.g1
  l0 := (hb.cell (p := ⟨L, 0, none⟩) (by have := h.size; show L < B; omega)).trans h.l0
  l1 := (hb.cell (p := ⟨L, 1, none⟩) (by have := h.size; show L < B; omega)).trans h.l1
  c0 := (hb.cell (p := ⟨C, 0, none⟩) hB).trans h.c0
  fc := (hb.frozen (p := ⟨C, 0, none⟩) hB).trans h.fc
theorem CC.set {wr : World} {G L C : Nat} {n e k ls c : Int} (h : CC wr G L C n e k ls c) (x : Int) : CC (wr.setCell ⟨C, 0, none⟩ (.int .i64 x)) G L C n e k ls x where
  size := by have := h.size; simpa using this
  g0 := (World.cell?_setCell_other _ _ _ _ (by have := h.size; simp <;> omega)).trans h.g0
  g1 := (World.cell?_setCell_other _ _ _ _ (by have := h.size; simp <;> omega)).trans h.g1
  l0 := (World.cell?_setCell_other _ _ _ _ (by have := h.size; simp <;> omega)).trans h.l0
  l1 := (World.cell?_setCell_other _ _ _ _ (by have := h.size; simp <;> omega)).trans h.l1
  c0 := World.cell?_setCell_same _ _ _ h.c0
  fc := by rw [World.frozen?_setCell]; exact h.fc
theorem SInv.under {W W' : World} {Bn Bk n k B : Nat} (h : SInv Bn Bk n k W) (hb : Below B W W') (h1 : Bn < B) (h2 : Bk < B) (h3 : 0 < B) : SInv Bn Bk n k W' :=
  ⟨(hb.cell (p := ⟨Bn, 0, none⟩) h1).trans h.n, (hb.cell (p := ⟨Bk, 0, none⟩) h2).trans h.k, fun j hj => (hb.cell (p := ⟨0, _, none⟩) h3).trans (h.t j hj)⟩
section
variable (w : World)
theorem so_any (n k : Int) :
    Calls Tryd.prog 45 #[.int .i64 n, .int .i64 k] w fun r w' => ∃ B, r = .returned (.func (.func 90) #[] #[.pointer (some ⟨B, 0, none⟩), .pointer (some ⟨B + 1, 0, none⟩)]) ∧ LoMade w w' B n k := by
  have s1 : ∀ (W : World) (o : Obj), (W.alloc o).heap.size = W.heap.size + 1 := fun W o => by simp
  replace s1 := Lib.hid s1
  go_enter Tryd.func45, Tryd.ntmps45
  go_wp2
  go_ret
  refine ⟨w.heap.size, rfl, by (repeat (first | exact Below.refl _ _ | assumption | refine bchain (by assumption) ?_ | refine balloc ?_ _ | apply Below.drew | apply below_drewN | (refine Below.alloc ?_ (by (try simp) <;> omega) _) | (refine Below.setCell ?_ (by (try simp) <;> omega) _))), Nat.le_refl _, by rw [s1.out, s1.out]; omega, ?_, ?_⟩
  · rw [cOld _ _ _ _ (by rw [s1.out]; omega), cNew _ _ _ _ _ rfl]; rfl
  · rw [cNew _ _ _ _ _ (by rw [s1.out])]; rfl
theorem icc_inv1 (k m n e : Int) (hm : m < 4294967296) (hm0 : 0 ≤ m) (h : ¬ VG k m) :
    Calls Tryd.prog 15 #[.agg #[.int .i64 k, .int .u32 m], .agg #[.int .i64 n, .int .u32 e]] w fun r w' => r = .returned (.tuple #[.int .i64 0, .int .i64 1]) ∧ Below w.heap.size w w' := by
  go_enter Tryd.func15, Tryd.ntmps15
  go_wp2_with fail
  refine (valid_f _ k m hm hm0 h).mono ?_
  rintro r1 w1 ⟨rfl, hb1⟩
  go_wp2
  go_ret2
  exact ⟨rfl, by (repeat (first | exact Below.refl _ _ | assumption | refine bchain (by assumption) ?_ | refine balloc ?_ _ | apply Below.drew | apply below_drewN | (refine Below.alloc ?_ (by (try simp) <;> omega) _) | (refine Below.setCell ?_ (by (try simp) <;> omega) _)))⟩
theorem icc_inv2 (k m n e : Int) (h : VG k m) (he : e < 4294967296) (he0 : 0 ≤ e) (h2 : ¬ VG n e) :
    Calls Tryd.prog 15 #[.agg #[.int .i64 k, .int .u32 m], .agg #[.int .i64 n, .int .u32 e]] w fun r w' => r = .returned (.tuple #[.int .i64 0, .int .i64 1]) ∧ Below w.heap.size w w' := by
  go_enter Tryd.func15, Tryd.ntmps15
  go_wp2_with fail
  refine (valid_t _ k m h).mono ?_
  rintro r1 w1 ⟨rfl, hb1⟩
  obtain ⟨hc1_0, hz1_0⟩ := bkeep hb1 (w.heap.size + 1) (by (try simp) <;> omega)
  go_wp2_with fail
  refine (valid_f _ n e he he0 h2).mono ?_
  rintro r2 w2 ⟨rfl, hb2⟩
  go_wp2
  go_ret2
  exact ⟨rfl, by (repeat (first | exact Below.refl _ _ | assumption | refine bchain (by assumption) ?_ | refine balloc ?_ _ | apply Below.drew | apply below_drewN | (refine Below.alloc ?_ (by (try simp) <;> omega) _) | (refine Below.setCell ?_ (by (try simp) <;> omega) _)))⟩
set_option maxHeartbeats 4000000 in
theorem icc_ok (k m n e : Nat) (h : VG k m) (h2 : VG n e) (hT : TabZ w) :
    Calls Tryd.prog 15 #[.agg #[.int .i64 k, .int .u32 m], .agg #[.int .i64 n, .int .u32 e]] w fun r w' => r = .returned (.tuple #[.int .i64 (cpE e k m (setsL n k) : Nat), .int .i64 0]) ∧ Below w.heap.size w w' := by
  have hm : m < 4294967296 := by have := h.2.2.2; have := eMax_le k; simp at *; omega
  have he : e < 4294967296 := by have := h2.2.2.2; have := eMax_le n; simp at *; omega
  have hn5 : n ≤ 5 := by have := h2.2.1; omega
  have hk5 : k ≤ 5 := by have := h.2.1; omega
  have hLs := Lib.hid (fun W => least_any W k m h)
  have hLx := Lib.hid (fun W x (hx : x ∈ setsL n k) => least_any W k (onL e x) ⟨by omega, by omega, by omega, by have := Cc.onL_lt e (sets_ok hn5 hx).1 hk5; simpa using this⟩)
  obtain ⟨ls, hls⟩ : ∃ ls, leastE k m = ls := ⟨_, rfl⟩
  rw [hls] at hLs
  replace hls := Lib.hid hls
  replace hT := Lib.hid hT
  refine (callsIn_wide (n := 5)).1 ?_
  refine callsIn_of_wp_marks Tryd.func15 rfl trivial ?_ rfl
  simp only [Tryd.ntmps15, List.size_toArray, List.length_cons, List.length_nil, Nat.reduceAdd, Nat.reduceSub, Array.replicate_succ, Array.replicate_zero, List.push_toArray, List.append_toArray, List.nil_append, List.cons_append]
  gi_wp2_with fail
  refine ⟨trivial, ?_⟩
  refine (callsIn_wide.2 (valid_t _ k m h)).mono ?_
  rintro r1 w1 ⟨rfl, hb1⟩
  obtain ⟨hc1, hz1⟩ := bkeep hb1 w.heap.size (by (try simp) <;> omega)
  obtain ⟨hd1, hy1⟩ := bkeep hb1 (w.heap.size + 1) (by (try simp) <;> omega)
  gi_wp2_with fail
  refine ⟨trivial, ?_⟩
  refine (callsIn_wide.2 (valid_t _ n e h2)).mono ?_
  rintro r2 w2 ⟨rfl, hb2⟩
  obtain ⟨hc2, hz2⟩ := bkeep hb2 w.heap.size hz1
  obtain ⟨hd2, hy2⟩ := bkeep hb2 (w.heap.size + 1) hy1
  gi_wp2_with fail
  refine ⟨trivial, ?_⟩
  refine (callsIn_wide.2 (hLs.out _)).mono ?_
  rintro r3 w3 ⟨rfl, hb3⟩
  obtain ⟨hc3, hz3⟩ := bkeep hb3 w.heap.size hz2
  obtain ⟨hd3, hy3⟩ := bkeep hb3 (w.heap.size + 1) hy2
  have g0 : w3.cell? ⟨w.heap.size + 1, 0, none⟩ = some (.int .i64 n) := by rw [hd3, hd2, hd1, cNew _ _ _ _ _ (by simp)]; rfl
  have g1 : w3.cell? ⟨w.heap.size + 1, 1, none⟩ = some (.int .u32 e) := by rw [hd3, hd2, hd1, cNew _ _ _ _ _ (by simp)]; rfl
  have k0 : w3.cell? ⟨w.heap.size, 0, none⟩ = some (.int .i64 k) := by rw [hc3, hc2, hc1, cOld _ _ _ _ (by simp), cNew _ _ _ _ _ rfl]; rfl
  have hB3 : Below w.heap.size w w3 := by (repeat (first | exact Below.refl _ _ | assumption | refine bchain (by assumption) ?_ | refine balloc ?_ _ | apply Below.drew | apply below_drewN | (refine Below.alloc ?_ (by (try simp) <;> omega) _) | (refine Below.setCell ?_ (by (try simp) <;> omega) _)))
  clear hc1 hc2 hc3 hd1 hd2 hd3 hb1 hb2 hb3
  gi_wp2_with fail
  refine ⟨trivial, ?_⟩
  refine (callsIn_wide.2 (so_any _ n k)).mono ?_
  rintro r4 w4 ⟨B, rfl, hM⟩
  have hP : CC ((w3.alloc (.cells #[.int .i64 k, .int .u32 ls] 27)).alloc (.cells #[.int .i64 0] 2)) (w.heap.size + 1) w3.heap.size (w3.heap.size + 1) n e k ls 0 := by
    refine ⟨⟨hy3, by omega, by simp⟩, ?_, ?_, ?_, ?_, ?_, fNew _ _ _ _ _ (by simp)⟩
    · rw [cOld _ _ _ _ (by simp; omega), cOld _ _ _ _ hy3]; exact g0
    · rw [cOld _ _ _ _ (by simp; omega), cOld _ _ _ _ hy3]; exact g1
    · rw [cOld _ _ _ _ (by simp), cNew _ _ _ _ _ rfl]; rfl
    · rw [cOld _ _ _ _ (by simp), cNew _ _ _ _ _ rfl]; rfl
    · rw [cNew _ _ _ _ _ (by simp)]; rfl
  replace hP := hP.under hM.below (by simp)
  have hBW := hM.below
  have hB2 : Below w.heap.size w w4 := by (repeat (first | exact Below.refl _ _ | assumption | refine bchain (by assumption) ?_ | refine balloc ?_ _ | apply Below.drew | apply below_drewN | (refine Below.alloc ?_ (by (try simp) <;> omega) _) | (refine Below.setCell ?_ (by (try simp) <;> omega) _)))
  have hge := hM.ge
  have hBlt := hM.lt
  have gn := hM.gn
  have gk := hM.gk
  rw [World.size_alloc, World.size_alloc] at hge
  obtain ⟨G, hG⟩ : ∃ G, w.heap.size = G := ⟨_, rfl⟩
  obtain ⟨L, hL⟩ : ∃ L, w3.heap.size = L := ⟨_, rfl⟩
  have hTG : Hid (∀ W, Below G w W → TabZ W) := fun W h => hT.out.below (by rw [hG]; exact h)
  rw [hG, hL] at hP
  rw [hG] at hB2
  rw [hL] at hge
  rw [hG, hL]
  clear hM hBW g0 g1 k0 hB3 hz1 hz2 hz3 hy1 hy2 hy3
  have hPs0 := hP.size
  have hgt : 0 < w4.heap.size := (hTG.out _ hB2).lt
  gi_wp2_with fail
  refine wpIn_range_seesC rfl (by omega) (gf := 90) (lb := #[.pointer (some ⟨B, 0, none⟩), .pointer (some ⟨B + 1, 0, none⟩)]) rfl trivial (enters_of Tryd.func90 (by kernel_rfl) rfl)
    (sets_sees n k hn5 4 B (B + 1) w4) (Below.refl _ _) rfl See.below See.cellular
    (fun pre W => CC W (G + 1) L (L + 1) n e k ls (cpE e k m pre : Nat) ∧ SInv B (B + 1) n k W ∧ Below G w W)
    (fun _ _ _ => False)
    (fun s A hs => hs.2.1)
    (fun s A A' hs hb => ⟨hs.1.under hb (by have := hP.size; omega), hs.2.1.under hb (by omega) hBlt hgt, hs.2.2.trans (hb.mono (by have := hP.size; omega))⟩)
    (fun _ _ _ _ _ _ _ hs _ _ => hs)
    ⟨hP, ⟨gn, gk, hTG.out _ hB2⟩, hB2⟩
    (fun v a' _ => a' = { tmps := #[.agg #[.int .i64 k, .int .u32 m], .agg #[.int .i64 n, .int .u32 e], .pointer (some ⟨G, 0, none⟩), .pointer (some ⟨G + 1, 0, none⟩), .int .i64 0, .int .i64 0, .pointer (some ⟨L, 0, none⟩), .pointer (some ⟨L + 1, 0, none⟩), v, .agg #[.int .i64 k, .int .u32 m], .bool true, .bool false, .bool false, .agg #[.int .i64 n, .int .u32 e], .bool true, .bool false, .bool false, .agg #[.int .i64 k, .int .u32 m], .agg #[.int .i64 k, .int .u32 ls], .pointer (some ⟨G + 1, 0, none⟩), .int .i64 n, .pointer (some ⟨G, 0, none⟩), .int .i64 k, .func (.func 90) #[] #[.pointer (some ⟨B, 0, none⟩), .pointer (some ⟨B + 1, 0, none⟩)], v, undef, undef, undef, undef, undef, undef, undef, undef, undef], defers := [] })
    (fun _ _ _ _ _ _ h _ _ => h) ?assign ?body ?done ?stop
  case assign =>
    intro l x v W K hS hK
    gi_wp2
    exact hK _ _ (Below.refl _ _) rfl
  case body =>
    have hPs := hP.size
    clear hP gn gk
    rintro l pre x rest v a' W hl hlr hL2 ⟨hP, hSI, hB⟩ hS rfl
    have hsz : w4.heap.size ≤ W.heap.size := by
      obtain ⟨r, hr⟩ := hlr
      have := (Array.getElem?_eq_some_iff.1 hr).1
      omega
    have hxm : x ∈ setsL n k := by rw [hL2]; simp
    have hok := (sets_ok hn5 hxm).1
    have hOn := Lib.hid (fun W' (h : Below W.heap.size W W') => ionL_any W' v x n k e (See.below _ _ _ _ hS h) hn5 he hok)
    have hLq := Lib.hid (fun W' => hLx.out W' x hxm)
    have hkl : cpE e k m pre < 1000 := by
      have h1 := cpE_le e k m pre
      have h2 := sets_len (k := k) hn5
      rw [hL2] at h2
      simp at h2
      omega
    have hq := fun W => eqGr W k k (leastE k (onL e x)) ls
    obtain ⟨q0, q1, q2, q3, q4, q5, q6⟩ := id hP
    obtain ⟨z, hz⟩ : ∃ z : Nat, cpE e k m pre = z := ⟨_, rfl⟩
    have hfin : ∀ (w3 : World) (ok : Bool), Below W.heap.size W w3 → (leastE k (onL e x) == ls) = ok → Upper w4.heap.size W (if ok then w3.setCell ⟨L + 1, 0, none⟩ (.int .i64 ((z : Int) + 1)) else w3) ∧
        (CC (if ok then w3.setCell ⟨L + 1, 0, none⟩ (.int .i64 ((z : Int) + 1)) else w3) (G + 1) L (L + 1) n e k ls (cpE e k m (pre ++ [x]) : Nat) ∧ SInv B (B + 1) n k (if ok then w3.setCell ⟨L + 1, 0, none⟩ (.int .i64 ((z : Int) + 1)) else w3) ∧ Below G w (if ok then w3.setCell ⟨L + 1, 0, none⟩ (.int .i64 ((z : Int) + 1)) else w3)) := fun w3 ok hb hok2 => by
      have hP3 := hP.under hb (by have := q0; omega)
      have hS3 := hSI.under hb (by omega) (by omega) (by omega)
      have hB3 : Below G w w3 := hB.trans (hb.mono (by have := q0; omega))
      cases ok
      · rw [cpE_f (by rw [hls.out]; simpa using hok2)]
        exact ⟨Upper.of_below hb, hP3, hS3, hB3⟩
      · rw [cpE_t (by rw [hls.out]; simpa using hok2), hz]
        refine ⟨(Upper.of_below hb).trans (Upper.setCell _ _ _ (by show L + 1 < _; omega)), hP3.set _, ⟨?_, ?_, fun j hj => ?_⟩, hB3.setCell (p := ⟨L + 1, 0, none⟩) (by show G ≤ L + 1; omega) _⟩
        · exact (World.cell?_setCell_other _ _ _ _ (by simp <;> omega)).trans hS3.n
        · exact (World.cell?_setCell_other _ _ _ _ (by simp <;> omega)).trans hS3.k
        · exact (World.cell?_setCell_other _ _ _ _ (by simp <;> omega)).trans (hS3.t j hj)
    rw [hz] at hP q5 hkl
    have hbe : ((k : Int) == k && (leastE k (onL e x) : Int) == (ls : Int)) = (leastE k (onL e x) == ls) := by
      rw [Bool.eq_iff_iff]; simp; omega
    rw [hbe] at hq
    obtain ⟨ok, hok2⟩ : ∃ ok, (leastE k (onL e x) == ls) = ok := ⟨_, rfl⟩
    rw [hok2] at hq
    have hfin := Lib.hid (fun w3 hb => hfin w3 ok hb hok2)
    obtain ⟨y, hy⟩ : ∃ y : Nat, leastE k (onL e x) = y := ⟨_, rfl⟩
    obtain ⟨o, ho⟩ : ∃ o : Nat, onL e x = o := ⟨_, rfl⟩
    rw [hy] at hLq hq
    rw [ho] at hOn hLq
    have hPl := Lib.hid (fun W' (h : Below W.heap.size W W') => hP.under h (by have := q0; omega))
    clear hP hz hL2 hS hok hbe hok2 hy ho hlr hSI
    have qC : L + 1 < W.heap.size := by have := q0; omega
    clear q0
    cases ok
    all_goals
      gi_wp2
      gi_region_with (first
        | (refine ⟨trivial, ?_⟩; gi_at_call 46; refine (CallsIn.inRound l (callsIn_wide.2 (hOn.out _ (by (repeat (first | exact Below.refl _ _ | assumption | refine bchain (by assumption) ?_ | refine balloc ?_ _ | apply Below.drew | apply below_drewN | (refine Below.alloc ?_ (by (try simp) <;> omega) _) | (refine Below.setCell ?_ (by (try simp) <;> omega) _))))))).mono ?_; rintro r5 w5 ⟨rfl, hb5⟩; have hx5 : Below W.heap.size W w5 := (by (repeat (first | exact Below.refl _ _ | assumption | refine bchain (by assumption) ?_ | refine balloc ?_ _ | apply Below.drew | apply below_drewN | (refine Below.alloc ?_ (by (try simp) <;> omega) _) | (refine Below.setCell ?_ (by (try simp) <;> omega) _)))); obtain ⟨_, a1, a2, a3, a4, a5, a6⟩ := hPl.out w5 hx5)
        | (refine ⟨trivial, ?_⟩; gi_at_call 44; refine (CallsIn.inRound l (callsIn_wide.2 (hLq.out _))).mono ?_; rintro r6 w6 ⟨rfl, hb6⟩; have hx6 : Below W.heap.size W w6 := (by (repeat (first | exact Below.refl _ _ | assumption | refine bchain (by assumption) ?_ | refine balloc ?_ _ | apply Below.drew | apply below_drewN | (refine Below.alloc ?_ (by (try simp) <;> omega) _) | (refine Below.setCell ?_ (by (try simp) <;> omega) _)))); obtain ⟨_, a1, a2, a3, a4, a5, a6⟩ := hPl.out w6 hx6))
      all_goals gi_wp2
      all_goals exact hfin.out _ hx6
  case done =>
    rintro D W hD ⟨hP, hSI, hB⟩ hK
    obtain ⟨q0, q1, q2, q3, q4, q5, q6⟩ := id hP
    obtain ⟨y, hy⟩ : ∃ y : Nat, cpE e k m (setsL n k) = y := ⟨_, rfl⟩
    rw [hy] at q5
    replace hy := Lib.hid hy
    clear hP
    gi_wp2
    refine ⟨by simp, .inl ⟨_, _, rfl, run_takeDeferred hK, ?_⟩⟩
    refine ⟨_, results_tmp2 rfl _ _ _, by rw [hy.out]; rfl, ?_⟩
    rw [hG]
    exact hB.trans (below_putObj _ _ _ (by have := hPs0; omega))
  case stop =>
    rintro D c pre W _ h _
    exact h.elim
end
end Go.Proofs.YtepbekhlpbnpkaaDoor
