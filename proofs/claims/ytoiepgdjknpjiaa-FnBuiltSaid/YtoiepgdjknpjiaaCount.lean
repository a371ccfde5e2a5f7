/-
  CONTRACTS OF CountSelf: the program's and the model's.
-/
import Derived.Test.YtoiepgdjknpjiaaAlike
import Derived.Deep.LoopGhost
namespace Go.Proofs.Ytoiepgdjknpjiaa
open Go.RowKit Go.Shelf
set_option maxRecDepth 100000
attribute [local go_sem] Oper.semAt_some

/-- how many of the orders lead to the graph itself -/
def cntE (e : Nat) (pre : List (List Nat)) : Nat := pre.countP fun x => onL e x == e
theorem cntE_t {e : Nat} {pre : List (List Nat)} {x : List Nat} (h : onL e x = e) : cntE e (pre ++ [x]) = cntE e pre + 1 := by simp [cntE, h]
theorem cntE_f {e : Nat} {pre : List (List Nat)} {x : List Nat} (h : onL e x ≠ e) : cntE e (pre ++ [x]) = cntE e pre := by simp [cntE, h]
theorem cntE_le (e : Nat) (pre : List (List Nat)) : cntE e pre ≤ pre.length := List.countP_le_length
theorem lists_len : ∀ n, n ≤ 5 → ∀ k, k ≤ 5 → (lists n k).length ≤ 120 := by decide +kernel

/-- the box of the graph, and the counter -/
structure CS (wr : World) (G C : Nat) (n e k : Int) : Prop where
  size : G < C ∧ C < wr.heap.size
  g0 : wr.cell? ⟨G, 0, none⟩ = some (.int .i64 n)
  g1 : wr.cell? ⟨G, 1, none⟩ = some (.int .u32 e)
  c0 : wr.cell? ⟨C, 0, none⟩ = some (.int .i64 k)
  fc : wr.frozen? ⟨C, 0, none⟩ = false
theorem CS.under {wr w' : World} {G C B : Nat} {n e k : Int} (h : CS wr G C n e k) (hb : Below B wr w') (hB : C < B) : CS w' G C n e k where
  size := ⟨h.size.1, Nat.lt_of_lt_of_le h.size.2 hb.size⟩
  g0 := (hb.cell (p := ⟨G, 0, none⟩) (by have := h.size; show G < B; omega)).trans h.g0
  g1 := (hb.cell (p := ⟨G, 1, none⟩) (by have := h.size; show G < B; omega)).trans h.g1
  c0 := (hb.cell (p := ⟨C, 0, none⟩) hB).trans h.c0
  fc := (hb.frozen (p := ⟨C, 0, none⟩) hB).trans h.fc
theorem CS.set {wr : World} {G C : Nat} {n e k : Int} (h : CS wr G C n e k) (x : Int) : CS (wr.setCell ⟨C, 0, none⟩ (.int .i64 x)) G C n e x where
  size := ⟨h.size.1, by have := h.size.2; simpa using this⟩
  g0 := (World.cell?_setCell_other _ _ _ _ (by have := h.size.1; simp <;> omega)).trans h.g0
  g1 := (World.cell?_setCell_other _ _ _ _ (by have := h.size.1; simp <;> omega)).trans h.g1
  c0 := World.cell?_setCell_same _ _ _ h.c0
  fc := by rw [World.frozen?_setCell]; exact h.fc

theorem cell_lt' {W : World} {B o : Nat} {v : Value} (h : W.cell? ⟨B, o, none⟩ = some v) : B < W.heap.size := World.block_lt_of_cell? W _ h
section
variable (w : World)
theorem ics_inv (n e : Int) (hn : e < 4294967296) (he0 : 0 ≤ e) (h : ¬ VG n e) :
    Calls Try.prog 20 #[.agg #[.int .i64 n, .int .u32 e]] w fun r w' => r = .returned (.tuple #[.int .i64 0, .int .i64 1]) ∧ Below w.heap.size w w' := by
  go_enter Try.func20, Try.ntmps20
  go_wp2_with fail
  refine (valid_f _ n e hn he0 h).mono ?_
  rintro r1 w1 ⟨rfl, hb1⟩
  go_wp2
  go_ret2
  exact ⟨rfl, by (repeat (first | exact Below.refl _ _ | assumption | refine bchain (by assumption) ?_ | refine balloc ?_ _ | apply Below.drew | apply below_drewN | (refine Below.alloc ?_ (by (try simp) <;> omega) _) | (refine Below.setCell ?_ (by (try simp) <;> omega) _)))⟩
set_option maxHeartbeats 4000000 in
theorem ics_ok (n e : Nat) (h : VG n e) :
    Calls Try.prog 20 #[.agg #[.int .i64 n, .int .u32 e]] w fun r w' => r = .returned (.tuple #[.int .i64 (cntE e (lists n n) : Nat), .int .i64 0]) ∧ Below w.heap.size w w' := by
  have he : e < 4294967296 := by have := h.2.2.2; have := eMax_le n; simp at *; omega
  have hn5 : n ≤ 5 := by have := h.2.1; omega
  refine (callsIn_wide (n := 5)).1 ?_
  refine callsIn_of_wp_marks Try.func20 rfl trivial ?_ rfl
  simp only [Try.ntmps20, List.size_toArray, List.length_cons, List.length_nil, Nat.reduceAdd, Nat.reduceSub, Array.replicate_succ, Array.replicate_zero, List.push_toArray, List.append_toArray, List.nil_append, List.cons_append]
  gi_wp2_with (first
    | (refine ⟨trivial, ?_⟩; gi_at_call 38; refine (callsIn_wide.2 (valid_t _ n e h)).mono ?_; rintro r1 w1 ⟨rfl, hb1⟩; obtain ⟨hc1, hz1⟩ := bkeep hb1 w.heap.size (by (try simp) <;> omega))
    | (refine ⟨trivial, ?_⟩; gi_at_call 60; refine (callsIn_wide.2 (oo_any _ n)).mono ?_; rintro r2 w2 ⟨B, rfl, hM⟩))
  have g0 : w1.cell? ⟨w.heap.size, 0, none⟩ = some (.int .i64 n) := by rw [hc1, cNew _ _ _ _ _ rfl]; rfl
  have g1 : w1.cell? ⟨w.heap.size, 1, none⟩ = some (.int .u32 e) := by rw [hc1, cNew _ _ _ _ _ rfl]; rfl
  have hB1 : Below w.heap.size w w1 := by (repeat (first | exact Below.refl _ _ | assumption | refine bchain (by assumption) ?_ | refine balloc ?_ _ | apply Below.drew | apply below_drewN | (refine Below.alloc ?_ (by (try simp) <;> omega) _) | (refine Below.setCell ?_ (by (try simp) <;> omega) _)))
  have hP : CS (w1.alloc (.cells #[.int .i64 0] 2)) w.heap.size w1.heap.size n e 0 :=
    ⟨⟨hz1, by simp⟩, (cOld _ _ _ _ hz1).trans g0, (cOld _ _ _ _ hz1).trans g1, by rw [cNew _ _ _ _ _ rfl]; rfl, fNew _ _ _ _ _ rfl⟩
  replace hP := hP.under hM.below (by simp)
  have hB2 : Below w.heap.size w w2 := hB1.trans (((Below.refl _ w1).alloc (Nat.le_refl _) _ |>.trans (hM.below.mono (by simp))).mono hB1.size)
  have hge := hM.ge
  have hBlt := hM.lt
  have gn := hM.gn
  have gk := hM.gk
  rw [World.size_alloc] at hge
  obtain ⟨G, hG⟩ : ∃ G, w.heap.size = G := ⟨_, rfl⟩
  obtain ⟨C, hC⟩ : ∃ C, w1.heap.size = C := ⟨_, rfl⟩
  rw [hG, hC] at hP
  rw [hG] at hB2 hz1
  rw [hC] at hge hz1
  rw [hG, hC]
  clear hM hc1 hb1 g0 g1 hB1
  refine wpIn_range_sees rfl (by omega) (gf := 90) (lb := #[.pointer (some ⟨B, 0, none⟩), .pointer (some ⟨B + 1, 0, none⟩)]) rfl trivial (enters_of Try.func90 (by kernel_rfl) rfl)
    (lists_sees n n hn5 hn5 4 B (B + 1) w2 (by omega) hBlt gn gk) (Below.refl _ _) rfl See.below See.cellular
    (fun pre W => CS W G C n e (cntE e pre : Nat) ∧ Below G w W)
    (fun _ _ _ => False)
    (fun s A A' hs hb => ⟨hs.1.under hb (by omega), hs.2.trans (hb.mono (by omega))⟩)
    (fun _ _ _ _ hs _ => hs)
    ⟨hP, hB2⟩
    (fun v a' _ => a' = { tmps := #[.agg #[.int .i64 n, .int .u32 e], .pointer (some ⟨G, 0, none⟩), .int .i64 0, .int .i64 0, .pointer (some ⟨C, 0, none⟩), v, .agg #[.int .i64 n, .int .u32 e], .bool true, .bool false, .pointer (some ⟨G, 0, none⟩), .int .i64 n,
      .func (.func 90) #[] #[.pointer (some ⟨B, 0, none⟩), .pointer (some ⟨B + 1, 0, none⟩)], v, undef, undef, undef, undef, undef, undef, undef, undef], defers := [] })
    (fun _ _ _ _ _ _ h _ _ => h) ?assign ?body ?done ?stop
  case assign =>
    intro l v W K hK
    gi_wp2
    exact hK _ _ (Below.refl _ _) rfl
  case body =>
    clear hP gn gk
    rintro l pre x rest v a' W hl _ hL ⟨hP, hB⟩ hS rfl
    have hok := lists_ok hn5 hn5 (x := x) (by rw [hL]; simp)
    have hOn := Lib.hid (ionL_any W.drew v x n n e hS hn5 he hok)
    have hkl : cntE e pre < 1000 := by
      have h1 := cntE_le e pre
      have h2 := lists_len n hn5 n hn5
      rw [hL] at h2
      simp at h2
      omega
    have hq := fun W => eqGr W n n (onL e x) e
    obtain ⟨q0, q1, q2, q3, q4⟩ := id hP
    obtain ⟨z, hz⟩ : ∃ z : Nat, cntE e pre = z := ⟨_, rfl⟩
    have hfin : ∀ (w3 : World) (ok : Bool), Below W.drew.heap.size W.drew w3 → (onL e x == e) = ok → Upper w2.heap.size W (if ok then w3.setCell ⟨C, 0, none⟩ (.int .i64 ((z : Int) + 1)) else w3) ∧
        (CS (if ok then w3.setCell ⟨C, 0, none⟩ (.int .i64 ((z : Int) + 1)) else w3) G C n e (cntE e (pre ++ [x]) : Nat) ∧ Below G w (if ok then w3.setCell ⟨C, 0, none⟩ (.int .i64 ((z : Int) + 1)) else w3)) := fun w3 ok hb hok2 => by
      have hb' : Below W.heap.size W w3 := (Below.refl _ W).drew.trans hb
      have hB3 : Below G w w3 := hB.trans (hb'.mono (by omega))
      have hP3 := hP.under hb' (by omega)
      cases ok
      · rw [cntE_f (by simpa using hok2)]
        exact ⟨Upper.of_below hb', hP3, hB3⟩
      · rw [cntE_t (by simpa using hok2), hz]
        exact ⟨(Upper.of_below hb').trans (Upper.setCell _ _ _ (by show C < _; omega)), hP3.set _, hB3.setCell (p := ⟨C, 0, none⟩) (by show G ≤ C; omega) _⟩
    rw [hz] at hP q3 hkl
    have hbe : ((n : Int) == n && (onL e x : Int) == (e : Int)) = (onL e x == e) := by
      rw [Bool.eq_iff_iff]; simp; omega
    rw [hbe] at hq
    obtain ⟨ok, hok2⟩ : ∃ ok, (onL e x == e) = ok := ⟨_, rfl⟩
    rw [hok2] at hq
    have hfin := Lib.hid (fun w3 hb => hfin w3 ok hb hok2)
    obtain ⟨y, hy⟩ : ∃ y : Nat, onL e x = y := ⟨_, rfl⟩
    rw [hy] at hOn hq
    clear hP hz hL hS hok hbe hok2 hy
    have qC : C < W.heap.size := q0.2
    have qG : G < W.heap.size := by omega
    clear q0
    cases ok
    all_goals
      gi_wp2
      gi_region_with (refine ⟨trivial, ?_⟩; gi_at_call 52; refine (CallsIn.inRound l (callsIn_wide.2 hOn.out)).mono ?_; rintro r3 w3 ⟨rfl, hb3⟩; obtain ⟨hc3, hz3⟩ := bkeep hb3 C qC; have hf3 := bkeepz hb3 C qC; obtain ⟨hc4, hz4⟩ := bkeep hb3 G qG)
      all_goals gi_wp2
      all_goals exact hfin.out _ hb3
  case done =>
    rintro D W hD ⟨hP, hB⟩ hK
    obtain ⟨q0, q1, q2, q3, q4⟩ := id hP
    obtain ⟨y, hy⟩ : ∃ y : Nat, cntE e (lists n n) = y := ⟨_, rfl⟩
    rw [hy] at q3
    replace hy := Lib.hid hy
    clear hP
    gi_wp2
    refine ⟨by simp, .inl ⟨_, _, rfl, run_takeDeferred hK, ?_⟩⟩
    refine ⟨_, results_tmp2 rfl _ _ _, by rw [hy.out]; rfl, ?_⟩
    rw [hG]
    exact hB.trans (below_putObj _ _ _ (by omega))
  case stop =>
    rintro D c pre W _ h _
    exact h.elim

end
end Go.Proofs.Ytoiepgdjknpjiaa
