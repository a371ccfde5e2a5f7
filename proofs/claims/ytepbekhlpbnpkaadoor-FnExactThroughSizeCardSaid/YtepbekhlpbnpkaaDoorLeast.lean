/-
  THE LEAST GRAPH THAT IS ALIKE: the program's contract.
-/
import Derived.Test.YtepbekhlpbnpkaaDoorIter
import Derived.Test.YtepbekhlpbnpkaaDoorOn
namespace Go.Proofs.YtepbekhlpbnpkaaDoor
open Go.RowKit Go.Shelf
set_option maxRecDepth 100000
attribute [local go_sem] Oper.semAt_some

/-- the two boxes of an iterator over lists -/
structure LoMade (w w' : World) (B : Nat) (n k : Int) : Prop where
  below : Below w.heap.size w w'
  ge : w.heap.size ≤ B
  lt : B + 1 < w'.heap.size
  gn : w'.cell? ⟨B, 0, none⟩ = some (.int .i64 n)
  gk : w'.cell? ⟨B + 1, 0, none⟩ = some (.int .i64 k)
section
variable (w : World)
theorem lo_any (n k : Int) :
    Calls Tryd.prog 130 #[.int .i64 n, .int .i64 k] w fun r w' => ∃ B, r = .returned (.func (.func 150) #[] #[.pointer (some ⟨B, 0, none⟩), .pointer (some ⟨B + 1, 0, none⟩)]) ∧ LoMade w w' B n k := by
  have s1 : ∀ (W : World) (o : Obj), (W.alloc o).heap.size = W.heap.size + 1 := fun W o => by simp
  replace s1 := Lib.hid s1
  go_enter Tryd.func130, Tryd.ntmps130
  go_wp2
  go_ret
  refine ⟨w.heap.size, rfl, by (repeat (first | exact Below.refl _ _ | assumption | refine bchain (by assumption) ?_ | refine balloc ?_ _ | apply Below.drew | apply below_drewN | (refine Below.alloc ?_ (by (try simp) <;> omega) _) | (refine Below.setCell ?_ (by (try simp) <;> omega) _))), Nat.le_refl _, by rw [s1.out, s1.out]; omega, ?_, ?_⟩
  · rw [cOld _ _ _ _ (by rw [s1.out]; omega), cNew _ _ _ _ _ rfl]; rfl
  · rw [cNew _ _ _ _ _ (by rw [s1.out])]; rfl
theorem oo_any (n : Int) :
    Calls Tryd.prog 89 #[.int .i64 n] w fun r w' => ∃ B, r = .returned (.func (.func 150) #[] #[.pointer (some ⟨B, 0, none⟩), .pointer (some ⟨B + 1, 0, none⟩)]) ∧ LoMade w w' B n n := by
  go_enter Tryd.func89, Tryd.ntmps89
  go_wp2_with (go_at_call 130; refine (lo_any _ n n).mono ?_; rintro r1 w1 ⟨B, rfl, hM⟩)
  go_ret
  exact ⟨B, rfl, hM⟩

/-- the least edges after some orders -/
def minE (e : Nat) (pre : List (List Nat)) : Nat := pre.foldl (fun b x => min b (onL e x)) e
theorem minE_snoc (e : Nat) (pre : List (List Nat)) (x : List Nat) : minE e (pre ++ [x]) = min (minE e pre) (onL e x) := by simp [minE]
theorem minE_le (e : Nat) (pre : List (List Nat)) : minE e pre ≤ e := by
  have : ∀ (l : List (List Nat)) (a : Nat), l.foldl (fun b x => min b (onL e x)) a ≤ a := by
    intro l
    induction l with
    | nil => intro a; exact Nat.le_refl _
    | cons x l ih => intro a; exact Nat.le_trans (ih _) (Nat.min_le_left _ _)
  exact this pre e
def leastE (n e : Nat) : Nat := minE e (lists n n)
theorem onL_lt (e : Nat) (x : List Nat) (hx : x.length ≤ 5) : onL e x < 2 ^ 10 := onE_lt e _ _ hx

/-- the graph on a list -/
theorem ionL_any (v : Value) (x : List Nat) (n k e : Nat) (h : See x v w) (hn5 : n ≤ 5) (he : e < 4294967296) (hx : okList n k x = true) :
    Calls Tryd.prog 46 #[.agg #[.int .i64 n, .int .u32 e], v] w fun r w' => r = .returned (.agg #[.int .i64 k, .int .u32 (onL e x : Nat)]) ∧ Below w.heap.size w w' := by
  have := ion_any w v (zl x) n e h hn5 he (diff_zl hx)
  rw [zl_length, ok_length hx] at this
  unfold onL
  rw [ok_length hx]
  exact this

theorem P3.begin (w : World) (n e l acc : Int) (t : TypeId) : P3 (((w.alloc (.cells #[.int .i64 n, .int .u32 e] t)).alloc (.cells #[.int .i64 0, .int .u32 0] t)).alloc (.cells #[.int .i64 l, .int .u32 acc] t)) w.heap.size n e l acc := by
  have s1 : ∀ (W : World) (o : Obj), (W.alloc o).heap.size = W.heap.size + 1 := fun W o => by simp
  constructor
  · rw [s1, s1, s1]; omega
  · rw [cOld _ _ _ _ (by rw [s1, s1]; omega), cOld _ _ _ _ (by rw [s1]; omega), cNew _ _ _ _ _ rfl]; rfl
  · rw [cOld _ _ _ _ (by rw [s1, s1]; omega), cOld _ _ _ _ (by rw [s1]; omega), cNew _ _ _ _ _ rfl]; rfl
  · rw [cOld _ _ _ _ (by rw [s1, s1]; omega), cNew _ _ _ _ _ (by rw [s1])]; rfl
  · rw [cOld _ _ _ _ (by rw [s1, s1]; omega), cNew _ _ _ _ _ (by rw [s1])]; rfl
  · rw [cNew _ _ _ _ _ (by rw [s1, s1])]; rfl
  · rw [cNew _ _ _ _ _ (by rw [s1, s1])]; rfl
  · rw [fOld _ _ _ _ (by rw [s1, s1]; omega), fNew _ _ _ _ _ (by rw [s1])]
  · rw [fOld _ _ _ _ (by rw [s1, s1]; omega), fNew _ _ _ _ _ (by rw [s1])]
  · rw [fNew _ _ _ _ _ (by rw [s1, s1])]
theorem P3.block {wr w' : World} {G : Nat} {n e l acc : Int} (h : P3 wr G n e l acc) (hz : wr.heap.size ≤ w'.heap.size) (h0 : w'.heap[G]? = wr.heap[G]?) (h1 : w'.heap[G + 1]? = wr.heap[G + 1]?) (h2 : w'.heap[G + 2]? = wr.heap[G + 2]?) : P3 w' G n e l acc where
  size := Nat.lt_of_lt_of_le h.size hz
  g0 := (World.cell?_of_block (a := ⟨G, 0, none⟩) h0).trans h.g0
  g1 := (World.cell?_of_block (a := ⟨G, 1, none⟩) h0).trans h.g1
  r0 := (World.cell?_of_block (a := ⟨G + 1, 0, none⟩) h1).trans h.r0
  r1 := (World.cell?_of_block (a := ⟨G + 1, 1, none⟩) h1).trans h.r1
  p0 := (World.cell?_of_block (a := ⟨G + 2, 0, none⟩) h2).trans h.p0
  p1 := (World.cell?_of_block (a := ⟨G + 2, 1, none⟩) h2).trans h.p1
  fr0 := (World.frozen?_of_block (a := ⟨G + 1, 0, none⟩) h1).trans h.fr0
  fr1 := (World.frozen?_of_block (a := ⟨G + 1, 1, none⟩) h1).trans h.fr1
  fp1 := (World.frozen?_of_block (a := ⟨G + 2, 1, none⟩) h2).trans h.fp1
theorem P3.under {wr w' : World} {G B : Nat} {n e l acc : Int} (h : P3 wr G n e l acc) (hb : Below B wr w') (hB : G + 2 < B) : P3 w' G n e l acc :=
  h.block hb.size (hb.block _ (by omega)) (hb.block _ (by omega)) (hb.block _ hB)

set_option maxHeartbeats 4000000 in
theorem least_any (n e : Nat) (h : VG n e) :
    Calls Tryd.prog 44 #[.agg #[.int .i64 n, .int .u32 e]] w fun r w' => r = .returned (.agg #[.int .i64 n, .int .u32 (leastE n e : Nat)]) ∧ Below w.heap.size w w' := by
  have he : e < 4294967296 := by have := h.2.2.2; have := eMax_le n; simp at *; omega
  have hn5 : n ≤ 5 := by have := h.2.1; omega
  refine (callsIn_wide (n := 5)).1 ?_
  refine callsIn_of_wp_marks Tryd.func44 rfl trivial ?_ rfl
  simp only [Tryd.ntmps44, List.size_toArray, List.length_cons, List.length_nil, Nat.reduceAdd, Nat.reduceSub, Array.replicate_succ, Array.replicate_zero, List.push_toArray, List.append_toArray, List.nil_append, List.cons_append]
  gi_wp2_with (refine ⟨trivial, ?_⟩; gi_at_call 89; refine (callsIn_wide.2 (oo_any _ n)).mono ?_; rintro r1 w1 ⟨B, rfl, hM⟩)
  have hP := (P3.begin w n e n e 27).below hM.below
  have hB1 : Below w.heap.size w w1 := by have hb := hM.below; (repeat (first | exact Below.refl _ _ | assumption | refine bchain (by assumption) ?_ | refine balloc ?_ _ | apply Below.drew | apply below_drewN | (refine Below.alloc ?_ (by (try simp) <;> omega) _) | (refine Below.setCell ?_ (by (try simp) <;> omega) _)))
  have hge := hM.ge
  have e3 : (((w.alloc (.cells #[.int .i64 (n : Int), .int .u32 (e : Int)] 27)).alloc (.cells #[.int .i64 0, .int .u32 0] 27)).alloc (.cells #[.int .i64 (n : Int), .int .u32 (e : Int)] 27)).heap.size = w.heap.size + 3 := by simp
  rw [e3] at hge
  have hBlt := hM.lt
  have gn := hM.gn
  have gk := hM.gk
  clear hM e3
  obtain ⟨G, hG⟩ : ∃ G, w.heap.size = G := ⟨_, rfl⟩
  rw [hG] at hP hB1 hge ⊢
  refine wpIn_range_sees rfl (by omega) (gf := 150) (lb := #[.pointer (some ⟨B, 0, none⟩), .pointer (some ⟨B + 1, 0, none⟩)]) rfl trivial (enters_of Tryd.func150 (by kernel_rfl) rfl)
    (lists_sees n n hn5 hn5 4 B (B + 1) w1 (by omega) hBlt gn gk) (Below.refl _ _) rfl See.below See.cellular
    (fun pre W => P3 W G n e n (minE e pre : Nat) ∧ Below G w W)
    (fun _ _ _ => False)
    (fun s A A' hs hb => ⟨hs.1.under hb (by omega), hs.2.trans (hb.mono (by omega))⟩)
    (fun _ _ _ _ hs _ => hs)
    ⟨hP, hB1⟩
    (fun v a' _ => a' = { tmps := #[.agg #[.int .i64 n, .int .u32 e], .pointer (some ⟨G, 0, none⟩), .pointer (some ⟨G + 1, 0, none⟩), .pointer (some ⟨G + 1 + 1, 0, none⟩), v, .agg #[.int .i64 n, .int .u32 e], .pointer (some ⟨G, 0, none⟩), .int .i64 n,
      .func (.func 150) #[] #[.pointer (some ⟨B, 0, none⟩), .pointer (some ⟨B + 1, 0, none⟩)], v, undef, undef, undef, undef, undef, undef, undef, undef, undef], defers := [] })
    (fun _ _ _ _ _ _ h _ _ => h) ?assign ?body ?done ?stop
  case assign =>
    intro l v W K hK
    gi_wp2
    exact hK _ _ (Below.refl _ _) rfl
  case body =>
    clear hP gn gk
    rintro l pre x rest v a' W hl _ hL ⟨hP, hB⟩ hS rfl
    have hok := lists_ok hn5 hn5 (x := x) (by rw [hL]; simp)
    have hOn := Lib.hid (ionL_any W.drew v x n n e hS hn5 he hok)
    have hlt := onL_lt e x (by rw [ok_length hok]; exact hn5)
    have hle := minE_le e pre
    have hnx := minE_snoc e pre x
    obtain ⟨q0, q1, q2, q3, q4, q5, q6, q7, q8, q9⟩ := id hP
    obtain ⟨y, hy⟩ : ∃ y : Nat, onL e x = y := ⟨_, rfl⟩
    rw [hy] at hOn hnx hlt
    obtain ⟨z, hz⟩ : ∃ z : Nat, minE e pre = z := ⟨_, rfl⟩
    rw [hz] at hP q6 hnx hle
    have hfin : ∀ w3, Below W.drew.heap.size W.drew w3 → Upper w1.heap.size W (w3.setCell ⟨G + 1 + 1, 1, none⟩ (.int .u32 (if y < z then (y : Int) else z))) ∧
        (P3 (w3.setCell ⟨G + 1 + 1, 1, none⟩ (.int .u32 (if y < z then (y : Int) else z))) G n e n (minE e (pre ++ [x]) : Nat) ∧ Below G w (w3.setCell ⟨G + 1 + 1, 1, none⟩ (.int .u32 (if y < z then (y : Int) else z)))) := fun w3 hb => by
      have hb' : Below W.heap.size W w3 := (Below.refl _ W).drew.trans hb
      refine ⟨(Upper.of_below hb').trans (Upper.setCell _ _ _ (by show G + 2 < _; omega)), ?_, (hB.trans (hb'.mono (by omega))).setCell (p := ⟨G + 2, 1, none⟩) (by show G ≤ G + 2; omega) _⟩
      have e1 : ((minE e (pre ++ [x]) : Nat) : Int) = if y < z then (y : Int) else z := by rw [hnx, Nat.min_def]; split <;> split <;> omega
      rw [e1]
      exact (hP.below hb').set _
    replace hfin := Lib.hid hfin
    clear hP hnx
    clear hy hz hL hS hok
    have hfd : ∀ W : World, (Instr.field 27 (.agg #[.int .i64 (n : Int), .int .u32 (y : Int)]) 1).run Tryd.prog W = .ok (.int .u32 (y : Int)) W := fun _ => by kernel_rfl
    gi_wp2
    gi_region_with (refine ⟨trivial, ?_⟩; gi_at_call 46; refine (CallsIn.inRound l (callsIn_wide.2 hOn.out)).mono ?_; rintro r3 w3 ⟨rfl, hb3⟩; obtain ⟨hc3, hz3⟩ := bkeep hb3 (G + 2) q0; have hf3 := bkeepz hb3 (G + 2) q0)
    all_goals exact hfin.out _ hb3
  case done =>
    rintro D W hD ⟨hP, hB⟩ hK
    obtain ⟨q0, q1, q2, q3, q4, q5, q6, q7, q8, q9⟩ := id hP
    obtain ⟨y, hy⟩ : ∃ y : Nat, leastE n e = y := ⟨_, rfl⟩
    rw [show minE e (lists n n) = y from hy] at q6
    replace hy := Lib.hid hy
    clear hP
    gi_wp2
    have hK' := (KeepsOthers.setCell (W.setCell ⟨G + 1, 0, none⟩ (.int .i64 n)) ⟨G + 1, 1, none⟩ (.int .u32 y)).same D _ ((KeepsOthers.setCell W ⟨G + 1, 0, none⟩ (.int .i64 n)).same D _ hK rfl) rfl
    have h2 := twoCells q3 q4 (.int .i64 n) (.int .u32 y)
    refine ⟨by simp, .inl ⟨_, _, rfl, run_takeDeferred hK', ?_⟩⟩
    have c0 := cell_kept h2.1 (grownBy_putObj' _ D (.deferred none)) (fun r e => by cases e; exact ⟨_, hK', rfl⟩)
    have c1 := cell_kept h2.2 (grownBy_putObj' _ D (.deferred none)) (fun r e => by cases e; exact ⟨_, hK', rfl⟩)
    refine ⟨.agg #[.int .i64 n, .int .u32 y], by simp [results, Tryd.results44, go_sem, c0, c1], by rw [hy.out], ?_⟩
    rw [hG]
    exact ((hB.setCell (p := ⟨G + 1, 0, none⟩) (by show _ ≤ G + 1; omega) _).setCell (p := ⟨G + 1, 1, none⟩) (by show _ ≤ G + 1; omega) _).trans (below_putObj _ _ _ (by omega))
  case stop =>
    rintro D c pre W _ h _
    exact h.elim
end
end Go.Proofs.YtepbekhlpbnpkaaDoor
