/-
  THE LEAST FLAG THAT IS ALIKE: the program's contract.
-/
import Derived.Test.YtiedombphcdpbaaDoorKTurns
namespace Go.Proofs.YtiedombphcdpbaaDoor
open Go.RowKit Go.Shelf
set_option maxRecDepth 100000
attribute [local go_sem] Oper.semAt_some

/-- the edges of the least flag that is alike -/
def leastK (n k e : Nat) : Nat := minE e (turns n k)
/-- the boxes of a walk for the least flag: the result's and the least one's -/
structure PK (W : World) (G : Nat) (k n acc : Int) : Prop where
  r : FC W (G + 1) 0 0 0
  p : FC W (G + 2) k n acc
  fr : ∀ i, W.frozen? ⟨G + 1, i, none⟩ = false
  fp : ∀ i, W.frozen? ⟨G + 2, i, none⟩ = false
theorem PK.block {W W' : World} {G : Nat} {k n acc : Int} (h : PK W G k n acc) (hz : W.heap.size ≤ W'.heap.size) (h1 : W'.heap[G + 1]? = W.heap[G + 1]?) (h2 : W'.heap[G + 2]? = W.heap[G + 2]?) : PK W' G k n acc :=
  ⟨h.r.block hz h1, h.p.block hz h2, fun i => (World.frozen?_of_block (a := ⟨G + 1, i, none⟩) h1).trans (h.fr i), fun i => (World.frozen?_of_block (a := ⟨G + 2, i, none⟩) h2).trans (h.fp i)⟩
theorem PK.under {W W' : World} {G B : Nat} {k n acc : Int} (h : PK W G k n acc) (hb : Below B W W') (hB : G + 2 < B) : PK W' G k n acc := h.block hb.size (hb.block _ (by omega)) (hb.block _ hB)
theorem PK.set {W : World} {G : Nat} {k n acc : Int} (h : PK W G k n acc) (x : Int) : PK (W.setCell ⟨G + 2, 2, none⟩ (.int .u32 x)) G k n x where
  r := h.r.other _ (by show G + 2 ≠ G + 1; omega)
  p := ⟨by have := h.p.lt; simpa using this, (World.cell?_setCell_other _ _ _ _ (by simp)).trans h.p.c0, (World.cell?_setCell_other _ _ _ _ (by simp)).trans h.p.c1, World.cell?_setCell_same _ _ _ h.p.c2⟩
  fr := fun i => by rw [World.frozen?_setCell]; exact h.fr i
  fp := fun i => by rw [World.frozen?_setCell]; exact h.fp i
theorem PK.begin (w : World) (k n e : Int) (c : Int) (l acc : Int) (t : TypeId) : PK (((w.alloc (.cells #[.int .i64 k, .int .i64 n, .int .u32 e] t)).alloc (.cells #[.int .i64 0, .int .i64 0, .int .u32 0] t)).alloc (.cells #[.int .i64 c, .int .i64 l, .int .u32 acc] t)) w.heap.size c l acc := by
  have s1 : ∀ (W : World) (o : Obj), (W.alloc o).heap.size = W.heap.size + 1 := fun W o => by simp
  have hr := (FC.made (w.alloc (.cells #[.int .i64 k, .int .i64 n, .int .u32 e] t)) 0 0 0 t).below ((Below.refl _ _).alloc (Nat.le_refl _) (.cells #[.int .i64 c, .int .i64 l, .int .u32 acc] t))
  have hp := FC.made ((w.alloc (.cells #[.int .i64 k, .int .i64 n, .int .u32 e] t)).alloc (.cells #[.int .i64 0, .int .i64 0, .int .u32 0] t)) c l acc t
  rw [s1] at hr
  rw [s1, s1] at hp
  refine ⟨hr, hp, fun i => ?_, fun i => ?_⟩
  · rw [fOld _ _ _ _ (by rw [s1, s1]; omega), fNew _ _ _ _ _ (by rw [s1])]
  · rw [fNew _ _ _ _ _ (by rw [s1, s1])]
theorem FC.cellular (B : Nat) (k n e : Int) : Cellular (fun W => FC W B k n e) := fun A l o o' h hl ho =>
  ⟨by have := h.lt; simpa [World.putObj] using this, cellular_cell _ _ A l o o' h.c0 hl ho, cellular_cell _ _ A l o o' h.c1 hl ho, cellular_cell _ _ A l o o' h.c2 hl ho⟩
section
variable (w : World)
set_option maxHeartbeats 4000000 in
theorem leastK_any (k n e : Nat) (h : VK k n e) :
    Calls Tryd.prog 78 #[.agg #[.int .i64 k, .int .i64 n, .int .u32 e]] w fun r w' => r = .returned (.agg #[.int .i64 k, .int .i64 n, .int .u32 (leastK n k e : Nat)]) ∧ Below w.heap.size w w' := by
  obtain ⟨he, hn5, hk3, hkn⟩ := h.nums
  refine (callsIn_wide (n := 5)).1 ?_
  refine callsIn_of_wp_marks Tryd.func78 rfl trivial ?_ rfl
  simp only [Tryd.ntmps78, List.size_toArray, List.length_cons, List.length_nil, Nat.reduceAdd, Nat.reduceSub, Array.replicate_succ, Array.replicate_zero, List.push_toArray, List.append_toArray, List.nil_append, List.cons_append]
  gi_wp2_with (refine ⟨trivial, ?_⟩; gi_at_call 114; refine (callsIn_wide.2 (to_any _ k n e)).mono ?_; rintro r1 w1 ⟨B, rfl, hBge, hFB, hb1⟩)
  have hP := (PK.begin w k n e k n e 92).under hb1 (by simp)
  have hB1 : Below w.heap.size w w1 := by (repeat (first | exact Below.refl _ _ | assumption | refine bchain (by assumption) ?_ | refine balloc ?_ _ | apply Below.drew | apply below_drewN | (refine Below.alloc ?_ (by (try simp) <;> omega) _) | (refine Below.setCell ?_ (by (try simp) <;> omega) _)))
  have e3 : (((w.alloc (.cells #[.int .i64 (k : Int), .int .i64 (n : Int), .int .u32 (e : Int)] 92)).alloc (.cells #[.int .i64 0, .int .i64 0, .int .u32 0] 92)).alloc (.cells #[.int .i64 (k : Int), .int .i64 (n : Int), .int .u32 (e : Int)] 92)).heap.size = w.heap.size + 3 := by simp
  rw [e3] at hBge
  clear e3 hb1
  obtain ⟨G, hG⟩ : ∃ G, w.heap.size = G := ⟨_, rfl⟩
  rw [hG] at hP hB1 hBge ⊢
  have hBl := hFB.lt
  refine wpIn_range_seesI rfl (by omega) (gf := 135) (lb := #[.pointer (some ⟨B, 0, none⟩)]) rfl trivial (enters_of Tryd.func135 (by kernel_rfl) rfl)
    (turns_sees k n e h 4 B w1) (Below.refl _ _) rfl (SeeK.below k n e) (SeeK.cellular k n e)
    (fun pre W => PK W G k n (minE e pre : Nat) ∧ FC W B k n e ∧ Below G w W)
    (fun _ _ _ => False)
    (fun s A hs => hs.2.1) (fun _ _ _ h => h.elim)
    (fun s A A' hs hb => ⟨hs.1.under hb (by omega), hs.2.1.under hb hBl, hs.2.2.trans (hb.mono (by omega))⟩)
    (fun _ _ _ _ hs _ => hs)
    ⟨hP, hFB, hB1⟩
    (fun v a' W => ∃ Gb y : Nat, v = .agg #[.int .i64 k, .int .i64 n, .int .u32 y] ∧ FC W Gb k n y ∧ a' = { tmps := #[.agg #[.int .i64 k, .int .i64 n, .int .u32 e], .pointer (some ⟨G, 0, none⟩), .pointer (some ⟨G + 1, 0, none⟩), .pointer (some ⟨G + 1 + 1, 0, none⟩), .pointer (some ⟨Gb, 0, none⟩), .agg #[.int .i64 k, .int .i64 n, .int .u32 e], .agg #[.int .i64 k, .int .i64 n, .int .u32 e],
      .func (.func 135) #[] #[.pointer (some ⟨B, 0, none⟩)], v, undef, undef, undef, undef, undef, undef, undef, undef, undef, undef], defers := [] })
    (fun v a' A l o o' h hl ho => by obtain ⟨Gb, y, h1, h2, h3⟩ := h; exact ⟨Gb, y, h1, FC.cellular Gb k n y A l o o' h2 hl ho, h3⟩) ?assign ?body ?done ?stop
  case assign =>
    intro l x v W K hv hK
    obtain rfl : v = _ := hv
    gi_wp2
    exact hK _ _ ((Below.refl _ _).alloc (Nat.le_refl _) _) ⟨W.heap.size, onL e x, rfl, FC.made W k n _ _, rfl⟩
  case body =>
    clear hP
    rintro l pre x rest v a' W hl _ hL ⟨hP, hFB, hB⟩ hS ⟨Gb, y, hv, hFG, rfl⟩
    have hy : onL e x = y := by
      have hS' : v = _ := hS
      rw [hv] at hS'
      simp at hS'
      omega
    have hnx := minE_snoc e pre x
    rw [hy] at hnx
    obtain ⟨z, hz⟩ : ∃ z : Nat, minE e pre = z := ⟨_, rfl⟩
    rw [hz] at hP hnx
    have hfin : ∀ f : Int, f = (min z y : Nat) → Upper w1.heap.size W (W.setCell ⟨G + 1 + 1, 2, none⟩ (.int .u32 f)) ∧ (PK (W.setCell ⟨G + 1 + 1, 2, none⟩ (.int .u32 f)) G k n (minE e (pre ++ [x]) : Nat) ∧ FC (W.setCell ⟨G + 1 + 1, 2, none⟩ (.int .u32 f)) B k n e ∧ Below G w (W.setCell ⟨G + 1 + 1, 2, none⟩ (.int .u32 f))) := fun f hf => by
      refine ⟨Upper.setCell _ _ _ (by show G + 2 < _; omega), ?_, hFB.other _ (by show G + 2 ≠ B; omega), hB.setCell (p := ⟨G + 2, 2, none⟩) (by show G ≤ G + 2; omega) _⟩
      rw [hnx, ← hf]
      exact hP.set f
    replace hfin := Lib.hid hfin
    obtain ⟨p0, p1, p2, p3⟩ := hP.p
    have pf := hP.fp 2
    obtain ⟨g0, g1, g2, g3⟩ := hFG
    clear hP hnx hS hv hFB hL hB1 hy hz
    gi_wp2
    all_goals exact hfin.out _ (by rw [Nat.min_def]; split <;> omega)
  case done =>
    rintro D W hD ⟨hP, hFB, hB⟩ hK
    obtain ⟨y, hy⟩ : ∃ y : Nat, leastK n k e = y := ⟨_, rfl⟩
    rw [show minE e (turns n k) = y from hy] at hP
    obtain ⟨p0, p1, p2, p3⟩ := hP.p
    have pf0 := hP.fr 0
    have pf1 := hP.fr 1
    have pf2 := hP.fr 2
    obtain ⟨r0, r1, r2, r3⟩ := hP.r
    have hr := hP.r.put k n y
    replace hy := Lib.hid hy
    clear hP hFB
    gi_wp2
    have hK' := (KeepsOthers.setCell ((W.setCell ⟨G + 1, 0, none⟩ (.int .i64 k)).setCell ⟨G + 1, 1, none⟩ (.int .i64 n)) ⟨G + 1, 2, none⟩ (.int .u32 y)).same D _ ((KeepsOthers.setCell (W.setCell ⟨G + 1, 0, none⟩ (.int .i64 k)) ⟨G + 1, 1, none⟩ (.int .i64 n)).same D _ ((KeepsOthers.setCell W ⟨G + 1, 0, none⟩ (.int .i64 k)).same D _ hK rfl) rfl) rfl
    have hB3 := ((hB.setCell (p := ⟨G + 1, 0, none⟩) (by show G ≤ G + 1; omega) (.int .i64 k)).setCell (p := ⟨G + 1, 1, none⟩) (by show G ≤ G + 1; omega) (.int .i64 n)).setCell (p := ⟨G + 1, 2, none⟩) (by show G ≤ G + 1; omega) (.int .u32 y)
    obtain ⟨W3, hW3⟩ : ∃ W3, W3 = ((W.setCell ⟨G + 1, 0, none⟩ (.int .i64 k)).setCell ⟨G + 1, 1, none⟩ (.int .i64 n)).setCell ⟨G + 1, 2, none⟩ (.int .u32 y) := ⟨_, rfl⟩
    rw [← hW3] at hK' hB3 hr ⊢
    clear hW3 hK hB p0 p1 p2 p3 r0 r1 r2 r3 pf0 pf1 pf2
    refine ⟨by simp, .inl ⟨_, _, rfl, run_takeDeferred hK', ?_⟩⟩
    obtain ⟨_, c0, c1, c2⟩ := FC.cellular (G + 1) k n y W3 D _ (.deferred none) hr hK' rfl
    refine ⟨.agg #[.int .i64 k, .int .i64 n, .int .u32 y], by simp [results, Tryd.results78, go_sem, c0, c1, c2], by rw [hy.out], ?_⟩
    rw [hG]
    exact hB3.trans (below_putObj _ _ _ (by omega))
  case stop =>
    rintro D c pre W _ h _
    exact h.elim
end
end Go.Proofs.YtiedombphcdpbaaDoor
