/-
  KTurn1, KTurns, KLeast, KSLeast, KFlagOf, KPart, KDiff, KPx, Orb, OrbL, KOwn, KTurnO, KSet, KFa, KSeesT, in one text.
-/
import Derived.Test.YtncbimbbkealmaaGreatDoorKTurn
import Derived.Deep.RegionHeld3
import Derived.Test.YtncbimbbkealmaaGreatDoorKOrder
import Derived.Deep.LoopGhost
import Derived.Test.YtncbimbbkealmaaGreatDoorKSLabd
import Derived.Deep.RegionLaw
import Derived.Test.YtncbimbbkealmaaGreatDoorDiff
import Derived.Test.YtncbimbbkealmaaGreatDoorKSees
import Derived.Test.YtncbimbbkealmaaGreatDoorKVal
import Derived.Maps.OwnIn
import Derived.DeepKeys4
import Derived.Test.YtncbimbbkealmaaGreatDoorSees
/-
  A FLAG WITH ITS UNLABELLED VERTICES IN EVERY ORDER: the walk of the program's iterator around its recursion.
-/
namespace Go.Proofs.YtncbimbbkealmaaGreatDoor
open Go.RowKit Go.Shelf
set_option maxRecDepth 100000

set_option maxHeartbeats 1000000 in
theorem turn1_any (k n e Fb l : Nat) (hkn : k ≤ n) (hn5 : n ≤ 5) (W : World) (hF : FC W Fb k n e) (Q : World → Prop) (hQ : ∀ w', Q w' → FC w' Fb k n e)
    (hcall : ∀ B W3, W.heap.size + 1 ≤ B → Below (W.alloc (.cells #[.func (.yield l) #[] #[]] 63)).heap.size (W.alloc (.cells #[.func (.yield l) #[] #[]] 63)) W3 → LMem W3 B n (List.range k) →
      Calls Tryz.prog 94 #[.int .i64 n, .int .i64 n, .slice (some ⟨B, 0, none⟩) k n, .func (.func 105) #[] #[.pointer (some ⟨W.heap.size, 0, none⟩), .pointer (some ⟨Fb, 0, none⟩)]] W3 fun e w' => ∃ b : Bool, e = .returned (.bool b) ∧ Q w') :
    Calls Tryz.prog 103 #[.func (.yield l) #[] #[], .pointer (some ⟨Fb, 0, none⟩)] W fun e w' => (∃ v, e = .returned v) ∧ Q w' := by
  have f2 : FC (W.alloc (.cells #[.func (.yield l) #[] #[]] 63)) Fb k n e := hF.below ((Below.refl _ W).alloc (Nat.le_refl _) _)
  obtain ⟨q0, q1, q2, q3⟩ := f2
  replace hcall := Lib.hid hcall
  clear hF
  replace hQ := Lib.hid hQ
  go_enter Tryz.func103, Tryz.ntmps103
  go_wp2
  go_region_held3 (fun A => A.cell? ⟨Fb, 0, none⟩ = some (.int .i64 k) ∧ A.cell? ⟨Fb, 1, none⟩ = some (.int .i64 n) ∧ A.cell? ⟨Fb, 2, none⟩ = some (.int .u32 e))
    (first | exact ⟨qf.c0, qf.c1, qf.c2⟩ | exact ⟨old_cell q0 q1 (by (repeat (first | exact Below.refl _ _ | assumption | refine bchain (by assumption) ?_ | refine balloc ?_ _ | apply Below.drew | apply below_drewN | (refine Below.alloc ?_ (by (try simp) <;> omega) _) | (refine Below.setCell ?_ (by (try simp) <;> omega) _)))), old_cell q0 q2 (by (repeat (first | exact Below.refl _ _ | assumption | refine bchain (by assumption) ?_ | refine balloc ?_ _ | apply Below.drew | apply below_drewN | (refine Below.alloc ?_ (by (try simp) <;> omega) _) | (refine Below.setCell ?_ (by (try simp) <;> omega) _)))), old_cell q0 q3 (by (repeat (first | exact Below.refl _ _ | assumption | refine bchain (by assumption) ?_ | refine balloc ?_ _ | apply Below.drew | apply below_drewN | (refine Below.alloc ?_ (by (try simp) <;> omega) _) | (refine Below.setCell ?_ (by (try simp) <;> omega) _))))⟩)
    (first
    | (go_at_call 104; refine (labels_any _ k n e hkn hn5).mono ?_; rintro r3 w3 ⟨B, rfl, hB3, hM3, hb3⟩; replace hM3 := Lib.hid hM3)
    | (go_at_call 94; refine (hcall.out _ _ (by have := hB3; simp at this; omega) (by (repeat (first | exact Below.refl _ _ | assumption | refine bchain (by assumption) ?_ | refine balloc ?_ _ | apply Below.drew | apply below_drewN | (refine Below.alloc ?_ (by (try simp) <;> omega) _) | (refine Below.setCell ?_ (by (try simp) <;> omega) _)))) hM3.out).mono ?_; rintro r4 w4 ⟨b4, rfl, hg4⟩; have qf := hQ.out w4 hg4))
  all_goals go_wp2
  all_goals go_end0
  all_goals exact ⟨⟨_, rfl⟩, hg4⟩
end Go.Proofs.YtncbimbbkealmaaGreatDoor
/-
  A FLAG WITH ITS UNLABELLED VERTICES IN EVERY ORDER: what the program's iterator yields.
-/
namespace Go.Proofs.YtncbimbbkealmaaGreatDoor
open Go.RowKit Go.Shelf
set_option maxRecDepth 100000
attribute [local go_sem] Oper.semAt_some

/-- what the iterator tells of its value -/
def SeeK (k n e : Nat) (x : List Nat) (v : Value) (_ : World) : Prop := v = .agg #[.int .i64 k, .int .i64 n, .int .u32 (onL e x : Nat)]
theorem SeeK.below (k n e : Nat) (x : List Nat) (v : Value) (A A' : World) (h : SeeK k n e x v A) (_ : Below A.heap.size A A') : SeeK k n e x v A' := h
theorem SeeK.cellular (k n e : Nat) (x : List Nat) (v : Value) : Cellular (SeeK k n e x v) := fun _ _ _ _ h _ _ => h
theorem yield_mono {F : Fence} {m : Nat} {P : Program} {l : Nat} {args : Array Value} {W : World} {R R' : Ending → World → Prop} (h : YieldAt F m P l args W R) (hR : ∀ e w, R e w → R' e w) : YieldAt F m P l args W R' := by
  obtain ⟨fn, tmps, assign, body, hy, hr⟩ := h
  exact ⟨fn, tmps, assign, body, hy, hr.mono hR⟩
theorem VK.nums {k n e : Nat} (h : VK k n e) : e < 1024 ∧ n ≤ 5 ∧ k ≤ 3 ∧ k ≤ n := by
  have h1 := h.1.2.2.2
  have h2 := eMax_le n
  have h3 := h.1.2.1
  have h4 := h.2.2.1
  have h5 := h.2.2.2
  simp at h1
  omega

set_option maxHeartbeats 4000000 in
theorem turns_sees (k n e : Nat) (h : VK k n e) (nn Fb : Nat) (w : World) :
    SeqSeesI Fence.wide nn Tryz.prog 103 #[.pointer (some ⟨Fb, 0, none⟩)] (fun A => FC A Fb k n e) (SeeK k n e) (turns n k) w := fun l J Jx W _ hJ _ hJi hJxi hY h0 => by
  obtain ⟨he, hn5, hk3, hkn⟩ := h.nums
  have f1 := hJi _ _ h0
  obtain ⟨Y, hYd⟩ : ∃ Y, Y = W.heap.size := ⟨_, rfl⟩
  obtain ⟨O, hO⟩ : ∃ O, O = Obj.cells #[.func (.yield l) #[] #[]] 63 := ⟨_, rfl⟩
  obtain ⟨J', hJ'd⟩ : ∃ J' : List (List Nat) → World → Prop, J' = fun pre A => J pre A ∧ A.cell? ⟨Y, 0, none⟩ = some (.func (.yield l) #[] #[]) ∧ Y < A.heap.size := ⟨_, rfl⟩
  have hJ' : Under (Y + 1) J' := by
    subst hJ'd
    rintro s A A' ⟨a1, a2, a3⟩ hb
    exact ⟨hJ _ _ _ a1 (hb.mono (by omega)), (hb.cell (p := ⟨Y, 0, none⟩) (by show Y < Y + 1; omega)).trans a2, Nat.lt_of_lt_of_le a3 hb.size⟩
  have hR : RoundsC Y Fb (turns n k) (Y + 1) J' Jx := by
    subst hJ'd
    rintro pre x rest v W1 hL ⟨a1, a2, a3⟩ hs
    have hx := turns_ok hn5 hk3 hkn (x := x) (by rw [hL]; simp)
    refine ((callsIn_wide (n := nn)).1 (tt_any W1 nn l Y Fb k n e x v hs hn5 (by omega) hx (hJi _ _ a1) a3 a2 (fun b W' => if b then J (pre ++ [x]) W' ∧ W'.cell? ⟨Y, 0, none⟩ = some (.func (.yield l) #[] #[]) ∧ Y < W'.heap.size ∧ Upper (Y + 1) W1 W' else Jx (pre ++ [x]) W') ?_)).mono ?_
    · intro m W2 hb2
      have hb3 : Below W.heap.size W1 W2 := hb2.mono (by omega)
      refine anyDepth (yield_mono (hY pre x rest _ W2 hL (hJ _ _ _ a1 hb3) rfl) ?_)
      rintro e' W' (⟨rfl, hj, hu⟩ | ⟨rfl, hx⟩)
      · have hz : Y < W2.heap.size := Nat.lt_of_lt_of_le a3 hb2.size
        have hc : W2.cell? ⟨Y, 0, none⟩ = some (.func (.yield l) #[] #[]) := (hb2.cell (p := ⟨Y, 0, none⟩) a3).trans a2
        exact ⟨true, rfl, hj, (World.cell?_of_block (a := ⟨Y, 0, none⟩) (hu.same Y (by omega) hz)).trans hc, Nat.lt_of_lt_of_le hz hu.size, (Upper.of_below hb2).trans (hu.mono (by omega))⟩
      · exact ⟨false, rfl, hx⟩
    · rintro e' W' ⟨b, rfl, hb⟩
      cases b
      · exact .inr ⟨rfl, hb⟩
      · exact .inl ⟨rfl, ⟨hb.1, hb.2.1, hb.2.2.1⟩, hb.2.2.2⟩
  have hcall := Lib.hid (fun B W3 (hB : Y + 1 ≤ B) (hj : J' [] W3) (hM : LMem W3 B n (List.range k)) => (llc_in n n B (Y + 1) Y Fb hn5 hn5 hB (turns n k) J' Jx hJ' hR (n - k) (List.range k) k [] [] W3 (by simp) (by omega) (by simp [turns]) hj hM).mono (R' := fun e w' => ∃ b : Bool, e = .returned (.bool b) ∧ (J (turns n k) w' ∨ ∃ q, Jx q w')) (by
    subst hJ'd
    rintro e w' (⟨h1, h2, _⟩ | ⟨h1, h2⟩)
    · exact ⟨_, h1, .inl h2.1⟩
    · exact ⟨_, h1, .inr h2⟩))
  have hj0 : J' [] (W.alloc O) := by
    subst hJ'd
    exact ⟨hJ _ _ _ h0 ((Below.refl _ W).alloc (Nat.le_refl _) _), by rw [hYd, hO, World.cell?_alloc_new]; rfl, by simp; omega⟩
  have hjw := fun W3 (hb : Below (W.alloc O).heap.size (W.alloc O) W3) => hJ' [] (W.alloc O) W3 hj0 (hb.mono (by simp; omega))
  refine callsIn_wide.2 (turn1_any k n e Fb l hkn hn5 W f1 (fun w' => J (turns n k) w' ∨ ∃ q, Jx q w') (fun w' hw => hw.elim (hJi _ _) (fun ⟨q, hq⟩ => hJxi q _ hq)) fun B W3 hB hb hM => ?_)
  rw [← hO] at hb
  rw [← hYd] at hB ⊢
  exact hcall.out B W3 hB (hjw W3 hb) hM
end Go.Proofs.YtncbimbbkealmaaGreatDoor
/-
  THE LEAST FLAG THAT IS ALIKE: the program's contract.
-/
namespace Go.Proofs.YtncbimbbkealmaaGreatDoor
open Go.RowKit Go.Shelf
set_option maxRecDepth 100000
attribute [local go_sem] Oper.semAt_some

/-- the edges of the least flag that is alike -/
def leastK (n k e : Nat) : Nat := minE e (turns n k)
/-- the boxes of a walk for the least flag: the result's and the least one's -/
structure PK (W : World) (G : Nat) (k n acc : Int) : Prop where
  r : FC W (G + 1) 0 0 0
  p : FC W (G + 2) k n acc
  fr : ∀ i, W.frozen? ⟨G + 1, i, none⟩ = false
  fp : ∀ i, W.frozen? ⟨G + 2, i, none⟩ = false
theorem PK.block {W W' : World} {G : Nat} {k n acc : Int} (h : PK W G k n acc) (hz : W.heap.size ≤ W'.heap.size) (h1 : W'.heap[G + 1]? = W.heap[G + 1]?) (h2 : W'.heap[G + 2]? = W.heap[G + 2]?) : PK W' G k n acc :=
  ⟨h.r.block hz h1, h.p.block hz h2, fun i => (World.frozen?_of_block (a := ⟨G + 1, i, none⟩) h1).trans (h.fr i), fun i => (World.frozen?_of_block (a := ⟨G + 2, i, none⟩) h2).trans (h.fp i)⟩
theorem PK.under {W W' : World} {G B : Nat} {k n acc : Int} (h : PK W G k n acc) (hb : Below B W W') (hB : G + 2 < B) : PK W' G k n acc := h.block hb.size (hb.block _ (by omega)) (hb.block _ hB)
theorem PK.set {W : World} {G : Nat} {k n acc : Int} (h : PK W G k n acc) (x : Int) : PK (W.setCell ⟨G + 2, 2, none⟩ (.int .u32 x)) G k n x where
  r := h.r.other _ (by show G + 2 ≠ G + 1; omega)
  p := ⟨by have := h.p.lt; simpa using this, (World.cell?_setCell_other _ _ _ _ (by simp)).trans h.p.c0, (World.cell?_setCell_other _ _ _ _ (by simp)).trans h.p.c1, World.cell?_setCell_same _ _ _ h.p.c2⟩
  fr := fun i => by rw [World.frozen?_setCell]; exact h.fr i
  fp := fun i => by rw [World.frozen?_setCell]; exact h.fp i
theorem PK.begin (w : World) (k n e : Int) (c : Int) (l acc : Int) (t : TypeId) : PK (((w.alloc (.cells #[.int .i64 k, .int .i64 n, .int .u32 e] t)).alloc (.cells #[.int .i64 0, .int .i64 0, .int .u32 0] t)).alloc (.cells #[.int .i64 c, .int .i64 l, .int .u32 acc] t)) w.heap.size c l acc := by
  have s1 : ∀ (W : World) (o : Obj), (W.alloc o).heap.size = W.heap.size + 1 := fun W o => by simp
  have hr := (FC.made (w.alloc (.cells #[.int .i64 k, .int .i64 n, .int .u32 e] t)) 0 0 0 t).below ((Below.refl _ _).alloc (Nat.le_refl _) (.cells #[.int .i64 c, .int .i64 l, .int .u32 acc] t))
  have hp := FC.made ((w.alloc (.cells #[.int .i64 k, .int .i64 n, .int .u32 e] t)).alloc (.cells #[.int .i64 0, .int .i64 0, .int .u32 0] t)) c l acc t
  rw [s1] at hr
  rw [s1, s1] at hp
  refine ⟨hr, hp, fun i => ?_, fun i => ?_⟩
  · rw [fOld _ _ _ _ (by rw [s1, s1]; omega), fNew _ _ _ _ _ (by rw [s1])]
  · rw [fNew _ _ _ _ _ (by rw [s1, s1])]
theorem FC.cellular (B : Nat) (k n e : Int) : Cellular (fun W => FC W B k n e) := fun A l o o' h hl ho =>
  ⟨by have := h.lt; simpa [World.putObj] using this, cellular_cell _ _ A l o o' h.c0 hl ho, cellular_cell _ _ A l o o' h.c1 hl ho, cellular_cell _ _ A l o o' h.c2 hl ho⟩
section
variable (w : World)
set_option maxHeartbeats 4000000 in
theorem leastK_any (k n e : Nat) (h : VK k n e) :
    Calls Tryz.prog 67 #[.agg #[.int .i64 k, .int .i64 n, .int .u32 e]] w fun r w' => r = .returned (.agg #[.int .i64 k, .int .i64 n, .int .u32 (leastK n k e : Nat)]) ∧ Below w.heap.size w w' := by
  obtain ⟨he, hn5, hk3, hkn⟩ := h.nums
  refine (callsIn_wide (n := 5)).1 ?_
  refine callsIn_of_wp_marks Tryz.func67 rfl trivial ?_ rfl
  simp only [Tryz.ntmps67, List.size_toArray, List.length_cons, List.length_nil, Nat.reduceAdd, Nat.reduceSub, Array.replicate_succ, Array.replicate_zero, List.push_toArray, List.append_toArray, List.nil_append, List.cons_append]
  gi_wp2_with (refine ⟨trivial, ?_⟩; gi_at_call 86; refine (callsIn_wide.2 (to_any _ k n e)).mono ?_; rintro r1 w1 ⟨B, rfl, hBge, hFB, hb1⟩)
  have hP := (PK.begin w k n e k n e 43).under hb1 (by simp)
  have hB1 : Below w.heap.size w w1 := by (repeat (first | exact Below.refl _ _ | assumption | refine bchain (by assumption) ?_ | refine balloc ?_ _ | apply Below.drew | apply below_drewN | (refine Below.alloc ?_ (by (try simp) <;> omega) _) | (refine Below.setCell ?_ (by (try simp) <;> omega) _)))
  have e3 : (((w.alloc (.cells #[.int .i64 (k : Int), .int .i64 (n : Int), .int .u32 (e : Int)] 43)).alloc (.cells #[.int .i64 0, .int .i64 0, .int .u32 0] 43)).alloc (.cells #[.int .i64 (k : Int), .int .i64 (n : Int), .int .u32 (e : Int)] 43)).heap.size = w.heap.size + 3 := by simp
  rw [e3] at hBge
  clear e3 hb1
  obtain ⟨G, hG⟩ : ∃ G, w.heap.size = G := ⟨_, rfl⟩
  rw [hG] at hP hB1 hBge ⊢
  have hBl := hFB.lt
  refine wpIn_range_seesI rfl (by omega) (gf := 103) (lb := #[.pointer (some ⟨B, 0, none⟩)]) rfl trivial (enters_of Tryz.func103 (by kernel_rfl) rfl)
    (turns_sees k n e h 4 B w1) (Below.refl _ _) rfl (SeeK.below k n e) (SeeK.cellular k n e)
    (fun pre W => PK W G k n (minE e pre : Nat) ∧ FC W B k n e ∧ Below G w W)
    (fun _ _ _ => False)
    (fun s A hs => hs.2.1) (fun _ _ _ h => h.elim)
    (fun s A A' hs hb => ⟨hs.1.under hb (by omega), hs.2.1.under hb hBl, hs.2.2.trans (hb.mono (by omega))⟩)
    (fun _ _ _ _ hs _ => hs)
    ⟨hP, hFB, hB1⟩
    (fun v a' W => ∃ Gb y : Nat, v = .agg #[.int .i64 k, .int .i64 n, .int .u32 y] ∧ FC W Gb k n y ∧ a' = { tmps := #[.agg #[.int .i64 k, .int .i64 n, .int .u32 e], .pointer (some ⟨G, 0, none⟩), .pointer (some ⟨G + 1, 0, none⟩), .pointer (some ⟨G + 1 + 1, 0, none⟩), .pointer (some ⟨Gb, 0, none⟩), .agg #[.int .i64 k, .int .i64 n, .int .u32 e], .agg #[.int .i64 k, .int .i64 n, .int .u32 e],
      .func (.func 103) #[] #[.pointer (some ⟨B, 0, none⟩)], v, undef, undef, undef, undef, undef, undef, undef, undef, undef, undef], defers := [] })
    (fun v a' A l o o' h hl ho => by obtain ⟨Gb, y, h1, h2, h3⟩ := h; exact ⟨Gb, y, h1, FC.cellular Gb k n y A l o o' h2 hl ho, h3⟩) ?assign ?body ?done ?stop
  case assign =>
    intro l x v W K hv hK
    obtain rfl : v = _ := hv
    gi_wp2
    exact hK _ _ ((Below.refl _ _).alloc (Nat.le_refl _) _) ⟨W.heap.size, onL e x, rfl, FC.made W k n _ _, rfl⟩
  case body =>
    clear hP
    rintro l pre x rest v a' W hl _ hL ⟨hP, hFB, hB⟩ hS ⟨Gb, y, hv, hFG, rfl⟩
    have hy : onL e x = y := by
      have hS' : v = _ := hS
      rw [hv] at hS'
      simp at hS'
      omega
    have hnx := minE_snoc e pre x
    rw [hy] at hnx
    obtain ⟨z, hz⟩ : ∃ z : Nat, minE e pre = z := ⟨_, rfl⟩
    rw [hz] at hP hnx
    have hfin : ∀ f : Int, f = (min z y : Nat) → Upper w1.heap.size W (W.setCell ⟨G + 1 + 1, 2, none⟩ (.int .u32 f)) ∧ (PK (W.setCell ⟨G + 1 + 1, 2, none⟩ (.int .u32 f)) G k n (minE e (pre ++ [x]) : Nat) ∧ FC (W.setCell ⟨G + 1 + 1, 2, none⟩ (.int .u32 f)) B k n e ∧ Below G w (W.setCell ⟨G + 1 + 1, 2, none⟩ (.int .u32 f))) := fun f hf => by
      refine ⟨Upper.setCell _ _ _ (by show G + 2 < _; omega), ?_, hFB.other _ (by show G + 2 ≠ B; omega), hB.setCell (p := ⟨G + 2, 2, none⟩) (by show G ≤ G + 2; omega) _⟩
      rw [hnx, ← hf]
      exact hP.set f
    replace hfin := Lib.hid hfin
    obtain ⟨p0, p1, p2, p3⟩ := hP.p
    have pf := hP.fp 2
    obtain ⟨g0, g1, g2, g3⟩ := hFG
    clear hP hnx hS hv hFB hL hB1 hy hz
    gi_wp2
    all_goals exact hfin.out _ (by rw [Nat.min_def]; split <;> omega)
  case done =>
    rintro D W hD ⟨hP, hFB, hB⟩ hK
    obtain ⟨y, hy⟩ : ∃ y : Nat, leastK n k e = y := ⟨_, rfl⟩
    rw [show minE e (turns n k) = y from hy] at hP
    obtain ⟨p0, p1, p2, p3⟩ := hP.p
    have pf0 := hP.fr 0
    have pf1 := hP.fr 1
    have pf2 := hP.fr 2
    obtain ⟨r0, r1, r2, r3⟩ := hP.r
    have hr := hP.r.put k n y
    replace hy := Lib.hid hy
    clear hP hFB
    gi_wp2
    have hK' := (KeepsOthers.setCell ((W.setCell ⟨G + 1, 0, none⟩ (.int .i64 k)).setCell ⟨G + 1, 1, none⟩ (.int .i64 n)) ⟨G + 1, 2, none⟩ (.int .u32 y)).same D _ ((KeepsOthers.setCell (W.setCell ⟨G + 1, 0, none⟩ (.int .i64 k)) ⟨G + 1, 1, none⟩ (.int .i64 n)).same D _ ((KeepsOthers.setCell W ⟨G + 1, 0, none⟩ (.int .i64 k)).same D _ hK rfl) rfl) rfl
    have hB3 := ((hB.setCell (p := ⟨G + 1, 0, none⟩) (by show G ≤ G + 1; omega) (.int .i64 k)).setCell (p := ⟨G + 1, 1, none⟩) (by show G ≤ G + 1; omega) (.int .i64 n)).setCell (p := ⟨G + 1, 2, none⟩) (by show G ≤ G + 1; omega) (.int .u32 y)
    obtain ⟨W3, hW3⟩ : ∃ W3, W3 = ((W.setCell ⟨G + 1, 0, none⟩ (.int .i64 k)).setCell ⟨G + 1, 1, none⟩ (.int .i64 n)).setCell ⟨G + 1, 2, none⟩ (.int .u32 y) := ⟨_, rfl⟩
    rw [← hW3] at hK' hB3 hr ⊢
    clear hW3 hK hB p0 p1 p2 p3 r0 r1 r2 r3 pf0 pf1 pf2
    refine ⟨by simp, .inl ⟨_, _, rfl, run_takeDeferred hK', ?_⟩⟩
    obtain ⟨_, c0, c1, c2⟩ := FC.cellular (G + 1) k n y W3 D _ (.deferred none) hr hK' rfl
    refine ⟨.agg #[.int .i64 k, .int .i64 n, .int .u32 y], by simp [results, Tryz.results67, go_sem, c0, c1, c2], by rw [hy.out], ?_⟩
    rw [hG]
    exact hB3.trans (below_putObj _ _ _ (by omega))
  case stop =>
    rintro D c pre W _ h _
    exact h.elim
end
end Go.Proofs.YtncbimbbkealmaaGreatDoor
/-
  THE LEAST FLAG THAT IS ALIKE: the model's contract.
-/
namespace Go.Proofs.YtncbimbbkealmaaGreatDoor
open Go.RowKit Go.Shelf
set_option maxRecDepth 100000

/-- all old blocks behind a call that only makes new ones: as rules for 'simp' -/
theorem keepAll {W W1 : World} (hb : Below W.heap.size W W1) (b o : Nat) (h : b < W.heap.size) : W1.cell? ⟨b, o, none⟩ = W.cell? ⟨b, o, none⟩ := (bkeep hb b h).1 o
theorem keepFz {W W1 : World} (hb : Below W.heap.size W W1) (b o : Nat) (h : b < W.heap.size) : W1.frozen? ⟨b, o, none⟩ = W.frozen? ⟨b, o, none⟩ := bkeepz hb b h o
theorem keepLt {W W1 : World} (hb : Below W.heap.size W W1) (b : Nat) (h : b < W.heap.size) : b < W1.heap.size := (bkeep hb b h).2
theorem turns_map : ∀ n, n ≤ 5 → ∀ k, k ≤ 3 → k ≤ n → turns n k = (lists (n - k) (n - k)).map (ordK k) := by decide +kernel
theorem PK.put {W : World} {G : Nat} {k n acc : Int} (h : PK W G k n acc) (x : Int) : PK ((W.setCell ⟨G + 2, 1, none⟩ (.int .i64 n)).setCell ⟨G + 2, 2, none⟩ (.int .u32 x)) G k n x where
  r := (h.r.other _ (by show G + 2 ≠ G + 1; omega)).other _ (by show G + 2 ≠ G + 1; omega)
  p := ⟨by have := h.p.lt; simpa using this, (World.cell?_setCell_other _ _ _ _ (by simp)).trans ((World.cell?_setCell_other _ _ _ _ (by simp)).trans h.p.c0), (World.cell?_setCell_other _ _ _ _ (by simp)).trans (World.cell?_setCell_same _ _ _ h.p.c1),
    World.cell?_setCell_same _ _ _ ((World.cell?_setCell_other _ _ _ _ (by simp)).trans h.p.c2)⟩
  fr := fun i => by rw [World.frozen?_setCell, World.frozen?_setCell]; exact h.fr i
  fp := fun i => by rw [World.frozen?_setCell, World.frozen?_setCell]; exact h.fp i

set_option maxHeartbeats 4000000 in
theorem sleastK_any (w : World) (k n e : Nat) (h : VK k n e) :
    Calls Tryz.prog 79 #[.agg #[.int .i64 k, .int .i64 n, .int .u32 e]] w fun r w' => r = .returned (.agg #[.int .i64 k, .int .i64 n, .int .u32 (leastK n k e : Nat)]) ∧ Below w.heap.size w w' := by
  obtain ⟨he, hn5, hk3, hkn⟩ := h.nums
  obtain ⟨m, hm⟩ : ∃ m, n - k = m := ⟨_, rfl⟩
  have hsub : ((n : Int) - (k : Int)) = (m : Int) := by omega
  go_enter Tryz.func79, Tryz.ntmps79
  go_wp2_with fail
  refine (first_any _ m (by omega)).mono ?_
  rintro r1 w1 ⟨⟨v, rfl, hO⟩, hb1⟩
  have hP := PK.begin w k n e k n e 43
  have s1 : ∀ (W : World) (o : Obj), (W.alloc o).heap.size = W.heap.size + 1 := fun W o => by simp
  have hF0 := ((FC.made w k n e 43).below ((Below.refl _ _).alloc (Nat.le_refl _) (.cells #[.int .i64 0, .int .i64 0, .int .u32 0] 43))).below ((Below.refl _ _).alloc (Nat.le_refl _) (.cells #[.int .i64 (k : Int), .int .i64 (n : Int), .int .u32 (e : Int)] 43))
  have hB0 : Below w.heap.size w (((w.alloc (.cells #[.int .i64 (k : Int), .int .i64 (n : Int), .int .u32 (e : Int)] 43)).alloc (.cells #[.int .i64 0, .int .i64 0, .int .u32 0] 43)).alloc (.cells #[.int .i64 (k : Int), .int .i64 (n : Int), .int .u32 (e : Int)] 43)) := by (repeat (first | exact Below.refl _ _ | assumption | refine bchain (by assumption) ?_ | refine balloc ?_ _ | apply Below.drew | apply below_drewN | (refine Below.alloc ?_ (by (try simp) <;> omega) _) | (refine Below.setCell ?_ (by (try simp) <;> omega) _)))
  obtain ⟨G, hG⟩ : ∃ G, w.heap.size = G := ⟨_, rfl⟩
  rw [hG] at hP hB0 hF0
  obtain ⟨w0, hw0⟩ : ∃ w0, w0 = (((w.alloc (.cells #[.int .i64 (k : Int), .int .i64 (n : Int), .int .u32 (e : Int)] 43)).alloc (.cells #[.int .i64 0, .int .i64 0, .int .u32 0] 43)).alloc (.cells #[.int .i64 (k : Int), .int .i64 (n : Int), .int .u32 (e : Int)] 43)) := ⟨_, rfl⟩
  rw [← hw0] at hP hO hb1 hB0 hF0
  have hGz : G + 2 < w0.heap.size := hP.p.lt
  have hP1 := Lib.hid (hP.under hb1 hGz)
  have hF1 := Lib.hid (hF0.below hb1)
  have hB1 := Lib.hid (hB0.trans (hb1.mono (by omega)))
  replace hO := Lib.hid (hO.congr (fun i hi => lf_range m i hi))
  have hlm : (lists m m).length = (lists m m).length := rfl
  have hend0 : minE e ((lists m m).map (ordK k)) = leastK n k e := by unfold leastK; rw [turns_map n hn5 k hk3 hkn, hm]
  have hokm : ∀ y ∈ lists m m, okList n n (ordK k y) = true := fun y hy => turns_ok hn5 hk3 hkn (by rw [turns_map n hn5 k hk3 hkn, hm]; exact List.mem_map_of_mem hy)
  rw [hG]
  clear hw0 hP hb1 hB0 hF0 s1 hlm
  replace hG := Lib.hid hG
  replace hend0 := Lib.hid hend0
  replace hokm := Lib.hid hokm
  have hm5 : m ≤ 5 := by omega
  replace hm := Lib.hid hm
  replace h := Lib.hid h
  obtain ⟨T, hT⟩ : ∃ T : List (List Nat) → World → Prop, T = fun pre W => PK W G k n (minE e (pre.map (ordK k)) : Nat) ∧ FC W G k n e ∧ Below G w W := ⟨_, rfl⟩
  go_wp2_with fail
  go_loopg [5] ((lists m m).length) (fun c s wr => SlHead w0 v m m T c s wr)
  case atStart =>
    have hf := lists_first m hm5 m (Nat.le_refl _)
    refine .inl ⟨0, _, (List.getElem?_eq_some_iff.1 hf).1, by omega, rfl, hf, hO.out, ?_⟩
    rw [hT]
    exact ⟨hP1.out, hF1.out, hB1.out⟩
  case round =>
    rcases hrel with ⟨j, x, hj, hc, rfl, hx, hOx, hTx⟩ | ⟨hc, rfl, hTx⟩
    · have hTx' := hTx
      rw [hT] at hTx'
      obtain ⟨hPx, hFx, hBx⟩ := hTx'
      have hokx := lists_ok hm5 hm5 (x := x) (List.mem_of_getElem? hx)
      have hok := hokm.out x (List.mem_of_getElem? hx)
      have hst := lists_step hm5 (Nat.le_refl _) hj hx
      have hxm := ok_length hokx
      have hOr := Lib.hid (fun W (hW : Below wr.heap.size wr W) => order_any W k m x v ((hOx.below hW).see hxm) hxm (by omega) hm5 (fun i hi => by have := ok_lt hokx hi; omega))
      have hOn := Lib.hid (fun W u (hs : See (ordK k x) u W) => sonL_any W u (ordK k x) n n e hs hn5 (by omega) hok)
      have hol : (ordK k x).length = k + m := by simp [ordK, hxm]
      have hle := minE_le e (((lists m m).take j).map (ordK k))
      have hyl := onL_lt e (ordK k x) (by rw [ok_length hok]; exact hn5)
      have hnx : minE e (((lists m m).take (j + 1)).map (ordK k)) = min (minE e (((lists m m).take j).map (ordK k))) (onL e (ordK k x)) := by rw [take_snoc' hx, List.map_append, List.map_cons, List.map_nil, minE_snoc]
      obtain ⟨y, hy⟩ : ∃ y, onL e (ordK k x) = y := ⟨_, rfl⟩
      obtain ⟨z, hz⟩ : ∃ z, minE e (((lists m m).take j).map (ordK k)) = z := ⟨_, rfl⟩
      rw [hy] at hOn hnx hyl
      rw [hz] at hPx hnx hle
      clear hy hz hTx
      obtain ⟨f0, f1, f2, f3⟩ := id hFx
      obtain ⟨p0, p1, p2, p3⟩ := hPx.p
      have pf1 := hPx.fp 1
      have pf2 := hPx.fp 2
      replace hx := Lib.hid hx
      replace hst := Lib.hid hst
      replace hnx := Lib.hid hnx
      replace hPx := Lib.hid hPx
      replace hFx := Lib.hid hFx
      replace hOx := Lib.hid hOx
      replace hc := Lib.hid hc
      replace hok := Lib.hid hok
      replace hokx := Lib.hid hokx
      replace hol := Lib.hid hol
      replace hxm := Lib.hid hxm
      replace hB1 : Below G w w1 := hB1.out
      go_wp2_with fail
      go_cut [6] from 15 to 38 (fun s6 wx => ∃ A : Nat, s6 = .pointer (some ⟨A, 0, none⟩) ∧ wr.heap.size ≤ A ∧ A < wx.heap.size ∧ wx.cell? ⟨A, 0, none⟩ = some (.int .i64 n) ∧ wx.cell? ⟨A, 1, none⟩ = some (.int .u32 y) ∧ Below wr.heap.size wr wx)
      case first =>
        have hA0 : ∀ (c : Array Value) (t : TypeId) (i : Nat), (wr.drew.alloc (.cells c t)).cell? ⟨wr.heap.size, i, none⟩ = c[i]? := fun c t i => World.cell?_alloc_new wr.drew c t i
        have hF0 : ∀ (c : Array Value) (t : TypeId) (i : Nat), (wr.drew.alloc (.cells c t)).frozen? ⟨wr.heap.size, i, none⟩ = false := fun c t i => by
          have := (show ∀ W : World, (W.alloc (.cells c t)).frozen? ⟨W.heap.size, i, none⟩ = false from fun W => by simp) wr.drew
          exact this
        go_region_held3 (fun A => A.cell? ⟨G, 0, none⟩ = some (.int .i64 k) ∧ A.cell? ⟨G, 1, none⟩ = some (.int .i64 n) ∧ A.cell? ⟨G, 2, none⟩ = some (.int .u32 e))
          (exact ⟨old_cell f0 f1 (by (repeat (first | exact Below.refl _ _ | assumption | refine bchain (by assumption) ?_ | refine balloc ?_ _ | apply Below.drew | apply below_drewN | (refine Below.alloc ?_ (by (try simp) <;> omega) _) | (refine Below.setCell ?_ (by (try simp) <;> omega) _)))), old_cell f0 f2 (by (repeat (first | exact Below.refl _ _ | assumption | refine bchain (by assumption) ?_ | refine balloc ?_ _ | apply Below.drew | apply below_drewN | (refine Below.alloc ?_ (by (try simp) <;> omega) _) | (refine Below.setCell ?_ (by (try simp) <;> omega) _)))), old_cell f0 f3 (by (repeat (first | exact Below.refl _ _ | assumption | refine bchain (by assumption) ?_ | refine balloc ?_ _ | apply Below.drew | apply below_drewN | (refine Below.alloc ?_ (by (try simp) <;> omega) _) | (refine Below.setCell ?_ (by (try simp) <;> omega) _))))⟩)
          (first
          | (go_at_call 101; refine (hOr.out _ (by (repeat (first | exact Below.refl _ _ | assumption | refine bchain (by assumption) ?_ | refine balloc ?_ _ | apply Below.drew | apply below_drewN | (refine Below.alloc ?_ (by (try simp) <;> omega) _) | (refine Below.setCell ?_ (by (try simp) <;> omega) _))))).mono ?_; rintro r3 w3 ⟨⟨u, rfl, hOu⟩, hb3⟩; replace hOu := Lib.hid (hOu.see hol.out); have hk3 := keepAll hb3; have hf3 := keepFz hb3; have hz3 := keepLt hb3; have hs3 := hb3.size; try (simp at hs3); try (rw [Nat.add_one_le_iff] at hs3))
          | (go_at_call 58; refine (hOn.out _ _ (See.below _ _ _ _ hOu.out (by (repeat (first | exact Below.refl _ _ | assumption | refine bchain (by assumption) ?_ | refine balloc ?_ _ | apply Below.drew | apply below_drewN | (refine Below.alloc ?_ (by (try simp) <;> omega) _) | (refine Below.setCell ?_ (by (try simp) <;> omega) _)))))).mono ?_; rintro r4 w4 ⟨rfl, hb4⟩; have hk4 := keepAll hb4; have hf4 := keepFz hb4; have hz4 := keepLt hb4; have hs4 := hb4.size; try (simp at hs4); try (rw [Nat.add_one_le_iff] at hs4)))
        all_goals (go_wp2_with fail; go_meet; exact ⟨_, rfl, by (try simp) <;> omega, by (try simp) <;> omega, by first | (simp; done) | exact (twoCells (a := .int .i64 0) (b := .int .u32 0) (by simp [*]) (by simp [*]) _ _).1, by first | (simp; done) | exact (twoCells (a := .int .i64 0) (b := .int .u32 0) (by simp [*]) (by simp [*]) _ _).2, by (repeat (first | exact Below.refl _ _ | assumption | refine bchain (by assumption) ?_ | refine balloc ?_ _ | apply Below.drew | apply below_drewN | (refine Below.alloc ?_ (by (try simp) <;> omega) _) | (refine Below.setCell ?_ (by (try simp) <;> omega) _)))⟩)
      case rest =>
        obtain ⟨A, rfl, hA, hAl, a0, a1, hbx⟩ := hcut
        have hPw := hPx.out.under hbx p0
        have hFw := hFx.out.below hbx
        have hOw := Lib.hid (hOx.out.below hbx)
        have hBw : Below G w wc := hBx.trans (hbx.mono (by omega))
        clear f0 f1 f2 f3 p0 p1 p2 p3 pf1 pf2 hPx hFx hOx hBx hOr hOn
        obtain ⟨f0, f1, f2, f3⟩ := id hFw
        obtain ⟨p0, p1, p2, p3⟩ := hPw.p
        have pf1 := hPw.fp 1
        have pf2 := hPw.fp 2
        have hend : ∀ (e4 : Ending) (W w4 : World) (f : Nat), NextAt m m w0 v x W e4 w4 → f = minE e (((lists m m).take (j + 1)).map (ordK k)) → PK W G k n f → FC W G k n e → Below G w W →
            ∃ ok : Bool, e4 = .returned (.bool ok) ∧ Hid (∃ c', c' < gk ∧ SlHead w0 v m m T c' (.bool ok) w4) := fun e4 W w4 f hN hf hPW hFW hBW => by
          rcases hN with ⟨x', hy, he4, hyk, hOy, hbN⟩ | ⟨hy, he4, hbN⟩
          · rw [hst.out] at hy
            have hj1 := (List.getElem?_eq_some_iff.1 hy).1
            exact ⟨true, he4, (lists m m).length - (j + 1), by have := hc.out; omega, .inl ⟨j + 1, x', hj1, rfl, rfl, hy, hOy, by rw [hT]; dsimp only; rw [← hf]; exact ⟨hPW.under hbN hGz, hFW.under hbN (by omega), hBW.trans (hbN.mono (by omega))⟩⟩⟩
          · rw [hst.out] at hy
            have hj1 : (lists m m).length ≤ j + 1 := by simpa using hy
            rw [List.take_of_length_le hj1] at hf
            exact ⟨false, he4, 0, by have := hc.out; omega, .inr ⟨rfl, rfl, by rw [hT]; dsimp only; rw [← hf]; exact ⟨hPW.under hbN hGz, hFW.under hbN (by omega), hBW.trans (hbN.mono (by omega))⟩⟩⟩
        replace hend := Lib.hid hend
        replace hPw := Lib.hid hPw
        replace hFw := Lib.hid hFw
        by_cases hlt : y < z
        · have hd : decide ((y : Int) < (z : Int)) = true := by simpa using hlt
          go_wp2_with fail
          refine (next_any _ w0 v m m x ((hOw.out.sets (by omega)).sets (by omega)) hm5 hm5 hokx.out).mono ?_
          rintro r4 w4 hN
          obtain ⟨ok, rfl, hE⟩ := hend.out r4 _ w4 y hN (by rw [hnx.out]; omega) (hPw.out.put y) ((hFw.out.other _ (by show G + 1 + 1 ≠ G; omega)).other _ (by show G + 1 + 1 ≠ G; omega)) (by (repeat (first | exact Below.refl _ _ | assumption | refine bchain (by assumption) ?_ | refine balloc ?_ _ | apply Below.drew | apply below_drewN | (refine Below.alloc ?_ (by (try simp) <;> omega) _) | (refine Below.setCell ?_ (by (try simp) <;> omega) _))))
          clear hN
          go_wp2
          obtain ⟨c', hc1, hc2⟩ := hE.out
          go_roundg c'
          case measure => exact hc1
          case rel => exact hc2
        · have hd : decide ((y : Int) < (z : Int)) = false := by simpa using hlt
          go_wp2_with fail
          refine (next_any _ w0 v m m x hOw.out hm5 hm5 hokx.out).mono ?_
          rintro r4 w4 hN
          obtain ⟨ok, rfl, hE⟩ := hend.out r4 _ w4 z hN (by rw [hnx.out]; omega) hPw.out hFw.out hBw
          clear hN
          go_wp2
          obtain ⟨c', hc1, hc2⟩ := hE.out
          go_roundg c'
          case measure => exact hc1
          case rel => exact hc2
    · obtain ⟨y, hy⟩ : ∃ y : Nat, leastK n k e = y := ⟨_, rfl⟩
      rw [hT] at hTx
      obtain ⟨hPx, hFx, hBx⟩ := hTx
      rw [hend0.out, hy] at hPx
      obtain ⟨p0, p1, p2, p3⟩ := hPx.p
      obtain ⟨r0, r1, r2, r3⟩ := hPx.r
      have pf0 := hPx.fr 0
      have pf1 := hPx.fr 1
      have pf2 := hPx.fr 2
      have hr := hPx.r.put k n y
      have hB3 := ((hBx.setCell (p := ⟨G + 1, 0, none⟩) (by show G ≤ G + 1; omega) (.int .i64 k)).setCell (p := ⟨G + 1, 1, none⟩) (by show G ≤ G + 1; omega) (.int .i64 n)).setCell (p := ⟨G + 1, 2, none⟩) (by show G ≤ G + 1; omega) (.int .u32 y)
      replace hy := Lib.hid hy
      clear hPx hFx hBx
      replace hB1 : Below G w w1 := hB1.out
      go_wp2
      obtain ⟨W3, hW3⟩ : ∃ W3, W3 = ((wr.setCell ⟨G + 1, 0, none⟩ (.int .i64 k)).setCell ⟨G + 1, 1, none⟩ (.int .i64 n)).setCell ⟨G + 1, 2, none⟩ (.int .u32 y) := ⟨_, rfl⟩
      rw [← hW3] at hB3 hr ⊢
      clear hW3 p0 p1 p2 p3 r0 r1 r2 r3 pf0 pf1 pf2
      obtain ⟨_, c0, c1, c2⟩ := hr
      refine bodyPost_ret (v := .agg #[.int .i64 k, .int .i64 n, .int .u32 y]) (by simp [results, Tryz.results79, go_sem, c0, c1, c2]) rfl ⟨by rw [hy.out], ?_⟩
      rw [hG.out]
      exact hB3
end Go.Proofs.YtncbimbbkealmaaGreatDoor
/-
  CONTRACTS OF FlagOf AND TurnLabels: the program's and the model's, for every list that is not nil.
-/
namespace Go.Proofs.YtncbimbbkealmaaGreatDoor
open Go.RowKit
set_option maxRecDepth 100000

theorem pp_ltN (i j : Nat) (hij : i < j) (hj : j ≤ 4) : pp i j < pc (j + 1) := by
  have h2 : j = 1 ∨ j = 2 ∨ j = 3 ∨ j = 4 := by omega
  have h1 : i = 0 ∨ i = 1 ∨ i = 2 ∨ i = 3 := by omega
  rcases h2 with rfl | rfl | rfl | rfl <;> rcases h1 with rfl | rfl | rfl | rfl <;> first | decide | (exfalso; omega)
theorem rowE_ltN (e : Nat) (f : Nat → Nat) (j i : Nat) (hij : i ≤ j) (hj : j ≤ 4) : rowE e f j i < 2 ^ pc (j + 1) := by
  induction i with
  | zero => exact Nat.pow_pos (by omega)
  | succ i ih =>
    refine Nat.or_lt_two_pow (ih (by omega)) ?_
    split
    · exact Nat.pow_lt_pow_right (by omega) (pp_ltN i j (by omega) hj)
    · exact Nat.pow_pos (by omega)
theorem pc_mono (j : Nat) (hj : j ≤ 4) : pc j ≤ pc (j + 1) := by
  have h2 : j = 0 ∨ j = 1 ∨ j = 2 ∨ j = 3 ∨ j = 4 := by omega
  rcases h2 with rfl | rfl | rfl | rfl | rfl <;> decide
theorem onE_ltN (e : Nat) (f : Nat → Nat) (j : Nat) (hj : j ≤ 5) : onE e f j < 2 ^ pc j := by
  induction j with
  | zero => exact Nat.pow_pos (by omega)
  | succ j ih => exact Nat.or_lt_two_pow (Nat.lt_of_lt_of_le (ih (by omega)) (Nat.pow_le_pow_right (by omega) (pc_mono j (by omega)))) (rowE_ltN e f j j (Nat.le_refl _) (by omega))
/-- the graph on a list of all vertices is valid -/
theorem VG_on {n e : Nat} {x : List Nat} (hn : n ≤ 5) (hx : okList n n x = true) : VG n (onL e x : Nat) := by
  have h := onE_ltN e (vx (zl x)) x.length (by rw [ok_length hx]; exact hn)
  rw [ok_length hx, ← eMax_pow n hn] at h
  unfold VG onL
  rw [ok_length hx]
  exact ⟨by omega, by omega, by omega, by simpa using h⟩
/-- different vertices are a list of numbers -/
theorem diff_list {zs : List Int} {n : Nat} (h : Diff zs n) : ∃ x, zs = zl x ∧ okList n zs.length x = true := by
  have hx : zs = zl (zs.map Int.toNat) := by
    apply List.ext_getElem
    · simp [zl]
    · intro i h1 h2
      have := (h i h1).1
      unfold zi at this
      rw [List.getElem?_eq_getElem h1] at this
      simp only [Option.getD_some] at this
      simp [zl, Int.toNat_of_nonneg this]
  refine ⟨_, hx, ?_⟩
  have hg : ∀ i, i < zs.length → (zs.map Int.toNat)[i]?.getD 0 = (zi zs i).toNat := fun i hi => by
    rw [List.getElem?_map]
    unfold zi
    rw [List.getElem?_eq_getElem hi]
    rfl
  simp only [okList, Bool.and_eq_true, beq_iff_eq, List.all_eq_true, List.mem_range, decide_eq_true_eq, bne_iff_ne, List.length_map, true_and]
  intro i hi
  obtain ⟨h1, h2, h3⟩ := h i hi
  refine ⟨by rw [hg i hi]; omega, fun j hj => ?_⟩
  rw [hg i hi, hg j (by omega)]
  have := h3 j hj
  have := (h j (by omega)).1
  omega
theorem ok_wide {n m k : Nat} {x : List Nat} (hnm : m ≤ n) (h : okList m k x = true) : okList n k x = true := by
  simp only [okList, Bool.and_eq_true, beq_iff_eq, List.all_eq_true, List.mem_range, decide_eq_true_eq, bne_iff_ne] at h ⊢
  exact ⟨h.1, fun i hi => ⟨Nat.lt_of_lt_of_le (h.2 i hi).1 hnm, (h.2 i hi).2⟩⟩
section
variable (w : World)
end
end Go.Proofs.YtncbimbbkealmaaGreatDoor
namespace Go.Proofs.YtncbimbbkealmaaGreatDoor
open Go.RowKit Go.Shelf
set_option maxRecDepth 100000
/-- no number is a label -/
def Unl (zs : List Int) (k : Int) : Prop := ∀ i, i < zs.length → k ≤ zi zs i
theorem range_zi (k : Nat) {i : Nat} (h : i < k) : zi (zl (List.range k)) i = (i : Int) := by
  unfold zi
  rw [zl_get, List.getElem?_range h]
  rfl
/-- the labels and the numbers together are different vertices just if the numbers are, and none is a label -/
theorem diff_first {zs : List Int} {k n : Nat} (hkn : k ≤ n) : Diff (zl (List.range k) ++ zs) n ↔ (Unl zs k ∧ Diff zs n) := by
  have hl : (zl (List.range k)).length = k := by rw [zl_length]; simp
  have h1 : ∀ i, i < k → zi (zl (List.range k) ++ zs) i = (i : Int) := fun i hi => by
    unfold zi
    rw [List.getElem?_append_left (by omega)]
    exact range_zi k hi
  have h2 : ∀ i, zi (zl (List.range k) ++ zs) (k + i) = zi zs i := fun i => by
    unfold zi
    rw [List.getElem?_append_right (by omega), hl, Nat.add_sub_cancel_left]
  constructor
  · intro h
    have hz : ∀ i, i < zs.length → Fresh (zl (List.range k) ++ zs) n (k + i) := fun i hi => h (k + i) (by rw [List.length_append]; omega)
    refine ⟨fun i hi => ?_, fun i hi => ?_⟩
    · obtain ⟨a, b, c⟩ := hz i hi
      rw [h2] at a c
      have hx : ¬ zi zs i < k := fun hlt => by
        have := c (zi zs i).toNat (by omega)
        rw [h1 _ (by omega)] at this
        omega
      omega
    · obtain ⟨a, b, c⟩ := hz i hi
      rw [h2] at a b c
      refine ⟨a, b, fun j hj => ?_⟩
      have := c (k + j) (by omega)
      rwa [h2] at this
  · rintro ⟨hu, hd⟩ i hi
    rw [List.length_append, hl] at hi
    by_cases c : i < k
    · refine ⟨by rw [h1 i c]; omega, by rw [h1 i c]; omega, fun j hj => ?_⟩
      rw [h1 i c, h1 j (by omega)]
      omega
    · obtain ⟨q, rfl⟩ : ∃ q, i = k + q := ⟨i - k, by omega⟩
      obtain ⟨a, b, d⟩ := hd q (by omega)
      have hq := hu q (by omega)
      refine ⟨by rw [h2]; exact a, by rw [h2]; exact b, fun j hj => ?_⟩
      rw [h2]
      by_cases e : j < k
      · rw [h1 j e]; omega
      · obtain ⟨p, rfl⟩ : ∃ p, j = k + p := ⟨j - k, by omega⟩
        rw [h2]
        exact d p (by omega)
theorem LMem.setCells {W : World} {B n : Nat} {p : List Nat} (x : List Nat) (h : LMem W B n p) (hl : p.length + x.length ≤ n) : LMem (W.setCells B p.length (rowN x)) B n (p ++ x) := by
  induction x generalizing W p with
  | nil => simpa [rowN, World.setCells] using h
  | cons v x ih =>
    have hp := h.push (by simp at hl; omega) v
    have := ih (p := p ++ [v]) hp (by simp at hl ⊢; omega)
    simpa [rowN, World.setCells, List.append_assoc] using this
theorem setCells_below {b0 : Nat} {w0 W : World} {B : Nat} (h : Below b0 w0 W) (hB : b0 ≤ B) : ∀ (vs : List Value) (o : Nat), Below b0 w0 (W.setCells B o vs)
  | [], _ => h
  | v :: vs, o => setCells_below (h.setCell (p := ⟨B, o, none⟩) hB v) hB vs (o + 1)
section
variable (w : World)
end
end Go.Proofs.YtncbimbbkealmaaGreatDoor
namespace Go.Proofs.YtncbimbbkealmaaGreatDoor
open Go.RowKit
set_option maxRecDepth 100000
section
variable (w : World)
open Classical in
end
end Go.Proofs.YtncbimbbkealmaaGreatDoor
namespace Go.Proofs.YtncbimbbkealmaaGreatDoor
open Go.RowKit Go.Shelf
set_option maxRecDepth 100000
theorem SlS.src {w : World} {v : Value} {x : List Nat} {ad : Addr} {l cap : Nat} (hS : SlS w v (zl x)) (hv : v = .slice (some ad) l cap) : ∀ q u, (rowN x)[q]? = some u → w.cell? (ad.add q) = some u := fun q u hq => by
  obtain ⟨q1, q2⟩ := rowN_get hq
  obtain ⟨a', cap', e1, _, _, e3⟩ := hS.1
  obtain ⟨b, off, rfl, hb, hc⟩ := e3 (by intro c; rw [← List.length_eq_zero_iff, zl_length] at c; omega)
  rw [hv] at e1
  injection e1 with e1 _ _
  injection e1 with e1
  rw [e1, add_none, hc q (by rw [zl_length]; exact q1), zl_get, q2]
theorem LMem.spare {W : World} {B n : Nat} {p x : List Nat} (h : LMem W B n p) (hl : p.length + x.length ≤ n) : ∀ j, j < (rowN x).length → (W.cell? ⟨B, 0 + p.length * 1 + j, none⟩).isSome = true ∧ W.frozen? ⟨B, 0 + p.length * 1 + j, none⟩ = false := fun j hj => by
  rw [rowN_length] at hj
  obtain ⟨z, hz⟩ := h.cells (0 + p.length * 1 + j) (by omega)
  exact ⟨by rw [hz]; rfl, h.free _ (by omega)⟩
theorem ok_len {n m : Nat} {x : List Nat} (h : okList n m x = true) : m ≤ n := by
  have := (diff_zl h).length_le
  rw [zl_length, ok_length h] at this
  exact this
theorem three_other {W : World} {G o : Nat} {x y z u : Value} (h : W.cell? ⟨G, o, none⟩ = some u) : (((W.setCell ⟨G + 1, 0, none⟩ x).setCell ⟨G + 1, 1, none⟩ y).setCell ⟨G + 1, 2, none⟩ z).cell? ⟨G, o, none⟩ = some u :=
  (World.cell?_setCell_other _ _ _ _ (by simp)).trans ((World.cell?_setCell_other _ _ _ _ (by simp)).trans ((World.cell?_setCell_other _ _ _ _ (by simp)).trans h))
section
variable (w : World)
set_option maxHeartbeats 4000000 in
theorem kpart_any (k n e m : Nat) (x : List Nat) (v : Value) (h : VK k n e) (hS : SlS w v (zl x)) (hm : x.length = m) (hx : okList n (k + m) (List.range k ++ x) = true) :
    Calls Tryz.prog 92 #[.agg #[.int .i64 k, .int .i64 n, .int .u32 e], v] w fun r w' => r = .returned (.agg #[.int .i64 k, .int .i64 ((k + m : Nat) : Int), .int .u32 (onL e (List.range k ++ x) : Nat)]) ∧ Below w.heap.size w w' := by
  obtain ⟨he, hn5, hk3, hkn⟩ := h.nums
  have hroom := ok_len hx
  obtain ⟨i0, hi, hz0, hz1, hz2⟩ := info_parts info_i64
  obtain ⟨_, ad, cap, hv⟩ := id hS
  rw [zl_length, hm] at hv
  have hOn := Lib.hid (fun W u (hs : See (List.range k ++ x) u W) => ionL_any W u (List.range k ++ x) n (k + m) e hs hn5 (by omega) hx)
  obtain ⟨wb, hwb⟩ : ∃ wb, wb = (w.alloc (.cells #[.int .i64 k, .int .i64 n, .int .u32 e] 43)).alloc (.cells #[.int .i64 0, .int .i64 0, .int .u32 0] 43) := ⟨_, rfl⟩
  have s1 : ∀ (W : World) (o : Obj), (W.alloc o).heap.size = W.heap.size + 1 := fun W o => by simp
  have hbz : wb.heap.size = w.heap.size + 2 := by rw [hwb, s1, s1]
  have hF : FC wb w.heap.size k n e := by rw [hwb]; exact (FC.made w k n e _).below ((Below.refl _ _).alloc (Nat.le_refl _) _)
  have hR : FC wb (w.heap.size + 1) 0 0 0 := by
    have := FC.made (w.alloc (.cells #[.int .i64 k, .int .i64 n, .int .u32 e] 43)) 0 0 0 43
    rw [s1, ← hwb] at this
    exact this
  have hfz : ∀ i, wb.frozen? ⟨w.heap.size + 1, i, none⟩ = false := fun i => by rw [hwb, fNew _ _ _ _ _ (by rw [s1])]
  have hB0 : Below w.heap.size w wb := by rw [hwb]; (repeat (first | exact Below.refl _ _ | assumption | refine bchain (by assumption) ?_ | refine balloc ?_ _ | apply Below.drew | apply below_drewN | (refine Below.alloc ?_ (by (try simp) <;> omega) _) | (refine Below.setCell ?_ (by (try simp) <;> omega) _)))
  have hsrc : ∀ W, Below wb.heap.size wb W → ∀ q u, (rowN x)[q]? = some u → W.cell? (ad.add q) = some u := fun W hW => ((hS.below hB0).below hW).src hv
  obtain ⟨y, hy⟩ : ∃ y, onL e (List.range k ++ x) = y := ⟨_, rfl⟩
  rw [hy] at hOn ⊢
  subst hv
  have hrl : (rowN x).length = m * 1 := by rw [rowN_length, hm]; omega
  have h1c : ∀ u ∈ rowN x, u.oneCell' = true := fun u hu => by unfold rowN at hu; rw [List.mem_map] at hu; obtain ⟨_, _, rfl⟩ := hu; rfl
  have hap : ∀ W3 B, wb.heap.size ≤ B → Below wb.heap.size wb W3 → LMem W3 B n (List.range k) → (∀ j, j < (rowN x).length → (W3.cell? ⟨B, 0 + k * 1 + j, none⟩).isSome = true ∧ W3.frozen? ⟨B, 0 + k * 1 + j, none⟩ = false) ∧
      See (List.range k ++ x) (.slice (some ⟨B, 0, none⟩) (k + m) n) (W3.setCells B k (rowN x)) ∧ Below wb.heap.size wb (W3.setCells B k (rowN x)) := fun W3 B hB hb hM => by
    have hl : (List.range k).length = k := List.length_range
    have h1 := hM.spare (x := x) (by rw [hl]; omega)
    have h2 := (hM.setCells x (by rw [hl]; omega)).sl (by omega)
    rw [hl] at h1 h2
    rw [List.length_append, hl, hm] at h2
    exact ⟨h1, h2, setCells_below hb hB _ _⟩
  replace hap := Lib.hid hap
  replace hsrc := Lib.hid hsrc
  replace hrl := Lib.hid hrl
  replace h1c := Lib.hid h1c
  replace hi := Lib.hid hi
  replace hz1 := Lib.hid hz1
  replace hwb := Lib.hid hwb
  obtain ⟨f0, f1, f2, f3⟩ := hF
  obtain ⟨r0, r1, r2, r3⟩ := hR
  clear hz0 hz2 hx hy hm hS s1 h
  obtain ⟨X, hX⟩ : ∃ X, X = rowN x := ⟨_, rfl⟩
  rw [← hX] at hap hsrc hrl h1c
  clear hX
  rw [show ((k + m : Nat) : Int) = (k : Int) + (m : Int) from Int.natCast_add k m]
  go_enter Tryz.func92, Tryz.ntmps92
  go_wp2_with fail
  rw [← hwb.out]
  go_region_held3 (fun A => A.cell? ⟨w.heap.size, 0, none⟩ = some (.int .i64 k) ∧ A.cell? ⟨w.heap.size, 1, none⟩ = some (.int .i64 n) ∧ A.cell? ⟨w.heap.size, 2, none⟩ = some (.int .u32 e))
    (first | exact ⟨three_other v0, three_other v1, three_other v2⟩ | exact ⟨old_cell f0 f1 (by (repeat (first | exact Below.refl _ _ | assumption | refine bchain (by assumption) ?_ | refine balloc ?_ _ | apply Below.drew | apply below_drewN | (refine Below.alloc ?_ (by (try simp) <;> omega) _) | (refine Below.setCell ?_ (by (try simp) <;> omega) _)))), old_cell f0 f2 (by (repeat (first | exact Below.refl _ _ | assumption | refine bchain (by assumption) ?_ | refine balloc ?_ _ | apply Below.drew | apply below_drewN | (refine Below.alloc ?_ (by (try simp) <;> omega) _) | (refine Below.setCell ?_ (by (try simp) <;> omega) _)))), old_cell f0 f3 (by (repeat (first | exact Below.refl _ _ | assumption | refine bchain (by assumption) ?_ | refine balloc ?_ _ | apply Below.drew | apply below_drewN | (refine Below.alloc ?_ (by (try simp) <;> omega) _) | (refine Below.setCell ?_ (by (try simp) <;> omega) _))))⟩)
    (first
    | (go_at_call 104; refine (labels_any _ k n e hkn hn5).mono ?_; rintro r3 w3 ⟨B, rfl, hB3, hM3, hb3⟩; have hbb : Below wb.heap.size wb w3 := (by (repeat (first | exact Below.refl _ _ | assumption | refine bchain (by assumption) ?_ | refine balloc ?_ _ | apply Below.drew | apply below_drewN | (refine Below.alloc ?_ (by (try simp) <;> omega) _) | (refine Below.setCell ?_ (by (try simp) <;> omega) _)))); obtain ⟨hsp, hse, hbx⟩ := hap.out w3 B hB3 hbb hM3; replace hsp := Lib.hid hsp; replace hse := Lib.hid hse; clear hM3 hb3)
    | (refine step_append_room rfl (.tmp 10) (.tmp 11) 69 rfl 2 i0 1 Tryz.underlying69 hi.out hz1.out B 0 k n (by simp [Act.eval]) ad m cap X (by simp [Act.eval]) hrl.out (hsrc.out w3 hbb) h1c.out hroom hsp.out ?_; simp only [Nat.zero_add, Nat.mul_one])
    | (go_at_call 75; refine (hOn.out _ _ hse.out).mono ?_; rintro r5 w5 ⟨rfl, hb5⟩; have hb55 : Below wb.heap.size wb w5 := hbx.trans (hb5.mono hbx.size); have v0 := old_cell f0 f1 hb55; have v1 := old_cell f0 f2 hb55; have v2 := old_cell f0 f3 hb55; have t0 := old_cell r0 r1 hb55; have t1 := old_cell r0 r2 hb55; have t2 := old_cell r0 r3 hb55; have u0 := ((hb55.frozen (p := ⟨w.heap.size + 1, 0, none⟩) r0).trans (hfz 0)); have u1 := ((hb55.frozen (p := ⟨w.heap.size + 1, 1, none⟩) r0).trans (hfz 1)); have u2 := ((hb55.frozen (p := ⟨w.heap.size + 1, 2, none⟩) r0).trans (hfz 2))))
  all_goals
    have hfc : FC w5 (w.heap.size + 1) 0 0 0 := ⟨Nat.lt_of_lt_of_le r0 hb55.size, t0, t1, t2⟩
    have hbw : Below w.heap.size w w5 := hB0.trans (hb55.mono hB0.size)
    clear hb5 hb55 hbx hbb hB3 f0 f1 f2 f3 r0 r1 r2 r3 hap hsrc hOn
    go_wp2
    have hF := hfc.put (k) ((k : Int) + m) (y)
    have hBB := (((hbw.setCell (p := ⟨w.heap.size + 1, 0, none⟩) (by show w.heap.size ≤ w.heap.size + 1; omega) (.int .i64 (k))).setCell (p := ⟨w.heap.size + 1, 1, none⟩) (by show w.heap.size ≤ w.heap.size + 1; omega) (.int .i64 ((k : Int) + m))).setCell (p := ⟨w.heap.size + 1, 2, none⟩) (by show w.heap.size ≤ w.heap.size + 1; omega) (.int .u32 (y)))
    obtain ⟨WW, hWW⟩ : ∃ WW, WW = (((w5.setCell ⟨w.heap.size + 1, 0, none⟩ (.int .i64 (k))).setCell ⟨w.heap.size + 1, 1, none⟩ (.int .i64 ((k : Int) + m))).setCell ⟨w.heap.size + 1, 2, none⟩ (.int .u32 (y))) := ⟨_, rfl⟩
    rw [← hWW] at hF hBB ⊢
    clear hWW
    obtain ⟨_, hF0, hF1, hF2⟩ := hF
    exact bodyPost_ret (v := .agg #[.int .i64 (k), .int .i64 ((k : Int) + m), .int .u32 (y)]) (by simp [results, Tryz.results92, go_sem, hF0, hF1, hF2]) rfl ⟨rfl, hBB⟩
end
end Go.Proofs.YtncbimbbkealmaaGreatDoor
/-
  THE FLAG ON THE LABELS AND SOME OTHER VERTICES: the model's.
-/
namespace Go.Proofs.YtncbimbbkealmaaGreatDoor
open Go.RowKit Go.Shelf
set_option maxRecDepth 100000

/-- append onto a row of the call's own, as one step of a region that draws -/
theorem step_append_own {P : Program} {ops : Array Oper} {o : Oper} {a : Act} {w : World} {K : Act → World → Prop} {Q : Exit → Act → World → Prop} {E : Prop}
    (hg : o.guard = none) (s x : Operand) (t : TypeId) (hop : o.op = Op.call { callee := Callee.builtin Builtin.append, args := #[s, x], argTypes := #[t, t] })
    (base : Nat) (e : TypeId) (i : TypeInfo) (z : Value) (size bytes : Nat) (h1 : P.underlying t = some (.slice e)) (h2 : P.info? e = some i) (h3 : i.zero = some z) (h4 : i.size = size) (h5 : i.bytes = bytes) (h6 : z.cells.size = size) (h7 : 0 < size)
    (v : Value) (n : Nat) (xs : List Value) (hs : a.eval s = v) (hown : w.ownsRow base e size v n xs)
    (ad : Addr) (m c : Nat) (news : List Value) (hx : a.eval x = .slice (some ad) m c) (hn : news.length = m * size) (hc : ∀ j u, news[j]? = some u → w.cell? (ad.add j) = some u) (h1c : ∀ u ∈ news, u.oneCell' = true)
    (b1 : n + m ≤ maxLen) (b2 : (n + m) * bytes ≤ 140737488355328) (b3 : base ≤ w.heap.size)
    (hK : ∀ v' w', w'.ownsRow base e size v' (n + m) (xs ++ news) → w.grownBy w' v.ownBlock → K (a.put o.dst v') w') :
    if Region.wanted o (yielded ops a.tmps) = true then Oper.wp P o a w K Q else E := by
  have hw : Region.wanted o (yielded ops a.tmps) = true := by simp [Region.wanted, hg]
  rw [if_pos hw]
  obtain ⟨v', w', hrun, r1, r2, _⟩ := run_append_own (P := P) w base t o.type e i z size bytes h1 h2 h3 h4 h5 h6 h7 v n xs hown ad m c news hn hc h1c b1 b2 b3
  unfold Oper.wp
  simp [execOp, hop, resolve, invoke, builtin, hs, hx, hrun, Result.andThen]
  exact hK v' w' r1 r2
/-- numbers, as cells -/
def rowI (ys : List Int) : List Value := ys.map fun z => .int .i64 z
theorem rowI_length (ys : List Int) : (rowI ys).length = ys.length := by simp [rowI]
theorem rowI_zl (x : List Nat) : rowI (zl x) = x.map fun i => .int .i64 ((i : Nat) : Int) := by simp [rowI, zl]
theorem rowI_app (xs ys : List Int) : rowI (xs ++ ys) = rowI xs ++ rowI ys := by simp [rowI]
theorem rowI_get {ys : List Int} {i : Nat} {u : Value} (h : (rowI ys)[i]? = some u) : i < ys.length ∧ u = .int .i64 (ys[i]?.getD 0) := by
  unfold rowI at h
  rw [List.getElem?_map] at h
  cases hx : ys[i]? with
  | none => rw [hx] at h; cases h
  | some v =>
    rw [hx] at h
    injection h with h
    obtain ⟨h1, _⟩ := List.getElem?_eq_some_iff.1 hx
    exact ⟨h1, by rw [← h]; simp⟩
theorem rowI_one (ys : List Int) : ∀ u ∈ rowI ys, u.oneCell' = true := fun u hu => by unfold rowI at hu; rw [List.mem_map] at hu; obtain ⟨_, _, rfl⟩ := hu; rfl
theorem SlS.srcI {w : World} {v : Value} {zs : List Int} {ad : Addr} {l cap : Nat} (hS : SlS w v zs) (hv : v = .slice (some ad) l cap) : ∀ q u, (rowI zs)[q]? = some u → w.cell? (ad.add q) = some u := fun q u hq => by
  obtain ⟨q1, q2⟩ := rowI_get hq
  obtain ⟨a', cap', e1, _, _, e3⟩ := hS.1
  obtain ⟨b, off, rfl, hb, hc⟩ := e3 (by intro c; subst c; simp at q1)
  rw [hv] at e1
  injection e1 with e1 _ _
  injection e1 with e1
  rw [e1, add_none, hc q q1, q2]
theorem row_slI {w : World} {base : Nat} {v : Value} {n : Nat} {ys : List Int} (h : w.ownsRow base 2 1 v n (rowI ys)) (hn : ys.length = n) : SlI w v ys := by
  have hm : maxLen ≤ 9223372036854775807 := by unfold maxLen; omega
  rcases h.2 with ⟨rfl, rfl⟩ | ⟨g, cap, cur, rfl, hg, hh, hnc, hc, hs, hx⟩
  · rw [List.length_eq_zero_iff] at hn
    subst hn
    exact ⟨none, 0, rfl, Nat.zero_le _, by omega, fun c => absurd rfl c⟩
  · refine ⟨some ⟨g, 0, none⟩, cap, by rw [hn], by omega, by omega, fun _ => ⟨g, 0, rfl, (Array.getElem?_eq_some_iff.1 hh).1, fun i hi => ?_⟩⟩
    have h1 : (cur.toList.take (n * 1))[i]? = some (.int .i64 (ys[i]?.getD 0)) := by
      rw [hx]
      simp [rowI, hi]
    rw [List.getElem?_take_of_lt (by omega)] at h1
    rw [Nat.zero_add]
    simpa [World.cell?, hh] using h1

section
variable (w : World)
theorem first_rowI (n : Nat) (hn : n ≤ 5) :
    Calls Tryz.prog 59 #[.int .i64 n] w fun r w' => (∃ v, r = .returned v ∧ Hid (w'.ownsRow w.heap.size 2 1 v n (rowI (zl (List.range n))))) ∧ Below w.heap.size w w' := by
  rw [rowI_zl]
  exact first_row w n hn
set_option maxHeartbeats 4000000 in
theorem skpart_any (k n e m : Nat) (x : List Nat) (v : Value) (h : VK k n e) (hS : SlS w v (zl x)) (hm : x.length = m) (hx : okList n (k + m) (List.range k ++ x) = true) (hvk : VK k (k + m : Nat) (onL e (List.range k ++ x) : Nat)) :
    Calls Tryz.prog 81 #[.agg #[.int .i64 k, .int .i64 n, .int .u32 e], v] w fun r w' => r = .returned (.agg #[.int .i64 k, .int .i64 ((k + m : Nat) : Int), .int .u32 (leastK (k + m) k (onL e (List.range k ++ x)) : Nat)]) ∧ Below w.heap.size w w' := by
  obtain ⟨he, hn5, hk3, hkn⟩ := h.nums
  have hroom := ok_len hx
  obtain ⟨i0, hi, hz0, hz1, hz2⟩ := info_parts info_i64
  obtain ⟨_, ad, cap, hv⟩ := id hS
  rw [zl_length, hm] at hv
  have hOn := Lib.hid (fun W u (hs : See (List.range k ++ x) u W) => sonL_any W u (List.range k ++ x) n (k + m) e hs hn5 (by omega) hx)
  have hLs := Lib.hid (fun W => sleastK_any W k (k + m) _ hvk)
  have hFr := Lib.hid (fun W => first_rowI W k (by omega))
  obtain ⟨y, hy⟩ : ∃ y, onL e (List.range k ++ x) = y := ⟨_, rfl⟩
  rw [hy] at hOn hLs ⊢
  obtain ⟨z, hz⟩ : ∃ z, leastK (k + m) k y = z := ⟨_, rfl⟩
  rw [hz] at hLs ⊢
  obtain ⟨wb, hwb⟩ : ∃ wb, wb = (w.alloc (.cells #[.int .i64 k, .int .i64 n, .int .u32 e] 43)).alloc (.cells #[.int .i64 0, .int .i64 0, .int .u32 0] 43) := ⟨_, rfl⟩
  have s1 : ∀ (W : World) (o : Obj), (W.alloc o).heap.size = W.heap.size + 1 := fun W o => by simp
  have hbz : wb.heap.size = w.heap.size + 2 := by rw [hwb, s1, s1]
  have hF : FC wb w.heap.size k n e := by rw [hwb]; exact (FC.made w k n e _).below ((Below.refl _ _).alloc (Nat.le_refl _) _)
  have hR : FC wb (w.heap.size + 1) 0 0 0 := by
    have := FC.made (w.alloc (.cells #[.int .i64 k, .int .i64 n, .int .u32 e] 43)) 0 0 0 43
    rw [s1, ← hwb] at this
    exact this
  have hfz : ∀ i, wb.frozen? ⟨w.heap.size + 1, i, none⟩ = false := fun i => by rw [hwb, fNew _ _ _ _ _ (by rw [s1])]
  have hB0 : Below w.heap.size w wb := by rw [hwb]; (repeat (first | exact Below.refl _ _ | assumption | refine bchain (by assumption) ?_ | refine balloc ?_ _ | apply Below.drew | apply below_drewN | (refine Below.alloc ?_ (by (try simp) <;> omega) _) | (refine Below.setCell ?_ (by (try simp) <;> omega) _)))
  have hsrc : ∀ W, Below wb.heap.size wb W → ∀ q u, (rowI (zl x))[q]? = some u → W.cell? (ad.add q) = some u := fun W hW => ((hS.below hB0).below hW).srcI hv
  have hsee : ∀ W u, W.ownsRow wb.heap.size 2 1 u (k + m) (rowI (zl (List.range k)) ++ rowI (zl x)) → See (List.range k ++ x) u W := fun W u hu => by
    rw [← rowI_app, show zl (List.range k) ++ zl x = zl (List.range k ++ x) by simp [zl]] at hu
    exact row_slI hu (by rw [zl_length, List.length_append, hm]; simp)
  have hrl : (rowI (zl x)).length = m * 1 := by rw [rowI_length, zl_length, hm]; omega
  have h1c := rowI_one (zl x)
  obtain ⟨X, hX⟩ : ∃ X, X = rowI (zl x) := ⟨_, rfl⟩
  obtain ⟨X0, hX0⟩ : ∃ X0, X0 = rowI (zl (List.range k)) := ⟨_, rfl⟩
  rw [← hX] at hsrc hrl h1c hsee
  rw [← hX0] at hsee hFr
  subst hv
  replace hsrc := Lib.hid hsrc
  replace hsee := Lib.hid hsee
  replace hrl := Lib.hid hrl
  replace h1c := Lib.hid h1c
  replace hi := Lib.hid hi
  replace hz0 := Lib.hid hz0
  replace hz1 := Lib.hid hz1
  replace hz2 := Lib.hid hz2
  replace hwb := Lib.hid hwb
  obtain ⟨f0, f1, f2, f3⟩ := hF
  obtain ⟨r0, r1, r2, r3⟩ := hR
  clear hx hy hz hm hS s1 h hvk hX hX0
  rw [show ((k + m : Nat) : Int) = (k : Int) + (m : Int) from Int.natCast_add k m] at hOn hLs ⊢
  go_enter Tryz.func81, Tryz.ntmps81
  go_wp2_with fail
  rw [← hwb.out]
  refine (hFr.out _).mono ?_
  rintro r3' w3 ⟨⟨u3, rfl, hown3⟩, hb3⟩
  have hge3 := hb3.size
  go_wp2_with (at_builtin; refine wpList_append_own _ rfl _ _ 69 rfl wb.heap.size 2 i0 (.int .i64 0) 1 8 Tryz.underlying69 hi.out hz0.out hz1.out hz2.out rfl (by decide) _ _ _ rfl hown3.out ad m cap X rfl hrl.out (hsrc.out w3 hb3) h1c.out (by unfold maxLen; omega) (by omega) hge3 ?_; intro v' w4 hown' hgrow _)
  have hb4 : Below wb.heap.size wb w4 := hb3.grown hgrow hge3 (fun q hq => (hown3.out.lt q hq).1)
  have hse := Lib.hid (hsee.out w4 v' hown')
  have d0 := old_cell f0 f1 hb4
  have d1 := old_cell f0 f2 hb4
  have d2 := old_cell f0 f3 hb4
  have dl : w.heap.size < w4.heap.size := Nat.lt_of_lt_of_le f0 hb4.size
  have dl2 : w.heap.size + 1 < w4.heap.size := Nat.lt_of_lt_of_le r0 hb4.size
  have dr0 := old_cell r0 r1 hb4
  have dr1 := old_cell r0 r2 hb4
  have dr2 := old_cell r0 r3 hb4
  have df : ∀ i, w4.frozen? ⟨w.heap.size + 1, i, none⟩ = false := fun i => (hb4.frozen (p := ⟨w.heap.size + 1, i, none⟩) r0).trans (hfz i)
  have hB4 : Below w.heap.size w w4 := hB0.trans (hb4.mono hB0.size)
  replace df := Lib.hid df
  clear hown' hgrow hown3 hb3 hb4 f0 f1 f2 f3 r0 r1 r2 r3 hsrc hfz hFr hsee hge3 hB0
  go_wp2_with fail
  go_region_held3 (fun A => A.cell? ⟨w.heap.size, 0, none⟩ = some (.int .i64 k) ∧ A.cell? ⟨w.heap.size, 1, none⟩ = some (.int .i64 n) ∧ A.cell? ⟨w.heap.size, 2, none⟩ = some (.int .u32 e))
    (first | exact ⟨three_other v0, three_other v1, three_other v2⟩ | exact ⟨old_cell dl d0 (by (repeat (first | exact Below.refl _ _ | assumption | refine bchain (by assumption) ?_ | refine balloc ?_ _ | apply Below.drew | apply below_drewN | (refine Below.alloc ?_ (by (try simp) <;> omega) _) | (refine Below.setCell ?_ (by (try simp) <;> omega) _)))), old_cell dl d1 (by (repeat (first | exact Below.refl _ _ | assumption | refine bchain (by assumption) ?_ | refine balloc ?_ _ | apply Below.drew | apply below_drewN | (refine Below.alloc ?_ (by (try simp) <;> omega) _) | (refine Below.setCell ?_ (by (try simp) <;> omega) _)))), old_cell dl d2 (by (repeat (first | exact Below.refl _ _ | assumption | refine bchain (by assumption) ?_ | refine balloc ?_ _ | apply Below.drew | apply below_drewN | (refine Below.alloc ?_ (by (try simp) <;> omega) _) | (refine Below.setCell ?_ (by (try simp) <;> omega) _))))⟩)
    (first
    | (go_at_call 58; refine (hOn.out _ _ (See.below _ _ _ _ hse.out (by (repeat (first | exact Below.refl _ _ | assumption | refine bchain (by assumption) ?_ | refine balloc ?_ _ | apply Below.drew | apply below_drewN | (refine Below.alloc ?_ (by (try simp) <;> omega) _) | (refine Below.setCell ?_ (by (try simp) <;> omega) _)))))).mono ?_; rintro r5 w5 ⟨rfl, hb5⟩)
    | (go_at_call 79; refine (hLs.out _).mono ?_; rintro r6 w6 ⟨rfl, hb6⟩; have hb66 : Below w4.heap.size w4 w6 := (by (repeat (first | exact Below.refl _ _ | assumption | refine bchain (by assumption) ?_ | refine balloc ?_ _ | apply Below.drew | apply below_drewN | (refine Below.alloc ?_ (by (try simp) <;> omega) _) | (refine Below.setCell ?_ (by (try simp) <;> omega) _)))); have v0 := old_cell dl d0 hb66; have v1 := old_cell dl d1 hb66; have v2 := old_cell dl d2 hb66; have t0 := old_cell dl2 dr0 hb66; have t1 := old_cell dl2 dr1 hb66; have t2 := old_cell dl2 dr2 hb66; have u0 := ((hb66.frozen (p := ⟨w.heap.size + 1, 0, none⟩) dl2).trans (df.out 0)); have u1 := ((hb66.frozen (p := ⟨w.heap.size + 1, 1, none⟩) dl2).trans (df.out 1)); have u2 := ((hb66.frozen (p := ⟨w.heap.size + 1, 2, none⟩) dl2).trans (df.out 2))))
  all_goals
    have hfc : FC w6 (w.heap.size + 1) 0 0 0 := ⟨Nat.lt_of_lt_of_le dl2 hb66.size, t0, t1, t2⟩
    have hbw : Below w.heap.size w w6 := hB4.trans (hb66.mono hB4.size)
    clear hb5 hb6 hb66 d0 d1 d2 dr0 dr1 dr2 dl dl2 hOn hLs
    go_wp2
    have hF := hfc.put (k) ((k : Int) + m) (z)
    have hBB := (((hbw.setCell (p := ⟨w.heap.size + 1, 0, none⟩) (by show w.heap.size ≤ w.heap.size + 1; omega) (.int .i64 (k))).setCell (p := ⟨w.heap.size + 1, 1, none⟩) (by show w.heap.size ≤ w.heap.size + 1; omega) (.int .i64 ((k : Int) + m))).setCell (p := ⟨w.heap.size + 1, 2, none⟩) (by show w.heap.size ≤ w.heap.size + 1; omega) (.int .u32 (z)))
    obtain ⟨WW, hWW⟩ : ∃ WW, WW = (((w6.setCell ⟨w.heap.size + 1, 0, none⟩ (.int .i64 (k))).setCell ⟨w.heap.size + 1, 1, none⟩ (.int .i64 ((k : Int) + m))).setCell ⟨w.heap.size + 1, 2, none⟩ (.int .u32 (z))) := ⟨_, rfl⟩
    rw [← hWW] at hF hBB ⊢
    clear hWW
    obtain ⟨_, hF0, hF1, hF2⟩ := hF
    exact bodyPost_ret (v := .agg #[.int .i64 (k), .int .i64 ((k : Int) + m), .int .u32 (z)]) (by simp [results, Tryz.results81, go_sem, hF0, hF1, hF2]) rfl ⟨rfl, hBB⟩
end
end Go.Proofs.YtncbimbbkealmaaGreatDoor
/-
  TURNED FLAGS: a flag is among the turns of another one just if both have the same least flag. Plain facts on bits and lists.
-/
namespace Go.Proofs.YtncbimbbkealmaaGreatDoor
set_option maxRecDepth 100000

theorem jn_symm (e i j : Nat) : jn e i j = jn e j i := by unfold jn pp; rw [Nat.max_comm, Nat.min_comm]
theorem opp_inj' : ((List.range 5).all fun j => (List.range j).all fun i => (List.range 5).all fun j' => (List.range j').all fun i' => pp i j != pp i' j' || (i == i' && j == j')) = true := by decide +kernel
theorem opp_inj (j : Nat) (hj : j ≤ 4) (i : Nat) (hi : i < j) (j' : Nat) (hj' : j' ≤ 4) (i' : Nat) (hi' : i' < j') (h : pp i j = pp i' j') : i = i' ∧ j = j' := by
  have h1 := List.all_eq_true.1 opp_inj' j (List.mem_range.2 (by omega))
  have h2 := List.all_eq_true.1 h1 i (List.mem_range.2 hi)
  have h3 := List.all_eq_true.1 h2 j' (List.mem_range.2 (by omega))
  have h4 := List.all_eq_true.1 h3 i' (List.mem_range.2 hi')
  simpa [h] using h4
theorem orowE_bit (e : Nat) (f : Nat → Nat) (j m i' j' : Nat) (hm : m ≤ j) (hj : j ≤ 4) (h : i' < j') (hj' : j' ≤ 4) : (rowE e f j m).testBit (pp i' j') = (decide (j' = j) && decide (i' < m) && jn e (f i') (f j')) := by
  induction m with
  | zero => simp [rowE]
  | succ m ih =>
    have h1 := ih (by omega)
    rw [rowE, Nat.testBit_or, h1]
    by_cases hc : j' = j ∧ i' = m
    · obtain ⟨rfl, rfl⟩ := hc
      cases hv : jn e (f i') (f j')
      · simp
      · simp [pb, Nat.testBit_two_pow_self]
    · have hne : (if jn e (f m) (f j) = true then pb m j else 0).testBit (pp i' j') = false := by
        split
        · unfold pb
          rw [Nat.testBit_two_pow]
          refine decide_eq_false (fun c => hc ?_)
          obtain ⟨a, b⟩ := opp_inj j hj m (by omega) j' hj' i' h c
          exact ⟨b.symm, a.symm⟩
        · simp
      rw [hne, Bool.or_false]
      by_cases c1 : j' = j
      · have : ¬ i' = m := fun c => hc ⟨c1, c⟩
        have e1 : decide (i' < m + 1) = decide (i' < m) := by
          by_cases c2 : i' < m
          · rw [decide_eq_true c2, decide_eq_true (by omega)]
          · rw [decide_eq_false c2, decide_eq_false (by omega)]
        rw [e1]
      · simp [c1]
theorem oonE_bit (e : Nat) (f : Nat → Nat) (m i j : Nat) (hm : m ≤ 5) (h : i < j) (hj : j ≤ 4) : (onE e f m).testBit (pp i j) = (decide (j < m) && jn e (f i) (f j)) := by
  induction m with
  | zero => simp [onE]
  | succ m ih =>
    rw [onE, Nat.testBit_or, ih (by omega), orowE_bit e f m m i j (Nat.le_refl _) (by omega) h hj]
    by_cases c : j = m
    · subst c
      simp [h]
    · simp only [c, decide_false, Bool.false_and, Bool.or_false]
      have e1 : decide (j < m + 1) = decide (j < m) := by
        by_cases c2 : j < m
        · rw [decide_eq_true c2, decide_eq_true (by omega)]
        · rw [decide_eq_false c2, decide_eq_false (by omega)]
      rw [e1]
theorem jn_onE (e : Nat) (f : Nat → Nat) (m i j : Nat) (hm : m ≤ 5) (hi : i < m) (hj : j < m) (hne : i ≠ j) : jn (onE e f m) i j = jn e (f i) (f j) := by
  by_cases h : i < j
  · have := oonE_bit e f m i j hm h (by omega)
    rw [decide_eq_true hj, Bool.true_and] at this
    exact this
  · have := oonE_bit e f m j i hm (by omega) (by omega)
    rw [decide_eq_true hi, Bool.true_and] at this
    rw [jn_symm, jn_symm e (f i)]
    exact this
theorem rowE_congr {e e' : Nat} {f f' : Nat → Nat} {j m : Nat} (h : ∀ i, i < m → jn e (f i) (f j) = jn e' (f' i) (f' j)) : rowE e f j m = rowE e' f' j m := by
  induction m with
  | zero => rfl
  | succ m ih => rw [rowE, rowE, ih (fun i hi => h i (by omega)), h m (by omega)]
theorem onE_congr {e e' : Nat} {f f' : Nat → Nat} {m : Nat} (h : ∀ j, j < m → ∀ i, i < j → jn e (f i) (f j) = jn e' (f' i) (f' j)) : onE e f m = onE e' f' m := by
  induction m with
  | zero => rfl
  | succ m ih => rw [onE, onE, ih (fun j hj => h j (by omega)), rowE_congr (h m (by omega))]
/-- a list of a list -/
def cmp (x y : List Nat) : List Nat := y.map fun v => x[v]?.getD 0
theorem cmp_length (x y : List Nat) : (cmp x y).length = y.length := by simp [cmp]
theorem cmp_get (x y : List Nat) {i : Nat} (h : i < y.length) : (cmp x y)[i]?.getD 0 = x[y[i]?.getD 0]?.getD 0 := by
  unfold cmp
  rw [List.getElem?_map, List.getElem?_eq_getElem h]
  rfl
theorem ok_ne {n k : Nat} {x : List Nat} (h : okList n k x = true) {i j : Nat} (hij : i < j) (hj : j < k) : x[i]?.getD 0 ≠ x[j]?.getD 0 := by
  simp only [okList, Bool.and_eq_true, beq_iff_eq, List.all_eq_true, List.mem_range, decide_eq_true_eq, bne_iff_ne] at h
  exact (h.2 j hj).2 i hij
theorem ok_mk {n k : Nat} {x : List Nat} (hl : x.length = k) (h1 : ∀ i, i < k → x[i]?.getD 0 < n) (h2 : ∀ i j, i < j → j < k → x[i]?.getD 0 ≠ x[j]?.getD 0) : okList n k x = true := by
  simp only [okList, Bool.and_eq_true, beq_iff_eq, List.all_eq_true, List.mem_range, decide_eq_true_eq, bne_iff_ne]
  exact ⟨hl, fun i hi => ⟨h1 i hi, fun j hj => h2 j i hj hi⟩⟩
theorem ok_inj {n k : Nat} {x : List Nat} (h : okList n k x = true) {i j : Nat} (hi : i < k) (hj : j < k) (hne : i ≠ j) : x[i]?.getD 0 ≠ x[j]?.getD 0 := by
  by_cases c : i < j
  · exact ok_ne h c hj
  · exact (ok_ne h (by omega) hi).symm
theorem onL_comp (e : Nat) {n m k : Nat} {x y : List Nat} (hx : okList n m x = true) (hy : okList m k y = true) (hm : m ≤ 5) : onL (onL e x) y = onL e (cmp x y) := by
  have hlx := ok_length hx
  have hly := ok_length hy
  unfold onL
  rw [cmp_length]
  refine onE_congr fun j hj i hi => ?_
  rw [vx_zl, vx_zl, vx_zl, vx_zl, cmp_get x y (by omega), cmp_get x y hj, hlx]
  rw [jn_onE e _ m _ _ hm (ok_lt hy (by omega)) (ok_lt hy (by omega)) (ok_ne hy hi (by omega)), vx_zl, vx_zl]
theorem cmp_ok {n m k : Nat} {x y : List Nat} (hx : okList n m x = true) (hy : okList m k y = true) : okList n k (cmp x y) = true := by
  have hly := ok_length hy
  refine ok_mk (by rw [cmp_length, hly]) (fun i hi => ?_) (fun i j hij hj => ?_)
  · rw [cmp_get x y (by omega)]
    exact ok_lt hx (ok_lt hy hi)
  · rw [cmp_get x y (by omega), cmp_get x y (by omega)]
    exact ok_inj hx (ok_lt hy (by omega)) (ok_lt hy hj) (ok_ne hy hij hj)

/-- which lists there are -/
theorem mem_ext {n : Nat} : ∀ (m : Nat) (p x : List Nat), x.length = p.length + m → x.take p.length = p → okList n x.length x = true → x ∈ ext n m p := by
  intro m
  induction m with
  | zero =>
    intro p x hl hp _
    have hx : x = p := by rw [← hp, List.take_of_length_le (by omega)]
    rw [hx]
    simp [ext]
  | succ m ih =>
    intro p x hl hp hx
    rw [ext, List.mem_flatMap]
    have hlt : p.length < x.length := by omega
    refine ⟨x[p.length], ?_, ?_⟩
    · have := ok_lt hx hlt
      rw [List.getElem?_eq_getElem hlt] at this
      simpa using this
    · have hnc : p.contains x[p.length] = false := by
        rw [Bool.eq_false_iff]
        intro c
        have c1 : x[p.length] ∈ p := by simpa using c
        obtain ⟨i, hi, he⟩ := List.getElem_of_mem c1
        have h2 := ok_ne hx hi hlt
        have h3 : p[i] = x[i] := by
          have : (x.take p.length)[i]? = p[i]? := by rw [hp]
          rw [List.getElem?_take, if_pos hi, List.getElem?_eq_getElem (by omega), List.getElem?_eq_getElem hi] at this
          exact (Option.some.inj this).symm
        rw [List.getElem?_eq_getElem (by omega), List.getElem?_eq_getElem hlt] at h2
        exact h2 (by rw [Option.getD_some, Option.getD_some, ← h3, he])
      rw [hnc]
      refine ih (p ++ [x[p.length]]) x (by simp; omega) ?_ hx
      rw [List.length_append, List.length_singleton, List.take_succ_eq_append_getElem hlt, hp]
theorem turns_take : ∀ n, n ≤ 5 → ∀ k, k ≤ 3 → k ≤ n → (turns n k).all (fun x => x.take k == List.range k) = true := by decide +kernel
theorem turns_iff {n k : Nat} (hn : n ≤ 5) (hk : k ≤ 3) (hkn : k ≤ n) {x : List Nat} : x ∈ turns n k ↔ okList n n x = true ∧ x.take k = List.range k := by
  constructor
  · intro h
    exact ⟨turns_ok hn hk hkn h, by simpa using List.all_eq_true.1 (turns_take n hn k hk hkn) x h⟩
  · rintro ⟨h1, h2⟩
    have hl := ok_length h1
    refine mem_ext (n - k) (List.range k) x (by simp; omega) (by rw [List.length_range]; exact h2) (by rw [hl]; exact h1)
theorem turns_cmp {n k : Nat} (hn : n ≤ 5) (hk : k ≤ 3) (hkn : k ≤ n) {x y : List Nat} (hx : x ∈ turns n k) (hy : y ∈ turns n k) : cmp x y ∈ turns n k := by
  rw [turns_iff hn hk hkn] at *
  refine ⟨cmp_ok hx.1 hy.1, ?_⟩
  have e1 : (cmp x y).take k = cmp x (y.take k) := by simp [cmp, List.map_take]
  rw [e1, hy.2]
  have hlx := ok_length hx.1
  refine List.ext_getElem? fun i => ?_
  by_cases hi : i < k
  · have h1 : (x.take k)[i]? = (List.range k)[i]? := by rw [hx.2]
    rw [List.getElem?_take, if_pos hi] at h1
    unfold cmp
    rw [List.getElem?_map, List.getElem?_range hi, Option.map_some, h1, List.getElem?_range hi]
    rfl
  · rw [List.getElem?_eq_none (by rw [cmp_length]; simp; omega), List.getElem?_eq_none (by simp; omega)]
theorem turns_inv' : ∀ n, n ≤ 5 → ∀ k, k ≤ 3 → k ≤ n → ((turns n k).all fun x => (turns n k).any fun y => cmp x y == List.range n) = true := by decide +kernel
theorem turns_inv {n k : Nat} (hn : n ≤ 5) (hk : k ≤ 3) (hkn : k ≤ n) {x : List Nat} (hx : x ∈ turns n k) : ∃ y ∈ turns n k, cmp x y = List.range n := by
  have := List.all_eq_true.1 (turns_inv' n hn k hk hkn) x hx
  obtain ⟨y, h1, h2⟩ := List.any_eq_true.1 this
  exact ⟨y, h1, by simpa using h2⟩
theorem onL_id : ∀ n, n ≤ 5 → ∀ e, e < eMax n → onL e (List.range n) = e := by decide +kernel
theorem range_ok {n m : Nat} (h : m ≤ n) : okList n m (List.range m) = true :=
  ok_mk (by simp) (fun i hi => by rw [List.getElem?_range hi]; simp; omega) (fun i j hij hj => by rw [List.getElem?_range hj, List.getElem?_range (by omega)]; simp; omega)
theorem range_turn {n k : Nat} (hn : n ≤ 5) (hk : k ≤ 3) (hkn : k ≤ n) : List.range n ∈ turns n k := by
  rw [turns_iff hn hk hkn]
  refine ⟨range_ok (Nat.le_refl _), ?_⟩
  rw [List.take_range, Nat.min_eq_left hkn]
/-- the edges of a flag's turns -/
def tE (n k e : Nat) : List Nat := (turns n k).map (onL e)
theorem minE_all (e : Nat) (pre : List (List Nat)) : ∀ x ∈ pre, minE e pre ≤ onL e x := by
  have : ∀ (l : List (List Nat)) (a : Nat), l.foldl (fun b x => min b (onL e x)) a ≤ a ∧ ∀ x ∈ l, l.foldl (fun b x => min b (onL e x)) a ≤ onL e x := by
    intro l
    induction l with
    | nil => intro a; exact ⟨Nat.le_refl _, fun x hx => by cases hx⟩
    | cons y l ih =>
      intro a
      obtain ⟨h1, h2⟩ := ih (min a (onL e y))
      refine ⟨Nat.le_trans h1 (Nat.min_le_left _ _), fun x hx => ?_⟩
      rcases List.mem_cons.1 hx with rfl | hx
      · exact Nat.le_trans h1 (Nat.min_le_right _ _)
      · exact h2 x hx
  exact (this pre e).2
theorem minE_mem (e : Nat) (pre : List (List Nat)) : minE e pre = e ∨ ∃ x ∈ pre, minE e pre = onL e x := by
  have : ∀ (l : List (List Nat)) (a : Nat), l.foldl (fun b x => min b (onL e x)) a = a ∨ ∃ x ∈ l, l.foldl (fun b x => min b (onL e x)) a = onL e x := by
    intro l
    induction l with
    | nil => intro a; exact .inl rfl
    | cons y l ih =>
      intro a
      rw [List.foldl_cons]
      rcases ih (min a (onL e y)) with h | ⟨x, h1, h2⟩
      · rcases Nat.le_total a (onL e y) with c | c
        · exact .inl (by rw [h, Nat.min_eq_left c])
        · exact .inr ⟨y, by simp, by rw [h, Nat.min_eq_right c]⟩
      · exact .inr ⟨x, by simp [h1], h2⟩
  exact this pre e
section
variable {k n e y : Nat}
theorem VK.id (h : VK k n e) : onL e (List.range n) = e := by
  obtain ⟨_, hn, _, _⟩ := h.nums
  exact onL_id n hn e (by have := h.1.2.2.2; simpa using this)
theorem tE_self (h : VK k n e) : e ∈ tE n k e := by
  obtain ⟨_, hn, hk, hkn⟩ := h.nums
  exact List.mem_map.2 ⟨_, range_turn hn hk hkn, h.id⟩
theorem tE_trans (hn : n ≤ 5) (hk : k ≤ 3) (hkn : k ≤ n) {z : Nat} (h1 : y ∈ tE n k e) (h2 : z ∈ tE n k y) : z ∈ tE n k e := by
  obtain ⟨x, hx, rfl⟩ := List.mem_map.1 h1
  obtain ⟨x', hx', rfl⟩ := List.mem_map.1 h2
  exact List.mem_map.2 ⟨cmp x x', turns_cmp hn hk hkn hx hx', (onL_comp e (turns_ok hn hk hkn hx) (turns_ok hn hk hkn hx') hn).symm⟩
theorem tE_symm (h : VK k n e) (h1 : y ∈ tE n k e) : e ∈ tE n k y := by
  obtain ⟨_, hn, hk, hkn⟩ := h.nums
  obtain ⟨x, hx, rfl⟩ := List.mem_map.1 h1
  obtain ⟨x', hx', he⟩ := turns_inv hn hk hkn hx
  exact List.mem_map.2 ⟨x', hx', by rw [onL_comp e (turns_ok hn hk hkn hx) (turns_ok hn hk hkn hx') hn, he, h.id]⟩
theorem leastK_mem (h : VK k n e) : leastK n k e ∈ tE n k e := by
  rcases minE_mem e (turns n k) with c | ⟨x, hx, c⟩
  · rw [leastK, c]; exact tE_self h
  · exact List.mem_map.2 ⟨x, hx, c.symm⟩
theorem leastK_le {z : Nat} (h : z ∈ tE n k e) : leastK n k e ≤ z := by
  obtain ⟨x, hx, rfl⟩ := List.mem_map.1 h
  exact minE_all e (turns n k) x hx
theorem leastK_same (h : VK k n e) (hy : VK k n y) (h1 : y ∈ tE n k e) : leastK n k y = leastK n k e := by
  obtain ⟨_, hn, hk, hkn⟩ := h.nums
  have a := leastK_le (tE_trans hn hk hkn h1 (leastK_mem hy))
  have b := leastK_le (tE_trans hn hk hkn (tE_symm h h1) (leastK_mem h))
  omega
theorem orb (h : VK k n e) (hy : VK k n y) : y ∈ tE n k e ↔ leastK n k y = leastK n k e := by
  obtain ⟨_, hn, hk, hkn⟩ := h.nums
  refine ⟨leastK_same h hy, fun hl => ?_⟩
  have h1 := leastK_mem hy
  rw [hl] at h1
  exact tE_trans hn hk hkn (leastK_mem h) (tE_symm hy h1)
end
end Go.Proofs.YtncbimbbkealmaaGreatDoor
/-
  THE LEAST FLAGS OF A TYPE, IN ASCENDING ORDER: a flag has come among the turns of an earlier one just if it is not least. Plain facts.
-/
namespace Go.Proofs.YtncbimbbkealmaaGreatDoor
set_option maxRecDepth 100000

theorem eMax_pc : ∀ k, k ≤ 5 → eMax k = 2 ^ pc k := by decide
theorem pp_ltP : ∀ m, m ≤ 5 → ∀ j, j < m → ∀ i, i < j → pp i j < pc m := by decide +kernel
theorem pp_all : ∀ k, k ≤ 5 → ∀ b, b < pc k → ∃ j, j < k ∧ ∃ i, i < j ∧ pp i j = b := by decide +kernel
theorem rowE_ltP (e : Nat) (f : Nat → Nat) (j i m : Nat) (hij : i ≤ j) (hj : j < m) (hm : m ≤ 5) : rowE e f j i < 2 ^ pc m := by
  induction i with
  | zero => exact Nat.pow_pos (by omega)
  | succ i ih =>
    refine Nat.or_lt_two_pow (ih (by omega)) ?_
    split
    · exact Nat.pow_lt_pow_right (by omega) (pp_ltP m hm j hj i (by omega))
    · exact Nat.pow_pos (by omega)
theorem onE_ltP (e : Nat) (f : Nat → Nat) (j m : Nat) (hj : j ≤ m) (hm : m ≤ 5) : onE e f j < 2 ^ pc m := by
  induction j with
  | zero => exact Nat.pow_pos (by omega)
  | succ j ih => exact Nat.or_lt_two_pow (ih (by omega)) (rowE_ltP e f j j m (Nat.le_refl _) (by omega) hm)
theorem onL_ltP (e : Nat) {n m : Nat} {x : List Nat} (hx : okList n m x = true) (hm : m ≤ 5) : onL e x < eMax m := by
  rw [eMax_pc m hm]
  unfold onL
  exact onE_ltP e _ _ m (by rw [ok_length hx]; exact Nat.le_refl _) hm
theorem VK.mk' {k n e : Nat} (hn : n ≤ 5) (hk : k ≤ 3) (hkn : k ≤ n) (he : e < eMax n) : VK k n e :=
  ⟨⟨by omega, by omega, by omega, by simpa using he⟩, by omega, by omega, by omega⟩
theorem VK.lt' {k n e : Nat} (h : VK k n e) : e < eMax n := by have := h.1.2.2.2; simpa using this
theorem tE_ok {k n e y : Nat} (h : VK k n e) (hy : y ∈ tE n k e) : VK k n y := by
  obtain ⟨_, hn, hk, hkn⟩ := h.nums
  obtain ⟨x, hx, rfl⟩ := List.mem_map.1 hy
  exact VK.mk' hn hk hkn (onL_ltP e (turns_ok hn hk hkn hx) hn)
/-- turned flags have the same type -/
theorem tE_low {k n e y : Nat} (h : VK k n e) (hy : y ∈ tE n k e) : y % 2 ^ pc k = e % 2 ^ pc k := by
  obtain ⟨_, hn, hk, hkn⟩ := h.nums
  obtain ⟨x, hx, rfl⟩ := List.mem_map.1 hy
  have hok := turns_ok hn hk hkn hx
  have htk := ((turns_iff hn hk hkn).1 hx).2
  have hget : ∀ i, i < k → x[i]?.getD 0 = i := fun i hi => by
    have h1 : (x.take k)[i]? = (List.range k)[i]? := by rw [htk]
    rw [List.getElem?_take, if_pos hi, List.getElem?_range hi] at h1
    rw [h1]
    rfl
  apply Nat.eq_of_testBit_eq
  intro b
  rw [Nat.testBit_mod_two_pow, Nat.testBit_mod_two_pow]
  by_cases hb : b < pc k
  · obtain ⟨j, hj, i, hi, rfl⟩ := pp_all k (by omega) b hb
    have hl := ok_length hok
    have h1 := oonE_bit e (vx (zl x)) n i j hn hi (by omega)
    rw [decide_eq_true (show j < n by omega), Bool.true_and, vx_zl, vx_zl, hget i (by omega), hget j hj] at h1
    unfold onL
    rw [hl, h1]
    rfl
  · simp [hb]
/-- the flag at an index -/
def kE (t k i : Nat) : Nat := t ||| i <<< pc k
theorem kE_eq {t k : Nat} (ht : t < 2 ^ pc k) (i : Nat) : kE t k i = 2 ^ pc k * i + t := by
  unfold kE
  rw [Nat.or_comm, Nat.shiftLeft_eq, Nat.mul_comm, ← Nat.two_pow_add_eq_or_of_lt ht]
theorem kE_lt {t k : Nat} (ht : t < 2 ^ pc k) {i j : Nat} : kE t k i < kE t k j ↔ i < j := by
  rw [kE_eq ht, kE_eq ht, Nat.add_lt_add_iff_right]
  exact Nat.mul_lt_mul_left (Nat.pow_pos (by omega))
theorem kE_inj {t k : Nat} (ht : t < 2 ^ pc k) {i j : Nat} (h : kE t k i = kE t k j) : i = j := by
  have h1 := kE_lt ht (i := i) (j := j)
  have h2 := kE_lt ht (i := j) (j := i)
  omega
theorem kE_low {t k : Nat} (ht : t < 2 ^ pc k) (i : Nat) : kE t k i % 2 ^ pc k = t := by
  rw [kE_eq ht, Nat.mul_add_mod, Nat.mod_eq_of_lt ht]
/-- how many there are -/
def kM (k n : Nat) : Nat := 2 ^ (pc n - pc k)
theorem pc_leP : ∀ n, n ≤ 5 → ∀ k, k ≤ n → pc k ≤ pc n := by decide
theorem kM_mul {k n : Nat} (hn : n ≤ 5) (hkn : k ≤ n) : 2 ^ pc k * kM k n = eMax n := by
  have := pc_leP n hn k hkn
  unfold kM
  rw [← Nat.pow_add, eMax_pc n hn]
  congr 1
  omega
theorem kE_max {t k n i : Nat} (hn : n ≤ 5) (hkn : k ≤ n) (ht : t < 2 ^ pc k) (hi : i < kM k n) : kE t k i < eMax n := by
  rw [kE_eq ht, ← kM_mul hn hkn]
  have : 2 ^ pc k * (i + 1) ≤ 2 ^ pc k * kM k n := Nat.mul_le_mul_left _ hi
  rw [Nat.mul_add] at this
  omega
theorem kE_of {k n y : Nat} (hn : n ≤ 5) (hkn : k ≤ n) (hy : y < eMax n) : ∃ i, i < kM k n ∧ y = kE (y % 2 ^ pc k) k i := by
  have hp : 0 < 2 ^ pc k := Nat.pow_pos (by omega)
  refine ⟨y / 2 ^ pc k, ?_, ?_⟩
  · rw [← kM_mul hn hkn] at hy
    exact Nat.div_lt_of_lt_mul hy
  · rw [kE_eq (Nat.mod_lt _ hp)]
    exact (Nat.div_add_mod y _).symm
/-- what has come behind the first i flags -/
def seenS (n k t i : Nat) : List Nat := (List.range i).flatMap fun j => if leastK n k (kE t k j) = kE t k j then tE n k (kE t k j) else []
theorem seenS_t {n k t i : Nat} (h : leastK n k (kE t k i) = kE t k i) : seenS n k t (i + 1) = seenS n k t i ++ tE n k (kE t k i) := by
  simp [seenS, List.range_succ, List.flatMap_append, h]
theorem seenS_f {n k t i : Nat} (h : leastK n k (kE t k i) ≠ kE t k i) : seenS n k t (i + 1) = seenS n k t i := by
  simp [seenS, List.range_succ, List.flatMap_append, h]
theorem seen_iff {n k t i : Nat} (hn : n ≤ 5) (hk : k ≤ 3) (hkn : k ≤ n) (ht : t < eMax k) (hi : i < kM k n) : kE t k i ∈ seenS n k t i ↔ leastK n k (kE t k i) ≠ kE t k i := by
  rw [eMax_pc k (by omega)] at ht
  have hV : ∀ j, j < kM k n → VK k n (kE t k j) := fun j hj => VK.mk' hn hk hkn (kE_max hn hkn ht hj)
  constructor
  · intro h
    obtain ⟨j, hj, hm⟩ := List.mem_flatMap.1 h
    rw [List.mem_range] at hj
    split at hm
    · rename_i hl
      have hs := leastK_same (hV j (by omega)) (hV i hi) hm
      have := (kE_lt ht).2 hj
      omega
    · cases hm
  · intro h
    have hm := leastK_mem (hV i hi)
    have hVm := tE_ok (hV i hi) hm
    have hlow := tE_low (hV i hi) hm
    rw [kE_low ht] at hlow
    obtain ⟨j, hj, he⟩ := kE_of (k := k) hn hkn hVm.lt'
    rw [hlow] at he
    have hle := leastK_le (tE_self (hV i hi))
    have hji : j < i := by
      refine (kE_lt ht).1 ?_
      omega
    have hself : leastK n k (kE t k j) = kE t k j := by
      have := leastK_same (hV i hi) hVm hm
      rw [← he]
      omega
    refine List.mem_flatMap.2 ⟨j, List.mem_range.2 hji, ?_⟩
    rw [if_pos hself, ← he]
    exact tE_symm (hV i hi) hm
end Go.Proofs.YtncbimbbkealmaaGreatDoor
/-
  A LOOP OVER AN ITERATOR THAT HAS MEMORY OF ITS OWN, WHERE THE ROUNDS MAKE AND CHANGE MEMORY TOO: 'Own' are the iterator's blocks; the loop's invariant abides whatever happens to them, and the rounds leave them as they are. No round leaves the loop. Over any program.
-/
namespace Go.Proofs.YtncbimbbkealmaaGreatDoor
open Go.RowKit

/-- only the blocks of Own have changed (and there may be new ones) -/
structure Chg (Own : Nat → Prop) (A A' : World) : Prop where
  os : A'.os = A.os
  tape : A'.tape = A.tape
  output : A'.output = A.output
  size : A.heap.size ≤ A'.heap.size
  same : ∀ k, k < A.heap.size → ¬ Own k → A'.heap[k]? = A.heap[k]?
theorem Chg.of_below {Own : Nat → Prop} {A A' : World} (h : Below A.heap.size A A') : Chg Own A A' := ⟨h.os, h.tape, h.output, h.size, fun k hk _ => h.block k hk⟩
theorem Chg.trans {Own : Nat → Prop} {A B C : World} (h : Chg Own A B) (k : Chg Own B C) : Chg Own A C :=
  ⟨k.os.trans h.os, k.tape.trans h.tape, k.output.trans h.output, Nat.le_trans h.size k.size, fun i hi hn => (k.same i (Nat.lt_of_lt_of_le hi h.size) hn).trans (h.same i hi hn)⟩
theorem Chg.mono {Own Own' : Nat → Prop} {A B : World} (h : Chg Own A B) (ho : ∀ b, Own b → Own' b) : Chg Own' A B := ⟨h.os, h.tape, h.output, h.size, fun i hi hn => h.same i hi (fun c => hn (ho i c))⟩
theorem Chg.putObj {Own : Nat → Prop} (A : World) (l : Nat) (o : Obj) (hl : Own l) : Chg Own A (A.putObj l o) :=
  ⟨rfl, rfl, rfl, by simp [World.putObj], fun k _ hn => World.putObj_heap_other (fun c => hn (by rw [c]; exact hl))⟩
theorem Chg.setCell {Own : Nat → Prop} (A : World) (p : Addr) (v : Value) (hl : Own p.block) : Chg Own A (A.setCell p v) :=
  ⟨by simp [World.setCell], by simp [World.setCell], by simp [World.setCell], by simp [World.setCell], fun k _ hn => Below.heap_setCell _ _ _ _ (fun c => hn (by rw [c]; exact hl))⟩

/-- the contract of such an iterator -/
def SeqOwn {α : Type} (F : Fence) (n : Nat) (P : Program) (g : Nat) (lb : Array Value) (Inv : World → Prop) (See : α → Value → World → Prop) (L : List α) (w : World) : Prop :=
  ∀ (l : Nat) (J : (Nat → Prop) → List α → World → Prop) (W : World), Below w.heap.size w W →
    (∀ Own, (∀ b, Own b → W.heap.size ≤ b) → ∀ s A A', J Own s A → Chg Own A A' → J Own s A') → (∀ Own s A, J Own s A → Inv A) →
    (∀ Own pre x rest v W1, (∀ b, Own b → W.heap.size ≤ b ∧ b < W1.heap.size) → L = pre ++ x :: rest → J Own pre W1 → See x v W1 → YieldAt F (n - 1) P l #[v] W1 fun e W' =>
      e = .returned (.bool true) ∧ J Own (pre ++ [x]) W' ∧ W1.heap.size ≤ W'.heap.size ∧ ∀ b, Own b → W'.heap[b]? = W1.heap[b]?) →
    (∀ Own A, (∀ b, Own b → W.heap.size ≤ b) → Below W.heap.size W A → J Own [] A) →
    CallsIn F n P g (#[.func (.yield l) #[] #[]] ++ lb) W fun e W' => (∃ v, e = .returned v) ∧ ∃ Own, (∀ b, Own b → W.heap.size ≤ b) ∧ J Own L W'

/-- how a body ends -/
def ownPost {α : Type} (Own : Nat → Prop) (I : List α → World → Prop) (xs : List α) (W : World) : Exit → Act → World → Prop
  | .normal, _, W' => W.heap.size ≤ W'.heap.size ∧ (∀ b, Own b → W'.heap[b]? = W.heap[b]?) ∧ I xs W'
  | _, _, _ => False

variable {F : Fence} {n : Nat} {P : Program}

/-- the statement -/
theorem wpIn_range_own {α : Type} {g : Operand} {ps : Array Tmp} {assign body : Code} {Q : Exit → Act → World → Prop} {a : Act} {w : World}
    (hro : F.round = none) (h1 : 1 ≤ n) {gf : Nat} {lb : Array Value} (hg : a.eval g = .func (.func gf) #[] lb) (hFg : F.fn gf) (eg : ∀ args w, (callFunc gf args).run P w = .ok (.enter gf args) w)
    {Inv : World → Prop} {See : α → Value → World → Prop} {L : List α} {w0 : World} (hseq : SeqOwn F (n - 1) P gf lb Inv See L w0) (hb0 : Below w0.heap.size w0 w) (hps : ps.size = 1)
    (hSb : ∀ x v A A', See x v A → Below A.heap.size A A' → See x v A') (hSc : ∀ x v, Cellular (See x v))
    (I : (Nat → Prop) → List α → World → Prop) (hInv : ∀ Own s A, I Own s A → Inv A)
    (hI : ∀ Own, (∀ b, Own b → w.heap.size ≤ b) → ∀ s A A', I Own s A → Chg Own A A' → I Own s A')
    (h0 : ∀ Own A, (∀ b, Own b → w.heap.size ≤ b) → Below w.heap.size w A → I Own [] A)
    (Ax : Value → Act → World → Prop) (hAx : ∀ v a', Cellular (Ax v a'))
    (hassign : ∀ (l : Nat) (x : α) (v : Value) (W : World) (K : Act → World → Prop), See x v W → (∀ a' W', Below W.heap.size W W' → Ax v a' W' → K a' W') →
      assign.wpIn (F.inRound l) (n - 1 - 1) P (Exit.then K (fun _ _ _ => False)) { tmps := (ps.zip #[v]).foldl (fun t (p, v) => t.setIfInBounds p v) a.tmps, defers := [] } W)
    (hbody : ∀ (l : Nat) (Own : Nat → Prop) (pre : List α) (x : α) (rest : List α) (v : Value) (a' : Act) (W : World), (∀ b, Own b → w.heap.size ≤ b ∧ b < W.heap.size) → L = pre ++ x :: rest → I Own pre W → See x v W → Ax v a' W →
      body.wpIn (F.inRound l) (n - 1 - 1) P (ownPost Own (I Own) (pre ++ [x]) W) a' W)
    (hdone : ∀ (D : Nat) (Own : Nat → Prop) (W : World), w.heap.size ≤ D → I Own L W → W.heap[D]? = some (.deferred (some [])) → Own D → Q .normal { a with defers := { target := .collected D, args := #[] } :: a.defers } W) :
    (Code.rangeFunc g ps assign body).wpIn F n P Q a w := by
  refine wpIn_rangeFunc fun fn hfn => ?_
  rw [hro]
  obtain ⟨k, hk⟩ : ∃ k, k = w.heap.size := ⟨_, rfl⟩
  obtain ⟨rec, hrec⟩ : ∃ rec : LoopState → Option Code → Loop, rec = fun st pe => { state := st, pending := pe, fn, tmps := a.tmps, params := ps, assign, body, defers := w.heap.size } := ⟨_, rfl⟩
  obtain ⟨W1, hW1⟩ : ∃ W1, (w.alloc (.deferred (some []))).alloc (.loop (rec .ready none)) = W1 := ⟨_, rfl⟩
  have hz1 : W1.heap.size = k + 2 := by rw [← hW1, hk]; simp
  have hL1 : W1.heap[k + 1]? = some (.loop (rec .ready none)) := by
    rw [← hW1, hk]; have := World.alloc_heap_new (w.alloc (.deferred (some []))) (.loop (rec .ready none)); rwa [World.size_alloc] at this
  have hK1 : W1.heap[k]? = some (.deferred (some [])) := by
    rw [← hW1, hk]; exact (Below.heap_alloc _ _ _ (by simp)).trans (World.alloc_heap_new w _)
  have hB1 : Below w.heap.size w W1 := by rw [← hW1]; exact ((Below.refl _ w).alloc (Nat.le_refl _) _).alloc (by simp) _
  have hb1 : Below w0.heap.size w0 W1 := hb0.trans (hB1.mono hb0.size)
  obtain ⟨Ex, hEx⟩ : ∃ Ex : (Nat → Prop) → Nat → Prop, Ex = fun Own b => Own b ∨ b = k ∨ b = k + 1 := ⟨_, rfl⟩
  have hExg : ∀ Own : Nat → Prop, (∀ b, Own b → W1.heap.size ≤ b) → ∀ b, Ex Own b → w.heap.size ≤ b := fun Own h b hb => by
    rw [hEx] at hb
    rcases hb with hb | hb | hb
    · have := h b hb; omega
    · omega
    · omega
  have hEl : ∀ Own, Ex Own (k + 1) := fun Own => by rw [hEx]; exact .inr (.inr rfl)
  refine ⟨k + 1, [{ target := .collected k, args := #[] }], W1, { target := .fn (.func gf) lb, args := #[.func (.yield (k + 1)) #[] #[]] }, W1, gf, #[.func (.yield (k + 1)) #[] #[]] ++ lb, W1, ?_, ?_, ?_, ?_, fun _ => h1, ?_⟩
  · rw [← hW1, hrec, hk]; exact run_enterLoop_outer _ _ _ _ _
  · simp only [resolve, hg]
    simp [go_sem]
  · intro f' hf'; simp [Target.leads] at hf'; subst hf'; exact hFg
  · simp [invoke, go_sem, eg]
  refine (hseq (k + 1)
    (fun Own pre W => I (Ex Own) pre W ∧ W.heap[k + 1]? = some (.loop (rec .ready none)) ∧ W.heap[k]? = some (.deferred (some []))) W1 hb1
    (fun Own ho s A A' hs hb => ⟨hI _ (hExg Own ho) s A A' hs.1 (hb.mono (fun b hb => by rw [hEx]; exact .inl hb)),
      (hb.same _ (Array.getElem?_eq_some_iff.1 hs.2.1).1 (fun c => by have := ho _ c; omega)).trans hs.2.1, (hb.same _ (Array.getElem?_eq_some_iff.1 hs.2.2).1 (fun c => by have := ho _ c; omega)).trans hs.2.2⟩)
    (fun Own s A hs => hInv _ s A hs.1)
    ?_ (fun Own A ho hA => ⟨h0 _ _ (hExg Own ho) (hB1.trans (hA.mono (by omega))), (hA.block _ (by omega)).trans hL1, (hA.block _ (by omega)).trans hK1⟩)).mono ?_
  · -- one round
    rintro Own pre x rest v W ho hLx ⟨hi, hl, hd⟩ hsee
    have hlt : k + 1 < W.heap.size := (Array.getElem?_eq_some_iff.1 hl).1
    have hy := run_yield (P := P) (args := #[v]) hl (by rw [hrec]; exact hps.symm)
    rw [hrec] at hy
    have hog := hExg Own (fun b hb => (ho b hb).1)
    have hol : ∀ b, Ex Own b → b < W.heap.size := fun b hb => by
      rw [hEx] at hb
      rcases hb with hb | hb | hb
      · exact (ho b hb).2
      · omega
      · omega
    refine ⟨fn, _, assign, body, hy, roundIn_of_wpIn hfn (hassign _ x v W _ hsee fun a' Wa hba hax => ?_)⟩
    have hla : Wa.heap[k + 1]? = some (.loop (rec .ready none)) := (hba.block _ hlt).trans hl
    have hda : Wa.heap[k]? = some (.deferred (some [])) := (hba.block _ (by omega)).trans hd
    have hlta : k + 1 < Wa.heap.size := Nat.lt_of_lt_of_le hlt hba.size
    refine ⟨_, run_beginRound hla (by rw [hrec]), ?_⟩
    obtain ⟨Wb, hWb⟩ : ∃ Wb, Wb = Wa.putObj (k + 1) (.loop { rec .ready none with state := .busy }) := ⟨_, rfl⟩
    rw [← hWb]
    have hzb : Wb.heap.size = Wa.heap.size := by rw [hWb]; simp [World.putObj]
    have hlb : Wb.heap[k + 1]? = some (.loop { rec .ready none with state := .busy }) := by rw [hWb]; exact World.putObj_heap_same hlta
    have hdb : Wb.heap[k]? = some (.deferred (some [])) := by rw [hWb]; exact (World.putObj_heap_other (by omega)).trans hda
    have hib : I (Ex Own) pre Wb := by rw [hWb]; exact hI _ hog _ _ _ (hI _ hog _ _ _ hi (Chg.of_below hba)) (Chg.putObj _ _ _ (hEl Own))
    have hsb : See x v Wb := by rw [hWb]; exact hSc x v _ _ _ _ (hSb x v _ _ hsee hba) hla rfl
    have hab : Ax v a' Wb := by rw [hWb]; exact hAx v a' _ _ _ _ hax hla rfl
    have hsz := hba.size
    refine wpIn_mono (hbody _ (Ex Own) pre x rest v a' Wb (fun b hb => ⟨hog b hb, by have := hol b hb; omega⟩) hLx hib hsb hab) ?_
    rintro e a3 W3 hp
    cases e with
    | normal =>
      obtain ⟨hz3, hs3, hi3⟩ := hp
      have hl3 := (hs3 _ (hEl Own)).trans hlb
      have hd3 := (hs3 k (by rw [hEx]; exact .inr (.inl rfl))).trans hdb
      have hr := run_endRound (P := P) none hl3
      refine ⟨_, _, hr, rfl, ⟨hI _ hog _ _ _ hi3 (Chg.putObj _ _ _ (hEl Own)), ?_, (World.putObj_heap_other (by omega)).trans hd3⟩, ?_, fun b hb => ?_⟩
      · rw [hrec]
        exact World.putObj_heap_same (Array.getElem?_eq_some_iff.1 hl3).1
      · simp only [World.putObj, Array.size_setIfInBounds]; omega
      · have hb2 := ho b hb
        refine (World.putObj_heap_other (by omega)).trans ((hs3 b (by rw [hEx]; exact .inl hb)).trans ?_)
        rw [hWb]
        exact (World.putObj_heap_other (by omega)).trans (hba.block _ hb2.2)
    | ret => exact hp.elim
    | exit id => exact hp.elim
    | goto t => exact hp.elim
    | panic ch => exact hp.elim
    | outgrown => exact hp.elim
  · -- behind the iterator
    rintro e W2 ⟨⟨v, rfl⟩, Own, ho, hi, hl, hd⟩
    exact ⟨none, _, by have := run_endLoop (P := P) hl (by rw [hrec]; simp); rw [hrec] at this; exact this, hdone k (Ex Own) _ (by omega) (hI _ (hExg Own ho) _ _ _ hi (Chg.putObj _ _ _ (hEl Own))) ((World.putObj_heap_other (by omega)).trans hd) (by rw [hEx]; exact .inr (.inl rfl))⟩
#print axioms wpIn_range_own
end Go.Proofs.YtncbimbbkealmaaGreatDoor
/-
  A FLAG WITH ITS UNLABELLED VERTICES IN EVERY ORDER: what the program's iterator yields, for loops whose rounds make and change memory.
-/
namespace Go.Proofs.YtncbimbbkealmaaGreatDoor
open Go.RowKit Go.Shelf
set_option maxRecDepth 100000

/-- what the closure promises the iterator -/
def RoundsO (Y Fb B : Nat) (L : List (List Nat)) (J : List (List Nat) → World → Prop) : Prop :=
  ∀ pre x rest v W1, L = pre ++ x :: rest → J pre W1 → B < W1.heap.size → SlI W1 v (zl x) → Calls Tryz.prog 105 #[v, .pointer (some ⟨Y, 0, none⟩), .pointer (some ⟨Fb, 0, none⟩)] W1 fun e W' =>
    e = .returned (.bool true) ∧ J (pre ++ [x]) W' ∧ W1.heap.size ≤ W'.heap.size ∧ W'.heap[B]? = W1.heap[B]?

set_option maxHeartbeats 1000000 in
theorem llo_zero (n k B Y Fb : Nat) (hk : k ≤ 5) (L : List (List Nat)) (J : List (List Nat) → World → Prop) (hY : RoundsO Y Fb B L J)
    (p : List Nat) (pre rest : List (List Nat)) (W : World) (hp : p.length = k) (hL : L = pre ++ [p] ++ rest) (h0 : J pre W) (hM : LMem W B k p) :
    Calls Tryz.prog 94 #[.int .i64 n, .int .i64 k, .slice (some ⟨B, 0, none⟩) k k, .func (.func 105) #[] #[.pointer (some ⟨Y, 0, none⟩), .pointer (some ⟨Fb, 0, none⟩)]] W fun e W' =>
      e = .returned (.bool true) ∧ J (pre ++ [p]) W' ∧ LMem W' B k p := by
  have hR := hY pre p rest _ W (by rw [hL]; simp) h0 hM.lt (hM.sl (by omega))
  rw [hp] at hR
  replace hR := Lib.hid hR
  replace hM := Lib.hid hM
  clear hL h0 hp hY
  go_enter Tryz.func94, Tryz.ntmps94
  go_wp2_with (go_at_call 105; refine (hR.out).mono ?_; rintro e w1 ⟨rfl, hJ1, hz1, hu1⟩)
  go_ret
  exact ⟨rfl, hJ1, hM.out.block hz1 hu1⟩

set_option maxHeartbeats 4000000 in
theorem llo_in (n k B Y Fb : Nat) (hn : n ≤ 5) (hk : k ≤ 5) (L : List (List Nat)) (J : List (List Nat) → World → Prop) (hJ : ∀ s A A', J s A → Chg (fun b => b = B) A A' → J s A') (hY : RoundsO Y Fb B L J) (m : Nat) :
    ∀ (p : List Nat) (pl : Nat) (pre rest : List (List Nat)) (W : World), p.length = pl → pl + m = k → L = pre ++ ext n m p ++ rest → J pre W → LMem W B k p →
    Calls Tryz.prog 94 #[.int .i64 n, .int .i64 k, .slice (some ⟨B, 0, none⟩) pl k, .func (.func 105) #[] #[.pointer (some ⟨Y, 0, none⟩), .pointer (some ⟨Fb, 0, none⟩)]] W fun e W' =>
      e = .returned (.bool true) ∧ J (pre ++ ext n m p) W' ∧ LMem W' B k p := by
  induction m with
  | zero =>
    intro p pl pre rest W hpl hp hL h0 hM
    obtain rfl : pl = k := hp
    exact llo_zero n pl B Y Fb hk L J hY p pre rest W hpl hL h0 hM
  | succ m ih =>
    intro p pl pre rest W hpl hp hL h0 hM
    obtain ⟨i0, hi0, hs0⟩ := info_i64s
    have hlt : pl < k := by omega
    have hne : ((pl : Int) == (k : Int)) = false := by simp; omega
    replace hY := Lib.hid hY
    replace ih := Lib.hid ih
    replace hL := Lib.hid hL
    replace hJ := Lib.hid hJ
    replace hM := Lib.hid hM
    replace h0 := Lib.hid h0
    replace hpl := Lib.hid hpl
    replace hp := Lib.hid hp
    replace hi0 := Lib.hid hi0
    replace hs0 := Lib.hid hs0
    go_enter Tryz.func94, Tryz.ntmps94
    go_wp2
    go_loopw [9, 18] (fun _ c wr => ∃ j : Nat, j ≤ n ∧ c = .int .i64 j ∧ J (pre ++ extTo n m p j) wr ∧ LMem wr B k p) (fun _ c _ => n - (intOf c).toNat)
    case atStart => exact ⟨0, by omega, rfl, by rw [extTo_zero, List.append_nil]; exact h0.out, hM.out⟩
    case round =>
      obtain ⟨j, hj, rfl, hJj, hMj⟩ := hrel
      by_cases hlt2 : j < n
      · have hC := contains_any wr _ p j (hMj.sl (by omega)) (by have := hpl.out; omega)
        rw [hpl.out] at hC
        replace hJj := Lib.hid hJj
        have hM0 := Lib.hid hMj
        cases hb : p.contains j
        · rw [hb] at hC
          replace hC := Lib.hid hC
          have hx := Lib.hid (extTo_f (n := n) (m := m) hb)
          obtain ⟨z, hz⟩ := hMj.cells pl hlt
          have hfz := hMj.free pl hlt
          have hBl := hMj.lt
          obtain ⟨t, ht⟩ := extTo_pre (n := n) (m := m) (p := p) (j := j + 1) (by omega)
          have hcall := Lib.hid (fun W2 hJ2 hM2 => ih.out (p ++ [j]) (pl + 1) (pre ++ extTo n m p j) (t ++ rest) W2 (by simp [hpl.out]) (by have := hp.out; omega) (by rw [hL.out, ht, hx.out]; simp [List.append_assoc]) hJ2 hM2)
          have hJ2 := Lib.hid (hJ.out _ _ _ hJj.out (show Chg (fun b => b = B) wr ((wr.setCell ⟨B, pl, none⟩ (.int .i64 (j : Int))).alloc (.cells #[.int .i64 (j : Int)] 2)) from (Chg.setCell (Own := fun b => b = B) wr ⟨B, pl, none⟩ _ rfl).trans (Chg.of_below ((Below.refl _ _).alloc (Nat.le_refl _) _))))
          have hM2 := hM0.out.push (by have := hpl.out; omega) j
          rw [hpl.out] at hM2
          replace hM2 := Lib.hid (hM2.below (balloc (Below.refl _ _) (.cells #[.int .i64 (j : Int)] 2)))
          clear hb hMj ht
          go_wp2_with (first
            | (go_at_call 74; refine (hC.out).mono ?_; rintro r3 w3 ⟨rfl, rfl⟩)
            | (go_at_call 94; refine (hcall.out _ hJ2.out hM2.out).mono ?_; rintro r4 w4 ⟨rfl, hJ4, hM4⟩))
          go_roundw
          case rel => exact ⟨j + 1, by omega, by go_num, by rw [hx.out, ← List.append_assoc]; exact hJ4, hM4.pop⟩
          case measure => simp [intOf]; omega
        · rw [hb] at hC
          replace hC := Lib.hid hC
          have hx := Lib.hid (extTo_t (n := n) (m := m) hb)
          clear hb hMj
          go_wp2_with (go_at_call 74; refine (hC.out).mono ?_; rintro r3 w3 ⟨rfl, rfl⟩)
          go_roundw
          case rel => exact ⟨j + 1, by omega, by go_num, by rw [hx.out]; exact hJj.out, hM0.out⟩
          case measure => simp [intOf]; omega
      · obtain rfl : j = n := by omega
        have hdd := decide_eq_false (show ¬ ((j : Int) < (j : Int)) by omega)
        replace hJj := Lib.hid hJj
        replace hMj := Lib.hid hMj
        go_wp2
        go_ret
        exact ⟨rfl, by rw [← extTo_end]; exact hJj.out, hMj.out⟩


set_option maxHeartbeats 2000000 in
theorem turns_own (k n e : Nat) (h : VK k n e) (nn Fb : Nat) (w : World) (hF : Fb < w.heap.size) :
    SeqOwn Fence.wide nn Tryz.prog 103 #[.pointer (some ⟨Fb, 0, none⟩)] (fun A => FC A Fb k n e) (SeeK k n e) (turns n k) w := fun l J W hWb hJ hJi hY h0 => by
  obtain ⟨he, hn5, hk3, hkn⟩ := h.nums
  have f1 := hJi _ _ _ (h0 (fun _ => False) W (fun _ h => h.elim) (Below.refl _ _))
  obtain ⟨Y, hYd⟩ : ∃ Y, Y = W.heap.size := ⟨_, rfl⟩
  have hFY : Fb < Y := by have := hWb.size; omega
  refine callsIn_wide.2 ((turn1_any k n e Fb l hkn hn5 W f1 (fun w' => FC w' Fb k n e ∧ ∃ Own : Nat → Prop, (∀ b, Own b → W.heap.size ≤ b) ∧ J Own (turns n k) w') (fun w' hw => hw.1) fun B W3 hB hb hM => ?_).mono fun e w' hw => ⟨hw.1, hw.2.2⟩)
  rw [← hYd] at hB ⊢
  have hz3 : Y < W3.heap.size := by have := hb.size; simp at this; omega
  have hYc : W3.cell? ⟨Y, 0, none⟩ = some (.func (.yield l) #[] #[]) := by
    rw [hb.cell (p := ⟨Y, 0, none⟩) (by show Y < _; simp; omega), hYd, World.cell?_alloc_new]; rfl
  have hWW : Below W.heap.size W W3 := ((Below.refl _ W).alloc (Nat.le_refl _) _).trans (hb.mono (by simp))
  obtain ⟨Own, hOwn⟩ : ∃ Own : Nat → Prop, Own = fun b => b = Y ∨ b = B := ⟨_, rfl⟩
  have hog : ∀ b, Own b → W.heap.size ≤ b := fun b hb => by
    rw [hOwn] at hb
    rcases hb with hb | hb <;> omega
  obtain ⟨J', hJ'd⟩ : ∃ J' : List (List Nat) → World → Prop, J' = fun pre A => J Own pre A ∧ A.cell? ⟨Y, 0, none⟩ = some (.func (.yield l) #[] #[]) ∧ Y < A.heap.size := ⟨_, rfl⟩
  have hJ' : ∀ s A A', J' s A → Chg (fun b => b = B) A A' → J' s A' := by
    subst hJ'd
    rintro s A A' ⟨a1, a2, a3⟩ hc
    exact ⟨hJ Own hog _ _ _ a1 (hc.mono (fun b hb => by rw [hOwn]; exact .inr hb)), (World.cell?_of_block (a := ⟨Y, 0, none⟩) (hc.same Y a3 (by omega))).trans a2, Nat.lt_of_lt_of_le a3 hc.size⟩
  have hR : RoundsO Y Fb B (turns n k) J' := by
    subst hJ'd
    rintro pre x rest v W1 hL ⟨a1, a2, a3⟩ hBl hs
    have hx := turns_ok hn5 hk3 hkn (x := x) (by rw [hL]; simp)
    refine ((callsIn_wide (n := nn)).1 (tt_any W1 nn l Y Fb k n e x v hs hn5 (by omega) hx (hJi _ _ _ a1) a3 a2 (fun b W' => b = true ∧ J Own (pre ++ [x]) W' ∧ W'.cell? ⟨Y, 0, none⟩ = some (.func (.yield l) #[] #[]) ∧ Y < W'.heap.size ∧ W1.heap.size ≤ W'.heap.size ∧ W'.heap[B]? = W1.heap[B]?) ?_)).mono ?_
    · intro m W2 hb2
      have ho2 : ∀ b, Own b → W.heap.size ≤ b ∧ b < W2.heap.size := fun b hb => ⟨hog b hb, by
        have := hb2.size
        rw [hOwn] at hb
        rcases hb with hb | hb <;> omega⟩
      refine anyDepth (yield_mono (hY Own pre x rest _ W2 ho2 hL (hJ Own hog _ _ _ a1 (Chg.of_below hb2)) rfl) ?_)
      rintro e' W' ⟨rfl, hj, hz, hu⟩
      have hz2 : Y < W2.heap.size := Nat.lt_of_lt_of_le a3 hb2.size
      have hc : W2.cell? ⟨Y, 0, none⟩ = some (.func (.yield l) #[] #[]) := (hb2.cell (p := ⟨Y, 0, none⟩) a3).trans a2
      exact ⟨true, rfl, rfl, hj, (World.cell?_of_block (a := ⟨Y, 0, none⟩) (hu Y (by rw [hOwn]; exact .inl rfl))).trans hc, Nat.lt_of_lt_of_le hz2 hz, Nat.le_trans hb2.size hz, (hu B (by rw [hOwn]; exact .inr rfl)).trans (hb2.block _ hBl)⟩
    · rintro e' W' ⟨b, rfl, rfl, h1, h2, h3, h4, h5⟩
      exact ⟨rfl, ⟨h1, h2, h3⟩, h4, h5⟩
  have hj0 : J' [] W3 := by
    subst hJ'd
    exact ⟨h0 Own W3 hog hWW, hYc, hz3⟩
  refine (llo_in n n B Y Fb hn5 hn5 (turns n k) J' hJ' hR (n - k) (List.range k) k [] [] W3 (by simp) (by omega) (by simp [turns]) hj0 hM).mono ?_
  rintro e w' ⟨h1, h2, _⟩
  subst hJ'd
  exact ⟨true, h1, hJi _ _ _ h2.1, Own, fun b hb => by have := hog b hb; omega, h2.1⟩
end Go.Proofs.YtncbimbbkealmaaGreatDoor
/-
  A SET OF FLAGS, AS A MAP FROM FLAGS TO BOOLS: what the block holds; a flag is looked up; a flag is put in.
-/
namespace Go.Proofs.YtncbimbbkealmaaGreatDoor
open Go.RowKit
open Go.Maps (Keyed)
open Go.ChangeMaps (setBlock heap_setBlock_same heap_setBlock_other)
set_option maxRecDepth 100000

theorem set_laid : laidOutB Tryz.prog = true := by kernel_rfl
theorem flag_keyed : Keyed Tryz.prog 43 := Keyed.of_law (deep_law_laid set_laid (m := 3) (by omega) (of_decide_eq_true (by kernel_rfl)) (by kernel_rfl) (by kernel_rfl))
def flagV (k n e : Nat) : Value := .agg #[.int .i64 k, .int .i64 n, .int .u32 e]
theorem flagV_inj {k n e k' n' e' : Nat} : flagV k n e = flagV k' n' e' ↔ k = k' ∧ n = n' ∧ e = e' := by
  unfold flagV
  simp
  omega
theorem i64_wf (k : Nat) (h : k ≤ 5) : (Lit.int .i64 k).wf = true := by
  simp [Lit.wf, IntKind.min, IntKind.max, IntKind.signed, IntKind.bits]
  omega
theorem u32_wf (k : Nat) (h : k < 4294967296) : (Lit.int .u32 k).wf = true := by
  simp [Lit.wf, IntKind.min, IntKind.max, IntKind.signed, IntKind.bits]
  omega
theorem flag_deep : ∃ d, Tryz.prog.types.size + 1 = d + 3 := ⟨Tryz.prog.types.size - 2, by kernel_rfl⟩
theorem flag_keyType : Tryz.prog.keyType 43 = true := by kernel_rfl
theorem flag_cells : Tryz.prog.cellsOf 43 = 3 := by kernel_rfl
theorem graph_cells : Tryz.prog.cellsOf 32 = 2 := by kernel_rfl
theorem i64_cells : Tryz.prog.cellsOf 2 = 1 := by kernel_rfl
theorem u32_cells : Tryz.prog.cellsOf 23 = 1 := by kernel_rfl
theorem flag_key (k n e : Nat) (hk : k ≤ 5) (hn : n ≤ 5) (he : e < 4294967296) : ∃ l, keyOf Tryz.prog 43 (flagV k n e) = some l := by
  obtain ⟨d, hd⟩ := flag_deep
  have w0 := i64_wf k hk
  have w1 := i64_wf n hn
  have w2 := u32_wf e he
  have hf : (flagV k n e).formed Tryz.prog 43 = true := by simp [Value.formed, flagV, Tryz.underlying43, flag_cells]
  unfold keyOf
  rw [Tryz.underlying43]
  simp only [flag_keyType, hf, Bool.and_self, if_true]
  rw [hd]
  simp [flagV, Value.cells, Program.keyLits, Tryz.underlying43, Tryz.underlying32, Tryz.underlying2, Tryz.underlying23, flag_cells, graph_cells, i64_cells, u32_cells, w0, w1, w2]
  rw [if_pos (by decide)]
  exact ⟨_, rfl⟩

/-- the block B holds the flags with k labels, n vertices and edges in S -/
def FSet (W : World) (B k n : Nat) (S : List Nat) : Prop :=
  k ≤ 5 ∧ n ≤ 5 ∧ (∀ y ∈ S, y < 4294967296) ∧ ∃ es clock, W.heap[B]? = some (.map es clock) ∧ (∀ x ∈ es.toList, x.val = .bool true ∧ ∃ y ∈ S, x.key = flagV k n y) ∧ ∀ y ∈ S, ∃ x ∈ es.toList, x.key = flagV k n y
theorem FSet.of_block {W W' : World} {B k n : Nat} {S : List Nat} (h : FSet W B k n S) (hs : W'.heap[B]? = W.heap[B]?) : FSet W' B k n S := by
  obtain ⟨h1, h2, h3, es, c, h4, h5⟩ := h
  exact ⟨h1, h2, h3, es, c, hs.trans h4, h5⟩
theorem FSet.lt {W : World} {B k n : Nat} {S : List Nat} (h : FSet W B k n S) : B < W.heap.size := by
  obtain ⟨_, _, _, es, c, h4, _⟩ := h
  exact (Array.getElem?_eq_some_iff.1 h4).1
theorem FSet.below {W W' : World} {B k n : Nat} {S : List Nat} (h : FSet W B k n S) (hb : Below W.heap.size W W') : FSet W' B k n S := h.of_block (hb.block _ h.lt)
theorem FSet.under {W W' : World} {B C k n : Nat} {S : List Nat} (h : FSet W B k n S) (hb : Below C W W') (hB : B < C) : FSet W' B k n S := h.of_block (hb.block _ hB)
theorem FSet.made (W : World) (k n : Nat) (hk : k ≤ 5) (hn : n ≤ 5) : FSet (W.alloc (.map #[] 0)) W.heap.size k n [] :=
  ⟨hk, hn, fun y hy => (by cases hy), #[], 0, (MapKept.heap_alloc W _).1, by simp, by simp⟩
/-- is a flag in the set -/
def inS (k n : Nat) (S : List Nat) (k' n' y : Nat) : Bool := decide (k' = k) && decide (n' = n) && decide (y ∈ S)
theorem FSet.keys {es : Array MapEntry} {k n : Nat} {S : List Nat} (hk : k ≤ 5) (hn : n ≤ 5) (hS : ∀ y ∈ S, y < 4294967296) (h : ∀ x ∈ es.toList, x.val = .bool true ∧ ∃ y ∈ S, x.key = flagV k n y) :
    ∀ x ∈ es.toList, ∃ l, keyOf Tryz.prog 43 x.key = some l := fun x hx => by
  obtain ⟨_, y, hy, e⟩ := h x hx
  rw [e]
  exact flag_key k n y hk hn (hS y hy)
theorem zero_bool (w : World) : (zeroValue 4).run Tryz.prog w = .ok (.bool false) w := by kernel_rfl
theorem FSet.look {W : World} {B k n : Nat} {S : List Nat} (h : FSet W B k n S) (k' n' y : Nat) (hk : k' ≤ 5) (hn : n' ≤ 5) (hy : y < 4294967296) :
    (Instr.lookup 116 (.map (some B)) (flagV k' n' y) false).run Tryz.prog W = .ok (.bool (inS k n S k' n' y)) W := by
  obtain ⟨a1, a2, a3, es, c, hb, h5, h6⟩ := h
  obtain ⟨l, hl⟩ := flag_key k' n' y hk hn hy
  rcases flag_keyed.find W hl es.toList (FSet.keys a1 a2 a3 h5) with ⟨h1, h2⟩ | ⟨j, e0, h1, h2, h3⟩
  · have hf : inS k n S k' n' y = false := by
      unfold inS
      rw [Bool.eq_false_iff]
      intro c
      simp only [Bool.and_eq_true, decide_eq_true_eq] at c
      obtain ⟨⟨rfl, rfl⟩, c3⟩ := c
      obtain ⟨x, hx, he⟩ := h6 y c3
      exact h2 x hx he
    rw [hf]
    simp [Instr.lookup, run_underlying Tryz.underlying116, MapKept.run_getObj_map hb, flag_keyed.check W _ hl, h1, Result.andThen]
  · obtain ⟨h7, y', hy', he⟩ := h5 e0 (List.mem_of_getElem? h2)
    rw [h3, flagV_inj] at he
    obtain ⟨rfl, rfl, rfl⟩ := he
    have ht : inS k' n' S k' n' y = true := by simp [inS, hy']
    rw [ht]
    simp [Instr.lookup, run_underlying Tryz.underlying116, MapKept.run_getObj_map hb, flag_keyed.check W _ hl, h1, h7, Result.andThen]
theorem FSet.store {W : World} {B k n : Nat} {S : List Nat} (h : FSet W B k n S) (y : Nat) (hy : y < 4294967296) :
    ∃ w', (Instr.mapUpdate 116 (.map (some B)) (flagV k n y) (.bool true)).run Tryz.prog W = .ok () w' ∧ FSet w' B k n (S ++ [y]) ∧ W.grownBy w' (some B) := by
  obtain ⟨a1, a2, a3, es, c, hb, h5, h6⟩ := h
  obtain ⟨l, hl⟩ := flag_key k n y a1 a2 hy
  have hS' : ∀ z ∈ S ++ [y], z < 4294967296 := fun z hz => by
    rcases List.mem_append.1 hz with h | h
    · exact a3 z h
    · simp at h; omega
  have hg : ∀ o, W.grownBy (setBlock W B o) (some B) := fun o => ⟨rfl, rfl, rfl, by simp [setBlock], fun i _ hi => heap_setBlock_other hb _ (fun e => hi (by rw [e]))⟩
  rcases flag_keyed.find W hl es.toList (FSet.keys a1 a2 a3 h5) with ⟨h1, h2⟩ | ⟨j, e0, h1, h2, h3⟩
  · refine ⟨setBlock W B (.map (es.push ⟨flagV k n y, .bool true, c⟩) (c + 1)), ?_, ⟨a1, a2, hS', _, _, heap_setBlock_same hb _, ?_, ?_⟩, hg _⟩
    · simp [Instr.mapUpdate, run_underlying Tryz.underlying116, MapKept.run_getObj_map hb, flag_keyed.check W _ hl, h1, MapKept.run_setObj_map _ hb, Result.andThen, setBlock]
    · intro x hx
      simp only [Array.toList_push, List.mem_append, List.mem_singleton] at hx
      rcases hx with hx | rfl
      · obtain ⟨b1, z, b2, b3⟩ := h5 x hx
        exact ⟨b1, z, by simp [b2], b3⟩
      · exact ⟨rfl, y, by simp, rfl⟩
    · intro z hz
      rcases List.mem_append.1 hz with hz | hz
      · obtain ⟨x, b1, b2⟩ := h6 z hz
        exact ⟨x, by simp [b1], b2⟩
      · simp at hz
        subst hz
        exact ⟨⟨flagV k n z, .bool true, c⟩, by simp, rfl⟩
  · have hj : es[j]? = some e0 := by simpa using h2
    have hlist : (es.modify j (fun e' => { e' with key := flagV k n y, val := .bool true })).toList = es.toList.set j { e0 with key := flagV k n y, val := .bool true } := by rw [Array.toList_modify, ChangeMaps.modify_eq_set _ _ _ _ h2]
    have hjl : j < es.toList.length := (List.getElem?_eq_some_iff.1 h2).1
    refine ⟨setBlock W B (.map (es.modify j (fun e' => { e' with key := flagV k n y, val := .bool true })) c), ?_, ⟨a1, a2, hS', _, _, heap_setBlock_same hb _, ?_, ?_⟩, hg _⟩
    · simp [Instr.mapUpdate, run_underlying Tryz.underlying116, MapKept.run_getObj_map hb, flag_keyed.check W _ hl, h1, hj, h3, flag_keyed.stays W hl, MapKept.run_setObj_map _ hb, Result.andThen, setBlock]
    · intro x hx
      rw [hlist] at hx
      rcases List.mem_or_eq_of_mem_set hx with hx | rfl
      · obtain ⟨b1, z, b2, b3⟩ := h5 x hx
        exact ⟨b1, z, by simp [b2], b3⟩
      · exact ⟨rfl, y, by simp, rfl⟩
    · intro z hz
      rw [hlist]
      by_cases hzy : z = y
      · subst hzy
        exact ⟨_, List.mem_set hjl _, rfl⟩
      · have hz' : z ∈ S := by
          rcases List.mem_append.1 hz with h | h
          · exact h
          · simp at h; exact absurd h hzy
        obtain ⟨x, b1, b2⟩ := h6 z hz'
        refine ⟨x, ?_, b2⟩
        obtain ⟨i, hi, he⟩ := List.getElem_of_mem b1
        have hne : j ≠ i := by
          rintro rfl
          have : e0 = x := by
            rw [List.getElem?_eq_getElem hi] at h2
            rw [← he]
            exact (Option.some.inj h2).symm
          rw [← this, h3, flagV_inj] at b2
          exact hzy b2.2.2.symm
        refine List.mem_iff_getElem.2 ⟨i, by simpa using hi, ?_⟩
        rw [List.getElem_set_ne hne, he]

/-! ### at the operations -/
section
variable {F : Fence} {nF : Nat} {w : World} {ops : Array Oper} {rest : List Oper} {o : Oper} {a : Act} {Q : Exit → Act → World → Prop}
theorem wpList_flagLook (hg : o.guard = none) (m x : Operand) (hop : o.op = Op.lookup 116 m x false) (B k n : Nat) (S : List Nat) (hm : a.eval m = .map (some B)) (hS : FSet w B k n S)
    (k' n' y : Nat) (hx : a.eval x = .agg #[.int .i64 k', .int .i64 n', .int .u32 y]) (hk : k' ≤ 5) (hn : n' ≤ 5) (hy : y < 4294967296) (b : Bool) (hb : inS k n S k' n' y = b)
    (hK : wpList Tryz.prog ops Q rest (a.put o.dst (.bool b)) w) : wpList Tryz.prog ops Q (o :: rest) a w := by
  subst hb
  refine wpList_plain hg fun K' hK' => ?_
  have hrun := hS.look k' n' y hk hn hy
  unfold flagV at hrun
  unfold Oper.wp
  simp [execOp, hop, hm, hx, hrun, Result.andThen]
  exact hK' _ _ hK
theorem wpListIn_flagLook (hg : o.guard = none) (m x : Operand) (hop : o.op = Op.lookup 116 m x false) (B k n : Nat) (S : List Nat) (hm : a.eval m = .map (some B)) (hS : FSet w B k n S)
    (k' n' y : Nat) (hx : a.eval x = .agg #[.int .i64 k', .int .i64 n', .int .u32 y]) (hk : k' ≤ 5) (hn : n' ≤ 5) (hy : y < 4294967296) (b : Bool) (hb : inS k n S k' n' y = b)
    (hK : wpListIn F nF Tryz.prog ops Q rest (a.put o.dst (.bool b)) w) : wpListIn F nF Tryz.prog ops Q (o :: rest) a w := by
  subst hb
  refine wpListIn_plain hg fun K' hK' => ?_
  have hrun := hS.look k' n' y hk hn hy
  unfold flagV at hrun
  unfold Oper.wpIn
  refine ⟨by simp [Oper.about, hop], ?_⟩
  rw [Oper.semAt_plain F _ _ (by rw [hop]; intro c hc'; cases hc')]
  simp [execOp, hop, hm, hx, hrun, Result.andThen]
  exact hK' _ _ hK
theorem wpListIn_flagStore (hg : o.guard = none) (m x v : Operand) (hop : o.op = Op.mapUpdate 116 m x v) (B k n : Nat) (S : List Nat) (hm : a.eval m = .map (some B)) (hS : FSet w B k n S)
    (y : Nat) (hx : a.eval x = .agg #[.int .i64 k, .int .i64 n, .int .u32 y]) (hv : a.eval v = .bool true) (hy : y < 4294967296)
    (hK : ∀ w', FSet w' B k n (S ++ [y]) → w.grownBy w' (some B) → wpListIn F nF Tryz.prog ops Q rest (a.put o.dst undef) w') : wpListIn F nF Tryz.prog ops Q (o :: rest) a w := by
  refine wpListIn_plain hg fun K' hK' => ?_
  obtain ⟨w', hrun, r1, r2⟩ := hS.store y hy
  unfold flagV at hrun
  unfold Oper.wpIn
  refine ⟨by simp [Oper.about, hop], ?_⟩
  rw [Oper.semAt_plain F _ _ (by rw [hop]; intro c hc'; cases hc')]
  simp [execOp, hop, hm, hx, hv, hrun, Result.andThen]
  exact hK' _ _ (hK w' r1 r2)
/-- a look-up as one step of a region that draws -/
theorem step_flagLook {K : Act → World → Prop} {E : Prop} (hg : o.guard = none) (m x : Operand) (hop : o.op = Op.lookup 116 m x false) (B k n : Nat) (S : List Nat) (hm : a.eval m = .map (some B)) (hS : FSet w B k n S)
    (k' n' y : Nat) (hx : a.eval x = .agg #[.int .i64 k', .int .i64 n', .int .u32 y]) (hk : k' ≤ 5) (hn : n' ≤ 5) (hy : y < 4294967296) (b : Bool) (hb : inS k n S k' n' y = b)
    (hK : K (a.put o.dst (.bool b)) w) : if Region.wanted o (yielded ops a.tmps) = true then Oper.wp Tryz.prog o a w K Q else E := by
  subst hb
  have hw : Region.wanted o (yielded ops a.tmps) = true := by simp [Region.wanted, hg]
  rw [if_pos hw]
  have hrun := hS.look k' n' y hk hn hy
  unfold flagV at hrun
  unfold Oper.wp
  simp [execOp, hop, hm, hx, hrun, Result.andThen]
  exact hK
end
end Go.Proofs.YtncbimbbkealmaaGreatDoor
/-
  THE SET OF ALL FLAGS THAT ARE ALIKE A FLAG: the program's contract.
-/
namespace Go.Proofs.YtncbimbbkealmaaGreatDoor
open Go.RowKit Go.Shelf
set_option maxRecDepth 100000
attribute [local go_sem] Oper.semAt_some

section
variable (w : World)
set_option maxHeartbeats 4000000 in
theorem fa_any (k n e : Nat) (h : VK k n e) :
    Calls Tryz.prog 88 #[.agg #[.int .i64 k, .int .i64 n, .int .u32 e]] w fun r w' => (∃ B, r = .returned (.map (some B)) ∧ w.heap.size ≤ B ∧ FSet w' B k n (tE n k e)) ∧ Below w.heap.size w w' := by
  obtain ⟨he, hn5, hk3, hkn⟩ := h.nums
  refine (callsIn_wide (n := 5)).1 ?_
  refine callsIn_of_wp_marks Tryz.func88 rfl trivial ?_ rfl
  simp only [Tryz.ntmps88, List.size_toArray, List.length_cons, List.length_nil, Nat.reduceAdd, Nat.reduceSub, Array.replicate_succ, Array.replicate_zero, List.push_toArray, List.append_toArray, List.nil_append, List.cons_append]
  have hmm := @run_makeMap Tryz.prog
  have hS0 := FSet.made (w.alloc (.cells #[.int .i64 (k : Int), .int .i64 (n : Int), .int .u32 (e : Int)] 43)) k n (by omega) hn5
  replace hS0 := Lib.hid hS0
  gi_wp2_with (refine ⟨trivial, ?_⟩; gi_at_call 86; refine (callsIn_wide.2 (to_any _ k n e)).mono ?_; rintro r1 w1 ⟨B, rfl, hBge, hFB, hb1⟩)
  have s1 : ∀ (W : World) (o : Obj), (W.alloc o).heap.size = W.heap.size + 1 := fun W o => by simp
  have hB1 : Below w.heap.size w w1 := by (repeat (first | exact Below.refl _ _ | assumption | refine bchain (by assumption) ?_ | refine balloc ?_ _ | apply Below.drew | apply below_drewN | (refine Below.alloc ?_ (by (try simp) <;> omega) _) | (refine Below.setCell ?_ (by (try simp) <;> omega) _)))
  obtain ⟨G, hG⟩ : ∃ G, w.heap.size = G := ⟨_, rfl⟩
  have hS1 : FSet w1 (G + 1) k n [] := by
    have h1 := hS0.out
    rw [s1, hG] at h1
    have h2 := h1.below ((Below.refl _ _).alloc (Nat.le_refl _) (.cells #[.map (some (w.heap.size + 1))] 116))
    exact h2.below hb1
  have hc1 : w1.cell? ⟨G + 2, 0, none⟩ = some (.map (some (G + 1))) := by
    rw [hb1.cell (p := ⟨G + 2, 0, none⟩) (by show G + 2 < _; rw [s1, s1, s1]; omega), cNew _ _ _ _ _ (by rw [s1, s1]; omega), hG]
    rfl
  have hz1 : G + 3 ≤ w1.heap.size := by have := hb1.size; rw [s1, s1, s1] at this; omega
  rw [s1, s1, s1] at hBge
  rw [hG] at hB1 hBge ⊢
  have hBl := hFB.lt
  clear hb1 hS0 s1 hmm
  refine wpIn_range_own rfl (by omega) (gf := 103) (lb := #[.pointer (some ⟨B, 0, none⟩)]) rfl trivial (enters_of Tryz.func103 (by kernel_rfl) rfl)
    (turns_own k n e h 4 B w1 hBl) (Below.refl _ _) rfl (SeeK.below k n e) (SeeK.cellular k n e)
    (fun _ pre W => FSet W (G + 1) k n (pre.map (onL e)) ∧ FC W B k n e ∧ W.cell? ⟨G + 2, 0, none⟩ = some (.map (some (G + 1))) ∧ w1.heap.size ≤ W.heap.size ∧ Below G w W)
    (fun _ s A hs => hs.2.1)
    (fun Own ho s A A' hs hc => by
      obtain ⟨a1, a2, a3, a4, a5⟩ := hs
      have hne : ∀ b, b < w1.heap.size → A'.heap[b]? = A.heap[b]? := fun b hb => hc.same b (by omega) (fun c => by have := ho b c; omega)
      exact ⟨a1.of_block (hne _ (by omega)), a2.block hc.size (hne _ hBl), (World.cell?_of_block (a := ⟨G + 2, 0, none⟩) (hne (G + 2) (by omega))).trans a3, Nat.le_trans a4 hc.size,
        ⟨hc.os.trans a5.os, hc.tape.trans a5.tape, hc.output.trans a5.output, Nat.le_trans a5.size hc.size, fun q hq => (hne q (by omega)).trans (a5.block q hq)⟩⟩)
    (fun Own A ho hA => ⟨hS1.below hA, hFB.below hA, (hA.cell (p := ⟨G + 2, 0, none⟩) (by show G + 2 < _; omega)).trans hc1, hA.size, hB1.trans (hA.mono (by omega))⟩)
    (fun v a' W => ∃ Gb y : Nat, v = .agg #[.int .i64 k, .int .i64 n, .int .u32 y] ∧ FC W Gb k n y ∧ a' = { tmps := #[.agg #[.int .i64 k, .int .i64 n, .int .u32 e], .pointer (some ⟨G, 0, none⟩), .map none, .pointer (some ⟨G + 1 + 1, 0, none⟩), .pointer (some ⟨Gb, 0, none⟩), .map (some (G + 1)), .agg #[.int .i64 k, .int .i64 n, .int .u32 e], .func (.func 103) #[] #[.pointer (some ⟨B, 0, none⟩)], v, undef, undef, undef], defers := [] })
    (fun v a' A l o o' h hl ho => by obtain ⟨Gb, y, h1, h2, h3⟩ := h; exact ⟨Gb, y, h1, FC.cellular Gb k n y A l o o' h2 hl ho, h3⟩) ?assign ?body ?done
  case assign =>
    intro l x v W K hv hK
    obtain rfl : v = _ := hv
    gi_wp2
    exact hK _ _ ((Below.refl _ _).alloc (Nat.le_refl _) _) ⟨W.heap.size, onL e x, rfl, FC.made W k n _ _, rfl⟩
  case body =>
    rintro l Own pre x rest v a' W ho hL ⟨a1, a2, a3, a4, a5⟩ hS ⟨Gb, y, hv, hFG, rfl⟩
    have hx := turns_ok (n := n) (k := k) hn5 hk3 hkn (x := x) (by rw [hL]; simp)
    have hy : onL e x = y := by
      have hS' : v = _ := hS
      rw [hv] at hS'
      simp at hS'
      omega
    have hyl : y < 4294967296 := by
      have := onL_lt e x (by rw [ok_length hx]; exact hn5)
      omega
    have hS2 : FSet W (G + 1) k n (pre.map (onL e)) := a1
    have hmap : pre.map (onL e) ++ [y] = (pre ++ [x]).map (onL e) := by rw [← hy]; simp
    have hfin := Lib.hid (fun (w4 : World) (hS4 : FSet w4 (G + 1) k n (pre.map (onL e) ++ [y])) (hg4 : W.grownBy w4 (some (G + 1))) =>
      (show ownPost Own (fun pre W => FSet W (G + 1) k n (pre.map (onL e)) ∧ FC W B k n e ∧ W.cell? ⟨G + 2, 0, none⟩ = some (.map (some (G + 1))) ∧ w1.heap.size ≤ W.heap.size ∧ Below G w W) (pre ++ [x]) W .normal { tmps := #[], defers := [] } w4 from
        ⟨hg4.size, fun b hb => hg4.block b (ho b hb).2 (by intro c; injection c with c; have := (ho b hb).1; omega), by rw [← hmap]; exact hS4, a2.block hg4.size (hg4.block B a2.lt (by intro c; injection c with c; omega)),
          (World.cell?_of_block (a := ⟨G + 2, 0, none⟩) (hg4.block (G + 2) (by omega) (by intro c; injection c with c; omega))).trans a3, Nat.le_trans a4 hg4.size, a5.grown hg4 (by omega) (fun q hq => by injection hq with hq; omega)⟩))
    obtain ⟨S, hSd⟩ : ∃ S, pre.map (onL e) = S := ⟨_, rfl⟩
    rw [hSd] at hfin hS2
    replace hS2 := Lib.hid hS2
    obtain ⟨g0, g1, g2, g3⟩ := hFG
    clear a1 a2 a5 hS hv hL hmap hSd hy hx hS1 hFB hB1 hc1
    gi_wp2_with (gi_at_mapUpdate; refine wpListIn_flagStore rfl _ _ _ rfl (G + 1) k n S rfl hS2.out y rfl rfl hyl ?_; intro w4 hS4 hg4)
    exact hfin.out w4 hS4 hg4
  case done =>
    rintro D Own W hD ⟨a1, a2, a3, a4, a5⟩ hK hOD
    have hne : ∀ b, b < w1.heap.size → (W.putObj D (.deferred none)).heap[b]? = W.heap[b]? := fun b hb => World.putObj_heap_other (by omega)
    have hS5 := Lib.hid (a1.of_block (hne (G + 1) (by omega)))
    have hB5 := Lib.hid (a5.trans (below_putObj W D (.deferred none) (by omega)))
    clear a1 a2 a5 hS1 hFB hB1 hc1 hne
    gi_wp2
    refine ⟨by simp, .inl ⟨_, _, rfl, run_takeDeferred hK, ?_⟩⟩
    exact ⟨.map (some (G + 1)), by simp [results, Tryz.results88, go_sem], ⟨G + 1, rfl, by omega, hS5.out⟩, by rw [hG]; exact hB5.out⟩
end
end Go.Proofs.YtncbimbbkealmaaGreatDoor
/-
  AS KSeesC, FOR A LOOP THAT NO ROUND LEAVES: the iterator may itself range over another one.
-/
namespace Go.Proofs.YtncbimbbkealmaaGreatDoor
open Go.RowKit

/-- the contract of such an iterator -/
def SeqSeesT {α : Type} (F : Fence) (n : Nat) (P : Program) (g : Nat) (lb : Array Value) (Inv : World → Prop) (See : α → Value → World → Prop) (L : List α) (w : World) : Prop :=
  ∀ (l : Nat) (J : List α → World → Prop) (W : World), Below w.heap.size w W → Under W.heap.size J → (∀ s A, J s A → Inv A) →
    (∀ pre x rest v W1, L = pre ++ x :: rest → J pre W1 → See x v W1 → YieldAt F (n - 1) P l #[v] W1 fun e W' =>
      e = .returned (.bool true) ∧ J (pre ++ [x]) W' ∧ Upper W.heap.size W1 W') →
    J [] W →
    CallsIn F n P g (#[.func (.yield l) #[] #[]] ++ lb) W fun e W' => (∃ v, e = .returned v) ∧ J L W'

variable {F : Fence} {n : Nat} {P : Program}

/-- the statement -/
theorem wpIn_range_seesT {α : Type} {g : Operand} {ps : Array Tmp} {assign body : Code} {Q : Exit → Act → World → Prop} {a : Act} {w : World}
    (hro : F.round = none) (h1 : 1 ≤ n) {gf : Nat} {lb : Array Value} (hg : a.eval g = .func (.func gf) #[] lb) (hFg : F.fn gf) (eg : ∀ args w, (callFunc gf args).run P w = .ok (.enter gf args) w)
    {Inv : World → Prop} {See : α → Value → World → Prop} {L : List α} {w0 : World} (hseq : SeqSeesT F (n - 1) P gf lb Inv See L w0) (hb0 : Below w0.heap.size w0 w) (hps : ps.size = 1)
    (hSb : ∀ x v A A', See x v A → Below A.heap.size A A' → See x v A') (hSc : ∀ x v, Cellular (See x v))
    (I : List α → World → Prop) (hInv : ∀ s A, I s A → Inv A) (hI : Under w.heap.size I) (h0 : I [] w)
    (Ax : Value → Act → World → Prop) (hAx : ∀ v a', Cellular (Ax v a'))
    (hassign : ∀ (l : Nat) (x : α) (v : Value) (W : World) (K : Act → World → Prop), See x v W → (∀ a' W', Below W.heap.size W W' → Ax v a' W' → K a' W') →
      assign.wpIn (F.inRound l) (n - 1 - 1) P (Exit.then K (fun _ _ _ => False)) { tmps := (ps.zip #[v]).foldl (fun t (p, v) => t.setIfInBounds p v) a.tmps, defers := [] } W)
    (hbody : ∀ (l : Nat) (pre : List α) (x : α) (rest : List α) (v : Value) (a' : Act) (W : World), w.heap.size ≤ l → (∃ r, W.heap[l]? = some (.loop r)) → L = pre ++ x :: rest → I pre W → See x v W → Ax v a' W →
      body.wpIn (F.inRound l) (n - 1 - 1) P (seesPost w.heap.size I (fun _ _ _ => False) (pre ++ [x]) W) a' W)
    (hdone : ∀ (D : Nat) (W : World), w.heap.size ≤ D → I L W → W.heap[D]? = some (.deferred (some [])) → Q .normal { a with defers := { target := .collected D, args := #[] } :: a.defers } W) :
    (Code.rangeFunc g ps assign body).wpIn F n P Q a w := by
  refine wpIn_rangeFunc fun fn hfn => ?_
  rw [hro]
  obtain ⟨k, hk⟩ : ∃ k, k = w.heap.size := ⟨_, rfl⟩
  obtain ⟨rec, hrec⟩ : ∃ rec : LoopState → Option Code → Loop, rec = fun st pe => { state := st, pending := pe, fn, tmps := a.tmps, params := ps, assign, body, defers := w.heap.size } := ⟨_, rfl⟩
  obtain ⟨W1, hW1⟩ : ∃ W1, (w.alloc (.deferred (some []))).alloc (.loop (rec .ready none)) = W1 := ⟨_, rfl⟩
  have hz1 : W1.heap.size = k + 2 := by rw [← hW1, hk]; simp
  have hL1 : W1.heap[k + 1]? = some (.loop (rec .ready none)) := by
    rw [← hW1, hk]; have := World.alloc_heap_new (w.alloc (.deferred (some []))) (.loop (rec .ready none)); rwa [World.size_alloc] at this
  have hK1 : W1.heap[k]? = some (.deferred (some [])) := by
    rw [← hW1, hk]; exact (Below.heap_alloc _ _ _ (by simp)).trans (World.alloc_heap_new w _)
  have hB1 : Below w.heap.size w W1 := by rw [← hW1]; exact ((Below.refl _ w).alloc (Nat.le_refl _) _).alloc (by simp) _
  have hb1 : Below w0.heap.size w0 W1 := hb0.trans (hB1.mono hb0.size)
  have hI1 : I [] W1 := hI _ _ _ h0 hB1
  refine ⟨k + 1, [{ target := .collected k, args := #[] }], W1, { target := .fn (.func gf) lb, args := #[.func (.yield (k + 1)) #[] #[]] }, W1, gf, #[.func (.yield (k + 1)) #[] #[]] ++ lb, W1, ?_, ?_, ?_, ?_, fun _ => h1, ?_⟩
  · rw [← hW1, hrec, hk]; exact run_enterLoop_outer _ _ _ _ _
  · simp only [resolve, hg]
    simp [go_sem]
  · intro f' hf'; simp [Target.leads] at hf'; subst hf'; exact hFg
  · simp [invoke, go_sem, eg]
  have hkeep : ∀ {A A' : World}, Below W1.heap.size A A' → (∀ r, A.heap[k + 1]? = some r → A'.heap[k + 1]? = some r) ∧ (∀ r, A.heap[k]? = some r → A'.heap[k]? = some r) :=
    fun hb => ⟨fun r h => (hb.block _ (by omega)).trans h, fun r h => (hb.block _ (by omega)).trans h⟩
  refine (hseq (k + 1)
    (fun pre W => I pre W ∧ W.heap[k + 1]? = some (.loop (rec .ready none)) ∧ W.heap[k]? = some (.deferred (some []))) W1 hb1
    (fun s A A' hs hb => ⟨hI s A A' hs.1 (hb.mono (by omega)), (hkeep hb).1 _ hs.2.1, (hkeep hb).2 _ hs.2.2⟩)
    (fun s A hs => hInv s A hs.1)
    ?_ ⟨hI1, hL1, hK1⟩).mono ?_
  · -- one round
    rintro pre x rest v W hLx ⟨hi, hl, hd⟩ hsee
    have hlt : k + 1 < W.heap.size := (Array.getElem?_eq_some_iff.1 hl).1
    have hy := run_yield (P := P) (args := #[v]) hl (by rw [hrec]; exact hps.symm)
    rw [hrec] at hy
    refine ⟨fn, _, assign, body, hy, roundIn_of_wpIn hfn (hassign _ x v W _ hsee fun a' Wa hba hax => ?_)⟩
    have hla : Wa.heap[k + 1]? = some (.loop (rec .ready none)) := (hba.block _ hlt).trans hl
    have hda : Wa.heap[k]? = some (.deferred (some [])) := (hba.block _ (by omega)).trans hd
    have hlta : k + 1 < Wa.heap.size := Nat.lt_of_lt_of_le hlt hba.size
    refine ⟨_, run_beginRound hla (by rw [hrec]), ?_⟩
    obtain ⟨Wb, hWb⟩ : ∃ Wb, Wb = Wa.putObj (k + 1) (.loop { rec .ready none with state := .busy }) := ⟨_, rfl⟩
    rw [← hWb]
    have hlb : Wb.heap[k + 1]? = some (.loop { rec .ready none with state := .busy }) := by rw [hWb]; exact World.putObj_heap_same hlta
    have hdb : Wb.heap[k]? = some (.deferred (some [])) := by rw [hWb]; exact (World.putObj_heap_other (by omega)).trans hda
    have hib : I pre Wb := by rw [hWb]; exact hI _ _ _ (hI _ _ _ hi (hba.mono (by omega))) (below_putObj _ _ _ (by omega))
    have hsb : See x v Wb := by rw [hWb]; exact hSc x v _ _ _ _ (hSb x v _ _ hsee hba) hla rfl
    have hab : Ax v a' Wb := by rw [hWb]; exact hAx v a' _ _ _ _ hax hla rfl
    have hub : Upper W1.heap.size W Wb := by rw [hWb]; exact (Upper.of_below hba).trans (Upper.putObj _ _ _ (by omega))
    refine wpIn_mono (hbody _ pre x rest v a' Wb (by omega) ⟨_, hlb⟩ hLx hib hsb hab) ?_
    have fin : ∀ (jump : Option Code) (W3 : World), Upper w.heap.size Wb W3 →
        (Instr.endRound (k + 1) jump).run P W3 = .ok (.bool jump.isNone) (W3.putObj (k + 1) (.loop (rec (if jump.isNone then .ready else .done) jump))) ∧
        (W3.putObj (k + 1) (.loop (rec (if jump.isNone then .ready else .done) jump))).heap[k + 1]? = some (.loop (rec (if jump.isNone then .ready else .done) jump)) ∧
        (W3.putObj (k + 1) (.loop (rec (if jump.isNone then .ready else .done) jump))).heap[k]? = some (.deferred (some [])) ∧
        Upper W1.heap.size W (W3.putObj (k + 1) (.loop (rec (if jump.isNone then .ready else .done) jump))) := fun jump W3 hu => by
      have hl3 := (hu.same _ (by omega) (Array.getElem?_eq_some_iff.1 hlb).1).trans hlb
      have hd3 := (hu.same _ (by omega) (Array.getElem?_eq_some_iff.1 hdb).1).trans hdb
      have := run_endRound (P := P) jump hl3
      rw [hrec] at this ⊢
      exact ⟨this, World.putObj_heap_same (Array.getElem?_eq_some_iff.1 hl3).1, (World.putObj_heap_other (by omega)).trans hd3, (hub.trans (hu.mono (by omega))).trans (Upper.putObj _ _ _ (by omega))⟩
    rintro e a3 W3 hp
    cases e with
    | normal =>
      obtain ⟨hr, hl4, hd4, hu4⟩ := fin none W3 hp.1
      exact ⟨_, _, hr, rfl, ⟨hI _ _ _ hp.2 (below_putObj _ _ _ (by omega)), hl4, hd4⟩, hu4⟩
    | ret => exact hp.2.elim
    | exit id => exact hp.2.elim
    | goto t => exact hp.2.elim
    | panic ch => exact hp.elim
    | outgrown => exact hp.elim
  · -- behind the iterator
    rintro e W2 ⟨⟨v, rfl⟩, hi, hl, hd⟩
    exact ⟨none, _, by have := run_endLoop (P := P) hl (by rw [hrec]; simp); rw [hrec] at this; exact this, hdone k _ (by omega) (hI _ _ _ hi (below_putObj _ _ _ (by omega))) ((World.putObj_heap_other (by omega)).trans hd)⟩
#print axioms wpIn_range_seesT
end Go.Proofs.YtncbimbbkealmaaGreatDoor
