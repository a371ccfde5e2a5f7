/-
  SUMS OF FLAGS AS RESULTS: copied, compared, marked.
-/
import Derived.Test.YtiedombphcdpbaaGreatDoorTown
import Derived.Test.YtiedombphcdpbaaGreatDoorOpenTs
namespace Go.Proofs.YtiedombphcdpbaaGreatDoor
open Go.RowKit
set_option maxRecDepth 100000

def sumV (n e s : Int) (u : Value) : Value := .agg #[.int .i64 n, .int .u32 e, .int .i64 s, u]
/-- a sum and a code are handed back, the sum in memory of the call's own -/
def RetS (W : World) (X : SM) (c : Int) (r : Ending) (w' : World) : Prop := (∃ u, r = .returned (.tuple #[.agg #[.int .i64 X.n, .int .u32 X.e, .int .i64 X.s, u], .int .i64 c]) ∧ OwnT W w' u X.ts) ∧ Below W.heap.size W w'
/-- a sum's box -/
structure SB (W : World) (B : Nat) (n e s : Int) (u : Value) : Prop where
  lt : B < W.heap.size
  c0 : W.cell? ⟨B, 0, none⟩ = some (.int .i64 n)
  c1 : W.cell? ⟨B, 1, none⟩ = some (.int .u32 e)
  c2 : W.cell? ⟨B, 2, none⟩ = some (.int .i64 s)
  c3 : W.cell? ⟨B, 3, none⟩ = some (u)
  fz : ∀ o, W.frozen? ⟨B, o, none⟩ = false
theorem SB.drew {W : World} {B : Nat} {n e s : Int} {u : Value} (h : SB W B n e s u) : SB W.drew B n e s u := ⟨h.lt, h.c0, h.c1, h.c2, h.c3, h.fz⟩
theorem SB.below {W W' : World} {B : Nat} {n e s : Int} {u : Value} (h : SB W B n e s u) (hb : Below W.heap.size W W') : SB W' B n e s u :=
  ⟨Nat.lt_of_lt_of_le h.lt hb.size, (hb.cell (p := ⟨B, 0, none⟩) h.lt).trans h.c0, (hb.cell (p := ⟨B, 1, none⟩) h.lt).trans h.c1, (hb.cell (p := ⟨B, 2, none⟩) h.lt).trans h.c2, (hb.cell (p := ⟨B, 3, none⟩) h.lt).trans h.c3, fun o => (hb.frozen (p := ⟨B, o, none⟩) h.lt).trans (h.fz o)⟩
theorem SB.made (W : World) (n e s : Int) (u : Value) (t : TypeId) : SB (W.alloc (.cells #[.int .i64 n, .int .u32 e, .int .i64 s, u] t)) W.heap.size n e s u :=
  ⟨by simp, by rw [World.cell?_alloc_new]; rfl, by rw [World.cell?_alloc_new]; rfl, by rw [World.cell?_alloc_new]; rfl, by rw [World.cell?_alloc_new]; rfl, fun o => by simp⟩
theorem SB.other {W : World} {B : Nat} {n e s : Int} {u : Value} (h : SB W B n e s u) {a : Addr} (v : Value) (hp : a.block ≠ B) : SB (W.setCell a v) B n e s u := by
  have hs : (W.setCell a v).heap[B]? = W.heap[B]? := Below.heap_setCell _ _ _ _ (by omega)
  exact ⟨by simpa using h.lt, (World.cell?_of_block (a := ⟨B, 0, none⟩) hs).trans h.c0, (World.cell?_of_block (a := ⟨B, 1, none⟩) hs).trans h.c1, (World.cell?_of_block (a := ⟨B, 2, none⟩) hs).trans h.c2, (World.cell?_of_block (a := ⟨B, 3, none⟩) hs).trans h.c3, fun o => by simp [h.fz o]⟩
theorem SB.putT {W : World} {B : Nat} {n e s : Int} {u : Value} (h : SB W B n e s u) (n' : Int) (e' : Int) : SB ((W.setCell ⟨B, 0, none⟩ (.int .i64 n')).setCell ⟨B, 1, none⟩ (.int .u32 e')) B n' e' s u :=
  ⟨by simpa using h.lt, ((World.cell?_setCell_other _ _ _ _ (by simp)).trans (World.cell?_setCell_same _ _ _ h.c0)), (World.cell?_setCell_same _ _ _ ((World.cell?_setCell_other _ _ _ _ (by simp)).trans h.c1)), ((World.cell?_setCell_other _ _ _ _ (by simp)).trans ((World.cell?_setCell_other _ _ _ _ (by simp)).trans h.c2)), ((World.cell?_setCell_other _ _ _ _ (by simp)).trans ((World.cell?_setCell_other _ _ _ _ (by simp)).trans h.c3)), fun o => by simp [h.fz o]⟩
theorem SB.putN {W : World} {B : Nat} {n e s : Int} {u : Value} (h : SB W B n e s u) (s' : Int) : SB (W.setCell ⟨B, 2, none⟩ (.int .i64 s')) B n e s' u :=
  ⟨by simpa using h.lt, ((World.cell?_setCell_other _ _ _ _ (by simp)).trans h.c0), ((World.cell?_setCell_other _ _ _ _ (by simp)).trans h.c1), (World.cell?_setCell_same _ _ _ h.c2), ((World.cell?_setCell_other _ _ _ _ (by simp)).trans h.c3), fun o => by simp [h.fz o]⟩
theorem SB.putL {W : World} {B : Nat} {n e s : Int} {u : Value} (h : SB W B n e s u) (u' : Value) : SB (W.setCell ⟨B, 3, none⟩ (u')) B n e s u' :=
  ⟨by simpa using h.lt, ((World.cell?_setCell_other _ _ _ _ (by simp)).trans h.c0), ((World.cell?_setCell_other _ _ _ _ (by simp)).trans h.c1), ((World.cell?_setCell_other _ _ _ _ (by simp)).trans h.c2), (World.cell?_setCell_same _ _ _ h.c3), fun o => by simp [h.fz o]⟩
theorem SB.all {W : World} {B : Nat} {n e s : Int} {u : Value} (h : SB W B n e s u) (n' : Int) (e' : Int) (s' : Int) (u' : Value) : SB ((((W.setCell ⟨B, 0, none⟩ (.int .i64 n')).setCell ⟨B, 1, none⟩ (.int .u32 e')).setCell ⟨B, 2, none⟩ (.int .i64 s')).setCell ⟨B, 3, none⟩ (u')) B n' e' s' u' :=
  ⟨by simpa using h.lt, ((World.cell?_setCell_other _ _ _ _ (by simp)).trans ((World.cell?_setCell_other _ _ _ _ (by simp)).trans ((World.cell?_setCell_other _ _ _ _ (by simp)).trans (World.cell?_setCell_same _ _ _ h.c0)))), ((World.cell?_setCell_other _ _ _ _ (by simp)).trans ((World.cell?_setCell_other _ _ _ _ (by simp)).trans (World.cell?_setCell_same _ _ _ ((World.cell?_setCell_other _ _ _ _ (by simp)).trans h.c1)))), ((World.cell?_setCell_other _ _ _ _ (by simp)).trans (World.cell?_setCell_same _ _ _ ((World.cell?_setCell_other _ _ _ _ (by simp)).trans ((World.cell?_setCell_other _ _ _ _ (by simp)).trans h.c2)))), (World.cell?_setCell_same _ _ _ ((World.cell?_setCell_other _ _ _ _ (by simp)).trans ((World.cell?_setCell_other _ _ _ _ (by simp)).trans ((World.cell?_setCell_other _ _ _ _ (by simp)).trans h.c3)))), fun o => by simp [h.fz o]⟩
theorem SB.chg {W W' : World} {B : Nat} {n e s : Int} {u : Value} {Own : Nat → Prop} (h : SB W B n e s u) (hc : Chg Own W W') (hn : ¬ Own B) : SB W' B n e s u := by
  have hs := hc.same B h.lt hn
  exact ⟨Nat.lt_of_lt_of_le h.lt hc.size, (World.cell?_of_block (a := ⟨B, 0, none⟩) hs).trans h.c0, (World.cell?_of_block (a := ⟨B, 1, none⟩) hs).trans h.c1, (World.cell?_of_block (a := ⟨B, 2, none⟩) hs).trans h.c2, (World.cell?_of_block (a := ⟨B, 3, none⟩) hs).trans h.c3, fun o => by have := h.fz o; unfold World.frozen? at this ⊢; rw [hs]; exact this⟩
/-- a sum is put into a new box -/
theorem SB.put (W : World) (n e s : Int) (u : Value) (t : TypeId) : SB (((((W.alloc (.cells #[.int .i64 0, .int .u32 0, .int .i64 0, .slice none 0 0] t)).setCell ⟨W.heap.size, 0, none⟩ (.int .i64 n)).setCell ⟨W.heap.size, 1, none⟩ (.int .u32 e)).setCell ⟨W.heap.size, 2, none⟩ (.int .i64 s)).setCell ⟨W.heap.size, 3, none⟩ u) W.heap.size n e s u := (SB.made W 0 0 0 (.slice none 0 0) t).all n e s u
theorem below_put (W : World) (n e s : Int) (u : Value) (t : TypeId) : Below W.heap.size W (((((W.alloc (.cells #[.int .i64 0, .int .u32 0, .int .i64 0, .slice none 0 0] t)).setCell ⟨W.heap.size, 0, none⟩ (.int .i64 n)).setCell ⟨W.heap.size, 1, none⟩ (.int .u32 e)).setCell ⟨W.heap.size, 2, none⟩ (.int .i64 s)).setCell ⟨W.heap.size, 3, none⟩ u) :=
  ((((balloc (Below.refl _ _) _).setCell (p := ⟨W.heap.size, 0, none⟩) (Nat.le_refl _) _).setCell (p := ⟨W.heap.size, 1, none⟩) (Nat.le_refl _) _).setCell (p := ⟨W.heap.size, 2, none⟩) (Nat.le_refl _) _).setCell (p := ⟨W.heap.size, 3, none⟩) (Nat.le_refl _) _
theorem OwnT.four {w W5 W : World} {B : Nat} {u : Value} {ts : List TE} (h : OwnT W5 W u ts) (hz5 : B < W5.heap.size) (hw5 : w.heap.size ≤ W5.heap.size) (a b c d : Value) :
    OwnT w ((((W.setCell ⟨B, 0, none⟩ a).setCell ⟨B, 1, none⟩ b).setCell ⟨B, 2, none⟩ c).setCell ⟨B, 3, none⟩ d) u ts := by
  have hs : ∀ (A : World) (x : Addr) (v : Value), x.block < W5.heap.size → OwnT W5 A u ts → OwnT W5 (A.setCell x v) u ts := fun A x v hx h => OwnV.chg h (Chg.setCell (Own := fun b => b < W5.heap.size) _ _ _ hx) (fun b hb => hb)
  exact OwnT.mono (hs _ _ _ hz5 (hs _ _ _ hz5 (hs _ _ _ hz5 (hs _ _ _ hz5 h)))) hw5
section
variable (w : World)
theorem szS_ok (v : Value) (X : SM) (h : SumS w v X) (hm : X.ts.length ≤ 1048576) :
    Calls Tryz.prog 10 #[v, .int .i64 1048576] w fun r w' => r = .returned (.int .i64 (1048576 - (X.ts.length : Int))) ∧ Below w.heap.size w w' := by
  obtain ⟨n, e, s, ts⟩ := X
  obtain ⟨u, rfl, a, cap, rfl, _, _, _⟩ := h
  have hC := Lib.hid (fun W => szt_ok W a ts.length cap hm)
  have hl : ts.length ≤ 1048576 := hm
  obtain ⟨l, hld⟩ : ∃ l, ts.length = l := ⟨_, rfl⟩
  show Calls _ _ _ _ fun r w' => r = .returned (.int .i64 (1048576 - (ts.length : Int))) ∧ _
  show Calls _ _ #[.agg #[.int .i64 n, .int .u32 e, .int .i64 s, .slice a ts.length cap], _] _ _
  rw [hld] at hC hl ⊢
  clear hm hld
  go_enter Tryz.func10, Tryz.ntmps10
  go_wp2_with (go_at_call 25; refine (hC.out _).mono ?_; rintro r1 w1 ⟨rfl, rfl⟩)
  go_ret
  exact ⟨rfl, by (repeat (first | exact Below.refl _ _ | assumption | refine bchain (by assumption) ?_ | refine balloc ?_ _ | apply Below.drew | apply below_drewN | (refine Below.alloc ?_ (by (try simp) <;> omega) _) | (refine Below.setCell ?_ (by (try simp) <;> omega) _)))⟩
theorem szS_long (v : Value) (X : SM) (h : SumS w v X) (hm : 1048576 < X.ts.length) :
    Calls Tryz.prog 10 #[v, .int .i64 1048576] w fun r w' => r = .returned (.int .i64 (-1)) ∧ Below w.heap.size w w' := by
  obtain ⟨n, e, s, ts⟩ := X
  obtain ⟨u, rfl, a, cap, rfl, h1, h2, _⟩ := h
  have hl : 1048576 < ts.length := hm
  have hC := Lib.hid (fun W => szt_long W a ts.length cap hl (by have : ts.length ≤ cap := h1; omega))
  obtain ⟨l, hld⟩ : ∃ l, ts.length = l := ⟨_, rfl⟩
  show Calls _ _ #[.agg #[.int .i64 n, .int .u32 e, .int .i64 s, .slice a ts.length cap], _] _ _
  rw [hld] at hC ⊢
  clear hm hld hl h1 h2
  go_enter Tryz.func10, Tryz.ntmps10
  go_wp2_with (go_at_call 25; refine (hC.out _).mono ?_; rintro r1 w1 ⟨rfl, rfl⟩)
  go_ret
  exact ⟨rfl, by (repeat (first | exact Below.refl _ _ | assumption | refine bchain (by assumption) ?_ | refine balloc ?_ _ | apply Below.drew | apply below_drewN | (refine Below.alloc ?_ (by (try simp) <;> omega) _) | (refine Below.setCell ?_ (by (try simp) <;> omega) _)))⟩
theorem eqS_any (u v : Value) (X : SM) (h : SlT w u X.ts) (h' : SlT w v X.ts) (hm : X.ts.length ≤ 1048576) :
    Calls Tryz.prog 23 #[.agg #[.int .i64 X.n, .int .u32 X.e, .int .i64 X.s, u], .agg #[.int .i64 X.n, .int .u32 X.e, .int .i64 X.s, v]] w fun r w' => r = .returned (.bool true) ∧ Below w.heap.size w w' := by
  have hE := Lib.hid (fun W (hb : Below w.heap.size w W) => eqTs_any W u v X.ts (h.below hb) (h'.below hb) hm)
  obtain ⟨n, e, s, ts⟩ := X
  obtain ⟨a, cap, rfl, _⟩ := h
  obtain ⟨a', cap', rfl, _⟩ := h'
  have hG := Lib.hid (fun W => eqGraph_any W n e)
  dsimp only at hE hm ⊢
  obtain ⟨l, hld⟩ : ∃ l, ts.length = l := ⟨_, rfl⟩
  rw [hld] at hE ⊢
  clear hm hld
  go_enter Tryz.func23, Tryz.ntmps23
  go_wp2_with fail
  refine (hG.out _).mono ?_
  rintro r1 w1 ⟨rfl, hb1⟩
  obtain ⟨hc1, hz1⟩ := bkeep hb1 w.heap.size (by (try simp) <;> omega)
  obtain ⟨hc2, hz2⟩ := bkeep hb1 (w.heap.size + 1) (by (try simp) <;> omega)
  go_wp2_with fail
  refine (hE.out _ (by (repeat (first | exact Below.refl _ _ | assumption | refine bchain (by assumption) ?_ | refine balloc ?_ _ | apply Below.drew | apply below_drewN | (refine Below.alloc ?_ (by (try simp) <;> omega) _) | (refine Below.setCell ?_ (by (try simp) <;> omega) _))))).mono ?_
  rintro r2 w2 ⟨rfl, hb2⟩
  go_wp2
  go_ret
  exact ⟨rfl, by (repeat (first | exact Below.refl _ _ | assumption | refine bchain (by assumption) ?_ | refine balloc ?_ _ | apply Below.drew | apply below_drewN | (refine Below.alloc ?_ (by (try simp) <;> omega) _) | (refine Below.setCell ?_ (by (try simp) <;> omega) _)))⟩
theorem toS_any (v : Value) (X : SM) (h : SumS w v X) (hm : X.ts.length ≤ 1048576) :
    Calls Tryz.prog 14 #[v] w fun r w' => (∃ u, r = .returned (.agg #[.int .i64 X.n, .int .u32 X.e, .int .i64 X.s, u]) ∧ OwnT w w' u X.ts) ∧ Below w.heap.size w w' := by
  obtain ⟨n, e, s, ts⟩ := X
  obtain ⟨u, rfl, h⟩ := h
  have hT := Lib.hid (fun W (hb : Below w.heap.size w W) => toTs_any W u ts (h.below hb) hm)
  dsimp only at hm ⊢
  obtain ⟨a, cap, rfl, _⟩ := h
  obtain ⟨l, hld⟩ : ∃ l, ts.length = l := ⟨_, rfl⟩
  rw [hld] at hT ⊢
  clear hm
  replace hld := Lib.hid hld
  obtain ⟨W3, hW3⟩ : ∃ W3, W3 = ((w.alloc (.cells #[.int .i64 n, .int .u32 e, .int .i64 s, .slice a l cap] 28)).alloc (.cells #[.int .i64 0, .int .u32 0, .int .i64 0, .slice none 0 0] 39)).alloc (.cells #[.int .i64 0, .int .u32 0, .int .i64 0, .slice none 0 0] 39) := ⟨_, rfl⟩
  have hB3 : Below w.heap.size w W3 := by rw [hW3]; (repeat (first | exact Below.refl _ _ | assumption | refine bchain (by assumption) ?_ | refine balloc ?_ _ | apply Below.drew | apply below_drewN | (refine Below.alloc ?_ (by (try simp) <;> omega) _) | (refine Below.setCell ?_ (by (try simp) <;> omega) _)))
  have sz : ∀ (W : World) (o : Obj), (W.alloc o).heap.size = W.heap.size + 1 := fun W o => by simp
  have tA : SB W3 w.heap.size n e s (.slice a l cap) := by rw [hW3]; exact (((SB.made w n e s _ _).below (balloc (Below.refl _ _) _)).below (balloc (Below.refl _ _) _))
  have tR : SB W3 (w.heap.size + 1) 0 0 0 (.slice none 0 0) := by rw [hW3, ← sz w (.cells #[.int .i64 n, .int .u32 e, .int .i64 s, .slice a l cap] 28)]; exact (SB.made _ 0 0 0 _ 39).below (balloc (Below.refl _ _) _)
  have tO : SB W3 (w.heap.size + 1 + 1) 0 0 0 (.slice none 0 0) := by rw [hW3, ← sz w (.cells #[.int .i64 n, .int .u32 e, .int .i64 s, .slice a l cap] 28), ← sz _ (.cells #[.int .i64 0, .int .u32 0, .int .i64 0, .slice none 0 0] 39)]; exact SB.made _ 0 0 0 _ 39
  clear sz
  replace hW3 := Lib.hid hW3
  obtain ⟨ltA, a0, a1, a2, a3, _⟩ := id tA
  go_enter Tryz.func14, Tryz.ntmps14
  go_wp2_with fail
  rw [← hW3.out]
  go_wp2_with fail
  refine (toGraph_any _ n e).mono ?_
  rintro r1 w1 ⟨rfl, hb1⟩
  replace tA := tA.below hb1
  replace tR := tR.below hb1
  replace tO := tO.below hb1
  replace hB3 := bchain hb1 hB3
  clear hb1 a0 a1 a2 a3 ltA
  obtain ⟨ltA, a0, a1, a2, a3, _⟩ := id tA
  obtain ⟨ltO, o0, o1, o2, o3, fO⟩ := id tO
  obtain ⟨W5, hW5⟩ : ∃ W5, W5 = ((w1.setCell ⟨w.heap.size + 1 + 1, 0, none⟩ (.int .i64 n)).setCell ⟨w.heap.size + 1 + 1, 1, none⟩ (.int .u32 e)).setCell ⟨w.heap.size + 1 + 1, 2, none⟩ (.int .i64 s) := ⟨_, rfl⟩
  have kA : SB W5 w.heap.size n e s (.slice a l cap) := by rw [hW5]; exact (((tA.other _ (by show w.heap.size + 1 + 1 ≠ w.heap.size; omega)).other _ (by show w.heap.size + 1 + 1 ≠ w.heap.size; omega)).other _ (by show w.heap.size + 1 + 1 ≠ w.heap.size; omega))
  have kR : SB W5 (w.heap.size + 1) 0 0 0 (.slice none 0 0) := by rw [hW5]; exact (((tR.other _ (by show w.heap.size + 1 + 1 ≠ w.heap.size + 1; omega)).other _ (by show w.heap.size + 1 + 1 ≠ w.heap.size + 1; omega)).other _ (by show w.heap.size + 1 + 1 ≠ w.heap.size + 1; omega))
  have kO : SB W5 (w.heap.size + 1 + 1) n e s (.slice none 0 0) := by rw [hW5]; exact (tO.putT n e).putN s
  have kB : Below w.heap.size w W5 := by rw [hW5]; exact ((hB3.setCell (p := ⟨w.heap.size + 1 + 1, 0, none⟩) (by show w.heap.size ≤ w.heap.size + 1 + 1; omega) _).setCell (p := ⟨w.heap.size + 1 + 1, 1, none⟩) (by show w.heap.size ≤ w.heap.size + 1 + 1; omega) _).setCell (p := ⟨w.heap.size + 1 + 1, 2, none⟩) (by show w.heap.size ≤ w.heap.size + 1 + 1; omega) _
  obtain ⟨_, b0, b1, b2, b3, fB⟩ := id kO
  obtain ⟨_, d0, d1, d2, d3, _⟩ := id kA
  have hz5a : w.heap.size + 1 < W5.heap.size := kR.lt
  have hz5b : w.heap.size + 1 + 1 < W5.heap.size := kO.lt
  have hw5 : w.heap.size ≤ W5.heap.size := kB.size
  replace hW5 := Lib.hid hW5
  clear tA tR tO hB3
  go_wp2_with fail
  rw [← hW5.out]
  refine (hT.out _ (by (repeat (first | exact Below.refl _ _ | assumption | refine bchain (by assumption) ?_ | refine balloc ?_ _ | apply Below.drew | apply below_drewN | (refine Below.alloc ?_ (by (try simp) <;> omega) _) | (refine Below.setCell ?_ (by (try simp) <;> omega) _))))).mono ?_
  rintro r2 w2 ⟨⟨u2, rfl, hU, hN⟩, hb2⟩
  have hU := ownT_new hU (by rw [hld.out]; exact hN)
  clear hN
  obtain ⟨a2', cap2, rfl, _⟩ := id hU
  replace hU := Lib.hid hU
  replace kR := kR.below hb2
  replace kO := kO.below hb2
  replace kB := bchain hb2 kB
  clear a0 a1 a2 a3 ltA o0 o1 o2 o3 ltO fO kA b0 b1 b2 b3 d0 d1 d2 d3 fB
  obtain ⟨ltO, o0, o1, o2, o3, fO⟩ := id kO
  obtain ⟨ltR, u0, u1, u2, u3, fR⟩ := id kR
  obtain ⟨z, hz⟩ : ∃ z, ts.length = z := ⟨_, rfl⟩
  rw [hz]
  have hU2 : Hid (OwnT W5 w2 (.slice a2' z cap2) ts) := by have := hU.out; rw [hz] at this; exact this
  clear hU hz
  obtain ⟨W6, hW6⟩ : ∃ W6, W6 = w2.setCell ⟨w.heap.size + 1 + 1, 3, none⟩ (.slice a2' z cap2) := ⟨_, rfl⟩
  have jR : SB W6 (w.heap.size + 1) 0 0 0 (.slice none 0 0) := by rw [hW6]; exact (kR.other _ (by show w.heap.size + 1 + 1 ≠ w.heap.size + 1; omega))
  have jB : Below w.heap.size w W6 := by rw [hW6]; exact kB.setCell (p := ⟨w.heap.size + 1 + 1, 3, none⟩) (by show w.heap.size ≤ w.heap.size + 1 + 1; omega) _
  have jF := jR.all n e s (.slice a2' z cap2)
  have jBB := (((jB.setCell (p := ⟨w.heap.size + 1, 0, none⟩) (by show w.heap.size ≤ w.heap.size + 1; omega) (.int .i64 n)).setCell (p := ⟨w.heap.size + 1, 1, none⟩) (by show w.heap.size ≤ w.heap.size + 1; omega) (.int .u32 e)).setCell (p := ⟨w.heap.size + 1, 2, none⟩) (by show w.heap.size ≤ w.heap.size + 1; omega) (.int .i64 s)).setCell (p := ⟨w.heap.size + 1, 3, none⟩) (by show w.heap.size ≤ w.heap.size + 1; omega) (.slice a2' z cap2)
  clear kR kO kB jR jB
  go_wp2
  rw [← hW6]
  obtain ⟨WW, hWW⟩ : ∃ WW, WW = (((W6.setCell ⟨w.heap.size + 1, 0, none⟩ (.int .i64 n)).setCell ⟨w.heap.size + 1, 1, none⟩ (.int .u32 e)).setCell ⟨w.heap.size + 1, 2, none⟩ (.int .i64 s)).setCell ⟨w.heap.size + 1, 3, none⟩ (.slice a2' z cap2) := ⟨_, rfl⟩
  have hO : OwnT W5 WW (.slice a2' z cap2) ts := by
    rw [hWW, hW6]
    have hs : ∀ (A : World) (x : Addr) (u : Value), x.block < W5.heap.size → OwnT W5 A (.slice a2' z cap2) ts → OwnT W5 (A.setCell x u) (.slice a2' z cap2) ts := fun A x u hx h => OwnV.chg h (Chg.setCell (Own := fun b => b < W5.heap.size) _ _ _ hx) (fun b hb => hb)
    exact hs _ _ _ hz5a (hs _ _ _ hz5a (hs _ _ _ hz5a (hs _ _ _ hz5a (hs _ _ _ hz5b hU2.out))))
  rw [← hWW] at jF jBB ⊢
  clear hWW hW6
  obtain ⟨_, v0, v1, v2, v3, _⟩ := jF
  exact bodyPost_ret (v := .agg #[.int .i64 n, .int .u32 e, .int .i64 s, .slice a2' z cap2]) (by simp [results, Tryz.results14, go_sem, v0, v1, v2, v3]) rfl ⟨⟨_, rfl, hO.mono hw5⟩, jBB⟩
end
end Go.Proofs.YtiedombphcdpbaaGreatDoor
