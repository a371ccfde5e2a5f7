/-
  LISTS OF TERMS: 'SlT w v ts': in the world w the value v is a list that holds the terms ts (a flag's labels, vertices, edges; a fraction's parts). What copies such a list, and what holds two against each other.
-/
import Derived.Test.YtiedombphcdpbaaGreatDoorKVal
import Derived.Deep.OwnRows
import Derived.Lib.Hide
import Derived.StillTailTactics
namespace Go.Proofs.YtiedombphcdpbaaGreatDoor
open Go.RowKit
set_option maxRecDepth 100000

/-- a term as numbers -/
structure TE where
  k : Int
  n : Int
  e : Int
  p : Int
  q : Int
def TE.val (g : TE) : Value := .agg #[.int .i64 g.k, .int .i64 g.n, .int .u32 g.e, .int .i64 g.p, .int .i64 g.q]
def tAt (gs : List TE) (i : Nat) : TE := gs[i]?.getD ⟨0, 0, 0, 0, 0⟩
/-- five cells of a block that hold the term at i -/
def TCell (w : World) (b off : Nat) (g : TE) (i : Nat) : Prop := w.cell? ⟨b, off + i * 5, none⟩ = some (.int .i64 g.k) ∧ w.cell? ⟨b, off + i * 5 + 1, none⟩ = some (.int .i64 g.n) ∧ w.cell? ⟨b, off + i * 5 + 2, none⟩ = some (.int .u32 g.e) ∧ w.cell? ⟨b, off + i * 5 + 3, none⟩ = some (.int .i64 g.p) ∧ w.cell? ⟨b, off + i * 5 + 4, none⟩ = some (.int .i64 g.q)
def SlT (w : World) (v : Value) (gs : List TE) : Prop :=
  ∃ (a : Option Addr) (cap : Nat), v = .slice a gs.length cap ∧ gs.length ≤ cap ∧ cap ≤ 9223372036854775807 ∧
    (gs ≠ [] → ∃ b off, a = some ⟨b, off, none⟩ ∧ b < w.heap.size ∧ ∀ i, i < gs.length → TCell w b off (tAt gs i) i)
theorem SlT.below {w w' : World} {v : Value} {gs : List TE} (h : SlT w v gs) (hb : Below w.heap.size w w') : SlT w' v gs := by
  obtain ⟨a, cap, e, h1, h2, h3⟩ := h
  refine ⟨a, cap, e, h1, h2, fun hz => ?_⟩
  obtain ⟨b, off, e2, hlt, hc⟩ := h3 hz
  exact ⟨b, off, e2, Nat.lt_of_lt_of_le hlt hb.size, fun i hi => ⟨(hb.cell (p := ⟨b, _, none⟩) hlt).trans (hc i hi).1, (hb.cell (p := ⟨b, _, none⟩) hlt).trans (hc i hi).2.1, (hb.cell (p := ⟨b, _, none⟩) hlt).trans (hc i hi).2.2.1, (hb.cell (p := ⟨b, _, none⟩) hlt).trans (hc i hi).2.2.2.1, (hb.cell (p := ⟨b, _, none⟩) hlt).trans (hc i hi).2.2.2.2⟩⟩
/-- a list that lies at the front of a block that w0 did not have, and that may be written -/
def NewT (w0 w : World) (v : Value) (l : Nat) : Prop := ∃ a cap, v = .slice a l cap ∧ (0 < l → ∃ B, a = some ⟨B, 0, none⟩ ∧ w0.heap.size ≤ B ∧ B < w.heap.size ∧ ∀ c, w.frozen? ⟨B, c, none⟩ = false)
/-- a block that holds the first k of gs, zeros behind -/
def HalfT (w : World) (B k : Nat) (gs : List TE) : Prop := ∀ i, i < gs.length → TCell w B 0 (if i < k then tAt gs i else ⟨0, 0, 0, 0, 0⟩) i
theorem HalfT.set {w : World} {B k : Nat} {gs : List TE} (h : HalfT w B k gs) (hk : k < gs.length) : HalfT (((((w.setCell ⟨B, k * 5, none⟩ (.int .i64 (tAt gs k).k)).setCell ⟨B, k * 5 + 1, none⟩ (.int .i64 (tAt gs k).n)).setCell ⟨B, k * 5 + 2, none⟩ (.int .u32 (tAt gs k).e)).setCell ⟨B, k * 5 + 3, none⟩ (.int .i64 (tAt gs k).p)).setCell ⟨B, k * 5 + 4, none⟩ (.int .i64 (tAt gs k).q)) B (k + 1) gs := by
  intro i hi
  have hi2 := h i hi
  unfold TCell at hi2 ⊢
  rw [Nat.zero_add] at hi2 ⊢
  by_cases e : i = k
  · subst e
    rw [if_pos (by omega)]
    exact ⟨((World.cell?_setCell_other _ _ _ _ (by simp)).trans ((World.cell?_setCell_other _ _ _ _ (by simp)).trans ((World.cell?_setCell_other _ _ _ _ (by simp)).trans ((World.cell?_setCell_other _ _ _ _ (by simp)).trans (World.cell?_setCell_same _ _ _ hi2.1))))), ((World.cell?_setCell_other _ _ _ _ (by simp)).trans ((World.cell?_setCell_other _ _ _ _ (by simp)).trans ((World.cell?_setCell_other _ _ _ _ (by simp)).trans (World.cell?_setCell_same _ _ _ ((World.cell?_setCell_other _ _ _ _ (by simp)).trans hi2.2.1))))), ((World.cell?_setCell_other _ _ _ _ (by simp)).trans ((World.cell?_setCell_other _ _ _ _ (by simp)).trans (World.cell?_setCell_same _ _ _ ((World.cell?_setCell_other _ _ _ _ (by simp)).trans ((World.cell?_setCell_other _ _ _ _ (by simp)).trans hi2.2.2.1))))), ((World.cell?_setCell_other _ _ _ _ (by simp)).trans (World.cell?_setCell_same _ _ _ ((World.cell?_setCell_other _ _ _ _ (by simp)).trans ((World.cell?_setCell_other _ _ _ _ (by simp)).trans ((World.cell?_setCell_other _ _ _ _ (by simp)).trans hi2.2.2.2.1))))), (World.cell?_setCell_same _ _ _ ((World.cell?_setCell_other _ _ _ _ (by simp)).trans ((World.cell?_setCell_other _ _ _ _ (by simp)).trans ((World.cell?_setCell_other _ _ _ _ (by simp)).trans ((World.cell?_setCell_other _ _ _ _ (by simp)).trans hi2.2.2.2.2)))))⟩
  · rw [show (if i < k + 1 then tAt gs i else (⟨0, 0, 0, 0, 0⟩ : TE)) = (if i < k then tAt gs i else ⟨0, 0, 0, 0, 0⟩) by
      by_cases c : i < k
      · rw [if_pos c, if_pos (by omega)]
      · rw [if_neg c, if_neg (by omega)]]
    exact ⟨((World.cell?_setCell_other _ _ _ _ (by simp <;> omega)).trans ((World.cell?_setCell_other _ _ _ _ (by simp <;> omega)).trans ((World.cell?_setCell_other _ _ _ _ (by simp <;> omega)).trans ((World.cell?_setCell_other _ _ _ _ (by simp <;> omega)).trans ((World.cell?_setCell_other _ _ _ _ (by simp <;> omega)).trans hi2.1))))), ((World.cell?_setCell_other _ _ _ _ (by simp <;> omega)).trans ((World.cell?_setCell_other _ _ _ _ (by simp <;> omega)).trans ((World.cell?_setCell_other _ _ _ _ (by simp <;> omega)).trans ((World.cell?_setCell_other _ _ _ _ (by simp <;> omega)).trans ((World.cell?_setCell_other _ _ _ _ (by simp <;> omega)).trans hi2.2.1))))), ((World.cell?_setCell_other _ _ _ _ (by simp <;> omega)).trans ((World.cell?_setCell_other _ _ _ _ (by simp <;> omega)).trans ((World.cell?_setCell_other _ _ _ _ (by simp <;> omega)).trans ((World.cell?_setCell_other _ _ _ _ (by simp <;> omega)).trans ((World.cell?_setCell_other _ _ _ _ (by simp <;> omega)).trans hi2.2.2.1))))), ((World.cell?_setCell_other _ _ _ _ (by simp <;> omega)).trans ((World.cell?_setCell_other _ _ _ _ (by simp <;> omega)).trans ((World.cell?_setCell_other _ _ _ _ (by simp <;> omega)).trans ((World.cell?_setCell_other _ _ _ _ (by simp <;> omega)).trans ((World.cell?_setCell_other _ _ _ _ (by simp <;> omega)).trans hi2.2.2.2.1))))), ((World.cell?_setCell_other _ _ _ _ (by simp <;> omega)).trans ((World.cell?_setCell_other _ _ _ _ (by simp <;> omega)).trans ((World.cell?_setCell_other _ _ _ _ (by simp <;> omega)).trans ((World.cell?_setCell_other _ _ _ _ (by simp <;> omega)).trans ((World.cell?_setCell_other _ _ _ _ (by simp <;> omega)).trans hi2.2.2.2.2)))))⟩
theorem HalfT.below {w w' : World} {B k : Nat} {gs : List TE} (h : HalfT w B k gs) (hb : Below w.heap.size w w') (hB : B < w.heap.size) : HalfT w' B k gs :=
  fun i hi => ⟨(hb.cell (p := ⟨B, _, none⟩) hB).trans (h i hi).1, (hb.cell (p := ⟨B, _, none⟩) hB).trans (h i hi).2.1, (hb.cell (p := ⟨B, _, none⟩) hB).trans (h i hi).2.2.1, (hb.cell (p := ⟨B, _, none⟩) hB).trans (h i hi).2.2.2.1, (hb.cell (p := ⟨B, _, none⟩) hB).trans (h i hi).2.2.2.2⟩
theorem HalfT.done {w : World} {B cap : Nat} {gs : List TE} (h : HalfT w B gs.length gs) (hB : B < w.heap.size) (hc : gs.length ≤ cap) (hm : cap ≤ 9223372036854775807) : SlT w (.slice (some ⟨B, 0, none⟩) gs.length cap) gs :=
  ⟨_, _, rfl, hc, hm, fun _ => ⟨B, 0, rfl, hB, fun i hi => by have := h i hi; rw [if_pos hi] at this; exact this⟩⟩
theorem info_term : (Tryz.prog.info? 87).map (fun i => (i.zero, i.size, i.bytes)) = some (some (.agg #[.int .i64 0, .int .i64 0, .int .u32 0, .int .i64 0, .int .i64 0]), 5, 40) := by kernel_rfl
theorem madeT (w : World) (n B : Nat) (e : TypeId) (gs : List TE) (hB : B = w.heap.size) (hn : gs.length = n) : HalfT (w.alloc (.cells (madeCells #[.int .i64 0, .int .i64 0, .int .u32 0, .int .i64 0, .int .i64 0] (n * 5)) e)) B 0 gs := by
  intro i hi
  subst hB
  unfold TCell
  rw [World.cell?_alloc_new, World.cell?_alloc_new, World.cell?_alloc_new, World.cell?_alloc_new, World.cell?_alloc_new, Nat.zero_add, if_neg (by omega)]
  have h0 : i * 5 < n * 5 := by omega
  have h1 : i * 5 + 1 < n * 5 := by omega
  have h2 : i * 5 + 2 < n * 5 := by omega
  have h3 : i * 5 + 3 < n * 5 := by omega
  have h4 : i * 5 + 4 < n * 5 := by omega
  have m0 : (i * 5) % 5 = 0 := by omega
  have m1 : (i * 5 + 1) % 5 = 1 := by omega
  have m2 : (i * 5 + 2) % 5 = 2 := by omega
  have m3 : (i * 5 + 3) % 5 = 3 := by omega
  have m4 : (i * 5 + 4) % 5 = 4 := by omega
  refine ⟨?_, ?_, ?_, ?_, ?_⟩
  · simp [madeCells, h0, m0]
  · simp [madeCells, h1, m1]
  · simp [madeCells, h2, m2]
  · simp [madeCells, h3, m3]
  · simp [madeCells, h4, m4]
/-- a term's box -/
structure TB (W : World) (B : Nat) (k n e p q : Int) : Prop where
  lt : B < W.heap.size
  c0 : W.cell? ⟨B, 0, none⟩ = some (.int .i64 k)
  c1 : W.cell? ⟨B, 1, none⟩ = some (.int .i64 n)
  c2 : W.cell? ⟨B, 2, none⟩ = some (.int .u32 e)
  c3 : W.cell? ⟨B, 3, none⟩ = some (.int .i64 p)
  c4 : W.cell? ⟨B, 4, none⟩ = some (.int .i64 q)
  fz : ∀ o, W.frozen? ⟨B, o, none⟩ = false
theorem TB.drew {W : World} {B : Nat} {k n e p q : Int} (h : TB W B k n e p q) : TB W.drew B k n e p q := ⟨h.lt, h.c0, h.c1, h.c2, h.c3, h.c4, h.fz⟩
theorem TB.below {W W' : World} {B : Nat} {k n e p q : Int} (h : TB W B k n e p q) (hb : Below W.heap.size W W') : TB W' B k n e p q :=
  ⟨Nat.lt_of_lt_of_le h.lt hb.size, (hb.cell (p := ⟨B, 0, none⟩) h.lt).trans h.c0, (hb.cell (p := ⟨B, 1, none⟩) h.lt).trans h.c1, (hb.cell (p := ⟨B, 2, none⟩) h.lt).trans h.c2, (hb.cell (p := ⟨B, 3, none⟩) h.lt).trans h.c3, (hb.cell (p := ⟨B, 4, none⟩) h.lt).trans h.c4,
    fun o => (hb.frozen (p := ⟨B, o, none⟩) h.lt).trans (h.fz o)⟩
theorem TB.made (W : World) (k n e p q : Int) (t : TypeId) : TB (W.alloc (.cells #[.int .i64 k, .int .i64 n, .int .u32 e, .int .i64 p, .int .i64 q] t)) W.heap.size k n e p q :=
  ⟨by simp, by rw [World.cell?_alloc_new]; rfl, by rw [World.cell?_alloc_new]; rfl, by rw [World.cell?_alloc_new]; rfl, by rw [World.cell?_alloc_new]; rfl, by rw [World.cell?_alloc_new]; rfl, fun o => by simp⟩
theorem TB.other {W : World} {B : Nat} {k n e p q : Int} (h : TB W B k n e p q) {a : Addr} (v : Value) (hp : a.block ≠ B) : TB (W.setCell a v) B k n e p q := by
  have hs : (W.setCell a v).heap[B]? = W.heap[B]? := Below.heap_setCell _ _ _ _ (by omega)
  exact ⟨by simpa using h.lt, (World.cell?_of_block (a := ⟨B, 0, none⟩) hs).trans h.c0, (World.cell?_of_block (a := ⟨B, 1, none⟩) hs).trans h.c1, (World.cell?_of_block (a := ⟨B, 2, none⟩) hs).trans h.c2, (World.cell?_of_block (a := ⟨B, 3, none⟩) hs).trans h.c3, (World.cell?_of_block (a := ⟨B, 4, none⟩) hs).trans h.c4, fun o => by simp [h.fz o]⟩
theorem TB.putF {W : World} {B : Nat} {k n e p q : Int} (h : TB W B k n e p q) (k' n' e' : Int) : TB (((W.setCell ⟨B, 0, none⟩ (.int .i64 k')).setCell ⟨B, 1, none⟩ (.int .i64 n')).setCell ⟨B, 2, none⟩ (.int .u32 e')) B k' n' e' p q :=
  ⟨by simpa using h.lt, ((World.cell?_setCell_other _ _ _ _ (by simp)).trans ((World.cell?_setCell_other _ _ _ _ (by simp)).trans (World.cell?_setCell_same _ _ _ h.c0))), ((World.cell?_setCell_other _ _ _ _ (by simp)).trans (World.cell?_setCell_same _ _ _ ((World.cell?_setCell_other _ _ _ _ (by simp)).trans h.c1))), (World.cell?_setCell_same _ _ _ ((World.cell?_setCell_other _ _ _ _ (by simp)).trans ((World.cell?_setCell_other _ _ _ _ (by simp)).trans h.c2))), ((World.cell?_setCell_other _ _ _ _ (by simp)).trans ((World.cell?_setCell_other _ _ _ _ (by simp)).trans ((World.cell?_setCell_other _ _ _ _ (by simp)).trans h.c3))), ((World.cell?_setCell_other _ _ _ _ (by simp)).trans ((World.cell?_setCell_other _ _ _ _ (by simp)).trans ((World.cell?_setCell_other _ _ _ _ (by simp)).trans h.c4))), fun o => by simp [h.fz o]⟩
theorem TB.putR {W : World} {B : Nat} {k n e p q : Int} (h : TB W B k n e p q) (p' q' : Int) : TB ((W.setCell ⟨B, 3, none⟩ (.int .i64 p')).setCell ⟨B, 4, none⟩ (.int .i64 q')) B k n e p' q' :=
  ⟨by simpa using h.lt, ((World.cell?_setCell_other _ _ _ _ (by simp)).trans ((World.cell?_setCell_other _ _ _ _ (by simp)).trans h.c0)), ((World.cell?_setCell_other _ _ _ _ (by simp)).trans ((World.cell?_setCell_other _ _ _ _ (by simp)).trans h.c1)), ((World.cell?_setCell_other _ _ _ _ (by simp)).trans ((World.cell?_setCell_other _ _ _ _ (by simp)).trans h.c2)), ((World.cell?_setCell_other _ _ _ _ (by simp)).trans (World.cell?_setCell_same _ _ _ h.c3)), (World.cell?_setCell_same _ _ _ ((World.cell?_setCell_other _ _ _ _ (by simp)).trans h.c4)), fun o => by simp [h.fz o]⟩
theorem TB.all {W : World} {B : Nat} {k n e p q : Int} (h : TB W B k n e p q) (k' n' e' p' q' : Int) : TB (((((W.setCell ⟨B, 0, none⟩ (.int .i64 k')).setCell ⟨B, 1, none⟩ (.int .i64 n')).setCell ⟨B, 2, none⟩ (.int .u32 e')).setCell ⟨B, 3, none⟩ (.int .i64 p')).setCell ⟨B, 4, none⟩ (.int .i64 q')) B k' n' e' p' q' :=
  ⟨by simpa using h.lt, ((World.cell?_setCell_other _ _ _ _ (by simp)).trans ((World.cell?_setCell_other _ _ _ _ (by simp)).trans ((World.cell?_setCell_other _ _ _ _ (by simp)).trans ((World.cell?_setCell_other _ _ _ _ (by simp)).trans (World.cell?_setCell_same _ _ _ h.c0))))), ((World.cell?_setCell_other _ _ _ _ (by simp)).trans ((World.cell?_setCell_other _ _ _ _ (by simp)).trans ((World.cell?_setCell_other _ _ _ _ (by simp)).trans (World.cell?_setCell_same _ _ _ ((World.cell?_setCell_other _ _ _ _ (by simp)).trans h.c1))))), ((World.cell?_setCell_other _ _ _ _ (by simp)).trans ((World.cell?_setCell_other _ _ _ _ (by simp)).trans (World.cell?_setCell_same _ _ _ ((World.cell?_setCell_other _ _ _ _ (by simp)).trans ((World.cell?_setCell_other _ _ _ _ (by simp)).trans h.c2))))), ((World.cell?_setCell_other _ _ _ _ (by simp)).trans (World.cell?_setCell_same _ _ _ ((World.cell?_setCell_other _ _ _ _ (by simp)).trans ((World.cell?_setCell_other _ _ _ _ (by simp)).trans ((World.cell?_setCell_other _ _ _ _ (by simp)).trans h.c3))))), (World.cell?_setCell_same _ _ _ ((World.cell?_setCell_other _ _ _ _ (by simp)).trans ((World.cell?_setCell_other _ _ _ _ (by simp)).trans ((World.cell?_setCell_other _ _ _ _ (by simp)).trans ((World.cell?_setCell_other _ _ _ _ (by simp)).trans h.c4))))), fun o => by simp [h.fz o]⟩
section
variable (w : World)
theorem szt_ok (a : Option Addr) (l cap : Nat) (hl : l ≤ 1048576) :
    Calls Tryz.prog 25 #[.slice a l cap, .int .i64 1048576] w fun r w' => r = .returned (.int .i64 (1048576 - (l : Int))) ∧ w = w' := by
  go_enter Tryz.func25, Tryz.ntmps25
  go_wp2
  go_ret
  exact ⟨rfl, rfl⟩
theorem szt_long (a : Option Addr) (l cap : Nat) (hl : 1048576 < l) (hm : l ≤ 9223372036854775807) :
    Calls Tryz.prog 25 #[.slice a l cap, .int .i64 1048576] w fun r w' => r = .returned (.int .i64 (-1)) ∧ w = w' := by
  go_enter Tryz.func25, Tryz.ntmps25
  go_wp2
  go_ret
  exact ⟨rfl, rfl⟩
theorem toFrac_any (n e : Int) :
    Calls Tryz.prog 15 #[.agg #[.int .i64 n, .int .i64 e]] w fun r w' => r = .returned (.agg #[.int .i64 n, .int .i64 e]) ∧ Below w.heap.size w w' := by
  go_enter Tryz.func15, Tryz.ntmps15
  go_wp2
  exact bodyPost_ret (v := .agg #[.int .i64 n, .int .i64 e]) (by simp [results, Tryz.results15, go_sem]) rfl ⟨rfl, by repeat (first | exact Below.refl _ _ | apply Below.drew | (refine Below.alloc ?_ (by first | (simp; done) | (simp; omega)) _) | (refine Below.setCell ?_ (by first | (simp; done) | (simp; omega)) _))⟩
theorem eqFrac_any (m f : Int) : Calls Tryz.prog 24 #[.agg #[.int .i64 m, .int .i64 f], .agg #[.int .i64 m, .int .i64 f]] w fun r w' => r = .returned (.bool true) ∧ Below w.heap.size w w' := by
  go_enter Tryz.func24, Tryz.ntmps24
  go_wp2
  go_ret
  exact ⟨rfl, by (repeat (first | exact Below.refl _ _ | assumption | refine bchain (by assumption) ?_ | refine balloc ?_ _ | apply Below.drew | apply below_drewN | (refine Below.alloc ?_ (by (try simp) <;> omega) _) | (refine Below.setCell ?_ (by (try simp) <;> omega) _)))⟩
theorem toTerm_any (x y z s t : Int) :
    Calls Tryz.prog 53 #[.agg #[.int .i64 x, .int .i64 y, .int .u32 z, .int .i64 s, .int .i64 t]] w fun r w' => r = .returned (.agg #[.int .i64 x, .int .i64 y, .int .u32 z, .int .i64 s, .int .i64 t]) ∧ Below w.heap.size w w' := by
  obtain ⟨W3, hW3⟩ : ∃ W3, W3 = ((w.alloc (.cells #[.int .i64 x, .int .i64 y, .int .u32 z, .int .i64 s, .int .i64 t] 106)).alloc (.cells #[.int .i64 0, .int .i64 0, .int .u32 0, .int .i64 0, .int .i64 0] 87)).alloc (.cells #[.int .i64 0, .int .i64 0, .int .u32 0, .int .i64 0, .int .i64 0] 87) := ⟨_, rfl⟩
  have hB3 : Below w.heap.size w W3 := by rw [hW3]; (repeat (first | exact Below.refl _ _ | assumption | refine bchain (by assumption) ?_ | refine balloc ?_ _ | apply Below.drew | apply below_drewN | (refine Below.alloc ?_ (by (try simp) <;> omega) _) | (refine Below.setCell ?_ (by (try simp) <;> omega) _)))
  have sz : ∀ (W : World) (o : Obj), (W.alloc o).heap.size = W.heap.size + 1 := fun W o => by simp
  have tA : TB W3 w.heap.size x y z s t := by rw [hW3]; exact (((TB.made w x y z s t _).below (balloc (Below.refl _ _) _)).below (balloc (Below.refl _ _) _))
  have tR : TB W3 (w.heap.size + 1) 0 0 0 0 0 := by rw [hW3, ← sz w (.cells #[.int .i64 x, .int .i64 y, .int .u32 z, .int .i64 s, .int .i64 t] 106)]; exact (TB.made _ 0 0 0 0 0 87).below (balloc (Below.refl _ _) _)
  have tO : TB W3 (w.heap.size + 1 + 1) 0 0 0 0 0 := by rw [hW3, ← sz w (.cells #[.int .i64 x, .int .i64 y, .int .u32 z, .int .i64 s, .int .i64 t] 106), ← sz _ (.cells #[.int .i64 0, .int .i64 0, .int .u32 0, .int .i64 0, .int .i64 0] 87)]; exact TB.made _ 0 0 0 0 0 87
  clear sz
  replace hW3 := Lib.hid hW3
  obtain ⟨ltA, a0, a1, a2, a3, a4, _⟩ := id tA
  go_enter Tryz.func53, Tryz.ntmps53
  go_wp2_with fail
  rw [← hW3.out]
  go_wp2_with fail
  refine (toFlag_any _ x y z).mono ?_
  rintro r1 w1 ⟨rfl, hb1⟩
  replace tA := tA.below hb1
  replace tR := tR.below hb1
  replace tO := tO.below hb1
  replace hB3 := bchain hb1 hB3
  clear hb1 a0 a1 a2 a3 a4 ltA
  obtain ⟨ltA, a0, a1, a2, a3, a4, _⟩ := id tA
  obtain ⟨ltO, o0, o1, o2, o3, o4, fO⟩ := id tO
  obtain ⟨W5, hW5⟩ : ∃ W5, W5 = ((w1.setCell ⟨w.heap.size + 1 + 1, 0, none⟩ (.int .i64 x)).setCell ⟨w.heap.size + 1 + 1, 1, none⟩ (.int .i64 y)).setCell ⟨w.heap.size + 1 + 1, 2, none⟩ (.int .u32 z) := ⟨_, rfl⟩
  have kA : TB W5 w.heap.size x y z s t := by rw [hW5]; exact ((tA.other _ (by show w.heap.size + 1 + 1 ≠ w.heap.size; omega)).other _ (by show w.heap.size + 1 + 1 ≠ w.heap.size; omega)).other _ (by show w.heap.size + 1 + 1 ≠ w.heap.size; omega)
  have kR : TB W5 (w.heap.size + 1) 0 0 0 0 0 := by rw [hW5]; exact ((tR.other _ (by show w.heap.size + 1 + 1 ≠ w.heap.size + 1; omega)).other _ (by show w.heap.size + 1 + 1 ≠ w.heap.size + 1; omega)).other _ (by show w.heap.size + 1 + 1 ≠ w.heap.size + 1; omega)
  have kO : TB W5 (w.heap.size + 1 + 1) x y z 0 0 := by rw [hW5]; exact tO.putF x y z
  have kB : Below w.heap.size w W5 := by rw [hW5]; exact ((hB3.setCell (p := ⟨w.heap.size + 1 + 1, 0, none⟩) (by show w.heap.size ≤ w.heap.size + 1 + 1; omega) _).setCell (p := ⟨w.heap.size + 1 + 1, 1, none⟩) (by show w.heap.size ≤ w.heap.size + 1 + 1; omega) _).setCell (p := ⟨w.heap.size + 1 + 1, 2, none⟩) (by show w.heap.size ≤ w.heap.size + 1 + 1; omega) _
  replace hW5 := Lib.hid hW5
  clear tA tR tO hB3
  go_wp2_with fail
  refine (toFrac_any _ s t).mono ?_
  rintro r2 w2 ⟨rfl, hb2⟩
  rw [← hW5.out] at hb2
  replace kR := kR.below hb2
  replace kO := kO.below hb2
  replace kB := bchain hb2 kB
  clear hb2 a0 a1 a2 a3 a4 ltA o0 o1 o2 o3 o4 ltO fO kA
  obtain ⟨ltO, o0, o1, o2, o3, o4, fO⟩ := id kO
  obtain ⟨ltR, u0, u1, u2, u3, u4, fR⟩ := id kR
  obtain ⟨W6, hW6⟩ : ∃ W6, W6 = (w2.setCell ⟨w.heap.size + 1 + 1, 3, none⟩ (.int .i64 s)).setCell ⟨w.heap.size + 1 + 1, 4, none⟩ (.int .i64 t) := ⟨_, rfl⟩
  have jR : TB W6 (w.heap.size + 1) 0 0 0 0 0 := by rw [hW6]; exact (kR.other _ (by show w.heap.size + 1 + 1 ≠ w.heap.size + 1; omega)).other _ (by show w.heap.size + 1 + 1 ≠ w.heap.size + 1; omega)
  have jB : Below w.heap.size w W6 := by rw [hW6]; exact (kB.setCell (p := ⟨w.heap.size + 1 + 1, 3, none⟩) (by show w.heap.size ≤ w.heap.size + 1 + 1; omega) _).setCell (p := ⟨w.heap.size + 1 + 1, 4, none⟩) (by show w.heap.size ≤ w.heap.size + 1 + 1; omega) _
  have jF := jR.all x y z s t
  have jBB := (((((jB.setCell (p := ⟨w.heap.size + 1, 0, none⟩) (by show w.heap.size ≤ w.heap.size + 1; omega) (.int .i64 x)).setCell (p := ⟨w.heap.size + 1, 1, none⟩) (by show w.heap.size ≤ w.heap.size + 1; omega) (.int .i64 y)).setCell (p := ⟨w.heap.size + 1, 2, none⟩) (by show w.heap.size ≤ w.heap.size + 1; omega) (.int .u32 z)).setCell (p := ⟨w.heap.size + 1, 3, none⟩) (by show w.heap.size ≤ w.heap.size + 1; omega) (.int .i64 s)).setCell (p := ⟨w.heap.size + 1, 4, none⟩) (by show w.heap.size ≤ w.heap.size + 1; omega) (.int .i64 t))
  clear kR kO kB jR jB
  go_wp2
  rw [← hW6]
  obtain ⟨WW, hWW⟩ : ∃ WW, WW = (((((W6.setCell ⟨w.heap.size + 1, 0, none⟩ (.int .i64 x)).setCell ⟨w.heap.size + 1, 1, none⟩ (.int .i64 y)).setCell ⟨w.heap.size + 1, 2, none⟩ (.int .u32 z)).setCell ⟨w.heap.size + 1, 3, none⟩ (.int .i64 s)).setCell ⟨w.heap.size + 1, 4, none⟩ (.int .i64 t)) := ⟨_, rfl⟩
  rw [← hWW] at jF jBB ⊢
  clear hWW hW6
  obtain ⟨_, v0, v1, v2, v3, v4, _⟩ := jF
  exact bodyPost_ret (v := .agg #[.int .i64 x, .int .i64 y, .int .u32 z, .int .i64 s, .int .i64 t]) (by simp [results, Tryz.results53, go_sem, v0, v1, v2, v3, v4]) rfl ⟨rfl, jBB⟩
theorem eqTerm_any (x y z s t : Int) :
    Calls Tryz.prog 68 #[.agg #[.int .i64 x, .int .i64 y, .int .u32 z, .int .i64 s, .int .i64 t], .agg #[.int .i64 x, .int .i64 y, .int .u32 z, .int .i64 s, .int .i64 t]] w fun r w' => r = .returned (.bool true) ∧ Below w.heap.size w w' := by
  go_enter Tryz.func68, Tryz.ntmps68
  go_wp2
  go_ret
  exact ⟨rfl, by (repeat (first | exact Below.refl _ _ | assumption | refine bchain (by assumption) ?_ | refine balloc ?_ _ | apply Below.drew | apply below_drewN | (refine Below.alloc ?_ (by (try simp) <;> omega) _) | (refine Below.setCell ?_ (by (try simp) <;> omega) _)))⟩
theorem toTs_empty (a : Option Addr) (cap : Nat) :
    Calls Tryz.prog 33 #[.slice a 0 cap] w fun r w' => (∃ v, r = .returned v ∧ SlT w' v [] ∧ NewT w w' v 0) ∧ Below w.heap.size w w' := by
  obtain ⟨i0, hi0, hz0, hs0, hb0⟩ := info_parts info_term
  have hmk : ∀ W : World, (Instr.makeSlice 37 (.int .i64 0) (.int .i64 0)).run Tryz.prog W = .ok (.slice (some ⟨W.heap.size, 0, none⟩) 0 0) (W.alloc (.cells (madeCells #[.int .i64 0, .int .i64 0, .int .u32 0, .int .i64 0, .int .i64 0] (0 * 5)) 87)) := fun W => by
    have hr := run_make (P := Tryz.prog) W 37 87 i0 (.agg #[.int .i64 0, .int .i64 0, .int .u32 0, .int .i64 0, .int .i64 0]) Tryz.underlying37 hi0 hz0 .i64 .i64 ((0 : Nat) : Int) ((0 : Nat) : Int) (by omega) (by omega) (by rw [hb0]; omega) (by omega)
    simp only [Int.toNat_natCast, hs0] at hr
    exact hr
  clear hi0 hz0 hs0 hb0
  go_enter Tryz.func33, Tryz.ntmps33
  go_wp2
  go_loopw [4] (fun i wr => i = .int .i64 0 ∧ Below w.heap.size w wr) (fun _ _ => 0)
  case atStart => exact ⟨rfl, by (repeat (first | exact Below.refl _ _ | assumption | refine bchain (by assumption) ?_ | refine balloc ?_ _ | apply Below.drew | apply below_drewN | (refine Below.alloc ?_ (by (try simp) <;> omega) _) | (refine Below.setCell ?_ (by (try simp) <;> omega) _)))⟩
  case round =>
    obtain ⟨rfl, hb⟩ := hrel
    go_wp2
    go_ret
    exact ⟨⟨_, rfl, ⟨_, _, rfl, by simp, by simp, fun c => absurd rfl c⟩, ⟨_, _, rfl, fun c => absurd c (Nat.lt_irrefl _)⟩⟩, hb⟩
set_option maxHeartbeats 1000000 in
theorem toTs_some (b off cap : Nat) (gs : List TE) (h1 : 0 < gs.length) (h2 : gs.length ≤ cap) (hm : gs.length ≤ 1048576) (hb : b < w.heap.size) (hc : ∀ i, i < gs.length → TCell w b off (tAt gs i) i) :
    Calls Tryz.prog 33 #[.slice (some ⟨b, off, none⟩) gs.length cap] w fun r w' => (∃ v, r = .returned v ∧ SlT w' v gs ∧ NewT w w' v gs.length) ∧ Below w.heap.size w w' := by
  obtain ⟨i0, hi0, hz0, hs0, hb0⟩ := info_parts info_term
  obtain ⟨O, hO⟩ : ∃ O, O = Obj.cells (madeCells #[.int .i64 0, .int .i64 0, .int .u32 0, .int .i64 0, .int .i64 0] (gs.length * 5)) 87 := ⟨_, rfl⟩
  obtain ⟨n, hn⟩ : ∃ n, n = gs.length := ⟨_, rfl⟩
  rw [← hn] at h1 h2 hm hO ⊢
  have hmk : ∀ W : World, (Instr.makeSlice 37 (.int .i64 n) (.int .i64 n)).run Tryz.prog W = .ok (.slice (some ⟨W.heap.size, 0, none⟩) n n) (W.alloc O) := fun W => by
    have hr := run_make (P := Tryz.prog) W 37 87 i0 (.agg #[.int .i64 0, .int .i64 0, .int .u32 0, .int .i64 0, .int .i64 0]) Tryz.underlying37 hi0 hz0 .i64 .i64 (n : Int) (n : Int) (by omega) (by omega) (by rw [hb0]; omega) (by omega)
    simp only [Int.toNat_natCast, hs0] at hr
    rw [hO]
    exact hr
  clear hi0 hz0 hs0 hb0
  replace hO := Lib.hid hO
  replace hn := Lib.hid hn
  replace hc := Lib.hid hc
  go_enter Tryz.func33, Tryz.ntmps33
  go_wp2
  go_loopw [4] (fun i wr => ∃ k : Nat, k ≤ n ∧ i = .int .i64 k ∧ HalfT wr w.heap.size k gs ∧ (∀ o, wr.frozen? ⟨w.heap.size, o, none⟩ = false) ∧ w.heap.size < wr.heap.size ∧ Below w.heap.size w wr) (fun i _ => n - (intOf i).toNat)
  case atStart => exact ⟨0, by omega, rfl, by rw [hO.out]; exact madeT _ _ _ _ _ rfl hn.out.symm, fun o => by rw [hO.out]; simp, by simp, by (repeat (first | exact Below.refl _ _ | assumption | refine bchain (by assumption) ?_ | refine balloc ?_ _ | apply Below.drew | apply below_drewN | (refine Below.alloc ?_ (by (try simp) <;> omega) _) | (refine Below.setCell ?_ (by (try simp) <;> omega) _)))⟩
  case round =>
    obtain ⟨k, hk, rfl, hh, hf, hz, hB⟩ := hrel
    by_cases hlt : k < n
    · have hg := hc.out k (by have := hn.out; omega)
      obtain ⟨x, y, z, s, t, hxy⟩ : ∃ x y z s t, tAt gs k = ⟨x, y, z, s, t⟩ := ⟨_, _, _, _, _, rfl⟩
      have sc0 : wr.cell? ⟨b, off + k * 5, none⟩ = some (.int .i64 x) := by rw [hB.cell (p := ⟨b, _, none⟩) hb, hg.1, hxy]
      have sc1 : wr.cell? ⟨b, off + k * 5 + 1, none⟩ = some (.int .i64 y) := by rw [hB.cell (p := ⟨b, _, none⟩) hb, hg.2.1, hxy]
      have sc2 : wr.cell? ⟨b, off + k * 5 + 2, none⟩ = some (.int .u32 z) := by rw [hB.cell (p := ⟨b, _, none⟩) hb, hg.2.2.1, hxy]
      have sc3 : wr.cell? ⟨b, off + k * 5 + 3, none⟩ = some (.int .i64 s) := by rw [hB.cell (p := ⟨b, _, none⟩) hb, hg.2.2.2.1, hxy]
      have sc4 : wr.cell? ⟨b, off + k * 5 + 4, none⟩ = some (.int .i64 t) := by rw [hB.cell (p := ⟨b, _, none⟩) hb, hg.2.2.2.2, hxy]
      have hset := Lib.hid (fun (W : World) (h : HalfT W w.heap.size k gs) => h.set (k := k) (by have := hn.out; omega))
      rw [hxy] at hset
      clear hg hxy
      replace hh := Lib.hid hh
      replace hf := Lib.hid hf
      go_wp2_with fail
      refine (toTerm_any _ x y z s t).mono ?_
      rintro r3 w3 ⟨rfl, hb3⟩
      have hh3 := hh.out.below hb3 hz
      have hz3 := Nat.lt_of_lt_of_le hz hb3.size
      have ht := hh3 k (by have := hn.out; omega)
      rw [if_neg (by omega)] at ht
      have t0 : w3.cell? ⟨w.heap.size, k * 5, none⟩ = some (.int .i64 0) := by have := ht.1; rwa [Nat.zero_add] at this
      have t1 : w3.cell? ⟨w.heap.size, k * 5 + 1, none⟩ = some (.int .i64 0) := by have := ht.2.1; rwa [Nat.zero_add] at this
      have t2 : w3.cell? ⟨w.heap.size, k * 5 + 2, none⟩ = some (.int .u32 0) := by have := ht.2.2.1; rwa [Nat.zero_add] at this
      have t3 : w3.cell? ⟨w.heap.size, k * 5 + 3, none⟩ = some (.int .i64 0) := by have := ht.2.2.2.1; rwa [Nat.zero_add] at this
      have t4 : w3.cell? ⟨w.heap.size, k * 5 + 4, none⟩ = some (.int .i64 0) := by have := ht.2.2.2.2; rwa [Nat.zero_add] at this
      have hf3 : ∀ o, w3.frozen? ⟨w.heap.size, o, none⟩ = false := fun o => (hb3.frozen (p := ⟨w.heap.size, o, none⟩) hz).trans (hf.out o)
      have f0 := hf3 (k * 5)
      have f1 := hf3 (k * 5 + 1)
      have f2 := hf3 (k * 5 + 2)
      have f3 := hf3 (k * 5 + 3)
      have f4 := hf3 (k * 5 + 4)
      have hn2 := Lib.hid (hset.out w3 hh3)
      have hB3 : Below w.heap.size w w3 := by (repeat (first | exact Below.refl _ _ | assumption | refine bchain (by assumption) ?_ | refine balloc ?_ _ | apply Below.drew | apply below_drewN | (refine Below.alloc ?_ (by (try simp) <;> omega) _) | (refine Below.setCell ?_ (by (try simp) <;> omega) _)))
      have hF5 : Hid (∀ o, (((((w3.setCell ⟨w.heap.size, k * 5, none⟩ (.int .i64 x)).setCell ⟨w.heap.size, k * 5 + 1, none⟩ (.int .i64 y)).setCell ⟨w.heap.size, k * 5 + 2, none⟩ (.int .u32 z)).setCell ⟨w.heap.size, k * 5 + 3, none⟩ (.int .i64 s)).setCell ⟨w.heap.size, k * 5 + 4, none⟩ (.int .i64 t)).frozen? ⟨w.heap.size, o, none⟩ = false) := fun o => by simp [hf3 o]
      have hz5 : Hid (w.heap.size < (((((w3.setCell ⟨w.heap.size, k * 5, none⟩ (.int .i64 x)).setCell ⟨w.heap.size, k * 5 + 1, none⟩ (.int .i64 y)).setCell ⟨w.heap.size, k * 5 + 2, none⟩ (.int .u32 z)).setCell ⟨w.heap.size, k * 5 + 3, none⟩ (.int .i64 s)).setCell ⟨w.heap.size, k * 5 + 4, none⟩ (.int .i64 t)).heap.size) := by show _ < _; simpa using hz3
      have hB5 := Lib.hid (((((hB3.setCell (p := ⟨w.heap.size, k * 5, none⟩) (Nat.le_refl _) (.int .i64 x)).setCell (p := ⟨w.heap.size, k * 5 + 1, none⟩) (Nat.le_refl _) (.int .i64 y)).setCell (p := ⟨w.heap.size, k * 5 + 2, none⟩) (Nat.le_refl _) (.int .u32 z)).setCell (p := ⟨w.heap.size, k * 5 + 3, none⟩) (Nat.le_refl _) (.int .i64 s)).setCell (p := ⟨w.heap.size, k * 5 + 4, none⟩) (Nat.le_refl _) (.int .i64 t))
      replace hf3 := Lib.hid hf3
      clear hh3 ht hB3
      go_wp2
      go_roundw
      case rel => exact ⟨k + 1, by omega, by go_num, hn2.out, hF5.out, hz5.out, hB5.out⟩
      case measure => simp [intOf]; omega
    · have hd := decide_eq_false (show ¬ ((k : Int) < (n : Int)) by omega)
      obtain rfl : k = n := by omega
      replace hh := Lib.hid hh
      replace hf := Lib.hid hf
      go_wp2
      go_ret
      refine ⟨⟨_, rfl, ?_⟩, hB⟩
      have e := hn.out
      subst e
      exact ⟨HalfT.done hh.out hz (Nat.le_refl _) (by omega), _, _, rfl, fun _ => ⟨_, rfl, Nat.le_refl _, hz, hf.out⟩⟩
theorem toTs_any (v : Value) (gs : List TE) (h : SlT w v gs) (hm : gs.length ≤ 1048576) :
    Calls Tryz.prog 33 #[v] w fun r w' => (∃ u, r = .returned u ∧ SlT w' u gs ∧ NewT w w' u gs.length) ∧ Below w.heap.size w w' := by
  obtain ⟨a, cap, rfl, h1, h2, h3⟩ := h
  cases gs with
  | nil => exact toTs_empty w a cap
  | cons z zs =>
    obtain ⟨b, off, rfl, hb, hc⟩ := h3 (by simp)
    exact toTs_some w b off cap (z :: zs) (by simp) h1 hm hb hc
theorem eqTs_empty (a a' : Option Addr) (cap cap' : Nat) :
    Calls Tryz.prog 42 #[.slice a 0 cap, .slice a' 0 cap'] w fun r w' => r = .returned (.bool true) ∧ Below w.heap.size w w' := by
  go_enter Tryz.func42, Tryz.ntmps42
  go_wp2
  go_loopw [5] (fun i wr => i = .int .i64 0 ∧ Below w.heap.size w wr) (fun _ _ => 0)
  case atStart => exact ⟨rfl, by (repeat (first | exact Below.refl _ _ | assumption | refine bchain (by assumption) ?_ | refine balloc ?_ _ | apply Below.drew | apply below_drewN | (refine Below.alloc ?_ (by (try simp) <;> omega) _) | (refine Below.setCell ?_ (by (try simp) <;> omega) _)))⟩
  case round =>
    obtain ⟨rfl, hb⟩ := hrel
    go_wp2
    go_ret
    exact ⟨rfl, hb⟩
set_option maxHeartbeats 1000000 in
theorem eqTs_some (b off cap b' off' cap' : Nat) (gs : List TE) (h1 : 0 < gs.length) (hm : gs.length ≤ 1048576) (hb : b < w.heap.size) (hb' : b' < w.heap.size)
    (hc : ∀ i, i < gs.length → TCell w b off (tAt gs i) i) (hc' : ∀ i, i < gs.length → TCell w b' off' (tAt gs i) i) :
    Calls Tryz.prog 42 #[.slice (some ⟨b, off, none⟩) gs.length cap, .slice (some ⟨b', off', none⟩) gs.length cap'] w fun r w' => r = .returned (.bool true) ∧ Below w.heap.size w w' := by
  obtain ⟨n, hn⟩ : ∃ n, n = gs.length := ⟨_, rfl⟩
  rw [← hn] at h1 hm ⊢
  replace hn := Lib.hid hn
  replace hc := Lib.hid hc
  replace hc' := Lib.hid hc'
  go_enter Tryz.func42, Tryz.ntmps42
  go_wp2
  go_loopw [5] (fun i wr => ∃ k : Nat, k ≤ n ∧ i = .int .i64 k ∧ Below w.heap.size w wr) (fun i _ => n - (intOf i).toNat)
  case atStart => exact ⟨0, by omega, rfl, by (repeat (first | exact Below.refl _ _ | assumption | refine bchain (by assumption) ?_ | refine balloc ?_ _ | apply Below.drew | apply below_drewN | (refine Below.alloc ?_ (by (try simp) <;> omega) _) | (refine Below.setCell ?_ (by (try simp) <;> omega) _)))⟩
  case round =>
    obtain ⟨k, hk, rfl, hB⟩ := hrel
    by_cases hlt : k < n
    · have hg := hc.out k (by have := hn.out; omega)
      have hg' := hc'.out k (by have := hn.out; omega)
      obtain ⟨x, y, z, s, t, hxy⟩ : ∃ x y z s t, tAt gs k = ⟨x, y, z, s, t⟩ := ⟨_, _, _, _, _, rfl⟩
      have sc0 : wr.cell? ⟨b, off + k * 5, none⟩ = some (.int .i64 x) := by rw [hB.cell (p := ⟨b, _, none⟩) hb, hg.1, hxy]
      have sc1 : wr.cell? ⟨b, off + k * 5 + 1, none⟩ = some (.int .i64 y) := by rw [hB.cell (p := ⟨b, _, none⟩) hb, hg.2.1, hxy]
      have sc2 : wr.cell? ⟨b, off + k * 5 + 2, none⟩ = some (.int .u32 z) := by rw [hB.cell (p := ⟨b, _, none⟩) hb, hg.2.2.1, hxy]
      have sc3 : wr.cell? ⟨b, off + k * 5 + 3, none⟩ = some (.int .i64 s) := by rw [hB.cell (p := ⟨b, _, none⟩) hb, hg.2.2.2.1, hxy]
      have sc4 : wr.cell? ⟨b, off + k * 5 + 4, none⟩ = some (.int .i64 t) := by rw [hB.cell (p := ⟨b, _, none⟩) hb, hg.2.2.2.2, hxy]
      have tc0 : wr.cell? ⟨b', off' + k * 5, none⟩ = some (.int .i64 x) := by rw [hB.cell (p := ⟨b', _, none⟩) hb', hg'.1, hxy]
      have tc1 : wr.cell? ⟨b', off' + k * 5 + 1, none⟩ = some (.int .i64 y) := by rw [hB.cell (p := ⟨b', _, none⟩) hb', hg'.2.1, hxy]
      have tc2 : wr.cell? ⟨b', off' + k * 5 + 2, none⟩ = some (.int .u32 z) := by rw [hB.cell (p := ⟨b', _, none⟩) hb', hg'.2.2.1, hxy]
      have tc3 : wr.cell? ⟨b', off' + k * 5 + 3, none⟩ = some (.int .i64 s) := by rw [hB.cell (p := ⟨b', _, none⟩) hb', hg'.2.2.2.1, hxy]
      have tc4 : wr.cell? ⟨b', off' + k * 5 + 4, none⟩ = some (.int .i64 t) := by rw [hB.cell (p := ⟨b', _, none⟩) hb', hg'.2.2.2.2, hxy]
      have hE := Lib.hid (eqTerm_any wr.drew x y z s t)
      have hk1 : (k : Int) < (n : Int) := by omega
      clear hg hg' hxy
      go_wp2
      go_still_tail 8, (by kernel_rfl)
      change wpList _ _ _ _ _ wr.drew
      go_wp2_with (go_at_call 68; refine (hE.out).mono ?_; rintro r3 w3 ⟨rfl, hb3⟩)
      go_roundw
      case rel => exact ⟨k + 1, by omega, by go_num, by (repeat (first | exact Below.refl _ _ | assumption | refine bchain (by assumption) ?_ | refine balloc ?_ _ | apply Below.drew | apply below_drewN | (refine Below.alloc ?_ (by (try simp) <;> omega) _) | (refine Below.setCell ?_ (by (try simp) <;> omega) _)))⟩
      case measure => simp [intOf]; omega
    · have hd := decide_eq_false (show ¬ ((k : Int) < (n : Int)) by omega)
      go_wp2
      go_ret
      exact ⟨rfl, hB⟩
theorem eqTs_any (u v : Value) (gs : List TE) (h : SlT w u gs) (h' : SlT w v gs) (hm : gs.length ≤ 1048576) :
    Calls Tryz.prog 42 #[u, v] w fun r w' => r = .returned (.bool true) ∧ Below w.heap.size w w' := by
  obtain ⟨a, cap, rfl, h1, h2, h3⟩ := h
  obtain ⟨a', cap', rfl, h1', h2', h3'⟩ := h'
  cases gs with
  | nil => exact eqTs_empty w a a' cap cap'
  | cons z zs =>
    obtain ⟨b, off, rfl, hb, hc⟩ := h3 (by simp)
    obtain ⟨b', off', rfl, hb', hc'⟩ := h3' (by simp)
    exact eqTs_some w b off cap b' off' cap' (z :: zs) (by simp) hm hb hb' hc hc'
end
end Go.Proofs.YtiedombphcdpbaaGreatDoor
