/-
  ReadDeed: the box of a deed; ParseInt whose error nobody looks at.
-/
import Derived.Test.YtdbidlnkaplekaaDoorPi
namespace Go.Proofs.YtdbidlnkaplekaaDoor
open Go.RowKit
set_option maxRecDepth 100000
/-- a deed's box -/
structure DB (W : World) (B : Nat) (k a b : Int) : Prop where
  lt : B < W.heap.size
  c0 : W.cell? ⟨B, 0, none⟩ = some (.int .i64 k)
  c1 : W.cell? ⟨B, 1, none⟩ = some (.int .i64 a)
  c2 : W.cell? ⟨B, 2, none⟩ = some (.int .i64 b)
  fz : ∀ o, W.frozen? ⟨B, o, none⟩ = false
theorem DB.below {W W' : World} {B : Nat} {k n e : Int} (h : DB W B k n e) (hb : Below W.heap.size W W') : DB W' B k n e :=
  ⟨Nat.lt_of_lt_of_le h.lt hb.size, (hb.cell (p := ⟨B, 0, none⟩) h.lt).trans h.c0, (hb.cell (p := ⟨B, 1, none⟩) h.lt).trans h.c1, (hb.cell (p := ⟨B, 2, none⟩) h.lt).trans h.c2, fun o => (hb.frozen (p := ⟨B, o, none⟩) h.lt).trans (h.fz o)⟩
theorem DB.made (W : World) (k n e : Int) (t : TypeId) : DB (W.alloc (.cells #[.int .i64 k, .int .i64 n, .int .i64 e] t)) W.heap.size k n e :=
  ⟨by simp, by rw [World.cell?_alloc_new]; rfl, by rw [World.cell?_alloc_new]; rfl, by rw [World.cell?_alloc_new]; rfl, fun o => by simp⟩
theorem DB.set0 {W : World} {B : Nat} {k n e : Int} (h : DB W B k n e) (x : Int) : DB (W.setCell ⟨B, 0, none⟩ (.int .i64 x)) B x n e :=
  ⟨by have := h.lt; simpa using this, World.cell?_setCell_same _ _ _ h.c0, (World.cell?_setCell_other _ _ _ _ (by simp)).trans h.c1, (World.cell?_setCell_other _ _ _ _ (by simp)).trans h.c2, fun o => by simp [h.fz o]⟩
theorem DB.set1 {W : World} {B : Nat} {k n e : Int} (h : DB W B k n e) (x : Int) : DB (W.setCell ⟨B, 1, none⟩ (.int .i64 x)) B k x e :=
  ⟨by have := h.lt; simpa using this, (World.cell?_setCell_other _ _ _ _ (by simp)).trans h.c0, World.cell?_setCell_same _ _ _ h.c1, (World.cell?_setCell_other _ _ _ _ (by simp)).trans h.c2, fun o => by simp [h.fz o]⟩
theorem DB.set2 {W : World} {B : Nat} {k n e : Int} (h : DB W B k n e) (x : Int) : DB (W.setCell ⟨B, 2, none⟩ (.int .i64 x)) B k n x :=
  ⟨by have := h.lt; simpa using this, (World.cell?_setCell_other _ _ _ _ (by simp)).trans h.c0, (World.cell?_setCell_other _ _ _ _ (by simp)).trans h.c1, World.cell?_setCell_same _ _ _ h.c2, fun o => by simp [h.fz o]⟩
theorem DB.put {W : World} {B : Nat} {k n e : Int} (h : DB W B k n e) (k' n' e' : Int) : DB (((W.setCell ⟨B, 0, none⟩ (.int .i64 k')).setCell ⟨B, 1, none⟩ (.int .i64 n')).setCell ⟨B, 2, none⟩ (.int .i64 e')) B k' n' e' := ((h.set0 k').set1 n').set2 e'
theorem DB.other {W : World} {B : Nat} {k n e : Int} (h : DB W B k n e) {a : Addr} (v : Value) (hp : a.block ≠ B) : DB (W.setCell a v) B k n e := by
  have hs : (W.setCell a v).heap[B]? = W.heap[B]? := Below.heap_setCell _ _ _ _ (by omega)
  exact ⟨by simpa using h.lt, (World.cell?_of_block (a := ⟨B, 0, none⟩) hs).trans h.c0, (World.cell?_of_block (a := ⟨B, 1, none⟩) hs).trans h.c1, (World.cell?_of_block (a := ⟨B, 2, none⟩) hs).trans h.c2, fun o => by simp [h.fz o]⟩
section
variable (w : World)
theorem piZ_any (l : List UInt8) (hl : l.length ≤ 2000000) (hL : LibW w) :
    Calls Tryd.prog 18 #[.string (tx l), .int .i64 10, .int .i64 64] w fun r w' => (∃ v ev, r = .returned (.tuple #[.int .i64 v, ev]) ∧ (∀ v', Lib.parseIntB 64 l = .ok v' → v = v') ∧ (l = [] → v = 0)) ∧ Below w.heap.size w w' := by
  have e : (tx l).data.toList = l := by simp [tx]
  have hs := tx_size l
  have h0 : Lib.parseIntB 64 [] = .syntax := by decide
  cases hp : Lib.parseIntB 64 l with
  | ok v =>
    refine (Tryd.strconv_ParseInt_10_at64_ok (tx l) (by rw [hs]; omega) v (by rw [e]; exact hp) w).mono ?_
    rintro r w' ⟨rfl, h⟩
    refine ⟨⟨v, _, rfl, fun v' h => Lib.NumEnd.ok.inj h, fun h => (by rw [h, h0] at hp; cases hp)⟩, ?_⟩
    rcases h with rfl | ⟨t, rfl⟩
    · exact Below.refl _ _
    · exact Lib.bytesWorld_below _ _ _
  | «syntax» =>
    obtain ⟨ev, h1, h2⟩ := hL.sy
    refine (Tryd.strconv_ParseInt_10_at64_syntax (tx l) (by rw [hs]; omega) (by rw [e]; exact hp) ev w h1 h2).mono ?_
    rintro r w' ⟨N, rfl, _, _, hb⟩
    exact ⟨⟨_, _, rfl, fun v h => (by cases h), fun _ => rfl⟩, hb⟩
  | range =>
    obtain ⟨ev, h1, h2⟩ := hL.rg
    refine (Tryd.strconv_ParseInt_10_at64_range (tx l) (by rw [hs]; omega) (by rw [e]; exact hp) ev w h1 h2).mono ?_
    rintro r w' ⟨N, rfl, _, _, hb⟩
    exact ⟨⟨_, _, rfl, fun v h => (by cases h), fun h => (by rw [h, h0] at hp; cases hp)⟩, hb⟩
end
end Go.Proofs.YtdbidlnkaplekaaDoor
