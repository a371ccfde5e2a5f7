/-
  LISTS OF FLAGS: 'SlK w v gs': in the world w the value v is a list that holds the flags gs (labels, vertices, edges). What copies such a list, and what holds two against each other.
-/
import Derived.Test.YtepbekhlpbnpkaaDoorKVal
import Derived.Deep.OwnRows
import Derived.Lib.Hide
import Derived.StillTailTactics
namespace Go.Proofs.YtepbekhlpbnpkaaDoor
open Go.RowKit
set_option maxRecDepth 100000

def kAt (gs : List (Int × Int × Int)) (i : Nat) : Int × Int × Int := gs[i]?.getD (0, 0, 0)
/-- three cells of a block that hold the flag at i -/
def KCell (w : World) (b off : Nat) (g : Int × Int × Int) (i : Nat) : Prop := w.cell? ⟨b, off + i * 3, none⟩ = some (.int .i64 g.1) ∧ w.cell? ⟨b, off + i * 3 + 1, none⟩ = some (.int .i64 g.2.1) ∧ w.cell? ⟨b, off + i * 3 + 2, none⟩ = some (.int .u32 g.2.2)
def SlK (w : World) (v : Value) (gs : List (Int × Int × Int)) : Prop :=
  ∃ (a : Option Addr) (cap : Nat), v = .slice a gs.length cap ∧ gs.length ≤ cap ∧ cap ≤ 9223372036854775807 ∧
    (gs ≠ [] → ∃ b off, a = some ⟨b, off, none⟩ ∧ b < w.heap.size ∧ ∀ i, i < gs.length → KCell w b off (kAt gs i) i)
theorem SlK.below {w w' : World} {v : Value} {gs : List (Int × Int × Int)} (h : SlK w v gs) (hb : Below w.heap.size w w') : SlK w' v gs := by
  obtain ⟨a, cap, e, h1, h2, h3⟩ := h
  refine ⟨a, cap, e, h1, h2, fun hz => ?_⟩
  obtain ⟨b, off, e2, hlt, hc⟩ := h3 hz
  exact ⟨b, off, e2, Nat.lt_of_lt_of_le hlt hb.size, fun i hi => ⟨(hb.cell (p := ⟨b, _, none⟩) hlt).trans (hc i hi).1, (hb.cell (p := ⟨b, _, none⟩) hlt).trans (hc i hi).2.1, (hb.cell (p := ⟨b, _, none⟩) hlt).trans (hc i hi).2.2⟩⟩
/-- a block that holds the first k of gs, zeros behind -/
def HalfK (w : World) (B k : Nat) (gs : List (Int × Int × Int)) : Prop := ∀ i, i < gs.length → KCell w B 0 (if i < k then kAt gs i else (0, 0, 0)) i
theorem HalfK.set {w : World} {B k : Nat} {gs : List (Int × Int × Int)} (h : HalfK w B k gs) (hk : k < gs.length) : HalfK (((w.setCell ⟨B, k * 3, none⟩ (.int .i64 (kAt gs k).1)).setCell ⟨B, k * 3 + 1, none⟩ (.int .i64 (kAt gs k).2.1)).setCell ⟨B, k * 3 + 2, none⟩ (.int .u32 (kAt gs k).2.2)) B (k + 1) gs := by
  intro i hi
  have hi2 := h i hi
  unfold KCell at hi2 ⊢
  rw [Nat.zero_add] at hi2 ⊢
  by_cases e : i = k
  · subst e
    rw [if_pos (by omega)]
    exact ⟨(World.cell?_setCell_other _ _ _ _ (by simp)).trans ((World.cell?_setCell_other _ _ _ _ (by simp)).trans (World.cell?_setCell_same _ _ _ hi2.1)),
      (World.cell?_setCell_other _ _ _ _ (by simp)).trans (World.cell?_setCell_same _ _ _ ((World.cell?_setCell_other _ _ _ _ (by simp)).trans hi2.2.1)),
      World.cell?_setCell_same _ _ _ ((World.cell?_setCell_other _ _ _ _ (by simp)).trans ((World.cell?_setCell_other _ _ _ _ (by simp)).trans hi2.2.2))⟩
  · rw [show (if i < k + 1 then kAt gs i else (0, 0, 0)) = (if i < k then kAt gs i else (0, 0, 0)) by
      by_cases c : i < k
      · rw [if_pos c, if_pos (by omega)]
      · rw [if_neg c, if_neg (by omega)]]
    exact ⟨(World.cell?_setCell_other _ _ _ _ (by simp <;> omega)).trans ((World.cell?_setCell_other _ _ _ _ (by simp <;> omega)).trans ((World.cell?_setCell_other _ _ _ _ (by simp <;> omega)).trans hi2.1)),
      (World.cell?_setCell_other _ _ _ _ (by simp <;> omega)).trans ((World.cell?_setCell_other _ _ _ _ (by simp <;> omega)).trans ((World.cell?_setCell_other _ _ _ _ (by simp <;> omega)).trans hi2.2.1)),
      (World.cell?_setCell_other _ _ _ _ (by simp <;> omega)).trans ((World.cell?_setCell_other _ _ _ _ (by simp <;> omega)).trans ((World.cell?_setCell_other _ _ _ _ (by simp <;> omega)).trans hi2.2.2))⟩
theorem HalfK.below {w w' : World} {B k : Nat} {gs : List (Int × Int × Int)} (h : HalfK w B k gs) (hb : Below w.heap.size w w') (hB : B < w.heap.size) : HalfK w' B k gs :=
  fun i hi => ⟨(hb.cell (p := ⟨B, _, none⟩) hB).trans (h i hi).1, (hb.cell (p := ⟨B, _, none⟩) hB).trans (h i hi).2.1, (hb.cell (p := ⟨B, _, none⟩) hB).trans (h i hi).2.2⟩
theorem HalfK.done {w : World} {B cap : Nat} {gs : List (Int × Int × Int)} (h : HalfK w B gs.length gs) (hB : B < w.heap.size) (hc : gs.length ≤ cap) (hm : cap ≤ 9223372036854775807) : SlK w (.slice (some ⟨B, 0, none⟩) gs.length cap) gs :=
  ⟨_, _, rfl, hc, hm, fun _ => ⟨B, 0, rfl, hB, fun i hi => by have := h i hi; rw [if_pos hi] at this; exact this⟩⟩
theorem info_flagK : (Tryd.prog.info? 34).map (fun i => (i.zero, i.size, i.bytes)) = some (some (.agg #[.int .i64 0, .int .i64 0, .int .u32 0]), 3, 24) := by kernel_rfl
theorem madeK (w : World) (n B : Nat) (e : TypeId) (gs : List (Int × Int × Int)) (hB : B = w.heap.size) (hn : gs.length = n) : HalfK (w.alloc (.cells (madeCells #[.int .i64 0, .int .i64 0, .int .u32 0] (n * 3)) e)) B 0 gs := by
  intro i hi
  subst hB
  unfold KCell
  rw [World.cell?_alloc_new, World.cell?_alloc_new, World.cell?_alloc_new, Nat.zero_add, if_neg (by omega)]
  have h1 : i * 3 < n * 3 := by omega
  have h2 : i * 3 + 1 < n * 3 := by omega
  have h3 : i * 3 + 2 < n * 3 := by omega
  have m1 : i * 3 % 3 = 0 := by omega
  have m2 : (i * 3 + 1) % 3 = 1 := by omega
  have m3 : (i * 3 + 2) % 3 = 2 := by omega
  refine ⟨?_, ?_, ?_⟩
  · simp [madeCells, h1, m1]
  · simp [madeCells, h2, m2]
  · simp [madeCells, h3, m3]
section
variable (w : World)
end
end Go.Proofs.YtepbekhlpbnpkaaDoor
