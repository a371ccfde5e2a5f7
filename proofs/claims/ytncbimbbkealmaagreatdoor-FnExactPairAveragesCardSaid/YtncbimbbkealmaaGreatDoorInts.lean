/-
  LISTS OF int64: 'SlI w v zs': in the world w the value v is a list that holds zs. What copies such a list, and what holds two against each other.
-/
import Derived.Test.YtncbimbbkealmaaGreatDoorBase
import Derived.Deep.OwnRows
import Derived.Lib.Hide
namespace Go.Proofs.YtncbimbbkealmaaGreatDoor
open Go.RowKit
set_option maxRecDepth 100000

/-- v is a list that holds zs -/
def SlI (w : World) (v : Value) (zs : List Int) : Prop :=
  ∃ (a : Option Addr) (cap : Nat), v = .slice a zs.length cap ∧ zs.length ≤ cap ∧ cap ≤ 9223372036854775807 ∧
    (zs ≠ [] → ∃ b off, a = some ⟨b, off, none⟩ ∧ b < w.heap.size ∧ ∀ i, i < zs.length → w.cell? ⟨b, off + i, none⟩ = some (.int .i64 (zs[i]?.getD 0)))

theorem SlI.below {w w' : World} {v : Value} {zs : List Int} (h : SlI w v zs) (hb : Below w.heap.size w w') : SlI w' v zs := by
  obtain ⟨a, cap, e, h1, h2, h3⟩ := h
  refine ⟨a, cap, e, h1, h2, fun hz => ?_⟩
  obtain ⟨b, off, e2, hlt, hc⟩ := h3 hz
  exact ⟨b, off, e2, Nat.lt_of_lt_of_le hlt hb.size, fun i hi => (hb.cell (p := ⟨b, off + i, none⟩) hlt).trans (hc i hi)⟩

/-- a block that holds the first k of zs, zeros behind -/
def Half (w : World) (B k : Nat) (zs : List Int) : Prop := ∀ i, i < zs.length → w.cell? ⟨B, i, none⟩ = some (.int .i64 (if i < k then zs[i]?.getD 0 else 0)) 
theorem Half.set {w : World} {B k : Nat} {zs : List Int} (h : Half w B k zs) (hk : k < zs.length) : Half ((w.setCell ⟨B, k, none⟩ (.int .i64 (zs[k]?.getD 0)))) B (k + 1) zs := by
  intro i hi
  by_cases e : i = k
  · subst e
    rw [World.cell?_setCell_same _ _ _ (h i hi), if_pos (by omega)]
  · rw [World.cell?_setCell_other _ _ _ _ (by simp), h i hi]
    by_cases h2 : i < k
    · rw [if_pos h2, if_pos (by omega)]
    · rw [if_neg h2, if_neg (by omega)]
theorem Half.done {w : World} {B cap : Nat} {zs : List Int} (h : Half w B zs.length zs) (hB : B < w.heap.size) (hc : zs.length ≤ cap) (hm : cap ≤ 9223372036854775807) : SlI w (.slice (some ⟨B, 0, none⟩) zs.length cap) zs :=
  ⟨_, _, rfl, hc, hm, fun _ => ⟨B, 0, rfl, hB, fun i hi => by rw [Nat.zero_add, h i hi, if_pos hi]⟩⟩

theorem info_i64 : (Tryz.prog.info? 2).map (fun i => (i.zero, i.size, i.bytes)) = some (some (.int .i64 0), 1, 8) := by kernel_rfl

section
variable (w : World)
theorem madeCell (n B : Nat) (e : TypeId) (hB : B = w.heap.size) : ∀ i, i < n → (w.alloc (.cells (madeCells #[.int .i64 0] n) e)).cell? ⟨B, i, none⟩ = some (.int .i64 0) := by
  intro i hi
  subst hB
  rw [World.cell?_alloc_new]
  simp [madeCells, hi, Nat.mod_one]

end
end Go.Proofs.YtncbimbbkealmaaGreatDoor
