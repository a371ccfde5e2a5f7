/-
  CONTRACTS OF CountSelf: the program's and the model's.
-/
import Derived.Test.YtncbimbbkealmaaGreatDoorAlike
import Derived.Deep.LoopGhost
namespace Go.Proofs.YtncbimbbkealmaaGreatDoor
open Go.RowKit Go.Shelf
set_option maxRecDepth 100000
attribute [local go_sem] Oper.semAt_some

/-- how many of the orders lead to the graph itself -/
def cntE (e : Nat) (pre : List (List Nat)) : Nat := pre.countP fun x => onL e x == e
theorem cntE_t {e : Nat} {pre : List (List Nat)} {x : List Nat} (h : onL e x = e) : cntE e (pre ++ [x]) = cntE e pre + 1 := by simp [cntE, h]
theorem cntE_f {e : Nat} {pre : List (List Nat)} {x : List Nat} (h : onL e x ≠ e) : cntE e (pre ++ [x]) = cntE e pre := by simp [cntE, h]
theorem cntE_le (e : Nat) (pre : List (List Nat)) : cntE e pre ≤ pre.length := List.countP_le_length
theorem lists_len : ∀ n, n ≤ 5 → ∀ k, k ≤ 5 → (lists n k).length ≤ 120 := by decide +kernel

/-- the box of the graph, and the counter -/
structure CS (wr : World) (G C : Nat) (n e k : Int) : Prop where
  size : G < C ∧ C < wr.heap.size
  g0 : wr.cell? ⟨G, 0, none⟩ = some (.int .i64 n)
  g1 : wr.cell? ⟨G, 1, none⟩ = some (.int .u32 e)
  c0 : wr.cell? ⟨C, 0, none⟩ = some (.int .i64 k)
  fc : wr.frozen? ⟨C, 0, none⟩ = false
theorem CS.under {wr w' : World} {G C B : Nat} {n e k : Int} (h : CS wr G C n e k) (hb : Below B wr w') (hB : C < B) : CS w' G C n e k where
  size := ⟨h.size.1, Nat.lt_of_lt_of_le h.size.2 hb.size⟩
  g0 := (hb.cell (p := ⟨G, 0, none⟩) (by have := h.size; show G < B; omega)).trans h.g0
  g1 := (hb.cell (p := ⟨G, 1, none⟩) (by have := h.size; show G < B; omega)).trans h.g1
  c0 := (hb.cell (p := ⟨C, 0, none⟩) hB).trans h.c0
  fc := (hb.frozen (p := ⟨C, 0, none⟩) hB).trans h.fc
theorem CS.set {wr : World} {G C : Nat} {n e k : Int} (h : CS wr G C n e k) (x : Int) : CS (wr.setCell ⟨C, 0, none⟩ (.int .i64 x)) G C n e x where
  size := ⟨h.size.1, by have := h.size.2; simpa using this⟩
  g0 := (World.cell?_setCell_other _ _ _ _ (by have := h.size.1; simp <;> omega)).trans h.g0
  g1 := (World.cell?_setCell_other _ _ _ _ (by have := h.size.1; simp <;> omega)).trans h.g1
  c0 := World.cell?_setCell_same _ _ _ h.c0
  fc := by rw [World.frozen?_setCell]; exact h.fc

theorem cell_lt' {W : World} {B o : Nat} {v : Value} (h : W.cell? ⟨B, o, none⟩ = some v) : B < W.heap.size := World.block_lt_of_cell? W _ h
section
variable (w : World)
end
end Go.Proofs.YtncbimbbkealmaaGreatDoor
