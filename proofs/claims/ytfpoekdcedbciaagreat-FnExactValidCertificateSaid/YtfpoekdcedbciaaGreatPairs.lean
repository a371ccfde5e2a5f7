/-
  THE ITERATOR OVER PAIRS OF VERTICES THAT ARE AS A FUNCTION TELLS: its contract; the lists of pairs.
-/
import Derived.Test.YtfpoekdcedbciaaGreatPlain
import Derived.RangeFuncNested
import Derived.RangeFuncBound
import Derived.RangeFuncCalls
import Derived.RangeFuncLeaves
import Derived.RangeFuncWrites
import Derived.Shelf.Abstract
import Derived.Shelf.RegionOpen
import Derived.OwnWalkIn
import Derived.TacticsInMore
import Derived.LoopNIn
import Derived.LoopIn
namespace Go.Proofs.YtfpoekdcedbciaaGreat
open Go.RowKit Go.Shelf
set_option maxRecDepth 100000

/-- the pairs of vertices before j, the lesser one first, in the order of their bits -/
def prs : Nat → List (Nat × Nat) | 0 => [] | j + 1 => prs j ++ (List.range j).map fun i => (i, j)
/-- .. and then those of j with the vertices before i -/
def prsTo (j i : Nat) : List (Nat × Nat) := prs j ++ (List.range i).map fun i => (i, j)
theorem prsTo_zero (j : Nat) : prsTo j 0 = prs j := by simp [prsTo]
theorem prsTo_end (j : Nat) : prsTo j j = prs (j + 1) := rfl
theorem prsTo_succ (j i : Nat) : prsTo j (i + 1) = prsTo j i ++ [(i, j)] := by simp [prsTo, List.range_succ]
theorem prs_length (j : Nat) : (prs j).length ≤ j * j := by
  induction j with
  | zero => simp [prs]
  | succ j ih =>
    simp only [prs, List.length_append, List.length_map, List.length_range]
    rw [Nat.add_mul, Nat.mul_add]
    omega
theorem prsTo_length (j i : Nat) : (prsTo j i).length ≤ j * j + i := by
  have := prs_length j
  simp only [prsTo, List.length_append, List.length_map, List.length_range]
  omega
/-- two vertices, the lesser one first -/
abbrev Pr (n : Nat) := { p : Nat × Nat // p.1 < p.2 ∧ p.2 < n }
abbrev Pr.encs {n : Nat} (x : Pr n) : Array Value := #[.int .i64 (x.1.1 : Nat), .int .i64 (x.1.2 : Nat)]
def vals {n : Nat} (xs : List (Pr n)) : List (Nat × Nat) := xs.map Subtype.val
theorem vals_snoc {n : Nat} (xs : List (Pr n)) (x : Pr n) : vals (xs ++ [x]) = vals xs ++ [x.1] := by simp [vals]
theorem vals_length {n : Nat} (xs : List (Pr n)) : (vals xs).length = xs.length := by simp [vals]

theorem below_grown {W w' : World} (h : Below W.heap.size W w') : W.grownBy w' none := ⟨h.os, h.tape, h.output, h.size, fun k hk _ => h.block k hk⟩

/-- two blocks lie as they lay -/
def Kp2 (Bg Ba : Nat) (W W' : World) : Prop := W.heap.size ≤ W'.heap.size ∧ W'.heap[Bg]? = W.heap[Bg]? ∧ W'.heap[Ba]? = W.heap[Ba]?
theorem Kp2.refl (Bg Ba : Nat) (W : World) : Kp2 Bg Ba W W := ⟨Nat.le_refl _, rfl, rfl⟩
theorem Kp2.trans {Bg Ba : Nat} {A B C : World} (h : Kp2 Bg Ba A B) (k : Kp2 Bg Ba B C) : Kp2 Bg Ba A C := ⟨Nat.le_trans h.1 k.1, k.2.1.trans h.2.1, k.2.2.trans h.2.2⟩
theorem Kp2.of_below {Bg Ba : Nat} {A B : World} (h : Below A.heap.size A B) (hg : Bg < A.heap.size) (ha : Ba < A.heap.size) : Kp2 Bg Ba A B := ⟨h.size, h.block _ hg, h.block _ ha⟩
theorem Kp2.put {Bg Ba : Nat} {w : World} (hg : Bg < w.heap.size) (ha : Ba < w.heap.size) (W : World) (l : Nat) (o o' : Obj) (hl : w.heap.size ≤ l) (_h : W.heap[l]? = some o) (_ : o.isCells = false) (_ : o.isWalk = false) : Kp2 Bg Ba W (W.putObj l o') :=
  ⟨by simp [World.putObj], World.putObj_heap_other (by omega), World.putObj_heap_other (by omega)⟩
theorem Kp2.set {Bg Ba : Nat} (W : World) (p : Addr) (v : Value) (hg : p.block ≠ Bg) (ha : p.block ≠ Ba) : Kp2 Bg Ba W (W.setCell p v) :=
  ⟨by simp, Below.heap_setCell _ _ _ _ (Ne.symm hg), Below.heap_setCell _ _ _ _ (Ne.symm ha)⟩

end Go.Proofs.YtfpoekdcedbciaaGreat
