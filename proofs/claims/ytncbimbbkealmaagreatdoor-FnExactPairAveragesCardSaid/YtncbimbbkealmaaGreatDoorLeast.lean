/-
  THE LEAST GRAPH THAT IS ALIKE: the program's contract.
-/
import Derived.Test.YtncbimbbkealmaaGreatDoorIter
import Derived.Test.YtncbimbbkealmaaGreatDoorOn
namespace Go.Proofs.YtncbimbbkealmaaGreatDoor
open Go.RowKit Go.Shelf
set_option maxRecDepth 100000
attribute [local go_sem] Oper.semAt_some

/-- the two boxes of an iterator over lists -/
structure LoMade (w w' : World) (B : Nat) (n k : Int) : Prop where
  below : Below w.heap.size w w'
  ge : w.heap.size ≤ B
  lt : B + 1 < w'.heap.size
  gn : w'.cell? ⟨B, 0, none⟩ = some (.int .i64 n)
  gk : w'.cell? ⟨B + 1, 0, none⟩ = some (.int .i64 k)
section
variable (w : World)
theorem lo_any (n k : Int) :
    Calls Tryz.prog 71 #[.int .i64 n, .int .i64 k] w fun r w' => ∃ B, r = .returned (.func (.func 93) #[] #[.pointer (some ⟨B, 0, none⟩), .pointer (some ⟨B + 1, 0, none⟩)]) ∧ LoMade w w' B n k := by
  have s1 : ∀ (W : World) (o : Obj), (W.alloc o).heap.size = W.heap.size + 1 := fun W o => by simp
  replace s1 := Lib.hid s1
  go_enter Tryz.func71, Tryz.ntmps71
  go_wp2
  go_ret
  refine ⟨w.heap.size, rfl, by (repeat (first | exact Below.refl _ _ | assumption | refine bchain (by assumption) ?_ | refine balloc ?_ _ | apply Below.drew | apply below_drewN | (refine Below.alloc ?_ (by (try simp) <;> omega) _) | (refine Below.setCell ?_ (by (try simp) <;> omega) _))), Nat.le_refl _, by rw [s1.out, s1.out]; omega, ?_, ?_⟩
  · rw [cOld _ _ _ _ (by rw [s1.out]; omega), cNew _ _ _ _ _ rfl]; rfl
  · rw [cNew _ _ _ _ _ (by rw [s1.out])]; rfl
/-- the least edges after some orders -/
def minE (e : Nat) (pre : List (List Nat)) : Nat := pre.foldl (fun b x => min b (onL e x)) e
theorem minE_snoc (e : Nat) (pre : List (List Nat)) (x : List Nat) : minE e (pre ++ [x]) = min (minE e pre) (onL e x) := by simp [minE]
theorem minE_le (e : Nat) (pre : List (List Nat)) : minE e pre ≤ e := by
  have : ∀ (l : List (List Nat)) (a : Nat), l.foldl (fun b x => min b (onL e x)) a ≤ a := by
    intro l
    induction l with
    | nil => intro a; exact Nat.le_refl _
    | cons x l ih => intro a; exact Nat.le_trans (ih _) (Nat.min_le_left _ _)
  exact this pre e
def leastE (n e : Nat) : Nat := minE e (lists n n)
theorem onL_lt (e : Nat) (x : List Nat) (hx : x.length ≤ 5) : onL e x < 2 ^ 10 := onE_lt e _ _ hx

/-- the graph on a list -/
theorem ionL_any (v : Value) (x : List Nat) (n k e : Nat) (h : See x v w) (hn5 : n ≤ 5) (he : e < 4294967296) (hx : okList n k x = true) :
    Calls Tryz.prog 75 #[.agg #[.int .i64 n, .int .u32 e], v] w fun r w' => r = .returned (.agg #[.int .i64 k, .int .u32 (onL e x : Nat)]) ∧ Below w.heap.size w w' := by
  have := ion_any w v (zl x) n e h hn5 he (diff_zl hx)
  rw [zl_length, ok_length hx] at this
  unfold onL
  rw [ok_length hx]
  exact this

theorem P3.begin (w : World) (n e l acc : Int) (t : TypeId) : P3 (((w.alloc (.cells #[.int .i64 n, .int .u32 e] t)).alloc (.cells #[.int .i64 0, .int .u32 0] t)).alloc (.cells #[.int .i64 l, .int .u32 acc] t)) w.heap.size n e l acc := by
  have s1 : ∀ (W : World) (o : Obj), (W.alloc o).heap.size = W.heap.size + 1 := fun W o => by simp
  constructor
  · rw [s1, s1, s1]; omega
  · rw [cOld _ _ _ _ (by rw [s1, s1]; omega), cOld _ _ _ _ (by rw [s1]; omega), cNew _ _ _ _ _ rfl]; rfl
  · rw [cOld _ _ _ _ (by rw [s1, s1]; omega), cOld _ _ _ _ (by rw [s1]; omega), cNew _ _ _ _ _ rfl]; rfl
  · rw [cOld _ _ _ _ (by rw [s1, s1]; omega), cNew _ _ _ _ _ (by rw [s1])]; rfl
  · rw [cOld _ _ _ _ (by rw [s1, s1]; omega), cNew _ _ _ _ _ (by rw [s1])]; rfl
  · rw [cNew _ _ _ _ _ (by rw [s1, s1])]; rfl
  · rw [cNew _ _ _ _ _ (by rw [s1, s1])]; rfl
  · rw [fOld _ _ _ _ (by rw [s1, s1]; omega), fNew _ _ _ _ _ (by rw [s1])]
  · rw [fOld _ _ _ _ (by rw [s1, s1]; omega), fNew _ _ _ _ _ (by rw [s1])]
  · rw [fNew _ _ _ _ _ (by rw [s1, s1])]
theorem P3.block {wr w' : World} {G : Nat} {n e l acc : Int} (h : P3 wr G n e l acc) (hz : wr.heap.size ≤ w'.heap.size) (h0 : w'.heap[G]? = wr.heap[G]?) (h1 : w'.heap[G + 1]? = wr.heap[G + 1]?) (h2 : w'.heap[G + 2]? = wr.heap[G + 2]?) : P3 w' G n e l acc where
  size := Nat.lt_of_lt_of_le h.size hz
  g0 := (World.cell?_of_block (a := ⟨G, 0, none⟩) h0).trans h.g0
  g1 := (World.cell?_of_block (a := ⟨G, 1, none⟩) h0).trans h.g1
  r0 := (World.cell?_of_block (a := ⟨G + 1, 0, none⟩) h1).trans h.r0
  r1 := (World.cell?_of_block (a := ⟨G + 1, 1, none⟩) h1).trans h.r1
  p0 := (World.cell?_of_block (a := ⟨G + 2, 0, none⟩) h2).trans h.p0
  p1 := (World.cell?_of_block (a := ⟨G + 2, 1, none⟩) h2).trans h.p1
  fr0 := (World.frozen?_of_block (a := ⟨G + 1, 0, none⟩) h1).trans h.fr0
  fr1 := (World.frozen?_of_block (a := ⟨G + 1, 1, none⟩) h1).trans h.fr1
  fp1 := (World.frozen?_of_block (a := ⟨G + 2, 1, none⟩) h2).trans h.fp1
theorem P3.under {wr w' : World} {G B : Nat} {n e l acc : Int} (h : P3 wr G n e l acc) (hb : Below B wr w') (hB : G + 2 < B) : P3 w' G n e l acc :=
  h.block hb.size (hb.block _ (by omega)) (hb.block _ (by omega)) (hb.block _ hB)

end
end Go.Proofs.YtncbimbbkealmaaGreatDoor
