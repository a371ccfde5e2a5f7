/-
  PLAIN MATHEMATICS OF GRAPHS ON A LIST: no Go in sight. 'onE e f k': the bits of the graph on f 0 .. f (k - 1) of the graph with the bits e.
-/
import Derived.Test.YtncbimbbkealmaaGreatDoorDiff
import Derived.Test.YtncbimbbkealmaaGreatDoorPair
namespace Go.Proofs.YtncbimbbkealmaaGreatDoor
open Go.RowKit
set_option maxRecDepth 100000

theorem pigeon : ∀ (n m : Nat) (f : Nat → Nat), (∀ i, i < m → f i < n) → (∀ i j, i < j → j < m → f i ≠ f j) → m ≤ n := by
  intro n
  induction n with
  | zero =>
    intro m f h _
    cases m with
    | zero => omega
    | succ m => exact absurd (h 0 (by omega)) (Nat.not_lt_zero _)
  | succ n ih =>
    intro m f h hd
    by_cases hx : ∃ i, i < m ∧ f i = n
    · obtain ⟨i0, h0, he⟩ := hx
      have key := ih (m - 1) (fun i => if i < i0 then f i else f (i + 1)) ?_ ?_
      · omega
      · intro i hi
        by_cases c : i < i0
        · have h1 := h i (by omega)
          have h2 := hd i i0 c h0
          simp only [c, if_true]
          omega
        · have h1 := h (i + 1) (by omega)
          have h2 := hd i0 (i + 1) (by omega) (by omega)
          simp only [c, if_false]
          omega
      · intro i j hij hj
        by_cases c : i < i0
        · by_cases d : j < i0
          · simp only [c, d, if_true]; exact hd i j hij (by omega)
          · simp only [c, d, if_true, if_false]; exact hd i (j + 1) (by omega) (by omega)
        · have d : ¬ j < i0 := by omega
          simp only [c, d, if_false]
          exact hd (i + 1) (j + 1) (by omega) (by omega)
    · have := ih m f (fun i hi => by
        have h1 := h i hi
        have h2 : f i ≠ n := fun e => hx ⟨i, hi, e⟩
        omega) hd
      omega

/-- the vertices of a list, as natural numbers -/
def vx (zs : List Int) (i : Nat) : Nat := (zi zs i).toNat
theorem Diff.vx_eq {zs : List Int} {n : Int} (h : Diff zs n) {i : Nat} (hi : i < zs.length) : zi zs i = (vx zs i : Int) := by
  have := (h i hi).1
  unfold vx
  omega
theorem Diff.vx_lt {zs : List Int} {n : Nat} (h : Diff zs n) {i : Nat} (hi : i < zs.length) : vx zs i < n := by
  have h1 := (h i hi).2.1
  have h2 := h.vx_eq hi
  omega
theorem Diff.vx_ne {zs : List Int} {n : Int} (h : Diff zs n) {i j : Nat} (hij : i < j) (hj : j < zs.length) : vx zs i ≠ vx zs j := by
  intro e
  have h1 := (h j hj).2.2 i hij
  rw [h.vx_eq (by omega), h.vx_eq hj, e] at h1
  exact h1 rfl
theorem Diff.length_le {zs : List Int} {n : Nat} (h : Diff zs n) : zs.length ≤ n :=
  pigeon n zs.length (vx zs) (fun _ hi => h.vx_lt hi) (fun _ _ hij hj => h.vx_ne hij hj)

def rowE (e : Nat) (f : Nat → Nat) (j : Nat) : Nat → Nat | 0 => 0 | i + 1 => rowE e f j i ||| (if jn e (f i) (f j) = true then pb i j else 0)
def onE (e : Nat) (f : Nat → Nat) : Nat → Nat | 0 => 0 | j + 1 => onE e f j ||| rowE e f j j

theorem pp_lt (i j : Nat) (hij : i < j) (hj : j ≤ 4) : pp i j < 10 := by
  have h2 : j = 1 ∨ j = 2 ∨ j = 3 ∨ j = 4 := by omega
  have h1 : i = 0 ∨ i = 1 ∨ i = 2 ∨ i = 3 := by omega
  rcases h2 with rfl | rfl | rfl | rfl <;> rcases h1 with rfl | rfl | rfl | rfl <;> first | decide | (exfalso; omega)
theorem pb_lt (i j : Nat) (hij : i < j) (hj : j ≤ 4) : pb i j < 2 ^ 10 := Nat.pow_lt_pow_right (by omega) (pp_lt i j hij hj)
theorem rowE_lt (e : Nat) (f : Nat → Nat) (j i : Nat) (hij : i ≤ j) (hj : j ≤ 4) : rowE e f j i < 2 ^ 10 := by
  induction i with
  | zero => simp [rowE]
  | succ i ih =>
    refine Nat.or_lt_two_pow (ih (by omega)) ?_
    split
    · exact pb_lt i j (by omega) hj
    · omega
theorem onE_lt (e : Nat) (f : Nat → Nat) (j : Nat) (hj : j ≤ 5) : onE e f j < 2 ^ 10 := by
  induction j with
  | zero => simp [onE]
  | succ j ih => exact Nat.or_lt_two_pow (ih (by omega)) (rowE_lt e f j j (Nat.le_refl _) (by omega))
/-- what has been collected when the pairs before (i, j) are over -/
def accE (e : Nat) (f : Nat → Nat) (j i : Nat) : Nat := onE e f j ||| rowE e f j i
theorem accE_lt (e : Nat) (f : Nat → Nat) (j i : Nat) (hij : i ≤ j) (hj : j ≤ 4) : accE e f j i < 2 ^ 10 := Nat.or_lt_two_pow (onE_lt e f j (by omega)) (rowE_lt e f j i hij hj)
theorem accE_zero (e : Nat) (f : Nat → Nat) (j : Nat) : accE e f j 0 = onE e f j := by simp [accE, rowE]
theorem accE_end (e : Nat) (f : Nat → Nat) (j : Nat) : accE e f j j = onE e f (j + 1) := rfl
theorem accE_t (e : Nat) (f : Nat → Nat) (j i : Nat) (h : jn e (f i) (f j) = true) : accE e f j (i + 1) = accE e f j i ||| pb i j := by
  unfold accE
  rw [show rowE e f j (i + 1) = rowE e f j i ||| pb i j by rw [rowE, if_pos h], Nat.or_assoc]
theorem accE_f (e : Nat) (f : Nat → Nat) (j i : Nat) (h : jn e (f i) (f j) = false) : accE e f j (i + 1) = accE e f j i := by
  unfold accE
  rw [rowE, if_neg (by simp [h]), Nat.or_zero]

/-- the three blocks of a function that makes a graph out of another one: the other one's box, the result's, the new one's -/
structure P3 (wr : World) (G : Nat) (n e l acc : Int) : Prop where
  size : G + 2 < wr.heap.size
  g0 : wr.cell? ⟨G, 0, none⟩ = some (.int .i64 n)
  g1 : wr.cell? ⟨G, 1, none⟩ = some (.int .u32 e)
  r0 : wr.cell? ⟨G + 1, 0, none⟩ = some (.int .i64 0)
  r1 : wr.cell? ⟨G + 1, 1, none⟩ = some (.int .u32 0)
  p0 : wr.cell? ⟨G + 2, 0, none⟩ = some (.int .i64 l)
  p1 : wr.cell? ⟨G + 2, 1, none⟩ = some (.int .u32 acc)
  fr0 : wr.frozen? ⟨G + 1, 0, none⟩ = false
  fr1 : wr.frozen? ⟨G + 1, 1, none⟩ = false
  fp1 : wr.frozen? ⟨G + 2, 1, none⟩ = false
theorem cNew (W : World) (c : Array Value) (t : TypeId) (B i : Nat) (hB : B = W.heap.size) : (W.alloc (.cells c t)).cell? ⟨B, i, none⟩ = c[i]? := by subst hB; exact World.cell?_alloc_new W c t i
theorem cOld (W : World) (o : Obj) (B i : Nat) (hB : B < W.heap.size) : (W.alloc o).cell? ⟨B, i, none⟩ = W.cell? ⟨B, i, none⟩ := World.cell?_alloc_lt W o _ hB
theorem fNew (W : World) (c : Array Value) (t : TypeId) (B i : Nat) (hB : B = W.heap.size) : (W.alloc (.cells c t)).frozen? ⟨B, i, none⟩ = false := by subst hB; exact World.frozen?_alloc_new W c t i
theorem fOld (W : World) (o : Obj) (B i : Nat) (hB : B < W.heap.size) : (W.alloc o).frozen? ⟨B, i, none⟩ = W.frozen? ⟨B, i, none⟩ := World.frozen?_alloc_old W o _ (Nat.ne_of_lt hB)
theorem P3.start (w : World) (n e l : Int) (t : TypeId) : P3 (((w.alloc (.cells #[.int .i64 n, .int .u32 e] t)).alloc (.cells #[.int .i64 0, .int .u32 0] t)).alloc (.cells #[.int .i64 l, .int .u32 0] t)) w.heap.size n e l 0 := by
  have s1 : ∀ (W : World) (o : Obj), (W.alloc o).heap.size = W.heap.size + 1 := fun W o => by simp
  constructor
  · rw [s1, s1, s1]; omega
  · rw [cOld _ _ _ _ (by rw [s1, s1]; omega), cOld _ _ _ _ (by rw [s1]; omega), cNew _ _ _ _ _ rfl]; rfl
  · rw [cOld _ _ _ _ (by rw [s1, s1]; omega), cOld _ _ _ _ (by rw [s1]; omega), cNew _ _ _ _ _ rfl]; rfl
  · rw [cOld _ _ _ _ (by rw [s1, s1]; omega), cNew _ _ _ _ _ (by rw [s1])]; rfl
  · rw [cOld _ _ _ _ (by rw [s1, s1]; omega), cNew _ _ _ _ _ (by rw [s1])]; rfl
  · rw [cNew _ _ _ _ _ (by rw [s1, s1])]; rfl
  · rw [cNew _ _ _ _ _ (by rw [s1, s1])]; rfl
  · rw [fOld _ _ _ _ (by rw [s1, s1]; omega), fNew _ _ _ _ _ (by rw [s1])]
  · rw [fOld _ _ _ _ (by rw [s1, s1]; omega), fNew _ _ _ _ _ (by rw [s1])]
  · rw [fNew _ _ _ _ _ (by rw [s1, s1])]
theorem P3.below {wr w' : World} {G : Nat} {n e l acc : Int} (h : P3 wr G n e l acc) (hb : Below wr.heap.size wr w') : P3 w' G n e l acc where
  size := Nat.lt_of_lt_of_le h.size hb.size
  g0 := (hb.cell (p := ⟨G, 0, none⟩) (by have := h.size; show G < _; omega)).trans h.g0
  g1 := (hb.cell (p := ⟨G, 1, none⟩) (by have := h.size; show G < _; omega)).trans h.g1
  r0 := (hb.cell (p := ⟨G + 1, 0, none⟩) (by have := h.size; show G + 1 < _; omega)).trans h.r0
  r1 := (hb.cell (p := ⟨G + 1, 1, none⟩) (by have := h.size; show G + 1 < _; omega)).trans h.r1
  p0 := (hb.cell (p := ⟨G + 2, 0, none⟩) h.size).trans h.p0
  p1 := (hb.cell (p := ⟨G + 2, 1, none⟩) h.size).trans h.p1
  fr0 := (hb.frozen (p := ⟨G + 1, 0, none⟩) (by have := h.size; show G + 1 < _; omega)).trans h.fr0
  fr1 := (hb.frozen (p := ⟨G + 1, 1, none⟩) (by have := h.size; show G + 1 < _; omega)).trans h.fr1
  fp1 := (hb.frozen (p := ⟨G + 2, 1, none⟩) h.size).trans h.fp1
theorem P3.drew {wr : World} {G : Nat} {n e l acc : Int} (h : P3 wr G n e l acc) : P3 wr.drew G n e l acc := ⟨h.size, h.g0, h.g1, h.r0, h.r1, h.p0, h.p1, h.fr0, h.fr1, h.fp1⟩
theorem P3.drewN {wr : World} {G : Nat} {n e l acc : Int} (h : P3 wr G n e l acc) (k : Nat) : P3 (wr.drewN k) G n e l acc := ⟨h.size, h.g0, h.g1, h.r0, h.r1, h.p0, h.p1, h.fr0, h.fr1, h.fp1⟩
theorem P3.set {wr : World} {G : Nat} {n e l acc : Int} (h : P3 wr G n e l acc) (x : Int) : P3 (wr.setCell ⟨G + 2, 1, none⟩ (.int .u32 x)) G n e l x where
  size := by have := h.size; simpa using this
  g0 := (World.cell?_setCell_other _ _ _ _ (by simp)).trans h.g0
  g1 := (World.cell?_setCell_other _ _ _ _ (by simp)).trans h.g1
  r0 := (World.cell?_setCell_other _ _ _ _ (by simp)).trans h.r0
  r1 := (World.cell?_setCell_other _ _ _ _ (by simp)).trans h.r1
  p0 := (World.cell?_setCell_other _ _ _ _ (by simp)).trans h.p0
  p1 := World.cell?_setCell_same _ _ _ h.p1
  fr0 := by rw [World.frozen?_setCell]; exact h.fr0
  fr1 := by rw [World.frozen?_setCell]; exact h.fr1
  fp1 := by rw [World.frozen?_setCell]; exact h.fp1
end Go.Proofs.YtncbimbbkealmaaGreatDoor
