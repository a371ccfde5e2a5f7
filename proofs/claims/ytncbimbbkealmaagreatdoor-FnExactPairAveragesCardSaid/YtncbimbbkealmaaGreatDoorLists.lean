/-
  THE LISTS OF k DIFFERENT ONES OF n VERTICES, IN THEIR ORDER; AND THE STEP FROM ONE OF THEM TO THE NEXT: plain facts on lists.
-/
import Derived.Test.YtncbimbbkealmaaGreatDoorPlain
namespace Go.Proofs.YtncbimbbkealmaaGreatDoor
set_option maxRecDepth 100000

/-- the lists with m vertices more that begin with p -/
def ext (n : Nat) : Nat → List Nat → List (List Nat)
  | 0, p => [p]
  | m + 1, p => (List.range n).flatMap fun v => if p.contains v then [] else ext n m (p ++ [v])
def lists (n k : Nat) : List (List Nat) := ext n k []
/-- .. those whose next vertex is before j -/
def extTo (n m : Nat) (p : List Nat) (j : Nat) : List (List Nat) := (List.range j).flatMap fun v => if p.contains v then [] else ext n m (p ++ [v])
theorem extTo_zero (n m : Nat) (p : List Nat) : extTo n m p 0 = [] := by simp [extTo]
theorem extTo_end (n m : Nat) (p : List Nat) : extTo n m p n = ext n (m + 1) p := rfl
theorem extTo_t {n m : Nat} {p : List Nat} {j : Nat} (h : p.contains j = true) : extTo n m p (j + 1) = extTo n m p j := by
  simp only [extTo, List.range_succ, List.flatMap_append, List.flatMap_cons, List.flatMap_nil, h, if_true, List.append_nil]
theorem extTo_f {n m : Nat} {p : List Nat} {j : Nat} (h : p.contains j = false) : extTo n m p (j + 1) = extTo n m p j ++ ext n m (p ++ [j]) := by
  simp only [extTo, List.range_succ, List.flatMap_append, List.flatMap_cons, List.flatMap_nil, h, List.append_nil]
  rfl
theorem extTo_pre {n m : Nat} {p : List Nat} {j : Nat} (h : j ≤ n) : ∃ t, ext n (m + 1) p = extTo n m p j ++ t := by
  refine ⟨((List.range (n - j)).map (j + ·)).flatMap fun v => if p.contains v then [] else ext n m (p ++ [v]), ?_⟩
  rw [extTo, ← List.flatMap_append, ← List.range_add, show j + (n - j) = n by omega]
  rfl

/-- the least number that is none of the first m -/
def ffree (x : List Nat) (m : Nat) : Nat := ((List.range (m + 1)).find? fun u => !(x.take m).contains u).getD 0
def fillTo (x : List Nat) (i : Nat) : Nat → List Nat
  | 0 => x
  | j + 1 => (fillTo x i j).set (i + 1 + j) (ffree (fillTo x i j) (i + 1 + j))
def vfree (n : Nat) (x : List Nat) (i : Nat) : Option Nat := (List.range n).find? fun v => decide (x[i]?.getD 0 < v) && !(x.take i).contains v
def nxtAt (n : Nat) (x : List Nat) : Nat → Option (List Nat)
  | 0 => none
  | i + 1 => match vfree n x i with
    | some v => some (fillTo (x.set i v) i (x.length - 1 - i))
    | none => nxtAt n x i
def nxt (n : Nat) (x : List Nat) : Option (List Nat) := nxtAt n x x.length
theorem nxtAt_some {n : Nat} {x : List Nat} {i v : Nat} (h : vfree n x i = some v) : nxtAt n x (i + 1) = some (fillTo (x.set i v) i (x.length - 1 - i)) := by rw [nxtAt, h]
theorem nxtAt_none {n : Nat} {x : List Nat} {i : Nat} (h : vfree n x i = none) : nxtAt n x (i + 1) = nxtAt n x i := by rw [nxtAt, h]
theorem fillTo_length (x : List Nat) (i j : Nat) : (fillTo x i j).length = x.length := by
  induction j with
  | zero => rfl
  | succ j ih => simp [fillTo, ih]
theorem vfree_some {n : Nat} {x : List Nat} {i v : Nat} (hv : v < n) (h1 : x[i]?.getD 0 < v) (h2 : (x.take i).contains v = false) (h3 : ∀ u, x[i]?.getD 0 < u → u < v → (x.take i).contains u = true) : vfree n x i = some v := by
  unfold vfree
  rw [List.find?_range_eq_some]
  refine ⟨by rw [h2]; simpa using h1, by simpa using hv, fun u hu => ?_⟩
  by_cases c : x[i]?.getD 0 < u
  · rw [h3 u c hu]; simp
  · rw [decide_eq_false c]; simp
theorem vfree_none {n : Nat} {x : List Nat} {i : Nat} (h3 : ∀ u, x[i]?.getD 0 < u → u < n → (x.take i).contains u = true) : vfree n x i = none := by
  unfold vfree
  rw [List.find?_range_eq_none]
  intro u hu
  by_cases c : x[i]?.getD 0 < u
  · rw [h3 u c hu]; simp
  · rw [decide_eq_false c]; simp
/-- numbers that are all in a list are not more than it has -/
theorem range_le (w : Nat) : ∀ l : List Nat, (∀ u, u < w → l.contains u = true) → w ≤ l.length := by
  induction w with
  | zero => intro l _; omega
  | succ w ih =>
    intro l h
    have hm : w ∈ l := by simpa using h w (by omega)
    have := ih (l.erase w) (fun u hu => by
      have h1 : u ∈ l := by simpa using h u (by omega)
      have h2 : u ∈ l.erase w := (List.mem_erase_of_ne (by omega)).2 h1
      simpa using h2)
    rw [List.length_erase_of_mem hm] at this
    have : 0 < l.length := List.length_pos_of_mem hm
    omega
theorem ffree_eq {x : List Nat} {m u : Nat} (hx : m ≤ x.length) (h1 : (x.take m).contains u = false) (h2 : ∀ v, v < u → (x.take m).contains v = true) : ffree x m = u := by
  have hu : u ≤ m := by
    have := range_le u (x.take m) h2
    rw [List.length_take] at this
    omega
  unfold ffree
  rw [show (List.range (m + 1)).find? (fun u => !(x.take m).contains u) = some u from by
    rw [List.find?_range_eq_some]
    exact ⟨by rw [h1]; rfl, by simp; omega, fun v hv => by rw [h2 v hv]; rfl⟩]
  rfl

theorem lists_next : ∀ n, n ≤ 5 → ∀ k, k ≤ n → ∀ j, j < (lists n k).length → nxt n ((lists n k)[j]?.getD []) = (lists n k)[j + 1]? := by decide +kernel
theorem lists_first : ∀ n, n ≤ 5 → ∀ k, k ≤ n → (lists n k)[0]? = some (List.range k) := by decide +kernel
theorem lists_none : ∀ n, n ≤ 5 → ∀ k, k ≤ 5 → n < k → lists n k = [] := by decide +kernel
def okList (n k : Nat) (x : List Nat) : Bool := x.length == k && (List.range k).all fun i => decide (x[i]?.getD 0 < n) && (List.range i).all fun j => x[j]?.getD 0 != x[i]?.getD 0
theorem lists_all : ∀ n, n ≤ 5 → ∀ k, k ≤ 5 → (lists n k).all (okList n k) = true := by decide +kernel
theorem lists_ok {n k : Nat} (hn : n ≤ 5) (hk : k ≤ 5) {x : List Nat} (hx : x ∈ lists n k) : okList n k x = true := List.all_eq_true.1 (lists_all n hn k hk) x hx

/-- a list as the program holds it -/
def zl (x : List Nat) : List Int := x.map fun v : Nat => (v : Int)
theorem zl_length (x : List Nat) : (zl x).length = x.length := by simp [zl]
theorem zl_get (x : List Nat) (i : Nat) : (zl x)[i]?.getD 0 = ((x[i]?.getD 0 : Nat) : Int) := by
  unfold zl
  rw [List.getElem?_map]
  cases x[i]? <;> rfl
theorem vx_zl (x : List Nat) (i : Nat) : vx (zl x) i = x[i]?.getD 0 := by
  unfold vx zi
  rw [zl_get]
  simp
theorem diff_zl {n k : Nat} {x : List Nat} (h : okList n k x = true) : Diff (zl x) n := by
  simp only [okList, Bool.and_eq_true, beq_iff_eq, List.all_eq_true, List.mem_range, decide_eq_true_eq, bne_iff_ne] at h
  intro i hi
  rw [zl_length] at hi
  obtain ⟨h1, h2⟩ := h.2 i (by omega)
  refine ⟨by unfold zi; rw [zl_get]; omega, by unfold zi; rw [zl_get]; omega, fun j hj => ?_⟩
  have := h2 j hj
  unfold zi
  rw [zl_get, zl_get]
  omega
theorem ok_length {n k : Nat} {x : List Nat} (h : okList n k x = true) : x.length = k := by
  simp only [okList, Bool.and_eq_true, beq_iff_eq] at h
  exact h.1
theorem ok_lt {n k : Nat} {x : List Nat} (h : okList n k x = true) {i : Nat} (hi : i < k) : x[i]?.getD 0 < n := by
  simp only [okList, Bool.and_eq_true, beq_iff_eq, List.all_eq_true, List.mem_range, decide_eq_true_eq] at h
  exact (h.2 i hi).1
theorem zl_ok {n k : Nat} {x : List Nat} (h : okList n k x = true) : (zl x).length = k := by rw [zl_length, ok_length h]
/-- the edges of the graph on a list -/
def onL (e : Nat) (x : List Nat) : Nat := onE e (vx (zl x)) x.length
end Go.Proofs.YtncbimbbkealmaaGreatDoor
