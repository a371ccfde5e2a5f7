/-
  CountCopies: facts; the program's contract.
-/
import Derived.Test.YtncbimbbkealmaaGreatDoorVs
import Derived.Test.YtncbimbbkealmaaGreatDoorCount
namespace Go.Proofs.YtncbimbbkealmaaGreatDoor
open Go.RowKit Go.Shelf
set_option maxRecDepth 100000
attribute [local go_sem] Oper.semAt_some
namespace Cc
theorem eMax_pc : ∀ k, k ≤ 5 → eMax k = 2 ^ pc k := by decide
theorem pp_ltP : ∀ m, m ≤ 5 → ∀ j, j < m → ∀ i, i < j → pp i j < pc m := by decide +kernel
theorem rowE_ltP (e : Nat) (f : Nat → Nat) (j i m : Nat) (hij : i ≤ j) (hj : j < m) (hm : m ≤ 5) : rowE e f j i < 2 ^ pc m := by
  induction i with
  | zero => exact Nat.pow_pos (by omega)
  | succ i ih =>
    refine Nat.or_lt_two_pow (ih (by omega)) ?_
    split
    · exact Nat.pow_lt_pow_right (by omega) (pp_ltP m hm j hj i (by omega))
    · exact Nat.pow_pos (by omega)
theorem onE_ltP (e : Nat) (f : Nat → Nat) (j m : Nat) (hj : j ≤ m) (hm : m ≤ 5) : onE e f j < 2 ^ pc m := by
  induction j with
  | zero => exact Nat.pow_pos (by omega)
  | succ j ih => exact Nat.or_lt_two_pow (ih (by omega)) (rowE_ltP e f j j m (Nat.le_refl _) (by omega) hm)
theorem onL_lt (e : Nat) {n m : Nat} {x : List Nat} (hx : okList n m x = true) (hm : m ≤ 5) : onL e x < eMax m := by
  rw [eMax_pc m hm]
  unfold onL
  exact onE_ltP e _ _ m (by rw [ok_length hx]; exact Nat.le_refl _) hm
end Cc
theorem bits_ok : ∀ n, n ≤ 5 → ∀ s, s < 2 ^ n → okList n (bitsL s).length (bitsL s) = true := by decide +kernel
theorem sets_ok {n k : Nat} (hn : n ≤ 5) {x : List Nat} (hx : x ∈ setsL n k) : okList n k x = true ∧ k ≤ 5 := by
  unfold setsL setsTo at hx
  obtain ⟨s, hs, rfl⟩ := List.mem_map.1 hx
  obtain ⟨h1, h2⟩ := List.mem_filter.1 hs
  have h3 := List.mem_range.1 h1
  have h4 := bits_ok n hn s h3
  unfold isS at h2
  have h5 : (bitsL s).length = k := by simpa using h2
  rw [h5] at h4
  refine ⟨h4, ?_⟩
  have h6 := two_pow_le hn
  have := bitsL_len s (by omega)
  omega
theorem sets_len {n k : Nat} (hn : n ≤ 5) : (setsL n k).length ≤ 32 := by
  unfold setsL setsTo
  rw [List.length_map]
  have h1 := List.length_filter_le (isS k) (List.range (2 ^ n))
  rw [List.length_range] at h1
  exact Nat.le_trans h1 (two_pow_le hn)
/-- how many of the sets are a copy -/
def cpE (e k m : Nat) (pre : List (List Nat)) : Nat := pre.countP fun x => leastE k (onL e x) == leastE k m
theorem cpE_t {e k m : Nat} {pre : List (List Nat)} {x : List Nat} (h : leastE k (onL e x) = leastE k m) : cpE e k m (pre ++ [x]) = cpE e k m pre + 1 := by simp [cpE, h]
theorem cpE_f {e k m : Nat} {pre : List (List Nat)} {x : List Nat} (h : leastE k (onL e x) ≠ leastE k m) : cpE e k m (pre ++ [x]) = cpE e k m pre := by simp [cpE, h]
theorem cpE_le (e k m : Nat) (pre : List (List Nat)) : cpE e k m pre ≤ pre.length := List.countP_le_length
/-- the boxes: g, the least graph, the counter -/
structure CC (wr : World) (G L C : Nat) (n e k ls c : Int) : Prop where
  size : G < L ∧ L < C ∧ C < wr.heap.size
  g0 : wr.cell? ⟨G, 0, none⟩ = some (.int .i64 n)
  g1 : wr.cell? ⟨G, 1, none⟩ = some (.int .u32 e)
  l0 : wr.cell? ⟨L, 0, none⟩ = some (.int .i64 k)
  l1 : wr.cell? ⟨L, 1, none⟩ = some (.int .u32 ls)
  c0 : wr.cell? ⟨C, 0, none⟩ = some (.int .i64 c)
  fc : wr.frozen? ⟨C, 0, none⟩ = false
theorem CC.under {wr w' : World} {G L C B : Nat} {n e k ls c : Int} (h : CC wr G L C n e k ls c) (hb : Below B wr w') (hB : C < B) : CC w' G L C n e k ls c where
  size := ⟨h.size.1, h.size.2.1, Nat.lt_of_lt_of_le h.size.2.2 hb.size⟩
  g0 := (hb.cell (p := ⟨G, 0, none⟩) (by have := h.size; show G < B; omega)).trans h.g0
  g1 := (hb.cell (p := ⟨G, 1, none⟩) (by have := h.size; show G < B; omega)).trans h.g1
  l0 := (hb.cell (p := ⟨L, 0, none⟩) (by have := h.size; show L < B; omega)).trans h.l0
  l1 := (hb.cell (p := ⟨L, 1, none⟩) (by have := h.size; show L < B; omega)).trans h.l1
  c0 := (hb.cell (p := ⟨C, 0, none⟩) hB).trans h.c0
  fc := (hb.frozen (p := ⟨C, 0, none⟩) hB).trans h.fc
theorem CC.set {wr : World} {G L C : Nat} {n e k ls c : Int} (h : CC wr G L C n e k ls c) (x : Int) : CC (wr.setCell ⟨C, 0, none⟩ (.int .i64 x)) G L C n e k ls x where
  size := by have := h.size; simpa using this
  g0 := (World.cell?_setCell_other _ _ _ _ (by have := h.size; simp <;> omega)).trans h.g0
  g1 := (World.cell?_setCell_other _ _ _ _ (by have := h.size; simp <;> omega)).trans h.g1
  l0 := (World.cell?_setCell_other _ _ _ _ (by have := h.size; simp <;> omega)).trans h.l0
  l1 := (World.cell?_setCell_other _ _ _ _ (by have := h.size; simp <;> omega)).trans h.l1
  c0 := World.cell?_setCell_same _ _ _ h.c0
  fc := by rw [World.frozen?_setCell]; exact h.fc
theorem SInv.under {W W' : World} {Bn Bk n k B : Nat} (h : SInv Bn Bk n k W) (hb : Below B W W') (h1 : Bn < B) (h2 : Bk < B) (h3 : 0 < B) : SInv Bn Bk n k W' :=
  ⟨(hb.cell (p := ⟨Bn, 0, none⟩) h1).trans h.n, (hb.cell (p := ⟨Bk, 0, none⟩) h2).trans h.k, fun j hj => (hb.cell (p := ⟨0, _, none⟩) h3).trans (h.t j hj)⟩
section
variable (w : World)
theorem so_any (n k : Int) :
    Calls Tryz.prog 111 #[.int .i64 n, .int .i64 k] w fun r w' => ∃ B, r = .returned (.func (.func 112) #[] #[.pointer (some ⟨B, 0, none⟩), .pointer (some ⟨B + 1, 0, none⟩)]) ∧ LoMade w w' B n k := by
  have s1 : ∀ (W : World) (o : Obj), (W.alloc o).heap.size = W.heap.size + 1 := fun W o => by simp
  replace s1 := Lib.hid s1
  go_enter Tryz.func111, Tryz.ntmps111
  go_wp2
  go_ret
  refine ⟨w.heap.size, rfl, by (repeat (first | exact Below.refl _ _ | assumption | refine bchain (by assumption) ?_ | refine balloc ?_ _ | apply Below.drew | apply below_drewN | (refine Below.alloc ?_ (by (try simp) <;> omega) _) | (refine Below.setCell ?_ (by (try simp) <;> omega) _))), Nat.le_refl _, by rw [s1.out, s1.out]; omega, ?_, ?_⟩
  · rw [cOld _ _ _ _ (by rw [s1.out]; omega), cNew _ _ _ _ _ rfl]; rfl
  · rw [cNew _ _ _ _ _ (by rw [s1.out])]; rfl
end
end Go.Proofs.YtncbimbbkealmaaGreatDoor
