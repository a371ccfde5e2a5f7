/-
  THE MODEL'S ORDER OF A FLAG'S VERTICES: the labelled ones as they are, the others in an order of their own.
-/
import Derived.Test.YtncbimbbkealmaaGreatDoorSLeast
namespace Go.Proofs.YtncbimbbkealmaaGreatDoor
open Go.RowKit Go.Shelf
set_option maxRecDepth 100000

/-- the first k vertices, then those of y -/
def ordK (k : Nat) (y : List Nat) : List Nat := List.range k ++ y.map fun v => k + v
def rowK (k : Nat) (y : List Nat) (j : Nat) : List Value := ((List.range k).map fun i => .int .i64 ((i : Nat) : Int)) ++ (List.range j).map fun i => .int .i64 ((k : Int) + (y[i]?.getD 0 : Nat))
theorem rowK_succ (k : Nat) (y : List Nat) (j : Nat) : rowK k y (j + 1) = rowK k y j ++ [.int .i64 ((k : Int) + (y[j]?.getD 0 : Nat))] := by
  simp [rowK, List.range_succ, List.append_assoc]
theorem rowK_zero (k : Nat) (y : List Nat) : rowK k y 0 = (List.range k).map fun i => .int .i64 ((i : Nat) : Int) := by simp [rowK]
theorem rowK_end (k : Nat) (y : List Nat) : rowK k y y.length = (List.range (k + y.length)).map fun i => .int .i64 (lf (ordK k y) i) := by
  apply List.ext_getElem
  · simp [rowK]
  · intro i h1 h2
    simp [rowK] at h1
    rcases Nat.lt_or_ge i k with h | h
    · simp only [rowK, lf, ordK]
      rw [List.getElem_append_left (by simpa using h), List.getElem_map, List.getElem_map, List.getElem_range, List.getElem_range, List.getElem?_append_left (by simpa using h), List.getElem?_range h]
      rfl
    · simp only [rowK, lf, ordK]
      rw [List.getElem_append_right (by simpa using h), List.getElem_map, List.getElem_map, List.getElem_range, List.getElem_range, List.getElem?_append_right (by simpa using h)]
      simp only [List.length_map, List.length_range, List.getElem?_map]
      rw [List.getElem?_eq_getElem (by omega)]
      simp
section
variable (w : World)
set_option maxHeartbeats 1000000 in
theorem first_row (n : Nat) (hn : n ≤ 5) :
    Calls Tryz.prog 59 #[.int .i64 n] w fun r w' => (∃ v, r = .returned v ∧ Hid (w'.ownsRow w.heap.size 2 1 v n ((List.range n).map fun i => .int .i64 ((i : Nat) : Int)))) ∧ Below w.heap.size w w' := by
  obtain ⟨i0, hi, hz0, hz1, hz2⟩ := info_parts info_i64
  replace hi := Lib.hid hi
  replace hz0 := Lib.hid hz0
  replace hz1 := Lib.hid hz1
  replace hz2 := Lib.hid hz2
  go_enter Tryz.func59, Tryz.ntmps59
  go_wp2
  go_loopw [3, 4] (fun v i wr => ∃ j : Nat, j ≤ n ∧ i = .int .i64 j ∧ Hid (wr.ownsRow w.heap.size 2 1 v j ((List.range j).map fun i => .int .i64 ((i : Nat) : Int))) ∧ Below w.heap.size w wr) (fun _ i _ => n - (intOf i).toNat)
  case atStart => exact ⟨0, by omega, rfl, World.ownsRow_made w #[] 0 (Nat.le_refl _) (by omega) rfl, by (repeat (first | exact Below.refl _ _ | assumption | refine bchain (by assumption) ?_ | refine balloc ?_ _ | apply Below.drew | apply below_drewN | (refine Below.alloc ?_ (by (try simp) <;> omega) _) | (refine Below.setCell ?_ (by (try simp) <;> omega) _)))⟩
  case round =>
    obtain ⟨j, hj, rfl, hown, hb⟩ := hrel
    by_cases hlt : j < n
    · have hge := hb.size
      go_wp2_with (at_builtin; refine wpList_append_own _ rfl _ _ 69 rfl w.heap.size 2 i0 (.int .i64 0) 1 8 Tryz.underlying69 hi.out hz0.out hz1.out hz2.out rfl (by decide) _ _ _ rfl (hown.out.alloc _) ⟨wr.heap.size, 0, none⟩ 1 1 [.int .i64 j] rfl rfl (fun q u hq => by cases q with | zero => simp at hq; subst hq; rw [show (⟨wr.heap.size, 0, none⟩ : Addr).add 0 = ⟨wr.heap.size, 0, none⟩ from rfl, World.cell?_alloc_new]; rfl | succ q => simp at hq) (fun u hu => by simp at hu; subst hu; rfl) (by unfold maxLen; omega) (by omega) (by simp; omega) ?_; intro v' w1 hown' hgrow _)
      have hown2 : Hid (w1.ownsRow w.heap.size 2 1 v' (j + 1) ((List.range (j + 1)).map fun i => .int .i64 ((i : Nat) : Int))) := by
        show w1.ownsRow w.heap.size 2 1 v' (j + 1) _
        rw [List.range_succ, List.map_append]
        exact hown'
      have hb2 : Below w.heap.size w w1 := (hb.alloc hge _).grown hgrow (by simp; omega) (fun k hk => (hown.out.lt k hk).1)
      clear hown' hgrow hown
      go_wp2
      go_roundw
      case rel => exact ⟨j + 1, by omega, by go_num, hown2, hb2⟩
      case measure => simp [intOf]; omega
    · obtain rfl : j = n := by omega
      have hdd := decide_eq_false (show ¬ ((j : Int) < (j : Int)) by omega)
      go_wp2
      go_ret
      exact ⟨⟨_, rfl, hown⟩, hb⟩

set_option maxHeartbeats 2000000 in
theorem order_any (k m : Nat) (y : List Nat) (v : Value) (hS : See y v w) (hy : y.length = m) (hk : k ≤ 5) (hm : m ≤ 5) (hlt5 : ∀ i, i < m → y[i]?.getD 0 ≤ 5) :
    Calls Tryz.prog 101 #[.int .i64 k, v] w fun r w' => (∃ v, r = .returned v ∧ OwnI w w' v (k + m) (lf (ordK k y))) ∧ Below w.heap.size w w' := by
  obtain ⟨i0, hi, hz0, hz1, hz2⟩ := info_parts info_i64
  obtain ⟨a, cap, rfl, h1, h2, h3⟩ := hS
  rw [zl_length, hy]
  have hc : ∀ i, i < m → ∃ b off, a = some ⟨b, off, none⟩ ∧ b < w.heap.size ∧ w.cell? ⟨b, off + i, none⟩ = some (.int .i64 (y[i]?.getD 0 : Nat)) := fun i him => by
    obtain ⟨b, off, e, hb, hc⟩ := h3 (by intro c; rw [← List.length_eq_zero_iff, zl_length] at c; omega)
    exact ⟨b, off, e, hb, by rw [hc i (by rw [zl_length]; omega), zl_get]⟩
  have hrow := rowK_end k y
  rw [hy] at hrow
  replace hrow := Lib.hid hrow
  replace hc := Lib.hid hc
  replace hi := Lib.hid hi
  replace hz0 := Lib.hid hz0
  replace hz1 := Lib.hid hz1
  replace hz2 := Lib.hid hz2
  replace hlt5 := Lib.hid hlt5
  clear h1 h2 h3 hy
  go_enter Tryz.func101, Tryz.ntmps101
  go_wp2_with (go_at_call 59; refine (first_row _ k hk).mono ?_; rintro r1 w1 ⟨⟨v1, rfl, hown0⟩, hb1⟩)
  go_loopw [5, 6] (fun v i wr => ∃ j : Nat, j ≤ m ∧ i = .int .i64 j ∧ Hid (wr.ownsRow w.heap.size 2 1 v (k + j) (rowK k y j)) ∧ Below w.heap.size w wr) (fun _ i _ => m - (intOf i).toNat)
  case atStart => exact ⟨0, by omega, rfl, by rw [rowK_zero]; exact hown0, by (repeat (first | exact Below.refl _ _ | assumption | refine bchain (by assumption) ?_ | refine balloc ?_ _ | apply Below.drew | apply below_drewN | (refine Below.alloc ?_ (by (try simp) <;> omega) _) | (refine Below.setCell ?_ (by (try simp) <;> omega) _)))⟩
  case round =>
    obtain ⟨j, hj, rfl, hown, hb⟩ := hrel
    by_cases hlt : j < m
    · have hge := hb.size
      obtain ⟨b, off, rfl, hbl, hcell⟩ := hc.out j hlt
      have hcw := (hb.cell (p := ⟨b, off + j, none⟩) hbl).trans hcell
      have hyl := hlt5.out j hlt
      have hsc := Lib.hid (rowK_succ k y j)
      obtain ⟨z, hz⟩ : ∃ z : Nat, y[j]?.getD 0 = z := ⟨_, rfl⟩
      rw [hz] at hcw hyl hsc
      clear hz hcell
      go_wp2_with (at_builtin; refine wpList_append_own _ rfl _ _ 69 rfl w.heap.size 2 i0 (.int .i64 0) 1 8 Tryz.underlying69 hi.out hz0.out hz1.out hz2.out rfl (by decide) _ _ _ rfl (hown.out.alloc _) ⟨wr.heap.size, 0, none⟩ 1 1 [.int .i64 ((k : Int) + z)] rfl rfl (fun q u hq => by cases q with | zero => simp at hq; subst hq; rw [show (⟨wr.heap.size, 0, none⟩ : Addr).add 0 = ⟨wr.heap.size, 0, none⟩ from rfl, World.cell?_alloc_new]; rfl | succ q => simp at hq) (fun u hu => by simp at hu; subst hu; rfl) (by unfold maxLen; omega) (by omega) (by simp; omega) ?_; intro v' w2 hown' hgrow _)
      have hown2 : Hid (w2.ownsRow w.heap.size 2 1 v' (k + (j + 1)) (rowK k y (j + 1))) := by
        show w2.ownsRow w.heap.size 2 1 v' (k + (j + 1)) _
        rw [hsc.out]
        exact hown'
      have hb2 : Below w.heap.size w w2 := (hb.alloc hge _).grown hgrow (by simp; omega) (fun k hk => (hown.out.lt k hk).1)
      clear hown' hgrow hown
      go_wp2
      go_roundw
      case rel => exact ⟨j + 1, by omega, by go_num, hown2, hb2⟩
      case measure => simp [intOf]; omega
    · obtain rfl : j = m := by omega
      have hdd := decide_eq_false (show ¬ ((j : Int) < (j : Int)) by omega)
      go_wp2
      go_ret
      refine ⟨⟨_, rfl, own_of_row (by rw [← hrow.out]; exact hown.out)⟩, hb⟩
end
end Go.Proofs.YtncbimbbkealmaaGreatDoor
