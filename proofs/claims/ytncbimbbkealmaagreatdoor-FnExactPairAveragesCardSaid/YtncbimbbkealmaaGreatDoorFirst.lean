/-
  THE MODEL'S FIRST LIST: contract.
-/
import Derived.Test.YtncbimbbkealmaaGreatDoorNext
import Derived.OwnWalk
namespace Go.Proofs.YtncbimbbkealmaaGreatDoor
open Go.RowKit
set_option maxRecDepth 100000

theorem cells_of_heap {W : World} {g : Nat} {cur : Array Value} {e : TypeId} (h : W.heap[g]? = some (.cells cur e (0, 0))) : (∀ i, W.cell? ⟨g, i, none⟩ = cur[i]?) ∧ (∀ i, W.frozen? ⟨g, i, none⟩ = false) := by
  constructor
  · intro i; simp [World.cell?, h]
  · intro i; simp [World.frozen?, h]
theorem own_of_row {w0 w : World} {e : TypeId} {v : Value} {n : Nat} {f : Nat → Int} (h : w.ownsRow w0.heap.size e 1 v n ((List.range n).map fun i => .int .i64 (f i))) (hm : maxLen ≤ 9223372036854775807 := by unfold maxLen; omega) : OwnI w0 w v n f := by
  obtain ⟨hl, (⟨rfl, rfl⟩ | ⟨g, cap, cur, rfl, hg, hh, hn, hc, hs, hx⟩)⟩ := h
  · exact ⟨none, 0, rfl, Nat.le_refl _, by omega, fun c => absurd c (Nat.lt_irrefl _)⟩
  · refine ⟨some ⟨g, 0, none⟩, cap, rfl, hn, by omega, fun _ => ⟨g, rfl, hg, (Array.getElem?_eq_some_iff.1 hh).1, fun i hi => ?_, fun o _ => (cells_of_heap hh).2 o⟩⟩
    rw [(cells_of_heap hh).1 i]
    have h1 : (cur.toList.take (n * 1))[i]? = some (.int .i64 (f i)) := by rw [hx]; simp [hi]
    rw [List.getElem?_take_of_lt (by omega)] at h1
    simpa using h1
section
variable (w : World)
set_option maxHeartbeats 1000000 in
theorem first_any (n : Nat) (hn : n ≤ 5) :
    Calls Tryz.prog 59 #[.int .i64 n] w fun r w' => (∃ v, r = .returned v ∧ OwnI w w' v n (fun i => (i : Int))) ∧ Below w.heap.size w w' := by
  obtain ⟨i0, hi, hz0, hz1, hz2⟩ := info_parts info_i64
  replace hi := Lib.hid hi
  replace hz0 := Lib.hid hz0
  replace hz1 := Lib.hid hz1
  replace hz2 := Lib.hid hz2
  go_enter Tryz.func59, Tryz.ntmps59
  go_wp2
  go_loopw [3, 4] (fun v i wr => ∃ j : Nat, j ≤ n ∧ i = .int .i64 j ∧ Hid (wr.ownsRow w.heap.size 2 1 v j ((List.range j).map fun i => .int .i64 ((i : Nat) : Int))) ∧ Below w.heap.size w wr) (fun _ i _ => n - (intOf i).toNat)
  case atStart => exact ⟨0, by omega, rfl, World.ownsRow_made w #[] 0 (Nat.le_refl _) (by omega) rfl, by (repeat (first | exact Below.refl _ _ | assumption | refine bchain (by assumption) ?_ | refine balloc ?_ _ | apply Below.drew | apply below_drewN | (refine Below.alloc ?_ (by (try simp) <;> omega) _) | (refine Below.setCell ?_ (by (try simp) <;> omega) _)))⟩
  case round =>
    obtain ⟨j, hj, rfl, hown, hb⟩ := hrel
    by_cases hlt : j < n
    · have hge := hb.size
      go_wp2_with (at_builtin; refine wpList_append_own _ rfl _ _ 69 rfl w.heap.size 2 i0 (.int .i64 0) 1 8 Tryz.underlying69 hi.out hz0.out hz1.out hz2.out rfl (by decide) _ _ _ rfl (hown.out.alloc _) ⟨wr.heap.size, 0, none⟩ 1 1 [.int .i64 j] rfl rfl (fun q u hq => by cases q with | zero => simp at hq; subst hq; rw [show (⟨wr.heap.size, 0, none⟩ : Addr).add 0 = ⟨wr.heap.size, 0, none⟩ from rfl, World.cell?_alloc_new]; rfl | succ q => simp at hq) (fun u hu => by simp at hu; subst hu; rfl) (by unfold maxLen; omega) (by omega) (by simp; omega) ?_; intro v' w1 hown' hgrow _)
      have hown2 : Hid (w1.ownsRow w.heap.size 2 1 v' (j + 1) ((List.range (j + 1)).map fun i => .int .i64 ((i : Nat) : Int))) := by
        show w1.ownsRow w.heap.size 2 1 v' (j + 1) _
        rw [List.range_succ, List.map_append]
        exact hown'
      have hb2 : Below w.heap.size w w1 := (hb.alloc hge _).grown hgrow (by simp; omega) (fun k hk => (hown.out.lt k hk).1)
      clear hown' hgrow hown
      go_wp2
      go_roundw
      case rel => exact ⟨j + 1, by omega, by go_num, hown2, hb2⟩
      case measure => simp [intOf]; omega
    · obtain rfl : j = n := by omega
      have hdd := decide_eq_false (show ¬ ((j : Int) < (j : Int)) by omega)
      go_wp2
      go_ret
      exact ⟨⟨_, rfl, own_of_row hown.out⟩, hb⟩
end
end Go.Proofs.YtncbimbbkealmaaGreatDoor
