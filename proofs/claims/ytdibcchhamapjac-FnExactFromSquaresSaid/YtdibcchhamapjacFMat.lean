/-
  ROWS THAT A FUNCTION TELLS: the program's matrixOf.
-/
import Derived.Test.YtdibcchhamapjacFMark
import Derived.Test.YtdibcchhamapjacFWh
import Derived.Deep.DeepCutAuto
import Derived.BigQuiet
namespace Go.Proofs.Ytdibcchhamapjac
open Go.RowKit
set_option maxRecDepth 100000
section
variable (w : World)
theorem uclo_any (i j : Nat) :
    Calls Try.prog 78 #[.int .i64 i, .int .i64 j] w fun r w' => r = .returned (.agg #[.int .i64 (if i = j then 1 else 0), .int .i64 1]) ∧ Below w.heap.size w w' := by
  have hQ := Lib.hid (fun W n => whole_any W n)
  by_cases e : i = j
  · rw [if_pos e]
    have he : decide ((i : Int) = (j : Int)) = true := decide_eq_true (by omega)
    have he2 : ((i : Int) == (j : Int)) = true := by simp; omega
    clear e
    go_enter Try.func78, Try.ntmps78
    go_wp2_with fail
    refine (hQ.out _ 1).mono ?_
    rintro r1 w1 ⟨rfl, hb1⟩
    obtain ⟨hk1, hz1⟩ := bkeep hb1 w.heap.size (by simp)
    have hf1 := bkeepz hb1 w.heap.size (by simp)
    have g0 : w1.cell? ⟨w.heap.size, 0, none⟩ = some (.int .i64 0) := (hk1 0).trans (by simp [go_sem])
    have g1 : w1.cell? ⟨w.heap.size, 1, none⟩ = some (.int .i64 0) := (hk1 1).trans (by simp [go_sem])
    have h2 := twoCells g0 g1 (.int .i64 1) (.int .i64 1)
    go_wp2
    exact bodyPost_ret (v := .agg #[.int .i64 1, .int .i64 1]) (by simp [results, Try.results78, go_sem, h2.1, h2.2]) rfl ⟨rfl, by (repeat (first | exact Below.refl _ _ | assumption | refine bchain (by assumption) ?_ | refine balloc ?_ _ | apply Below.drew | apply below_drewN | (refine Below.alloc ?_ (by (try simp) <;> omega) _) | (refine Below.setCell ?_ (by (try simp) <;> omega) _)))⟩
  · rw [if_neg e]
    have he : decide ((i : Int) = (j : Int)) = false := decide_eq_false (by omega)
    have he2 : ((i : Int) == (j : Int)) = false := by simp; omega
    clear e
    go_enter Try.func78, Try.ntmps78
    go_wp2_with fail
    refine (hQ.out _ 0).mono ?_
    rintro r1 w1 ⟨rfl, hb1⟩
    obtain ⟨hk1, hz1⟩ := bkeep hb1 w.heap.size (by simp)
    have hf1 := bkeepz hb1 w.heap.size (by simp)
    have g0 : w1.cell? ⟨w.heap.size, 0, none⟩ = some (.int .i64 0) := (hk1 0).trans (by simp [go_sem])
    have g1 : w1.cell? ⟨w.heap.size, 1, none⟩ = some (.int .i64 0) := (hk1 1).trans (by simp [go_sem])
    have h2 := twoCells g0 g1 (.int .i64 0) (.int .i64 1)
    go_wp2
    exact bodyPost_ret (v := .agg #[.int .i64 0, .int .i64 1]) (by simp [results, Try.results78, go_sem, h2.1, h2.2]) rfl ⟨rfl, by (repeat (first | exact Below.refl _ _ | assumption | refine bchain (by assumption) ?_ | refine balloc ?_ _ | apply Below.drew | apply below_drewN | (refine Below.alloc ?_ (by (try simp) <;> omega) _) | (refine Below.setCell ?_ (by (try simp) <;> omega) _)))⟩
end
end Go.Proofs.Ytdibcchhamapjac
