/-
  UnitMatrix: the program's contract.
-/
import Derived.Test.YtdibcchhamapjacFMatO
namespace Go.Proofs.Ytdibcchhamapjac
open Go.RowKit
set_option maxRecDepth 100000
/-- the fractions of the unit matrix -/
def gU (i j : Nat) : Int × Int := (if i = j then 1 else 0, 1)
section
variable (w : World)
theorem iunit_any (n : Nat) (hn : n ≤ 8) :
    Calls Try.prog 44 #[.int .i64 n] w fun r w' => r = .returned (.slice (some ⟨w.heap.size + 1, 0, none⟩) n n) ∧ Below w.heap.size w w' ∧ CF w' w.heap.size (n * n * 2) (gv n gU) ∧ RowsIn w' (w.heap.size + 1) w.heap.size n ∧ (∀ c, w'.frozen? ⟨w.heap.size, c, none⟩ = false) ∧ w.heap.size + 1 < w'.heap.size := by
  have hM := Lib.hid (imat_ok w 78 #[] (fun _ _ => by kernel_rfl) n hn gU (fun W i j _ _ => by simpa [gU] using uclo_any W i j))
  go_enter Try.func44, Try.ntmps44
  go_wp2_with fail
  refine hM.out.mono ?_
  rintro r1 w1 ⟨rfl, h1, h2, h3, h4, h5⟩
  replace h2 := Lib.hid h2
  replace h3 := Lib.hid h3
  replace h4 := Lib.hid h4
  go_wp2
  go_ret
  exact ⟨rfl, h1, h2.out, h3.out, h4.out, h5⟩
theorem iUM_ok (n : Nat) (hn : n ≤ 8) :
    Calls Try.prog 13 #[.int .i64 n] w fun r w' => r = .returned (.tuple #[.slice (some ⟨w.heap.size + 1, 0, none⟩) n n, .int .i64 0]) ∧ Below w.heap.size w w' ∧ CF w' w.heap.size (n * n * 2) (gv n gU) ∧ RowsIn w' (w.heap.size + 1) w.heap.size n ∧ (∀ c, w'.frozen? ⟨w.heap.size, c, none⟩ = false) ∧ w.heap.size + 1 < w'.heap.size := by
  have h0 : decide ((n : Int) < 0) = false := decide_eq_false (by omega)
  have h8 : decide ((8 : Int) < (n : Int)) = false := decide_eq_false (by omega)
  have hM1 := Lib.hid (iunit_any w n hn)
  go_enter Try.func13, Try.ntmps13
  go_wp2_with fail
  refine hM1.out.mono ?_
  rintro r1 w1 ⟨rfl, h1, h2, h3, h4, h5⟩
  replace h2 := Lib.hid h2
  replace h3 := Lib.hid h3
  replace h4 := Lib.hid h4
  go_wp2
  go_ret2
  exact ⟨rfl, h1, h2.out, h3.out, h4.out, h5⟩
theorem iUM_rng (n : Int) (hn : n < 0 ∨ 8 < n) :
    Calls Try.prog 13 #[.int .i64 n] w fun r w' => r = .returned (.tuple #[.slice none 0 0, .int .i64 2]) ∧ Below w.heap.size w w' := by
  by_cases h0 : n < 0
  · have hd : decide (n < 0) = true := decide_eq_true h0
    clear hn
    go_enter Try.func13, Try.ntmps13
    go_wp2
    go_ret2
    exact ⟨rfl, by (repeat (first | exact Below.refl _ _ | assumption | refine bchain (by assumption) ?_ | refine balloc ?_ _ | apply Below.drew | apply below_drewN | (refine Below.alloc ?_ (by (try simp) <;> omega) _) | (refine Below.setCell ?_ (by (try simp) <;> omega) _)))⟩
  · have hd : decide (n < 0) = false := decide_eq_false h0
    have hd8 : decide ((8 : Int) < n) = true := decide_eq_true (by omega)
    clear hn h0
    go_enter Try.func13, Try.ntmps13
    go_wp2
    go_ret2
    exact ⟨rfl, by (repeat (first | exact Below.refl _ _ | assumption | refine bchain (by assumption) ?_ | refine balloc ?_ _ | apply Below.drew | apply below_drewN | (refine Below.alloc ?_ (by (try simp) <;> omega) _) | (refine Below.setCell ?_ (by (try simp) <;> omega) _)))⟩
end
end Go.Proofs.Ytdibcchhamapjac
