/-
  CONTRACTS: a fraction of the laws' own as the program's; two fractions held against each other.
-/
import Derived.Test.YtdibcchhamapjacLowest
namespace Go.Proofs.Ytdibcchhamapjac
open Go.RowKit
set_option maxRecDepth 100000
/-- two boxes of two cells each, behind what only makes new blocks -/
theorem boxes_keep {w wS W : World} {a1 a2 b1 b2 : Int} (h : wS.cell? ⟨w.heap.size, 0, none⟩ = some (.int .i64 a1) ∧ wS.cell? ⟨w.heap.size, 1, none⟩ = some (.int .i64 a2) ∧ wS.cell? ⟨w.heap.size + 1, 0, none⟩ = some (.int .i64 b1) ∧ wS.cell? ⟨w.heap.size + 1, 1, none⟩ = some (.int .i64 b2) ∧ w.heap.size < wS.heap.size ∧ w.heap.size + 1 < wS.heap.size) (hb : Below wS.heap.size wS W) :
    W.cell? ⟨w.heap.size, 0, none⟩ = some (.int .i64 a1) ∧ W.cell? ⟨w.heap.size, 1, none⟩ = some (.int .i64 a2) ∧ W.cell? ⟨w.heap.size + 1, 0, none⟩ = some (.int .i64 b1) ∧ W.cell? ⟨w.heap.size + 1, 1, none⟩ = some (.int .i64 b2) ∧ w.heap.size < W.heap.size ∧ w.heap.size + 1 < W.heap.size := by
  obtain ⟨h0, h1, h2, h3, z0, z1⟩ := h
  have hs := hb.size
  exact ⟨(hb.cell (p := ⟨_, _, none⟩) z0).trans h0, (hb.cell (p := ⟨_, _, none⟩) z0).trans h1, (hb.cell (p := ⟨_, _, none⟩) z1).trans h2, (hb.cell (p := ⟨_, _, none⟩) z1).trans h3, by omega, by omega⟩
theorem old_lt {wS W : World} {B : Nat} (h : B < wS.heap.size) (hb : Below wS.heap.size wS W) : B < W.heap.size := Nat.lt_of_lt_of_le h hb.size
theorem old_cell {wS W : World} {B o : Nat} {v : Value} (h : B < wS.heap.size) (hc : wS.cell? ⟨B, o, none⟩ = some v) (hb : Below wS.heap.size wS W) : W.cell? ⟨B, o, none⟩ = some v := (hb.cell (p := ⟨B, o, none⟩) h).trans hc
section
variable (w : World)
theorem toF_any (n e : Int) :
    Calls Try.prog 22 #[.agg #[.int .i64 n, .int .i64 e]] w fun r w' => r = .returned (.agg #[.int .i64 n, .int .i64 e]) ∧ Below w.heap.size w w' := by
  go_enter Try.func22, Try.ntmps22
  go_wp2
  exact bodyPost_ret (v := .agg #[.int .i64 n, .int .i64 e]) (by simp [results, Try.results22, go_sem]) rfl ⟨rfl, by repeat (first | exact Below.refl _ _ | apply Below.drew | (refine Below.alloc ?_ (by first | (simp; done) | (simp; omega)) _) | (refine Below.setCell ?_ (by first | (simp; done) | (simp; omega)) _))⟩
theorem eqF_any (m f : Int) : Calls Try.prog 61 #[.agg #[.int .i64 m, .int .i64 f], .agg #[.int .i64 m, .int .i64 f]] w fun r w' => r = .returned (.bool true) ∧ Below w.heap.size w w' := by
  go_enter Try.func61, Try.ntmps61
  go_wp2
  go_ret
  exact ⟨rfl, by (repeat (first | exact Below.refl _ _ | assumption | refine bchain (by assumption) ?_ | refine balloc ?_ _ | apply Below.drew | apply below_drewN | (refine Below.alloc ?_ (by (try simp) <;> omega) _) | (refine Below.setCell ?_ (by (try simp) <;> omega) _)))⟩
end
end Go.Proofs.Ytdibcchhamapjac
