/-
  SumOfFlag: both contracts.
-/
import Derived.Test.YtiedombphcdpbaaDoorSTown
import Derived.Test.YtiedombphcdpbaaDoorKSmall
import Derived.Test.YtiedombphcdpbaaDoorKLeast
import Derived.Test.YtiedombphcdpbaaDoorKSLeast
import Derived.Deep.RegionHeld3
namespace Go.Proofs.YtiedombphcdpbaaDoor
open Go.RowKit
set_option maxRecDepth 100000
/-- what a cell holds -/
def cellOf (w : World) (a : Addr) : Value := (w.cell? a).getD undef
theorem cellOf_of {w : World} {a : Addr} {v : Value} (h : w.cell? a = some v) : w.cell? a = some (cellOf w a) := by unfold cellOf; rw [h]; rfl
/-- a flag's box, and a sum's behind it -/
def OneS (G : Nat) (k n e : Int) (A : World) : Prop := A.cell? ⟨G, 0, none⟩ = some (.int .i64 k) ∧ A.cell? ⟨G, 1, none⟩ = some (.int .i64 n) ∧ A.cell? ⟨G, 2, none⟩ = some (.int .u32 e) ∧
  A.cell? ⟨G + 1, 0, none⟩ = some (cellOf A ⟨G + 1, 0, none⟩) ∧ A.cell? ⟨G + 1, 1, none⟩ = some (cellOf A ⟨G + 1, 1, none⟩) ∧ A.cell? ⟨G + 1, 2, none⟩ = some (cellOf A ⟨G + 1, 2, none⟩) ∧ A.cell? ⟨G + 1, 3, none⟩ = some (cellOf A ⟨G + 1, 3, none⟩) ∧
  A.frozen? ⟨G + 1, 0, none⟩ = false ∧ A.frozen? ⟨G + 1, 1, none⟩ = false ∧ A.frozen? ⟨G + 1, 2, none⟩ = false ∧ A.frozen? ⟨G + 1, 3, none⟩ = false
structure One0 (w : World) (G : Nat) (k n e : Int) : Prop where
  fc : FC w G k n e
  sb : SB w (G + 1) 0 0 0 (.slice none 0 0)
theorem One0.below {w W : World} {G : Nat} {k n e : Int} (h : One0 w G k n e) (hb : Below w.heap.size w W) : One0 W G k n e := ⟨h.fc.below hb, h.sb.below hb⟩
theorem One0.s {w : World} {G : Nat} {k n e : Int} (h : One0 w G k n e) : OneS G k n e w := ⟨h.fc.c0, h.fc.c1, h.fc.c2, cellOf_of h.sb.c0, cellOf_of h.sb.c1, cellOf_of h.sb.c2, cellOf_of h.sb.c3, h.sb.fz _, h.sb.fz _, h.sb.fz _, h.sb.fz _⟩
theorem One0.held {w W S : World} {G : Nat} {k n e x y z : Int} {u : Value} (h : One0 w G k n e) (hb : Below w.heap.size w W) (hS : S = (((W.setCell ⟨G + 1, 0, none⟩ (.int .i64 x)).setCell ⟨G + 1, 1, none⟩ (.int .u32 y)).setCell ⟨G + 1, 2, none⟩ (.int .i64 z)).setCell ⟨G + 1, 3, none⟩ u) : OneS G k n e S := by
  have q := h.below hb
  have hs := q.sb.all x y z u
  have hf := (((q.fc.other (p := ⟨G + 1, 0, none⟩) (.int .i64 x) (by show G + 1 ≠ G; omega)).other (p := ⟨G + 1, 1, none⟩) (.int .u32 y) (by show G + 1 ≠ G; omega)).other (p := ⟨G + 1, 2, none⟩) (.int .i64 z) (by show G + 1 ≠ G; omega)).other (p := ⟨G + 1, 3, none⟩) u (by show G + 1 ≠ G; omega)
  subst hS
  exact ⟨hf.c0, hf.c1, hf.c2, cellOf_of hs.c0, cellOf_of hs.c1, cellOf_of hs.c2, cellOf_of hs.c3, hs.fz _, hs.fz _, hs.fz _, hs.fz _⟩
theorem One0.made (w : World) (k n e : Int) : One0 ((w.alloc (.cells #[.int .i64 k, .int .i64 n, .int .u32 e] 92)).alloc (.cells #[.int .i64 0, .int .u32 0, .int .i64 0, .slice none 0 0] 40)) w.heap.size k n e := by
  have sz : (w.alloc (.cells #[.int .i64 k, .int .i64 n, .int .u32 e] 92)).heap.size = w.heap.size + 1 := by simp
  refine ⟨(FC.made w k n e 92).below (balloc (Below.refl _ _) _), ?_⟩
  rw [← sz]
  exact SB.made _ 0 0 0 _ _
/-- a list of one term -/
theorem own_one (w0 w : World) (g : TE) (t : TypeId) (h : w0.heap.size ≤ w.heap.size) : OwnT w0 (w.alloc (.cells #[.int .i64 g.k, .int .i64 g.n, .int .u32 g.e, .int .i64 g.p, .int .i64 g.q] t)) (.slice (some ⟨w.heap.size, 0, none⟩) 1 1) [g] := by
  have b := TB.made w g.k g.n g.e g.p g.q t
  refine ⟨_, 1, rfl, Nat.le_refl _, by omega, fun _ => ⟨w.heap.size, rfl, h, b.lt, fun i hi => ?_, b.fz⟩⟩
  have hi : i < 5 := hi
  match i, hi with
  | 0, _ => exact b.c0
  | 1, _ => exact b.c1
  | 2, _ => exact b.c2
  | 3, _ => exact b.c3
  | 4, _ => exact b.c4
section
variable (w : World)
theorem iwh_any (x : Int) : Calls Tryd.prog 79 #[.int .i64 x] w fun r w' => r = .returned (.agg #[.int .i64 x, .int .i64 1]) ∧ Below w.heap.size w w' := by
  go_enter Tryd.func79, Tryd.ntmps79
  go_wp2
  exact bodyPost_ret (v := .agg #[.int .i64 x, .int .i64 1]) (by simp [results, Tryd.results79, go_sem]) rfl ⟨rfl, by (repeat (first | exact Below.refl _ _ | assumption | refine bchain (by assumption) ?_ | refine balloc ?_ _ | apply Below.drew | apply below_drewN | (refine Below.alloc ?_ (by (try simp) <;> omega) _) | (refine Below.setCell ?_ (by (try simp) <;> omega) _)))⟩
theorem slone_any (x : Int) : Calls Tryd.prog 94 #[.int .i64 x] w fun r w' => r = .returned (.agg #[.int .i64 x, .int .i64 1]) ∧ Below w.heap.size w w' := by
  go_enter Tryd.func94, Tryd.ntmps94
  go_wp2
  exact bodyPost_ret (v := .agg #[.int .i64 x, .int .i64 1]) (by simp [results, Tryd.results94, go_sem]) rfl ⟨rfl, by (repeat (first | exact Below.refl _ _ | assumption | refine bchain (by assumption) ?_ | refine balloc ?_ _ | apply Below.drew | apply below_drewN | (refine Below.alloc ?_ (by (try simp) <;> omega) _) | (refine Below.setCell ?_ (by (try simp) <;> omega) _)))⟩
theorem iso_any (k n e : Int) : Calls Tryd.prog 113 #[.agg #[.int .i64 k, .int .i64 n, .int .u32 e]] w fun r w' => r = .returned (.int .i64 n) ∧ Below w.heap.size w w' := by
  go_enter Tryd.func113, Tryd.ntmps113
  go_wp2
  go_ret
  exact ⟨rfl, by (repeat (first | exact Below.refl _ _ | assumption | refine bchain (by assumption) ?_ | refine balloc ?_ _ | apply Below.drew | apply below_drewN | (refine Below.alloc ?_ (by (try simp) <;> omega) _) | (refine Below.setCell ?_ (by (try simp) <;> omega) _)))⟩
end
end Go.Proofs.YtiedombphcdpbaaDoor
