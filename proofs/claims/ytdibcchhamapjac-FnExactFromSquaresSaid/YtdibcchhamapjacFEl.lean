/-
  THE ELEMENT OF A VALID MATRIX; what a function of two indices gives or throws.
-/
import Derived.Test.YtdibcchhamapjacFSqM
import Derived.Test.YtdibcchhamapjacFSameM
import Derived.Test.YtdibcchhamapjacFVmS
namespace Go.Proofs.Ytdibcchhamapjac
open Go.RowKit
set_option maxRecDepth 100000

theorem Rows.below {w w' : World} {a : Option Addr} {m : List (List (Int × Int))} (h : Rows w a m) (hb : Below w.heap.size w w') : Rows w' a m := fun i hi => by
  obtain ⟨b, off, e, hlt, hc⟩ := h i hi
  exact ⟨b, off, e, Nat.lt_of_lt_of_le hlt hb.size, hc.below hb⟩
theorem el_at {w : World} {a : Option Addr} {m : List (List (Int × Int))} {i j : Nat} (h : Rows w a m) (hV : VM m) (hi : i < m.length) (hj : j < m.length) : ∃ b off d e dc, a = some ⟨b, off, none⟩ ∧ b < w.heap.size ∧ d < w.heap.size ∧
    w.cell? ⟨b, off + i, none⟩ = some (.slice (some ⟨d, e, none⟩) m.length dc) ∧ w.cell? ⟨d, e + j * 2, none⟩ = some (.int .i64 (gAt (rAt m i) j).1) ∧ w.cell? ⟨d, e + j * 2 + 1, none⟩ = some (.int .i64 (gAt (rAt m i) j).2) := by
  obtain ⟨b, off, e1, hlt, u, hu, hS⟩ := h i hi
  obtain ⟨a', cap, rfl, hL⟩ := hS.lies
  have hl := (hV.2.1 i hi).1
  obtain ⟨d, e, e2, hd, hg⟩ := hL j (by omega)
  subst e2
  rw [hl] at hu
  exact ⟨b, off, d, e, cap, e1, hlt, hd, hu, hg.1, hg.2⟩
theorem VM.vp {m : List (List (Int × Int))} (hV : VM m) {i j : Nat} (hi : i < m.length) (hj : j < m.length) : VP (gAt (rAt m i) j) := (hV.2.1 i hi).2 j (by rw [(hV.2.1 i hi).1]; exact hj)
def gO (F : Nat → Nat → Option (Int × Int)) (i j : Nat) : Int × Int := (F i j).getD (0, 0)
def oO (F : Nat → Nat → Option (Int × Int)) (i j : Nat) : Bool := (F i j).isSome
theorem qO (F : Nat → Nat → Option (Int × Int)) (i j : Nat) : qe (F i j) = if oO F i j then .returned (.agg #[.int .i64 (gO F i j).1, .int .i64 (gO F i j).2]) else tooBig := by
  unfold oO gO
  cases F i j with
  | none => rfl
  | some m => rfl
def scF (m : List (List (Int × Int))) (y : Int × Int) (i j : Nat) : Option (Int × Int) := mulF (gAt (rAt m i) j) y
def adF (m m2 : List (List (Int × Int))) (i j : Nat) : Option (Int × Int) := addF (gAt (rAt m i) j) (gAt (rAt m2 i) j)
end Go.Proofs.Ytdibcchhamapjac
