/-
  LISTS OF GRAPHS THAT A CALL HAS MADE.
-/
import Derived.Test.YtiedombphcdpbaaGreatDoorGs
import Derived.Test.YtiedombphcdpbaaGreatDoorGMk
namespace Go.Proofs.YtiedombphcdpbaaGreatDoor
open Go.RowKit
set_option maxRecDepth 100000

/-- graphs as cells -/
def gsC (gs : List (Int × Int)) : List Value := gs.flatMap fun g => [.int .i64 g.1, .int .u32 g.2]
theorem gsC_snoc (gs : List (Int × Int)) (g : Int × Int) : gsC (gs ++ [g]) = gsC gs ++ [.int .i64 g.1, .int .u32 g.2] := by simp [gsC]
theorem gsC_length (gs : List (Int × Int)) : (gsC gs).length = gs.length * 2 := by
  induction gs with
  | nil => rfl
  | cons g gs ih => simp only [gsC, List.flatMap_cons, List.length_append, List.length_cons, List.length_nil] at ih ⊢; omega
theorem gsC_get : ∀ (gs : List (Int × Int)) (i : Nat), i < gs.length → (gsC gs)[i * 2]? = some (.int .i64 (gAt gs i).1) ∧ (gsC gs)[i * 2 + 1]? = some (.int .u32 (gAt gs i).2) := by
  intro gs
  induction gs with
  | nil => intro i hi; simp at hi
  | cons g gs ih =>
    intro i hi
    have e : gsC (g :: gs) = .int .i64 g.1 :: .int .u32 g.2 :: gsC gs := rfl
    rw [e]
    cases i with
    | zero => exact ⟨rfl, rfl⟩
    | succ i =>
      have := ih i (by simpa using hi)
      rw [show (i + 1) * 2 = i * 2 + 1 + 1 by omega, List.getElem?_cons_succ, List.getElem?_cons_succ, show i * 2 + 1 + 1 + 1 = (i * 2 + 1) + 1 + 1 by omega, List.getElem?_cons_succ, List.getElem?_cons_succ]
      exact this
/-- in the world w the value v is a list of the graphs gs, in memory that w0 did not have -/
def OwnG (w0 w : World) (v : Value) (gs : List (Int × Int)) : Prop := OwnV w0 w v gs.length 2 (fun c => (gsC gs)[c]?.getD undef)
theorem OwnG.below {w0 w w' : World} {v : Value} {gs : List (Int × Int)} (h : OwnG w0 w v gs) (hb : Below w.heap.size w w') : OwnG w0 w' v gs := OwnV.below h hb
theorem OwnG.mono {w0 w1 w : World} {v : Value} {gs : List (Int × Int)} (h : OwnG w1 w v gs) (hz : w0.heap.size ≤ w1.heap.size) : OwnG w0 w v gs := OwnV.mono h hz
theorem OwnG.sl {w0 w : World} {v : Value} {gs : List (Int × Int)} (h : OwnG w0 w v gs) : SlG w v gs := by
  obtain ⟨a, cap, rfl, h1, h2, h3⟩ := h
  refine ⟨a, cap, rfl, h1, h2, fun hne => ?_⟩
  obtain ⟨B, rfl, _, hB, hc, _⟩ := h3 (List.length_pos_iff.2 hne)
  refine ⟨B, 0, rfl, hB, fun i hi => ?_⟩
  obtain ⟨g0, g1⟩ := gsC_get gs i hi
  have c0 : w.cell? ⟨B, i * 2, none⟩ = some ((gsC gs)[i * 2]?.getD undef) := hc (i * 2) (by omega)
  have c1 : w.cell? ⟨B, i * 2 + 1, none⟩ = some ((gsC gs)[i * 2 + 1]?.getD undef) := hc (i * 2 + 1) (by omega)
  rw [g0] at c0
  rw [g1] at c1
  unfold GCell
  rw [Nat.zero_add]
  exact ⟨c0, c1⟩
theorem ownG_of_row {w0 w : World} {base : Nat} {e : TypeId} {v : Value} {gs : List (Int × Int)} (h : w.ownsRow base e 2 v gs.length (gsC gs)) (hb : w0.heap.size ≤ base) : OwnG w0 w v gs := ownV_of_row h hb
theorem ownG_nil {w0 w : World} : OwnG w0 w (.slice none 0 0) [] := ownV_nil
/-- a copy of the laws' own may be marked -/
theorem info_graphG : True := trivial
end Go.Proofs.YtiedombphcdpbaaGreatDoor
