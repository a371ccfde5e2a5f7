/-
  LISTS OF FLAGS THAT A CALL HAS MADE.
-/
import Derived.Test.YtfnjgdocmfmfgabKs
import Derived.Test.YtfnjgdocmfmfgabKMk
namespace Go.Proofs.Ytfnjgdocmfmfgab
open Go.RowKit
set_option maxRecDepth 100000

/-- flags as cells -/
def ksC (gs : List (Int × Int × Int)) : List Value := gs.flatMap fun g => [.int .i64 g.1, .int .i64 g.2.1, .int .u32 g.2.2]
theorem ksC_snoc (gs : List (Int × Int × Int)) (g : Int × Int × Int) : ksC (gs ++ [g]) = ksC gs ++ [.int .i64 g.1, .int .i64 g.2.1, .int .u32 g.2.2] := by simp [ksC]
theorem ksC_length (gs : List (Int × Int × Int)) : (ksC gs).length = gs.length * 3 := by
  induction gs with
  | nil => rfl
  | cons g gs ih => simp only [ksC, List.flatMap_cons, List.length_append, List.length_cons, List.length_nil] at ih ⊢; omega
theorem ksC_get : ∀ (gs : List (Int × Int × Int)) (i : Nat), i < gs.length → (ksC gs)[i * 3]? = some (.int .i64 (kAt gs i).1) ∧ (ksC gs)[i * 3 + 1]? = some (.int .i64 (kAt gs i).2.1) ∧ (ksC gs)[i * 3 + 2]? = some (.int .u32 (kAt gs i).2.2) := by
  intro gs
  induction gs with
  | nil => intro i hi; simp at hi
  | cons g gs ih =>
    intro i hi
    have e : ksC (g :: gs) = .int .i64 g.1 :: .int .i64 g.2.1 :: .int .u32 g.2.2 :: ksC gs := rfl
    rw [e]
    cases i with
    | zero => exact ⟨rfl, rfl, rfl⟩
    | succ i =>
      have := ih i (by simpa using hi)
      rw [show (i + 1) * 3 = i * 3 + 1 + 1 + 1 by omega, List.getElem?_cons_succ, List.getElem?_cons_succ, List.getElem?_cons_succ, show i * 3 + 1 + 1 + 1 + 1 = (i * 3 + 1) + 1 + 1 + 1 by omega, List.getElem?_cons_succ, List.getElem?_cons_succ, List.getElem?_cons_succ, show i * 3 + 1 + 1 + 1 + 2 = (i * 3 + 2) + 1 + 1 + 1 by omega, List.getElem?_cons_succ, List.getElem?_cons_succ, List.getElem?_cons_succ]
      exact this
/-- in the world w the value v is a list of the flags gs, in memory that w0 did not have -/
def OwnK (w0 w : World) (v : Value) (gs : List (Int × Int × Int)) : Prop := OwnV w0 w v gs.length 3 (fun c => (ksC gs)[c]?.getD undef)
theorem OwnK.below {w0 w w' : World} {v : Value} {gs : List (Int × Int × Int)} (h : OwnK w0 w v gs) (hb : Below w.heap.size w w') : OwnK w0 w' v gs := OwnV.below h hb
theorem OwnK.mono {w0 w1 w : World} {v : Value} {gs : List (Int × Int × Int)} (h : OwnK w1 w v gs) (hz : w0.heap.size ≤ w1.heap.size) : OwnK w0 w v gs := OwnV.mono h hz
theorem OwnK.sl {w0 w : World} {v : Value} {gs : List (Int × Int × Int)} (h : OwnK w0 w v gs) : SlK w v gs := by
  obtain ⟨a, cap, rfl, h1, h2, h3⟩ := h
  refine ⟨a, cap, rfl, h1, h2, fun hne => ?_⟩
  obtain ⟨B, rfl, _, hB, hc, _⟩ := h3 (List.length_pos_iff.2 hne)
  refine ⟨B, 0, rfl, hB, fun i hi => ?_⟩
  obtain ⟨g0, g1, g2⟩ := ksC_get gs i hi
  have c0 : w.cell? ⟨B, i * 3, none⟩ = some ((ksC gs)[i * 3]?.getD undef) := hc (i * 3) (by omega)
  have c1 : w.cell? ⟨B, i * 3 + 1, none⟩ = some ((ksC gs)[i * 3 + 1]?.getD undef) := hc (i * 3 + 1) (by omega)
  have c2 : w.cell? ⟨B, i * 3 + 2, none⟩ = some ((ksC gs)[i * 3 + 2]?.getD undef) := hc (i * 3 + 2) (by omega)
  rw [g0] at c0
  rw [g1] at c1
  rw [g2] at c2
  unfold KCell
  rw [Nat.zero_add]
  exact ⟨c0, c1, c2⟩
theorem ownK_of_row {w0 w : World} {base : Nat} {e : TypeId} {v : Value} {gs : List (Int × Int × Int)} (h : w.ownsRow base e 3 v gs.length (ksC gs)) (hb : w0.heap.size ≤ base) : OwnK w0 w v gs := ownV_of_row h hb
theorem ownK_nil {w0 w : World} : OwnK w0 w (.slice none 0 0) [] := ownV_nil
/-- a copy of the laws' own may be marked -/
theorem info_flagKK : True := trivial
end Go.Proofs.Ytfnjgdocmfmfgab
