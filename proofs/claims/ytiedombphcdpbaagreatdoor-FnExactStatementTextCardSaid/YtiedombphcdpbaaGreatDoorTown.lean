/-
  LISTS OF TERMS THAT A CALL HAS MADE.
-/
import Derived.Test.YtiedombphcdpbaaGreatDoorTs
import Derived.Test.YtiedombphcdpbaaGreatDoorTMk
namespace Go.Proofs.YtiedombphcdpbaaGreatDoor
open Go.RowKit
set_option maxRecDepth 100000

/-- terms as cells -/
def tsC (gs : List TE) : List Value := gs.flatMap fun g => [.int .i64 g.k, .int .i64 g.n, .int .u32 g.e, .int .i64 g.p, .int .i64 g.q]
theorem tsC_snoc (gs : List TE) (g : TE) : tsC (gs ++ [g]) = tsC gs ++ [.int .i64 g.k, .int .i64 g.n, .int .u32 g.e, .int .i64 g.p, .int .i64 g.q] := by simp [tsC]
theorem tsC_length (gs : List TE) : (tsC gs).length = gs.length * 5 := by
  induction gs with
  | nil => rfl
  | cons g gs ih => simp only [tsC, List.flatMap_cons, List.length_append, List.length_cons, List.length_nil] at ih ⊢; omega
theorem tsC_get : ∀ (gs : List TE) (i : Nat), i < gs.length → (tsC gs)[i * 5]? = some (.int .i64 (tAt gs i).k) ∧ (tsC gs)[i * 5 + 1]? = some (.int .i64 (tAt gs i).n) ∧ (tsC gs)[i * 5 + 2]? = some (.int .u32 (tAt gs i).e) ∧ (tsC gs)[i * 5 + 3]? = some (.int .i64 (tAt gs i).p) ∧ (tsC gs)[i * 5 + 4]? = some (.int .i64 (tAt gs i).q) := by
  intro gs
  induction gs with
  | nil => intro i hi; simp at hi
  | cons g gs ih =>
    intro i hi
    have e : tsC (g :: gs) = .int .i64 g.k :: .int .i64 g.n :: .int .u32 g.e :: .int .i64 g.p :: .int .i64 g.q :: tsC gs := rfl
    rw [e]
    cases i with
    | zero => exact ⟨rfl, rfl, rfl, rfl, rfl⟩
    | succ i =>
      have := ih i (by simpa using hi)
      have h5 : ∀ (a b c d f : Value) (l : List Value) (m : Nat), (a :: b :: c :: d :: f :: l)[m + 5]? = l[m]? := fun a b c d f l m => rfl
      rw [show (i + 1) * 5 = i * 5 + 5 by omega, show i * 5 + 5 + 1 = i * 5 + 1 + 5 by omega, show i * 5 + 5 + 2 = i * 5 + 2 + 5 by omega, show i * 5 + 5 + 3 = i * 5 + 3 + 5 by omega, show i * 5 + 5 + 4 = i * 5 + 4 + 5 by omega, h5, h5, h5, h5, h5]
      exact this
/-- in the world w the value v is a list of the terms gs, in memory that w0 did not have -/
def OwnT (w0 w : World) (v : Value) (gs : List TE) : Prop := OwnV w0 w v gs.length 5 (fun c => (tsC gs)[c]?.getD undef)
theorem OwnT.below {w0 w w' : World} {v : Value} {gs : List TE} (h : OwnT w0 w v gs) (hb : Below w.heap.size w w') : OwnT w0 w' v gs := OwnV.below h hb
theorem OwnT.mono {w0 w1 w : World} {v : Value} {gs : List TE} (h : OwnT w1 w v gs) (hz : w0.heap.size ≤ w1.heap.size) : OwnT w0 w v gs := OwnV.mono h hz
theorem OwnT.sl {w0 w : World} {v : Value} {gs : List TE} (h : OwnT w0 w v gs) : SlT w v gs := by
  obtain ⟨a, cap, rfl, h1, h2, h3⟩ := h
  refine ⟨a, cap, rfl, h1, h2, fun hne => ?_⟩
  obtain ⟨B, rfl, _, hB, hc, _⟩ := h3 (List.length_pos_iff.2 hne)
  refine ⟨B, 0, rfl, hB, fun i hi => ?_⟩
  obtain ⟨g0, g1, g2, g3, g4⟩ := tsC_get gs i hi
  have c0 : w.cell? ⟨B, i * 5, none⟩ = some ((tsC gs)[i * 5]?.getD undef) := hc (i * 5) (by omega)
  have c1 : w.cell? ⟨B, i * 5 + 1, none⟩ = some ((tsC gs)[i * 5 + 1]?.getD undef) := hc (i * 5 + 1) (by omega)
  have c2 : w.cell? ⟨B, i * 5 + 2, none⟩ = some ((tsC gs)[i * 5 + 2]?.getD undef) := hc (i * 5 + 2) (by omega)
  have c3 : w.cell? ⟨B, i * 5 + 3, none⟩ = some ((tsC gs)[i * 5 + 3]?.getD undef) := hc (i * 5 + 3) (by omega)
  have c4 : w.cell? ⟨B, i * 5 + 4, none⟩ = some ((tsC gs)[i * 5 + 4]?.getD undef) := hc (i * 5 + 4) (by omega)
  rw [g0] at c0
  rw [g1] at c1
  rw [g2] at c2
  rw [g3] at c3
  rw [g4] at c4
  unfold TCell
  rw [Nat.zero_add]
  exact ⟨c0, c1, c2, c3, c4⟩
theorem ownT_of_row {w0 w : World} {base : Nat} {e : TypeId} {v : Value} {gs : List TE} (h : w.ownsRow base e 5 v gs.length (tsC gs)) (hb : w0.heap.size ≤ base) : OwnT w0 w v gs := ownV_of_row h hb
theorem ownT_new {w0 w : World} {v : Value} {gs : List TE} (h : SlT w v gs) (hn : NewT w0 w v gs.length) : OwnT w0 w v gs := by
  obtain ⟨a, cap, rfl, h1, h2, h3⟩ := h
  obtain ⟨a', cap', e, hn⟩ := hn
  cases e
  refine ⟨a, cap, rfl, h1, h2, fun hl => ?_⟩
  obtain ⟨B, rfl, hB0, hB, hf⟩ := hn hl
  obtain ⟨b, off, e, _, hc⟩ := h3 (List.length_pos_iff.1 hl)
  cases e
  refine ⟨B, rfl, hB0, hB, fun c hc2 => ?_, hf⟩
  obtain ⟨i, r, hr, rfl⟩ : ∃ i r, r < 5 ∧ c = i * 5 + r := ⟨c / 5, c % 5, Nat.mod_lt _ (by omega), by omega⟩
  have hi : i < gs.length := by omega
  obtain ⟨g0, g1, g2, g3, g4⟩ := tsC_get gs i hi
  have ht := hc i hi
  unfold TCell at ht
  rw [Nat.zero_add] at ht
  obtain ⟨t0, t1, t2, t3, t4⟩ := ht
  match r, hr with
  | 0, _ => show w.cell? ⟨B, i * 5, none⟩ = some ((tsC gs)[i * 5]?.getD undef); rw [t0, g0]; rfl
  | 1, _ => show w.cell? ⟨B, i * 5 + 1, none⟩ = some ((tsC gs)[i * 5 + 1]?.getD undef); rw [t1, g1]; rfl
  | 2, _ => show w.cell? ⟨B, i * 5 + 2, none⟩ = some ((tsC gs)[i * 5 + 2]?.getD undef); rw [t2, g2]; rfl
  | 3, _ => show w.cell? ⟨B, i * 5 + 3, none⟩ = some ((tsC gs)[i * 5 + 3]?.getD undef); rw [t3, g3]; rfl
  | 4, _ => show w.cell? ⟨B, i * 5 + 4, none⟩ = some ((tsC gs)[i * 5 + 4]?.getD undef); rw [t4, g4]; rfl
theorem ownT_nil {w0 w : World} : OwnT w0 w (.slice none 0 0) [] := ownV_nil
end Go.Proofs.YtiedombphcdpbaaGreatDoor
