/-
  A MATRIX THAT THE PROGRAM RETURNS, AS A LAW SEES IT: it reads as told, marks can be written into it, and they are held.
-/
import Derived.Test.YtdibcchhamapjacME
namespace Go.Proofs.Ytdibcchhamapjac
open Go.RowKit
set_option maxRecDepth 100000

/-- n rows of n fractions: none, or in one block -/
def MR (b0 : Nat) (w : World) (u : Value) (n : Nat) (f : Nat → Int) : Prop :=
  (n = 0 ∧ ∃ a cap, u = .slice a 0 cap ∧ cap ≤ 9223372036854775807) ∨
    ∃ A B, u = .slice (some ⟨A, 0, none⟩) n n ∧ n ≤ 8 ∧ A ≠ B ∧ (b0 ≤ A ∧ b0 ≤ B) ∧ A < w.heap.size ∧ B < w.heap.size ∧ CF w B (n * n * 2) f ∧ (∀ c, w.frozen? ⟨B, c, none⟩ = false) ∧ RowsIn w A B n
theorem MR.below {b0 : Nat} {w w' : World} {u : Value} {n : Nat} {f : Nat → Int} (h : MR b0 w u n f) (hb : Below w.heap.size w w') : MR b0 w' u n f := by
  rcases h with h | ⟨A, B, e, h8, h1, h2, h3, h4, h5, h6, h7⟩
  · exact .inl h
  · exact .inr ⟨A, B, e, h8, h1, h2, Nat.lt_of_lt_of_le h3 hb.size, Nat.lt_of_lt_of_le h4 hb.size, h5.below hb h4, fun c => (hb.frozen (p := ⟨B, c, none⟩) h4).trans (h6 c), fun i hi => (hb.cell (p := ⟨A, i, none⟩) h3).trans (h7 i hi)⟩
theorem MR.slm {b0 : Nat} {w : World} {u : Value} {n : Nat} {g : Nat → Nat → Int × Int} (h : MR b0 w u n (gv n g)) : SlM w u (matL n g) := by
  rcases h with ⟨rfl, a, cap, rfl, hc⟩ | ⟨A, B, rfl, h8, h1, h2, h3, h4, h5, h6, h7⟩
  · exact ⟨a, cap, rfl, Nat.zero_le _, hc, fun c => absurd rfl c⟩
  · exact rowsIn_slm (Nat.le_refl _) (by omega) h3 h4 h7 h5 h8
theorem MR.le {b0 b1 : Nat} {w : World} {u : Value} {n : Nat} {f : Nat → Int} (h : MR b0 w u n f) (hb : b1 ≤ b0) : MR b1 w u n f := by
  rcases h with h | ⟨A, B, e, h8, h1, h2, h3⟩
  · exact .inl h
  · exact .inr ⟨A, B, e, h8, h1, ⟨by omega, by omega⟩, h3⟩
theorem MR.setCell {b0 : Nat} {w : World} {u : Value} {n : Nat} {f : Nat → Int} (h : MR b0 w u n f) {p : Addr} (x : Value) (hp : p.block < b0) : MR b0 (w.setCell p x) u n f := by
  rcases h with h | ⟨A, B, e, h8, h1, h2, h3, h4, h5, h6, h7⟩
  · exact .inl h
  · exact .inr ⟨A, B, e, h8, h1, h2, by simpa using h3, by simpa using h4, fun i hi => (World.cell?_setCell_other _ _ _ _ (by rintro rfl; exact absurd hp (by show ¬ B < b0; omega))).trans (h5 i hi), fun c => by rw [World.frozen?_setCell]; exact h6 c,
      fun i hi => (World.cell?_setCell_other _ _ _ _ (by rintro rfl; exact absurd hp (by show ¬ A < b0; omega))).trans (h7 i hi)⟩
section
variable (w : World)
theorem markR_any (b0 : Nat) (u : Value) (n : Nat) (f : Nat → Int) (h : MR b0 w u n f) (hb0 : b0 ≤ w.heap.size) :
    Calls Try.prog 15 #[u, .int .i64 1] w fun r w' => r = .returned (.int .i64 ((1 + n * n * 2 : Nat) : Int)) ∧ Below b0 w w' ∧ MR b0 w' u n (mkF 1 0 (n * n * 2) f) := by
  rcases h with ⟨rfl, a, cap, rfl, hc⟩ | ⟨A, B, rfl, h8, h1, h2, h3, h4, h5, h6, h7⟩
  · refine (markM_zero w a cap 1).mono ?_
    rintro r w' ⟨rfl, hb⟩
    exact ⟨rfl, hb.mono hb0, .inl ⟨rfl, a, cap, rfl, hc⟩⟩
  · refine (markM_some w b0 A B n 1 n f h8 (by omega) h1 h2.2 h5 h6 h7).mono ?_
    rintro r w' ⟨rfl, hb, hC, hF, hR⟩
    exact ⟨rfl, hb, .inr ⟨A, B, rfl, h8, h1, h2, Nat.lt_of_lt_of_le h3 hb.size, Nat.lt_of_lt_of_le h4 hb.size, hC, hF, hR⟩⟩
theorem heldR_any (b0 : Nat) (u : Value) (n : Nat) (f : Nat → Int) (h : MR b0 w u n (mkF 1 0 (n * n * 2) f)) :
    Calls Try.prog 16 #[u, .int .i64 1] w fun r w' => r = .returned (.int .i64 ((1 + n * n * 2 : Nat) : Int)) ∧ Below w.heap.size w w' := by
  rcases h with ⟨rfl, a, cap, rfl, hc⟩ | ⟨A, B, rfl, h8, h1, h2, h3, h4, h5, h6, h7⟩
  · exact heldM_zero w a cap 1
  · exact heldM_some w A B n 1 n f h8 (by omega) h3 h4 h5 h7
theorem eqR_any (u v : Value) (n : Nat) (g : Nat → Nat → Int × Int) (h8 : n ≤ 8) (h : SlM w u (matL n g)) (h' : SlM w v (matL n g)) :
    Calls Try.prog 14 #[u, v] w fun r w' => r = .returned (.bool true) ∧ Below w.heap.size w w' :=
  eqMs_any w u v (matL n g) h h' (by rw [matL_length]; omega) (fun i hi => by rw [matL_rows n g i hi]; omega)
theorem SlM.form {w : World} {v : Value} {n : Nat} {g : Nat → Nat → Int × Int} (h : SlM w v (matL n g)) : ∃ a cap, v = .slice a n cap := by
  obtain ⟨a, cap, e, _⟩ := h
  rw [matL_length] at e
  exact ⟨a, cap, e⟩
theorem MR.form {b0 : Nat} {w : World} {u : Value} {n : Nat} {f : Nat → Int} (h : MR b0 w u n f) : ∃ a cap, u = .slice a n cap := by
  rcases h with ⟨rfl, a, cap, rfl, _⟩ | ⟨A, B, rfl, _⟩
  · exact ⟨a, cap, rfl⟩
  · exact ⟨_, n, rfl⟩
end
end Go.Proofs.Ytdibcchhamapjac
