/-
  A LIST OF ROWS THAT COMES IN, OPENED TO ITS CELLS.
-/
import Derived.Test.YtdibcchhamapjacOpenFs
import Derived.Test.YtdibcchhamapjacMs
import Derived.Deep.Slices
namespace Go.Proofs.Ytdibcchhamapjac
open Go.ChangeShapes Go.WideShapes Go.ChangeAt Go.RowKit Go.Deep
set_option maxRecDepth 100000

theorem open_ms {H : Type} {enc : TypeId × Value → H} {W : World} {base : Nat} {v : Value} {d : DataW H} {p : List MemPlace} (hv : Value.okWide Try.prog W .any base 28 v) (h : DataW.Trod enc Try.prog W 0 (fun _ => true) true 28 v d p) :
    ∃ m : List (List (Int × Int)), SlM W v m := by
  obtain ⟨a0, len, cap, rfl⟩ := okWide_slice Try.underlying28 hv
  obtain ⟨fuel, hf⟩ := h
  simp only [Value.cells] at hf
  rcases open_slice1 Try.underlying28 (by kernel_rfl) hf with ⟨hcs, hx⟩ | ⟨a, len', cap', m, n, V, D, Pl, hcs, _, hl, hm, hmm, hx, hi⟩
  · cases hcs
    exact ⟨[], ⟨none, 0, rfl, by simp, by simp, fun c => absurd rfl c⟩⟩
  · cases hcs
    simp only [if_true] at hmm
    have hel : ∀ i, i < len → ∃ r : List (Int × Int), W.cell? (a.add i) = some (V i) ∧ SlG W (V i) r := fun i hi2 => by
      obtain ⟨h0, h1⟩ := hi i (by omega)
      obtain ⟨r, hr⟩ := open_fs_core h1
      exact ⟨r, h0, hr⟩
    obtain ⟨R, hR⟩ := choose_lt (α := List (Int × Int)) (p := fun i r => W.cell? (a.add i) = some (V i) ∧ SlG W (V i) r) hel
    refine ⟨(List.range len).map R, ⟨some a, cap, by simp, by simpa using hl, by unfold maxLen at hm; omega, fun hne => ?_⟩⟩
    have hlen : 0 < len := by
      rcases Nat.eq_zero_or_pos len with h0 | h0
      · subst h0; exact absurd rfl hne
      · exact h0
    obtain ⟨b, off, spot⟩ := a
    have hspot : spot = none := by simpa [Addr.add] using World.cell?_spot (hR 0 hlen).1
    subst hspot
    refine ⟨b, off, rfl, World.block_lt_of_cell? W _ (hR 0 hlen).1, fun i hi2 => ?_⟩
    rw [List.length_map, List.length_range] at hi2
    have h0 := hR i hi2
    unfold Row rAt
    rw [List.getElem?_map, List.getElem?_range hi2]
    rw [add_plain] at h0
    exact ⟨V i, h0.1, h0.2⟩
end Go.Proofs.Ytdibcchhamapjac
