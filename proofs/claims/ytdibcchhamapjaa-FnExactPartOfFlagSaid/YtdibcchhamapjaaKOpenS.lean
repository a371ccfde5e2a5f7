/-
  A LIST OF NUMBERS THAT CAME IN, OPENED.
-/
import Derived.Test.YtdibcchhamapjaaKOpen
import Derived.Test.YtdibcchhamapjaaInts
namespace Go.Proofs.Ytdibcchhamapjaa
open Go.ChangeShapes Go.WideShapes Go.ChangeAt Go.RowKit
set_option maxRecDepth 100000

theorem cells_i64 : Try.prog.cellsOf 2 = 1 := by kernel_rfl
theorem open_i64s {H : Type} {enc : TypeId × Value → H} {W : World} {base : Nat} {v : Value} {d : DataW H} {p : List MemPlace} (hv : Value.okWide Try.prog W .any base 43 v) (h : DataW.Trod enc Try.prog W 0 (fun _ => true) true 43 v d p) :
    ∃ zs : List Int, SlI W v zs := by
  obtain ⟨a0, len, cap, rfl⟩ := okWide_slice Try.underlying43 hv
  obtain ⟨fuel, hf⟩ := h
  rcases open_ints Try.underlying43 Try.underlying2 cells_i64 hf with ⟨hcs, hx⟩ | ⟨a, len', cap', zs, hcs, _, hl, hm, hz, hx, hcell, hwz⟩
  · simp only [Value.cells] at hcs
    cases hcs
    exact ⟨[], none, 0, rfl, by simp, by simp, fun c => absurd rfl c⟩
  · simp only [Value.cells] at hcs
    cases hcs
    simp only [if_true] at hz
    refine ⟨zs.take len, some a, cap, by rw [List.length_take]; congr 1; omega, by rw [List.length_take]; omega, by unfold maxLen at hm; omega, fun hne => ?_⟩
    have hlen : 0 < zs.length := by
      rcases Nat.eq_zero_or_pos zs.length with h0 | h0
      · exact absurd (by rw [List.length_eq_zero_iff.1 h0]; exact List.take_nil) hne
      · exact h0
    obtain ⟨b, off, rfl, hc⟩ := ints_at hcell hlen
    have hlt : b < W.heap.size := by
      have := hc 0 hlen
      unfold World.cell? at this
      rcases Nat.lt_or_ge b W.heap.size with h1 | h1
      · exact h1
      · simp [Array.getElem?_eq_none h1] at this
    refine ⟨b, off, rfl, hlt, fun i hi => ?_⟩
    rw [List.length_take] at hi
    rw [hc i (by omega), List.getElem?_take]
    rw [if_pos (by omega)]
    simp [List.getD]

end Go.Proofs.Ytdibcchhamapjaa
