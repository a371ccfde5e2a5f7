/-
  A LIST OF GRAPHS THAT COMES IN, OPENED TO ITS CELLS.
-/
import Derived.Test.YtiedombphcdpbaaGreatDoorOpen
import Derived.Test.YtiedombphcdpbaaGreatDoorFree
import Derived.Deep.SlicePairs
namespace Go.Proofs.YtiedombphcdpbaaGreatDoor
open Go.ChangeShapes Go.WideShapes Go.ChangeAt Go.RowKit Go.Deep
set_option maxRecDepth 100000

theorem open_gs {H : Type} {enc : TypeId × Value → H} {W : World} {base : Nat} {v : Value} {d : DataW H} {p : List MemPlace} (hv : Value.okWide Tryz.prog W .any base 22 v) (h : DataW.Trod enc Tryz.prog W 0 (fun _ => true) true 22 v d p) :
    ∃ gs : List (Int × Int), SlG W v gs ∧ Bd gs := by
  obtain ⟨a0, len, cap, rfl⟩ := okWide_slice Tryz.underlying22 hv
  obtain ⟨fuel, hf⟩ := h
  rcases open_slice_pairs Tryz.underlying22 Tryz.underlying25 cellsLG rfl rfl (by kernel_rfl) (by kernel_rfl) hf with ⟨hcs, hx⟩ | ⟨a, len', cap', m, n, V0, V1, D0, D1, P0, P1, hcs, _, hl, hm, hmm, hx, hi⟩
  · simp only [Value.cells] at hcs
    cases hcs
    exact ⟨[], ⟨none, 0, rfl, by simp, by simp, fun c => absurd rfl c⟩, fun i hi => by simp at hi⟩
  · simp only [Value.cells] at hcs
    cases hcs
    simp only [if_true] at hmm
    have hel : ∀ i, i < len → ∃ x y : Int, W.cell? (a.add (i * 2)) = some (.int .i64 x) ∧ W.cell? (a.add (i * 2 + 1)) = some (.int .u32 y) ∧ (Lit.int .u32 y).wf = true := fun i hi2 => by
      obtain ⟨h0, h1, t0, t1⟩ := hi i (by omega)
      obtain ⟨x, e0, _, _⟩ := DataW.trod_int Tryz.underlying2 t0
      obtain ⟨y, e1, _, wy⟩ := DataW.trod_int Tryz.underlying23 t1
      simp at e0 e1
      exact ⟨x, y, by rw [h0, e0], by rw [h1, e1], wy⟩
    refine ⟨(List.range len).map fun i => ((W.cell? (a.add (i * 2))).elim 0 intOf, (W.cell? (a.add (i * 2 + 1))).elim 0 intOf), ⟨some a, cap, by simp, by simpa using hl, by unfold maxLen at hm; omega, fun hne => ?_⟩, fun i hi2 => ?_⟩
    · have hlen : 0 < len := by
        rcases Nat.eq_zero_or_pos len with h0 | h0
        · subst h0; exact absurd rfl hne
        · exact h0
      obtain ⟨b, off, spot⟩ := a
      have hspot : spot = none := by
        obtain ⟨x, y, h0, _, _⟩ := hel 0 hlen
        simpa [Addr.add] using World.cell?_spot h0
      subst hspot
      refine ⟨b, off, rfl, ?_, fun i hi2 => ?_⟩
      · obtain ⟨x, y, h0, _, _⟩ := hel 0 hlen
        exact World.block_lt_of_cell? W _ h0
      · rw [List.length_map, List.length_range] at hi2
        obtain ⟨x, y, h0, h1, _⟩ := hel i hi2
        unfold GCell gAt
        rw [List.getElem?_map, List.getElem?_range hi2]
        simp only [Option.map_some, Option.getD_some, h0, h1, Option.elim_some, intOf]
        rw [add_plain] at h0 h1
        exact ⟨h0, h1⟩
    · rw [List.length_map, List.length_range] at hi2
      obtain ⟨x, y, h0, h1, wy⟩ := hel i hi2
      unfold gAt
      rw [List.getElem?_map, List.getElem?_range hi2]
      simp only [Option.map_some, Option.getD_some, h1, Option.elim_some, intOf]
      have := bounds_u32 wy
      exact ⟨this.1, by omega⟩
end Go.Proofs.YtiedombphcdpbaaGreatDoor
