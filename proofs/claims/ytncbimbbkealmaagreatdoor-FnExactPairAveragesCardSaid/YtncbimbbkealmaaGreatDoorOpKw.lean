/-
  KOpen, OpenKs, in one text.
-/
import Derived.Test.YtncbimbbkealmaaGreatDoorOpen
import Derived.Test.YtncbimbbkealmaaGreatDoorKAv
import Derived.Deep.SlicePairs
/-
  A FLAG OF THE LAWS' OWN, OPENED: its labels, its vertices, its edges.
-/
namespace Go.Proofs.YtncbimbbkealmaaGreatDoor
open Go.ChangeShapes Go.WideShapes Go.ChangeAt Go.RowKit Go.Joins
set_option maxRecDepth 100000

theorem cellsLK : Tryz.prog.cellsOf 47 = 3 := by kernel_rfl
theorem cellsKI : Tryz.prog.cellsOf 2 = 1 := by kernel_rfl
theorem cellsKU : Tryz.prog.cellsOf 23 = 1 := by kernel_rfl
section
variable {H : Type} {enc : TypeId × Value → H}
theorem open_lflag {W : World} {base : Nat} {v : Value} {d : DataW H} {p : List MemPlace} (hv : Value.okWide Tryz.prog W .any base 47 v) (h : DataW.Trod enc Tryz.prog W 0 (fun _ => true) true 47 v d p) :
    ∃ k n e : Int, v = .agg #[.int .i64 k, .int .i64 n, .int .u32 e] ∧ (Lit.int .i64 k).wf = true ∧ (Lit.int .i64 n).wf = true ∧ (Lit.int .u32 e).wf = true := by
  obtain ⟨cs, rfl, hsz⟩ := okWide_struct Tryz.underlying47 hv
  obtain ⟨c0, c1, c2, rfl⟩ := array3 (hsz.trans cellsLK)
  obtain ⟨fuel, hf⟩ := h
  obtain ⟨y0, y1, n, hx, _, h0, h1⟩ := trod_struct2 Tryz.underlying47 hf
  obtain ⟨z0, z1, m, hx2, _, g0, g1⟩ := trod_struct2 Tryz.underlying25 h1
  simp only [Value.cells, cellsKI, cellsKU, cellsLG] at h0 g0 g1
  obtain ⟨a, e0, _, wa⟩ := DataW.trod_int Tryz.underlying2 h0
  obtain ⟨b, e1, _, wb⟩ := DataW.trod_int Tryz.underlying2 g0
  obtain ⟨c, e2, _, wc⟩ := DataW.trod_int Tryz.underlying23 g1
  simp at e0 e1 e2
  subst e0 e1 e2
  exact ⟨a, b, c, rfl, wa, wb, wc⟩
end
end Go.Proofs.YtncbimbbkealmaaGreatDoor
/-
  A LIST OF FLAGS THAT COMES IN, OPENED TO ITS CELLS.
-/
namespace Go.Proofs.YtncbimbbkealmaaGreatDoor
open Go.ChangeShapes Go.WideShapes Go.ChangeAt Go.RowKit Go.Deep
set_option maxRecDepth 100000

theorem open_ks {H : Type} {enc : TypeId × Value → H} {W : World} {base : Nat} {v : Value} {d : DataW H} {p : List MemPlace} (hv : Value.okWide Tryz.prog W .any base 22 v) (h : DataW.Trod enc Tryz.prog W 0 (fun _ => true) true 22 v d p) :
    ∃ gs : List (Int × Int × Int), SlK W v gs ∧ BdK gs := by
  obtain ⟨a0, len, cap, rfl⟩ := okWide_slice Tryz.underlying22 hv
  obtain ⟨fuel, hf⟩ := h
  rcases open_slice Tryz.underlying22 hf with ⟨hcs, hx⟩ | ⟨a, len', cap', m, n, D, Pl, hcs, _, hl, hm, hmm, hx, hi⟩
  · simp only [Value.cells] at hcs
    cases hcs
    exact ⟨[], ⟨none, 0, rfl, by simp, by simp, fun c => absurd rfl c⟩, fun i hi => by simp at hi⟩
  · simp only [Value.cells] at hcs
    cases hcs
    simp only [if_true] at hmm
    have hel : ∀ i, i < len → ∃ x y z : Int, W.cell? (a.add (i * 3)) = some (.int .i64 x) ∧ W.cell? (a.add (i * 3 + 1)) = some (.int .i64 y) ∧ W.cell? (a.add (i * 3 + 2)) = some (.int .u32 z) ∧ (Lit.int .u32 z).wf = true := fun i hi2 => by
      obtain ⟨cs', h1, h2⟩ := hi i (by omega)
      rw [cellsLK] at h1
      obtain ⟨_, hlen, hcell⟩ := World.cells?_some h1
      match cs', hlen with
      | [v0, v1, v2], _ =>
        have e0 := hcell 0 (by omega)
        have e1 := hcell 1 (by omega)
        have e2 := hcell 2 (by omega)
        rw [add_add] at e0 e1 e2
        obtain ⟨y0, y1, n1, _, _, t0, t1⟩ := trod_struct2 Tryz.underlying47 h2
        obtain ⟨z0, z1, n2, _, _, g0, g1⟩ := trod_struct2 Tryz.underlying25 t1
        simp only [cellsKI, cellsKU, cellsLG] at t0 g0 g1
        obtain ⟨x, c0, _, _⟩ := DataW.trod_int Tryz.underlying2 t0
        obtain ⟨y, c1, _, _⟩ := DataW.trod_int Tryz.underlying2 g0
        obtain ⟨z, c2, _, wz⟩ := DataW.trod_int Tryz.underlying23 g1
        simp at c0 c1 c2
        subst c0 c1 c2
        exact ⟨x, y, z, by simpa using e0, by simpa using e1, by simpa using e2, wz⟩
    refine ⟨(List.range len).map fun i => ((W.cell? (a.add (i * 3))).elim 0 intOf, (W.cell? (a.add (i * 3 + 1))).elim 0 intOf, (W.cell? (a.add (i * 3 + 2))).elim 0 intOf), ⟨some a, cap, by simp, by simpa using hl, by unfold maxLen at hm; omega, fun hne => ?_⟩, fun i hi2 => ?_⟩
    · have hlen : 0 < len := by
        rcases Nat.eq_zero_or_pos len with h0 | h0
        · subst h0; exact absurd rfl hne
        · exact h0
      obtain ⟨b, off, spot⟩ := a
      have hspot : spot = none := by
        obtain ⟨x, y, z, h0, _⟩ := hel 0 hlen
        simpa [Addr.add] using World.cell?_spot h0
      subst hspot
      refine ⟨b, off, rfl, ?_, fun i hi2 => ?_⟩
      · obtain ⟨x, y, z, h0, _⟩ := hel 0 hlen
        exact World.block_lt_of_cell? W _ h0
      · rw [List.length_map, List.length_range] at hi2
        obtain ⟨x, y, z, h0, h1, h2, _⟩ := hel i hi2
        unfold KCell kAt
        rw [List.getElem?_map, List.getElem?_range hi2]
        simp only [Option.map_some, Option.getD_some, h0, h1, h2, Option.elim_some, intOf]
        rw [add_plain] at h0 h1 h2
        exact ⟨h0, h1, h2⟩
    · rw [List.length_map, List.length_range] at hi2
      obtain ⟨x, y, z, h0, h1, h2, wz⟩ := hel i hi2
      unfold kAt
      rw [List.getElem?_map, List.getElem?_range hi2]
      simp only [Option.map_some, Option.getD_some, h2, Option.elim_some, intOf]
      have := bounds_u32 wz
      exact ⟨this.1, by omega⟩
end Go.Proofs.YtncbimbbkealmaaGreatDoor
