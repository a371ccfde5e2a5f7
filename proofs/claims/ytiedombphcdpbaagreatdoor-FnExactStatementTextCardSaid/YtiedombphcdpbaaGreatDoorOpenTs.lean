/-
  A SUM OF FLAGS THAT COMES IN, OPENED TO ITS CELLS.
-/
import Derived.Test.YtiedombphcdpbaaGreatDoorKOpen
import Derived.Test.YtiedombphcdpbaaGreatDoorTs
import Derived.Deep.SlicePairs
import Derived.Deep.Strs
namespace Go.Proofs.YtiedombphcdpbaaGreatDoor
open Go.ChangeShapes Go.WideShapes Go.ChangeAt Go.RowKit Go.Deep
set_option maxRecDepth 100000

/-- a sum as numbers -/
structure SM where
  n : Int
  e : Int
  s : Int
  ts : List TE
def BdT (gs : List TE) : Prop := ∀ i, i < gs.length → 0 ≤ (tAt gs i).e ∧ (tAt gs i).e < 4294967296
def BdS (X : SM) : Prop := 0 ≤ X.e ∧ X.e < 4294967296 ∧ BdT X.ts
def SumS (w : World) (v : Value) (X : SM) : Prop := ∃ u, v = .agg #[.int .i64 X.n, .int .u32 X.e, .int .i64 X.s, u] ∧ SlT w u X.ts
theorem SumS.below {w w' : World} {v : Value} {X : SM} (h : SumS w v X) (hb : Below w.heap.size w w') : SumS w' v X := by
  obtain ⟨u, e, h1⟩ := h
  exact ⟨u, e, h1.below hb⟩
theorem cellsLT : Tryz.prog.cellsOf 106 = 5 := by kernel_rfl
theorem cellsLFr : Tryz.prog.cellsOf 30 = 2 := by kernel_rfl
theorem cellsLSum : Tryz.prog.cellsOf 28 = 4 := by kernel_rfl
theorem cellsLTs : Tryz.prog.cellsOf 26 = 1 := by kernel_rfl
theorem open_ts {H : Type} {enc : TypeId × Value → H} {W : World} {fuel : Nat} {v : Value} {x : DataW H × List MemPlace} (hf : DataW.trod enc Tryz.prog W 0 (fun _ => true) true fuel 26 [v] = some x) :
    ∃ gs : List TE, SlT W v gs ∧ BdT gs := by
  rcases open_slice Tryz.underlying26 hf with ⟨hcs, hx⟩ | ⟨a, len, cap, m, n, D, Pl, hcs, _, hl, hm, hmm, hx, hi⟩
  · cases hcs
    exact ⟨[], ⟨none, 0, rfl, by simp, by simp, fun c => absurd rfl c⟩, fun i hi => by simp at hi⟩
  · cases hcs
    simp only [if_true] at hmm
    have hel : ∀ i, i < len → ∃ x y z s t : Int, W.cell? (a.add (i * 5)) = some (.int .i64 x) ∧ W.cell? (a.add (i * 5 + 1)) = some (.int .i64 y) ∧ W.cell? (a.add (i * 5 + 2)) = some (.int .u32 z) ∧ W.cell? (a.add (i * 5 + 3)) = some (.int .i64 s) ∧ W.cell? (a.add (i * 5 + 4)) = some (.int .i64 t) ∧ (Lit.int .u32 z).wf = true := fun i hi2 => by
      obtain ⟨cs', h1, h2⟩ := hi i (by omega)
      rw [cellsLT] at h1
      obtain ⟨_, hlen, hcell⟩ := World.cells?_some h1
      match cs', hlen with
      | [v0, v1, v2, v3, v4], _ =>
        have e0 := hcell 0 (by omega)
        have e1 := hcell 1 (by omega)
        have e2 := hcell 2 (by omega)
        have e3 := hcell 3 (by omega)
        have e4 := hcell 4 (by omega)
        rw [add_add] at e0 e1 e2 e3 e4
        obtain ⟨x0, x1, n0, _, _, s0, s1⟩ := trod_struct2 Tryz.underlying106 h2
        obtain ⟨y0, y1, n1, _, _, t0, t1⟩ := trod_struct2 Tryz.underlying104 s0
        obtain ⟨z0, z1, n2, _, _, g0, g1⟩ := trod_struct2 Tryz.underlying25 t1
        obtain ⟨q0, q1, n3, _, _, f0, f1⟩ := trod_struct2 Tryz.underlying30 s1
        simp only [cellsKI, cellsKU, cellsLG, cellsLK, cellsLFr] at t0 g0 g1 f0 f1
        obtain ⟨x, c0, _, _⟩ := DataW.trod_int Tryz.underlying2 t0
        obtain ⟨y, c1, _, _⟩ := DataW.trod_int Tryz.underlying2 g0
        obtain ⟨z, c2, _, wz⟩ := DataW.trod_int Tryz.underlying23 g1
        obtain ⟨s, c3, _, _⟩ := DataW.trod_int Tryz.underlying2 f0
        obtain ⟨t, c4, _, _⟩ := DataW.trod_int Tryz.underlying2 f1
        simp at c0 c1 c2 c3 c4
        subst c0 c1 c2 c3 c4
        exact ⟨x, y, z, s, t, by simpa using e0, by simpa using e1, by simpa using e2, by simpa using e3, by simpa using e4, wz⟩
    refine ⟨(List.range len).map fun i => ⟨(W.cell? (a.add (i * 5))).elim 0 intOf, (W.cell? (a.add (i * 5 + 1))).elim 0 intOf, (W.cell? (a.add (i * 5 + 2))).elim 0 intOf, (W.cell? (a.add (i * 5 + 3))).elim 0 intOf, (W.cell? (a.add (i * 5 + 4))).elim 0 intOf⟩, ⟨some a, cap, by simp, by simpa using hl, by unfold maxLen at hm; omega, fun hne => ?_⟩, fun i hi2 => ?_⟩
    · have hlen : 0 < len := by
        rcases Nat.eq_zero_or_pos len with h0 | h0
        · subst h0; exact absurd rfl hne
        · exact h0
      obtain ⟨b, off, spot⟩ := a
      have hspot : spot = none := by
        obtain ⟨x, y, z, s, t, h0, _⟩ := hel 0 hlen
        simpa [Addr.add] using World.cell?_spot h0
      subst hspot
      refine ⟨b, off, rfl, ?_, fun i hi2 => ?_⟩
      · obtain ⟨x, y, z, s, t, h0, _⟩ := hel 0 hlen
        exact World.block_lt_of_cell? W _ h0
      · rw [List.length_map, List.length_range] at hi2
        obtain ⟨x, y, z, s, t, h0, h1, h2, h3, h4, _⟩ := hel i hi2
        unfold TCell tAt
        rw [List.getElem?_map, List.getElem?_range hi2]
        simp only [Option.map_some, Option.getD_some, h0, h1, h2, h3, h4, Option.elim_some, intOf]
        rw [add_plain] at h0 h1 h2 h3 h4
        exact ⟨h0, h1, h2, h3, h4⟩
    · rw [List.length_map, List.length_range] at hi2
      obtain ⟨x, y, z, s, t, h0, h1, h2, h3, h4, wz⟩ := hel i hi2
      unfold tAt
      rw [List.getElem?_map, List.getElem?_range hi2]
      simp only [Option.map_some, Option.getD_some, h2, Option.elim_some, intOf]
      have := bounds_u32 wz
      exact ⟨this.1, by omega⟩
theorem open_lsum {H : Type} {enc : TypeId × Value → H} {W : World} {base : Nat} {v : Value} {d : DataW H} {p : List MemPlace} (hv : Value.okWide Tryz.prog W .any base 28 v) (h : DataW.Trod enc Tryz.prog W 0 (fun _ => true) true 28 v d p) :
    ∃ X : SM, SumS W v X ∧ BdS X := by
  obtain ⟨cs, rfl, hsz⟩ := okWide_struct Tryz.underlying28 hv
  obtain ⟨fuel, hf⟩ := h
  rw [cellsLSum] at hsz
  obtain ⟨l⟩ := cs
  match l, hsz with
  | [v0, v1, v2, v3], _ =>
    obtain ⟨y0, y1, y2, n, _, _, h0, h1, h2⟩ := trod_struct3 Tryz.underlying28 hf
    obtain ⟨z0, z1, m, _, _, g0, g1⟩ := trod_struct2 Tryz.underlying25 h0
    simp only [Value.cells, cellsKI, cellsKU, cellsLG, cellsLTs] at h0 h1 h2 g0 g1
    obtain ⟨a, e0, _, _⟩ := DataW.trod_int Tryz.underlying2 g0
    obtain ⟨b, e1, _, wb⟩ := DataW.trod_int Tryz.underlying23 g1
    obtain ⟨c, e2, _, _⟩ := DataW.trod_int Tryz.underlying2 h1
    simp at e0 e1 e2
    subst e0 e1 e2
    obtain ⟨gs, hgs, hbd⟩ := open_ts (v := v3) (by simpa using h2)
    have := bounds_u32 wb
    exact ⟨⟨a, b, c, gs⟩, ⟨v3, rfl, hgs⟩, this.1, by show b < _; omega, hbd⟩
end Go.Proofs.YtiedombphcdpbaaGreatDoor
