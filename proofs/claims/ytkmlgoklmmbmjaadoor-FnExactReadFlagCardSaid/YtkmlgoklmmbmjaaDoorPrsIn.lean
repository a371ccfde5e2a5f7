/-
  LISTS OF PAIRS OF int64 THAT COME IN: opened to their cells; copied.
-/
import Derived.Test.YtkmlgoklmmbmjaaDoorOpen
import Derived.Test.YtkmlgoklmmbmjaaDoorPrsL
import Derived.Test.YtkmlgoklmmbmjaaDoorMade
import Derived.Deep.Slices
import Derived.Deep.OwnRows
import Derived.Lib.Hide
namespace Go.Proofs.YtkmlgoklmmbmjaaDoor
open Go.ChangeShapes Go.WideShapes Go.ChangeAt Go.RowKit Go.Deep
set_option maxRecDepth 100000

def pf (ps : List (Int × Int)) (i : Nat) : Int × Int := ps[i]?.getD (0, 0)
def SlP (w : World) (v : Value) (ps : List (Int × Int)) : Prop :=
  ∃ (a : Option Addr) (cap : Nat), v = .slice a ps.length cap ∧ ps.length ≤ 9223372036854775807 ∧
    (0 < ps.length → ∃ b off, a = some ⟨b, off, none⟩ ∧ b < w.heap.size ∧ ∀ i, i < ps.length → w.cell? ⟨b, off + i * 2, none⟩ = some (.int .i64 (pf ps i).1) ∧ w.cell? ⟨b, off + i * 2 + 1, none⟩ = some (.int .i64 (pf ps i).2))
theorem SlP.below {w w' : World} {v : Value} {ps : List (Int × Int)} (h : SlP w v ps) (hb : Below w.heap.size w w') : SlP w' v ps := by
  obtain ⟨a, cap, e, h1, h3⟩ := h
  refine ⟨a, cap, e, h1, fun hz => ?_⟩
  obtain ⟨b, off, e2, hlt, hc⟩ := h3 hz
  exact ⟨b, off, e2, Nat.lt_of_lt_of_le hlt hb.size, fun i hi => ⟨(hb.cell (p := ⟨b, _, none⟩) hlt).trans (hc i hi).1, (hb.cell (p := ⟨b, _, none⟩) hlt).trans (hc i hi).2⟩⟩
theorem add_add1 (a : Addr) (k : Nat) : a.add (k + 1) = (a.add k).add 1 := by
  unfold Addr.add
  by_cases h : k = 0
  · subst h; simp
  · simp [h, Nat.add_assoc]
theorem cells_a2 : Tryd.prog.cellsOf 67 = 2 := by kernel_rfl
theorem cells_i64 : Tryd.prog.cellsOf 2 = 1 := by kernel_rfl
theorem open_a2s {H : Type} {enc : TypeId × Value → H} {W : World} {base : Nat} {v : Value} {d : DataW H} {p : List MemPlace} (hv : Value.okWide Tryd.prog W .any base 65 v) (h : DataW.Trod enc Tryd.prog W 0 (fun _ => true) true 65 v d p) :
    ∃ ps : List (Int × Int), SlP W v ps := by
  obtain ⟨a0, len, cap, rfl⟩ := okWide_slice Tryd.underlying65 hv
  obtain ⟨fuel, hf⟩ := h
  rcases open_slice Tryd.underlying65 hf with ⟨hcs, hx⟩ | ⟨a, len', cap', m, n, D, Pl, hcs, _, hl, hm, hmm, hx, hi⟩
  · simp only [Value.cells] at hcs
    cases hcs
    exact ⟨[], none, 0, rfl, by simp, fun c => by simp at c⟩
  · simp only [Value.cells] at hcs
    cases hcs
    simp only [if_true] at hmm
    have hel : ∀ i, i < len → ∃ x y : Int, W.cell? (a.add (i * 2)) = some (.int .i64 x) ∧ W.cell? (a.add (i * 2 + 1)) = some (.int .i64 y) := fun i hi2 => by
      obtain ⟨cs', hc, ht⟩ := hi i (by omega)
      rw [cells_a2] at hc
      obtain ⟨_, hcl, hat⟩ := World.cells?_some hc
      obtain ⟨xs, k, _, _, _, hxl, hg⟩ := DataW.trod_array Tryd.underlying67 ht
      match xs, hxl, cs', hcl with
      | [y0, y1], _, [v0, v1], _ =>
        have g0 := hg 0 (by omega)
        have g1 := hg 1 (by omega)
        rw [cells_i64] at g0 g1
        simp at g0 g1
        have c0 := hat 0 (by omega)
        have c1 := hat 1 (by omega)
        obtain ⟨x, e0, _, _⟩ := DataW.trod_int Tryd.underlying2 g0
        obtain ⟨y, e1, _, _⟩ := DataW.trod_int Tryd.underlying2 g1
        simp at e0 e1 c0 c1
        subst e0 e1
        refine ⟨x, y, ?_, ?_⟩
        · rw [← c0]; congr 1
        · rw [← c1, add_add1]
    refine ⟨(List.range len).map fun i => ((W.cell? (a.add (i * 2))).elim 0 intOf, (W.cell? (a.add (i * 2 + 1))).elim 0 intOf), some a, cap, by simp, by simp; unfold maxLen at hm; omega, fun hne => ?_⟩
    rw [List.length_map, List.length_range] at hne ⊢
    obtain ⟨b, off, spot⟩ := a
    have hspot : spot = none := by
      obtain ⟨x, y, h0, _⟩ := hel 0 hne
      simpa [Addr.add] using World.cell?_spot h0
    subst hspot
    refine ⟨b, off, rfl, ?_, fun i hi2 => ?_⟩
    · obtain ⟨x, y, h0, _⟩ := hel 0 hne
      exact World.block_lt_of_cell? W _ h0
    · obtain ⟨x, y, h0, h1⟩ := hel i hi2
      unfold pf
      rw [List.getElem?_map, List.getElem?_range hi2]
      simp only [Option.map_some, Option.getD_some, h0, h1, Option.elim_some, intOf]
      rw [add_plain] at h0 h1
      exact ⟨h0, h1⟩

/-- the first k of f, zeros behind -/
def hfa (f : Nat → Int × Int) (k i : Nat) : Int × Int := if i < k then f i else (0, 0)
theorem CA.put {w : World} {B n k : Nat} {f : Nat → Int × Int} (h : CA w B n (hfa f k)) (hk : k < n) : CA ((w.setCell ⟨B, k * 2, none⟩ (.int .i64 (f k).1)).setCell ⟨B, k * 2 + 1, none⟩ (.int .i64 (f k).2)) B n (hfa f (k + 1)) := by
  intro i hi
  have hi2 := h i hi
  unfold hfa at hi2 ⊢
  by_cases e : i = k
  · subst e
    rw [if_pos (by omega)]
    exact ⟨(World.cell?_setCell_other _ _ _ _ (by simp)).trans (World.cell?_setCell_same _ _ _ hi2.1), World.cell?_setCell_same _ _ _ ((World.cell?_setCell_other _ _ _ _ (by simp)).trans hi2.2)⟩
  · rw [show (if i < k + 1 then f i else (0, 0)) = (if i < k then f i else (0, 0)) by
      by_cases c : i < k
      · rw [if_pos c, if_pos (by omega)]
      · rw [if_neg c, if_neg (by omega)]]
    exact ⟨(World.cell?_setCell_other _ _ _ _ (by simp <;> omega)).trans ((World.cell?_setCell_other _ _ _ _ (by simp <;> omega)).trans hi2.1), (World.cell?_setCell_other _ _ _ _ (by simp <;> omega)).trans ((World.cell?_setCell_other _ _ _ _ (by simp <;> omega)).trans hi2.2)⟩
theorem info_ap : (Tryd.prog.info? 67).map (fun i => (i.zero, i.size, i.bytes)) = some (some (.agg #[.int .i64 0, .int .i64 0]), 2, 16) := by kernel_rfl
theorem madeA (w : World) (n B : Nat) (e : TypeId) (f : Nat → Int × Int) (hB : B = w.heap.size) : CA (w.alloc (.cells (madeCells #[.int .i64 0, .int .i64 0] (n * 2)) e)) B n (hfa f 0) := by
  intro i hi
  subst hB
  unfold hfa
  rw [World.cell?_alloc_new, World.cell?_alloc_new, if_neg (by omega)]
  have h1 : i * 2 < n * 2 := by omega
  have h2 : i * 2 + 1 < n * 2 := by omega
  constructor
  · simp [madeCells, h1]
  · simp [madeCells, h2]
section
variable (w : World)
end
end Go.Proofs.YtkmlgoklmmbmjaaDoor
