/-
  THE TABLE OF THE WORDS OF DEEDS, as the row's condition lays it; a deed that comes in; the closed facts of this seat's program.
-/
import Derived.Test.YtdbidlnkaplekaaDoorRows
import Derived.Test.YtdbidlnkaplekaaDoorFrameC
import Derived.Lib.SmallJoins
import Derived.OpenShut
import Derived.Below
namespace Go.Proofs.YtdbidlnkaplekaaDoor
open Go.ChangeShapes Go.WideShapes Go.ChangeAt Go.RowKit Go.Joins
set_option maxRecDepth 100000

theorem own : ownKnob Tryd.prog.godebug = none := by kernel_rfl
theorem laid_out : laidOutB Tryd.prog = true := by kernel_rfl
section
variable {H : Type} {enc : TypeId × Value → H}
end
/-- the table: words and how many numbers they have -/
def wdL : List (List UInt8 × Int) := [([], 0), ([103, 105, 118, 101], 2), ([119, 111, 114, 107], 1), ([100, 101, 108, 105, 118, 101, 114], 1), ([99, 111, 112, 121], 1), ([100, 114, 111, 112], 1), ([115, 97, 118, 101], 0), ([99, 114, 97, 115, 104], 0)]
def wdAt (k : Nat) : List UInt8 × Int := wdL[k]?.getD ([], 0)
def wdB (k : Nat) : ByteArray := { data := (wdAt k).1.toArray }
def wdN (k : Nat) : Int := (wdAt k).2
/-- the table lies in the world -/
structure Words (W : World) : Prop where
  s : ∀ k, k < 8 → W.cell? ⟨0, k * 2, none⟩ = some (.string (wdB k))
  n : ∀ k, k < 8 → W.cell? ⟨0, k * 2 + 1, none⟩ = some (.int .i64 (wdN k))
theorem Words.lt {W : World} (h : Words W) : 0 < W.heap.size := World.block_lt_of_cell? W _ (h.s 0 (by omega))
theorem Words.below {W W' : World} (h : Words W) (hb : Below W.heap.size W W') : Words W' :=
  ⟨fun k hk => (hb.cell (p := ⟨0, _, none⟩) h.lt).trans (h.s k hk), fun k hk => (hb.cell (p := ⟨0, _, none⟩) h.lt).trans (h.n k hk)⟩
theorem gW : Tryd.prog.globalNamed "loop.example/g01169/impl.wordings" = some 0 := by kernel_rfl
theorem tW : (Tryd.prog.globals[0]?).map (·.type) = some 45 := by kernel_rfl
theorem words_of_laid {W : World} (h : laidMet Tryd.prog [("loop.example/g01169/impl.wordings", Rows.laid_loop_example_g01169_impl_wordings)] W) : Words W := by
  obtain ⟨ps, ⟨g0, t0, cs0, f0, p0, q0, hg0, ht0, hv0, hd0, _, _⟩, _, _⟩ := h
  obtain rfl := Option.some.inj (gW.symm.trans hg0)
  obtain rfl := Option.some.inj (tW.symm.trans ht0)
  have c2 : Tryd.prog.cellsOf 44 = 2 := by kernel_rfl
  have cS : Tryd.prog.cellsOf 9 = 1 := by kernel_rfl
  have cI : Tryd.prog.cellsOf 3 = 1 := by kernel_rfl
  obtain ⟨xs, m, _, hx, hlen, hn, hel⟩ := DataW.trod_array Tryd.underlying45 hd0
  have hxs : xs.map (·.1) = wdL.map fun x => (.agg [.lit (.string x.1), .lit (.int .i64 x.2)] : DataW Unit) := (DataW.agg.inj (Prod.mk.inj hx).1).symm
  have key : ∀ k, k < 8 → W.cell? ⟨0, k * 2, none⟩ = some (.string (wdB k)) ∧ W.cell? ⟨0, k * 2 + 1, none⟩ = some (.int .i64 (wdN k)) := fun k hk => by
    have h0 := hel k hk
    rw [c2, List.getElem?_eq_getElem (by omega)] at h0
    have hd : (xs.map (·.1))[k]? = (wdL.map fun x => (.agg [.lit (.string x.1), .lit (.int .i64 x.2)] : DataW Unit))[k]? := by rw [hxs]
    have hwl : wdL.length = 8 := rfl
    have hwd : wdL[k]? = some (wdAt k) := by unfold wdAt; rw [List.getElem?_eq_getElem (by omega : k < wdL.length)]; rfl
    rw [List.getElem?_map, List.getElem?_map, List.getElem?_eq_getElem (by omega : k < xs.length), hwd] at hd
    simp only [Option.map_some, Option.some.injEq] at hd
    obtain ⟨y0, y1, n, e, hl, t0, t1⟩ := trod_struct2 Tryd.underlying44 h0
    obtain ⟨s, es, rfl, _⟩ := DataW.trod_string Tryd.underlying9 t0
    obtain ⟨z, ez, rfl, _⟩ := DataW.trod_int Tryd.underlying3 t1
    rw [e] at hd
    simp only [DataW.agg.injEq, List.cons.injEq, DataW.lit.injEq, Lit.string.injEq, Lit.int.injEq, true_and, and_true] at hd
    have hs : s = wdB k := by
      unfold wdB
      rw [← hd.1]
    have hz : z = wdN k := by
      unfold wdN
      rw [← hd.2]
    rw [cS] at es
    rw [cI] at ez
    refine ⟨?_, ?_⟩
    · rw [World.var?_cell hg0 hv0 (k * 2), ← hs]
      have : (((cs0.toList.drop (k * 2)).take 2).drop 0).take 1 = [.string s] := es
      have h1 := congrArg (·[0]?) this
      simpa using h1
    · rw [World.var?_cell hg0 hv0 (k * 2 + 1), ← hz]
      have : (((cs0.toList.drop (k * 2)).take 2).drop 1).take 1 = [.int .i64 z] := ez
      have h1 := congrArg (·[0]?) this
      simpa using h1
  exact ⟨fun k hk => (key k hk).1, fun k hk => (key k hk).2⟩
end Go.Proofs.YtdbidlnkaplekaaDoor
