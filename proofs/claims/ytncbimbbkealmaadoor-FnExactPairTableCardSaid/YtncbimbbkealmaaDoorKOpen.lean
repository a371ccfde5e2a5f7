/-
  A FLAG OF THE LAWS' OWN, OPENED: its labels, its vertices, its edges.
-/
import Derived.Test.YtncbimbbkealmaaDoorOpen
namespace Go.Proofs.YtncbimbbkealmaaDoor
open Go.ChangeShapes Go.WideShapes Go.ChangeAt Go.RowKit Go.Joins
set_option maxRecDepth 100000

theorem cellsLK : Tryd.prog.cellsOf 26 = 3 := by kernel_rfl
theorem cellsKI : Tryd.prog.cellsOf 2 = 1 := by kernel_rfl
theorem cellsKU : Tryd.prog.cellsOf 22 = 1 := by kernel_rfl
section
variable {H : Type} {enc : TypeId × Value → H}
theorem open_lflag {W : World} {base : Nat} {v : Value} {d : DataW H} {p : List MemPlace} (hv : Value.okWide Tryd.prog W .any base 26 v) (h : DataW.Trod enc Tryd.prog W 0 (fun _ => true) true 26 v d p) :
    ∃ k n e : Int, v = .agg #[.int .i64 k, .int .i64 n, .int .u32 e] ∧ (Lit.int .i64 k).wf = true ∧ (Lit.int .i64 n).wf = true ∧ (Lit.int .u32 e).wf = true := by
  obtain ⟨cs, rfl, hsz⟩ := okWide_struct Tryd.underlying26 hv
  obtain ⟨c0, c1, c2, rfl⟩ := array3 (hsz.trans cellsLK)
  obtain ⟨fuel, hf⟩ := h
  obtain ⟨y0, y1, n, hx, _, h0, h1⟩ := trod_struct2 Tryd.underlying26 hf
  obtain ⟨z0, z1, m, hx2, _, g0, g1⟩ := trod_struct2 Tryd.underlying24 h1
  simp only [Value.cells, cellsKI, cellsKU, cellsLG] at h0 g0 g1
  obtain ⟨a, e0, _, wa⟩ := DataW.trod_int Tryd.underlying2 h0
  obtain ⟨b, e1, _, wb⟩ := DataW.trod_int Tryd.underlying2 g0
  obtain ⟨c, e2, _, wc⟩ := DataW.trod_int Tryd.underlying22 g1
  simp at e0 e1 e2
  subst e0 e1 e2
  exact ⟨a, b, c, rfl, wa, wb, wc⟩
end
end Go.Proofs.YtncbimbbkealmaaDoor
