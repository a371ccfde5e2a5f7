/-
  Are two sums the same: the program's contract and the model's.
-/
import Derived.Test.YtiedombphcdpbaaDoorSTown
import Derived.Test.YtiedombphcdpbaaDoorKEq
import Derived.Deep.RegionHeld3
import Derived.BigQuiet
namespace Go.Proofs.YtiedombphcdpbaaDoor
open Go.RowKit
set_option maxRecDepth 100000
theorem eqFrT (W : World) (n m e f : Int) : (Op.equalIn 10000 70 (.agg #[.int .i64 n, .int .i64 e]) (.agg #[.int .i64 m, .int .i64 f])).run Tryd.prog W = .ok (n == m && e == f) W := by
  have u3 := Tryd.underlying2
  have hS : Tryd.prog.underlying 70 = some (.struct (Tryd.prog.fieldsOf 70)) := by kernel_rfl
  have hp : Tryd.prog.stoodInHeld 70 = false := by kernel_rfl
  rw [show (10000 : Nat) = 9999 + 1 from rfl, run_equalIn_agg W 9999 70 _ _ hS hp]
  simp only [Program.fieldsOf, Tryd.underlying70]
  go_simp
  by_cases h1 : n = m <;> by_cases h2 : e = f <;> simp [h1, h2]
theorem eqTm (W : World) (x0 x1 x2 x3 x4 y0 y1 y2 y3 y4 : Int) : (Op.equalIn 10000 94 (.agg #[.int .i64 x0, .int .i64 x1, .int .u32 x2, .int .i64 x3, .int .i64 x4]) (.agg #[.int .i64 y0, .int .i64 y1, .int .u32 y2, .int .i64 y3, .int .i64 y4])).run Tryd.prog W = .ok ((x0 == y0 && (x1 == y1 && x2 == y2)) && (x3 == y3 && x4 == y4)) W := by
  have u3 := Tryd.underlying2
  have u4 := Tryd.underlying29
  have hS : Tryd.prog.underlying 94 = some (.struct (Tryd.prog.fieldsOf 94)) := by kernel_rfl
  have hp : Tryd.prog.stoodInHeld 94 = false := by kernel_rfl
  rw [show (10000 : Nat) = 9999 + 1 from rfl, run_equalIn_agg W 9999 94 _ _ hS hp]
  simp only [Program.fieldsOf, Tryd.underlying94]
  go_simp
  by_cases h1 : x0 = y0 <;> by_cases h2 : x1 = y1 <;> by_cases h3 : x2 = y2 <;> by_cases h4 : x3 = y3 <;> by_cases h5 : x4 = y4 <;> simp [h1, h2, h3, h4, h5]
theorem tAt_ext {xs ys : List TE} (hl : xs.length = ys.length) (h : ∀ i, i < xs.length → tAt xs i = tAt ys i) : xs = ys := by
  refine List.ext_getElem hl ?_
  intro i h1 h2
  have := h i h1
  simpa [tAt, List.getElem?_eq_getElem h1, List.getElem?_eq_getElem h2] using this
section
variable (w : World)
end
end Go.Proofs.YtiedombphcdpbaaDoor
