/-
  TWO FLAGS HELD AGAINST EACH OTHER BY '=='.
-/
import Derived.Test.YtiedombphcdpbaaDoorKVal
import Derived.Laws.StructEq
import Derived.Laws.Tables
import Derived.KernelRfl
namespace Go.Proofs.YtiedombphcdpbaaDoor
open Go.RowKit
set_option maxRecDepth 100000

theorem eqGrK (W : World) (n m e f : Int) : (Op.equalIn 10000 37 (.agg #[.int .i64 n, .int .u32 e]) (.agg #[.int .i64 m, .int .u32 f])).run Tryd.prog W = .ok (n == m && e == f) W := by
  have u3 := Tryd.underlying2
  have u4 := Tryd.underlying29
  have hS : Tryd.prog.underlying 37 = some (.struct (Tryd.prog.fieldsOf 37)) := by kernel_rfl
  have hp : Tryd.prog.stoodInHeld 37 = false := by kernel_rfl
  rw [show (10000 : Nat) = 9999 + 1 from rfl, run_equalIn_agg W 9999 37 _ _ hS hp]
  simp only [Program.fieldsOf, Tryd.underlying37]
  go_simp
  by_cases h1 : n = m <;> by_cases h2 : e = f <;> simp [h1, h2]
theorem eqFl (W : World) (k l n m e f : Int) : (Op.equalIn 10000 92 (.agg #[.int .i64 k, .int .i64 n, .int .u32 e]) (.agg #[.int .i64 l, .int .i64 m, .int .u32 f])).run Tryd.prog W = .ok (k == l && (n == m && e == f)) W := by
  have u3 := Tryd.underlying2
  have u4 := Tryd.underlying29
  have hS : Tryd.prog.underlying 92 = some (.struct (Tryd.prog.fieldsOf 92)) := by kernel_rfl
  have hp : Tryd.prog.stoodInHeld 92 = false := by kernel_rfl
  rw [show (10000 : Nat) = 9999 + 1 from rfl, run_equalIn_agg W 9999 92 _ _ hS hp]
  simp only [Program.fieldsOf, Tryd.underlying92]
  go_simp
  by_cases h1 : k = l <;> by_cases h2 : n = m <;> by_cases h3 : e = f <;> simp [h1, h2, h3]
end Go.Proofs.YtiedombphcdpbaaDoor
