/-
  TWO FLAGS HELD AGAINST EACH OTHER BY '=='.
-/
import Derived.Test.YtncbimbbkealmaaDoorKVal
import Derived.Laws.StructEq
import Derived.Laws.Tables
import Derived.KernelRfl
namespace Go.Proofs.YtncbimbbkealmaaDoor
open Go.RowKit
set_option maxRecDepth 100000

theorem eqGrK (W : World) (n m e f : Int) : (Op.equalIn 10000 31 (.agg #[.int .i64 n, .int .u32 e]) (.agg #[.int .i64 m, .int .u32 f])).run Tryd.prog W = .ok (n == m && e == f) W := by
  have u3 := Tryd.underlying2
  have u4 := Tryd.underlying22
  have hS : Tryd.prog.underlying 31 = some (.struct (Tryd.prog.fieldsOf 31)) := by kernel_rfl
  have hp : Tryd.prog.stoodInHeld 31 = false := by kernel_rfl
  rw [show (10000 : Nat) = 9999 + 1 from rfl, run_equalIn_agg W 9999 31 _ _ hS hp]
  simp only [Program.fieldsOf, Tryd.underlying31]
  go_simp
  by_cases h1 : n = m <;> by_cases h2 : e = f <;> simp [h1, h2]
theorem eqFl (W : World) (k l n m e f : Int) : (Op.equalIn 10000 33 (.agg #[.int .i64 k, .int .i64 n, .int .u32 e]) (.agg #[.int .i64 l, .int .i64 m, .int .u32 f])).run Tryd.prog W = .ok (k == l && (n == m && e == f)) W := by
  have u3 := Tryd.underlying2
  have u4 := Tryd.underlying22
  have hS : Tryd.prog.underlying 33 = some (.struct (Tryd.prog.fieldsOf 33)) := by kernel_rfl
  have hp : Tryd.prog.stoodInHeld 33 = false := by kernel_rfl
  rw [show (10000 : Nat) = 9999 + 1 from rfl, run_equalIn_agg W 9999 33 _ _ hS hp]
  simp only [Program.fieldsOf, Tryd.underlying33]
  go_simp
  by_cases h1 : k = l <;> by_cases h2 : n = m <;> by_cases h3 : e = f <;> simp [h1, h2, h3]
end Go.Proofs.YtncbimbbkealmaaDoor
