/-
  TWO FLAGS HELD AGAINST EACH OTHER BY '=='.
-/
import Derived.Test.YtncbimbbkealmaaGreatDoorKVal
import Derived.Laws.StructEq
import Derived.Laws.Tables
import Derived.KernelRfl
namespace Go.Proofs.YtncbimbbkealmaaGreatDoor
open Go.RowKit
set_option maxRecDepth 100000

theorem eqGrK (W : World) (n m e f : Int) : (Op.equalIn 10000 32 (.agg #[.int .i64 n, .int .u32 e]) (.agg #[.int .i64 m, .int .u32 f])).run Tryz.prog W = .ok (n == m && e == f) W := by
  have u3 := Tryz.underlying2
  have u4 := Tryz.underlying23
  have hS : Tryz.prog.underlying 32 = some (.struct (Tryz.prog.fieldsOf 32)) := by kernel_rfl
  have hp : Tryz.prog.stoodInHeld 32 = false := by kernel_rfl
  rw [show (10000 : Nat) = 9999 + 1 from rfl, run_equalIn_agg W 9999 32 _ _ hS hp]
  simp only [Program.fieldsOf, Tryz.underlying32]
  go_simp
  by_cases h1 : n = m <;> by_cases h2 : e = f <;> simp [h1, h2]
theorem eqFl (W : World) (k l n m e f : Int) : (Op.equalIn 10000 43 (.agg #[.int .i64 k, .int .i64 n, .int .u32 e]) (.agg #[.int .i64 l, .int .i64 m, .int .u32 f])).run Tryz.prog W = .ok (k == l && (n == m && e == f)) W := by
  have u3 := Tryz.underlying2
  have u4 := Tryz.underlying23
  have hS : Tryz.prog.underlying 43 = some (.struct (Tryz.prog.fieldsOf 43)) := by kernel_rfl
  have hp : Tryz.prog.stoodInHeld 43 = false := by kernel_rfl
  rw [show (10000 : Nat) = 9999 + 1 from rfl, run_equalIn_agg W 9999 43 _ _ hS hp]
  simp only [Program.fieldsOf, Tryz.underlying43]
  go_simp
  by_cases h1 : k = l <;> by_cases h2 : n = m <;> by_cases h3 : e = f <;> simp [h1, h2, h3]
end Go.Proofs.YtncbimbbkealmaaGreatDoor
