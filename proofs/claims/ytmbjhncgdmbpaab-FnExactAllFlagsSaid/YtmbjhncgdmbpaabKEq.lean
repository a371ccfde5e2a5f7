/-
  TWO FLAGS HELD AGAINST EACH OTHER BY '=='.
-/
import Derived.Test.YtmbjhncgdmbpaabKVal
import Derived.Laws.StructEq
import Derived.Laws.Tables
import Derived.KernelRfl
namespace Go.Proofs.Ytmbjhncgdmbpaab
open Go.RowKit
set_option maxRecDepth 100000

theorem eqGrK (W : World) (n m e f : Int) : (Op.equalIn 10000 37 (.agg #[.int .i64 n, .int .u32 e]) (.agg #[.int .i64 m, .int .u32 f])).run Try.prog W = .ok (n == m && e == f) W := by
  have u3 := Try.underlying2
  have u4 := Try.underlying31
  have hS : Try.prog.underlying 37 = some (.struct (Try.prog.fieldsOf 37)) := by kernel_rfl
  have hp : Try.prog.stoodInHeld 37 = false := by kernel_rfl
  rw [show (10000 : Nat) = 9999 + 1 from rfl, run_equalIn_agg W 9999 37 _ _ hS hp]
  simp only [Program.fieldsOf, Try.underlying37]
  go_simp
  by_cases h1 : n = m <;> by_cases h2 : e = f <;> simp [h1, h2]
theorem eqFl (W : World) (k l n m e f : Int) : (Op.equalIn 10000 49 (.agg #[.int .i64 k, .int .i64 n, .int .u32 e]) (.agg #[.int .i64 l, .int .i64 m, .int .u32 f])).run Try.prog W = .ok (k == l && (n == m && e == f)) W := by
  have u3 := Try.underlying2
  have u4 := Try.underlying31
  have hS : Try.prog.underlying 49 = some (.struct (Try.prog.fieldsOf 49)) := by kernel_rfl
  have hp : Try.prog.stoodInHeld 49 = false := by kernel_rfl
  rw [show (10000 : Nat) = 9999 + 1 from rfl, run_equalIn_agg W 9999 49 _ _ hS hp]
  simp only [Program.fieldsOf, Try.underlying49]
  go_simp
  by_cases h1 : k = l <;> by_cases h2 : n = m <;> by_cases h3 : e = f <;> simp [h1, h2, h3]
end Go.Proofs.Ytmbjhncgdmbpaab
