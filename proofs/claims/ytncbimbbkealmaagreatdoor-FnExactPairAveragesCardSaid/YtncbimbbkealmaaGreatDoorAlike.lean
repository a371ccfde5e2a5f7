/-
  CONTRACTS OF AreAlike AND LeastGraph: the program's and the model's.
-/
import Derived.Test.YtncbimbbkealmaaGreatDoorSLeast
import Derived.Deep.RegionWith
import Derived.Laws.StructEq
import Derived.Laws.Tables
import Derived.KernelRfl
namespace Go.Proofs.YtncbimbbkealmaaGreatDoor
open Go.RowKit
set_option maxRecDepth 100000

theorem eqGr (W : World) (n m e f : Int) : (Op.equalIn 10000 32 (.agg #[.int .i64 n, .int .u32 e]) (.agg #[.int .i64 m, .int .u32 f])).run Tryz.prog W = .ok (n == m && e == f) W := by
  have u3 := Tryz.underlying2
  have u4 := Tryz.underlying23
  have hS : Tryz.prog.underlying 32 = some (.struct (Tryz.prog.fieldsOf 32)) := by kernel_rfl
  have hp : Tryz.prog.stoodInHeld 32 = false := by kernel_rfl
  rw [show (10000 : Nat) = 9999 + 1 from rfl, run_equalIn_agg W 9999 32 _ _ hS hp]
  simp only [Program.fieldsOf, Tryz.underlying32]
  go_simp
  by_cases h1 : n = m <;> by_cases h2 : e = f <;> simp [h1, h2]
section
variable (w : World)

end
end Go.Proofs.YtncbimbbkealmaaGreatDoor
