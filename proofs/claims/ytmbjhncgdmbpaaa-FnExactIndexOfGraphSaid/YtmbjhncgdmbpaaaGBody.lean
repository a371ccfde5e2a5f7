/-
  A round of AllGraphs' inner walk: a graph is turned and put into the map.
-/
import Derived.Test.YtmbjhncgdmbpaaaGSet
import Derived.Test.YtmbjhncgdmbpaaaLeast
namespace Go.Proofs.Ytmbjhncgdmbpaaa
open Go.RowKit Go.Shelf
set_option maxRecDepth 100000
attribute [local go_sem] Oper.semAt_some

def agOps : Array Oper := #[{ dst := some 34, op := Op.load 63 (Operand.tmp 5), type := 63, pos := "l01_graphs.go:407", after := #[], guard := none },
      { dst := some 35, op := Op.load 36 (Operand.tmp 7), type := 36, pos := "l01_graphs.go:407", after := #[], guard := none },
      { dst := some 36, op := Op.move (Operand.tmp 10), type := 47, pos := "l01_graphs.go:407", after := #[], guard := none },
      { dst := some 37, op := Op.call { callee := Callee.value (Operand.func 49), args := #[Operand.tmp 35, Operand.tmp 36], argTypes := #[36, 47] }, type := 36, pos := "l01_graphs.go:407", after := #[{ on := 1, ground := Ground.data }, { on := 2, ground := Ground.data }], guard := none },
      { dst := some 38, op := Op.load 36 (Operand.tmp 7), type := 36, pos := "l01_graphs.go:407", after := #[], guard := none },
      { dst := none, op := Op.mapUpdate 63 (Operand.tmp 34) (Operand.tmp 37) (Operand.tmp 38), type := 0, pos := "l01_graphs.go:407", after := #[{ on := 0, ground := Ground.data }, { on := 3, ground := Ground.data }, { on := 4, ground := Ground.data }, { on := 3, ground := Ground.chain }, { on := 0, ground := Ground.phase }, { on := 1, ground := Ground.phase }, { on := 2, ground := Ground.phase }, { on := 3, ground := Ground.phase }, { on := 4, ground := Ground.phase }], guard := none }]
set_option maxHeartbeats 4000000 in
theorem ag_body (l' m n j z Lb G Bm : Nat) (v : Value) (A' : World) (R : World → Prop) (Q : Exit → Act → World → Prop) (t0 t1 t2 t3 t4 t6 t8 t9 t11 t12 t13 t14 t15 t16 t17 t18 t19 t20 t21 t22 t23 t24 t25 t26 t27 t28 t29 t30 t31 t32 t33 t34 t35 t36 t37 t38 t39 t40 t41 t42 t43 t44 : Value)
    (hOn : Hid (Calls Try.prog 49 #[.agg #[.int .i64 n, .int .u32 j], v] A'.drew fun r w' => r = .returned (.agg #[.int .i64 n, .int .u32 z]) ∧ Below A'.drew.heap.size A'.drew w'))
    (hput : Hid (∀ w3, Below A'.drew.heap.size A'.drew w3 → ∃ w4, (Instr.mapUpdate 63 (.map (some Bm)) (.agg #[.int .i64 n, .int .u32 z]) (.agg #[.int .i64 n, .int .u32 j])).run Try.prog w3 = .ok () w4 ∧ R w4))
    (e0 : A'.cell? ⟨G, 0, none⟩ = some (.int .i64 n)) (e1 : A'.cell? ⟨G, 1, none⟩ = some (.int .u32 j)) (e2 : A'.cell? ⟨Lb, 0, none⟩ = some (.map (some Bm)))
    (hQ : Hid (∀ a4 w4, R w4 → Q .normal a4 w4)) :
    (Code.region 13 agOps true).wpIn (Fence.wide.inRound l') m Try.prog Q { tmps := #[t0, t1, t2, t3, t4, .pointer (some ⟨Lb, 0, none⟩), t6, .pointer (some ⟨G, 0, none⟩), t8, t9, v, t11, t12, t13, t14, t15, t16, t17, t18, t19, t20, t21, t22, t23, t24, t25, t26, t27, t28, t29, t30, t31, t32, t33, t34, t35, t36, t37, t38, t39, t40, t41, t42, t43, t44], defers := [] } A' := by
  have hG : G < A'.drew.heap.size := World.block_lt_of_cell? A' ⟨G, 0, none⟩ e0
  have hL : Lb < A'.drew.heap.size := World.block_lt_of_cell? A' ⟨Lb, 0, none⟩ e2
  unfold agOps
  gi_region_with (refine ⟨trivial, fun h => (by cases h), ?_⟩; gi_at_call 49; refine (CallsIn.inRound l' (callsIn_wide.2 hOn.out)).mono ?_; rintro r3 w3 ⟨rfl, hb3⟩; obtain ⟨w4, hrun, hS4⟩ := hput.out w3 hb3; have x0 := (hb3.cell (p := ⟨G, 0, none⟩) hG).trans e0; have x1 := (hb3.cell (p := ⟨G, 1, none⟩) hG).trans e1; have x2 := (hb3.cell (p := ⟨Lb, 0, none⟩) hL).trans e2)
  all_goals exact hQ.out _ _ hS4
end Go.Proofs.Ytmbjhncgdmbpaaa
