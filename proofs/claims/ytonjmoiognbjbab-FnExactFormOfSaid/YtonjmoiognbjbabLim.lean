/-
  'limited': what a function that builds something returns, or, if it has thrown that a fraction is too large, ErrLimit.
-/
import Derived.Test.YtonjmoiognbjbabLowest
import Derived.Defers
import Derived.Recover
import Derived.Laws.Pointers
namespace Go.Proofs.Ytonjmoiognbjbab
open Go.RowKit
set_option maxRecDepth 100000

theorem catch_pan (B : Nat) (x : Value) (older : List PanicEntry) (w : World) (hB : B < w.heap.size) (hc : w.cell? ⟨B, 0, none⟩ = some x) (hz : w.frozen? ⟨B, 0, none⟩ = false) :
    CallsD Try.prog 76 #[.pointer (some ⟨B, 0, none⟩)] (.panicking ({ v := .iface 86 (.agg #[]), recovered := false } :: older)) w fun e u' w' =>
      e = .returned (.tuple #[]) ∧ u' = .panicking ({ v := .iface 86 (.agg #[]), recovered := true } :: older) ∧ w' = (w.setCell ⟨B, 0, none⟩ (.int .i64 3)).alloc (.cells #[] 86) := by
  refine callsD_of_wpS Try.func76 rfl fun c₀ cs hu => ?_
  apply wpS_seq
  apply wpS_region
  simp [wpOpsS, go_sem, recoverD, hu, Try.ntmps76, Exit.thenS]
  have hta : ∀ W : World, (Instr.typeAssert (.iface 86 (.agg #[])) 20 75 true).run Try.prog W = .ok (.tuple #[.iface 86 (.agg #[]), .bool true]) W := fun _ => by kernel_rfl
  have hmt : ∀ W : World, (method 204 86 (.agg #[]) "loop.example/g01169/impl.code").run Try.prog W = .ok (107, .agg #[]) W := fun _ => by kernel_rfl
  have hc1 : (w.alloc (.cells #[] 86)).cell? ⟨B, 0, none⟩ = some x := (World.cell?_alloc_old _ _ _ (by show B ≠ _; omega)).trans hc
  have hz1 : (w.alloc (.cells #[] 86)).frozen? ⟨B, 0, none⟩ = false := (((Below.refl w.heap.size w).alloc (Nat.le_refl _) _).frozen (p := ⟨B, 0, none⟩) hB).trans hz
  apply wpS_of_wp
  change Code.wp _ _ _ { tmps := #[.pointer (some ⟨B, 0, none⟩), .iface 86 (.agg #[]), undef, undef, .iface 86 (.agg #[]), undef, undef, undef, undef, undef, undef, undef, undef, undef, undef, undef], defers := [] } w
  go_wp2
  simp [bodyPostS, results, Try.results76]

theorem catch_idle (B : Nat) (w : World) :
    CallsD Try.prog 76 #[.pointer (some ⟨B, 0, none⟩)] .returning w fun e u' w' => e = .returned (.tuple #[]) ∧ u' = .returning ∧ w' = w := by
  refine callsD_of_wpS Try.func76 rfl fun c₀ cs hu => ?_
  apply wpS_seq
  apply wpS_region
  simp [wpOpsS, go_sem, recoverD, hu, Try.ntmps76, Exit.thenS]
  have hta : ∀ W : World, (Instr.typeAssert .nilIface 20 75 true).run Try.prog W = .ok (.tuple #[.nilIface, .bool false]) W := fun _ => by kernel_rfl
  have hne : ∀ W : World, (binOp .neq 20 .nilIface .nilIface).run Try.prog W = .ok (.bool false) W := fun _ => by kernel_rfl
  apply wpS_of_wp
  change Code.wp _ _ _ { tmps := #[.pointer (some ⟨B, 0, none⟩), .nilIface, undef, undef, .nilIface, undef, undef, undef, undef, undef, undef, undef, undef, undef, undef, undef], defers := [] } w
  go_wp2
  cases c₀
  simp_all [bodyPostS, results, Try.results76]

theorem lim_some (G : FuncId) (caps : Array Value) (eg : ∀ args w, (callFunc G args).run Try.prog w = .ok (.enter G args) w) (x : Int × Int) (w : World)
    (hG : ∀ W, Below w.heap.size w W → Calls Try.prog G caps W fun r w' => r = .returned (fv x) ∧ Below W.heap.size W w') :
    Calls Try.prog 45 #[.func (.func G) #[] caps] w fun r w' => r = .returned (lv (some x)) ∧ Below w.heap.size w w' := by
  replace hG := Lib.hid hG
  have hmf : ∀ (fn : Fn) (first cap : Array Value) (w : World), (Instr.makeFunc fn first cap).run Try.prog w = .ok (.func fn first cap) w := fun _ _ _ _ => rfl
  obtain ⟨x1, x2⟩ := x
  go_enter_defers Try.func45, Try.ntmps45
  go_wp2_with fail
  refine (hG.out _ (by (repeat (first | exact Below.refl _ _ | assumption | refine bchain (by assumption) ?_ | refine balloc ?_ _ | apply Below.drew | apply below_drewN | (refine Below.alloc ?_ (by (try simp) <;> omega) _) | (refine Below.setCell ?_ (by (try simp) <;> omega) _))))).mono ?_
  rintro r1 w1 ⟨rfl, hb1⟩
  obtain ⟨hc1, hz1⟩ := bkeep hb1 w.heap.size (by simp <;> omega)
  obtain ⟨hc2, hz2⟩ := bkeep hb1 (w.heap.size + 1) (by simp)
  have hf1 := bkeepz hb1 w.heap.size (by simp <;> omega)
  have hf2 := bkeepz hb1 (w.heap.size + 1) (by simp)
  unfold fv
  go_wp2
  refine leaves_cons (f := 76) (args := #[.pointer (some ⟨w.heap.size + 1, 0, none⟩)]) (by simp) (by simp [go_sem]) ?_
  refine (catch_idle (w.heap.size + 1) _).mono ?_
  rintro e u' w'' ⟨rfl, rfl, rfl⟩
  have g0 : w1.cell? ⟨w.heap.size, 0, none⟩ = some (.int .i64 0) := (hc1 0).trans (by simp)
  have g1 : w1.cell? ⟨w.heap.size, 1, none⟩ = some (.int .i64 0) := (hc1 1).trans (by simp)
  have g2 : w1.cell? ⟨w.heap.size + 1, 0, none⟩ = some (.int .i64 0) := (hc2 0).trans (by simp)
  have k0 : (w1.setCell ⟨w.heap.size, 0, none⟩ (.int .i64 x1)).cell? ⟨w.heap.size, 0, none⟩ = some (.int .i64 x1) := World.cell?_setCell_same _ _ _ g0
  have k1 : ((w1.setCell ⟨w.heap.size, 0, none⟩ (.int .i64 x1)).setCell ⟨w.heap.size, 1, none⟩ (.int .i64 x2)).cell? ⟨w.heap.size, 1, none⟩ = some (.int .i64 x2) :=
    World.cell?_setCell_same _ _ _ ((World.cell?_setCell_other _ _ _ _ (by simp)).trans g1)
  have k2 : (((w1.setCell ⟨w.heap.size, 0, none⟩ (.int .i64 x1)).setCell ⟨w.heap.size, 1, none⟩ (.int .i64 x2)).setCell ⟨w.heap.size + 1, 0, none⟩ (.int .i64 0)).cell? ⟨w.heap.size + 1, 0, none⟩ = some (.int .i64 0) :=
    World.cell?_setCell_same _ _ _ ((World.cell?_setCell_other _ _ _ _ (by simp)).trans ((World.cell?_setCell_other _ _ _ _ (by simp)).trans g2))
  simp [Leaves, settle, results, Try.results45, go_sem, k0, k1, k2]
  exact ⟨rfl, by (repeat (first | exact Below.refl _ _ | assumption | refine bchain (by assumption) ?_ | refine balloc ?_ _ | apply Below.drew | apply below_drewN | (refine Below.alloc ?_ (by (try simp) <;> omega) _) | (refine Below.setCell ?_ (by (try simp) <;> omega) _)))⟩
theorem lim_none (G : FuncId) (caps : Array Value) (eg : ∀ args w, (callFunc G args).run Try.prog w = .ok (.enter G args) w) (w : World)
    (hG : ∀ W, Below w.heap.size w W → Calls Try.prog G caps W fun r w' => r = tooBig ∧ Below W.heap.size W w') :
    Calls Try.prog 45 #[.func (.func G) #[] caps] w fun r w' => r = .returned (lv none) ∧ Below w.heap.size w w' := by
  replace hG := Lib.hid hG
  have hmf : ∀ (fn : Fn) (first cap : Array Value) (w : World), (Instr.makeFunc fn first cap).run Try.prog w = .ok (.func fn first cap) w := fun _ _ _ _ => rfl
  go_enter_defers Try.func45, Try.ntmps45
  go_wp2_with fail
  refine (hG.out _ (by (repeat (first | exact Below.refl _ _ | assumption | refine bchain (by assumption) ?_ | refine balloc ?_ _ | apply Below.drew | apply below_drewN | (refine Below.alloc ?_ (by (try simp) <;> omega) _) | (refine Below.setCell ?_ (by (try simp) <;> omega) _))))).mono ?_
  rintro r1 w1 ⟨rfl, hb1⟩
  obtain ⟨hc1, hz1⟩ := bkeep hb1 w.heap.size (by simp <;> omega)
  obtain ⟨hc2, hz2⟩ := bkeep hb1 (w.heap.size + 1) (by simp)
  have hf1 := bkeepz hb1 w.heap.size (by simp <;> omega)
  have hf2 := bkeepz hb1 (w.heap.size + 1) (by simp)
  have g0 : w1.cell? ⟨w.heap.size, 0, none⟩ = some (.int .i64 0) := (hc1 0).trans (by simp)
  have g1 : w1.cell? ⟨w.heap.size, 1, none⟩ = some (.int .i64 0) := (hc1 1).trans (by simp)
  have g2 : w1.cell? ⟨w.heap.size + 1, 0, none⟩ = some (.int .i64 0) := (hc2 0).trans (by simp)
  have z2 : w1.frozen? ⟨w.heap.size + 1, 0, none⟩ = false := (hf2 0).trans (by simp)
  unfold tooBig
  go_wp2
  refine leaves_cons (f := 76) (args := #[.pointer (some ⟨w.heap.size + 1, 0, none⟩)]) (by simp) (by simp [go_sem]) ?_
  refine (catch_pan (w.heap.size + 1) _ [] _ hz2 g2 z2).mono ?_
  rintro e u' w'' ⟨rfl, rfl, rfl⟩
  have k0 : ((w1.setCell ⟨w.heap.size + 1, 0, none⟩ (.int .i64 3)).alloc (.cells #[] 86)).cell? ⟨w.heap.size, 0, none⟩ = some (.int .i64 0) :=
    (World.cell?_alloc_old _ _ _ (by simp; omega)).trans ((World.cell?_setCell_other _ _ _ _ (by simp)).trans g0)
  have k1 : ((w1.setCell ⟨w.heap.size + 1, 0, none⟩ (.int .i64 3)).alloc (.cells #[] 86)).cell? ⟨w.heap.size, 1, none⟩ = some (.int .i64 0) :=
    (World.cell?_alloc_old _ _ _ (by simp; omega)).trans ((World.cell?_setCell_other _ _ _ _ (by simp)).trans g1)
  have k2 : ((w1.setCell ⟨w.heap.size + 1, 0, none⟩ (.int .i64 3)).alloc (.cells #[] 86)).cell? ⟨w.heap.size + 1, 0, none⟩ = some (.int .i64 3) :=
    (World.cell?_alloc_old _ _ _ (by simp; omega)).trans (World.cell?_setCell_same _ _ _ g2)
  simp [Leaves, settle, results, Try.results45, go_sem, k0, k1, k2]
  exact ⟨rfl, by (repeat (first | exact Below.refl _ _ | assumption | refine bchain (by assumption) ?_ | refine balloc ?_ _ | apply Below.drew | apply below_drewN | (refine Below.alloc ?_ (by (try simp) <;> omega) _) | (refine Below.setCell ?_ (by (try simp) <;> omega) _)))⟩
theorem lim_any (G : FuncId) (caps : Array Value) (eg : ∀ args w, (callFunc G args).run Try.prog w = .ok (.enter G args) w) (o : Option (Int × Int)) (w : World)
    (hG : ∀ W, Below w.heap.size w W → Calls Try.prog G caps W fun r w' => r = qe o ∧ Below W.heap.size W w') :
    Calls Try.prog 45 #[.func (.func G) #[] caps] w fun r w' => r = .returned (lv o) ∧ Below w.heap.size w w' := by
  cases o with
  | some x => exact lim_some G caps eg x w hG
  | none => exact lim_none G caps eg w hG
end Go.Proofs.Ytonjmoiognbjbab
