/-
  'limited' of a matrix: what a function that builds one returns, or, if it has thrown that a fraction is too large, ErrLimit.
-/
import Derived.Test.YtdibcchhamapjacLim
namespace Go.Proofs.Ytdibcchhamapjac
open Go.RowKit
set_option maxRecDepth 100000

theorem catchM_pan (B : Nat) (x : Value) (older : List PanicEntry) (w : World) (hB : B < w.heap.size) (hc : w.cell? ⟨B, 0, none⟩ = some x) (hz : w.frozen? ⟨B, 0, none⟩ = false) :
    CallsD Try.prog 80 #[.pointer (some ⟨B, 0, none⟩)] (.panicking ({ v := .iface 110 (.agg #[]), recovered := false } :: older)) w fun e u' w' =>
      e = .returned (.tuple #[]) ∧ u' = .panicking ({ v := .iface 110 (.agg #[]), recovered := true } :: older) ∧ w' = (w.setCell ⟨B, 0, none⟩ (.int .i64 3)).alloc (.cells #[] 110) := by
  refine callsD_of_wpS Try.func80 rfl fun c₀ cs hu => ?_
  apply wpS_seq
  apply wpS_region
  simp [wpOpsS, go_sem, recoverD, hu, Try.ntmps80, Exit.thenS]
  have hta : ∀ W : World, (Instr.typeAssert (.iface 110 (.agg #[])) 20 91 true).run Try.prog W = .ok (.tuple #[.iface 110 (.agg #[]), .bool true]) W := fun _ => by kernel_rfl
  have hmt : ∀ W : World, (method 233 110 (.agg #[]) "loop.example/g01169/impl.code").run Try.prog W = .ok (124, .agg #[]) W := fun _ => by kernel_rfl
  have hc1 : (w.alloc (.cells #[] 110)).cell? ⟨B, 0, none⟩ = some x := (World.cell?_alloc_old _ _ _ (by show B ≠ _; omega)).trans hc
  have hz1 : (w.alloc (.cells #[] 110)).frozen? ⟨B, 0, none⟩ = false := (((Below.refl w.heap.size w).alloc (Nat.le_refl _) _).frozen (p := ⟨B, 0, none⟩) hB).trans hz
  apply wpS_of_wp
  change Code.wp _ _ _ { tmps := #[.pointer (some ⟨B, 0, none⟩), .iface 110 (.agg #[]), undef, undef, .iface 110 (.agg #[]), undef, undef, undef, undef, undef, undef, undef, undef, undef, undef, undef], defers := [] } w
  go_wp2
  simp [bodyPostS, results, Try.results80]

theorem catchM_idle (B : Nat) (w : World) :
    CallsD Try.prog 80 #[.pointer (some ⟨B, 0, none⟩)] .returning w fun e u' w' => e = .returned (.tuple #[]) ∧ u' = .returning ∧ w' = w := by
  refine callsD_of_wpS Try.func80 rfl fun c₀ cs hu => ?_
  apply wpS_seq
  apply wpS_region
  simp [wpOpsS, go_sem, recoverD, hu, Try.ntmps80, Exit.thenS]
  have hta : ∀ W : World, (Instr.typeAssert .nilIface 20 91 true).run Try.prog W = .ok (.tuple #[.nilIface, .bool false]) W := fun _ => by kernel_rfl
  have hne : ∀ W : World, (binOp .neq 20 .nilIface .nilIface).run Try.prog W = .ok (.bool false) W := fun _ => by kernel_rfl
  apply wpS_of_wp
  change Code.wp _ _ _ { tmps := #[.pointer (some ⟨B, 0, none⟩), .nilIface, undef, undef, .nilIface, undef, undef, undef, undef, undef, undef, undef, undef, undef, undef, undef], defers := [] } w
  go_wp2
  cases c₀
  simp_all [bodyPostS, results, Try.results80]

theorem limM_ok (G : FuncId) (caps : Array Value) (eg : ∀ args w, (callFunc G args).run Try.prog w = .ok (.enter G args) w) (w : World) (S : World → Value → Prop) (hS : ∀ W u x, S W u → S (W.setCell ⟨w.heap.size, 0, none⟩ x) u)
    (hG : ∀ W, W.heap.size = w.heap.size + 1 → Below w.heap.size w W → Calls Try.prog G caps W fun r w' => (∃ u, r = .returned u ∧ S w' u) ∧ Below W.heap.size W w') :
    Calls Try.prog 48 #[.func (.func G) #[] caps] w fun r w' => (∃ u, r = .returned (.tuple #[u, .int .i64 0]) ∧ S w' u) ∧ Below w.heap.size w w' := by
  replace hG := Lib.hid hG
  have hmf : ∀ (fn : Fn) (first cap : Array Value) (w : World), (Instr.makeFunc fn first cap).run Try.prog w = .ok (.func fn first cap) w := fun _ _ _ _ => rfl
  go_enter_defers Try.func48, Try.ntmps48
  go_wp2_with fail
  refine (hG.out _ (by simp) (by (repeat (first | exact Below.refl _ _ | assumption | refine bchain (by assumption) ?_ | refine balloc ?_ _ | apply Below.drew | apply below_drewN | (refine Below.alloc ?_ (by (try simp) <;> omega) _) | (refine Below.setCell ?_ (by (try simp) <;> omega) _))))).mono ?_
  rintro r1 w1 ⟨⟨u, rfl, hu⟩, hb1⟩
  obtain ⟨hc1, hz1⟩ := bkeep hb1 w.heap.size (by simp)
  have hf1 := bkeepz hb1 w.heap.size (by simp)
  have g0 : w1.cell? ⟨w.heap.size, 0, none⟩ = some (.int .i64 0) := (hc1 0).trans (by simp)
  have hu2 := Lib.hid (hS w1 u (.int .i64 0) hu)
  have hbb : Below w.heap.size w (w1.setCell ⟨w.heap.size, 0, none⟩ (.int .i64 0)) := by (repeat (first | exact Below.refl _ _ | assumption | refine bchain (by assumption) ?_ | refine balloc ?_ _ | apply Below.drew | apply below_drewN | (refine Below.alloc ?_ (by (try simp) <;> omega) _) | (refine Below.setCell ?_ (by (try simp) <;> omega) _)))
  go_wp2
  refine leaves_cons (f := 80) (args := #[.pointer (some ⟨w.heap.size, 0, none⟩)]) (by simp) (by simp [go_sem]) ?_
  refine (catchM_idle w.heap.size _).mono ?_
  rintro e u' w'' ⟨rfl, rfl, rfl⟩
  have k0 : (w1.setCell ⟨w.heap.size, 0, none⟩ (.int .i64 0)).cell? ⟨w.heap.size, 0, none⟩ = some (.int .i64 0) := World.cell?_setCell_same _ _ _ g0
  simp [Leaves, settle, results, Try.results48, go_sem, k0]
  exact ⟨hu2.out, hbb⟩
theorem limM_none (G : FuncId) (caps : Array Value) (eg : ∀ args w, (callFunc G args).run Try.prog w = .ok (.enter G args) w) (w : World)
    (hG : ∀ W, W.heap.size = w.heap.size + 1 → Below w.heap.size w W → Calls Try.prog G caps W fun r w' => r = tooBig ∧ Below W.heap.size W w') :
    Calls Try.prog 48 #[.func (.func G) #[] caps] w fun r w' => r = .returned (.tuple #[.slice none 0 0, .int .i64 3]) ∧ Below w.heap.size w w' := by
  replace hG := Lib.hid hG
  have hmf : ∀ (fn : Fn) (first cap : Array Value) (w : World), (Instr.makeFunc fn first cap).run Try.prog w = .ok (.func fn first cap) w := fun _ _ _ _ => rfl
  go_enter_defers Try.func48, Try.ntmps48
  go_wp2_with fail
  refine (hG.out _ (by simp) (by (repeat (first | exact Below.refl _ _ | assumption | refine bchain (by assumption) ?_ | refine balloc ?_ _ | apply Below.drew | apply below_drewN | (refine Below.alloc ?_ (by (try simp) <;> omega) _) | (refine Below.setCell ?_ (by (try simp) <;> omega) _))))).mono ?_
  rintro r1 w1 ⟨rfl, hb1⟩
  obtain ⟨hc1, hz1⟩ := bkeep hb1 w.heap.size (by simp)
  have hf1 := bkeepz hb1 w.heap.size (by simp)
  have g0 : w1.cell? ⟨w.heap.size, 0, none⟩ = some (.int .i64 0) := (hc1 0).trans (by simp)
  have z0 : w1.frozen? ⟨w.heap.size, 0, none⟩ = false := (hf1 0).trans (by simp)
  unfold tooBig
  go_wp2
  refine leaves_cons (f := 80) (args := #[.pointer (some ⟨w.heap.size, 0, none⟩)]) (by simp) (by simp [go_sem]) ?_
  refine (catchM_pan w.heap.size _ [] _ hz1 g0 z0).mono ?_
  rintro e u' w'' ⟨rfl, rfl, rfl⟩
  have k0 : ((w1.setCell ⟨w.heap.size, 0, none⟩ (.int .i64 3)).alloc (.cells #[] 110)).cell? ⟨w.heap.size, 0, none⟩ = some (.int .i64 3) :=
    (World.cell?_alloc_old _ _ _ (by simp; omega)).trans (World.cell?_setCell_same _ _ _ g0)
  simp [Leaves, settle, results, Try.results48, go_sem, k0]
  exact (by (repeat (first | exact Below.refl _ _ | assumption | refine bchain (by assumption) ?_ | refine balloc ?_ _ | apply Below.drew | apply below_drewN | (refine Below.alloc ?_ (by (try simp) <;> omega) _) | (refine Below.setCell ?_ (by (try simp) <;> omega) _))))
end Go.Proofs.Ytdibcchhamapjac
