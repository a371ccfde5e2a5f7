/-
  CONTRACTS: the model's difference; what the program does with two fractions and an operation.
-/
import Derived.Test.YtonjmoiognbjbaaFOps
import Derived.Test.YtonjmoiognbjbaaVfr
import Derived.Deep.RegionHeld3
namespace Go.Proofs.Ytonjmoiognbjbaa
open Go.RowKit
set_option maxRecDepth 100000

section
variable (w : World)
theorem sminus_any (a b : Int × Int) (ha : VP a) (hb : VP b) :
    Calls Try.prog 37 #[fv a, fv b] w fun r w' => r = .returned (lv (subF a b)) ∧ Below w.heap.size w w' := by
  have hO := Lib.hid (fun W => sopp_any W b.1 b.2 hb)
  have hA := Lib.hid (fun W => splus_any W a (oppF b) ha (opp_vp hb))
  rw [← sub_opp] at hA
  obtain ⟨R, hR⟩ : ∃ R, subF a b = R := ⟨_, rfl⟩
  rw [hR] at hA ⊢
  clear hR ha hb
  obtain ⟨r1, r2, c, hl⟩ := lv_form R
  rw [hl] at hA ⊢
  clear hl
  obtain ⟨a1, a2⟩ := a
  obtain ⟨b1, b2⟩ := b
  unfold fv oppF at hA
  unfold fv
  dsimp only at *
  go_enter Try.func37, Try.ntmps37
  go_wp2
  go_region_held3 (fun W => W.cell? ⟨w.heap.size, 0, none⟩ = some (.int .i64 a1) ∧ W.cell? ⟨w.heap.size, 1, none⟩ = some (.int .i64 a2) ∧ W.cell? ⟨w.heap.size + 1, 0, none⟩ = some (.int .i64 b1) ∧ W.cell? ⟨w.heap.size + 1, 1, none⟩ = some (.int .i64 b2)
      ∧ w.heap.size < W.heap.size ∧ w.heap.size + 1 < W.heap.size ∧ w.heap.size + 1 + 1 < W.heap.size)
    (first | (go_keep; done) | (simp [*, go_sem]; done) | (simp [*, go_sem]; omega))
    (first | (go_at_call 50; refine (hO.out _).mono ?_; rintro r w1 ⟨rfl, hb1⟩; have hk1 := keepAll hb1; have hf1 := keepFz hb1; have hz1 := keepLt hb1) | (go_at_call 34; refine (hA.out _).mono ?_; rintro r w2 ⟨rfl, hb2⟩; have hk2 := keepAll hb2; have hf2 := keepFz hb2; have hz2 := keepLt hb2))
  have g0 : w2.cell? ⟨w.heap.size + 1 + 1, 0, none⟩ = some (.int .i64 0) := by simp [hk2, hk1, hz1, go_sem]
  have g1 : w2.cell? ⟨w.heap.size + 1 + 1, 1, none⟩ = some (.int .i64 0) := by simp [hk2, hk1, hz1, go_sem]
  have h2 := twoCells g0 g1 (.int .i64 r1) (.int .i64 r2)
  go_wp2
  exact bodyPost_ret (v := .tuple #[.agg #[.int .i64 r1, .int .i64 r2], .int .i64 c]) (by simp [results, Try.results37, go_sem, h2.1, h2.2]) rfl ⟨rfl, by (repeat (first | exact Below.refl _ _ | assumption | refine bchain (by assumption) ?_ | refine balloc ?_ _ | apply Below.drew | apply below_drewN | (refine Below.alloc ?_ (by (try simp) <;> omega) _) | (refine Below.setCell ?_ (by (try simp) <;> omega) _)))⟩

/-- a zero value and a code -/
def cv (c : Int) : Value := .tuple #[.agg #[.int .i64 0, .int .i64 0], .int .i64 c]
theorem qe_form (o : Option (Int × Int)) : (∃ x y : Int, qe o = .returned (.agg #[.int .i64 x, .int .i64 y])) ∨ qe o = tooBig := by
  cases o with
  | none => exact .inr rfl
  | some x => exact .inl ⟨_, _, rfl⟩
/-- the closure that carries an operation out -/
theorem clo_any (OP : FuncId) (eg : ∀ args w, (callFunc OP args).run Try.prog w = .ok (.enter OP args) w) (a b : Int × Int) (o : Option (Int × Int)) (B C D : Nat)
    (hO : w.cell? ⟨B, 0, none⟩ = some (.func (.func OP) #[] #[])) (hC0 : w.cell? ⟨C, 0, none⟩ = some (.int .i64 a.1)) (hC1 : w.cell? ⟨C, 1, none⟩ = some (.int .i64 a.2))
    (hD0 : w.cell? ⟨D, 0, none⟩ = some (.int .i64 b.1)) (hD1 : w.cell? ⟨D, 1, none⟩ = some (.int .i64 b.2))
    (hop : ∀ W, Calls Try.prog OP #[fv a, fv b] W fun r w' => r = qe o ∧ Below W.heap.size W w') :
    Calls Try.prog 49 #[.pointer (some ⟨B, 0, none⟩), .pointer (some ⟨C, 0, none⟩), .pointer (some ⟨D, 0, none⟩)] w fun r w' => r = qe o ∧ Below w.heap.size w w' := by
  obtain ⟨a1, a2⟩ := a
  obtain ⟨b1, b2⟩ := b
  unfold fv at hop
  dsimp only at *
  replace hop := Lib.hid hop
  have e0 := World.block_lt_of_cell? w _ hO
  have e1 := World.block_lt_of_cell? w _ hC0
  have e2 := World.block_lt_of_cell? w _ hD0
  dsimp only at e0 e1 e2
  have l0 : ∀ O, (w.alloc O).cell? ⟨B, 0, none⟩ = some (.func (.func OP) #[] #[]) := fun O => (World.cell?_alloc_lt _ _ _ e0).trans hO
  have l1 : ∀ O, (w.alloc O).cell? ⟨C, 0, none⟩ = some (.int .i64 a1) := fun O => (World.cell?_alloc_lt _ _ _ e1).trans hC0
  have l2 : ∀ O, (w.alloc O).cell? ⟨C, 1, none⟩ = some (.int .i64 a2) := fun O => (World.cell?_alloc_lt _ _ _ e1).trans hC1
  have l3 : ∀ O, (w.alloc O).cell? ⟨D, 0, none⟩ = some (.int .i64 b1) := fun O => (World.cell?_alloc_lt _ _ _ e2).trans hD0
  have l4 : ∀ O, (w.alloc O).cell? ⟨D, 1, none⟩ = some (.int .i64 b2) := fun O => (World.cell?_alloc_lt _ _ _ e2).trans hD1
  clear hO hC0 hC1 hD0 hD1
  go_enter Try.func49, Try.ntmps49
  go_wp2_with fail
  refine (hop.out _).mono ?_
  rintro r1 w1 ⟨rfl, hb1⟩
  rcases qe_form o with ⟨x, y, hq⟩ | hq
  · rw [hq]
    obtain ⟨hk1, hz1⟩ := bkeep hb1 w.heap.size (by simp)
    have hf1 := bkeepz hb1 w.heap.size (by simp)
    have g0 : w1.cell? ⟨w.heap.size, 0, none⟩ = some (.int .i64 0) := (hk1 0).trans (by simp [go_sem])
    have g1 : w1.cell? ⟨w.heap.size, 1, none⟩ = some (.int .i64 0) := (hk1 1).trans (by simp [go_sem])
    have h2 := twoCells g0 g1 (.int .i64 x) (.int .i64 y)
    go_wp2
    exact bodyPost_ret (v := .agg #[.int .i64 x, .int .i64 y]) (by simp [results, Try.results49, go_sem, h2.1, h2.2]) rfl ⟨hq.symm, by (repeat (first | exact Below.refl _ _ | assumption | refine bchain (by assumption) ?_ | refine balloc ?_ _ | apply Below.drew | apply below_drewN | (refine Below.alloc ?_ (by (try simp) <;> omega) _) | (refine Below.setCell ?_ (by (try simp) <;> omega) _)))⟩
  · rw [hq]
    unfold tooBig
    go_wp2
    exact ⟨rfl, hq.symm, by (repeat (first | exact Below.refl _ _ | assumption | refine bchain (by assumption) ?_ | refine balloc ?_ _ | apply Below.drew | apply below_drewN | (refine Below.alloc ?_ (by (try simp) <;> omega) _) | (refine Below.setCell ?_ (by (try simp) <;> omega) _)))⟩

theorem two_bad1 (OP : FuncId) (a b : Int × Int) (ha : ¬ VP a) :
    Calls Try.prog 35 #[fv a, fv b, .func (.func OP) #[] #[]] w fun r w' => r = .returned (cv 1) ∧ Below w.heap.size w w' := by
  have hV := Lib.hid (fun W => vf_any W a.1 a.2)
  rw [decide_eq_false (show ¬ VF a.1 a.2 from ha)] at hV
  obtain ⟨a1, a2⟩ := a
  obtain ⟨b1, b2⟩ := b
  unfold fv cv
  clear ha
  dsimp only at *
  go_enter Try.func35, Try.ntmps35
  go_wp2_with fail
  refine (hV.out _).mono ?_
  rintro r1 w1 ⟨rfl, hb1⟩
  obtain ⟨hc1_0, hz1_0⟩ := bkeep hb1 (w.heap.size) (by (try simp) <;> omega)
  obtain ⟨hc1_1, hz1_1⟩ := bkeep hb1 (w.heap.size + 1) (by (try simp) <;> omega)
  obtain ⟨hc1_2, hz1_2⟩ := bkeep hb1 (w.heap.size + 1 + 1) (by (try simp) <;> omega)
  obtain ⟨hc1_3, hz1_3⟩ := bkeep hb1 (w.heap.size + 1 + 1 + 1) (by (try simp) <;> omega)
  have hf1_3 := bkeepz hb1 (w.heap.size + 1 + 1 + 1) (by (try simp) <;> omega)
  go_wp2
  have g0 : w1.cell? ⟨w.heap.size + 1 + 1 + 1, 0, none⟩ = some (.int .i64 0) := (hc1_3 0).trans (by simp [go_sem])
  have g1 : w1.cell? ⟨w.heap.size + 1 + 1 + 1, 1, none⟩ = some (.int .i64 0) := (hc1_3 1).trans (by simp [go_sem])
  have h2 := twoCells g0 g1 (.int .i64 0) (.int .i64 0)
  exact bodyPost_ret (v := .tuple #[.agg #[.int .i64 0, .int .i64 0], .int .i64 1]) (by simp [results, Try.results35, go_sem, h2.1, h2.2]) rfl ⟨rfl, by (repeat (first | exact Below.refl _ _ | assumption | refine bchain (by assumption) ?_ | refine balloc ?_ _ | apply Below.drew | apply below_drewN | (refine Below.alloc ?_ (by (try simp) <;> omega) _) | (refine Below.setCell ?_ (by (try simp) <;> omega) _)))⟩
theorem two_bad2 (OP : FuncId) (a b : Int × Int) (ha : VP a) (hb : ¬ VP b) :
    Calls Try.prog 35 #[fv a, fv b, .func (.func OP) #[] #[]] w fun r w' => r = .returned (cv 1) ∧ Below w.heap.size w w' := by
  have hV := Lib.hid (fun W => vf_any W a.1 a.2)
  have hW := Lib.hid (fun W => vf_any W b.1 b.2)
  rw [decide_eq_true (show VF a.1 a.2 from ha)] at hV
  rw [decide_eq_false (show ¬ VF b.1 b.2 from hb)] at hW
  obtain ⟨a1, a2⟩ := a
  obtain ⟨b1, b2⟩ := b
  unfold fv cv
  clear ha hb
  dsimp only at *
  go_enter Try.func35, Try.ntmps35
  go_wp2_with fail
  refine (hV.out _).mono ?_
  rintro r1 w1 ⟨rfl, hb1⟩
  obtain ⟨hc1_0, hz1_0⟩ := bkeep hb1 (w.heap.size) (by (try simp) <;> omega)
  obtain ⟨hc1_1, hz1_1⟩ := bkeep hb1 (w.heap.size + 1) (by (try simp) <;> omega)
  obtain ⟨hc1_2, hz1_2⟩ := bkeep hb1 (w.heap.size + 1 + 1) (by (try simp) <;> omega)
  obtain ⟨hc1_3, hz1_3⟩ := bkeep hb1 (w.heap.size + 1 + 1 + 1) (by (try simp) <;> omega)
  have hf1_3 := bkeepz hb1 (w.heap.size + 1 + 1 + 1) (by (try simp) <;> omega)
  go_wp2_with fail
  refine (hW.out _).mono ?_
  rintro r2 w2 ⟨rfl, hb2⟩
  obtain ⟨hc2_0, hz2_0⟩ := bkeep hb2 (w.heap.size) (by (try simp) <;> omega)
  obtain ⟨hc2_1, hz2_1⟩ := bkeep hb2 (w.heap.size + 1) (by (try simp) <;> omega)
  obtain ⟨hc2_2, hz2_2⟩ := bkeep hb2 (w.heap.size + 1 + 1) (by (try simp) <;> omega)
  obtain ⟨hc2_3, hz2_3⟩ := bkeep hb2 (w.heap.size + 1 + 1 + 1) (by (try simp) <;> omega)
  have hf2_3 := bkeepz hb2 (w.heap.size + 1 + 1 + 1) (by (try simp) <;> omega)
  go_wp2
  have g0 : w2.cell? ⟨w.heap.size + 1 + 1 + 1, 0, none⟩ = some (.int .i64 0) := (hc2_3 0).trans ((hc1_3 0).trans (by simp [go_sem]))
  have g1 : w2.cell? ⟨w.heap.size + 1 + 1 + 1, 1, none⟩ = some (.int .i64 0) := (hc2_3 1).trans ((hc1_3 1).trans (by simp [go_sem]))
  have h2 := twoCells g0 g1 (.int .i64 0) (.int .i64 0)
  exact bodyPost_ret (v := .tuple #[.agg #[.int .i64 0, .int .i64 0], .int .i64 1]) (by simp [results, Try.results35, go_sem, h2.1, h2.2]) rfl ⟨rfl, by (repeat (first | exact Below.refl _ _ | assumption | refine bchain (by assumption) ?_ | refine balloc ?_ _ | apply Below.drew | apply below_drewN | (refine Below.alloc ?_ (by (try simp) <;> omega) _) | (refine Below.setCell ?_ (by (try simp) <;> omega) _)))⟩
theorem two_ok (OP : FuncId) (eg : ∀ args w, (callFunc OP args).run Try.prog w = .ok (.enter OP args) w) (a b : Int × Int) (o : Option (Int × Int)) (ha : VP a) (hb : VP b)
    (hop : ∀ W, Calls Try.prog OP #[fv a, fv b] W fun r w' => r = qe o ∧ Below W.heap.size W w') :
    Calls Try.prog 35 #[fv a, fv b, .func (.func OP) #[] #[]] w fun r w' => r = .returned (lv o) ∧ Below w.heap.size w w' := by
  have hV := Lib.hid (fun W => vf_any W a.1 a.2)
  have hW := Lib.hid (fun W => vf_any W b.1 b.2)
  rw [decide_eq_true (show VF a.1 a.2 from ha)] at hV
  rw [decide_eq_true (show VF b.1 b.2 from hb)] at hW
  have hL := Lib.hid (fun W B C D (hO : W.cell? ⟨B, 0, none⟩ = some (.func (.func OP) #[] #[])) (hC0 : W.cell? ⟨C, 0, none⟩ = some (.int .i64 a.1)) (hC1 : W.cell? ⟨C, 1, none⟩ = some (.int .i64 a.2))
    (hD0 : W.cell? ⟨D, 0, none⟩ = some (.int .i64 b.1)) (hD1 : W.cell? ⟨D, 1, none⟩ = some (.int .i64 b.2)) =>
      lim_any 49 #[.pointer (some ⟨B, 0, none⟩), .pointer (some ⟨C, 0, none⟩), .pointer (some ⟨D, 0, none⟩)] (fun _ _ => by kernel_rfl) o W (fun W' hb' =>
        have z0 := World.block_lt_of_cell? W _ hO
        have z1 := World.block_lt_of_cell? W _ hC0
        have z2 := World.block_lt_of_cell? W _ hD0
        clo_any W' OP eg a b o B C D ((hb'.cell z0).trans hO) ((hb'.cell z1).trans hC0) ((hb'.cell (World.block_lt_of_cell? W _ hC1)).trans hC1) ((hb'.cell z2).trans hD0) ((hb'.cell (World.block_lt_of_cell? W _ hD1)).trans hD1) hop))
  have hmf : ∀ (fn : Fn) (first cap : Array Value) (w : World), (Instr.makeFunc fn first cap).run Try.prog w = .ok (.func fn first cap) w := fun _ _ _ _ => rfl
  obtain ⟨r1, r2, c, hl⟩ := lv_form o
  rw [hl] at hL ⊢
  clear hl hop eg ha hb
  obtain ⟨a1, a2⟩ := a
  obtain ⟨b1, b2⟩ := b
  unfold fv
  dsimp only at *
  go_enter Try.func35, Try.ntmps35
  go_wp2_with fail
  refine (hV.out _).mono ?_
  rintro r1 w1 ⟨rfl, hb1⟩
  obtain ⟨hc1_0, hz1_0⟩ := bkeep hb1 (w.heap.size) (by (try simp) <;> omega)
  obtain ⟨hc1_1, hz1_1⟩ := bkeep hb1 (w.heap.size + 1) (by (try simp) <;> omega)
  obtain ⟨hc1_2, hz1_2⟩ := bkeep hb1 (w.heap.size + 1 + 1) (by (try simp) <;> omega)
  obtain ⟨hc1_3, hz1_3⟩ := bkeep hb1 (w.heap.size + 1 + 1 + 1) (by (try simp) <;> omega)
  have hf1_3 := bkeepz hb1 (w.heap.size + 1 + 1 + 1) (by (try simp) <;> omega)
  go_wp2_with fail
  refine (hW.out _).mono ?_
  rintro r2 w2 ⟨rfl, hb2⟩
  obtain ⟨hc2_0, hz2_0⟩ := bkeep hb2 (w.heap.size) (by (try simp) <;> omega)
  obtain ⟨hc2_1, hz2_1⟩ := bkeep hb2 (w.heap.size + 1) (by (try simp) <;> omega)
  obtain ⟨hc2_2, hz2_2⟩ := bkeep hb2 (w.heap.size + 1 + 1) (by (try simp) <;> omega)
  obtain ⟨hc2_3, hz2_3⟩ := bkeep hb2 (w.heap.size + 1 + 1 + 1) (by (try simp) <;> omega)
  have hf2_3 := bkeepz hb2 (w.heap.size + 1 + 1 + 1) (by (try simp) <;> omega)
  go_wp2_with fail
  refine (hL.out _ _ _ _ ((hc2_2 0).trans ((hc1_2 0).trans (by simp [go_sem]))) ((hc2_0 0).trans ((hc1_0 0).trans (by simp [go_sem]))) ((hc2_0 1).trans ((hc1_0 1).trans (by simp [go_sem]))) ((hc2_1 0).trans ((hc1_1 0).trans (by simp [go_sem]))) ((hc2_1 1).trans ((hc1_1 1).trans (by simp [go_sem])))).mono ?_
  rintro r3 w3 ⟨rfl, hb3⟩
  obtain ⟨hc3, hz3⟩ := bkeep hb3 (w.heap.size + 1 + 1 + 1) (by (try simp) <;> omega)
  have hf3 := bkeepz hb3 (w.heap.size + 1 + 1 + 1) (by (try simp) <;> omega)
  have g0 : w3.cell? ⟨w.heap.size + 1 + 1 + 1, 0, none⟩ = some (.int .i64 0) := (hc3 0).trans ((hc2_3 0).trans ((hc1_3 0).trans (by simp [go_sem])))
  have g1 : w3.cell? ⟨w.heap.size + 1 + 1 + 1, 1, none⟩ = some (.int .i64 0) := (hc3 1).trans ((hc2_3 1).trans ((hc1_3 1).trans (by simp [go_sem])))
  have h2 := twoCells g0 g1 (.int .i64 r1) (.int .i64 r2)
  go_wp2
  exact bodyPost_ret (v := .tuple #[.agg #[.int .i64 r1, .int .i64 r2], .int .i64 c]) (by simp [results, Try.results35, go_sem, h2.1, h2.2]) rfl ⟨rfl, by (repeat (first | exact Below.refl _ _ | assumption | refine bchain (by assumption) ?_ | refine balloc ?_ _ | apply Below.drew | apply below_drewN | (refine Below.alloc ?_ (by (try simp) <;> omega) _) | (refine Below.setCell ?_ (by (try simp) <;> omega) _)))⟩
end
end Go.Proofs.Ytonjmoiognbjbaa
