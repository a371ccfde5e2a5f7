/-
  CONTRACTS: DotOf: the program's and the model's.
-/
import Derived.Test.YtonjmoiognbjbabFDotS
namespace Go.Proofs.Ytonjmoiognbjbab
open Go.RowKit
set_option maxRecDepth 100000
section
variable (w : World)
theorem dotClo_any (a a' : Option Addr) (cap cap' : Nat) (xs ys : List (Int × Int)) (B C : Nat) (hB : w.cell? ⟨B, 0, none⟩ = some (.slice a xs.length cap)) (hC : w.cell? ⟨C, 0, none⟩ = some (.slice a' ys.length cap'))
    (hm : xs.length ≤ 1048576) (hl : xs.length = ys.length) (hc : Lies w a xs) (hc' : Lies w a' ys) (hV : AllV xs) (hV' : AllV ys) :
    Calls Try.prog 49 #[.pointer (some ⟨B, 0, none⟩), .pointer (some ⟨C, 0, none⟩)] w fun r w' => r = qe (dotTo xs ys xs.length) ∧ Below w.heap.size w w' := by
  have hQ := Lib.hid (fun W (hW : Lies W a xs) (hW' : Lies W a' ys) => idot_any W a a' cap cap' xs ys hm hl hW hW' hV hV')
  have e0 := World.block_lt_of_cell? w _ hB
  have e1 := World.block_lt_of_cell? w _ hC
  dsimp only at e0 e1
  have l0 : ∀ O, (w.alloc O).cell? ⟨B, 0, none⟩ = some (.slice a xs.length cap) := fun O => (World.cell?_alloc_lt _ _ _ e0).trans hB
  have l1 : ∀ O, (w.alloc O).cell? ⟨C, 0, none⟩ = some (.slice a' ys.length cap') := fun O => (World.cell?_alloc_lt _ _ _ e1).trans hC
  replace hc := Lib.hid hc
  replace hc' := Lib.hid hc'
  clear hB hC hV hV'
  obtain ⟨o, ho⟩ : ∃ o, dotTo xs ys xs.length = o := ⟨_, rfl⟩
  rw [ho] at hQ ⊢
  clear ho
  obtain ⟨l, hl1⟩ : ∃ l, xs.length = l := ⟨_, rfl⟩
  obtain ⟨l', hl2⟩ : ∃ l, ys.length = l := ⟨_, rfl⟩
  rw [hl1] at hQ l0
  rw [hl2] at hQ l1
  clear hl1 hl2 hm hl
  go_enter Try.func49, Try.ntmps49
  go_wp2_with fail
  refine (hQ.out _ (hc.out.below (balloc (Below.refl _ w) _)) (hc'.out.below (balloc (Below.refl _ w) _))).mono ?_
  rintro r1 w1 ⟨rfl, hb1⟩
  rcases qe_form o with ⟨x, y, hq⟩ | hq
  · rw [hq]
    obtain ⟨hk1, hz1⟩ := bkeep hb1 w.heap.size (by simp)
    have hf1 := bkeepz hb1 w.heap.size (by simp)
    have g0 : w1.cell? ⟨w.heap.size, 0, none⟩ = some (.int .i64 0) := (hk1 0).trans (by simp [go_sem])
    have g1 : w1.cell? ⟨w.heap.size, 1, none⟩ = some (.int .i64 0) := (hk1 1).trans (by simp [go_sem])
    have h2 := twoCells g0 g1 (.int .i64 x) (.int .i64 y)
    go_wp2
    exact bodyPost_ret (v := .agg #[.int .i64 x, .int .i64 y]) (by simp [results, Try.results49, go_sem, h2.1, h2.2]) rfl ⟨hq.symm, by (repeat (first | exact Below.refl _ _ | assumption | refine bchain (by assumption) ?_ | refine balloc ?_ _ | apply Below.drew | apply below_drewN | (refine Below.alloc ?_ (by (try simp) <;> omega) _) | (refine Below.setCell ?_ (by (try simp) <;> omega) _)))⟩
  · rw [hq]
    unfold tooBig
    go_wp2
    exact ⟨rfl, hq.symm, by (repeat (first | exact Below.refl _ _ | assumption | refine bchain (by assumption) ?_ | refine balloc ?_ _ | apply Below.drew | apply below_drewN | (refine Below.alloc ?_ (by (try simp) <;> omega) _) | (refine Below.setCell ?_ (by (try simp) <;> omega) _)))⟩

theorem idf_bad1 (v v2 : Value) (xs ys : List (Int × Int)) (hS : SlG w v xs) (hS' : SlG w v2 ys) (hm : xs.length ≤ 1048576) (_hm' : ys.length ≤ 1048576) (hV : ¬ Vl xs) :
    Calls Try.prog 19 #[v, v2] w fun r w' => r = .returned (cv 1) ∧ Below w.heap.size w w' := by
  have hC := Lib.hid (fun W (hW : SlG W v xs) => ivl_f W v xs hW hm hV)
  obtain ⟨a, cap, rfl, hLi⟩ := hS.lies
  obtain ⟨a', cap', rfl, hLi'⟩ := hS'.lies
  replace hS := Lib.hid hS
  replace hS' := Lib.hid hS'
  replace hLi := Lib.hid hLi
  replace hLi' := Lib.hid hLi'
  obtain ⟨l, hl1⟩ : ∃ l, xs.length = l := ⟨_, rfl⟩
  obtain ⟨l', hl2⟩ : ∃ l, ys.length = l := ⟨_, rfl⟩
  rw [hl1] at hC hS ⊢
  rw [hl2] at hS' ⊢
  clear hm _hm' hV hl1 hl2 hLi hLi'
  unfold cv
  go_enter Try.func19, Try.ntmps19
  go_wp2_with fail
  refine (hC.out _ (hS.out.below (by (repeat (first | exact Below.refl _ _ | assumption | refine bchain (by assumption) ?_ | refine balloc ?_ _ | apply Below.drew | apply below_drewN | (refine Below.alloc ?_ (by (try simp) <;> omega) _) | (refine Below.setCell ?_ (by (try simp) <;> omega) _)))))).mono ?_
  rintro r1 w1 ⟨rfl, hb1⟩
  obtain ⟨hc1_0, hz1_0⟩ := bkeep hb1 (w.heap.size) (by (try simp) <;> omega)
  obtain ⟨hc1_1, hz1_1⟩ := bkeep hb1 (w.heap.size + 1) (by (try simp) <;> omega)
  obtain ⟨hc1_2, hz1_2⟩ := bkeep hb1 (w.heap.size + 1 + 1) (by (try simp) <;> omega)
  have hf1_2 := bkeepz hb1 (w.heap.size + 1 + 1) (by (try simp) <;> omega)
  have g0 : w1.cell? ⟨w.heap.size + 1 + 1, 0, none⟩ = some (.int .i64 0) := ((hc1_2 0).trans (by simp [go_sem]))
  have g1 : w1.cell? ⟨w.heap.size + 1 + 1, 1, none⟩ = some (.int .i64 0) := ((hc1_2 1).trans (by simp [go_sem]))
  have h2 := twoCells g0 g1 (.int .i64 0) (.int .i64 0)
  go_wp2
  exact bodyPost_ret (v := .tuple #[.agg #[.int .i64 0, .int .i64 0], .int .i64 1]) (by simp [results, Try.results19, go_sem, h2.1, h2.2]) rfl ⟨rfl, by (repeat (first | exact Below.refl _ _ | assumption | refine bchain (by assumption) ?_ | refine balloc ?_ _ | apply Below.drew | apply below_drewN | (refine Below.alloc ?_ (by (try simp) <;> omega) _) | (refine Below.setCell ?_ (by (try simp) <;> omega) _)))⟩

theorem idf_bad2 (v v2 : Value) (xs ys : List (Int × Int)) (hS : SlG w v xs) (hS' : SlG w v2 ys) (_hm : xs.length ≤ 1048576) (hm' : ys.length ≤ 1048576) (hV : Vl xs) (hV' : ¬ Vl ys) :
    Calls Try.prog 19 #[v, v2] w fun r w' => r = .returned (cv 1) ∧ Below w.heap.size w w' := by
  have hC := Lib.hid (fun W (hW : SlG W v xs) => ivl_t W v xs hW hV)
  have hD := Lib.hid (fun W (hW : SlG W v2 ys) => ivl_f W v2 ys hW hm' hV')
  obtain ⟨a, cap, rfl, hLi⟩ := hS.lies
  obtain ⟨a', cap', rfl, hLi'⟩ := hS'.lies
  replace hS := Lib.hid hS
  replace hS' := Lib.hid hS'
  replace hLi := Lib.hid hLi
  replace hLi' := Lib.hid hLi'
  obtain ⟨l, hl1⟩ : ∃ l, xs.length = l := ⟨_, rfl⟩
  obtain ⟨l', hl2⟩ : ∃ l, ys.length = l := ⟨_, rfl⟩
  rw [hl1] at hC hS ⊢
  rw [hl2] at hS' hD ⊢
  clear _hm hm' hV hV' hl1 hl2 hLi hLi'
  unfold cv
  go_enter Try.func19, Try.ntmps19
  go_wp2_with fail
  refine (hC.out _ (hS.out.below (by (repeat (first | exact Below.refl _ _ | assumption | refine bchain (by assumption) ?_ | refine balloc ?_ _ | apply Below.drew | apply below_drewN | (refine Below.alloc ?_ (by (try simp) <;> omega) _) | (refine Below.setCell ?_ (by (try simp) <;> omega) _)))))).mono ?_
  rintro r1 w1 ⟨rfl, hb1⟩
  obtain ⟨hc1_0, hz1_0⟩ := bkeep hb1 (w.heap.size) (by (try simp) <;> omega)
  obtain ⟨hc1_1, hz1_1⟩ := bkeep hb1 (w.heap.size + 1) (by (try simp) <;> omega)
  obtain ⟨hc1_2, hz1_2⟩ := bkeep hb1 (w.heap.size + 1 + 1) (by (try simp) <;> omega)
  have hf1_2 := bkeepz hb1 (w.heap.size + 1 + 1) (by (try simp) <;> omega)
  go_wp2_with fail
  refine (hD.out _ (hS'.out.below (by (repeat (first | exact Below.refl _ _ | assumption | refine bchain (by assumption) ?_ | refine balloc ?_ _ | apply Below.drew | apply below_drewN | (refine Below.alloc ?_ (by (try simp) <;> omega) _) | (refine Below.setCell ?_ (by (try simp) <;> omega) _)))))).mono ?_
  rintro r2 w2 ⟨rfl, hb2⟩
  obtain ⟨hc2_0, hz2_0⟩ := bkeep hb2 (w.heap.size) (by (try simp) <;> omega)
  obtain ⟨hc2_1, hz2_1⟩ := bkeep hb2 (w.heap.size + 1) (by (try simp) <;> omega)
  obtain ⟨hc2_2, hz2_2⟩ := bkeep hb2 (w.heap.size + 1 + 1) (by (try simp) <;> omega)
  have hf2_2 := bkeepz hb2 (w.heap.size + 1 + 1) (by (try simp) <;> omega)
  have g0 : w2.cell? ⟨w.heap.size + 1 + 1, 0, none⟩ = some (.int .i64 0) := ((hc2_2 0).trans ((hc1_2 0).trans (by simp [go_sem])))
  have g1 : w2.cell? ⟨w.heap.size + 1 + 1, 1, none⟩ = some (.int .i64 0) := ((hc2_2 1).trans ((hc1_2 1).trans (by simp [go_sem])))
  have h2 := twoCells g0 g1 (.int .i64 0) (.int .i64 0)
  go_wp2
  exact bodyPost_ret (v := .tuple #[.agg #[.int .i64 0, .int .i64 0], .int .i64 1]) (by simp [results, Try.results19, go_sem, h2.1, h2.2]) rfl ⟨rfl, by (repeat (first | exact Below.refl _ _ | assumption | refine bchain (by assumption) ?_ | refine balloc ?_ _ | apply Below.drew | apply below_drewN | (refine Below.alloc ?_ (by (try simp) <;> omega) _) | (refine Below.setCell ?_ (by (try simp) <;> omega) _)))⟩

theorem idf_rng (v v2 : Value) (xs ys : List (Int × Int)) (hS : SlG w v xs) (hS' : SlG w v2 ys) (_hm : xs.length ≤ 1048576) (_hm' : ys.length ≤ 1048576) (hV : Vl xs) (hV' : Vl ys) (hne : ¬ xs.length = ys.length) :
    Calls Try.prog 19 #[v, v2] w fun r w' => r = .returned (cv 2) ∧ Below w.heap.size w w' := by
  have hC := Lib.hid (fun W (hW : SlG W v xs) => ivl_t W v xs hW hV)
  have hD := Lib.hid (fun W (hW : SlG W v2 ys) => ivl_t W v2 ys hW hV')
  obtain ⟨a, cap, rfl, hLi⟩ := hS.lies
  obtain ⟨a', cap', rfl, hLi'⟩ := hS'.lies
  replace hS := Lib.hid hS
  replace hS' := Lib.hid hS'
  replace hLi := Lib.hid hLi
  replace hLi' := Lib.hid hLi'
  obtain ⟨l, hl1⟩ : ∃ l, xs.length = l := ⟨_, rfl⟩
  obtain ⟨l', hl2⟩ : ∃ l, ys.length = l := ⟨_, rfl⟩
  rw [hl1] at hC hS hne ⊢
  rw [hl2] at hS' hD hne ⊢
  have hne2 : ((l : Int) != (l' : Int)) = true := by simp; omega
  clear _hm _hm' hV hV' hl1 hl2 hne hLi hLi'
  unfold cv
  go_enter Try.func19, Try.ntmps19
  go_wp2_with fail
  refine (hC.out _ (hS.out.below (by (repeat (first | exact Below.refl _ _ | assumption | refine bchain (by assumption) ?_ | refine balloc ?_ _ | apply Below.drew | apply below_drewN | (refine Below.alloc ?_ (by (try simp) <;> omega) _) | (refine Below.setCell ?_ (by (try simp) <;> omega) _)))))).mono ?_
  rintro r1 w1 ⟨rfl, hb1⟩
  obtain ⟨hc1_0, hz1_0⟩ := bkeep hb1 (w.heap.size) (by (try simp) <;> omega)
  obtain ⟨hc1_1, hz1_1⟩ := bkeep hb1 (w.heap.size + 1) (by (try simp) <;> omega)
  obtain ⟨hc1_2, hz1_2⟩ := bkeep hb1 (w.heap.size + 1 + 1) (by (try simp) <;> omega)
  have hf1_2 := bkeepz hb1 (w.heap.size + 1 + 1) (by (try simp) <;> omega)
  go_wp2_with fail
  refine (hD.out _ (hS'.out.below (by (repeat (first | exact Below.refl _ _ | assumption | refine bchain (by assumption) ?_ | refine balloc ?_ _ | apply Below.drew | apply below_drewN | (refine Below.alloc ?_ (by (try simp) <;> omega) _) | (refine Below.setCell ?_ (by (try simp) <;> omega) _)))))).mono ?_
  rintro r2 w2 ⟨rfl, hb2⟩
  obtain ⟨hc2_0, hz2_0⟩ := bkeep hb2 (w.heap.size) (by (try simp) <;> omega)
  obtain ⟨hc2_1, hz2_1⟩ := bkeep hb2 (w.heap.size + 1) (by (try simp) <;> omega)
  obtain ⟨hc2_2, hz2_2⟩ := bkeep hb2 (w.heap.size + 1 + 1) (by (try simp) <;> omega)
  have hf2_2 := bkeepz hb2 (w.heap.size + 1 + 1) (by (try simp) <;> omega)
  have g0 : w2.cell? ⟨w.heap.size + 1 + 1, 0, none⟩ = some (.int .i64 0) := ((hc2_2 0).trans ((hc1_2 0).trans (by simp [go_sem])))
  have g1 : w2.cell? ⟨w.heap.size + 1 + 1, 1, none⟩ = some (.int .i64 0) := ((hc2_2 1).trans ((hc1_2 1).trans (by simp [go_sem])))
  have h2 := twoCells g0 g1 (.int .i64 0) (.int .i64 0)
  go_wp2
  exact bodyPost_ret (v := .tuple #[.agg #[.int .i64 0, .int .i64 0], .int .i64 2]) (by simp [results, Try.results19, go_sem, h2.1, h2.2]) rfl ⟨rfl, by (repeat (first | exact Below.refl _ _ | assumption | refine bchain (by assumption) ?_ | refine balloc ?_ _ | apply Below.drew | apply below_drewN | (refine Below.alloc ?_ (by (try simp) <;> omega) _) | (refine Below.setCell ?_ (by (try simp) <;> omega) _)))⟩


theorem idf_ok (v v2 : Value) (xs ys : List (Int × Int)) (hS : SlG w v xs) (hS' : SlG w v2 ys) (hm : xs.length ≤ 1048576) (_hm' : ys.length ≤ 1048576) (hV : Vl xs) (hV' : Vl ys) (hl : xs.length = ys.length) :
    Calls Try.prog 19 #[v, v2] w fun r w' => r = .returned (lv (dotTo xs ys xs.length)) ∧ Below w.heap.size w w' := by
  have hC := Lib.hid (fun W (hW : SlG W v xs) => ivl_t W v xs hW hV)
  have hD := Lib.hid (fun W (hW : SlG W v2 ys) => ivl_t W v2 ys hW hV')
  obtain ⟨a, cap, rfl, hLi⟩ := hS.lies
  obtain ⟨a', cap', rfl, hLi'⟩ := hS'.lies
  replace hS := Lib.hid hS
  replace hS' := Lib.hid hS'
  replace hLi := Lib.hid hLi
  replace hLi' := Lib.hid hLi'
  have hL := Lib.hid (fun W B C (hO : W.cell? ⟨B, 0, none⟩ = some (.slice a xs.length cap)) (hO' : W.cell? ⟨C, 0, none⟩ = some (.slice a' ys.length cap')) (hW : Lies W a xs) (hW' : Lies W a' ys) =>
      lim_any 49 #[.pointer (some ⟨B, 0, none⟩), .pointer (some ⟨C, 0, none⟩)] (fun _ _ => by kernel_rfl) (dotTo xs ys xs.length) W (fun W' hb' =>
        dotClo_any W' a a' cap cap' xs ys B C ((hb'.cell (World.block_lt_of_cell? W _ hO)).trans hO) ((hb'.cell (World.block_lt_of_cell? W _ hO')).trans hO') hm hl (hW.below hb') (hW'.below hb') hV.2 hV'.2))
  have hmf : ∀ (fn : Fn) (first cap : Array Value) (w : World), (Instr.makeFunc fn first cap).run Try.prog w = .ok (.func fn first cap) w := fun _ _ _ _ => rfl
  obtain ⟨r1, r2, c, hlv⟩ := lv_form (dotTo xs ys xs.length)
  rw [hlv] at hL ⊢
  clear hlv hm _hm' hV hV'
  rw [← hl] at hS' hD hL ⊢
  clear hl
  obtain ⟨l, hl1⟩ : ∃ l, xs.length = l := ⟨_, rfl⟩
  rw [hl1] at hC hD hS hS' hL ⊢
  clear hl1
  go_enter Try.func19, Try.ntmps19
  go_wp2_with fail
  refine (hC.out _ (hS.out.below (by (repeat (first | exact Below.refl _ _ | assumption | refine bchain (by assumption) ?_ | refine balloc ?_ _ | apply Below.drew | apply below_drewN | (refine Below.alloc ?_ (by (try simp) <;> omega) _) | (refine Below.setCell ?_ (by (try simp) <;> omega) _)))))).mono ?_
  rintro r1 w1 ⟨rfl, hb1⟩
  obtain ⟨hc1_0, hz1_0⟩ := bkeep hb1 (w.heap.size) (by (try simp) <;> omega)
  obtain ⟨hc1_1, hz1_1⟩ := bkeep hb1 (w.heap.size + 1) (by (try simp) <;> omega)
  obtain ⟨hc1_2, hz1_2⟩ := bkeep hb1 (w.heap.size + 1 + 1) (by (try simp) <;> omega)
  have hf1_2 := bkeepz hb1 (w.heap.size + 1 + 1) (by (try simp) <;> omega)
  go_wp2_with fail
  refine (hD.out _ (hS'.out.below (by (repeat (first | exact Below.refl _ _ | assumption | refine bchain (by assumption) ?_ | refine balloc ?_ _ | apply Below.drew | apply below_drewN | (refine Below.alloc ?_ (by (try simp) <;> omega) _) | (refine Below.setCell ?_ (by (try simp) <;> omega) _)))))).mono ?_
  rintro r2 w2 ⟨rfl, hb2⟩
  obtain ⟨hc2_0, hz2_0⟩ := bkeep hb2 (w.heap.size) (by (try simp) <;> omega)
  obtain ⟨hc2_1, hz2_1⟩ := bkeep hb2 (w.heap.size + 1) (by (try simp) <;> omega)
  obtain ⟨hc2_2, hz2_2⟩ := bkeep hb2 (w.heap.size + 1 + 1) (by (try simp) <;> omega)
  have hf2_2 := bkeepz hb2 (w.heap.size + 1 + 1) (by (try simp) <;> omega)
  go_wp2_with fail
  refine (hL.out _ _ _ ((hc2_0 0).trans ((hc1_0 0).trans (by simp [go_sem]))) ((hc2_1 0).trans ((hc1_1 0).trans (by simp [go_sem]))) (hLi.out.below (by (repeat (first | exact Below.refl _ _ | assumption | refine bchain (by assumption) ?_ | refine balloc ?_ _ | apply Below.drew | apply below_drewN | (refine Below.alloc ?_ (by (try simp) <;> omega) _) | (refine Below.setCell ?_ (by (try simp) <;> omega) _))))) (hLi'.out.below (by (repeat (first | exact Below.refl _ _ | assumption | refine bchain (by assumption) ?_ | refine balloc ?_ _ | apply Below.drew | apply below_drewN | (refine Below.alloc ?_ (by (try simp) <;> omega) _) | (refine Below.setCell ?_ (by (try simp) <;> omega) _)))))).mono ?_
  rintro r3 w3 ⟨rfl, hb3⟩
  obtain ⟨hc3_2, hz3_2⟩ := bkeep hb3 (w.heap.size + 1 + 1) (by (try simp) <;> omega)
  have hf3_2 := bkeepz hb3 (w.heap.size + 1 + 1) (by (try simp) <;> omega)
  have g0 : w3.cell? ⟨w.heap.size + 1 + 1, 0, none⟩ = some (.int .i64 0) := ((hc3_2 0).trans ((hc2_2 0).trans ((hc1_2 0).trans (by simp [go_sem]))))
  have g1 : w3.cell? ⟨w.heap.size + 1 + 1, 1, none⟩ = some (.int .i64 0) := ((hc3_2 1).trans ((hc2_2 1).trans ((hc1_2 1).trans (by simp [go_sem]))))
  have h2 := twoCells g0 g1 (.int .i64 r1) (.int .i64 r2)
  go_wp2
  exact bodyPost_ret (v := .tuple #[.agg #[.int .i64 r1, .int .i64 r2], .int .i64 c]) (by simp [results, Try.results19, go_sem, h2.1, h2.2]) rfl ⟨rfl, by (repeat (first | exact Below.refl _ _ | assumption | refine bchain (by assumption) ?_ | refine balloc ?_ _ | apply Below.drew | apply below_drewN | (refine Below.alloc ?_ (by (try simp) <;> omega) _) | (refine Below.setCell ?_ (by (try simp) <;> omega) _)))⟩

theorem sdf_bad1 (v v2 : Value) (xs ys : List (Int × Int)) (hS : SlG w v xs) (hS' : SlG w v2 ys) (hm : xs.length ≤ 1048576) (_hm' : ys.length ≤ 1048576) (hV : ¬ Vl xs) :
    Calls Try.prog 18 #[v, v2] w fun r w' => r = .returned (cv 1) ∧ Below w.heap.size w w' := by
  have hC := Lib.hid (fun W (hW : SlG W v xs) => svl_f W v xs hW hm hV)
  obtain ⟨a, cap, rfl, hLi⟩ := hS.lies
  obtain ⟨a', cap', rfl, hLi'⟩ := hS'.lies
  replace hS := Lib.hid hS
  replace hS' := Lib.hid hS'
  replace hLi := Lib.hid hLi
  replace hLi' := Lib.hid hLi'
  obtain ⟨l, hl1⟩ : ∃ l, xs.length = l := ⟨_, rfl⟩
  obtain ⟨l', hl2⟩ : ∃ l, ys.length = l := ⟨_, rfl⟩
  rw [hl1] at hC hS ⊢
  rw [hl2] at hS' ⊢
  clear hm _hm' hV hl1 hl2 hLi hLi'
  unfold cv
  go_enter Try.func18, Try.ntmps18
  go_wp2_with fail
  refine (hC.out _ (hS.out.below (by (repeat (first | exact Below.refl _ _ | assumption | refine bchain (by assumption) ?_ | refine balloc ?_ _ | apply Below.drew | apply below_drewN | (refine Below.alloc ?_ (by (try simp) <;> omega) _) | (refine Below.setCell ?_ (by (try simp) <;> omega) _)))))).mono ?_
  rintro r1 w1 ⟨rfl, hb1⟩
  obtain ⟨hc1_0, hz1_0⟩ := bkeep hb1 (w.heap.size) (by (try simp) <;> omega)
  have hf1_0 := bkeepz hb1 (w.heap.size) (by (try simp) <;> omega)
  have g0 : w1.cell? ⟨w.heap.size, 0, none⟩ = some (.int .i64 0) := ((hc1_0 0).trans (by simp [go_sem]))
  have g1 : w1.cell? ⟨w.heap.size, 1, none⟩ = some (.int .i64 0) := ((hc1_0 1).trans (by simp [go_sem]))
  have h2 := twoCells g0 g1 (.int .i64 0) (.int .i64 0)
  go_wp2
  exact bodyPost_ret (v := .tuple #[.agg #[.int .i64 0, .int .i64 0], .int .i64 1]) (by simp [results, Try.results18, go_sem, h2.1, h2.2]) rfl ⟨rfl, by (repeat (first | exact Below.refl _ _ | assumption | refine bchain (by assumption) ?_ | refine balloc ?_ _ | apply Below.drew | apply below_drewN | (refine Below.alloc ?_ (by (try simp) <;> omega) _) | (refine Below.setCell ?_ (by (try simp) <;> omega) _)))⟩

theorem sdf_bad2 (v v2 : Value) (xs ys : List (Int × Int)) (hS : SlG w v xs) (hS' : SlG w v2 ys) (_hm : xs.length ≤ 1048576) (hm' : ys.length ≤ 1048576) (hV : Vl xs) (hV' : ¬ Vl ys) :
    Calls Try.prog 18 #[v, v2] w fun r w' => r = .returned (cv 1) ∧ Below w.heap.size w w' := by
  have hC := Lib.hid (fun W (hW : SlG W v xs) => svl_t W v xs hW hV)
  have hD := Lib.hid (fun W (hW : SlG W v2 ys) => svl_f W v2 ys hW hm' hV')
  obtain ⟨a, cap, rfl, hLi⟩ := hS.lies
  obtain ⟨a', cap', rfl, hLi'⟩ := hS'.lies
  replace hS := Lib.hid hS
  replace hS' := Lib.hid hS'
  replace hLi := Lib.hid hLi
  replace hLi' := Lib.hid hLi'
  obtain ⟨l, hl1⟩ : ∃ l, xs.length = l := ⟨_, rfl⟩
  obtain ⟨l', hl2⟩ : ∃ l, ys.length = l := ⟨_, rfl⟩
  rw [hl1] at hC hS ⊢
  rw [hl2] at hS' hD ⊢
  clear _hm hm' hV hV' hl1 hl2 hLi hLi'
  unfold cv
  go_enter Try.func18, Try.ntmps18
  go_wp2_with fail
  refine (hC.out _ (hS.out.below (by (repeat (first | exact Below.refl _ _ | assumption | refine bchain (by assumption) ?_ | refine balloc ?_ _ | apply Below.drew | apply below_drewN | (refine Below.alloc ?_ (by (try simp) <;> omega) _) | (refine Below.setCell ?_ (by (try simp) <;> omega) _)))))).mono ?_
  rintro r1 w1 ⟨rfl, hb1⟩
  obtain ⟨hc1_0, hz1_0⟩ := bkeep hb1 (w.heap.size) (by (try simp) <;> omega)
  have hf1_0 := bkeepz hb1 (w.heap.size) (by (try simp) <;> omega)
  go_wp2_with fail
  refine (hD.out _ (hS'.out.below (by (repeat (first | exact Below.refl _ _ | assumption | refine bchain (by assumption) ?_ | refine balloc ?_ _ | apply Below.drew | apply below_drewN | (refine Below.alloc ?_ (by (try simp) <;> omega) _) | (refine Below.setCell ?_ (by (try simp) <;> omega) _)))))).mono ?_
  rintro r2 w2 ⟨rfl, hb2⟩
  obtain ⟨hc2_0, hz2_0⟩ := bkeep hb2 (w.heap.size) (by (try simp) <;> omega)
  have hf2_0 := bkeepz hb2 (w.heap.size) (by (try simp) <;> omega)
  have g0 : w2.cell? ⟨w.heap.size, 0, none⟩ = some (.int .i64 0) := ((hc2_0 0).trans ((hc1_0 0).trans (by simp [go_sem])))
  have g1 : w2.cell? ⟨w.heap.size, 1, none⟩ = some (.int .i64 0) := ((hc2_0 1).trans ((hc1_0 1).trans (by simp [go_sem])))
  have h2 := twoCells g0 g1 (.int .i64 0) (.int .i64 0)
  go_wp2
  exact bodyPost_ret (v := .tuple #[.agg #[.int .i64 0, .int .i64 0], .int .i64 1]) (by simp [results, Try.results18, go_sem, h2.1, h2.2]) rfl ⟨rfl, by (repeat (first | exact Below.refl _ _ | assumption | refine bchain (by assumption) ?_ | refine balloc ?_ _ | apply Below.drew | apply below_drewN | (refine Below.alloc ?_ (by (try simp) <;> omega) _) | (refine Below.setCell ?_ (by (try simp) <;> omega) _)))⟩

theorem sdf_rng (v v2 : Value) (xs ys : List (Int × Int)) (hS : SlG w v xs) (hS' : SlG w v2 ys) (_hm : xs.length ≤ 1048576) (_hm' : ys.length ≤ 1048576) (hV : Vl xs) (hV' : Vl ys) (hne : ¬ xs.length = ys.length) :
    Calls Try.prog 18 #[v, v2] w fun r w' => r = .returned (cv 2) ∧ Below w.heap.size w w' := by
  have hC := Lib.hid (fun W (hW : SlG W v xs) => svl_t W v xs hW hV)
  have hD := Lib.hid (fun W (hW : SlG W v2 ys) => svl_t W v2 ys hW hV')
  obtain ⟨a, cap, rfl, hLi⟩ := hS.lies
  obtain ⟨a', cap', rfl, hLi'⟩ := hS'.lies
  replace hS := Lib.hid hS
  replace hS' := Lib.hid hS'
  replace hLi := Lib.hid hLi
  replace hLi' := Lib.hid hLi'
  obtain ⟨l, hl1⟩ : ∃ l, xs.length = l := ⟨_, rfl⟩
  obtain ⟨l', hl2⟩ : ∃ l, ys.length = l := ⟨_, rfl⟩
  rw [hl1] at hC hS hne ⊢
  rw [hl2] at hS' hD hne ⊢
  have hne2 : ((l : Int) != (l' : Int)) = true := by simp; omega
  clear _hm _hm' hV hV' hl1 hl2 hne hLi hLi'
  unfold cv
  go_enter Try.func18, Try.ntmps18
  go_wp2_with fail
  refine (hC.out _ (hS.out.below (by (repeat (first | exact Below.refl _ _ | assumption | refine bchain (by assumption) ?_ | refine balloc ?_ _ | apply Below.drew | apply below_drewN | (refine Below.alloc ?_ (by (try simp) <;> omega) _) | (refine Below.setCell ?_ (by (try simp) <;> omega) _)))))).mono ?_
  rintro r1 w1 ⟨rfl, hb1⟩
  obtain ⟨hc1_0, hz1_0⟩ := bkeep hb1 (w.heap.size) (by (try simp) <;> omega)
  have hf1_0 := bkeepz hb1 (w.heap.size) (by (try simp) <;> omega)
  go_wp2_with fail
  refine (hD.out _ (hS'.out.below (by (repeat (first | exact Below.refl _ _ | assumption | refine bchain (by assumption) ?_ | refine balloc ?_ _ | apply Below.drew | apply below_drewN | (refine Below.alloc ?_ (by (try simp) <;> omega) _) | (refine Below.setCell ?_ (by (try simp) <;> omega) _)))))).mono ?_
  rintro r2 w2 ⟨rfl, hb2⟩
  obtain ⟨hc2_0, hz2_0⟩ := bkeep hb2 (w.heap.size) (by (try simp) <;> omega)
  have hf2_0 := bkeepz hb2 (w.heap.size) (by (try simp) <;> omega)
  have g0 : w2.cell? ⟨w.heap.size, 0, none⟩ = some (.int .i64 0) := ((hc2_0 0).trans ((hc1_0 0).trans (by simp [go_sem])))
  have g1 : w2.cell? ⟨w.heap.size, 1, none⟩ = some (.int .i64 0) := ((hc2_0 1).trans ((hc1_0 1).trans (by simp [go_sem])))
  have h2 := twoCells g0 g1 (.int .i64 0) (.int .i64 0)
  go_wp2
  exact bodyPost_ret (v := .tuple #[.agg #[.int .i64 0, .int .i64 0], .int .i64 2]) (by simp [results, Try.results18, go_sem, h2.1, h2.2]) rfl ⟨rfl, by (repeat (first | exact Below.refl _ _ | assumption | refine bchain (by assumption) ?_ | refine balloc ?_ _ | apply Below.drew | apply below_drewN | (refine Below.alloc ?_ (by (try simp) <;> omega) _) | (refine Below.setCell ?_ (by (try simp) <;> omega) _)))⟩


theorem sdf_ok (v v2 : Value) (xs ys : List (Int × Int)) (hS : SlG w v xs) (hS' : SlG w v2 ys) (hm : xs.length ≤ 1048576) (_hm' : ys.length ≤ 1048576) (hV : Vl xs) (hV' : Vl ys) (hl : xs.length = ys.length) :
    Calls Try.prog 18 #[v, v2] w fun r w' => r = .returned (lv (dotTo xs ys xs.length)) ∧ Below w.heap.size w w' := by
  have hC := Lib.hid (fun W (hW : SlG W v xs) => svl_t W v xs hW hV)
  have hD := Lib.hid (fun W (hW : SlG W v2 ys) => svl_t W v2 ys hW hV')
  obtain ⟨a, cap, rfl, hLi⟩ := hS.lies
  obtain ⟨a', cap', rfl, hLi'⟩ := hS'.lies
  replace hS := Lib.hid hS
  replace hS' := Lib.hid hS'
  replace hLi := Lib.hid hLi
  replace hLi' := Lib.hid hLi'
  have hL := Lib.hid (fun W (hW : Lies W a xs) (hW' : Lies W a' ys) => sdot_any W a a' cap cap' xs ys hm hl hW hW' hV.2 hV'.2)
  obtain ⟨r1, r2, c, hlv⟩ := lv_form (dotTo xs ys xs.length)
  rw [hlv] at hL ⊢
  clear hlv hm _hm' hV hV'
  rw [← hl] at hS' hD hL ⊢
  clear hl
  obtain ⟨l, hl1⟩ : ∃ l, xs.length = l := ⟨_, rfl⟩
  rw [hl1] at hC hD hS hS' hL ⊢
  clear hl1
  go_enter Try.func18, Try.ntmps18
  go_wp2_with fail
  refine (hC.out _ (hS.out.below (by (repeat (first | exact Below.refl _ _ | assumption | refine bchain (by assumption) ?_ | refine balloc ?_ _ | apply Below.drew | apply below_drewN | (refine Below.alloc ?_ (by (try simp) <;> omega) _) | (refine Below.setCell ?_ (by (try simp) <;> omega) _)))))).mono ?_
  rintro r1 w1 ⟨rfl, hb1⟩
  obtain ⟨hc1_0, hz1_0⟩ := bkeep hb1 (w.heap.size) (by (try simp) <;> omega)
  have hf1_0 := bkeepz hb1 (w.heap.size) (by (try simp) <;> omega)
  go_wp2_with fail
  refine (hD.out _ (hS'.out.below (by (repeat (first | exact Below.refl _ _ | assumption | refine bchain (by assumption) ?_ | refine balloc ?_ _ | apply Below.drew | apply below_drewN | (refine Below.alloc ?_ (by (try simp) <;> omega) _) | (refine Below.setCell ?_ (by (try simp) <;> omega) _)))))).mono ?_
  rintro r2 w2 ⟨rfl, hb2⟩
  obtain ⟨hc2_0, hz2_0⟩ := bkeep hb2 (w.heap.size) (by (try simp) <;> omega)
  have hf2_0 := bkeepz hb2 (w.heap.size) (by (try simp) <;> omega)
  go_wp2_with fail
  refine (hL.out _ (hLi.out.below (by (repeat (first | exact Below.refl _ _ | assumption | refine bchain (by assumption) ?_ | refine balloc ?_ _ | apply Below.drew | apply below_drewN | (refine Below.alloc ?_ (by (try simp) <;> omega) _) | (refine Below.setCell ?_ (by (try simp) <;> omega) _))))) (hLi'.out.below (by (repeat (first | exact Below.refl _ _ | assumption | refine bchain (by assumption) ?_ | refine balloc ?_ _ | apply Below.drew | apply below_drewN | (refine Below.alloc ?_ (by (try simp) <;> omega) _) | (refine Below.setCell ?_ (by (try simp) <;> omega) _)))))).mono ?_
  rintro r3 w3 ⟨rfl, hb3⟩
  obtain ⟨hc3_0, hz3_0⟩ := bkeep hb3 (w.heap.size) (by (try simp) <;> omega)
  have hf3_0 := bkeepz hb3 (w.heap.size) (by (try simp) <;> omega)
  have g0 : w3.cell? ⟨w.heap.size, 0, none⟩ = some (.int .i64 0) := ((hc3_0 0).trans ((hc2_0 0).trans ((hc1_0 0).trans (by simp [go_sem]))))
  have g1 : w3.cell? ⟨w.heap.size, 1, none⟩ = some (.int .i64 0) := ((hc3_0 1).trans ((hc2_0 1).trans ((hc1_0 1).trans (by simp [go_sem]))))
  have h2 := twoCells g0 g1 (.int .i64 r1) (.int .i64 r2)
  go_wp2
  exact bodyPost_ret (v := .tuple #[.agg #[.int .i64 r1, .int .i64 r2], .int .i64 c]) (by simp [results, Try.results18, go_sem, h2.1, h2.2]) rfl ⟨rfl, by (repeat (first | exact Below.refl _ _ | assumption | refine bchain (by assumption) ?_ | refine balloc ?_ _ | apply Below.drew | apply below_drewN | (refine Below.alloc ?_ (by (try simp) <;> omega) _) | (refine Below.setCell ?_ (by (try simp) <;> omega) _)))⟩
end
theorem dot_both (xs ys : List (Int × Int)) (hm : xs.length ≤ 1048576) (hm' : ys.length ≤ 1048576) : ∃ (x y c : Int),
    (∀ W v v2, SlG W v xs → SlG W v2 ys → Calls Try.prog 18 #[v, v2] W fun r w' => r = .returned (.tuple #[.agg #[.int .i64 x, .int .i64 y], .int .i64 c]) ∧ Below W.heap.size W w') ∧
    (∀ W v v2, SlG W v xs → SlG W v2 ys → Calls Try.prog 19 #[v, v2] W fun r w' => r = .returned (.tuple #[.agg #[.int .i64 x, .int .i64 y], .int .i64 c]) ∧ Below W.heap.size W w') := by
  by_cases hV : Vl xs
  · by_cases hV' : Vl ys
    · by_cases hl : xs.length = ys.length
      · have h1 := fun W v v2 (h : SlG W v xs) (h' : SlG W v2 ys) => sdf_ok W v v2 xs ys h h' hm hm' hV hV' hl
        have h2 := fun W v v2 (h : SlG W v xs) (h' : SlG W v2 ys) => idf_ok W v v2 xs ys h h' hm hm' hV hV' hl
        obtain ⟨r1, r2, c, hlv⟩ := lv_form (dotTo xs ys xs.length)
        rw [hlv] at h1 h2
        exact ⟨r1, r2, c, h1, h2⟩
      · exact ⟨0, 0, 2, fun W v v2 h h' => sdf_rng W v v2 xs ys h h' hm hm' hV hV' hl, fun W v v2 h h' => idf_rng W v v2 xs ys h h' hm hm' hV hV' hl⟩
    · exact ⟨0, 0, 1, fun W v v2 h h' => sdf_bad2 W v v2 xs ys h h' hm hm' hV hV', fun W v v2 h h' => idf_bad2 W v v2 xs ys h h' hm hm' hV hV'⟩
  · exact ⟨0, 0, 1, fun W v v2 h h' => sdf_bad1 W v v2 xs ys h h' hm hm' hV, fun W v v2 h h' => idf_bad1 W v v2 xs ys h h' hm hm' hV⟩
end Go.Proofs.Ytonjmoiognbjbab
