/-
  CONTRACTS: FormOf: the program's and the model's.
-/
import Derived.Test.YtonjmoiognbjbabFFormS
import Derived.Test.YtonjmoiognbjbabFVmS
namespace Go.Proofs.Ytonjmoiognbjbab
open Go.RowKit
set_option maxRecDepth 100000
theorem Rows.below {w w' : World} {a : Option Addr} {m : List (List (Int × Int))} (h : Rows w a m) (hb : Below w.heap.size w w') : Rows w' a m := fun i hi => by
  obtain ⟨b, off, e, hlt, hc⟩ := h i hi
  exact ⟨b, off, e, Nat.lt_of_lt_of_le hlt hb.size, hc.below hb⟩
section
variable (w : World)
theorem formClo_any (a a' : Option Addr) (cap cap' : Nat) (m : List (List (Int × Int))) (xs : List (Int × Int)) (B C : Nat) (hB : w.cell? ⟨B, 0, none⟩ = some (.slice a m.length cap)) (hC : w.cell? ⟨C, 0, none⟩ = some (.slice a' xs.length cap'))
    (hF : Fit m xs) (hc : Rows w a m) (hc' : Lies w a' xs) :
    Calls Try.prog 73 #[.pointer (some ⟨B, 0, none⟩), .pointer (some ⟨C, 0, none⟩)] w fun r w' => r = qe (formTo m xs m.length) ∧ Below w.heap.size w w' := by
  have hQ := Lib.hid (fun W (hW : Rows W a m) (hW' : Lies W a' xs) => iform_any W a a' cap cap' m xs hF hW hW')
  have e0 := World.block_lt_of_cell? w _ hB
  have e1 := World.block_lt_of_cell? w _ hC
  dsimp only at e0 e1
  have l0 : ∀ O, (w.alloc O).cell? ⟨B, 0, none⟩ = some (.slice a m.length cap) := fun O => (World.cell?_alloc_lt _ _ _ e0).trans hB
  have l1 : ∀ O, (w.alloc O).cell? ⟨C, 0, none⟩ = some (.slice a' xs.length cap') := fun O => (World.cell?_alloc_lt _ _ _ e1).trans hC
  replace hc := Lib.hid hc
  replace hc' := Lib.hid hc'
  clear hB hC hF
  obtain ⟨o, ho⟩ : ∃ o, formTo m xs m.length = o := ⟨_, rfl⟩
  rw [ho] at hQ ⊢
  clear ho
  obtain ⟨l, hl1⟩ : ∃ l, m.length = l := ⟨_, rfl⟩
  obtain ⟨l', hl2⟩ : ∃ l, xs.length = l := ⟨_, rfl⟩
  rw [hl1] at hQ l0
  rw [hl2] at hQ l1
  clear hl1 hl2
  go_enter Try.func73, Try.ntmps73
  go_wp2_with fail
  refine (hQ.out _ (hc.out.below (balloc (Below.refl _ w) _)) (hc'.out.below (balloc (Below.refl _ w) _))).mono ?_
  rintro r1 w1 ⟨rfl, hb1⟩
  rcases qe_form o with ⟨x, y, hq⟩ | hq
  · rw [hq]
    obtain ⟨hk1, hz1⟩ := bkeep hb1 w.heap.size (by simp)
    have hf1 := bkeepz hb1 w.heap.size (by simp)
    have g0 : w1.cell? ⟨w.heap.size, 0, none⟩ = some (.int .i64 0) := (hk1 0).trans (by simp [go_sem])
    have g1 : w1.cell? ⟨w.heap.size, 1, none⟩ = some (.int .i64 0) := (hk1 1).trans (by simp [go_sem])
    have h2 := twoCells g0 g1 (.int .i64 x) (.int .i64 y)
    go_wp2
    exact bodyPost_ret (v := .agg #[.int .i64 x, .int .i64 y]) (by simp [results, Try.results73, go_sem, h2.1, h2.2]) rfl ⟨hq.symm, by (repeat (first | exact Below.refl _ _ | assumption | refine bchain (by assumption) ?_ | refine balloc ?_ _ | apply Below.drew | apply below_drewN | (refine Below.alloc ?_ (by (try simp) <;> omega) _) | (refine Below.setCell ?_ (by (try simp) <;> omega) _)))⟩
  · rw [hq]
    unfold tooBig
    go_wp2
    exact ⟨rfl, hq.symm, by (repeat (first | exact Below.refl _ _ | assumption | refine bchain (by assumption) ?_ | refine balloc ?_ _ | apply Below.drew | apply below_drewN | (refine Below.alloc ?_ (by (try simp) <;> omega) _) | (refine Below.setCell ?_ (by (try simp) <;> omega) _)))⟩

theorem iff_bad1 (v v2 : Value) (m : List (List (Int × Int))) (xs : List (Int × Int)) (hS : SlM w v m) (hS' : SlG w v2 xs) (hm : m.length ≤ 1048576) (hr : ∀ i, i < m.length → (rAt m i).length ≤ 1048576) (hV : ¬ VM m) :
    Calls Try.prog 40 #[v, v2] w fun r w' => r = .returned (cv 1) ∧ Below w.heap.size w w' := by
  have hC := Lib.hid (fun W (hW : SlM W v m) => ivm_any W v m hW hm hr false (fun c => absurd c hV) (fun _ => rfl))
  obtain ⟨a, cap, rfl, hLi⟩ := hS.rows
  obtain ⟨a', cap', rfl, hLi'⟩ := hS'.lies
  replace hS := Lib.hid hS
  replace hS' := Lib.hid hS'
  replace hLi := Lib.hid hLi
  replace hLi' := Lib.hid hLi'
  obtain ⟨l, hl1⟩ : ∃ l, m.length = l := ⟨_, rfl⟩
  obtain ⟨l', hl2⟩ : ∃ l, xs.length = l := ⟨_, rfl⟩
  rw [hl1] at hC hS ⊢
  rw [hl2] at hS' ⊢
  clear hm hr hV hl1 hl2 hLi hLi'
  unfold cv
  go_enter Try.func40, Try.ntmps40
  go_wp2_with fail
  refine (hC.out _ (hS.out.below (by (repeat (first | exact Below.refl _ _ | assumption | refine bchain (by assumption) ?_ | refine balloc ?_ _ | apply Below.drew | apply below_drewN | (refine Below.alloc ?_ (by (try simp) <;> omega) _) | (refine Below.setCell ?_ (by (try simp) <;> omega) _)))))).mono ?_
  rintro r1 w1 ⟨rfl, hb1⟩
  obtain ⟨hc1_0, hz1_0⟩ := bkeep hb1 (w.heap.size) (by (try simp) <;> omega)
  obtain ⟨hc1_1, hz1_1⟩ := bkeep hb1 (w.heap.size + 1) (by (try simp) <;> omega)
  obtain ⟨hc1_2, hz1_2⟩ := bkeep hb1 (w.heap.size + 1 + 1) (by (try simp) <;> omega)
  have hf1_2 := bkeepz hb1 (w.heap.size + 1 + 1) (by (try simp) <;> omega)
  have g0 : w1.cell? ⟨w.heap.size + 1 + 1, 0, none⟩ = some (.int .i64 0) := ((hc1_2 0).trans (by simp [go_sem]))
  have g1 : w1.cell? ⟨w.heap.size + 1 + 1, 1, none⟩ = some (.int .i64 0) := ((hc1_2 1).trans (by simp [go_sem]))
  have h2 := twoCells g0 g1 (.int .i64 0) (.int .i64 0)
  go_wp2
  exact bodyPost_ret (v := .tuple #[.agg #[.int .i64 0, .int .i64 0], .int .i64 1]) (by simp [results, Try.results40, go_sem, h2.1, h2.2]) rfl ⟨rfl, by (repeat (first | exact Below.refl _ _ | assumption | refine bchain (by assumption) ?_ | refine balloc ?_ _ | apply Below.drew | apply below_drewN | (refine Below.alloc ?_ (by (try simp) <;> omega) _) | (refine Below.setCell ?_ (by (try simp) <;> omega) _)))⟩

theorem iff_bad2 (v v2 : Value) (m : List (List (Int × Int))) (xs : List (Int × Int)) (hS : SlM w v m) (hS' : SlG w v2 xs) (hm : m.length ≤ 1048576) (hr : ∀ i, i < m.length → (rAt m i).length ≤ 1048576) (hm' : xs.length ≤ 1048576) (hV : VM m) (hV' : ¬ Vl xs) :
    Calls Try.prog 40 #[v, v2] w fun r w' => r = .returned (cv 1) ∧ Below w.heap.size w w' := by
  have hC := Lib.hid (fun W (hW : SlM W v m) => ivm_any W v m hW hm hr true (fun _ => rfl) (fun c => absurd hV c))
  have hD := Lib.hid (fun W (hW : SlG W v2 xs) => ivl_f W v2 xs hW hm' hV')
  obtain ⟨a, cap, rfl, hLi⟩ := hS.rows
  obtain ⟨a', cap', rfl, hLi'⟩ := hS'.lies
  replace hS := Lib.hid hS
  replace hS' := Lib.hid hS'
  replace hLi := Lib.hid hLi
  replace hLi' := Lib.hid hLi'
  obtain ⟨l, hl1⟩ : ∃ l, m.length = l := ⟨_, rfl⟩
  obtain ⟨l', hl2⟩ : ∃ l, xs.length = l := ⟨_, rfl⟩
  rw [hl1] at hC hS ⊢
  rw [hl2] at hS' hD ⊢
  clear hm hr hm' hV hV' hl1 hl2 hLi hLi'
  unfold cv
  go_enter Try.func40, Try.ntmps40
  go_wp2_with fail
  refine (hC.out _ (hS.out.below (by (repeat (first | exact Below.refl _ _ | assumption | refine bchain (by assumption) ?_ | refine balloc ?_ _ | apply Below.drew | apply below_drewN | (refine Below.alloc ?_ (by (try simp) <;> omega) _) | (refine Below.setCell ?_ (by (try simp) <;> omega) _)))))).mono ?_
  rintro r1 w1 ⟨rfl, hb1⟩
  obtain ⟨hc1_0, hz1_0⟩ := bkeep hb1 (w.heap.size) (by (try simp) <;> omega)
  obtain ⟨hc1_1, hz1_1⟩ := bkeep hb1 (w.heap.size + 1) (by (try simp) <;> omega)
  obtain ⟨hc1_2, hz1_2⟩ := bkeep hb1 (w.heap.size + 1 + 1) (by (try simp) <;> omega)
  have hf1_2 := bkeepz hb1 (w.heap.size + 1 + 1) (by (try simp) <;> omega)
  go_wp2_with fail
  refine (hD.out _ (hS'.out.below (by (repeat (first | exact Below.refl _ _ | assumption | refine bchain (by assumption) ?_ | refine balloc ?_ _ | apply Below.drew | apply below_drewN | (refine Below.alloc ?_ (by (try simp) <;> omega) _) | (refine Below.setCell ?_ (by (try simp) <;> omega) _)))))).mono ?_
  rintro r2 w2 ⟨rfl, hb2⟩
  obtain ⟨hc2_0, hz2_0⟩ := bkeep hb2 (w.heap.size) (by (try simp) <;> omega)
  obtain ⟨hc2_1, hz2_1⟩ := bkeep hb2 (w.heap.size + 1) (by (try simp) <;> omega)
  obtain ⟨hc2_2, hz2_2⟩ := bkeep hb2 (w.heap.size + 1 + 1) (by (try simp) <;> omega)
  have hf2_2 := bkeepz hb2 (w.heap.size + 1 + 1) (by (try simp) <;> omega)
  have g0 : w2.cell? ⟨w.heap.size + 1 + 1, 0, none⟩ = some (.int .i64 0) := ((hc2_2 0).trans ((hc1_2 0).trans (by simp [go_sem])))
  have g1 : w2.cell? ⟨w.heap.size + 1 + 1, 1, none⟩ = some (.int .i64 0) := ((hc2_2 1).trans ((hc1_2 1).trans (by simp [go_sem])))
  have h2 := twoCells g0 g1 (.int .i64 0) (.int .i64 0)
  go_wp2
  exact bodyPost_ret (v := .tuple #[.agg #[.int .i64 0, .int .i64 0], .int .i64 1]) (by simp [results, Try.results40, go_sem, h2.1, h2.2]) rfl ⟨rfl, by (repeat (first | exact Below.refl _ _ | assumption | refine bchain (by assumption) ?_ | refine balloc ?_ _ | apply Below.drew | apply below_drewN | (refine Below.alloc ?_ (by (try simp) <;> omega) _) | (refine Below.setCell ?_ (by (try simp) <;> omega) _)))⟩

theorem iff_rng (v v2 : Value) (m : List (List (Int × Int))) (xs : List (Int × Int)) (hS : SlM w v m) (hS' : SlG w v2 xs) (hm : m.length ≤ 1048576) (hr : ∀ i, i < m.length → (rAt m i).length ≤ 1048576) (hV : VM m) (hV' : Vl xs) (hne : ¬ xs.length = m.length) :
    Calls Try.prog 40 #[v, v2] w fun r w' => r = .returned (cv 2) ∧ Below w.heap.size w w' := by
  have hC := Lib.hid (fun W (hW : SlM W v m) => ivm_any W v m hW hm hr true (fun _ => rfl) (fun c => absurd hV c))
  have hD := Lib.hid (fun W (hW : SlG W v2 xs) => ivl_t W v2 xs hW hV')
  obtain ⟨a, cap, rfl, hLi⟩ := hS.rows
  obtain ⟨a', cap', rfl, hLi'⟩ := hS'.lies
  replace hS := Lib.hid hS
  replace hS' := Lib.hid hS'
  replace hLi := Lib.hid hLi
  replace hLi' := Lib.hid hLi'
  obtain ⟨l, hl1⟩ : ∃ l, m.length = l := ⟨_, rfl⟩
  obtain ⟨l', hl2⟩ : ∃ l, xs.length = l := ⟨_, rfl⟩
  rw [hl1] at hC hS hne ⊢
  rw [hl2] at hS' hD hne ⊢
  have hne2 : ((l' : Int) != (l : Int)) = true := by simp; omega
  clear hm hr hV hV' hl1 hl2 hne hLi hLi'
  unfold cv
  go_enter Try.func40, Try.ntmps40
  go_wp2_with fail
  refine (hC.out _ (hS.out.below (by (repeat (first | exact Below.refl _ _ | assumption | refine bchain (by assumption) ?_ | refine balloc ?_ _ | apply Below.drew | apply below_drewN | (refine Below.alloc ?_ (by (try simp) <;> omega) _) | (refine Below.setCell ?_ (by (try simp) <;> omega) _)))))).mono ?_
  rintro r1 w1 ⟨rfl, hb1⟩
  obtain ⟨hc1_0, hz1_0⟩ := bkeep hb1 (w.heap.size) (by (try simp) <;> omega)
  obtain ⟨hc1_1, hz1_1⟩ := bkeep hb1 (w.heap.size + 1) (by (try simp) <;> omega)
  obtain ⟨hc1_2, hz1_2⟩ := bkeep hb1 (w.heap.size + 1 + 1) (by (try simp) <;> omega)
  have hf1_2 := bkeepz hb1 (w.heap.size + 1 + 1) (by (try simp) <;> omega)
  go_wp2_with fail
  refine (hD.out _ (hS'.out.below (by (repeat (first | exact Below.refl _ _ | assumption | refine bchain (by assumption) ?_ | refine balloc ?_ _ | apply Below.drew | apply below_drewN | (refine Below.alloc ?_ (by (try simp) <;> omega) _) | (refine Below.setCell ?_ (by (try simp) <;> omega) _)))))).mono ?_
  rintro r2 w2 ⟨rfl, hb2⟩
  obtain ⟨hc2_0, hz2_0⟩ := bkeep hb2 (w.heap.size) (by (try simp) <;> omega)
  obtain ⟨hc2_1, hz2_1⟩ := bkeep hb2 (w.heap.size + 1) (by (try simp) <;> omega)
  obtain ⟨hc2_2, hz2_2⟩ := bkeep hb2 (w.heap.size + 1 + 1) (by (try simp) <;> omega)
  have hf2_2 := bkeepz hb2 (w.heap.size + 1 + 1) (by (try simp) <;> omega)
  have g0 : w2.cell? ⟨w.heap.size + 1 + 1, 0, none⟩ = some (.int .i64 0) := ((hc2_2 0).trans ((hc1_2 0).trans (by simp [go_sem])))
  have g1 : w2.cell? ⟨w.heap.size + 1 + 1, 1, none⟩ = some (.int .i64 0) := ((hc2_2 1).trans ((hc1_2 1).trans (by simp [go_sem])))
  have h2 := twoCells g0 g1 (.int .i64 0) (.int .i64 0)
  go_wp2
  exact bodyPost_ret (v := .tuple #[.agg #[.int .i64 0, .int .i64 0], .int .i64 2]) (by simp [results, Try.results40, go_sem, h2.1, h2.2]) rfl ⟨rfl, by (repeat (first | exact Below.refl _ _ | assumption | refine bchain (by assumption) ?_ | refine balloc ?_ _ | apply Below.drew | apply below_drewN | (refine Below.alloc ?_ (by (try simp) <;> omega) _) | (refine Below.setCell ?_ (by (try simp) <;> omega) _)))⟩


theorem iff_ok (v v2 : Value) (m : List (List (Int × Int))) (xs : List (Int × Int)) (hS : SlM w v m) (hS' : SlG w v2 xs) (hm : m.length ≤ 1048576) (hr : ∀ i, i < m.length → (rAt m i).length ≤ 1048576) (hF : Fit m xs) :
    Calls Try.prog 40 #[v, v2] w fun r w' => r = .returned (lv (formTo m xs m.length)) ∧ Below w.heap.size w w' := by
  have hV := hF.vm
  have hV' : Vl xs := ⟨by have := hF.len; have := hV.1; omega, hF.vl⟩
  have hC := Lib.hid (fun W (hW : SlM W v m) => ivm_any W v m hW hm hr true (fun _ => rfl) (fun c => absurd hV c))
  have hD := Lib.hid (fun W (hW : SlG W v2 xs) => ivl_t W v2 xs hW hV')
  obtain ⟨a, cap, rfl, hLi⟩ := hS.rows
  obtain ⟨a', cap', rfl, hLi'⟩ := hS'.lies
  replace hS := Lib.hid hS
  replace hS' := Lib.hid hS'
  replace hLi := Lib.hid hLi
  replace hLi' := Lib.hid hLi'
  have hL := Lib.hid (fun W B C (hO : W.cell? ⟨B, 0, none⟩ = some (.slice a m.length cap)) (hO' : W.cell? ⟨C, 0, none⟩ = some (.slice a' xs.length cap')) (hW : Rows W a m) (hW' : Lies W a' xs) =>
      lim_any 73 #[.pointer (some ⟨B, 0, none⟩), .pointer (some ⟨C, 0, none⟩)] (fun _ _ => by kernel_rfl) (formTo m xs m.length) W (fun W' hb' =>
        formClo_any W' a a' cap cap' m xs B C ((hb'.cell (World.block_lt_of_cell? W _ hO)).trans hO) ((hb'.cell (World.block_lt_of_cell? W _ hO')).trans hO') hF (hW.below hb') (hW'.below hb')))
  have hmf : ∀ (fn : Fn) (first cap : Array Value) (w : World), (Instr.makeFunc fn first cap).run Try.prog w = .ok (.func fn first cap) w := fun _ _ _ _ => rfl
  obtain ⟨r1, r2, c, hlv⟩ := lv_form (formTo m xs m.length)
  rw [hlv] at hL ⊢
  have hlen := hF.len
  clear hlv hm hr hV hV' hF
  rw [hlen] at hS' hD hL ⊢
  clear hlen
  obtain ⟨l, hl1⟩ : ∃ l, m.length = l := ⟨_, rfl⟩
  rw [hl1] at hC hD hS hS' hL ⊢
  clear hl1
  go_enter Try.func40, Try.ntmps40
  go_wp2_with fail
  refine (hC.out _ (hS.out.below (by (repeat (first | exact Below.refl _ _ | assumption | refine bchain (by assumption) ?_ | refine balloc ?_ _ | apply Below.drew | apply below_drewN | (refine Below.alloc ?_ (by (try simp) <;> omega) _) | (refine Below.setCell ?_ (by (try simp) <;> omega) _)))))).mono ?_
  rintro r1 w1 ⟨rfl, hb1⟩
  obtain ⟨hc1_0, hz1_0⟩ := bkeep hb1 (w.heap.size) (by (try simp) <;> omega)
  obtain ⟨hc1_1, hz1_1⟩ := bkeep hb1 (w.heap.size + 1) (by (try simp) <;> omega)
  obtain ⟨hc1_2, hz1_2⟩ := bkeep hb1 (w.heap.size + 1 + 1) (by (try simp) <;> omega)
  have hf1_2 := bkeepz hb1 (w.heap.size + 1 + 1) (by (try simp) <;> omega)
  go_wp2_with fail
  refine (hD.out _ (hS'.out.below (by (repeat (first | exact Below.refl _ _ | assumption | refine bchain (by assumption) ?_ | refine balloc ?_ _ | apply Below.drew | apply below_drewN | (refine Below.alloc ?_ (by (try simp) <;> omega) _) | (refine Below.setCell ?_ (by (try simp) <;> omega) _)))))).mono ?_
  rintro r2 w2 ⟨rfl, hb2⟩
  obtain ⟨hc2_0, hz2_0⟩ := bkeep hb2 (w.heap.size) (by (try simp) <;> omega)
  obtain ⟨hc2_1, hz2_1⟩ := bkeep hb2 (w.heap.size + 1) (by (try simp) <;> omega)
  obtain ⟨hc2_2, hz2_2⟩ := bkeep hb2 (w.heap.size + 1 + 1) (by (try simp) <;> omega)
  have hf2_2 := bkeepz hb2 (w.heap.size + 1 + 1) (by (try simp) <;> omega)
  go_wp2_with fail
  refine (hL.out _ _ _ ((hc2_0 0).trans ((hc1_0 0).trans (by simp [go_sem]))) ((hc2_1 0).trans ((hc1_1 0).trans (by simp [go_sem]))) (hLi.out.below (by (repeat (first | exact Below.refl _ _ | assumption | refine bchain (by assumption) ?_ | refine balloc ?_ _ | apply Below.drew | apply below_drewN | (refine Below.alloc ?_ (by (try simp) <;> omega) _) | (refine Below.setCell ?_ (by (try simp) <;> omega) _))))) (hLi'.out.below (by (repeat (first | exact Below.refl _ _ | assumption | refine bchain (by assumption) ?_ | refine balloc ?_ _ | apply Below.drew | apply below_drewN | (refine Below.alloc ?_ (by (try simp) <;> omega) _) | (refine Below.setCell ?_ (by (try simp) <;> omega) _)))))).mono ?_
  rintro r3 w3 ⟨rfl, hb3⟩
  obtain ⟨hc3_2, hz3_2⟩ := bkeep hb3 (w.heap.size + 1 + 1) (by (try simp) <;> omega)
  have hf3_2 := bkeepz hb3 (w.heap.size + 1 + 1) (by (try simp) <;> omega)
  have g0 : w3.cell? ⟨w.heap.size + 1 + 1, 0, none⟩ = some (.int .i64 0) := ((hc3_2 0).trans ((hc2_2 0).trans ((hc1_2 0).trans (by simp [go_sem]))))
  have g1 : w3.cell? ⟨w.heap.size + 1 + 1, 1, none⟩ = some (.int .i64 0) := ((hc3_2 1).trans ((hc2_2 1).trans ((hc1_2 1).trans (by simp [go_sem]))))
  have h2 := twoCells g0 g1 (.int .i64 r1) (.int .i64 r2)
  go_wp2
  exact bodyPost_ret (v := .tuple #[.agg #[.int .i64 r1, .int .i64 r2], .int .i64 c]) (by simp [results, Try.results40, go_sem, h2.1, h2.2]) rfl ⟨rfl, by (repeat (first | exact Below.refl _ _ | assumption | refine bchain (by assumption) ?_ | refine balloc ?_ _ | apply Below.drew | apply below_drewN | (refine Below.alloc ?_ (by (try simp) <;> omega) _) | (refine Below.setCell ?_ (by (try simp) <;> omega) _)))⟩

theorem sff_bad1 (v v2 : Value) (m : List (List (Int × Int))) (xs : List (Int × Int)) (hS : SlM w v m) (hS' : SlG w v2 xs) (hm : m.length ≤ 1048576) (hr : ∀ i, i < m.length → (rAt m i).length ≤ 1048576) (hV : ¬ VM m) :
    Calls Try.prog 39 #[v, v2] w fun r w' => r = .returned (cv 1) ∧ Below w.heap.size w w' := by
  have hC := Lib.hid (fun W (hW : SlM W v m) => svm_any W v m hW hm hr false (fun c => absurd c hV) (fun _ => rfl))
  obtain ⟨a, cap, rfl, hLi⟩ := hS.rows
  obtain ⟨a', cap', rfl, hLi'⟩ := hS'.lies
  replace hS := Lib.hid hS
  replace hS' := Lib.hid hS'
  replace hLi := Lib.hid hLi
  replace hLi' := Lib.hid hLi'
  obtain ⟨l, hl1⟩ : ∃ l, m.length = l := ⟨_, rfl⟩
  obtain ⟨l', hl2⟩ : ∃ l, xs.length = l := ⟨_, rfl⟩
  rw [hl1] at hC hS ⊢
  rw [hl2] at hS' ⊢
  clear hm hr hV hl1 hl2 hLi hLi'
  unfold cv
  go_enter Try.func39, Try.ntmps39
  go_wp2_with fail
  refine (hC.out _ (hS.out.below (by (repeat (first | exact Below.refl _ _ | assumption | refine bchain (by assumption) ?_ | refine balloc ?_ _ | apply Below.drew | apply below_drewN | (refine Below.alloc ?_ (by (try simp) <;> omega) _) | (refine Below.setCell ?_ (by (try simp) <;> omega) _)))))).mono ?_
  rintro r1 w1 ⟨rfl, hb1⟩
  obtain ⟨hc1_0, hz1_0⟩ := bkeep hb1 (w.heap.size) (by (try simp) <;> omega)
  have hf1_0 := bkeepz hb1 (w.heap.size) (by (try simp) <;> omega)
  have g0 : w1.cell? ⟨w.heap.size, 0, none⟩ = some (.int .i64 0) := ((hc1_0 0).trans (by simp [go_sem]))
  have g1 : w1.cell? ⟨w.heap.size, 1, none⟩ = some (.int .i64 0) := ((hc1_0 1).trans (by simp [go_sem]))
  have h2 := twoCells g0 g1 (.int .i64 0) (.int .i64 0)
  go_wp2
  exact bodyPost_ret (v := .tuple #[.agg #[.int .i64 0, .int .i64 0], .int .i64 1]) (by simp [results, Try.results39, go_sem, h2.1, h2.2]) rfl ⟨rfl, by (repeat (first | exact Below.refl _ _ | assumption | refine bchain (by assumption) ?_ | refine balloc ?_ _ | apply Below.drew | apply below_drewN | (refine Below.alloc ?_ (by (try simp) <;> omega) _) | (refine Below.setCell ?_ (by (try simp) <;> omega) _)))⟩

theorem sff_bad2 (v v2 : Value) (m : List (List (Int × Int))) (xs : List (Int × Int)) (hS : SlM w v m) (hS' : SlG w v2 xs) (hm : m.length ≤ 1048576) (hr : ∀ i, i < m.length → (rAt m i).length ≤ 1048576) (hm' : xs.length ≤ 1048576) (hV : VM m) (hV' : ¬ Vl xs) :
    Calls Try.prog 39 #[v, v2] w fun r w' => r = .returned (cv 1) ∧ Below w.heap.size w w' := by
  have hC := Lib.hid (fun W (hW : SlM W v m) => svm_any W v m hW hm hr true (fun _ => rfl) (fun c => absurd hV c))
  have hD := Lib.hid (fun W (hW : SlG W v2 xs) => svl_f W v2 xs hW hm' hV')
  obtain ⟨a, cap, rfl, hLi⟩ := hS.rows
  obtain ⟨a', cap', rfl, hLi'⟩ := hS'.lies
  replace hS := Lib.hid hS
  replace hS' := Lib.hid hS'
  replace hLi := Lib.hid hLi
  replace hLi' := Lib.hid hLi'
  obtain ⟨l, hl1⟩ : ∃ l, m.length = l := ⟨_, rfl⟩
  obtain ⟨l', hl2⟩ : ∃ l, xs.length = l := ⟨_, rfl⟩
  rw [hl1] at hC hS ⊢
  rw [hl2] at hS' hD ⊢
  clear hm hr hm' hV hV' hl1 hl2 hLi hLi'
  unfold cv
  go_enter Try.func39, Try.ntmps39
  go_wp2_with fail
  refine (hC.out _ (hS.out.below (by (repeat (first | exact Below.refl _ _ | assumption | refine bchain (by assumption) ?_ | refine balloc ?_ _ | apply Below.drew | apply below_drewN | (refine Below.alloc ?_ (by (try simp) <;> omega) _) | (refine Below.setCell ?_ (by (try simp) <;> omega) _)))))).mono ?_
  rintro r1 w1 ⟨rfl, hb1⟩
  obtain ⟨hc1_0, hz1_0⟩ := bkeep hb1 (w.heap.size) (by (try simp) <;> omega)
  have hf1_0 := bkeepz hb1 (w.heap.size) (by (try simp) <;> omega)
  go_wp2_with fail
  refine (hD.out _ (hS'.out.below (by (repeat (first | exact Below.refl _ _ | assumption | refine bchain (by assumption) ?_ | refine balloc ?_ _ | apply Below.drew | apply below_drewN | (refine Below.alloc ?_ (by (try simp) <;> omega) _) | (refine Below.setCell ?_ (by (try simp) <;> omega) _)))))).mono ?_
  rintro r2 w2 ⟨rfl, hb2⟩
  obtain ⟨hc2_0, hz2_0⟩ := bkeep hb2 (w.heap.size) (by (try simp) <;> omega)
  have hf2_0 := bkeepz hb2 (w.heap.size) (by (try simp) <;> omega)
  have g0 : w2.cell? ⟨w.heap.size, 0, none⟩ = some (.int .i64 0) := ((hc2_0 0).trans ((hc1_0 0).trans (by simp [go_sem])))
  have g1 : w2.cell? ⟨w.heap.size, 1, none⟩ = some (.int .i64 0) := ((hc2_0 1).trans ((hc1_0 1).trans (by simp [go_sem])))
  have h2 := twoCells g0 g1 (.int .i64 0) (.int .i64 0)
  go_wp2
  exact bodyPost_ret (v := .tuple #[.agg #[.int .i64 0, .int .i64 0], .int .i64 1]) (by simp [results, Try.results39, go_sem, h2.1, h2.2]) rfl ⟨rfl, by (repeat (first | exact Below.refl _ _ | assumption | refine bchain (by assumption) ?_ | refine balloc ?_ _ | apply Below.drew | apply below_drewN | (refine Below.alloc ?_ (by (try simp) <;> omega) _) | (refine Below.setCell ?_ (by (try simp) <;> omega) _)))⟩

theorem sff_rng (v v2 : Value) (m : List (List (Int × Int))) (xs : List (Int × Int)) (hS : SlM w v m) (hS' : SlG w v2 xs) (hm : m.length ≤ 1048576) (hr : ∀ i, i < m.length → (rAt m i).length ≤ 1048576) (hV : VM m) (hV' : Vl xs) (hne : ¬ xs.length = m.length) :
    Calls Try.prog 39 #[v, v2] w fun r w' => r = .returned (cv 2) ∧ Below w.heap.size w w' := by
  have hC := Lib.hid (fun W (hW : SlM W v m) => svm_any W v m hW hm hr true (fun _ => rfl) (fun c => absurd hV c))
  have hD := Lib.hid (fun W (hW : SlG W v2 xs) => svl_t W v2 xs hW hV')
  obtain ⟨a, cap, rfl, hLi⟩ := hS.rows
  obtain ⟨a', cap', rfl, hLi'⟩ := hS'.lies
  replace hS := Lib.hid hS
  replace hS' := Lib.hid hS'
  replace hLi := Lib.hid hLi
  replace hLi' := Lib.hid hLi'
  obtain ⟨l, hl1⟩ : ∃ l, m.length = l := ⟨_, rfl⟩
  obtain ⟨l', hl2⟩ : ∃ l, xs.length = l := ⟨_, rfl⟩
  rw [hl1] at hC hS hne ⊢
  rw [hl2] at hS' hD hne ⊢
  have hne2 : ((l' : Int) != (l : Int)) = true := by simp; omega
  clear hm hr hV hV' hl1 hl2 hne hLi hLi'
  unfold cv
  go_enter Try.func39, Try.ntmps39
  go_wp2_with fail
  refine (hC.out _ (hS.out.below (by (repeat (first | exact Below.refl _ _ | assumption | refine bchain (by assumption) ?_ | refine balloc ?_ _ | apply Below.drew | apply below_drewN | (refine Below.alloc ?_ (by (try simp) <;> omega) _) | (refine Below.setCell ?_ (by (try simp) <;> omega) _)))))).mono ?_
  rintro r1 w1 ⟨rfl, hb1⟩
  obtain ⟨hc1_0, hz1_0⟩ := bkeep hb1 (w.heap.size) (by (try simp) <;> omega)
  have hf1_0 := bkeepz hb1 (w.heap.size) (by (try simp) <;> omega)
  go_wp2_with fail
  refine (hD.out _ (hS'.out.below (by (repeat (first | exact Below.refl _ _ | assumption | refine bchain (by assumption) ?_ | refine balloc ?_ _ | apply Below.drew | apply below_drewN | (refine Below.alloc ?_ (by (try simp) <;> omega) _) | (refine Below.setCell ?_ (by (try simp) <;> omega) _)))))).mono ?_
  rintro r2 w2 ⟨rfl, hb2⟩
  obtain ⟨hc2_0, hz2_0⟩ := bkeep hb2 (w.heap.size) (by (try simp) <;> omega)
  have hf2_0 := bkeepz hb2 (w.heap.size) (by (try simp) <;> omega)
  have g0 : w2.cell? ⟨w.heap.size, 0, none⟩ = some (.int .i64 0) := ((hc2_0 0).trans ((hc1_0 0).trans (by simp [go_sem])))
  have g1 : w2.cell? ⟨w.heap.size, 1, none⟩ = some (.int .i64 0) := ((hc2_0 1).trans ((hc1_0 1).trans (by simp [go_sem])))
  have h2 := twoCells g0 g1 (.int .i64 0) (.int .i64 0)
  go_wp2
  exact bodyPost_ret (v := .tuple #[.agg #[.int .i64 0, .int .i64 0], .int .i64 2]) (by simp [results, Try.results39, go_sem, h2.1, h2.2]) rfl ⟨rfl, by (repeat (first | exact Below.refl _ _ | assumption | refine bchain (by assumption) ?_ | refine balloc ?_ _ | apply Below.drew | apply below_drewN | (refine Below.alloc ?_ (by (try simp) <;> omega) _) | (refine Below.setCell ?_ (by (try simp) <;> omega) _)))⟩

end
theorem form_both (m : List (List (Int × Int))) (xs : List (Int × Int)) (hm : m.length ≤ 1048576) (hr : ∀ i, i < m.length → (rAt m i).length ≤ 1048576) (hm' : xs.length ≤ 1048576) : ∃ (x y c : Int),
    (∀ W v v2, SlM W v m → SlG W v2 xs → Calls Try.prog 39 #[v, v2] W fun r w' => r = .returned (.tuple #[.agg #[.int .i64 x, .int .i64 y], .int .i64 c]) ∧ Below W.heap.size W w') ∧
    (∀ W v v2, SlM W v m → SlG W v2 xs → Calls Try.prog 40 #[v, v2] W fun r w' => r = .returned (.tuple #[.agg #[.int .i64 x, .int .i64 y], .int .i64 c]) ∧ Below W.heap.size W w') := by
  by_cases hV : VM m
  · by_cases hV' : Vl xs
    · by_cases hl : xs.length = m.length
      · have hF : Fit m xs := ⟨hV, hV'.2, hl⟩
        have h1 := fun W v v2 (h : SlM W v m) (h' : SlG W v2 xs) => sff_ok W v v2 m xs hF h h' (fun W2 h2 => svm_any W2 v m h2 hm hr true (fun _ => rfl) (fun c => absurd hV c))
        have h2 := fun W v v2 (h : SlM W v m) (h' : SlG W v2 xs) => iff_ok W v v2 m xs h h' hm hr hF
        obtain ⟨r1, r2, c, hlv⟩ := lv_form (formTo m xs m.length)
        rw [hlv] at h1 h2
        exact ⟨r1, r2, c, h1, h2⟩
      · exact ⟨0, 0, 2, fun W v v2 h h' => sff_rng W v v2 m xs h h' hm hr hV hV' hl, fun W v v2 h h' => iff_rng W v v2 m xs h h' hm hr hV hV' hl⟩
    · exact ⟨0, 0, 1, fun W v v2 h h' => sff_bad2 W v v2 m xs h h' hm hr hm' hV hV', fun W v v2 h h' => iff_bad2 W v v2 m xs h h' hm hr hm' hV hV'⟩
  · exact ⟨0, 0, 1, fun W v v2 h h' => sff_bad1 W v v2 m xs h h' hm hr hV, fun W v v2 h h' => iff_bad1 W v v2 m xs h h' hm hr hV⟩
end Go.Proofs.Ytonjmoiognbjbab
