/-
  AddMatrices: what the program answers. (made by gen_mops.py)
-/
import Derived.Test.YtdibcchhamapjacFAd
namespace Go.Proofs.Ytdibcchhamapjac
open Go.RowKit
set_option maxRecDepth 100000
section
variable (w : World)
theorem adI_bad1 (v v2 : Value) (m m2 : List (List (Int × Int))) (hS : SlM w v m) (hS2 : SlM w v2 m2) (hm : m.length ≤ 1048576) (hr : ∀ i, i < m.length → (rAt m i).length ≤ 1048576) (hV : ¬ VM m) :
    Calls Try.prog 20 #[v, v2] w fun r w' => r = .returned (.tuple #[.slice none 0 0, .int .i64 1]) ∧ Below w.heap.size w w' := by
  have hC := Lib.hid (fun W (hW : SlM W v m) => ivm_any W v m hW hm hr false (fun c => absurd c hV) (fun _ => rfl))
  obtain ⟨a, cap, rfl, hLi⟩ := hS.rows
  replace hS := Lib.hid hS
  replace hLi := Lib.hid hLi
  obtain ⟨a2, cap2, rfl, hLi2⟩ := hS2.rows
  replace hS2 := Lib.hid hS2
  replace hLi2 := Lib.hid hLi2
  clear hm hr hV hLi hLi2 hS2
  obtain ⟨l, hl⟩ : ∃ l, m.length = l := ⟨_, rfl⟩
  obtain ⟨l2, hl2'⟩ : ∃ l, m2.length = l := ⟨_, rfl⟩
  rw [hl] at hC hS ⊢
  rw [hl2'] at ⊢
  clear hl hl2'
  go_enter Try.func20, Try.ntmps20
  go_wp2_with fail
  refine (hC.out _ (hS.out.below (by (repeat (first | exact Below.refl _ _ | assumption | refine bchain (by assumption) ?_ | refine balloc ?_ _ | apply Below.drew | apply below_drewN | (refine Below.alloc ?_ (by (try simp) <;> omega) _) | (refine Below.setCell ?_ (by (try simp) <;> omega) _)))))).mono ?_
  rintro r1 w1 ⟨rfl, hb1⟩
  go_wp2
  exact bodyPost_ret (v := .tuple #[.slice none 0 0, .int .i64 1]) (by simp [results, Try.results20, go_sem]) rfl ⟨rfl, by (repeat (first | exact Below.refl _ _ | assumption | refine bchain (by assumption) ?_ | refine balloc ?_ _ | apply Below.drew | apply below_drewN | (refine Below.alloc ?_ (by (try simp) <;> omega) _) | (refine Below.setCell ?_ (by (try simp) <;> omega) _)))⟩
theorem adI_bad2 (v v2 : Value) (m m2 : List (List (Int × Int))) (hS : SlM w v m) (hS2 : SlM w v2 m2) (hm : m.length ≤ 1048576) (hr : ∀ i, i < m.length → (rAt m i).length ≤ 1048576) (hm2 : m2.length ≤ 1048576) (hr2 : ∀ i, i < m2.length → (rAt m2 i).length ≤ 1048576) (hV : VM m) (hV2 : ¬ VM m2) :
    Calls Try.prog 20 #[v, v2] w fun r w' => r = .returned (.tuple #[.slice none 0 0, .int .i64 1]) ∧ Below w.heap.size w w' := by
  have hC := Lib.hid (fun W (hW : SlM W v m) => ivm_any W v m hW hm hr true (fun _ => rfl) (fun c => absurd hV c))
  have hD := Lib.hid (fun W (hW : SlM W v2 m2) => ivm_any W v2 m2 hW hm2 hr2 false (fun c => absurd c hV2) (fun _ => rfl))
  obtain ⟨a, cap, rfl, hLi⟩ := hS.rows
  replace hS := Lib.hid hS
  replace hLi := Lib.hid hLi
  obtain ⟨a2, cap2, rfl, hLi2⟩ := hS2.rows
  replace hS2 := Lib.hid hS2
  replace hLi2 := Lib.hid hLi2
  clear hm hr hV hLi hV2 hLi2 hm2 hr2
  obtain ⟨l, hl⟩ : ∃ l, m.length = l := ⟨_, rfl⟩
  obtain ⟨l2, hl2'⟩ : ∃ l, m2.length = l := ⟨_, rfl⟩
  rw [hl] at hC hS ⊢
  rw [hl2'] at hD hS2 ⊢
  clear hl hl2'
  go_enter Try.func20, Try.ntmps20
  go_wp2_with fail
  refine (hC.out _ (hS.out.below (by (repeat (first | exact Below.refl _ _ | assumption | refine bchain (by assumption) ?_ | refine balloc ?_ _ | apply Below.drew | apply below_drewN | (refine Below.alloc ?_ (by (try simp) <;> omega) _) | (refine Below.setCell ?_ (by (try simp) <;> omega) _)))))).mono ?_
  rintro r1 w1 ⟨rfl, hb1⟩
  obtain ⟨hc1_0, hz1_0⟩ := bkeep hb1 w.heap.size (by (try simp) <;> omega)
  obtain ⟨hc1_1, hz1_1⟩ := bkeep hb1 (w.heap.size + 1) (by (try simp) <;> omega)
  have g0 : w1.cell? ⟨w.heap.size + 1, 0, none⟩ = some (.slice a2 l2 cap2) := (hc1_1 0).trans (by simp [go_sem])
  go_wp2_with fail
  refine (hD.out _ (hS2.out.below (by (repeat (first | exact Below.refl _ _ | assumption | refine bchain (by assumption) ?_ | refine balloc ?_ _ | apply Below.drew | apply below_drewN | (refine Below.alloc ?_ (by (try simp) <;> omega) _) | (refine Below.setCell ?_ (by (try simp) <;> omega) _)))))).mono ?_
  rintro r2 w2 ⟨rfl, hb2⟩
  go_wp2
  exact bodyPost_ret (v := .tuple #[.slice none 0 0, .int .i64 1]) (by simp [results, Try.results20, go_sem]) rfl ⟨rfl, by (repeat (first | exact Below.refl _ _ | assumption | refine bchain (by assumption) ?_ | refine balloc ?_ _ | apply Below.drew | apply below_drewN | (refine Below.alloc ?_ (by (try simp) <;> omega) _) | (refine Below.setCell ?_ (by (try simp) <;> omega) _)))⟩
theorem adI_rng (v v2 : Value) (m m2 : List (List (Int × Int))) (hS : SlM w v m) (hS2 : SlM w v2 m2) (hm : m.length ≤ 1048576) (hr : ∀ i, i < m.length → (rAt m i).length ≤ 1048576) (hm2 : m2.length ≤ 1048576) (hr2 : ∀ i, i < m2.length → (rAt m2 i).length ≤ 1048576) (hV : VM m) (hV2 : VM m2) (hne : ¬ m.length = m2.length) :
    Calls Try.prog 20 #[v, v2] w fun r w' => r = .returned (.tuple #[.slice none 0 0, .int .i64 2]) ∧ Below w.heap.size w w' := by
  have hC := Lib.hid (fun W (hW : SlM W v m) => ivm_any W v m hW hm hr true (fun _ => rfl) (fun c => absurd hV c))
  have hD := Lib.hid (fun W (hW : SlM W v2 m2) => ivm_any W v2 m2 hW hm2 hr2 true (fun _ => rfl) (fun c => absurd hV2 c))
  obtain ⟨a, cap, rfl, hLi⟩ := hS.rows
  replace hS := Lib.hid hS
  replace hLi := Lib.hid hLi
  obtain ⟨a2, cap2, rfl, hLi2⟩ := hS2.rows
  replace hS2 := Lib.hid hS2
  replace hLi2 := Lib.hid hLi2
  clear hm hr hV hLi hV2 hLi2 hm2 hr2
  obtain ⟨l, hl⟩ : ∃ l, m.length = l := ⟨_, rfl⟩
  obtain ⟨l2, hl2'⟩ : ∃ l, m2.length = l := ⟨_, rfl⟩
  rw [hl] at hC hS hne ⊢
  rw [hl2'] at hD hS2 hne ⊢
  clear hl hl2'
  have hne2 : ((l : Int) != (l2 : Int)) = true := by simp; omega
  go_enter Try.func20, Try.ntmps20
  go_wp2_with fail
  refine (hC.out _ (hS.out.below (by (repeat (first | exact Below.refl _ _ | assumption | refine bchain (by assumption) ?_ | refine balloc ?_ _ | apply Below.drew | apply below_drewN | (refine Below.alloc ?_ (by (try simp) <;> omega) _) | (refine Below.setCell ?_ (by (try simp) <;> omega) _)))))).mono ?_
  rintro r1 w1 ⟨rfl, hb1⟩
  obtain ⟨hc1_0, hz1_0⟩ := bkeep hb1 w.heap.size (by (try simp) <;> omega)
  obtain ⟨hc1_1, hz1_1⟩ := bkeep hb1 (w.heap.size + 1) (by (try simp) <;> omega)
  have g0 : w1.cell? ⟨w.heap.size + 1, 0, none⟩ = some (.slice a2 l2 cap2) := (hc1_1 0).trans (by simp [go_sem])
  go_wp2_with fail
  refine (hD.out _ (hS2.out.below (by (repeat (first | exact Below.refl _ _ | assumption | refine bchain (by assumption) ?_ | refine balloc ?_ _ | apply Below.drew | apply below_drewN | (refine Below.alloc ?_ (by (try simp) <;> omega) _) | (refine Below.setCell ?_ (by (try simp) <;> omega) _)))))).mono ?_
  rintro r2 w2 ⟨rfl, hb2⟩
  obtain ⟨hc2_0, hz2_0⟩ := bkeep hb2 w.heap.size (by (try simp) <;> omega)
  obtain ⟨hc2_1, hz2_1⟩ := bkeep hb2 (w.heap.size + 1) (by (try simp) <;> omega)
  have e0 : w2.cell? ⟨w.heap.size, 0, none⟩ = some (.slice a l cap) := (hc2_0 0).trans ((hc1_0 0).trans (by simp [go_sem]))
  have e1 : w2.cell? ⟨w.heap.size + 1, 0, none⟩ = some (.slice a2 l2 cap2) := (hc2_1 0).trans g0
  go_wp2
  exact bodyPost_ret (v := .tuple #[.slice none 0 0, .int .i64 2]) (by simp [results, Try.results20, go_sem]) rfl ⟨rfl, by (repeat (first | exact Below.refl _ _ | assumption | refine bchain (by assumption) ?_ | refine balloc ?_ _ | apply Below.drew | apply below_drewN | (refine Below.alloc ?_ (by (try simp) <;> omega) _) | (refine Below.setCell ?_ (by (try simp) <;> omega) _)))⟩
theorem adI_ok (v v2 : Value) (m m2 : List (List (Int × Int))) (hS : SlM w v m) (hS2 : SlM w v2 m2) (hm : m.length ≤ 1048576) (hr : ∀ i, i < m.length → (rAt m i).length ≤ 1048576) (hm2 : m2.length ≤ 1048576) (hr2 : ∀ i, i < m2.length → (rAt m2 i).length ≤ 1048576) (hV : VM m) (hV2 : VM m2) (he : m2.length = m.length) (ho : ∀ i j, i < m.length → j < m.length → oO (adF m m2) i j = true) :
    Calls Try.prog 20 #[v, v2] w fun r w' => (∃ u, r = .returned (.tuple #[u, .int .i64 0]) ∧ MR w.heap.size w' u m.length (gv m.length (gO (adF m m2)))) ∧ Below w.heap.size w w' := by
  have hmf : ∀ (fn : Fn) (first cap : Array Value) (w : World), (Instr.makeFunc fn first cap).run Try.prog w = .ok (.func fn first cap) w := fun _ _ _ _ => rfl
  have hC := Lib.hid (fun W (hW : SlM W v m) => ivm_any W v m hW hm hr true (fun _ => rfl) (fun c => absurd hV c))
  have hD := Lib.hid (fun W (hW : SlM W v2 m2) => ivm_any W v2 m2 hW hm2 hr2 true (fun _ => rfl) (fun c => absurd hV2 c))
  obtain ⟨a, cap, rfl, hLi⟩ := hS.rows
  replace hS := Lib.hid hS
  replace hLi := Lib.hid hLi
  obtain ⟨a2, cap2, rfl, hLi2⟩ := hS2.rows
  replace hS2 := Lib.hid hS2
  replace hLi2 := Lib.hid hLi2
  have hL := Lib.hid (fun W X Y (hX : W.cell? ⟨X, 0, none⟩ = some (.slice a m.length cap)) (hY : W.cell? ⟨Y, 0, none⟩ = some (.slice a2 m.length cap2)) (hW2 : Rows W a2 m2) (hW : Rows W a m) => limM_ok 49 #[.pointer (some ⟨X, 0, none⟩), .pointer (some ⟨Y, 0, none⟩)] (fun _ _ => by kernel_rfl) W
    (fun W' u => MR (W.heap.size + 1) W' u m.length (gv m.length (gO (adF m m2)))) (fun W' u x h => h.setCell x (by show W.heap.size < _; omega)) (fun W' hz hb =>
      (adC_ok W' a cap a2 cap2 m m2 X Y ((hb.cell (World.block_lt_of_cell? W _ hX)).trans hX) ((hb.cell (World.block_lt_of_cell? W _ hY)).trans hY) (hW.below hb) (hW2.below hb) hV hV2 he ho).mono fun e w' h => ⟨h.1.elim fun u hu => ⟨u, hu.1, by rw [← hz]; exact hu.2⟩, h.2⟩))
  obtain ⟨f, hf⟩ : ∃ f, gv m.length (gO (adF m m2)) = f := ⟨_, rfl⟩
  rw [hf] at hL ⊢
  clear hf
  rw [he] at hD hS2 ⊢
  clear hm hr hV ho hV2 hm2 hr2 he
  obtain ⟨l, hl⟩ : ∃ l, m.length = l := ⟨_, rfl⟩
  rw [hl] at hC hS hL hD hS2 ⊢
  clear hl
  go_enter Try.func20, Try.ntmps20
  go_wp2_with fail
  refine (hC.out _ (hS.out.below (by (repeat (first | exact Below.refl _ _ | assumption | refine bchain (by assumption) ?_ | refine balloc ?_ _ | apply Below.drew | apply below_drewN | (refine Below.alloc ?_ (by (try simp) <;> omega) _) | (refine Below.setCell ?_ (by (try simp) <;> omega) _)))))).mono ?_
  rintro r1 w1 ⟨rfl, hb1⟩
  obtain ⟨hc1_0, hz1_0⟩ := bkeep hb1 w.heap.size (by (try simp) <;> omega)
  obtain ⟨hc1_1, hz1_1⟩ := bkeep hb1 (w.heap.size + 1) (by (try simp) <;> omega)
  have g0 : w1.cell? ⟨w.heap.size + 1, 0, none⟩ = some (.slice a2 l cap2) := (hc1_1 0).trans (by simp [go_sem])
  go_wp2_with fail
  refine (hD.out _ (hS2.out.below (by (repeat (first | exact Below.refl _ _ | assumption | refine bchain (by assumption) ?_ | refine balloc ?_ _ | apply Below.drew | apply below_drewN | (refine Below.alloc ?_ (by (try simp) <;> omega) _) | (refine Below.setCell ?_ (by (try simp) <;> omega) _)))))).mono ?_
  rintro r2 w2 ⟨rfl, hb2⟩
  obtain ⟨hc2_0, hz2_0⟩ := bkeep hb2 w.heap.size (by (try simp) <;> omega)
  obtain ⟨hc2_1, hz2_1⟩ := bkeep hb2 (w.heap.size + 1) (by (try simp) <;> omega)
  have e0 : w2.cell? ⟨w.heap.size, 0, none⟩ = some (.slice a l cap) := (hc2_0 0).trans ((hc1_0 0).trans (by simp [go_sem]))
  have e1 : w2.cell? ⟨w.heap.size + 1, 0, none⟩ = some (.slice a2 l cap2) := (hc2_1 0).trans g0
  have hB2 : Below w.heap.size w w2 := by (repeat (first | exact Below.refl _ _ | assumption | refine bchain (by assumption) ?_ | refine balloc ?_ _ | apply Below.drew | apply below_drewN | (refine Below.alloc ?_ (by (try simp) <;> omega) _) | (refine Below.setCell ?_ (by (try simp) <;> omega) _)))
  have hge := hB2.size
  go_wp2_with fail
  refine (hL.out _ w.heap.size (w.heap.size + 1) (by simpa using e0) (by simpa using e1) (hLi2.out.below (by (repeat (first | exact Below.refl _ _ | assumption | refine bchain (by assumption) ?_ | refine balloc ?_ _ | apply Below.drew | apply below_drewN | (refine Below.alloc ?_ (by (try simp) <;> omega) _) | (refine Below.setCell ?_ (by (try simp) <;> omega) _))))) (hLi.out.below (by (repeat (first | exact Below.refl _ _ | assumption | refine bchain (by assumption) ?_ | refine balloc ?_ _ | apply Below.drew | apply below_drewN | (refine Below.alloc ?_ (by (try simp) <;> omega) _) | (refine Below.setCell ?_ (by (try simp) <;> omega) _)))))).mono ?_
  rintro r3 w3 ⟨⟨u, rfl, hR⟩, hb3⟩
  have hR2 := Lib.hid (hR.le (b1 := w.heap.size) (by omega))
  clear hR
  go_wp2
  exact bodyPost_ret (v := .tuple #[u, .int .i64 0]) (by simp [results, Try.results20, go_sem]) rfl ⟨⟨_, rfl, hR2.out⟩, by (repeat (first | exact Below.refl _ _ | assumption | refine bchain (by assumption) ?_ | refine balloc ?_ _ | apply Below.drew | apply below_drewN | (refine Below.alloc ?_ (by (try simp) <;> omega) _) | (refine Below.setCell ?_ (by (try simp) <;> omega) _)))⟩
theorem adI_lim (v v2 : Value) (m m2 : List (List (Int × Int))) (hS : SlM w v m) (hS2 : SlM w v2 m2) (hm : m.length ≤ 1048576) (hr : ∀ i, i < m.length → (rAt m i).length ≤ 1048576) (hm2 : m2.length ≤ 1048576) (hr2 : ∀ i, i < m2.length → (rAt m2 i).length ≤ 1048576) (hV : VM m) (hV2 : VM m2) (he : m2.length = m.length) (ho : ∃ i j, i < m.length ∧ j < m.length ∧ oO (adF m m2) i j = false) :
    Calls Try.prog 20 #[v, v2] w fun r w' => r = .returned (.tuple #[.slice none 0 0, .int .i64 3]) ∧ Below w.heap.size w w' := by
  have hmf : ∀ (fn : Fn) (first cap : Array Value) (w : World), (Instr.makeFunc fn first cap).run Try.prog w = .ok (.func fn first cap) w := fun _ _ _ _ => rfl
  have hC := Lib.hid (fun W (hW : SlM W v m) => ivm_any W v m hW hm hr true (fun _ => rfl) (fun c => absurd hV c))
  have hD := Lib.hid (fun W (hW : SlM W v2 m2) => ivm_any W v2 m2 hW hm2 hr2 true (fun _ => rfl) (fun c => absurd hV2 c))
  obtain ⟨a, cap, rfl, hLi⟩ := hS.rows
  replace hS := Lib.hid hS
  replace hLi := Lib.hid hLi
  obtain ⟨a2, cap2, rfl, hLi2⟩ := hS2.rows
  replace hS2 := Lib.hid hS2
  replace hLi2 := Lib.hid hLi2
  have hL := Lib.hid (fun W X Y (hX : W.cell? ⟨X, 0, none⟩ = some (.slice a m.length cap)) (hY : W.cell? ⟨Y, 0, none⟩ = some (.slice a2 m.length cap2)) (hW2 : Rows W a2 m2) (hW : Rows W a m) => limM_none 49 #[.pointer (some ⟨X, 0, none⟩), .pointer (some ⟨Y, 0, none⟩)] (fun _ _ => by kernel_rfl) W
    (fun W' _ hb => adC_pan W' a cap a2 cap2 m m2 X Y ((hb.cell (World.block_lt_of_cell? W _ hX)).trans hX) ((hb.cell (World.block_lt_of_cell? W _ hY)).trans hY) (hW.below hb) (hW2.below hb) hV hV2 he ho))
  rw [he] at hD hS2 ⊢
  clear hm hr hV ho hV2 hm2 hr2 he
  obtain ⟨l, hl⟩ : ∃ l, m.length = l := ⟨_, rfl⟩
  rw [hl] at hC hS hL hD hS2 ⊢
  clear hl
  go_enter Try.func20, Try.ntmps20
  go_wp2_with fail
  refine (hC.out _ (hS.out.below (by (repeat (first | exact Below.refl _ _ | assumption | refine bchain (by assumption) ?_ | refine balloc ?_ _ | apply Below.drew | apply below_drewN | (refine Below.alloc ?_ (by (try simp) <;> omega) _) | (refine Below.setCell ?_ (by (try simp) <;> omega) _)))))).mono ?_
  rintro r1 w1 ⟨rfl, hb1⟩
  obtain ⟨hc1_0, hz1_0⟩ := bkeep hb1 w.heap.size (by (try simp) <;> omega)
  obtain ⟨hc1_1, hz1_1⟩ := bkeep hb1 (w.heap.size + 1) (by (try simp) <;> omega)
  have g0 : w1.cell? ⟨w.heap.size + 1, 0, none⟩ = some (.slice a2 l cap2) := (hc1_1 0).trans (by simp [go_sem])
  go_wp2_with fail
  refine (hD.out _ (hS2.out.below (by (repeat (first | exact Below.refl _ _ | assumption | refine bchain (by assumption) ?_ | refine balloc ?_ _ | apply Below.drew | apply below_drewN | (refine Below.alloc ?_ (by (try simp) <;> omega) _) | (refine Below.setCell ?_ (by (try simp) <;> omega) _)))))).mono ?_
  rintro r2 w2 ⟨rfl, hb2⟩
  obtain ⟨hc2_0, hz2_0⟩ := bkeep hb2 w.heap.size (by (try simp) <;> omega)
  obtain ⟨hc2_1, hz2_1⟩ := bkeep hb2 (w.heap.size + 1) (by (try simp) <;> omega)
  have e0 : w2.cell? ⟨w.heap.size, 0, none⟩ = some (.slice a l cap) := (hc2_0 0).trans ((hc1_0 0).trans (by simp [go_sem]))
  have e1 : w2.cell? ⟨w.heap.size + 1, 0, none⟩ = some (.slice a2 l cap2) := (hc2_1 0).trans g0
  have hB2 : Below w.heap.size w w2 := by (repeat (first | exact Below.refl _ _ | assumption | refine bchain (by assumption) ?_ | refine balloc ?_ _ | apply Below.drew | apply below_drewN | (refine Below.alloc ?_ (by (try simp) <;> omega) _) | (refine Below.setCell ?_ (by (try simp) <;> omega) _)))
  have hge := hB2.size
  go_wp2_with fail
  refine (hL.out _ w.heap.size (w.heap.size + 1) (by simpa using e0) (by simpa using e1) (hLi2.out.below (by (repeat (first | exact Below.refl _ _ | assumption | refine bchain (by assumption) ?_ | refine balloc ?_ _ | apply Below.drew | apply below_drewN | (refine Below.alloc ?_ (by (try simp) <;> omega) _) | (refine Below.setCell ?_ (by (try simp) <;> omega) _))))) (hLi.out.below (by (repeat (first | exact Below.refl _ _ | assumption | refine bchain (by assumption) ?_ | refine balloc ?_ _ | apply Below.drew | apply below_drewN | (refine Below.alloc ?_ (by (try simp) <;> omega) _) | (refine Below.setCell ?_ (by (try simp) <;> omega) _)))))).mono ?_
  rintro r3 w3 ⟨rfl, hb3⟩
  go_wp2
  exact bodyPost_ret (v := .tuple #[.slice none 0 0, .int .i64 3]) (by simp [results, Try.results20, go_sem]) rfl ⟨rfl, by (repeat (first | exact Below.refl _ _ | assumption | refine bchain (by assumption) ?_ | refine balloc ?_ _ | apply Below.drew | apply below_drewN | (refine Below.alloc ?_ (by (try simp) <;> omega) _) | (refine Below.setCell ?_ (by (try simp) <;> omega) _)))⟩
end
end Go.Proofs.Ytdibcchhamapjac
