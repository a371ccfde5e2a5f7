/-
  ScaleMatrix: what the program answers. (made by gen_mops.py)
-/
import Derived.Test.YtdibcchhamapjacFSc
namespace Go.Proofs.Ytdibcchhamapjac
open Go.RowKit
set_option maxRecDepth 100000
section
variable (w : World)
theorem scI_bad1 (v : Value) (m : List (List (Int × Int))) (y1 y2 : Int) (hS : SlM w v m) (hm : m.length ≤ 1048576) (hr : ∀ i, i < m.length → (rAt m i).length ≤ 1048576) (hV : ¬ VM m) :
    Calls Try.prog 23 #[v, .agg #[.int .i64 y1, .int .i64 y2]] w fun r w' => r = .returned (.tuple #[.slice none 0 0, .int .i64 1]) ∧ Below w.heap.size w w' := by
  have hC := Lib.hid (fun W (hW : SlM W v m) => ivm_any W v m hW hm hr false (fun c => absurd c hV) (fun _ => rfl))
  obtain ⟨a, cap, rfl, hLi⟩ := hS.rows
  replace hS := Lib.hid hS
  replace hLi := Lib.hid hLi
  clear hm hr hV hLi
  obtain ⟨l, hl⟩ : ∃ l, m.length = l := ⟨_, rfl⟩
  rw [hl] at hC hS ⊢
  
  clear hl
  go_enter Try.func23, Try.ntmps23
  go_wp2_with fail
  refine (hC.out _ (hS.out.below (by (repeat (first | exact Below.refl _ _ | assumption | refine bchain (by assumption) ?_ | refine balloc ?_ _ | apply Below.drew | apply below_drewN | (refine Below.alloc ?_ (by (try simp) <;> omega) _) | (refine Below.setCell ?_ (by (try simp) <;> omega) _)))))).mono ?_
  rintro r1 w1 ⟨rfl, hb1⟩
  go_wp2
  exact bodyPost_ret (v := .tuple #[.slice none 0 0, .int .i64 1]) (by simp [results, Try.results23, go_sem]) rfl ⟨rfl, by (repeat (first | exact Below.refl _ _ | assumption | refine bchain (by assumption) ?_ | refine balloc ?_ _ | apply Below.drew | apply below_drewN | (refine Below.alloc ?_ (by (try simp) <;> omega) _) | (refine Below.setCell ?_ (by (try simp) <;> omega) _)))⟩
theorem scI_bad2 (v : Value) (m : List (List (Int × Int))) (y1 y2 : Int) (hS : SlM w v m) (hm : m.length ≤ 1048576) (hr : ∀ i, i < m.length → (rAt m i).length ≤ 1048576)  (hV : VM m) (hy : ¬ VF y1 y2) :
    Calls Try.prog 23 #[v, .agg #[.int .i64 y1, .int .i64 y2]] w fun r w' => r = .returned (.tuple #[.slice none 0 0, .int .i64 1]) ∧ Below w.heap.size w w' := by
  have hC := Lib.hid (fun W (hW : SlM W v m) => ivm_any W v m hW hm hr true (fun _ => rfl) (fun c => absurd hV c))
  have hD := Lib.hid (fun W => vf_any W y1 y2)
  rw [decide_eq_false hy] at hD
  obtain ⟨a, cap, rfl, hLi⟩ := hS.rows
  replace hS := Lib.hid hS
  replace hLi := Lib.hid hLi
  clear hm hr hV hLi hy
  obtain ⟨l, hl⟩ : ∃ l, m.length = l := ⟨_, rfl⟩
  rw [hl] at hC hS ⊢
  
  clear hl
  go_enter Try.func23, Try.ntmps23
  go_wp2_with fail
  refine (hC.out _ (hS.out.below (by (repeat (first | exact Below.refl _ _ | assumption | refine bchain (by assumption) ?_ | refine balloc ?_ _ | apply Below.drew | apply below_drewN | (refine Below.alloc ?_ (by (try simp) <;> omega) _) | (refine Below.setCell ?_ (by (try simp) <;> omega) _)))))).mono ?_
  rintro r1 w1 ⟨rfl, hb1⟩
  obtain ⟨hc1_0, hz1_0⟩ := bkeep hb1 w.heap.size (by (try simp) <;> omega)
  obtain ⟨hc1_1, hz1_1⟩ := bkeep hb1 (w.heap.size + 1) (by (try simp) <;> omega)
  have g0 : w1.cell? ⟨w.heap.size + 1, 0, none⟩ = some (.int .i64 y1) := (hc1_1 0).trans (by simp [go_sem])
  have g1 : w1.cell? ⟨w.heap.size + 1, 1, none⟩ = some (.int .i64 y2) := (hc1_1 1).trans (by simp [go_sem])
  go_wp2_with fail
  refine (hD.out _).mono ?_
  rintro r2 w2 ⟨rfl, hb2⟩
  go_wp2
  exact bodyPost_ret (v := .tuple #[.slice none 0 0, .int .i64 1]) (by simp [results, Try.results23, go_sem]) rfl ⟨rfl, by (repeat (first | exact Below.refl _ _ | assumption | refine bchain (by assumption) ?_ | refine balloc ?_ _ | apply Below.drew | apply below_drewN | (refine Below.alloc ?_ (by (try simp) <;> omega) _) | (refine Below.setCell ?_ (by (try simp) <;> omega) _)))⟩
theorem scI_ok (v : Value) (m : List (List (Int × Int))) (y1 y2 : Int) (hS : SlM w v m) (hm : m.length ≤ 1048576) (hr : ∀ i, i < m.length → (rAt m i).length ≤ 1048576)  (hV : VM m) (hy : VF y1 y2) (ho : ∀ i j, i < m.length → j < m.length → oO (scF m (y1, y2)) i j = true) :
    Calls Try.prog 23 #[v, .agg #[.int .i64 y1, .int .i64 y2]] w fun r w' => (∃ u, r = .returned (.tuple #[u, .int .i64 0]) ∧ MR w.heap.size w' u m.length (gv m.length (gO (scF m (y1, y2))))) ∧ Below w.heap.size w w' := by
  have hmf : ∀ (fn : Fn) (first cap : Array Value) (w : World), (Instr.makeFunc fn first cap).run Try.prog w = .ok (.func fn first cap) w := fun _ _ _ _ => rfl
  have hC := Lib.hid (fun W (hW : SlM W v m) => ivm_any W v m hW hm hr true (fun _ => rfl) (fun c => absurd hV c))
  have hD := Lib.hid (fun W => vf_any W y1 y2)
  rw [decide_eq_true hy] at hD
  obtain ⟨a, cap, rfl, hLi⟩ := hS.rows
  replace hS := Lib.hid hS
  replace hLi := Lib.hid hLi
  have hL := Lib.hid (fun W X Y (hX : W.cell? ⟨X, 0, none⟩ = some (.slice a m.length cap)) (hY0 : W.cell? ⟨Y, 0, none⟩ = some (.int .i64 y1)) (hY1 : W.cell? ⟨Y, 1, none⟩ = some (.int .i64 y2)) (hW : Rows W a m) => limM_ok 54 #[.pointer (some ⟨X, 0, none⟩), .pointer (some ⟨Y, 0, none⟩)] (fun _ _ => by kernel_rfl) W
    (fun W' u => MR (W.heap.size + 1) W' u m.length (gv m.length (gO (scF m (y1, y2))))) (fun W' u x h => h.setCell x (by show W.heap.size < _; omega)) (fun W' hz hb =>
      (scC_ok W' a cap m (y1, y2) X Y ((hb.cell (World.block_lt_of_cell? W _ hX)).trans hX) ((hb.cell (World.block_lt_of_cell? W _ hY0)).trans hY0) ((hb.cell (World.block_lt_of_cell? W _ hY1)).trans hY1) (hW.below hb) hV hy ho).mono fun e w' h => ⟨h.1.elim fun u hu => ⟨u, hu.1, by rw [← hz]; exact hu.2⟩, h.2⟩))
  obtain ⟨f, hf⟩ : ∃ f, gv m.length (gO (scF m (y1, y2))) = f := ⟨_, rfl⟩
  rw [hf] at hL ⊢
  clear hf
  clear hm hr hV ho hy
  obtain ⟨l, hl⟩ : ∃ l, m.length = l := ⟨_, rfl⟩
  rw [hl] at hC hS hL ⊢
  clear hl
  go_enter Try.func23, Try.ntmps23
  go_wp2_with fail
  refine (hC.out _ (hS.out.below (by (repeat (first | exact Below.refl _ _ | assumption | refine bchain (by assumption) ?_ | refine balloc ?_ _ | apply Below.drew | apply below_drewN | (refine Below.alloc ?_ (by (try simp) <;> omega) _) | (refine Below.setCell ?_ (by (try simp) <;> omega) _)))))).mono ?_
  rintro r1 w1 ⟨rfl, hb1⟩
  obtain ⟨hc1_0, hz1_0⟩ := bkeep hb1 w.heap.size (by (try simp) <;> omega)
  obtain ⟨hc1_1, hz1_1⟩ := bkeep hb1 (w.heap.size + 1) (by (try simp) <;> omega)
  have g0 : w1.cell? ⟨w.heap.size + 1, 0, none⟩ = some (.int .i64 y1) := (hc1_1 0).trans (by simp [go_sem])
  have g1 : w1.cell? ⟨w.heap.size + 1, 1, none⟩ = some (.int .i64 y2) := (hc1_1 1).trans (by simp [go_sem])
  go_wp2_with fail
  refine (hD.out _).mono ?_
  rintro r2 w2 ⟨rfl, hb2⟩
  obtain ⟨hc2_0, hz2_0⟩ := bkeep hb2 w.heap.size (by (try simp) <;> omega)
  obtain ⟨hc2_1, hz2_1⟩ := bkeep hb2 (w.heap.size + 1) (by (try simp) <;> omega)
  have e0 : w2.cell? ⟨w.heap.size, 0, none⟩ = some (.slice a l cap) := (hc2_0 0).trans ((hc1_0 0).trans (by simp [go_sem]))
  have e1 := (hc2_1 0).trans g0
  have e2 := (hc2_1 1).trans g1
  have hB2 : Below w.heap.size w w2 := by (repeat (first | exact Below.refl _ _ | assumption | refine bchain (by assumption) ?_ | refine balloc ?_ _ | apply Below.drew | apply below_drewN | (refine Below.alloc ?_ (by (try simp) <;> omega) _) | (refine Below.setCell ?_ (by (try simp) <;> omega) _)))
  have hge := hB2.size
  go_wp2_with fail
  refine (hL.out _ w.heap.size (w.heap.size + 1) (by simpa using e0) (by simpa using e1) (by simpa using e2) (hLi.out.below (by (repeat (first | exact Below.refl _ _ | assumption | refine bchain (by assumption) ?_ | refine balloc ?_ _ | apply Below.drew | apply below_drewN | (refine Below.alloc ?_ (by (try simp) <;> omega) _) | (refine Below.setCell ?_ (by (try simp) <;> omega) _)))))).mono ?_
  rintro r3 w3 ⟨⟨u, rfl, hR⟩, hb3⟩
  have hR2 := Lib.hid (hR.le (b1 := w.heap.size) (by omega))
  clear hR
  go_wp2
  exact bodyPost_ret (v := .tuple #[u, .int .i64 0]) (by simp [results, Try.results23, go_sem]) rfl ⟨⟨_, rfl, hR2.out⟩, by (repeat (first | exact Below.refl _ _ | assumption | refine bchain (by assumption) ?_ | refine balloc ?_ _ | apply Below.drew | apply below_drewN | (refine Below.alloc ?_ (by (try simp) <;> omega) _) | (refine Below.setCell ?_ (by (try simp) <;> omega) _)))⟩
theorem scI_lim (v : Value) (m : List (List (Int × Int))) (y1 y2 : Int) (hS : SlM w v m) (hm : m.length ≤ 1048576) (hr : ∀ i, i < m.length → (rAt m i).length ≤ 1048576)  (hV : VM m) (hy : VF y1 y2) (ho : ∃ i j, i < m.length ∧ j < m.length ∧ oO (scF m (y1, y2)) i j = false) :
    Calls Try.prog 23 #[v, .agg #[.int .i64 y1, .int .i64 y2]] w fun r w' => r = .returned (.tuple #[.slice none 0 0, .int .i64 3]) ∧ Below w.heap.size w w' := by
  have hmf : ∀ (fn : Fn) (first cap : Array Value) (w : World), (Instr.makeFunc fn first cap).run Try.prog w = .ok (.func fn first cap) w := fun _ _ _ _ => rfl
  have hC := Lib.hid (fun W (hW : SlM W v m) => ivm_any W v m hW hm hr true (fun _ => rfl) (fun c => absurd hV c))
  have hD := Lib.hid (fun W => vf_any W y1 y2)
  rw [decide_eq_true hy] at hD
  obtain ⟨a, cap, rfl, hLi⟩ := hS.rows
  replace hS := Lib.hid hS
  replace hLi := Lib.hid hLi
  have hL := Lib.hid (fun W X Y (hX : W.cell? ⟨X, 0, none⟩ = some (.slice a m.length cap)) (hY0 : W.cell? ⟨Y, 0, none⟩ = some (.int .i64 y1)) (hY1 : W.cell? ⟨Y, 1, none⟩ = some (.int .i64 y2)) (hW : Rows W a m) => limM_none 54 #[.pointer (some ⟨X, 0, none⟩), .pointer (some ⟨Y, 0, none⟩)] (fun _ _ => by kernel_rfl) W
    (fun W' _ hb => scC_pan W' a cap m (y1, y2) X Y ((hb.cell (World.block_lt_of_cell? W _ hX)).trans hX) ((hb.cell (World.block_lt_of_cell? W _ hY0)).trans hY0) ((hb.cell (World.block_lt_of_cell? W _ hY1)).trans hY1) (hW.below hb) hV hy ho))
  clear hm hr hV ho hy
  obtain ⟨l, hl⟩ : ∃ l, m.length = l := ⟨_, rfl⟩
  rw [hl] at hC hS hL ⊢
  clear hl
  go_enter Try.func23, Try.ntmps23
  go_wp2_with fail
  refine (hC.out _ (hS.out.below (by (repeat (first | exact Below.refl _ _ | assumption | refine bchain (by assumption) ?_ | refine balloc ?_ _ | apply Below.drew | apply below_drewN | (refine Below.alloc ?_ (by (try simp) <;> omega) _) | (refine Below.setCell ?_ (by (try simp) <;> omega) _)))))).mono ?_
  rintro r1 w1 ⟨rfl, hb1⟩
  obtain ⟨hc1_0, hz1_0⟩ := bkeep hb1 w.heap.size (by (try simp) <;> omega)
  obtain ⟨hc1_1, hz1_1⟩ := bkeep hb1 (w.heap.size + 1) (by (try simp) <;> omega)
  have g0 : w1.cell? ⟨w.heap.size + 1, 0, none⟩ = some (.int .i64 y1) := (hc1_1 0).trans (by simp [go_sem])
  have g1 : w1.cell? ⟨w.heap.size + 1, 1, none⟩ = some (.int .i64 y2) := (hc1_1 1).trans (by simp [go_sem])
  go_wp2_with fail
  refine (hD.out _).mono ?_
  rintro r2 w2 ⟨rfl, hb2⟩
  obtain ⟨hc2_0, hz2_0⟩ := bkeep hb2 w.heap.size (by (try simp) <;> omega)
  obtain ⟨hc2_1, hz2_1⟩ := bkeep hb2 (w.heap.size + 1) (by (try simp) <;> omega)
  have e0 : w2.cell? ⟨w.heap.size, 0, none⟩ = some (.slice a l cap) := (hc2_0 0).trans ((hc1_0 0).trans (by simp [go_sem]))
  have e1 := (hc2_1 0).trans g0
  have e2 := (hc2_1 1).trans g1
  have hB2 : Below w.heap.size w w2 := by (repeat (first | exact Below.refl _ _ | assumption | refine bchain (by assumption) ?_ | refine balloc ?_ _ | apply Below.drew | apply below_drewN | (refine Below.alloc ?_ (by (try simp) <;> omega) _) | (refine Below.setCell ?_ (by (try simp) <;> omega) _)))
  have hge := hB2.size
  go_wp2_with fail
  refine (hL.out _ w.heap.size (w.heap.size + 1) (by simpa using e0) (by simpa using e1) (by simpa using e2) (hLi.out.below (by (repeat (first | exact Below.refl _ _ | assumption | refine bchain (by assumption) ?_ | refine balloc ?_ _ | apply Below.drew | apply below_drewN | (refine Below.alloc ?_ (by (try simp) <;> omega) _) | (refine Below.setCell ?_ (by (try simp) <;> omega) _)))))).mono ?_
  rintro r3 w3 ⟨rfl, hb3⟩
  go_wp2
  exact bodyPost_ret (v := .tuple #[.slice none 0 0, .int .i64 3]) (by simp [results, Try.results23, go_sem]) rfl ⟨rfl, by (repeat (first | exact Below.refl _ _ | assumption | refine bchain (by assumption) ?_ | refine balloc ?_ _ | apply Below.drew | apply below_drewN | (refine Below.alloc ?_ (by (try simp) <;> omega) _) | (refine Below.setCell ?_ (by (try simp) <;> omega) _)))⟩
end
end Go.Proofs.Ytdibcchhamapjac
