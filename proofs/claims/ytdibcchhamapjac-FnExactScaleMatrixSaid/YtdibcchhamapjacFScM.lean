/-
  ScaleMatrix: the model, whole; both sides.
-/
import Derived.Test.YtdibcchhamapjacFScI
import Derived.Test.YtdibcchhamapjacFScS
import Derived.Test.YtdibcchhamapjacFXm
namespace Go.Proofs.Ytdibcchhamapjac
open Go.RowKit
set_option maxRecDepth 100000
section
variable (w : World)
theorem sCM_bad1 (v : Value) (m : List (List (Int × Int))) (y1 y2 : Int) (hS : SlM w v m) (hm : m.length ≤ 1048576) (hr : ∀ i, i < m.length → (rAt m i).length ≤ 1048576) (hV : ¬ VM m) :
    Calls Try.prog 21 #[v, .agg #[.int .i64 y1, .int .i64 y2]] w fun r w' => (∃ u cap, r = .returned (.tuple #[.slice u 0 cap, .int .i64 1]) ∧ cap ≤ 9223372036854775807) ∧ Below w.heap.size w w' := by
  have hC := Lib.hid (fun W (h : SlM W v m) => svm_any W v m h hm hr false (fun c => absurd c hV) (fun _ => rfl))
  replace hS := Lib.hid hS
  clear hm hr hV
  go_enter Try.func21, Try.ntmps21
  go_wp2_with fail
  refine (hC.out _ (hS.out.below (by (repeat (first | exact Below.refl _ _ | assumption | refine bchain (by assumption) ?_ | refine balloc ?_ _ | apply Below.drew | apply below_drewN | (refine Below.alloc ?_ (by (try simp) <;> omega) _) | (refine Below.setCell ?_ (by (try simp) <;> omega) _)))))).mono ?_
  rintro r1 w1 ⟨rfl, hb1⟩
  go_wp2
  go_ret2
  exact ⟨⟨_, _, rfl, by omega⟩, by (repeat (first | exact Below.refl _ _ | assumption | refine bchain (by assumption) ?_ | refine balloc ?_ _ | apply Below.drew | apply below_drewN | (refine Below.alloc ?_ (by (try simp) <;> omega) _) | (refine Below.setCell ?_ (by (try simp) <;> omega) _)))⟩
theorem sCM_bad2 (v : Value) (m : List (List (Int × Int))) (y1 y2 : Int) (hS : SlM w v m) (hm : m.length ≤ 1048576) (hr : ∀ i, i < m.length → (rAt m i).length ≤ 1048576) (hV : VM m) (hy : ¬ VF y1 y2) :
    Calls Try.prog 21 #[v, .agg #[.int .i64 y1, .int .i64 y2]] w fun r w' => (∃ u cap, r = .returned (.tuple #[.slice u 0 cap, .int .i64 1]) ∧ cap ≤ 9223372036854775807) ∧ Below w.heap.size w w' := by
  have hC := Lib.hid (fun W (h : SlM W v m) => svm_any W v m h hm hr true (fun _ => rfl) (fun c => absurd hV c))
  have hD := Lib.hid (fun W => ok_any W y1 y2)
  rw [decide_eq_false hy] at hD
  replace hS := Lib.hid hS
  clear hm hr hV hy
  go_enter Try.func21, Try.ntmps21
  go_wp2_with fail
  refine (hC.out _ (hS.out.below (by (repeat (first | exact Below.refl _ _ | assumption | refine bchain (by assumption) ?_ | refine balloc ?_ _ | apply Below.drew | apply below_drewN | (refine Below.alloc ?_ (by (try simp) <;> omega) _) | (refine Below.setCell ?_ (by (try simp) <;> omega) _)))))).mono ?_
  rintro r1 w1 ⟨rfl, hb1⟩
  obtain ⟨hc1_0, hz1_0⟩ := bkeep hb1 w.heap.size (by (try simp) <;> omega)
  have g0 : w1.cell? ⟨w.heap.size, 0, none⟩ = some (.int .i64 y1) := (hc1_0 0).trans (by simp [go_sem])
  have g1 : w1.cell? ⟨w.heap.size, 1, none⟩ = some (.int .i64 y2) := (hc1_0 1).trans (by simp [go_sem])
  go_wp2_with fail
  refine (hD.out _).mono ?_
  rintro r2 w2 ⟨rfl, hb2⟩
  go_wp2
  go_ret2
  exact ⟨⟨_, _, rfl, by omega⟩, by (repeat (first | exact Below.refl _ _ | assumption | refine bchain (by assumption) ?_ | refine balloc ?_ _ | apply Below.drew | apply below_drewN | (refine Below.alloc ?_ (by (try simp) <;> omega) _) | (refine Below.setCell ?_ (by (try simp) <;> omega) _)))⟩
theorem sCM_any (v : Value) (m : List (List (Int × Int))) (y1 y2 : Int) (hS : SlM w v m) (hm : m.length ≤ 1048576) (hr : ∀ i, i < m.length → (rAt m i).length ≤ 1048576) (hV : VM m) (hy : VF y1 y2) :
    Calls Try.prog 21 #[v, .agg #[.int .i64 y1, .int .i64 y2]] w fun r w' => (((∀ i j, i < m.length → j < m.length → oO (scF m (y1, y2)) i j = true) ∧ ∃ v, r = .returned (.tuple #[v, .int .i64 0]) ∧ MB w.heap.size w' v m.length (gO (scF m (y1, y2)))) ∨ ((∃ i j, i < m.length ∧ j < m.length ∧ oO (scF m (y1, y2)) i j = false) ∧ ∃ u cap, r = .returned (.tuple #[.slice u 0 cap, .int .i64 3]) ∧ cap ≤ 9223372036854775807)) ∧ Below w.heap.size w w' := by
  have hC := Lib.hid (fun W (h : SlM W v m) => svm_any W v m h hm hr true (fun _ => rfl) (fun c => absurd hV c))
  have hD := Lib.hid (fun W => ok_any W y1 y2)
  rw [decide_eq_true hy] at hD
  obtain ⟨a, cap, rfl, hLi⟩ := hS.rows
  have hL := Lib.hid (fun W (hW : Rows W a m) => ssc_any W a cap m y1 y2 hW hV (show VF (y1, y2).1 (y1, y2).2 from hy))
  replace hS := Lib.hid hS
  replace hLi := Lib.hid hLi
  clear hm hr hV hy
  obtain ⟨g, hg⟩ : ∃ g, gO (scF m (y1, y2)) = g := ⟨_, rfl⟩
  obtain ⟨o0, ho0⟩ : ∃ g, oO (scF m (y1, y2)) = g := ⟨_, rfl⟩
  rw [hg, ho0] at hL ⊢
  clear hg ho0
  obtain ⟨l, hl⟩ : ∃ l, m.length = l := ⟨_, rfl⟩
  rw [hl] at hC hS hL ⊢
  clear hl
  go_enter Try.func21, Try.ntmps21
  go_wp2_with fail
  refine (hC.out _ (hS.out.below (by (repeat (first | exact Below.refl _ _ | assumption | refine bchain (by assumption) ?_ | refine balloc ?_ _ | apply Below.drew | apply below_drewN | (refine Below.alloc ?_ (by (try simp) <;> omega) _) | (refine Below.setCell ?_ (by (try simp) <;> omega) _)))))).mono ?_
  rintro r1 w1 ⟨rfl, hb1⟩
  obtain ⟨hc1_0, hz1_0⟩ := bkeep hb1 w.heap.size (by (try simp) <;> omega)
  have g0 : w1.cell? ⟨w.heap.size, 0, none⟩ = some (.int .i64 y1) := (hc1_0 0).trans (by simp [go_sem])
  have g1 : w1.cell? ⟨w.heap.size, 1, none⟩ = some (.int .i64 y2) := (hc1_0 1).trans (by simp [go_sem])
  go_wp2_with fail
  refine (hD.out _).mono ?_
  rintro r2 w2 ⟨rfl, hb2⟩
  have hlt : w.heap.size < w1.heap.size := hz1_0
  have e0 := (hb2.cell (p := ⟨w.heap.size, 0, none⟩) hlt).trans g0
  have e1 := (hb2.cell (p := ⟨w.heap.size, 1, none⟩) hlt).trans g1
  have hge : w.heap.size ≤ w2.heap.size := Nat.le_trans (Nat.le_of_lt hlt) hb2.size
  go_wp2_with fail
  refine (hL.out _ (hLi.out.below (by (repeat (first | exact Below.refl _ _ | assumption | refine bchain (by assumption) ?_ | refine balloc ?_ _ | apply Below.drew | apply below_drewN | (refine Below.alloc ?_ (by (try simp) <;> omega) _) | (refine Below.setCell ?_ (by (try simp) <;> omega) _)))))).mono ?_
  rintro r3 w3 ⟨⟨ho, v3, rfl, hM⟩ | ⟨ho, u, cap3, rfl, hc⟩, hb3⟩
  · have hM2 := Lib.hid (hM.le (b1 := w.heap.size) hge)
    replace ho := Lib.hid ho
    clear hM
    go_wp2
    go_ret2
    exact ⟨.inl ⟨ho.out, _, rfl, hM2.out⟩, by (repeat (first | exact Below.refl _ _ | assumption | refine bchain (by assumption) ?_ | refine balloc ?_ _ | apply Below.drew | apply below_drewN | (refine Below.alloc ?_ (by (try simp) <;> omega) _) | (refine Below.setCell ?_ (by (try simp) <;> omega) _)))⟩
  · replace ho := Lib.hid ho
    go_wp2
    go_ret2
    exact ⟨.inr ⟨ho.out, _, _, rfl, hc⟩, by (repeat (first | exact Below.refl _ _ | assumption | refine bchain (by assumption) ?_ | refine balloc ?_ _ | apply Below.drew | apply below_drewN | (refine Below.alloc ?_ (by (try simp) <;> omega) _) | (refine Below.setCell ?_ (by (try simp) <;> omega) _)))⟩
end
theorem cm_both (m : List (List (Int × Int))) (y1 y2 : Int) (hm : m.length ≤ 1048576) (hr : ∀ i, i < m.length → (rAt m i).length ≤ 1048576) : ∃ (n : Nat) (g : Nat → Nat → Int × Int) (c : Int), n ≤ 8 ∧
    (∀ W v, SlM W v m → Calls Try.prog 21 #[v, .agg #[.int .i64 y1, .int .i64 y2]] W fun r w' => (∃ v, r = .returned (.tuple #[v, .int .i64 c]) ∧ SlM w' v (matL n g)) ∧ Below W.heap.size W w') ∧
    (∀ W v, SlM W v m → Calls Try.prog 23 #[v, .agg #[.int .i64 y1, .int .i64 y2]] W fun r w' => (∃ u, r = .returned (.tuple #[u, .int .i64 c]) ∧ MR W.heap.size w' u n (gv n g)) ∧ Below W.heap.size W w') := by
  have hz : ∀ (w : World) (u : Option Addr) (cap : Nat), cap ≤ 9223372036854775807 → SlM w (.slice u 0 cap) (matL 0 fun _ _ => (0, 0)) := fun w u cap h => ⟨u, cap, rfl, Nat.zero_le _, h, fun c => absurd rfl c⟩
  have hnil : ∀ (c : Int), (∀ W v, SlM W v m → Calls Try.prog 21 #[v, .agg #[.int .i64 y1, .int .i64 y2]] W fun r w' => (∃ u cap, r = .returned (.tuple #[.slice u 0 cap, .int .i64 c]) ∧ cap ≤ 9223372036854775807) ∧ Below W.heap.size W w') →
      (∀ W v, SlM W v m → Calls Try.prog 23 #[v, .agg #[.int .i64 y1, .int .i64 y2]] W fun r w' => r = .returned (.tuple #[.slice none 0 0, .int .i64 c]) ∧ Below W.heap.size W w') →
      ∃ (n : Nat) (g : Nat → Nat → Int × Int) (c : Int), n ≤ 8 ∧
        (∀ W v, SlM W v m → Calls Try.prog 21 #[v, .agg #[.int .i64 y1, .int .i64 y2]] W fun r w' => (∃ v, r = .returned (.tuple #[v, .int .i64 c]) ∧ SlM w' v (matL n g)) ∧ Below W.heap.size W w') ∧
        (∀ W v, SlM W v m → Calls Try.prog 23 #[v, .agg #[.int .i64 y1, .int .i64 y2]] W fun r w' => (∃ u, r = .returned (.tuple #[u, .int .i64 c]) ∧ MR W.heap.size w' u n (gv n g)) ∧ Below W.heap.size W w') := fun c hs hi => by
    refine ⟨0, fun _ _ => (0, 0), c, by omega, fun W v h => (hs W v h).mono ?_, fun W v h => (hi W v h).mono ?_⟩
    · rintro r w' ⟨⟨u, cap, rfl, hc⟩, hb⟩
      exact ⟨⟨_, rfl, hz _ _ _ hc⟩, hb⟩
    · rintro r w' ⟨rfl, hb⟩
      exact ⟨⟨_, rfl, .inl ⟨rfl, none, 0, rfl, by omega⟩⟩, hb⟩
  by_cases hV : VM m
  · by_cases hy : VF y1 y2
    · by_cases ho : ∀ i j, i < m.length → j < m.length → oO (scF m (y1, y2)) i j = true
      · refine ⟨m.length, gO (scF m (y1, y2)), 0, hV.1, fun W v hS => (sCM_any W v m y1 y2 hS hm hr hV hy).mono ?_, fun W v hS => scI_ok W v m y1 y2 hS hm hr hV hy ho⟩
        rintro r w' ⟨⟨_, v2, rfl, hM⟩ | ⟨⟨i, j, hi, hj, hf⟩, _⟩, hb⟩
        · exact ⟨⟨_, rfl, hM.slm⟩, hb⟩
        · rw [ho i j hi hj] at hf; cases hf
      · have ho2 : ∃ i j, i < m.length ∧ j < m.length ∧ oO (scF m (y1, y2)) i j = false := by
          refine Classical.byContradiction fun hn => ho fun i j hi hj => ?_
          cases hb : oO (scF m (y1, y2)) i j with
          | true => rfl
          | false => exact absurd ⟨i, j, hi, hj, hb⟩ hn
        refine hnil 3 (fun W v hS => (sCM_any W v m y1 y2 hS hm hr hV hy).mono ?_) (fun W v hS => scI_lim W v m y1 y2 hS hm hr hV hy ho2)
        rintro r w' ⟨⟨h, _⟩ | ⟨_, u, cap, rfl, hc⟩, hb⟩
        · exact absurd h ho
        · exact ⟨⟨u, cap, rfl, hc⟩, hb⟩
    · exact hnil 1 (fun W v hS => sCM_bad2 W v m y1 y2 hS hm hr hV hy) (fun W v hS => scI_bad2 W v m y1 y2 hS hm hr hV hy)
  · exact hnil 1 (fun W v hS => sCM_bad1 W v m y1 y2 hS hm hr hV) (fun W v hS => scI_bad1 W v m y1 y2 hS hm hr hV)
end Go.Proofs.Ytdibcchhamapjac
