/-
  AddMatrices: the model, whole; both sides.
-/
import Derived.Test.YtdibcchhamapjacFAdI
import Derived.Test.YtdibcchhamapjacFAdS
import Derived.Test.YtdibcchhamapjacFXm
namespace Go.Proofs.Ytdibcchhamapjac
open Go.RowKit
set_option maxRecDepth 100000
section
variable (w : World)
theorem sAM_bad1 (v v2 : Value) (m m2 : List (List (Int × Int))) (hS : SlM w v m) (_hS2 : SlM w v2 m2) (hm : m.length ≤ 1048576) (hr : ∀ i, i < m.length → (rAt m i).length ≤ 1048576) (hV : ¬ VM m) :
    Calls Try.prog 18 #[v, v2] w fun r w' => (∃ u cap, r = .returned (.tuple #[.slice u 0 cap, .int .i64 1]) ∧ cap ≤ 9223372036854775807) ∧ Below w.heap.size w w' := by
  have hC := Lib.hid (svm_any w v m hS hm hr false (fun c => absurd c hV) (fun _ => rfl))
  clear hm hr hV hS
  go_enter Try.func18, Try.ntmps18
  go_wp2_with fail
  refine hC.out.mono ?_
  rintro r1 w1 ⟨rfl, hb1⟩
  go_wp2
  go_ret2
  exact ⟨⟨_, _, rfl, by omega⟩, by (repeat (first | exact Below.refl _ _ | assumption | refine bchain (by assumption) ?_ | refine balloc ?_ _ | apply Below.drew | apply below_drewN | (refine Below.alloc ?_ (by (try simp) <;> omega) _) | (refine Below.setCell ?_ (by (try simp) <;> omega) _)))⟩
theorem sAM_bad2 (v v2 : Value) (m m2 : List (List (Int × Int))) (hS : SlM w v m) (hS2 : SlM w v2 m2) (hm : m.length ≤ 1048576) (hr : ∀ i, i < m.length → (rAt m i).length ≤ 1048576) (hm2 : m2.length ≤ 1048576) (hr2 : ∀ i, i < m2.length → (rAt m2 i).length ≤ 1048576) (hV : VM m) (hV2 : ¬ VM m2) :
    Calls Try.prog 18 #[v, v2] w fun r w' => (∃ u cap, r = .returned (.tuple #[.slice u 0 cap, .int .i64 1]) ∧ cap ≤ 9223372036854775807) ∧ Below w.heap.size w w' := by
  have hC := Lib.hid (svm_any w v m hS hm hr true (fun _ => rfl) (fun c => absurd hV c))
  have hD := Lib.hid (fun W (h : SlM W v2 m2) => svm_any W v2 m2 h hm2 hr2 false (fun c => absurd c hV2) (fun _ => rfl))
  replace hS2 := Lib.hid hS2
  clear hm hr hV hS hm2 hr2 hV2
  go_enter Try.func18, Try.ntmps18
  go_wp2_with fail
  refine hC.out.mono ?_
  rintro r1 w1 ⟨rfl, hb1⟩
  go_wp2_with fail
  refine (hD.out _ (hS2.out.below (by (repeat (first | exact Below.refl _ _ | assumption | refine bchain (by assumption) ?_ | refine balloc ?_ _ | apply Below.drew | apply below_drewN | (refine Below.alloc ?_ (by (try simp) <;> omega) _) | (refine Below.setCell ?_ (by (try simp) <;> omega) _)))))).mono ?_
  rintro r2 w2 ⟨rfl, hb2⟩
  go_wp2
  go_ret2
  exact ⟨⟨_, _, rfl, by omega⟩, by (repeat (first | exact Below.refl _ _ | assumption | refine bchain (by assumption) ?_ | refine balloc ?_ _ | apply Below.drew | apply below_drewN | (refine Below.alloc ?_ (by (try simp) <;> omega) _) | (refine Below.setCell ?_ (by (try simp) <;> omega) _)))⟩
theorem sAM_rng (v v2 : Value) (m m2 : List (List (Int × Int))) (hS : SlM w v m) (hS2 : SlM w v2 m2) (hm : m.length ≤ 1048576) (hr : ∀ i, i < m.length → (rAt m i).length ≤ 1048576) (hm2 : m2.length ≤ 1048576) (hr2 : ∀ i, i < m2.length → (rAt m2 i).length ≤ 1048576) (hV : VM m) (hV2 : VM m2) (hne : ¬ m.length = m2.length) :
    Calls Try.prog 18 #[v, v2] w fun r w' => (∃ u cap, r = .returned (.tuple #[.slice u 0 cap, .int .i64 2]) ∧ cap ≤ 9223372036854775807) ∧ Below w.heap.size w w' := by
  have hC := Lib.hid (svm_any w v m hS hm hr true (fun _ => rfl) (fun c => absurd hV c))
  have hD := Lib.hid (fun W (h : SlM W v2 m2) => svm_any W v2 m2 h hm2 hr2 true (fun _ => rfl) (fun c => absurd hV2 c))
  obtain ⟨a, cap, rfl, _⟩ := hS.rows
  obtain ⟨a2, cap2, rfl, _⟩ := hS2.rows
  replace hS2 := Lib.hid hS2
  clear hm hr hV hS hm2 hr2 hV2
  obtain ⟨l, hl⟩ : ∃ l, m.length = l := ⟨_, rfl⟩
  obtain ⟨l2, hl2⟩ : ∃ l, m2.length = l := ⟨_, rfl⟩
  rw [hl] at hC hne ⊢
  rw [hl2] at hD hS2 hne ⊢
  clear hl hl2
  have hne2 : ((l : Int) != (l2 : Int)) = true := by simp; omega
  go_enter Try.func18, Try.ntmps18
  go_wp2_with fail
  refine hC.out.mono ?_
  rintro r1 w1 ⟨rfl, hb1⟩
  go_wp2_with fail
  refine (hD.out _ (hS2.out.below (by (repeat (first | exact Below.refl _ _ | assumption | refine bchain (by assumption) ?_ | refine balloc ?_ _ | apply Below.drew | apply below_drewN | (refine Below.alloc ?_ (by (try simp) <;> omega) _) | (refine Below.setCell ?_ (by (try simp) <;> omega) _)))))).mono ?_
  rintro r2 w2 ⟨rfl, hb2⟩
  go_wp2
  go_ret2
  exact ⟨⟨_, _, rfl, by omega⟩, by (repeat (first | exact Below.refl _ _ | assumption | refine bchain (by assumption) ?_ | refine balloc ?_ _ | apply Below.drew | apply below_drewN | (refine Below.alloc ?_ (by (try simp) <;> omega) _) | (refine Below.setCell ?_ (by (try simp) <;> omega) _)))⟩
theorem sAM_any (v v2 : Value) (m m2 : List (List (Int × Int))) (hS : SlM w v m) (hS2 : SlM w v2 m2) (hm : m.length ≤ 1048576) (hr : ∀ i, i < m.length → (rAt m i).length ≤ 1048576) (hm2 : m2.length ≤ 1048576) (hr2 : ∀ i, i < m2.length → (rAt m2 i).length ≤ 1048576) (hV : VM m) (hV2 : VM m2) (he : m2.length = m.length) :
    Calls Try.prog 18 #[v, v2] w fun r w' => (((∀ i j, i < m.length → j < m.length → oO (adF m m2) i j = true) ∧ ∃ v, r = .returned (.tuple #[v, .int .i64 0]) ∧ MB w.heap.size w' v m.length (gO (adF m m2))) ∨ ((∃ i j, i < m.length ∧ j < m.length ∧ oO (adF m m2) i j = false) ∧ ∃ u cap, r = .returned (.tuple #[.slice u 0 cap, .int .i64 3]) ∧ cap ≤ 9223372036854775807)) ∧ Below w.heap.size w w' := by
  have hC := Lib.hid (svm_any w v m hS hm hr true (fun _ => rfl) (fun c => absurd hV c))
  have hD := Lib.hid (fun W (h : SlM W v2 m2) => svm_any W v2 m2 h hm2 hr2 true (fun _ => rfl) (fun c => absurd hV2 c))
  obtain ⟨a, cap, rfl, hLi⟩ := hS.rows
  obtain ⟨a2, cap2, rfl, hLi2⟩ := hS2.rows
  have hL := Lib.hid (fun W (hW : Rows W a m) (hW2 : Rows W a2 m2) => sad_any W a cap a2 cap2 m m2 hW hW2 hV hV2 he)
  replace hS2 := Lib.hid hS2
  replace hLi := Lib.hid hLi
  replace hLi2 := Lib.hid hLi2
  rw [he] at hD hS2 ⊢
  clear hm hr hV hS hm2 hr2 hV2 he
  obtain ⟨l, hl⟩ : ∃ l, m.length = l := ⟨_, rfl⟩
  rw [hl] at hC hD hS2 hL ⊢
  clear hl
  go_enter Try.func18, Try.ntmps18
  go_wp2_with fail
  refine hC.out.mono ?_
  rintro r1 w1 ⟨rfl, hb1⟩
  go_wp2_with fail
  refine (hD.out _ (hS2.out.below (by (repeat (first | exact Below.refl _ _ | assumption | refine bchain (by assumption) ?_ | refine balloc ?_ _ | apply Below.drew | apply below_drewN | (refine Below.alloc ?_ (by (try simp) <;> omega) _) | (refine Below.setCell ?_ (by (try simp) <;> omega) _)))))).mono ?_
  rintro r2 w2 ⟨rfl, hb2⟩
  have hge : w.heap.size ≤ w2.heap.size := Nat.le_trans hb1.size hb2.size
  go_wp2_with fail
  refine (hL.out _ (hLi.out.below (by (repeat (first | exact Below.refl _ _ | assumption | refine bchain (by assumption) ?_ | refine balloc ?_ _ | apply Below.drew | apply below_drewN | (refine Below.alloc ?_ (by (try simp) <;> omega) _) | (refine Below.setCell ?_ (by (try simp) <;> omega) _))))) (hLi2.out.below (by (repeat (first | exact Below.refl _ _ | assumption | refine bchain (by assumption) ?_ | refine balloc ?_ _ | apply Below.drew | apply below_drewN | (refine Below.alloc ?_ (by (try simp) <;> omega) _) | (refine Below.setCell ?_ (by (try simp) <;> omega) _)))))).mono ?_
  rintro r3 w3 ⟨⟨ho, v3, rfl, hM⟩ | ⟨ho, u, cap3, rfl, hc⟩, hb3⟩
  · have hM2 := Lib.hid (hM.le (b1 := w.heap.size) hge)
    replace ho := Lib.hid ho
    clear hM
    go_wp2
    go_ret2
    exact ⟨.inl ⟨ho.out, _, rfl, hM2.out⟩, by (repeat (first | exact Below.refl _ _ | assumption | refine bchain (by assumption) ?_ | refine balloc ?_ _ | apply Below.drew | apply below_drewN | (refine Below.alloc ?_ (by (try simp) <;> omega) _) | (refine Below.setCell ?_ (by (try simp) <;> omega) _)))⟩
  · replace ho := Lib.hid ho
    go_wp2
    go_ret2
    exact ⟨.inr ⟨ho.out, _, _, rfl, hc⟩, by (repeat (first | exact Below.refl _ _ | assumption | refine bchain (by assumption) ?_ | refine balloc ?_ _ | apply Below.drew | apply below_drewN | (refine Below.alloc ?_ (by (try simp) <;> omega) _) | (refine Below.setCell ?_ (by (try simp) <;> omega) _)))⟩
end
theorem am_both (m m2 : List (List (Int × Int))) (hm : m.length ≤ 1048576) (hr : ∀ i, i < m.length → (rAt m i).length ≤ 1048576) (hm2 : m2.length ≤ 1048576) (hr2 : ∀ i, i < m2.length → (rAt m2 i).length ≤ 1048576) : ∃ (n : Nat) (g : Nat → Nat → Int × Int) (c : Int), n ≤ 8 ∧
    (∀ W v v2, SlM W v m → SlM W v2 m2 → Calls Try.prog 18 #[v, v2] W fun r w' => (∃ v, r = .returned (.tuple #[v, .int .i64 c]) ∧ SlM w' v (matL n g)) ∧ Below W.heap.size W w') ∧
    (∀ W v v2, SlM W v m → SlM W v2 m2 → Calls Try.prog 20 #[v, v2] W fun r w' => (∃ u, r = .returned (.tuple #[u, .int .i64 c]) ∧ MR W.heap.size w' u n (gv n g)) ∧ Below W.heap.size W w') := by
  have hz : ∀ (w : World) (u : Option Addr) (cap : Nat), cap ≤ 9223372036854775807 → SlM w (.slice u 0 cap) (matL 0 fun _ _ => (0, 0)) := fun w u cap h => ⟨u, cap, rfl, Nat.zero_le _, h, fun c => absurd rfl c⟩
  have hnil : ∀ (c : Int), (∀ W v v2, SlM W v m → SlM W v2 m2 → Calls Try.prog 18 #[v, v2] W fun r w' => (∃ u cap, r = .returned (.tuple #[.slice u 0 cap, .int .i64 c]) ∧ cap ≤ 9223372036854775807) ∧ Below W.heap.size W w') →
      (∀ W v v2, SlM W v m → SlM W v2 m2 → Calls Try.prog 20 #[v, v2] W fun r w' => r = .returned (.tuple #[.slice none 0 0, .int .i64 c]) ∧ Below W.heap.size W w') →
      ∃ (n : Nat) (g : Nat → Nat → Int × Int) (c : Int), n ≤ 8 ∧
        (∀ W v v2, SlM W v m → SlM W v2 m2 → Calls Try.prog 18 #[v, v2] W fun r w' => (∃ v, r = .returned (.tuple #[v, .int .i64 c]) ∧ SlM w' v (matL n g)) ∧ Below W.heap.size W w') ∧
        (∀ W v v2, SlM W v m → SlM W v2 m2 → Calls Try.prog 20 #[v, v2] W fun r w' => (∃ u, r = .returned (.tuple #[u, .int .i64 c]) ∧ MR W.heap.size w' u n (gv n g)) ∧ Below W.heap.size W w') := fun c hs hi => by
    refine ⟨0, fun _ _ => (0, 0), c, by omega, fun W v v2 h h2 => (hs W v v2 h h2).mono ?_, fun W v v2 h h2 => (hi W v v2 h h2).mono ?_⟩
    · rintro r w' ⟨⟨u, cap, rfl, hc⟩, hb⟩
      exact ⟨⟨_, rfl, hz _ _ _ hc⟩, hb⟩
    · rintro r w' ⟨rfl, hb⟩
      exact ⟨⟨_, rfl, .inl ⟨rfl, none, 0, rfl, by omega⟩⟩, hb⟩
  by_cases hV : VM m
  · by_cases hV2 : VM m2
    · by_cases he : m2.length = m.length
      · by_cases ho : ∀ i j, i < m.length → j < m.length → oO (adF m m2) i j = true
        · refine ⟨m.length, gO (adF m m2), 0, hV.1, fun W v v2 hS hS2 => (sAM_any W v v2 m m2 hS hS2 hm hr hm2 hr2 hV hV2 he).mono ?_, fun W v v2 hS hS2 => adI_ok W v v2 m m2 hS hS2 hm hr hm2 hr2 hV hV2 he ho⟩
          rintro r w' ⟨⟨_, v2, rfl, hM⟩ | ⟨⟨i, j, hi, hj, hf⟩, _⟩, hb⟩
          · exact ⟨⟨_, rfl, hM.slm⟩, hb⟩
          · rw [ho i j hi hj] at hf; cases hf
        · have ho2 : ∃ i j, i < m.length ∧ j < m.length ∧ oO (adF m m2) i j = false := by
            refine Classical.byContradiction fun hn => ho fun i j hi hj => ?_
            cases hb : oO (adF m m2) i j with
            | true => rfl
            | false => exact absurd ⟨i, j, hi, hj, hb⟩ hn
          refine hnil 3 (fun W v v2 hS hS2 => (sAM_any W v v2 m m2 hS hS2 hm hr hm2 hr2 hV hV2 he).mono ?_) (fun W v v2 hS hS2 => adI_lim W v v2 m m2 hS hS2 hm hr hm2 hr2 hV hV2 he ho2)
          rintro r w' ⟨⟨h, _⟩ | ⟨_, u, cap, rfl, hc⟩, hb⟩
          · exact absurd h ho
          · exact ⟨⟨u, cap, rfl, hc⟩, hb⟩
      · exact hnil 2 (fun W v v2 hS hS2 => sAM_rng W v v2 m m2 hS hS2 hm hr hm2 hr2 hV hV2 (fun c => he c.symm)) (fun W v v2 hS hS2 => adI_rng W v v2 m m2 hS hS2 hm hr hm2 hr2 hV hV2 (fun c => he c.symm))
    · exact hnil 1 (fun W v v2 hS hS2 => sAM_bad2 W v v2 m m2 hS hS2 hm hr hm2 hr2 hV hV2) (fun W v v2 hS hS2 => adI_bad2 W v v2 m m2 hS hS2 hm hr hm2 hr2 hV hV2)
  · exact hnil 1 (fun W v v2 hS hS2 => sAM_bad1 W v v2 m m2 hS hS2 hm hr hV) (fun W v v2 hS hS2 => adI_bad1 W v v2 m m2 hS hS2 hm hr hV)
end Go.Proofs.Ytdibcchhamapjac
