/-
  THE TEXT OF A DEED: the model's contract.
-/
import Derived.Test.YtkjbgiffemdpgaaDoorDt
namespace Go.Proofs.YtkjbgiffemdpgaaDoor
open Go.RowKit
set_option maxRecDepth 100000
attribute [local go_sem] Oper.semAt_some
section
variable (w : World)
theorem sdt_f (k a b : Int) (h : ¬ VD k a b) :
    Calls Tryd.prog 9 #[.agg #[.int .i64 k, .int .i64 a, .int .i64 b]] w fun r w' => r = .returned (.string ⟨#[]⟩) ∧ Below w.heap.size w w' := by
  have hV := Lib.hid (fun W => sldeed_any W k a b)
  rw [decide_eq_false h] at hV
  clear h
  go_enter Tryd.func9, Tryd.ntmps9
  go_wp2_with fail
  refine (hV.out _).mono ?_
  rintro r1 w1 ⟨rfl, hb1⟩
  go_wp2
  go_ret
  exact ⟨rfl, by (repeat (first | exact Below.refl _ _ | assumption | refine bchain (by assumption) ?_ | refine balloc ?_ _ | apply Below.drew | apply below_drewN | (refine Below.alloc ?_ (by (try simp) <;> omega) _) | (refine Below.setCell ?_ (by (try simp) <;> omega) _)))⟩
set_option maxHeartbeats 2000000 in
theorem sdt_t (k a b : Nat) (h : VD k a b) :
    Calls Tryd.prog 9 #[.agg #[.int .i64 k, .int .i64 a, .int .i64 b]] w fun r w' => r = .returned (.string (dText k a b)) ∧ Below w.heap.size w w' := by
  have hV := Lib.hid (fun W => sldeed_any W k a b)
  rw [decide_eq_true h] at hV
  obtain ⟨hk1, hk7, _, ha, _, hb, _, _⟩ := h
  have hA := Lib.hid (fun W => dec_any 2 W a (by omega) (by omega))
  have hB := Lib.hid (fun W => dec_any 2 W b (by omega) (by omega))
  have hsw := Lib.hid (fun W => swords_any W)
  unfold WordsL at hsw
  have hm := wdN_b k (by omega)
  have hsz := wdB_size k (by omega)
  have hk8 : (k : Int) < 8 := by omega
  have hk0 : (0 : Int) ≤ (k : Int) := by omega
  have hkn : k < 8 := by omega
  obtain ⟨s1, hs1⟩ : ∃ s1, (if 0 < wdN k then dNum (wdB k) a else wdB k) = s1 := ⟨_, rfl⟩
  obtain ⟨s2, hs2⟩ : ∃ s2, (if 1 < wdN k then dNum s1 b else s1) = s2 := ⟨_, rfl⟩
  have hd : dText k a b = s2 := by
    unfold dText
    simp only
    rw [hs1, hs2]
  rw [hd]
  have hs1z : s1.size ≤ 28 := by
    rw [← hs1]
    split
    · have := dNum_size (wdB k) a (by omega); omega
    · omega
  have hr1 := run_num (wdB k) a (by omega) (by omega)
  have hr2 := run_num s1 b (by omega) (by omega)
  obtain ⟨s0, hs0⟩ : ∃ s0, wdB k = s0 := ⟨_, rfl⟩
  obtain ⟨m, hm2⟩ : ∃ m, wdN k = m := ⟨_, rfl⟩
  rw [hs0] at hs1 hr1
  rw [hm2] at hs1 hs2 hm
  obtain ⟨A, hAe⟩ : ∃ A, tx (Lib.decDigits a) = A := ⟨_, rfl⟩
  obtain ⟨B, hBe⟩ : ∃ B, tx (Lib.decDigits b) = B := ⟨_, rfl⟩
  rw [hAe] at hA hr1
  rw [hBe] at hB hr2
  obtain ⟨x1, x2⟩ := hr1
  obtain ⟨x3, x4⟩ := hr2
  obtain ⟨t1, ht1⟩ : ∃ t1, dNum s0 a = t1 := ⟨_, rfl⟩
  obtain ⟨t2, ht2⟩ : ∃ t2, dNum s1 b = t2 := ⟨_, rfl⟩
  rw [ht1] at x2 hs1
  rw [ht2] at x4 hs2
  have hsp : spB = { data := #[32] } := rfl
  rw [hsp] at x1 x2 x3 x4
  replace hs0 := Lib.hid hs0
  replace hm2 := Lib.hid hm2
  clear hd hAe hBe ht1 ht2 hsp hs1z hsz
  obtain ⟨W0, hW0⟩ : ∃ W0, W0 = w.alloc (.cells #[.int .i64 (k : Int), .int .i64 (a : Int), .int .i64 (b : Int)] 25) := ⟨_, rfl⟩
  have hB0 : Below w.heap.size w W0 := by rw [hW0]; (repeat (first | exact Below.refl _ _ | assumption | refine bchain (by assumption) ?_ | refine balloc ?_ _ | apply Below.drew | apply below_drewN | (refine Below.alloc ?_ (by (try simp) <;> omega) _) | (refine Below.setCell ?_ (by (try simp) <;> omega) _)))
  have hz0 : w.heap.size < W0.heap.size := by rw [hW0]; simp
  have hbx : Hid (∀ W, Below W0.heap.size W0 W → W.cell? ⟨w.heap.size, 0, none⟩ = some (.int .i64 (k : Int)) ∧ W.cell? ⟨w.heap.size, 1, none⟩ = some (.int .i64 (a : Int)) ∧ W.cell? ⟨w.heap.size, 2, none⟩ = some (.int .i64 (b : Int))) := fun W h => by
    refine ⟨(h.cell (p := ⟨w.heap.size, 0, none⟩) hz0).trans ?_, (h.cell (p := ⟨w.heap.size, 1, none⟩) hz0).trans ?_, (h.cell (p := ⟨w.heap.size, 2, none⟩) hz0).trans ?_⟩ <;> (rw [hW0, World.cell?_alloc_new]; rfl)
  replace hW0 := Lib.hid hW0
  obtain ⟨y0, y1, y2⟩ := hbx.out W0 (Below.refl _ _)
  have fin : Hid (∀ (c1 c2 : Bool), (0 < m ↔ c1 = true) → (1 < m ↔ c2 = true) → s1 = (if c1 then t1 else s0) ∧ s2 = (if c2 then t2 else s1)) := fun c1 c2 h1 h2 => by
    refine ⟨?_, ?_⟩
    · rw [← hs1]
      cases c1
      · rw [if_neg (by rw [h1]; decide)]; rfl
      · rw [if_pos (h1.2 rfl)]; rfl
    · rw [← hs2]
      cases c2
      · rw [if_neg (by rw [h2]; decide)]; rfl
      · rw [if_pos (h2.2 rfl)]; rfl
  clear hs1 hs2
  go_enter Tryd.func9, Tryd.ntmps9
  go_wp2_with fail
  rw [← hW0.out]
  go_wp2_with fail
  refine (hV.out _).mono ?_
  rintro r1 w1 ⟨rfl, hb1⟩
  clear y0 y1 y2
  go_wp2_with fail
  refine (hsw.out _).mono ?_
  rintro r2 w2 ⟨P, Q, rfl, hb2, hPl, hQl, cP, cQ⟩
  have hb3 := bchain hb2 hb1
  have hcw := Lib.hid (fun W (h : Below w2.heap.size w2 W) => (by
    rw [← hs0.out, ← hm2.out]
    exact ⟨(h.cell (p := ⟨P, k, none⟩) hPl).trans (cP k hkn), (h.cell (p := ⟨Q, k, none⟩) hQl).trans (cQ k hkn), hbx.out W (bchain h hb3)⟩ : W.cell? ⟨P, k, none⟩ = some (.string s0) ∧ W.cell? ⟨Q, k, none⟩ = some (.int .i64 m) ∧ W.cell? ⟨w.heap.size, 0, none⟩ = some (.int .i64 (k : Int)) ∧ W.cell? ⟨w.heap.size, 1, none⟩ = some (.int .i64 (a : Int)) ∧ W.cell? ⟨w.heap.size, 2, none⟩ = some (.int .i64 (b : Int))))
  have hB2 : Below w.heap.size w w2 := bchain hb3 hB0
  obtain ⟨z0, z1, y0, y1, y2⟩ := hcw.out w2 (Below.refl _ _)
  clear cP cQ hb2 hb3 hb1 hPl hQl
  by_cases p : 0 < m
  · by_cases r : 1 < m
    · obtain ⟨e1, e2⟩ := fin.out true true ⟨fun _ => rfl, fun _ => p⟩ ⟨fun _ => rfl, fun _ => r⟩
      obtain rfl : s1 = t1 := e1
      obtain rfl : s2 = t2 := e2
      clear fin
      go_wp2_with fail
      refine (hA.out _).mono ?_
      rintro r4 w4 ⟨rfl, hb4⟩
      clear z0 z1 y0 y1 y2
      obtain ⟨z0, z1, y0, y1, y2⟩ := hcw.out w4 hb4
      go_wp2_with fail
      refine (hB.out _).mono ?_
      rintro r5 w5 ⟨rfl, hb5⟩
      go_wp2
      go_ret
      exact ⟨rfl, bchain hb5 (bchain hb4 hB2)⟩
    · obtain ⟨e1, e2⟩ := fin.out true false ⟨fun _ => rfl, fun _ => p⟩ ⟨fun c => absurd c r, fun c => by cases c⟩
      obtain rfl : s1 = t1 := e1
      obtain rfl : s2 = s1 := e2
      clear fin
      go_wp2_with fail
      refine (hA.out _).mono ?_
      rintro r4 w4 ⟨rfl, hb4⟩
      clear z0 z1 y0 y1 y2
      obtain ⟨z0, z1, y0, y1, y2⟩ := hcw.out w4 hb4
      go_wp2
      go_ret
      exact ⟨rfl, bchain hb4 hB2⟩
  · have r : ¬ 1 < m := by omega
    obtain ⟨e1, e2⟩ := fin.out false false ⟨fun c => absurd c p, fun c => by cases c⟩ ⟨fun c => absurd c r, fun c => by cases c⟩
    obtain rfl : s1 = s0 := e1
    obtain rfl : s2 = s1 := e2
    clear fin
    go_wp2
    go_ret
    exact ⟨rfl, hB2⟩
end
end Go.Proofs.YtkjbgiffemdpgaaDoor
