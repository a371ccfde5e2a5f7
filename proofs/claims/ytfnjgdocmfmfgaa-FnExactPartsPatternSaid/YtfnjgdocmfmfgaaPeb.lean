/-
  EVEN PATTERNS AND THOSE OF SO MANY PARTS: both sides.
-/
import Derived.Test.YtfnjgdocmfmfgaaPe
import Derived.Test.YtfnjgdocmfmfgaaMade
namespace Go.Proofs.Ytfnjgdocmfmfgaa
open Go.RowKit
set_option maxRecDepth 100000
theorem ev_both (n e s : Int) (he0 : 0 ≤ e) (he : e < 4294967296) (h0 : 0 ≤ s) (h1 : s < 4294967296) : ∃ (L : PM) (c : Int), L.ts.length ≤ 1048576 ∧ (hpB n s = false → VG n e → c = 2 ∧ L = ⟨0, 0, 0, []⟩) ∧
    (∀ W, Calls Try.prog 20 #[.agg #[.int .i64 n, .int .u32 e], .int .u32 s] W (RetP W L c)) ∧
    (∀ W, Calls Try.prog 22 #[.agg #[.int .i64 n, .int .u32 e], .int .u32 s] W (RetP W L c)) := by
  by_cases hv : VG n e
  · by_cases hp : hpB n s = true
    · have hk : 1 ≤ n ∧ n ≤ 4 := by
        have hp2 := hp
        unfold hpB at hp2
        rw [decide_eq_true_iff] at hp2
        omega
      obtain ⟨k, rfl⟩ : ∃ k : Nat, n = k := ⟨n.toNat, by omega⟩
      exact ⟨⟨(k : Int), e, s, List.replicate k (1, (k : Int))⟩, 0, by show (List.replicate k ((1 : Int), (k : Int))).length ≤ _; rw [List.length_replicate]; omega, fun c => (by rw [hp] at c; cases c), fun W => sev_ok W k e s h0 h1 hp hv, fun W => iev_ok W k e s h0 h1 hp hv⟩
    · have hp2 := Bool.eq_false_iff.2 hp
      exact ⟨⟨0, 0, 0, []⟩, 2, by simp, fun _ _ => ⟨rfl, rfl⟩, fun W => sev_rng W n e s h0 h1 hp2 (fun W' => ok_t W' n e hv), fun W => iev_rng W n e s h0 h1 hp2 (fun W' => valid_t W' n e hv)⟩
  · exact ⟨⟨0, 0, 0, []⟩, 1, by simp, fun _ c => absurd c hv, fun W => sev_inv W n e s (fun W' => ok_f W' n e he he0 hv), fun W => iev_inv W n e s (fun W' => valid_f W' n e he he0 hv)⟩
section
variable (w : World)
theorem ipp_any (k m f d : Int) (L : PM) (c : Int) (hC : ∀ W, Calls Try.prog 64 #[.int .i64 k] W fun r w' => r = .returned (.tuple #[.agg #[.int .i64 m, .int .u32 f], .int .i64 d]) ∧ Below W.heap.size W w')
    (hE : ∀ W, Calls Try.prog 22 #[.agg #[.int .i64 m, .int .u32 f], .int .u32 0] W (RetP W L c)) :
    Calls Try.prog 26 #[.int .i64 k] w (RetP w L c) := by
  unfold RetP at hE ⊢
  obtain ⟨n, e, s, ts⟩ := L
  dsimp only at *
  replace hC := Lib.hid hC
  replace hE := Lib.hid hE
  obtain ⟨W0, hW0⟩ : ∃ W0, W0 = w.alloc (.cells #[.int .i64 0, .int .u32 0, .int .u32 0, .slice none 0 0] 33) := ⟨_, rfl⟩
  have hB0 : Below w.heap.size w W0 := by rw [hW0]; (repeat (first | exact Below.refl _ _ | assumption | refine bchain (by assumption) ?_ | refine balloc ?_ _ | apply Below.drew | apply below_drewN | (refine Below.alloc ?_ (by (try simp) <;> omega) _) | (refine Below.setCell ?_ (by (try simp) <;> omega) _)))
  have k1 : PB W0 w.heap.size 0 0 0 (.slice none 0 0) := by rw [hW0]; exact PB.made w 0 0 0 _ _
  replace hW0 := Lib.hid hW0
  go_enter Try.func26, Try.ntmps26
  go_wp2_with fail
  rw [← hW0.out]
  refine (hC.out _).mono ?_
  rintro r1 w1 ⟨rfl, hb1⟩
  replace k1 := k1.below hb1
  replace hB0 := bchain hb1 hB0
  clear hb1
  go_wp2_with fail
  refine (hE.out _).mono ?_
  rintro r2 w2 ⟨⟨u2, rfl, hU⟩, hb2⟩
  obtain ⟨av, cv, rfl, _⟩ := id hU
  have hb12 : Below w1.heap.size w1 w2 := bchain hb2 (balloc (Below.refl _ _) _)
  have hsb := k1.below hb12
  have hbw := bchain hb12 hB0
  have hown : OwnF w1 w2 (.slice av ts.length cv) ts := OwnF.mono hU (by simp)
  have hz5 : w.heap.size < w1.heap.size := k1.lt
  have hw5 : w.heap.size ≤ w1.heap.size := hB0.size
  obtain ⟨_, q0, q1, q2, q3, fR⟩ := id hsb
  clear hU hb2 k1
  obtain ⟨L, hL⟩ : ∃ L, ts.length = L := ⟨_, rfl⟩
  rw [hL] at hown ⊢
  clear hL
  go_wp2
  clear q0 q1 q2 q3 fR
  have hF := hsb.all (n) (e) (s) (.slice av L cv)
  have hBB := ((((hbw.setCell (p := ⟨w.heap.size, 0, none⟩) (by show w.heap.size ≤ w.heap.size; omega) (.int .i64 (n))).setCell (p := ⟨w.heap.size, 1, none⟩) (by show w.heap.size ≤ w.heap.size; omega) (.int .u32 (e))).setCell (p := ⟨w.heap.size, 2, none⟩) (by show w.heap.size ≤ w.heap.size; omega) (.int .u32 (s))).setCell (p := ⟨w.heap.size, 3, none⟩) (by show w.heap.size ≤ w.heap.size; omega) (.slice av L cv))
  obtain ⟨WW, hWW⟩ : ∃ WW, WW = ((((w2.setCell ⟨w.heap.size, 0, none⟩ (.int .i64 (n))).setCell ⟨w.heap.size, 1, none⟩ (.int .u32 (e))).setCell ⟨w.heap.size, 2, none⟩ (.int .u32 (s))).setCell ⟨w.heap.size, 3, none⟩ (.slice av L cv)) := ⟨_, rfl⟩
  have hOW := OwnF.four hown hz5 hw5 (.int .i64 (n)) (.int .u32 (e)) (.int .u32 (s)) (.slice av L cv)
  rw [← hWW] at hF hBB hOW ⊢
  clear hWW
  obtain ⟨_, hF0, hF1, hF2, hF3, _⟩ := hF
  exact bodyPost_ret (v := .tuple #[.agg #[.int .i64 (n), .int .u32 (e), .int .u32 (s), .slice av L cv], .int .i64 c]) (by simp [results, Try.results26, go_sem, hF0, hF1, hF2, hF3]) rfl ⟨⟨_, rfl, hOW⟩, hBB⟩
theorem spp_any (k m f d : Int) (L : PM) (c : Int) (hk : 1 ≤ k ∧ k ≤ 4) (hC : ∀ W, Calls Try.prog 63 #[.int .i64 k] W fun r w' => r = .returned (.tuple #[.agg #[.int .i64 m, .int .u32 f], .int .i64 d]) ∧ Below W.heap.size W w')
    (hE : ∀ W, Calls Try.prog 20 #[.agg #[.int .i64 m, .int .u32 f], .int .u32 0] W (RetP W L c)) :
    Calls Try.prog 25 #[.int .i64 k] w (RetP w L c) := by
  unfold RetP at hE ⊢
  obtain ⟨n, e, s, ts⟩ := L
  dsimp only at *
  replace hC := Lib.hid hC
  replace hE := Lib.hid hE
  have hI := Lib.hid (fun W => in_t W k 1 4 hk.1 hk.2)
  obtain ⟨W0, hW0⟩ : ∃ W0, W0 = w.alloc (.cells #[.int .i64 0, .int .u32 0, .int .u32 0, .slice none 0 0] 33) := ⟨_, rfl⟩
  have hB0 : Below w.heap.size w W0 := by rw [hW0]; (repeat (first | exact Below.refl _ _ | assumption | refine bchain (by assumption) ?_ | refine balloc ?_ _ | apply Below.drew | apply below_drewN | (refine Below.alloc ?_ (by (try simp) <;> omega) _) | (refine Below.setCell ?_ (by (try simp) <;> omega) _)))
  have k1 : PB W0 w.heap.size 0 0 0 (.slice none 0 0) := by rw [hW0]; exact PB.made w 0 0 0 _ _
  replace hW0 := Lib.hid hW0
  go_enter Try.func25, Try.ntmps25
  go_wp2_with fail
  rw [← hW0.out]
  refine (hI.out _).mono ?_
  rintro r0 w0 ⟨rfl, rfl⟩
  go_wp2_with fail
  refine (hC.out _).mono ?_
  rintro r1 w1 ⟨rfl, hb1⟩
  replace k1 := k1.below hb1
  replace hB0 := bchain hb1 hB0
  clear hb1
  go_wp2_with fail
  refine (hE.out _).mono ?_
  rintro r2 w2 ⟨⟨u2, rfl, hU⟩, hb2⟩
  obtain ⟨av, cv, rfl, _⟩ := id hU
  have hb12 : Below w1.heap.size w1 w2 := bchain hb2 (balloc (Below.refl _ _) _)
  have hsb := k1.below hb12
  have hbw := bchain hb12 hB0
  have hown : OwnF w1 w2 (.slice av ts.length cv) ts := OwnF.mono hU (by simp)
  have hz5 : w.heap.size < w1.heap.size := k1.lt
  have hw5 : w.heap.size ≤ w1.heap.size := hB0.size
  obtain ⟨_, q0, q1, q2, q3, fR⟩ := id hsb
  clear hU hb2 k1
  obtain ⟨L, hL⟩ : ∃ L, ts.length = L := ⟨_, rfl⟩
  rw [hL] at hown ⊢
  clear hL
  go_wp2
  clear q0 q1 q2 q3 fR
  have hF := hsb.all (n) (e) (s) (.slice av L cv)
  have hBB := ((((hbw.setCell (p := ⟨w.heap.size, 0, none⟩) (by show w.heap.size ≤ w.heap.size; omega) (.int .i64 (n))).setCell (p := ⟨w.heap.size, 1, none⟩) (by show w.heap.size ≤ w.heap.size; omega) (.int .u32 (e))).setCell (p := ⟨w.heap.size, 2, none⟩) (by show w.heap.size ≤ w.heap.size; omega) (.int .u32 (s))).setCell (p := ⟨w.heap.size, 3, none⟩) (by show w.heap.size ≤ w.heap.size; omega) (.slice av L cv))
  obtain ⟨WW, hWW⟩ : ∃ WW, WW = ((((w2.setCell ⟨w.heap.size, 0, none⟩ (.int .i64 (n))).setCell ⟨w.heap.size, 1, none⟩ (.int .u32 (e))).setCell ⟨w.heap.size, 2, none⟩ (.int .u32 (s))).setCell ⟨w.heap.size, 3, none⟩ (.slice av L cv)) := ⟨_, rfl⟩
  have hOW := OwnF.four hown hz5 hw5 (.int .i64 (n)) (.int .u32 (e)) (.int .u32 (s)) (.slice av L cv)
  rw [← hWW] at hF hBB hOW ⊢
  clear hWW
  obtain ⟨_, hF0, hF1, hF2, hF3, _⟩ := hF
  exact bodyPost_ret (v := .tuple #[.agg #[.int .i64 (n), .int .u32 (e), .int .u32 (s), .slice av L cv], .int .i64 c]) (by simp [results, Try.results25, go_sem, hF0, hF1, hF2, hF3]) rfl ⟨⟨_, rfl, hOW⟩, hBB⟩
theorem spp_rng (k : Int) (hk : k < 1 ∨ 4 < k) :
    Calls Try.prog 25 #[.int .i64 k] w (RetP w ⟨0, 0, 0, []⟩ 2) := by
  unfold RetP
  dsimp only
  have hI := Lib.hid (fun W => in_f W k 1 4 hk)
  obtain ⟨W0, hW0⟩ : ∃ W0, W0 = w.alloc (.cells #[.int .i64 0, .int .u32 0, .int .u32 0, .slice none 0 0] 33) := ⟨_, rfl⟩
  have hbw : Below w.heap.size w W0 := by rw [hW0]; (repeat (first | exact Below.refl _ _ | assumption | refine bchain (by assumption) ?_ | refine balloc ?_ _ | apply Below.drew | apply below_drewN | (refine Below.alloc ?_ (by (try simp) <;> omega) _) | (refine Below.setCell ?_ (by (try simp) <;> omega) _)))
  have hsb : PB W0 w.heap.size 0 0 0 (.slice none 0 0) := by rw [hW0]; exact PB.made w 0 0 0 _ _
  replace hW0 := Lib.hid hW0
  clear hk
  obtain ⟨_, q0, q1, q2, q3, fR⟩ := id hsb
  go_enter Try.func25, Try.ntmps25
  go_wp2_with fail
  rw [← hW0.out]
  refine (hI.out _).mono ?_
  rintro r0 w0 ⟨rfl, rfl⟩
  go_wp2
  clear q0 q1 q2 q3 fR
  have hF := hsb.all (0) (0) (0) (.slice none 0 0)
  have hBB := ((((hbw.setCell (p := ⟨w.heap.size, 0, none⟩) (by show w.heap.size ≤ w.heap.size; omega) (.int .i64 (0))).setCell (p := ⟨w.heap.size, 1, none⟩) (by show w.heap.size ≤ w.heap.size; omega) (.int .u32 (0))).setCell (p := ⟨w.heap.size, 2, none⟩) (by show w.heap.size ≤ w.heap.size; omega) (.int .u32 (0))).setCell (p := ⟨w.heap.size, 3, none⟩) (by show w.heap.size ≤ w.heap.size; omega) (.slice none 0 0))
  obtain ⟨WW, hWW⟩ : ∃ WW, WW = ((((W0.setCell ⟨w.heap.size, 0, none⟩ (.int .i64 (0))).setCell ⟨w.heap.size, 1, none⟩ (.int .u32 (0))).setCell ⟨w.heap.size, 2, none⟩ (.int .u32 (0))).setCell ⟨w.heap.size, 3, none⟩ (.slice none 0 0)) := ⟨_, rfl⟩
  rw [← hWW] at hF hBB ⊢
  clear hWW
  obtain ⟨_, hF0, hF1, hF2, hF3, _⟩ := hF
  exact bodyPost_ret (v := .tuple #[.agg #[.int .i64 (0), .int .u32 (0), .int .u32 (0), .slice none 0 0], .int .i64 2]) (by simp [results, Try.results25, go_sem, hF0, hF1, hF2, hF3]) rfl ⟨⟨_, rfl, ownF_nil⟩, hBB⟩
end
theorem parts_both (k : Int) : ∃ (L : PM) (c : Int), L.ts.length ≤ 1048576 ∧
    (∀ W, Calls Try.prog 25 #[.int .i64 k] W (RetP W L c)) ∧
    (∀ W, Calls Try.prog 26 #[.int .i64 k] W (RetP W L c)) := by
  by_cases hk : 1 ≤ k ∧ k ≤ 4
  · obtain ⟨K, rfl⟩ : ∃ K : Nat, k = K := ⟨k.toNat, by omega⟩
    have hmx := eMax_le K
    obtain ⟨L, c, hl, _, hs, hi⟩ := ev_both (K : Int) ((eMax K - 1 : Nat) : Int) 0 (by omega) (by omega) (by omega) (by omega)
    exact ⟨L, c, hl, fun W => spp_any W K K _ 0 L c hk (fun W' => scomplete_in W' K (by omega)) hs, fun W => ipp_any W K K _ 0 L c (fun W' => complete_in W' K (by omega)) hi⟩
  · refine ⟨⟨0, 0, 0, []⟩, 2, by simp, fun W => spp_rng W k (by omega), fun W => ?_⟩
    by_cases h5 : 0 ≤ k ∧ k ≤ 5
    · obtain ⟨K, rfl⟩ : ∃ K : Nat, k = K := ⟨k.toNat, by omega⟩
      have hmx := eMax_le K
      obtain ⟨L, c, hl, hr, hs, hi⟩ := ev_both (K : Int) ((eMax K - 1 : Nat) : Int) 0 (by omega) (by omega) (by omega) (by omega)
      have hf : hpB (K : Int) 0 = false := by unfold hpB; exact decide_eq_false (fun c => hk ⟨c.1, c.2.1⟩)
      have hp1 : 1 ≤ eMax K := by rw [eMax_pow K (by omega)]; exact Nat.pow_pos (by omega)
      obtain ⟨rfl, rfl⟩ := hr hf ⟨by omega, by omega, by omega, by rw [Int.toNat_natCast]; omega⟩
      exact ipp_any W K K _ 0 _ 2 (fun W' => complete_in W' K (by omega)) hi
    · obtain ⟨L, c, hl, hr, hs, hi⟩ := ev_both 0 0 0 (by omega) (by omega) (by omega) (by omega)
      obtain ⟨rfl, rfl⟩ := hr (by unfold hpB; exact decide_eq_false (fun c => by omega)) ⟨by omega, by omega, by omega, by decide⟩
      exact ipp_any W k 0 0 2 _ 2 (fun W' => complete_out W' k h5) hi
end Go.Proofs.Ytfnjgdocmfmfgaa
