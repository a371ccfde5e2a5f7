/-
  Is a sum of flags valid: the model's contract.
-/
import Derived.Test.YtiedombphcdpbaaDoorSTvalid
namespace Go.Proofs.YtiedombphcdpbaaDoor
open Go.RowKit Go.Shelf
set_option maxRecDepth 100000
attribute [local go_sem] Oper.semAt_some
section
variable (w : World)
theorem sv5_type (G : Nat) (n e s : Int) (a : Option Addr) (l cap : Nat) (c1 : SB w G n e s (.slice a l cap)) (he : e < 4294967296) (h0 : 0 ≤ e) (hv : ¬ VG n e) :
    Calls Tryd.prog 37 #[.pointer (some ⟨G, 0, none⟩)] w fun r w' => r = .returned (.bool false) ∧ Below w.heap.size w w' := by
  have hV := Lib.hid (fun W => ok_f W n e he h0 hv)
  have q0 := bw_cell c1.lt c1.c0
  have q1 := bw_cell c1.lt c1.c1
  have q2 := bw_cell c1.lt c1.c2
  have q3 := bw_cell c1.lt c1.c3
  clear hv he h0 c1
  go_enter Tryd.func37, Tryd.ntmps37
  go_wp2
  refine wp_region_below (by kernel_rfl) (by kernel_rfl) ?_
  iterate 4 (quiet_step (fail))
  refine wpQuiet_step (fun K hK => ?_)
  go_simp
  apply Exists.intro
  refine ⟨fun p => ?_, hK _ ?_⟩
  · exact bw_of (w := w) (p := p) (hV.out p.W)
  clear hK K
  iterate 2 (quiet_step (fail))
  iterate 10 go_big_quiet_skip
  iterate 2 (quiet_step (fail))
  iterate 6 go_big_quiet_skip
  iterate 1 (quiet_step (fail))
  refine wpQuiet_nil ?_
  intro w3 hw'
  obtain ⟨⟨wx, hb_w3⟩, rfl⟩ := hw'
  go_wp2
  go_ret
  exact ⟨rfl, hb_w3⟩
theorem sv5_frame (G : Nat) (n e s : Int) (a : Option Addr) (l cap : Nat) (c1 : SB w G n e s (.slice a l cap)) (hv : VG n e) (hf : frB n s = false) :
    Calls Tryd.prog 37 #[.pointer (some ⟨G, 0, none⟩)] w fun r w' => r = .returned (.bool false) ∧ Below w.heap.size w w' := by
  have hV := Lib.hid (fun W => ok_t W n e hv)
  have hF := Lib.hid (fun W => sfr_any W n e s)
  rw [hf] at hF
  have q0 := bw_cell c1.lt c1.c0
  have q1 := bw_cell c1.lt c1.c1
  have q2 := bw_cell c1.lt c1.c2
  have q3 := bw_cell c1.lt c1.c3
  clear hv hf c1
  go_enter Tryd.func37, Tryd.ntmps37
  go_wp2
  refine wp_region_below (by kernel_rfl) (by kernel_rfl) ?_
  iterate 4 (quiet_step (fail))
  refine wpQuiet_step (fun K hK => ?_)
  go_simp
  apply Exists.intro
  refine ⟨fun p => ?_, hK _ ?_⟩
  · exact bw_of (w := w) (p := p) (hV.out p.W)
  clear hK K
  iterate 2 (quiet_step (fail))
  iterate 8 (quiet_step (fail))
  refine wpQuiet_step (fun K hK => ?_)
  go_simp
  apply Exists.intro
  refine ⟨fun p => ?_, hK _ ?_⟩
  · exact bw_of (w := w) (p := p) (hF.out p.W)
  clear hK K
  iterate 1 (quiet_step (fail))
  iterate 2 (quiet_step (fail))
  iterate 6 go_big_quiet_skip
  iterate 1 (quiet_step (fail))
  refine wpQuiet_nil ?_
  intro w3 hw'
  obtain ⟨⟨wx, hb_w3⟩, rfl⟩ := hw'
  go_wp2
  go_ret
  exact ⟨rfl, hb_w3⟩
theorem sv5_len (G : Nat) (n e s : Int) (a : Option Addr) (l cap : Nat) (c1 : SB w G n e s (.slice a l cap)) (hl : 64 < l) (hl2 : l ≤ 9223372036854775807) (hv : VG n e) (hf : frB n s = true) :
    Calls Tryd.prog 37 #[.pointer (some ⟨G, 0, none⟩)] w fun r w' => r = .returned (.bool false) ∧ Below w.heap.size w w' := by
  have hV := Lib.hid (fun W => ok_t W n e hv)
  have hF := Lib.hid (fun W => sfr_any W n e s)
  rw [hf] at hF
  have q0 := bw_cell c1.lt c1.c0
  have q1 := bw_cell c1.lt c1.c1
  have q2 := bw_cell c1.lt c1.c2
  have q3 := bw_cell c1.lt c1.c3
  clear hv hf c1
  go_enter Tryd.func37, Tryd.ntmps37
  go_wp2
  refine wp_region_below (by kernel_rfl) (by kernel_rfl) ?_
  iterate 4 (quiet_step (fail))
  refine wpQuiet_step (fun K hK => ?_)
  go_simp
  apply Exists.intro
  refine ⟨fun p => ?_, hK _ ?_⟩
  · exact bw_of (w := w) (p := p) (hV.out p.W)
  clear hK K
  iterate 2 (quiet_step (fail))
  iterate 8 (quiet_step (fail))
  refine wpQuiet_step (fun K hK => ?_)
  go_simp
  apply Exists.intro
  refine ⟨fun p => ?_, hK _ ?_⟩
  · exact bw_of (w := w) (p := p) (hF.out p.W)
  clear hK K
  iterate 1 (quiet_step (fail))
  iterate 2 (quiet_step (fail))
  iterate 6 (quiet_step (fail))
  iterate 1 (quiet_step (fail))
  refine wpQuiet_nil ?_
  intro w3 hw'
  obtain ⟨⟨wx, hb_w3⟩, rfl⟩ := hw'
  go_wp2
  go_ret
  exact ⟨rfl, hb_w3⟩
set_option maxHeartbeats 16000000 in
theorem sv5_ok (G : Nat) (n e s : Int) (ts : List TE) (u : Value) (c1 : SB w G n e s u) (hS : SlT w u ts) (hbd : BdT ts) (hl : ts.length ≤ 64) (hv : VG n e) (hf : frB n s = true) (B : Bool) (hB0 : B = true ↔ ∀ i, i < ts.length → TOk ⟨n, e, s, ts⟩ i) :
    Calls Tryd.prog 37 #[.pointer (some ⟨G, 0, none⟩)] w fun r w' => r = .returned (.bool B) ∧ Below w.heap.size w w' := by
  unfold TOk at hB0
  dsimp only at hB0
  obtain ⟨a, cap, rfl, h1, h2, h3⟩ := hS
  have hV := Lib.hid (fun W => ok_t W n e hv)
  have hF := Lib.hid (fun W => sfr_any W n e s)
  rw [hf] at hF
  replace hB0 := Lib.hid hB0
  replace hbd := Lib.hid hbd
  obtain ⟨l, hld⟩ : ∃ l, ts.length = l := ⟨_, rfl⟩
  have h3b : Hid (0 < l → ∃ b off, a = some ⟨b, off, none⟩ ∧ b < w.heap.size ∧ ∀ i, i < l → TCell w b off (tAt ts i) i) := fun h => by rw [← hld] at h ⊢; exact h3 (List.length_pos_iff.1 h)
  rw [hld] at h1 hl hB0 c1
  replace hld := Lib.hid hld
  clear h3 hv hf
  have q0 := bw_cell c1.lt c1.c0
  have q1 := bw_cell c1.lt c1.c1
  have q2 := bw_cell c1.lt c1.c2
  have q3 := bw_cell c1.lt c1.c3
  go_enter Tryd.func37, Tryd.ntmps37
  go_wp2
  refine wp_region_below (by kernel_rfl) (by kernel_rfl) ?_
  iterate 4 (quiet_step (fail))
  refine wpQuiet_step (fun K hK => ?_)
  go_simp
  apply Exists.intro
  refine ⟨fun p => ?_, hK _ ?_⟩
  · exact bw_of (w := w) (p := p) (hV.out p.W)
  clear hK K
  iterate 2 (quiet_step (fail))
  iterate 8 (quiet_step (fail))
  refine wpQuiet_step (fun K hK => ?_)
  go_simp
  apply Exists.intro
  refine ⟨fun p => ?_, hK _ ?_⟩
  · exact bw_of (w := w) (p := p) (hF.out p.W)
  clear hK K
  iterate 1 (quiet_step (fail))
  iterate 2 (quiet_step (fail))
  iterate 6 (quiet_step (fail))
  iterate 1 (quiet_step (fail))
  refine wpQuiet_nil ?_
  intro w2 hw'
  obtain ⟨⟨wx, hb_w2⟩, rfl⟩ := hw'
  have c2 := c1.below hb_w2
  clear q0 q1 q2 q3 hV hF
  obtain ⟨_, x0, x1, x2, x3, _⟩ := id c2
  go_wp2
  go_loopw [3, 4] (fun i _ wr => ∃ k : Nat, k ≤ l ∧ i = .int .i64 k ∧ Hid (∀ j, j < k → TOk ⟨n, e, s, ts⟩ j) ∧ SB wr G n e s (.slice a l cap) ∧ Below w.heap.size w wr) (fun i _ _ => l - (intOf i).toNat)
  case atStart => exact ⟨0, by omega, rfl, fun j hj => by omega, c2, hb_w2⟩
  case round =>
    clear c2 x0 x1 x2 x3 hb_w2 c1
    obtain ⟨k, hk, rfl, hok, kr, hB⟩ := hrel
    obtain ⟨ltG, x0, x1, x2, x3, _⟩ := id kr
    by_cases hlt : k < l
    · obtain ⟨b, off, rfl, hb, hg⟩ := h3b.out (by omega)
      have hgk := hg k hlt
      have hbk := hbd.out k (by rw [hld.out]; exact hlt)
      obtain ⟨g, hBk⟩ : ∃ g, tAt ts k = g := ⟨_, rfl⟩
      obtain ⟨y0, y1, y2, y3, y4⟩ := g
      rw [hBk] at hgk hbk
      dsimp only at hbk
      have s0 : wr.cell? ⟨b, off + k * 5, none⟩ = some (.int .i64 y0) := by rw [hB.cell (p := ⟨b, _, none⟩) hb]; exact hgk.1
      have s1 : wr.cell? ⟨b, off + k * 5 + 1, none⟩ = some (.int .i64 y1) := by rw [hB.cell (p := ⟨b, _, none⟩) hb]; exact hgk.2.1
      have s2 : wr.cell? ⟨b, off + k * 5 + 2, none⟩ = some (.int .u32 y2) := by rw [hB.cell (p := ⟨b, _, none⟩) hb]; exact hgk.2.2.1
      have s3 : wr.cell? ⟨b, off + k * 5 + 3, none⟩ = some (.int .i64 y3) := by rw [hB.cell (p := ⟨b, _, none⟩) hb]; exact hgk.2.2.2.1
      have s4 : wr.cell? ⟨b, off + k * 5 + 4, none⟩ = some (.int .i64 y4) := by rw [hB.cell (p := ⟨b, _, none⟩) hb]; exact hgk.2.2.2.2
      have hkl : (k : Int) < (l : Int) := by omega
      have hk0 : (0 : Int) ≤ (k : Int) := by omega
      obtain ⟨W1, hW1⟩ : ∃ W1, W1 = wr.alloc (.cells #[.int .i64 y0, .int .i64 y1, .int .u32 y2] 92) := ⟨_, rfl⟩
      have hBW : Below wr.heap.size wr W1 := by rw [hW1]; (repeat (first | exact Below.refl _ _ | assumption | refine bchain (by assumption) ?_ | refine balloc ?_ _ | apply Below.drew | apply below_drewN | (refine Below.alloc ?_ (by (try simp) <;> omega) _) | (refine Below.setCell ?_ (by (try simp) <;> omega) _)))
      have fb : FC W1 wr.heap.size y0 y1 y2 := by rw [hW1]; exact FC.made _ _ _ _ _
      have kb := kr.below hBW
      replace hW1 := Lib.hid hW1
      clear hgk
      have q0 := bw_cell fb.lt fb.c0
      have q1 := bw_cell fb.lt fb.c1
      have q2 := bw_cell fb.lt fb.c2
      have q3 := bw_cell kb.lt kb.c0
      have q4 := bw_cell kb.lt kb.c1
      have q5 := bw_cell kb.lt kb.c2
      have q6 := bw_cell kb.lt kb.c3
      have hBz := hB.size
      have hbr : b < wr.heap.size := by omega
      have hVF := Lib.hid (fun W => Fr.ok_any W y3 y4)
      go_wp2
      rw [← hW1.out]
      clear x0 x1 x2 x3
      by_cases v1 : VK y0 y1 y2
      · obtain ⟨m0, m1, m2, rfl, rfl, rfl⟩ : ∃ a b c : Nat, y0 = a ∧ y1 = b ∧ y2 = c := ⟨y0.toNat, y1.toNat, y2.toNat, by have := v1.2.1; omega, by have := v1.1.1; omega, by omega⟩
        have hV1 := Lib.hid (fun W => sok_t W m0 m1 m2 v1)
        by_cases v2 : Fits m0 m1 m2 n e s
        · have hV2 := Lib.hid (fun W => sof_any W m0 m1 m2 n e s v1 true ⟨fun _ => v2, fun _ => rfl⟩)
          have hV3 := Lib.hid (fun W => sleastK_any W m0 m1 m2 v1)
          by_cases v3 : leastK m1 m0 m2 = m2
          · rw [v3] at hV3
            have hq : ∀ W, (Op.equalIn 10000 92 (.agg #[.int .i64 (m0 : Int), .int .i64 (m1 : Int), .int .u32 (m2 : Int)]) (.agg #[.int .i64 (m0 : Int), .int .i64 (m1 : Int), .int .u32 (m2 : Int)])).run Tryd.prog W = .ok true W := fun W => by rw [eqFl]; simp
            by_cases hk1 : k = 0
            · subst hk1
              refine wp_region_below (by kernel_rfl) (by kernel_rfl) ?_
              iterate 1 (quiet_step (fail))
              refine wpQuiet_step (fun K hK => ?_)
              go_simp
              apply Exists.intro
              refine ⟨fun p => ?_, hK _ ?_⟩
              · exact bw_of (w := W1) (p := p) (hV1.out p.W)
              clear hK K
              iterate 2 (quiet_step (fail))
              iterate 9 (quiet_step (fail))
              refine wpQuiet_step (fun K hK => ?_)
              go_simp
              apply Exists.intro
              refine ⟨fun p => ?_, hK _ ?_⟩
              · exact bw_of (w := W1) (p := p) (hV2.out p.W)
              clear hK K
              iterate 1 (quiet_step (fail))
              iterate 2 (quiet_step (fail))
              iterate 1 (quiet_step (fail))
              refine wpQuiet_step (fun K hK => ?_)
              go_simp
              apply Exists.intro
              refine ⟨fun p => ?_, hK _ ?_⟩
              · exact bw_of (w := W1) (p := p) (hV3.out p.W)
              clear hK K
              iterate 2 (quiet_step (fail))
              iterate 2 (quiet_step (fail))
              iterate 3 (quiet_step (fail))
              iterate 15 go_big_quiet_skip
              iterate 2 (quiet_step (fail))
              refine wpQuiet_nil ?_
              intro w3 hw'
              obtain ⟨⟨wx, hb_w3⟩, rfl⟩ := hw'
              have kb3 := kb.below hb_w3
              have hb3 := hBW.trans (hb_w3.mono hBW.size)
              have hB3 := hB.trans (hb3.mono hBz)
              have p3 : w3.cell? ⟨b, off + 0 * 5 + 3, none⟩ = some (.int .i64 y3) := (hb3.cell (p := ⟨b, _, none⟩) hbr).trans s3
              have p4 : w3.cell? ⟨b, off + 0 * 5 + 4, none⟩ = some (.int .i64 y4) := (hb3.cell (p := ⟨b, _, none⟩) hbr).trans s4
              obtain ⟨_, x0, x1, x2, x3, _⟩ := id kb3
              clear q0 q1 q2 q3 q4 q5 hb_w3 hV1 hV2 hV3 fb kb hq
              by_cases v4 : Fr.VF y3 y4
              · rw [decide_eq_true v4] at hVF
                go_wp2_with fail
                refine (hVF.out _).mono ?_
                rintro r4 w4 ⟨rfl, hb4⟩
                have kb4 := kb3.below hb4
                have hB4 := bchain hb4 hB3
                have u3 : w4.cell? ⟨b, off + 0 * 5 + 3, none⟩ = some (.int .i64 y3) := (hb4.cell (p := ⟨b, _, none⟩) (by show b < _; have := hB3.size; omega)).trans p3
                clear hb4 x0 x1 x2 x3 p3 p4
                obtain ⟨_, x0, x1, x2, x3, _⟩ := id kb4
                by_cases v5 : y3 = 0
                · subst v5
                  obtain rfl : B = false := by
                    rw [Bool.eq_false_iff]
                    intro c
                    have ht := (hB0.out.1 c) (0) hlt
                    rw [hBk] at ht
                    exact ht.2.2.2.2.1 rfl
                  go_wp2
                  go_ret
                  exact ⟨rfl, hB4⟩
                · have hy : (y3 == 0) = false := by simp; exact v5
                  have hok2 : Hid (∀ j, j < 0 + 1 → TOk ⟨n, e, s, ts⟩ j) := fun j hj => by
                    obtain rfl : j = 0 := by omega
                    unfold TOk
                    dsimp only
                    rw [hBk]
                    exact ⟨v1, by simpa using v2, by simpa [Least] using v3, v4, v5, fun c => absurd c (by omega)⟩
                  clear hok
                  go_wp2
                  go_roundw
                  case rel => exact ⟨0 + 1, by omega, by go_num, hok2, kb4, hB4⟩
                  case measure => simp [intOf]; omega
              · rw [decide_eq_false v4] at hVF
                obtain rfl : B = false := by
                  rw [Bool.eq_false_iff]
                  intro c
                  have ht := (hB0.out.1 c) (0) hlt
                  rw [hBk] at ht
                  exact v4 ht.2.2.2.1
                go_wp2_with fail
                refine (hVF.out _).mono ?_
                rintro r4 w4 ⟨rfl, hb4⟩
                go_wp2
                go_ret
                exact ⟨rfl, bchain hb4 hB3⟩
            · obtain ⟨k', rfl⟩ : ∃ k', k = k' + 1 := ⟨k - 1, by omega⟩
              have hgp := hg k' (by omega)
              obtain ⟨z0, z1, z2, z3, z4, hz⟩ : ∃ z0 z1 z2 z3 z4, tAt ts k' = ⟨z0, z1, z2, z3, z4⟩ := ⟨_, _, _, _, _, rfl⟩
              rw [hz] at hgp
              have e2 : W1.cell? ⟨b, off + k' * 5 + 2, none⟩ = some (.int .u32 z2) := ((hB.trans (hBW.mono hBz)).cell (p := ⟨b, _, none⟩) hb).trans hgp.2.2.1
              have q7 := bw_cell (show b < W1.heap.size by have := hBW.size; omega) e2
              have hz0 := hbd.out k' (by rw [hld.out]; omega)
              rw [hz] at hz0
              dsimp only at hz0
              clear hgp hg e2
              have hwk : IntKind.i64.wrap (k' : Int) = (k' : Int) := IntWalk.i64_in _ ⟨by omega, by omega⟩
              have hkk : (k' : Int) < (l : Int) := by omega
              by_cases v6 : z2 < (m2 : Int)
              · have hd6 : decide ((m2 : Int) ≤ z2) = false := decide_eq_false (by omega)
                refine wp_region_below (by kernel_rfl) (by kernel_rfl) ?_
                iterate 1 (quiet_step (fail))
                refine wpQuiet_step (fun K hK => ?_)
                go_simp
                apply Exists.intro
                refine ⟨fun p => ?_, hK _ ?_⟩
                · exact bw_of (w := W1) (p := p) (hV1.out p.W)
                clear hK K
                iterate 2 (quiet_step (fail))
                iterate 9 (quiet_step (fail))
                refine wpQuiet_step (fun K hK => ?_)
                go_simp
                apply Exists.intro
                refine ⟨fun p => ?_, hK _ ?_⟩
                · exact bw_of (w := W1) (p := p) (hV2.out p.W)
                clear hK K
                iterate 1 (quiet_step (fail))
                iterate 2 (quiet_step (fail))
                iterate 1 (quiet_step (fail))
                refine wpQuiet_step (fun K hK => ?_)
                go_simp
                apply Exists.intro
                refine ⟨fun p => ?_, hK _ ?_⟩
                · exact bw_of (w := W1) (p := p) (hV3.out p.W)
                clear hK K
                iterate 2 (quiet_step (fail))
                iterate 2 (quiet_step (fail))
                iterate 3 (quiet_step (fail))
                iterate 15 (quiet_step (fail))
                iterate 2 (quiet_step (fail))
                refine wpQuiet_nil ?_
                intro w3 hw'
                obtain ⟨⟨wx, hb_w3⟩, rfl⟩ := hw'
                clear q7
                have kb3 := kb.below hb_w3
                have hb3 := hBW.trans (hb_w3.mono hBW.size)
                have hB3 := hB.trans (hb3.mono hBz)
                have p3 : w3.cell? ⟨b, off + (k' + 1) * 5 + 3, none⟩ = some (.int .i64 y3) := (hb3.cell (p := ⟨b, _, none⟩) hbr).trans s3
                have p4 : w3.cell? ⟨b, off + (k' + 1) * 5 + 4, none⟩ = some (.int .i64 y4) := (hb3.cell (p := ⟨b, _, none⟩) hbr).trans s4
                obtain ⟨_, x0, x1, x2, x3, _⟩ := id kb3
                clear q0 q1 q2 q3 q4 q5 hb_w3 hV1 hV2 hV3 fb kb hq
                by_cases v4 : Fr.VF y3 y4
                · rw [decide_eq_true v4] at hVF
                  go_wp2_with fail
                  refine (hVF.out _).mono ?_
                  rintro r4 w4 ⟨rfl, hb4⟩
                  have kb4 := kb3.below hb4
                  have hB4 := bchain hb4 hB3
                  have u3 : w4.cell? ⟨b, off + (k' + 1) * 5 + 3, none⟩ = some (.int .i64 y3) := (hb4.cell (p := ⟨b, _, none⟩) (by show b < _; have := hB3.size; omega)).trans p3
                  clear hb4 x0 x1 x2 x3 p3 p4
                  obtain ⟨_, x0, x1, x2, x3, _⟩ := id kb4
                  by_cases v5 : y3 = 0
                  · subst v5
                    obtain rfl : B = false := by
                      rw [Bool.eq_false_iff]
                      intro c
                      have ht := (hB0.out.1 c) ((k' + 1)) hlt
                      rw [hBk] at ht
                      exact ht.2.2.2.2.1 rfl
                    go_wp2
                    go_ret
                    exact ⟨rfl, hB4⟩
                  · have hy : (y3 == 0) = false := by simp; exact v5
                    have hok2 : Hid (∀ j, j < (k' + 1) + 1 → TOk ⟨n, e, s, ts⟩ j) := fun j hj => by
                      by_cases c : j = k' + 1
                      · subst c
                        unfold TOk
                        dsimp only
                        rw [hBk, Nat.add_sub_cancel, hz]
                        exact ⟨v1, by simpa using v2, by simpa [Least] using v3, v4, v5, fun _ => v6⟩
                      · exact hok.out j (by omega)
                    clear hok
                    go_wp2
                    go_roundw
                    case rel => exact ⟨(k' + 1) + 1, by omega, by go_num, hok2, kb4, hB4⟩
                    case measure => simp [intOf]; omega
                · rw [decide_eq_false v4] at hVF
                  obtain rfl : B = false := by
                    rw [Bool.eq_false_iff]
                    intro c
                    have ht := (hB0.out.1 c) ((k' + 1)) hlt
                    rw [hBk] at ht
                    exact v4 ht.2.2.2.1
                  go_wp2_with fail
                  refine (hVF.out _).mono ?_
                  rintro r4 w4 ⟨rfl, hb4⟩
                  go_wp2
                  go_ret
                  exact ⟨rfl, bchain hb4 hB3⟩
              · have hd6 : decide ((m2 : Int) ≤ z2) = true := decide_eq_true (by omega)
                obtain rfl : B = false := by
                  rw [Bool.eq_false_iff]
                  intro c
                  have ht := (hB0.out.1 c) (k' + 1) hlt
                  rw [hBk, Nat.add_sub_cancel, hz] at ht
                  exact v6 (ht.2.2.2.2.2 (by omega))
                refine wp_region_below (by kernel_rfl) (by kernel_rfl) ?_
                iterate 1 (quiet_step (fail))
                refine wpQuiet_step (fun K hK => ?_)
                go_simp
                apply Exists.intro
                refine ⟨fun p => ?_, hK _ ?_⟩
                · exact bw_of (w := W1) (p := p) (hV1.out p.W)
                clear hK K
                iterate 2 (quiet_step (fail))
                iterate 9 (quiet_step (fail))
                refine wpQuiet_step (fun K hK => ?_)
                go_simp
                apply Exists.intro
                refine ⟨fun p => ?_, hK _ ?_⟩
                · exact bw_of (w := W1) (p := p) (hV2.out p.W)
                clear hK K
                iterate 1 (quiet_step (fail))
                iterate 2 (quiet_step (fail))
                iterate 1 (quiet_step (fail))
                refine wpQuiet_step (fun K hK => ?_)
                go_simp
                apply Exists.intro
                refine ⟨fun p => ?_, hK _ ?_⟩
                · exact bw_of (w := W1) (p := p) (hV3.out p.W)
                clear hK K
                iterate 2 (quiet_step (fail))
                iterate 2 (quiet_step (fail))
                iterate 3 (quiet_step (fail))
                iterate 15 (quiet_step (fail))
                iterate 2 (quiet_step (fail))
                refine wpQuiet_nil ?_
                intro w3 hw'
                obtain ⟨⟨wx, hb_w3⟩, rfl⟩ := hw'
                go_wp2
                go_ret
                exact ⟨rfl, hB.trans ((hBW.trans (hb_w3.mono hBW.size)).mono hBz)⟩
          · obtain ⟨z, hz⟩ : ∃ z, leastK m1 m0 m2 = z := ⟨_, rfl⟩
            rw [hz] at hV3 v3
            have hq : ∀ W, (Op.equalIn 10000 92 (.agg #[.int .i64 (m0 : Int), .int .i64 (m1 : Int), .int .u32 (z : Int)]) (.agg #[.int .i64 (m0 : Int), .int .i64 (m1 : Int), .int .u32 (m2 : Int)])).run Tryd.prog W = .ok false W := fun W => by
              rw [eqFl]
              have : ((m0 : Int) == (m0 : Int) && ((m1 : Int) == (m1 : Int) && (z : Int) == (m2 : Int))) = false := by
                rw [Bool.eq_false_iff]
                intro h
                simp at h
                exact v3 (by omega)
              rw [this]
            obtain rfl : B = false := by
              rw [Bool.eq_false_iff]
              intro c
              have ht := (hB0.out.1 c) k hlt
              rw [hBk] at ht
              exact v3 (by rw [← hz]; simpa [Least] using ht.2.2.1)
            clear hz
            refine wp_region_below (by kernel_rfl) (by kernel_rfl) ?_
            iterate 1 (quiet_step (fail))
            refine wpQuiet_step (fun K hK => ?_)
            go_simp
            apply Exists.intro
            refine ⟨fun p => ?_, hK _ ?_⟩
            · exact bw_of (w := W1) (p := p) (hV1.out p.W)
            clear hK K
            iterate 2 (quiet_step (fail))
            iterate 9 (quiet_step (fail))
            refine wpQuiet_step (fun K hK => ?_)
            go_simp
            apply Exists.intro
            refine ⟨fun p => ?_, hK _ ?_⟩
            · exact bw_of (w := W1) (p := p) (hV2.out p.W)
            clear hK K
            iterate 1 (quiet_step (fail))
            iterate 2 (quiet_step (fail))
            iterate 1 (quiet_step (fail))
            refine wpQuiet_step (fun K hK => ?_)
            go_simp
            apply Exists.intro
            refine ⟨fun p => ?_, hK _ ?_⟩
            · exact bw_of (w := W1) (p := p) (hV3.out p.W)
            clear hK K
            iterate 2 (quiet_step (fail))
            iterate 2 (quiet_step (fail))
            iterate 3 go_big_quiet_skip
            iterate 15 go_big_quiet_skip
            iterate 1 go_big_quiet_skip
            iterate 1 (quiet_step (fail))
            refine wpQuiet_nil ?_
            intro w3 hw'
            obtain ⟨⟨wx, hb_w3⟩, rfl⟩ := hw'
            go_wp2
            go_ret
            exact ⟨rfl, hB.trans ((hBW.trans (hb_w3.mono hBW.size)).mono hBz)⟩
        · have hV2 := Lib.hid (fun W => sof_any W m0 m1 m2 n e s v1 false ⟨fun c => (by cases c), fun c => absurd c v2⟩)
          obtain rfl : B = false := by
            rw [Bool.eq_false_iff]
            intro c
            have ht := (hB0.out.1 c) k hlt
            rw [hBk] at ht
            exact v2 (by simpa using ht.2.1)
          refine wp_region_below (by kernel_rfl) (by kernel_rfl) ?_
          iterate 1 (quiet_step (fail))
          refine wpQuiet_step (fun K hK => ?_)
          go_simp
          apply Exists.intro
          refine ⟨fun p => ?_, hK _ ?_⟩
          · exact bw_of (w := W1) (p := p) (hV1.out p.W)
          clear hK K
          iterate 2 (quiet_step (fail))
          iterate 9 (quiet_step (fail))
          refine wpQuiet_step (fun K hK => ?_)
          go_simp
          apply Exists.intro
          refine ⟨fun p => ?_, hK _ ?_⟩
          · exact bw_of (w := W1) (p := p) (hV2.out p.W)
          clear hK K
          iterate 1 (quiet_step (fail))
          iterate 2 (quiet_step (fail))
          iterate 4 go_big_quiet_skip
          iterate 2 (quiet_step (fail))
          iterate 3 go_big_quiet_skip
          iterate 15 go_big_quiet_skip
          iterate 1 go_big_quiet_skip
          iterate 1 (quiet_step (fail))
          refine wpQuiet_nil ?_
          intro w3 hw'
          obtain ⟨⟨wx, hb_w3⟩, rfl⟩ := hw'
          go_wp2
          go_ret
          exact ⟨rfl, hB.trans ((hBW.trans (hb_w3.mono hBW.size)).mono hBz)⟩
      · have hV1 := Lib.hid (fun W => sok_f W y0 y1 y2 (by omega) (by omega) v1)
        obtain rfl : B = false := by
          rw [Bool.eq_false_iff]
          intro c
          have ht := (hB0.out.1 c) k hlt
          rw [hBk] at ht
          exact v1 ht.1
        refine wp_region_below (by kernel_rfl) (by kernel_rfl) ?_
        iterate 1 (quiet_step (fail))
        refine wpQuiet_step (fun K hK => ?_)
        go_simp
        apply Exists.intro
        refine ⟨fun p => ?_, hK _ ?_⟩
        · exact bw_of (w := W1) (p := p) (hV1.out p.W)
        clear hK K
        iterate 2 (quiet_step (fail))
        iterate 11 go_big_quiet_skip
        iterate 2 (quiet_step (fail))
        iterate 4 go_big_quiet_skip
        iterate 2 (quiet_step (fail))
        iterate 3 go_big_quiet_skip
        iterate 15 go_big_quiet_skip
        iterate 1 go_big_quiet_skip
        iterate 1 (quiet_step (fail))
        refine wpQuiet_nil ?_
        intro w3 hw'
        obtain ⟨⟨wx, hb_w3⟩, rfl⟩ := hw'
        go_wp2
        go_ret
        exact ⟨rfl, hB.trans ((hBW.trans (hb_w3.mono hBW.size)).mono hBz)⟩
    · obtain rfl : k = l := by omega
      have hd := decide_eq_false (show ¬ ((k : Int) < (k : Int)) by omega)
      obtain rfl : B = true := hB0.out.2 (fun i hi => hok.out i hi)
      go_wp2
      go_ret
      exact ⟨rfl, hB⟩
end
end Go.Proofs.YtiedombphcdpbaaDoor
