/-
  Is a sum of flags valid: the program's contract.
-/
import Derived.Test.YtiedombphcdpbaaDoorSTfits
import Derived.Test.YtiedombphcdpbaaDoorFrVf
import Derived.Test.YtiedombphcdpbaaDoorSTsame
namespace Go.Proofs.YtiedombphcdpbaaDoor
open Go.RowKit Go.Shelf
set_option maxRecDepth 100000
attribute [local go_sem] Oper.semAt_some
def Least (k n e : Nat) : Prop := leastK n k e = e
theorem SB.drewN {W : World} {B : Nat} {n e s : Int} {u : Value} (h : SB W B n e s u) (m : Nat) : SB (W.drewN m) B n e s u := ⟨h.lt, h.c0, h.c1, h.c2, h.c3, h.fz⟩
/-- is the term at i of a sum as it should be -/
def TOk (X : SM) (i : Nat) : Prop := VK (tAt X.ts i).k (tAt X.ts i).n (tAt X.ts i).e ∧ Fits (tAt X.ts i).k.toNat (tAt X.ts i).n.toNat (tAt X.ts i).e.toNat X.n X.e X.s ∧ Least (tAt X.ts i).k.toNat (tAt X.ts i).n.toNat (tAt X.ts i).e.toNat ∧
  Fr.VF (tAt X.ts i).p (tAt X.ts i).q ∧ (tAt X.ts i).p ≠ 0 ∧ (0 < i → (tAt X.ts (i - 1)).e < (tAt X.ts i).e)
def VSum (X : SM) : Prop := VG X.n X.e ∧ frB X.n X.s = true ∧ X.ts.length ≤ 64 ∧ ∀ i, i < X.ts.length → TOk X i
theorem vf_zero {p q : Int} (h : Fr.VF p q) : p = 0 ↔ (p = 0 ∧ q = 1) := by
  refine ⟨fun c => ⟨c, ?_⟩, fun c => c.1⟩
  subst c
  have h5 := h.2.2.2.2
  have h1 := h.1
  rw [Int.gcd_zero_left] at h5
  omega
section
variable (w : World)
set_option maxHeartbeats 8000000 in
theorem ivs_len (n e s : Int) (a : Option Addr) (l cap : Nat) (hl : 64 < l) (hl2 : l ≤ 9223372036854775807) (hv : VG n e) (hf : frB n s = true) :
    Calls Tryd.prog 41 #[.agg #[.int .i64 n, .int .u32 e, .int .i64 s, .slice a l cap]] w fun r w' => r = .returned (.bool false) ∧ Below w.heap.size w w' := by
  have hV := Lib.hid (fun W => valid_t W n e hv)
  have hF := Lib.hid (fun W => ihf_any W n e s)
  rw [hf] at hF
  clear hv hf
  go_enter Tryd.func41, Tryd.ntmps41
  go_wp2_with fail
  refine (hV.out _).mono ?_
  rintro r1 w1 ⟨rfl, hb1⟩
  obtain ⟨hc1, hz1⟩ := bkeep hb1 w.heap.size (by (try simp) <;> omega)
  go_wp2_with fail
  refine (hF.out _).mono ?_
  rintro r2 w2 ⟨rfl, hb2⟩
  obtain ⟨hc2, hz2⟩ := bkeep hb2 w.heap.size (by (try simp) <;> omega)
  go_wp2
  go_ret
  exact ⟨rfl, by (repeat (first | exact Below.refl _ _ | assumption | refine bchain (by assumption) ?_ | refine balloc ?_ _ | apply Below.drew | apply below_drewN | (refine Below.alloc ?_ (by (try simp) <;> omega) _) | (refine Below.setCell ?_ (by (try simp) <;> omega) _)))⟩
theorem ivs_frame (n e s : Int) (u : Value) (hv : VG n e) (hf : frB n s = false) :
    Calls Tryd.prog 41 #[.agg #[.int .i64 n, .int .u32 e, .int .i64 s, u]] w fun r w' => r = .returned (.bool false) ∧ Below w.heap.size w w' := by
  have hV := Lib.hid (fun W => valid_t W n e hv)
  have hF := Lib.hid (fun W => ihf_any W n e s)
  rw [hf] at hF
  clear hv hf
  go_enter Tryd.func41, Tryd.ntmps41
  go_wp2_with fail
  refine (hV.out _).mono ?_
  rintro r1 w1 ⟨rfl, hb1⟩
  obtain ⟨hc1, hz1⟩ := bkeep hb1 w.heap.size (by (try simp) <;> omega)
  go_wp2_with fail
  refine (hF.out _).mono ?_
  rintro r2 w2 ⟨rfl, hb2⟩
  go_wp2
  go_ret
  exact ⟨rfl, by (repeat (first | exact Below.refl _ _ | assumption | refine bchain (by assumption) ?_ | refine balloc ?_ _ | apply Below.drew | apply below_drewN | (refine Below.alloc ?_ (by (try simp) <;> omega) _) | (refine Below.setCell ?_ (by (try simp) <;> omega) _)))⟩
theorem ivs_type (n e s : Int) (u : Value) (he : e < 4294967296) (h0 : 0 ≤ e) (hv : ¬ VG n e) :
    Calls Tryd.prog 41 #[.agg #[.int .i64 n, .int .u32 e, .int .i64 s, u]] w fun r w' => r = .returned (.bool false) ∧ Below w.heap.size w w' := by
  have hV := Lib.hid (fun W => valid_f W n e he h0 hv)
  clear hv he h0
  go_enter Tryd.func41, Tryd.ntmps41
  go_wp2_with fail
  refine (hV.out _).mono ?_
  rintro r1 w1 ⟨rfl, hb1⟩
  go_wp2
  go_ret
  exact ⟨rfl, by (repeat (first | exact Below.refl _ _ | assumption | refine bchain (by assumption) ?_ | refine balloc ?_ _ | apply Below.drew | apply below_drewN | (refine Below.alloc ?_ (by (try simp) <;> omega) _) | (refine Below.setCell ?_ (by (try simp) <;> omega) _)))⟩
set_option maxHeartbeats 16000000 in
theorem ivs_ok (X : SM) (u : Value) (hS : SlT w u X.ts) (hbd : BdT X.ts) (hl : X.ts.length ≤ 64) (hv : VG X.n X.e) (hf : frB X.n X.s = true) (B : Bool) (hB0 : B = true ↔ ∀ i, i < X.ts.length → TOk X i) :
    Calls Tryd.prog 41 #[.agg #[.int .i64 X.n, .int .u32 X.e, .int .i64 X.s, u]] w fun r w' => r = .returned (.bool B) ∧ Below w.heap.size w w' := by
  obtain ⟨n, e, s, ts⟩ := X
  dsimp only at hS hbd hl hv hf hB0 ⊢
  unfold TOk at hB0
  dsimp only at hB0
  obtain ⟨a, cap, rfl, h1, h2, h3⟩ := hS
  have hV := Lib.hid (fun W => valid_t W n e hv)
  have hF := Lib.hid (fun W => ihf_any W n e s)
  rw [hf] at hF
  replace hB0 := Lib.hid hB0
  replace hbd := Lib.hid hbd
  obtain ⟨l, hld⟩ : ∃ l, ts.length = l := ⟨_, rfl⟩
  have h3b : Hid (0 < l → ∃ b off, a = some ⟨b, off, none⟩ ∧ b < w.heap.size ∧ ∀ i, i < l → TCell w b off (tAt ts i) i) := fun h => by rw [← hld] at h ⊢; exact h3 (List.length_pos_iff.1 h)
  rw [hld] at h1 hl hB0 ⊢
  replace hld := Lib.hid hld
  clear h3 hv hf
  obtain ⟨W0, hW0⟩ : ∃ W0, W0 = w.alloc (.cells #[.int .i64 n, .int .u32 e, .int .i64 s, .slice a l cap] 40) := ⟨_, rfl⟩
  have hb0 : Below w.heap.size w W0 := by rw [hW0]; (repeat (first | exact Below.refl _ _ | assumption | refine bchain (by assumption) ?_ | refine balloc ?_ _ | apply Below.drew | apply below_drewN | (refine Below.alloc ?_ (by (try simp) <;> omega) _) | (refine Below.setCell ?_ (by (try simp) <;> omega) _)))
  have k0 : SB W0 w.heap.size n e s (.slice a l cap) := by rw [hW0]; exact SB.made _ _ _ _ _ _
  replace hW0 := Lib.hid hW0
  obtain ⟨_, x0, x1, x2, x3, _⟩ := id k0
  go_enter Tryd.func41, Tryd.ntmps41
  go_wp2_with fail
  rw [← hW0.out]
  go_wp2_with fail
  refine (hV.out _).mono ?_
  rintro r1 w1 ⟨rfl, hb1⟩
  replace k0 := k0.below hb1
  replace hb0 := bchain hb1 hb0
  clear x0 x1 x2 x3 hb1
  obtain ⟨_, x0, x1, x2, x3, _⟩ := id k0
  go_wp2_with fail
  refine (hF.out _).mono ?_
  rintro r2 w2 ⟨rfl, hb2⟩
  replace k0 := k0.below hb2
  replace hb0 := bchain hb2 hb0
  clear x0 x1 x2 x3 hb2
  obtain ⟨_, x0, x1, x2, x3, _⟩ := id k0
  go_wp2
  go_loopw [3, 4, 5, 27] (fun _ _ _ i wr => ∃ k : Nat, k ≤ l ∧ i = .int .i64 k ∧ Hid (∀ j, j < k → TOk ⟨n, e, s, ts⟩ j) ∧ SB wr w.heap.size n e s (.slice a l cap) ∧ Below w.heap.size w wr) (fun _ _ _ i _ => l - (intOf i).toNat)
  case atStart => exact ⟨0, by omega, rfl, fun j hj => by omega, k0, hb0⟩
  case round =>
    clear k0 hb0 x0 x1 x2 x3
    obtain ⟨k, hk, rfl, hok, kr, hB⟩ := hrel
    obtain ⟨ltG, x0, x1, x2, x3, _⟩ := id kr
    by_cases hlt : k < l
    · obtain ⟨b, off, rfl, hb, hg⟩ := h3b.out (by omega)
      have hgk := hg k hlt
      have hbk := hbd.out k (by rw [hld.out]; exact hlt)
      obtain ⟨g, hBk⟩ : ∃ g, tAt ts k = g := ⟨_, rfl⟩
      have hBk2 := hBk
      obtain ⟨y0, y1, y2, y3, y4⟩ := g
      rw [hBk] at hgk hbk
      dsimp only at hbk
      have s0 : wr.cell? ⟨b, off + k * 5, none⟩ = some (.int .i64 y0) := by rw [hB.cell (p := ⟨b, _, none⟩) hb]; exact hgk.1
      have s1 : wr.cell? ⟨b, off + k * 5 + 1, none⟩ = some (.int .i64 y1) := by rw [hB.cell (p := ⟨b, _, none⟩) hb]; exact hgk.2.1
      have s2 : wr.cell? ⟨b, off + k * 5 + 2, none⟩ = some (.int .u32 y2) := by rw [hB.cell (p := ⟨b, _, none⟩) hb]; exact hgk.2.2.1
      have s3 : wr.cell? ⟨b, off + k * 5 + 3, none⟩ = some (.int .i64 y3) := by rw [hB.cell (p := ⟨b, _, none⟩) hb]; exact hgk.2.2.2.1
      have s4 : wr.cell? ⟨b, off + k * 5 + 4, none⟩ = some (.int .i64 y4) := by rw [hB.cell (p := ⟨b, _, none⟩) hb]; exact hgk.2.2.2.2
      have hkl : (k : Int) < (l : Int) := by omega
      have hk0 : (0 : Int) ≤ (k : Int) := by omega
      obtain ⟨W1, hW1⟩ : ∃ W1, W1 = (wr.alloc (.cells #[.int .i64 y0, .int .i64 y1, .int .u32 y2, .int .i64 y3, .int .i64 y4] 94)).alloc (.cells #[.int .i64 y0, .int .i64 y1, .int .u32 y2] 92) := ⟨_, rfl⟩
      have hBW : Below wr.heap.size wr W1 := by rw [hW1]; (repeat (first | exact Below.refl _ _ | assumption | refine bchain (by assumption) ?_ | refine balloc ?_ _ | apply Below.drew | apply below_drewN | (refine Below.alloc ?_ (by (try simp) <;> omega) _) | (refine Below.setCell ?_ (by (try simp) <;> omega) _)))
      have sz : (wr.alloc (.cells #[.int .i64 y0, .int .i64 y1, .int .u32 y2, .int .i64 y3, .int .i64 y4] 94)).heap.size = wr.heap.size + 1 := by simp
      have tb : TB W1 wr.heap.size y0 y1 y2 y3 y4 := by rw [hW1]; exact (TB.made wr _ _ _ _ _ _).below (balloc (Below.refl _ _) _)
      have fb : FC W1 (wr.heap.size + 1) y0 y1 y2 := by rw [hW1, ← sz]; exact FC.made _ _ _ _ _
      have kb := kr.below hBW
      replace hW1 := Lib.hid hW1
      clear sz hgk
      have q0 := bw_cell fb.lt fb.c0
      have q1 := bw_cell fb.lt fb.c1
      have q2 := bw_cell fb.lt fb.c2
      have q3 := bw_cell kb.lt kb.c0
      have q4 := bw_cell kb.lt kb.c1
      have q5 := bw_cell kb.lt kb.c2
      have hBz := hB.size
      go_wp2
      rw [← hW1.out]
      by_cases v1 : VK y0 y1 y2
      · obtain ⟨m0, m1, m2, rfl, rfl, rfl⟩ : ∃ a b c : Nat, y0 = a ∧ y1 = b ∧ y2 = c := ⟨y0.toNat, y1.toNat, y2.toNat, by have := v1.2.1; omega, by have := v1.1.1; omega, by omega⟩
        have hV1 := Lib.hid (fun W => ivk_t W m0 m1 m2 v1)
        by_cases v2 : Fits m0 m1 m2 n e s
        · have hV2 := Lib.hid (fun W => iof_any W m0 m1 m2 n e s v1 true ⟨fun _ => v2, fun _ => rfl⟩)
          have hV3 := Lib.hid (fun W => leastK_any W m0 m1 m2 v1)
          by_cases v3 : leastK m1 m0 m2 = m2
          · rw [v3] at hV3
            have hq : ∀ W, (Op.equalIn 10000 92 (.agg #[.int .i64 (m0 : Int), .int .i64 (m1 : Int), .int .u32 (m2 : Int)]) (.agg #[.int .i64 (m0 : Int), .int .i64 (m1 : Int), .int .u32 (m2 : Int)])).run Tryd.prog W = .ok true W := fun W => by rw [eqFl]; simp
            refine wp_region_below (by kernel_rfl) (by kernel_rfl) ?_
            iterate 1 (quiet_step (fail))
            refine wpQuiet_step (fun K hK => ?_)
            go_simp
            apply Exists.intro
            refine ⟨fun p => ?_, hK _ ?_⟩
            · exact bw_of (w := W1) (p := p) (hV1.out p.W)
            clear hK K
            iterate 2 (quiet_step (fail))
            iterate 5 (quiet_step (fail))
            refine wpQuiet_step (fun K hK => ?_)
            go_simp
            apply Exists.intro
            refine ⟨fun p => ?_, hK _ ?_⟩
            · exact bw_of (w := W1) (p := p) (hV2.out p.W)
            clear hK K
            iterate 1 (quiet_step (fail))
            iterate 2 (quiet_step (fail))
            iterate 1 (quiet_step (fail))
            refine wpQuiet_step (fun K hK => ?_)
            go_simp
            apply Exists.intro
            refine ⟨fun p => ?_, hK _ ?_⟩
            · exact bw_of (w := W1) (p := p) (hV3.out p.W)
            clear hK K
            iterate 2 (quiet_step (fail))
            iterate 1 (quiet_step (fail))
            refine wpQuiet_nil ?_
            intro w3 hw'
            obtain ⟨⟨wx, hb_w3⟩, rfl⟩ := hw'
            have tb3 := tb.below hb_w3
            have fb3 := fb.below hb_w3
            have kb3 := kb.below hb_w3
            have hb3 := hBW.trans (hb_w3.mono hBW.size)
            have q6 := bw_cell tb3.lt tb3.c3
            have q7 := bw_cell tb3.lt tb3.c4
            have hVF := Lib.hid (fun W => Fr.vf_any W y3 y4)
            clear q0 q1 q2 q3 q4 q5 hb_w3 hV1 hV2 hV3 tb fb kb hq x0 x1 x2 x3
            go_wp2
            by_cases v4 : Fr.VF y3 y4
            · rw [decide_eq_true v4] at hVF
              by_cases v5 : y3 = 0 ∧ y4 = 1
              · obtain ⟨rfl, rfl⟩ := v5
                have hq : ∀ W, (Op.equalIn 10000 70 (.agg #[.int .i64 0, .int .i64 1]) (.agg #[.int .i64 0, .int .i64 1])).run Tryd.prog W = .ok true W := fun W => by rw [eqFrT]; simp
                obtain rfl : B = false := by
                  rw [Bool.eq_false_iff]
                  intro c
                  have ht := (hB0.out.1 c) k hlt
                  rw [hBk] at ht
                  exact ht.2.2.2.2.1 rfl
                refine wp_region_below (by kernel_rfl) (by kernel_rfl) ?_
                iterate 2 (quiet_step (fail))
                refine wpQuiet_step (fun K hK => ?_)
                go_simp
                apply Exists.intro
                refine ⟨fun p => ?_, hK _ ?_⟩
                · exact bw_of (w := w3) (p := p) (hVF.out p.W)
                clear hK K
                iterate 2 (quiet_step (fail))
                iterate 2 (quiet_step (fail))
                refine wpQuiet_step (fun K hK => ?_)
                go_simp
                apply Exists.intro
                refine ⟨fun p => ?_, hK _ ?_⟩
                · exact bw_of (w := w3) (p := p) (iwh_any p.W 0)
                clear hK K
                iterate 1 (quiet_step (fail))
                iterate 1 (quiet_step (fail))
                refine wpQuiet_nil ?_
                intro w4 hw'
                obtain ⟨⟨wx, hb_w4⟩, rfl⟩ := hw'
                go_wp2
                go_ret
                exact ⟨rfl, hB.trans ((hb3.trans (hb_w4.mono hb3.size)).mono hBz)⟩
              · have hq : ∀ W, (Op.equalIn 10000 70 (.agg #[.int .i64 y3, .int .i64 y4]) (.agg #[.int .i64 0, .int .i64 1])).run Tryd.prog W = .ok false W := fun W => by
                  rw [eqFrT]
                  have : (y3 == 0 && y4 == 1) = false := by
                    rw [Bool.eq_false_iff]
                    intro h
                    simp at h
                    exact v5 h
                  rw [this]
                have hy3 : y3 ≠ 0 := fun c => v5 ((vf_zero v4).1 c)
                refine wp_region_below (by kernel_rfl) (by kernel_rfl) ?_
                iterate 2 (quiet_step (fail))
                refine wpQuiet_step (fun K hK => ?_)
                go_simp
                apply Exists.intro
                refine ⟨fun p => ?_, hK _ ?_⟩
                · exact bw_of (w := w3) (p := p) (hVF.out p.W)
                clear hK K
                iterate 2 (quiet_step (fail))
                iterate 2 (quiet_step (fail))
                refine wpQuiet_step (fun K hK => ?_)
                go_simp
                apply Exists.intro
                refine ⟨fun p => ?_, hK _ ?_⟩
                · exact bw_of (w := w3) (p := p) (iwh_any p.W 0)
                clear hK K
                iterate 1 (quiet_step (fail))
                iterate 1 (quiet_step (fail))
                refine wpQuiet_nil ?_
                intro w4 hw'
                obtain ⟨⟨wx, hb_w4⟩, rfl⟩ := hw'
                have kb4 := kb3.below hb_w4
                have fb4 := fb3.below hb_w4
                have hb4 := hb3.trans (hb_w4.mono hb3.size)
                clear q6 q7 hb_w4 hVF hq tb3 fb3 kb3 hb3
                obtain ⟨_, x0, x1, x2, x3, _⟩ := id kb4
                obtain ⟨_, f0, f1, f2⟩ := id fb4
                have hB4 := hB.trans (hb4.mono hBz)
                go_wp2
                by_cases hk1 : k = 0
                · subst hk1
                  go_quiet (fail)
                  have hok2 : Hid (∀ j, j < 0 + 1 → TOk ⟨n, e, s, ts⟩ j) := fun j hj => by
                    obtain rfl : j = 0 := by omega
                    unfold TOk
                    dsimp only
                    rw [hBk]
                    exact ⟨v1, by simpa using v2, by simpa [Least] using v3, v4, hy3, fun c => absurd c (by omega)⟩
                  go_wp2
                  go_roundw
                  case rel => exact ⟨0 + 1, by omega, by go_num, hok2, kb4.drewN _, below_drewN hB4 _⟩
                  case measure => simp [intOf]; omega
                · obtain ⟨k', rfl⟩ : ∃ k', k = k' + 1 := ⟨k - 1, by omega⟩
                  have hgp := hg k' (by omega)
                  obtain ⟨z0, z1, z2, z3, z4, hz⟩ : ∃ z0 z1 z2 z3 z4, tAt ts k' = ⟨z0, z1, z2, z3, z4⟩ := ⟨_, _, _, _, _, rfl⟩
                  rw [hz] at hgp
                  have e2 : w4.cell? ⟨b, off + k' * 5 + 2, none⟩ = some (.int .u32 z2) := (hB4.cell (p := ⟨b, _, none⟩) hb).trans hgp.2.2.1
                  have hz0 := hbd.out k' (by rw [hld.out]; omega)
                  rw [hz] at hz0
                  dsimp only at hz0
                  clear hgp hg
                  by_cases v6 : z2 < (m2 : Int)
                  · have hd6 : decide ((m2 : Int) ≤ z2) = false := decide_eq_false (by omega)
                    go_quiet (fail)
                    have hok2 : Hid (∀ j, j < k' + 1 + 1 → TOk ⟨n, e, s, ts⟩ j) := fun j hj => by
                      by_cases c : j = k' + 1
                      · subst c
                        unfold TOk
                        dsimp only
                        rw [hBk, Nat.add_sub_cancel, hz]
                        exact ⟨v1, by simpa using v2, by simpa [Least] using v3, v4, hy3, fun _ => v6⟩
                      · exact hok.out j (by omega)
                    go_wp2
                    go_roundw
                    case rel => exact ⟨k' + 1 + 1, by omega, by go_num, hok2, kb4.drewN _, below_drewN hB4 _⟩
                    case measure => simp [intOf]; omega
                  · have hd6 : decide ((m2 : Int) ≤ z2) = true := decide_eq_true (by omega)
                    obtain rfl : B = false := by
                      rw [Bool.eq_false_iff]
                      intro c
                      have ht := (hB0.out.1 c) (k' + 1) hlt
                      rw [hBk, Nat.add_sub_cancel, hz] at ht
                      exact v6 (ht.2.2.2.2.2 (by omega))
                    go_quiet (fail)
                    go_wp2
                    go_ret
                    exact ⟨rfl, below_drewN hB4 _⟩
            · rw [decide_eq_false v4] at hVF
              obtain rfl : B = false := by
                rw [Bool.eq_false_iff]
                intro c
                have ht := (hB0.out.1 c) k hlt
                rw [hBk] at ht
                exact v4 ht.2.2.2.1
              refine wp_region_below (by kernel_rfl) (by kernel_rfl) ?_
              iterate 2 (quiet_step (fail))
              refine wpQuiet_step (fun K hK => ?_)
              go_simp
              apply Exists.intro
              refine ⟨fun p => ?_, hK _ ?_⟩
              · exact bw_of (w := w3) (p := p) (hVF.out p.W)
              clear hK K
              iterate 2 (quiet_step (fail))
              iterate 4 go_big_quiet_skip
              iterate 1 (quiet_step (fail))
              refine wpQuiet_nil ?_
              intro w4 hw'
              obtain ⟨⟨wx, hb_w4⟩, rfl⟩ := hw'
              go_wp2
              go_ret
              exact ⟨rfl, hB.trans ((hb3.trans (hb_w4.mono hb3.size)).mono hBz)⟩
          · obtain ⟨z, hz⟩ : ∃ z, leastK m1 m0 m2 = z := ⟨_, rfl⟩
            rw [hz] at hV3 v3
            have hq : ∀ W, (Op.equalIn 10000 92 (.agg #[.int .i64 (m0 : Int), .int .i64 (m1 : Int), .int .u32 (z : Int)]) (.agg #[.int .i64 (m0 : Int), .int .i64 (m1 : Int), .int .u32 (m2 : Int)])).run Tryd.prog W = .ok false W := fun W => by
              rw [eqFl]
              have : ((m0 : Int) == (m0 : Int) && ((m1 : Int) == (m1 : Int) && (z : Int) == (m2 : Int))) = false := by
                rw [Bool.eq_false_iff]
                intro h
                simp at h
                exact v3 (by omega)
              rw [this]
            obtain rfl : B = false := by
              rw [Bool.eq_false_iff]
              intro c
              have ht := (hB0.out.1 c) k hlt
              rw [hBk] at ht
              exact v3 (by rw [← hz]; simpa [Least] using ht.2.2.1)
            clear hz
            refine wp_region_below (by kernel_rfl) (by kernel_rfl) ?_
            iterate 1 (quiet_step (fail))
            refine wpQuiet_step (fun K hK => ?_)
            go_simp
            apply Exists.intro
            refine ⟨fun p => ?_, hK _ ?_⟩
            · exact bw_of (w := W1) (p := p) (hV1.out p.W)
            clear hK K
            iterate 2 (quiet_step (fail))
            iterate 5 (quiet_step (fail))
            refine wpQuiet_step (fun K hK => ?_)
            go_simp
            apply Exists.intro
            refine ⟨fun p => ?_, hK _ ?_⟩
            · exact bw_of (w := W1) (p := p) (hV2.out p.W)
            clear hK K
            iterate 1 (quiet_step (fail))
            iterate 2 (quiet_step (fail))
            iterate 1 (quiet_step (fail))
            refine wpQuiet_step (fun K hK => ?_)
            go_simp
            apply Exists.intro
            refine ⟨fun p => ?_, hK _ ?_⟩
            · exact bw_of (w := W1) (p := p) (hV3.out p.W)
            clear hK K
            iterate 2 (quiet_step (fail))
            iterate 1 (quiet_step (fail))
            refine wpQuiet_nil ?_
            intro w3 hw'
            obtain ⟨⟨wx, hb_w3⟩, rfl⟩ := hw'
            go_wp2
            go_ret
            exact ⟨rfl, hB.trans ((hBW.trans (hb_w3.mono hBW.size)).mono hBz)⟩
        · have hV2 := Lib.hid (fun W => iof_any W m0 m1 m2 n e s v1 false ⟨fun c => (by cases c), fun c => absurd c v2⟩)
          obtain rfl : B = false := by
            rw [Bool.eq_false_iff]
            intro c
            have ht := (hB0.out.1 c) k hlt
            rw [hBk] at ht
            exact v2 (by simpa using ht.2.1)
          refine wp_region_below (by kernel_rfl) (by kernel_rfl) ?_
          iterate 1 (quiet_step (fail))
          refine wpQuiet_step (fun K hK => ?_)
          go_simp
          apply Exists.intro
          refine ⟨fun p => ?_, hK _ ?_⟩
          · exact bw_of (w := W1) (p := p) (hV1.out p.W)
          clear hK K
          iterate 2 (quiet_step (fail))
          iterate 5 (quiet_step (fail))
          refine wpQuiet_step (fun K hK => ?_)
          go_simp
          apply Exists.intro
          refine ⟨fun p => ?_, hK _ ?_⟩
          · exact bw_of (w := W1) (p := p) (hV2.out p.W)
          clear hK K
          iterate 1 (quiet_step (fail))
          iterate 2 (quiet_step (fail))
          iterate 4 go_big_quiet_skip
          iterate 1 (quiet_step (fail))
          refine wpQuiet_nil ?_
          intro w3 hw'
          obtain ⟨⟨wx, hb_w3⟩, rfl⟩ := hw'
          go_wp2
          go_ret
          exact ⟨rfl, hB.trans ((hBW.trans (hb_w3.mono hBW.size)).mono hBz)⟩
      · have hV1 := Lib.hid (fun W => ivk_f W y0 y1 y2 (by omega) (by omega) v1)
        obtain rfl : B = false := by
          rw [Bool.eq_false_iff]
          intro c
          have ht := (hB0.out.1 c) k hlt
          rw [hBk] at ht
          exact v1 ht.1
        refine wp_region_below (by kernel_rfl) (by kernel_rfl) ?_
        iterate 1 (quiet_step (fail))
        refine wpQuiet_step (fun K hK => ?_)
        go_simp
        apply Exists.intro
        refine ⟨fun p => ?_, hK _ ?_⟩
        · exact bw_of (w := W1) (p := p) (hV1.out p.W)
        clear hK K
        iterate 2 (quiet_step (fail))
        iterate 7 go_big_quiet_skip
        iterate 2 (quiet_step (fail))
        iterate 4 go_big_quiet_skip
        iterate 1 (quiet_step (fail))
        refine wpQuiet_nil ?_
        intro w3 hw'
        obtain ⟨⟨wx, hb_w3⟩, rfl⟩ := hw'
        go_wp2
        go_ret
        exact ⟨rfl, hB.trans ((hBW.trans (hb_w3.mono hBW.size)).mono hBz)⟩
    · obtain rfl : k = l := by omega
      have hd := decide_eq_false (show ¬ ((k : Int) < (k : Int)) by omega)
      obtain rfl : B = true := hB0.out.2 (fun i hi => hok.out i hi)
      go_wp2
      go_ret
      exact ⟨rfl, hB⟩
end
end Go.Proofs.YtiedombphcdpbaaDoor
