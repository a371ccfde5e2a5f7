/-
  WHICH PATTERNS ARE VALID: the model's word.
-/
import Derived.Test.YtiedombphcdpbaaDoorPc
namespace Go.Proofs.YtiedombphcdpbaaDoor
open Go.RowKit
set_option maxRecDepth 100000
attribute [local go_sem] Oper.semAt_some
theorem PB.drewN {W : World} {B : Nat} {n e s : Int} {u : Value} (h : PB W B n e s u) (m : Nat) : PB (W.drewN m) B n e s u := ⟨h.lt, h.c0, h.c1, h.c2, h.c3, h.fz⟩
section
variable (w : World)
set_option maxHeartbeats 1000000 in
theorem l7_graph (n e s : Int) (a : Option Addr) (l cap : Nat) (G : Nat) (k0 : PB w G n e s (.slice a l cap)) (hV : ∀ W, Calls Tryd.prog 68 #[.agg #[.int .i64 n, .int .u32 e]] W fun r w' => r = .returned (.bool false) ∧ Below W.heap.size W w') :
    Calls Tryd.prog 55 #[.pointer (some ⟨G, 0, none⟩)] w fun r w' => r = .returned (.bool false) ∧ Below w.heap.size w w' := by
  replace hV := Lib.hid hV
  have q0 := bw_cell k0.lt k0.c0
  have q1 := bw_cell k0.lt k0.c1
  have q2 := bw_cell k0.lt k0.c2
  have q3 := bw_cell k0.lt k0.c3
  go_enter Tryd.func55, Tryd.ntmps55
  go_wp2
  refine wp_region_below (by kernel_rfl) (by kernel_rfl) ?_
  iterate 4 (quiet_step (fail))
  refine wpQuiet_step (fun K hK => ?_)
  go_simp
  apply Exists.intro
  refine ⟨fun p => ?_, hK _ ?_⟩
  · exact bw_of (w := w) (p := p) (hV.out p.W)
  clear hK K
  iterate 2 (quiet_step (fail))
  iterate 10 go_big_quiet_skip
  iterate 2 (quiet_step (fail))
  iterate 11 go_big_quiet_skip
  iterate 2 (quiet_step (fail))
  iterate 6 go_big_quiet_skip
  iterate 1 (quiet_step (fail))
  refine wpQuiet_nil ?_
  intro w2 hw'
  obtain ⟨⟨wx, hb_w2⟩, rfl⟩ := hw'
  go_wp2
  go_ret
  exact ⟨rfl, hb_w2⟩
set_option maxHeartbeats 1000000 in
theorem l7_parts (n e s : Int) (a : Option Addr) (l cap : Nat) (G : Nat) (k0 : PB w G n e s (.slice a l cap)) (hv : VG n e) (h0 : 0 ≤ s) (h1 : s < 4294967296) (hp : hpB n s = false) :
    Calls Tryd.prog 55 #[.pointer (some ⟨G, 0, none⟩)] w fun r w' => r = .returned (.bool false) ∧ Below w.heap.size w w' := by
  have hV := Lib.hid (fun W => ok_t W n e hv)
  have hF := Lib.hid (fun W => fm_any W n e s h0 h1)
  rw [hp] at hF
  clear hv h0 h1 hp
  have q0 := bw_cell k0.lt k0.c0
  have q1 := bw_cell k0.lt k0.c1
  have q2 := bw_cell k0.lt k0.c2
  have q3 := bw_cell k0.lt k0.c3
  go_enter Tryd.func55, Tryd.ntmps55
  go_wp2
  refine wp_region_below (by kernel_rfl) (by kernel_rfl) ?_
  iterate 4 (quiet_step (fail))
  refine wpQuiet_step (fun K hK => ?_)
  go_simp
  apply Exists.intro
  refine ⟨fun p => ?_, hK _ ?_⟩
  · exact bw_of (w := w) (p := p) (hV.out p.W)
  clear hK K
  iterate 2 (quiet_step (fail))
  iterate 8 (quiet_step (fail))
  refine wpQuiet_step (fun K hK => ?_)
  go_simp
  apply Exists.intro
  refine ⟨fun p => ?_, hK _ ?_⟩
  · exact bw_of (w := w) (p := p) (hF.out p.W)
  clear hK K
  iterate 1 (quiet_step (fail))
  iterate 2 (quiet_step (fail))
  iterate 11 go_big_quiet_skip
  iterate 2 (quiet_step (fail))
  iterate 6 go_big_quiet_skip
  iterate 1 (quiet_step (fail))
  refine wpQuiet_nil ?_
  intro w2 hw'
  obtain ⟨⟨wx, hb_w2⟩, rfl⟩ := hw'
  go_wp2
  go_ret
  exact ⟨rfl, hb_w2⟩
set_option maxHeartbeats 1000000 in
theorem l7_len (n e s : Int) (a : Option Addr) (l cap : Nat) (G : Nat) (k0 : PB w G n e s (.slice a l cap)) (hv : VG n e) (h0 : 0 ≤ s) (h1 : s < 4294967296) (hp : hpB n s = true) (hl : ((l : Int) != n) = true) :
    Calls Tryd.prog 55 #[.pointer (some ⟨G, 0, none⟩)] w fun r w' => r = .returned (.bool false) ∧ Below w.heap.size w w' := by
  have hV := Lib.hid (fun W => ok_t W n e hv)
  have hF := Lib.hid (fun W => fm_any W n e s h0 h1)
  rw [hp] at hF
  clear hv h0 h1 hp
  have q0 := bw_cell k0.lt k0.c0
  have q1 := bw_cell k0.lt k0.c1
  have q2 := bw_cell k0.lt k0.c2
  have q3 := bw_cell k0.lt k0.c3
  go_enter Tryd.func55, Tryd.ntmps55
  go_wp2
  refine wp_region_below (by kernel_rfl) (by kernel_rfl) ?_
  iterate 4 (quiet_step (fail))
  refine wpQuiet_step (fun K hK => ?_)
  go_simp
  apply Exists.intro
  refine ⟨fun p => ?_, hK _ ?_⟩
  · exact bw_of (w := w) (p := p) (hV.out p.W)
  clear hK K
  iterate 2 (quiet_step (fail))
  iterate 8 (quiet_step (fail))
  refine wpQuiet_step (fun K hK => ?_)
  go_simp
  apply Exists.intro
  refine ⟨fun p => ?_, hK _ ?_⟩
  · exact bw_of (w := w) (p := p) (hF.out p.W)
  clear hK K
  iterate 1 (quiet_step (fail))
  iterate 2 (quiet_step (fail))
  iterate 11 (quiet_step (fail))
  iterate 2 (quiet_step (fail))
  iterate 6 go_big_quiet_skip
  iterate 1 (quiet_step (fail))
  refine wpQuiet_nil ?_
  intro w2 hw'
  obtain ⟨⟨wx, hb_w2⟩, rfl⟩ := hw'
  go_wp2
  go_ret
  exact ⟨rfl, hb_w2⟩
set_option maxHeartbeats 1000000 in
theorem l7_list (n e s : Int) (a : Option Addr) (l cap : Nat) (G : Nat) (k0 : PB w G n e s (.slice a l cap)) (hv : VG n e) (h0 : 0 ≤ s) (h1 : s < 4294967296) (hp : hpB n s = true) (hl : ((l : Int) != n) = false) (hL : ∀ W, Below w.heap.size w W → Calls Tryd.prog 92 #[.slice a l cap] W fun r w' => r = .returned (.bool false) ∧ Below W.heap.size W w') :
    Calls Tryd.prog 55 #[.pointer (some ⟨G, 0, none⟩)] w fun r w' => r = .returned (.bool false) ∧ Below w.heap.size w w' := by
  have hV := Lib.hid (fun W => ok_t W n e hv)
  have hF := Lib.hid (fun W => fm_any W n e s h0 h1)
  rw [hp] at hF
  replace hL := Lib.hid hL
  clear hv h0 h1 hp
  have q0 := bw_cell k0.lt k0.c0
  have q1 := bw_cell k0.lt k0.c1
  have q2 := bw_cell k0.lt k0.c2
  have q3 := bw_cell k0.lt k0.c3
  go_enter Tryd.func55, Tryd.ntmps55
  go_wp2
  refine wp_region_below (by kernel_rfl) (by kernel_rfl) ?_
  iterate 4 (quiet_step (fail))
  refine wpQuiet_step (fun K hK => ?_)
  go_simp
  apply Exists.intro
  refine ⟨fun p => ?_, hK _ ?_⟩
  · exact bw_of (w := w) (p := p) (hV.out p.W)
  clear hK K
  iterate 2 (quiet_step (fail))
  iterate 8 (quiet_step (fail))
  refine wpQuiet_step (fun K hK => ?_)
  go_simp
  apply Exists.intro
  refine ⟨fun p => ?_, hK _ ?_⟩
  · exact bw_of (w := w) (p := p) (hF.out p.W)
  clear hK K
  iterate 1 (quiet_step (fail))
  iterate 2 (quiet_step (fail))
  iterate 11 (quiet_step (fail))
  iterate 2 (quiet_step (fail))
  iterate 4 (quiet_step (fail))
  refine wpQuiet_step (fun K hK => ?_)
  go_simp
  apply Exists.intro
  refine ⟨fun p => ?_, hK _ ?_⟩
  · exact bw_of (w := w) (p := p) (hL.out p.W p.h)
  clear hK K
  iterate 1 (quiet_step (fail))
  iterate 1 (quiet_step (fail))
  refine wpQuiet_nil ?_
  intro w2 hw'
  obtain ⟨⟨wx, hb_w2⟩, rfl⟩ := hw'
  go_wp2
  go_ret
  exact ⟨rfl, hb_w2⟩
set_option maxHeartbeats 2000000 in
theorem l7_sum (n e s : Int) (u : Value) (gs : List (Int × Int)) (hS : Fr.SlG w u gs) (G : Nat) (k0 : PB w G n e s u) (hv : VG n e) (h0 : 0 ≤ s) (h1 : s < 4294967296) (hp : hpB n s = true) (hl : (gs.length : Int) = n) (hm : gs.length ≤ 4) (hA : Fr.AllV gs) (B : Bool) (hB0 : B = true ↔ AllW gs ∧ OneW gs) :
    Calls Tryd.prog 55 #[.pointer (some ⟨G, 0, none⟩)] w fun r w' => r = .returned (.bool B) ∧ Below w.heap.size w w' := by
  have hVl : Fr.Vl gs := ⟨by omega, hA⟩
  have hL := fun W (hW : Below w.heap.size w W) => Fr.svl_t W u gs (hS.below hW) hVl
  have hQ := fun W (hW : Below w.heap.size w W) => Fr.ssf_ok W u gs (hS.below hW) hVl
  obtain ⟨p1, q1', c, hlv, ho⟩ := lv_one (Fr.sumTo gs gs.length)
  rw [hlv] at hQ
  unfold OneW at hB0
  rw [ho] at hB0
  replace hQ := Lib.hid hQ
  replace hL := Lib.hid hL
  have hV := Lib.hid (fun W => ok_t W n e hv)
  have hF := Lib.hid (fun W => fm_any W n e s h0 h1)
  rw [hp] at hF
  have hO := Lib.hid (fun W => Fr.one_any W 1)
  obtain ⟨a, cap, rfl, hc⟩ := hS.lies
  obtain ⟨l, hld⟩ : ∃ l, gs.length = l := ⟨_, rfl⟩
  rw [hld] at hL hQ hl hm k0
  have hlk : ((l : Int) != n) = false := by simpa using hl
  replace hc := Lib.hid hc
  replace hA := Lib.hid hA
  replace hB0 := Lib.hid hB0
  replace hld := Lib.hid hld
  clear hlv ho hv h0 h1 hp hVl hS hl
  have q0 := bw_cell k0.lt k0.c0
  have q1 := bw_cell k0.lt k0.c1
  have q2 := bw_cell k0.lt k0.c2
  have q3 := bw_cell k0.lt k0.c3
  go_enter Tryd.func55, Tryd.ntmps55
  go_wp2
  refine wp_region_below (by kernel_rfl) (by kernel_rfl) ?_
  iterate 4 (quiet_step (fail))
  refine wpQuiet_step (fun K hK => ?_)
  go_simp
  apply Exists.intro
  refine ⟨fun p => ?_, hK _ ?_⟩
  · exact bw_of (w := w) (p := p) (hV.out p.W)
  clear hK K
  iterate 2 (quiet_step (fail))
  iterate 8 (quiet_step (fail))
  refine wpQuiet_step (fun K hK => ?_)
  go_simp
  apply Exists.intro
  refine ⟨fun p => ?_, hK _ ?_⟩
  · exact bw_of (w := w) (p := p) (hF.out p.W)
  clear hK K
  iterate 1 (quiet_step (fail))
  iterate 2 (quiet_step (fail))
  iterate 11 (quiet_step (fail))
  iterate 2 (quiet_step (fail))
  iterate 4 (quiet_step (fail))
  refine wpQuiet_step (fun K hK => ?_)
  go_simp
  apply Exists.intro
  refine ⟨fun p => ?_, hK _ ?_⟩
  · exact bw_of (w := w) (p := p) (hL.out p.W p.h)
  clear hK K
  iterate 1 (quiet_step (fail))
  iterate 1 (quiet_step (fail))
  refine wpQuiet_nil ?_
  intro w2 hw'
  obtain ⟨⟨wx, hb_w2⟩, rfl⟩ := hw'
  have k2 := k0.below hb_w2
  clear q0 q1 q2 q3 hV hF hL
  obtain ⟨_, x0, x1, x2, x3, _⟩ := id k2
  go_wp2
  go_loopw [3] (fun i wr => ∃ k : Nat, k ≤ l ∧ i = .int .i64 k ∧ Hid (∀ j, j < k → 0 ≤ (Fr.gAt gs j).1) ∧ Below w.heap.size w wr) (fun i _ => l - (intOf i).toNat)
  case atStart => exact ⟨0, by omega, rfl, fun j hj => by omega, hb_w2⟩
  case round =>
    clear k2 x0 x1 x2 x3 hb_w2
    obtain ⟨k, hk, rfl, hok, hB⟩ := hrel
    have kr := k0.below hB
    obtain ⟨ltG, x0, x1, x2, x3, _⟩ := id kr
    by_cases hlt : k < l
    · obtain ⟨b, off, rfl, hb, hg⟩ := hc.out k (by have := hld.out; omega)
      obtain ⟨x, y, hxy⟩ : ∃ x y, Fr.gAt gs k = (x, y) := ⟨_, _, rfl⟩
      have s0 : wr.cell? ⟨b, off + k * 2, none⟩ = some (.int .i64 x) := by rw [hB.cell (p := ⟨b, _, none⟩) hb, hg.1, hxy]
      have hkn : (k : Int) < (l : Int) := by omega
      have hkn0 : (0 : Int) ≤ (k : Int) := by omega
      clear hg
      by_cases hx : x < 0
      · have hdx : decide (x < 0) = true := decide_eq_true hx
        obtain rfl : B = false := by
          rw [Bool.eq_false_iff]
          intro h
          have := ((hB0.out.1 h).1 k (by have := hld.out; omega)).2
          rw [hxy] at this
          dsimp only at this
          omega
        clear hxy hx
        go_wp2
        go_ret
        exact ⟨rfl, hB⟩
      · have hdx : decide (x < 0) = false := decide_eq_false hx
        have hok2 : Hid (∀ j, j < k + 1 → 0 ≤ (Fr.gAt gs j).1) := fun j hj => by
          by_cases ej : j = k
          · rw [ej, hxy]; exact Int.not_lt.1 hx
          · exact hok.out j (by omega)
        clear hxy hx
        go_wp2
        go_roundw
        case rel => exact ⟨k + 1, by omega, by go_num, hok2, hB⟩
        case measure => simp [intOf]; omega
    · have hd := decide_eq_false (show ¬ ((k : Int) < (l : Int)) by omega)
      obtain rfl : k = l := by omega
      have hAW : AllW gs := fun i hi => ⟨hA.out i hi, hok.out i (by have := hld.out; omega)⟩
      have hB1 : Hid (B = true ↔ c = 0 ∧ p1 = 1 ∧ q1' = 1) := by
        show B = true ↔ _
        rw [hB0.out]
        exact ⟨fun h => h.2, fun h => ⟨hAW, h⟩⟩
      clear hAW hok hB0
      go_wp2_with fail
      refine (hQ.out _ hB).mono ?_
      rintro r4 w4 ⟨rfl, hb4⟩
      have hB4 := bchain hb4 hB
      clear hb4 x0 x1 x2 x3 kr ltG
      obtain ⟨W5, hW5⟩ : ∃ W5, W5 = w4.alloc (.cells #[.int .i64 p1, .int .i64 q1'] 70) := ⟨_, rfl⟩
      have bX : Below w4.heap.size w4 W5 := by rw [hW5]; exact balloc (Below.refl _ _) _
      have zX : w4.heap.size < W5.heap.size := by rw [hW5]; simp
      have g0 : W5.cell? ⟨w4.heap.size, 0, none⟩ = some (.int .i64 p1) := by rw [hW5, World.cell?_alloc_new]; rfl
      have g1 : W5.cell? ⟨w4.heap.size, 1, none⟩ = some (.int .i64 q1') := by rw [hW5, World.cell?_alloc_new]; rfl
      replace hW5 := Lib.hid hW5
      have z0 := bw_cell zX g0
      have z1 := bw_cell zX g1
      go_wp2_with fail
      rw [← hW5.out]
      by_cases c0 : c = 0
      · subst c0
        have hq : ∀ W, (Op.equalIn 10000 70 (.agg #[.int .i64 p1, .int .i64 q1']) (.agg #[.int .i64 1, .int .i64 1])).run Tryd.prog W = .ok B W := fun W => by
          rw [Fr.eqFr]
          have : (p1 == 1 && q1' == 1) = B := by
            rw [Bool.eq_iff_iff, hB1.out]
            simp
          rw [this]
        refine wp_region_below (by kernel_rfl) (by kernel_rfl) ?_
        iterate 4 (quiet_step (fail))
        refine wpQuiet_step (fun K hK => ?_)
        go_simp
        apply Exists.intro
        refine ⟨fun p => ?_, hK _ ?_⟩
        · exact bw_of (w := W5) (p := p) (hO.out p.W)
        clear hK K
        iterate 1 (quiet_step (fail))
        iterate 2 (quiet_step (fail))
        refine wpQuiet_nil ?_
        intro w6 hw'
        obtain ⟨⟨wx, hb_w6⟩, rfl⟩ := hw'
        go_wp2
        go_ret
        exact ⟨rfl, bchain hb_w6 (bchain bX hB4)⟩
      · have hd2 : (c == 0) = false := by simpa using c0
        obtain rfl : B = false := by
          rw [Bool.eq_false_iff]; intro h; exact c0 (hB1.out.1 h).1
        refine wp_region_below (by kernel_rfl) (by kernel_rfl) ?_
        iterate 3 (quiet_step (fail))
        iterate 3 go_big_quiet_skip
        iterate 2 (quiet_step (fail))
        refine wpQuiet_nil ?_
        intro w6 hw'
        obtain ⟨⟨wx, hb_w6⟩, rfl⟩ := hw'
        go_wp2
        go_ret
        exact ⟨rfl, bchain hb_w6 (bchain bX hB4)⟩
theorem l7_any (X : PM) (u : Value) (G : Nat) (k0 : PB w G X.n X.e X.s u) (hS : Fr.SlG w u X.ts) (hbd : BdP X) (B : Bool) (hB : B = true ↔ VPat X) :
    Calls Tryd.prog 55 #[.pointer (some ⟨G, 0, none⟩)] w fun r w' => r = .returned (.bool B) ∧ Below w.heap.size w w' := by
  obtain ⟨n, e, s, ts⟩ := X
  unfold VPat at hB
  obtain ⟨hb0, hb1, hb2, hb3⟩ := hbd
  dsimp only at hS hB hb0 hb1 hb2 hb3 k0 ⊢
  obtain ⟨a, cap, rfl, hcap, hcap2, _⟩ := id hS
  by_cases h1 : VG n e
  · by_cases h2 : hpB n s = true
    · have hn4 : 1 ≤ n ∧ n ≤ 4 := by
        unfold hpB at h2
        rw [decide_eq_true_iff] at h2
        exact ⟨h2.1, h2.2.1⟩
      by_cases h3 : (ts.length : Int) = n
      · by_cases h4 : Fr.AllV ts
        · exact l7_sum w n e s _ ts hS G k0 h1 hb2 hb3 h2 h3 (by omega) h4 B (by rw [hB]; exact ⟨fun h => h.2.2.2, fun h => ⟨h1, h2, h3, h⟩⟩)
        · obtain rfl : B = false := by
            rw [Bool.eq_false_iff]; intro c; exact h4 (hB.1 c).2.2.2.1.allV
          exact l7_list w n e s a ts.length cap G k0 h1 hb2 hb3 h2 (by simpa using h3) (fun W hb => Fr.svl_f W _ ts (hS.below hb) (by omega) (fun c => h4 c.2))
      · obtain rfl : B = false := by
          rw [Bool.eq_false_iff]; intro c; exact h3 (hB.1 c).2.2.1
        exact l7_len w n e s a ts.length cap G k0 h1 hb2 hb3 h2 (by simpa using h3)
    · obtain rfl : B = false := by
        rw [Bool.eq_false_iff]; intro c; exact h2 (hB.1 c).2.1
      exact l7_parts w n e s a ts.length cap G k0 h1 hb2 hb3 (Bool.eq_false_iff.2 h2)
  · obtain rfl : B = false := by
      rw [Bool.eq_false_iff]; intro c; exact h1 (hB.1 c).1
    exact l7_graph w n e s a ts.length cap G k0 (fun W => ok_f W n e hb1 hb0 h1)
end
end Go.Proofs.YtiedombphcdpbaaDoor
