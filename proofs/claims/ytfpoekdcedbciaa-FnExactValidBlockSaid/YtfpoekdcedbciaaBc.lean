/-
  WHICH BLOCKS ARE VALID: the program's word and the model's.
-/
import Derived.Test.YtfpoekdcedbciaaBk
import Derived.Test.YtfpoekdcedbciaaKFc
namespace Go.Proofs.Ytfpoekdcedbciaa
open Go.RowKit
set_option maxRecDepth 100000
attribute [local go_sem] Oper.semAt_some
def VB (Y : BM) : Prop := FamK Y.ks ∧ Fr.VM Y.m ∧ Y.m.length = Y.ks.length
section
variable (w : World)
set_option maxHeartbeats 1000000 in
theorem ivb_any (Y : BM) (z u : Value) (hz : SlK w z Y.ks) (hu : Fr.SlM w u Y.m) (hbd : BdK Y.ks) (hm : Y.ks.length ≤ 1048576) (hm2 : Y.m.length ≤ 1048576) (hr : ∀ i, i < Y.m.length → (Fr.rAt Y.m i).length ≤ 1048576) (B : Bool) (hB : B = true ↔ VB Y) :
    Calls Try.prog 21 #[.agg #[z, u]] w fun r w' => r = .returned (.bool B) ∧ Below w.heap.size w w' := by
  unfold VB at hB
  obtain ⟨ks, m⟩ := Y
  dsimp only at *
  obtain ⟨BM, hBM⟩ : ∃ B : Bool, (B = true ↔ Fr.VM m) := ⟨@decide (Fr.VM m) (Classical.propDecidable _), by simp⟩
  have hM := Lib.hid (fun W (hb : Below w.heap.size w W) => Fr.ivm_any W u m (hu.below hb) hm2 hr BM hBM.2 (fun h => by rw [Bool.eq_false_iff]; exact fun c => h (hBM.1 c)))
  obtain ⟨a, cap, rfl, hl⟩ := hz.lies
  obtain ⟨au, cu, rfl, _⟩ := hu
  by_cases h1 : AllK ks
  · obtain ⟨c, hc, hP⟩ := icp_any ks hm h1
    have hA := Lib.hid (fun W (hb : Below w.heap.size w W) => avk_t W a cap ks hm (hl.below hb) h1)
    replace hP := Lib.hid (fun W (hb : Below w.heap.size w W) => hP W a cap (hl.below hb))
    rw [← hc, ← hBM] at hB
    obtain ⟨l1, hl1⟩ : ∃ l, ks.length = l := ⟨_, rfl⟩
    obtain ⟨l2, hl2⟩ : ∃ l, m.length = l := ⟨_, rfl⟩
    rw [hl1] at hA hP hB ⊢
    rw [hl2] at hM hB ⊢
    clear hz hl hbd hm hm2 hr h1 hl1 hl2 hBM hc
    obtain ⟨W0, hW0⟩ : ∃ W0, W0 = w.alloc (.cells #[.slice a l1 cap, .slice au l2 cu] 56) := ⟨_, rfl⟩
    have hb0 : Below w.heap.size w W0 := by rw [hW0]; (repeat (first | exact Below.refl _ _ | assumption | refine bchain (by assumption) ?_ | refine balloc ?_ _ | apply Below.drew | apply below_drewN | (refine Below.alloc ?_ (by (try simp) <;> omega) _) | (refine Below.setCell ?_ (by (try simp) <;> omega) _)))
    have k0 : BB W0 w.heap.size (.slice a l1 cap) (.slice au l2 cu) := by rw [hW0]; exact BB.made _ _ _ _
    replace hW0 := Lib.hid hW0
    obtain ⟨_, x0, x1, _⟩ := id k0
    by_cases h2 : c = 0
    · subst h2
      cases BM with
      | true =>
        have hd : ((l2 : Int) == (l1 : Int)) = B := by
          rw [Bool.eq_iff_iff, hB]
          simp
          omega
        clear hB
        go_enter Try.func21, Try.ntmps21
        go_wp2_with fail
        rw [← hW0.out]
        go_wp2_with fail
        refine (hA.out _ hb0).mono ?_
        rintro r1 w1 ⟨rfl, hb1⟩
        replace k0 := k0.below hb1
        replace hb0 := bchain hb1 hb0
        clear hb1 x0 x1
        obtain ⟨_, x0, x1, _⟩ := id k0
        go_wp2_with fail
        refine (hP.out _ hb0).mono ?_
        rintro r2 w2 ⟨rfl, hb2⟩
        replace k0 := k0.below hb2
        replace hb0 := bchain hb2 hb0
        clear hb2 x0 x1
        obtain ⟨_, x0, x1, _⟩ := id k0
        go_wp2_with fail
        refine (hM.out _ hb0).mono ?_
        rintro r3 w3 ⟨rfl, hb3⟩
        replace k0 := k0.below hb3
        replace hb0 := bchain hb3 hb0
        clear hb3 x0 x1
        obtain ⟨_, x0, x1, _⟩ := id k0
        go_wp2
        go_ret
        exact ⟨rfl, hb0⟩
      | false =>
        obtain rfl : B = false := by
          rw [Bool.eq_false_iff]; intro c; have := (hB.1 c).2.1; cases this
        clear hB
        go_enter Try.func21, Try.ntmps21
        go_wp2_with fail
        rw [← hW0.out]
        go_wp2_with fail
        refine (hA.out _ hb0).mono ?_
        rintro r1 w1 ⟨rfl, hb1⟩
        replace k0 := k0.below hb1
        replace hb0 := bchain hb1 hb0
        clear hb1 x0 x1
        obtain ⟨_, x0, x1, _⟩ := id k0
        go_wp2_with fail
        refine (hP.out _ hb0).mono ?_
        rintro r2 w2 ⟨rfl, hb2⟩
        replace k0 := k0.below hb2
        replace hb0 := bchain hb2 hb0
        clear hb2 x0 x1
        obtain ⟨_, x0, x1, _⟩ := id k0
        go_wp2_with fail
        refine (hM.out _ hb0).mono ?_
        rintro r3 w3 ⟨rfl, hb3⟩
        go_wp2
        go_ret
        exact ⟨rfl, bchain hb3 hb0⟩
    · obtain rfl : B = false := by
        rw [Bool.eq_false_iff]; intro c; exact h2 (hB.1 c).1
      have d1 : (c == 0) = false := by simpa using h2
      clear hB h2
      go_enter Try.func21, Try.ntmps21
      go_wp2_with fail
      rw [← hW0.out]
      go_wp2_with fail
      refine (hA.out _ hb0).mono ?_
      rintro r1 w1 ⟨rfl, hb1⟩
      replace k0 := k0.below hb1
      replace hb0 := bchain hb1 hb0
      clear hb1 x0 x1
      obtain ⟨_, x0, x1, _⟩ := id k0
      go_wp2_with fail
      refine (hP.out _ hb0).mono ?_
      rintro r2 w2 ⟨rfl, hb2⟩
      go_wp2
      go_ret
      exact ⟨rfl, bchain hb2 hb0⟩
  · obtain ⟨j, j1, j2, j3⟩ := not_allK h1
    have hA := Lib.hid (fun W (hb : Below w.heap.size w W) => avk_f W a cap ks hm (hl.below hb) hbd j j1 j2 j3)
    obtain rfl : B = false := by
      rw [Bool.eq_false_iff]; intro c; exact h1 (hB.1 c).1.1
    obtain ⟨l1, hl1⟩ : ∃ l, ks.length = l := ⟨_, rfl⟩
    obtain ⟨l2, hl2⟩ : ∃ l, m.length = l := ⟨_, rfl⟩
    rw [hl1] at hA ⊢
    rw [hl2]
    clear hz hl hbd hm hm2 hr h1 hl1 hl2 hBM hB hM j1 j2 j3
    obtain ⟨W0, hW0⟩ : ∃ W0, W0 = w.alloc (.cells #[.slice a l1 cap, .slice au l2 cu] 56) := ⟨_, rfl⟩
    have hb0 : Below w.heap.size w W0 := by rw [hW0]; (repeat (first | exact Below.refl _ _ | assumption | refine bchain (by assumption) ?_ | refine balloc ?_ _ | apply Below.drew | apply below_drewN | (refine Below.alloc ?_ (by (try simp) <;> omega) _) | (refine Below.setCell ?_ (by (try simp) <;> omega) _)))
    have k0 : BB W0 w.heap.size (.slice a l1 cap) (.slice au l2 cu) := by rw [hW0]; exact BB.made _ _ _ _
    replace hW0 := Lib.hid hW0
    obtain ⟨_, x0, x1, _⟩ := id k0
    go_enter Try.func21, Try.ntmps21
    go_wp2_with fail
    rw [← hW0.out]
    go_wp2_with fail
    refine (hA.out _ hb0).mono ?_
    rintro r1 w1 ⟨rfl, hb1⟩
    go_wp2
    go_ret
    exact ⟨rfl, bchain hb1 hb0⟩
/-- a block's cells, from the cell o on -/
structure BC (W : World) (B o : Nat) (z u : Value) : Prop where
  lt : B < W.heap.size
  c0 : W.cell? ⟨B, o, none⟩ = some z
  c1 : W.cell? ⟨B, o + 1, none⟩ = some u
theorem BC.below {W W' : World} {B o : Nat} {z u : Value} (h : BC W B o z u) (hb : Below W.heap.size W W') : BC W' B o z u :=
  ⟨Nat.lt_of_lt_of_le h.lt hb.size, (hb.cell (p := ⟨B, o, none⟩) h.lt).trans h.c0, (hb.cell (p := ⟨B, o + 1, none⟩) h.lt).trans h.c1⟩
set_option maxHeartbeats 2000000 in
theorem s6b_any (Y : BM) (z u : Value) (G o : Nat) (k0 : BC w G o z u) (hz : SlK w z Y.ks) (hu : Fr.SlM w u Y.m) (hbd : BdK Y.ks) (hm : Y.ks.length ≤ 1048576) (hm2 : Y.m.length ≤ 1048576) (hr : ∀ i, i < Y.m.length → (Fr.rAt Y.m i).length ≤ 1048576) (B : Bool) (hB : B = true ↔ VB Y) :
    Calls Try.prog 70 #[.pointer (some ⟨G, o, none⟩)] w fun r w' => r = .returned (.bool B) ∧ Below w.heap.size w w' := by
  unfold VB at hB
  obtain ⟨ks, m⟩ := Y
  dsimp only at *
  obtain ⟨BM, hBM⟩ : ∃ B : Bool, (B = true ↔ Fr.VM m) := ⟨@decide (Fr.VM m) (Classical.propDecidable _), by simp⟩
  have hM := Lib.hid (fun W (hb : Below w.heap.size w W) => Fr.svm_any W u m (hu.below hb) hm2 hr BM hBM.2 (fun h => by rw [Bool.eq_false_iff]; exact fun c => h (hBM.1 c)))
  obtain ⟨a, cap, rfl, hl⟩ := hz.lies
  obtain ⟨au, cu, rfl, _⟩ := hu
  have hfam : ∃ c : Int, (c = 0 ↔ FamK ks) ∧ Hid (∀ W, Below w.heap.size w W → Calls Try.prog 128 #[.slice a ks.length cap] W fun r w' => r = .returned (.int .i64 c) ∧ Below W.heap.size W w') := by
    by_cases h1 : AllK ks
    · obtain ⟨c, hc, hP⟩ := sfam_any ks hm h1
      exact ⟨c, hc, fun W hb => hP W a cap (hl.below hb)⟩
    · obtain ⟨j, j1, j2, j3⟩ := not_allK h1
      exact ⟨1, ⟨fun c => by omega, fun c => absurd c.1 h1⟩, fun W hb => sfam_bad W a cap ks hm (hl.below hb) hbd j j1 j2 j3⟩
  obtain ⟨c, hc, hP⟩ := hfam
  rw [← hc, ← hBM] at hB
  obtain ⟨l1, hl1⟩ : ∃ l, ks.length = l := ⟨_, rfl⟩
  obtain ⟨l2, hl2⟩ : ∃ l, m.length = l := ⟨_, rfl⟩
  rw [hl1] at hP hB k0
  rw [hl2] at hM hB k0
  clear hz hl hbd hm hm2 hr hl1 hl2 hBM hc
  have q0 := bw_cell k0.lt k0.c0
  have q1 := bw_cell k0.lt k0.c1
  clear k0
  by_cases h2 : c = 0
  · subst h2
    cases BM with
    | true =>
      have hd : ((l2 : Int) == (l1 : Int)) = B := by
        rw [Bool.eq_iff_iff, hB]
        simp
        omega
      clear hB
      go_enter Try.func70, Try.ntmps70
      go_wp2
      refine wp_region_below (by kernel_rfl) (by kernel_rfl) ?_
      iterate 4 (quiet_step (fail))
      refine wpQuiet_step (fun K hK => ?_)
      go_simp
      apply Exists.intro
      refine ⟨fun p => ?_, hK _ ?_⟩
      · exact bw_of (w := w) (p := p) (hP.out p.W p.h)
      clear hK K
      iterate 2 (quiet_step (fail))
      iterate 4 (quiet_step (fail))
      refine wpQuiet_step (fun K hK => ?_)
      go_simp
      apply Exists.intro
      refine ⟨fun p => ?_, hK _ ?_⟩
      · exact bw_of (w := w) (p := p) (hM.out p.W p.h)
      clear hK K
      iterate 2 (quiet_step (fail))
      iterate 11 (quiet_step (fail))
      iterate 1 (quiet_step (fail))
      iterate 1 (quiet_step (fail))
      refine wpQuiet_nil ?_
      intro w3 hw'
      obtain ⟨⟨wx, hb_w3⟩, rfl⟩ := hw'
      go_wp2
      go_ret
      exact ⟨rfl, hb_w3⟩
    | false =>
      obtain rfl : B = false := by
        rw [Bool.eq_false_iff]; intro c; have := (hB.1 c).2.1; cases this
      clear hB
      go_enter Try.func70, Try.ntmps70
      go_wp2
      refine wp_region_below (by kernel_rfl) (by kernel_rfl) ?_
      iterate 4 (quiet_step (fail))
      refine wpQuiet_step (fun K hK => ?_)
      go_simp
      apply Exists.intro
      refine ⟨fun p => ?_, hK _ ?_⟩
      · exact bw_of (w := w) (p := p) (hP.out p.W p.h)
      clear hK K
      iterate 2 (quiet_step (fail))
      iterate 4 (quiet_step (fail))
      refine wpQuiet_step (fun K hK => ?_)
      go_simp
      apply Exists.intro
      refine ⟨fun p => ?_, hK _ ?_⟩
      · exact bw_of (w := w) (p := p) (hM.out p.W p.h)
      clear hK K
      iterate 2 (quiet_step (fail))
      iterate 11 go_big_quiet_skip
      iterate 1 (quiet_step (fail))
      iterate 1 (quiet_step (fail))
      refine wpQuiet_nil ?_
      intro w3 hw'
      obtain ⟨⟨wx, hb_w3⟩, rfl⟩ := hw'
      go_wp2
      go_ret
      exact ⟨rfl, hb_w3⟩
  · obtain rfl : B = false := by
      rw [Bool.eq_false_iff]; intro c; exact h2 (hB.1 c).1
    have d1 : (c == 0) = false := by simpa using h2
    clear hB h2
    go_enter Try.func70, Try.ntmps70
    go_wp2
    refine wp_region_below (by kernel_rfl) (by kernel_rfl) ?_
    iterate 4 (quiet_step (fail))
    refine wpQuiet_step (fun K hK => ?_)
    go_simp
    apply Exists.intro
    refine ⟨fun p => ?_, hK _ ?_⟩
    · exact bw_of (w := w) (p := p) (hP.out p.W p.h)
    clear hK K
    iterate 2 (quiet_step (fail))
    iterate 5 go_big_quiet_skip
    iterate 2 (quiet_step (fail))
    iterate 11 go_big_quiet_skip
    iterate 1 (quiet_step (fail))
    iterate 1 (quiet_step (fail))
    refine wpQuiet_nil ?_
    intro w3 hw'
    obtain ⟨⟨wx, hb_w3⟩, rfl⟩ := hw'
    go_wp2
    go_ret
    exact ⟨rfl, hb_w3⟩
theorem svb_any (Y : BM) (z u : Value) (hz : SlK w z Y.ks) (hu : Fr.SlM w u Y.m) (hbd : BdK Y.ks) (hm : Y.ks.length ≤ 1048576) (hm2 : Y.m.length ≤ 1048576) (hr : ∀ i, i < Y.m.length → (Fr.rAt Y.m i).length ≤ 1048576) (B : Bool) (hB : B = true ↔ VB Y) :
    Calls Try.prog 19 #[.agg #[z, u]] w fun r w' => r = .returned (.bool B) ∧ Below w.heap.size w w' := by
  have hE := Lib.hid (fun W G (hb : Below w.heap.size w W) k0 => s6b_any W Y z u G 0 k0 (hz.below hb) (hu.below hb) hbd hm hm2 hr B hB)
  obtain ⟨a, cap, rfl, _⟩ := hz
  obtain ⟨au, cu, rfl, _⟩ := hu
  obtain ⟨ks, m⟩ := Y
  dsimp only at hE ⊢
  obtain ⟨l1, hl1⟩ : ∃ l, ks.length = l := ⟨_, rfl⟩
  obtain ⟨l2, hl2⟩ : ∃ l, m.length = l := ⟨_, rfl⟩
  rw [hl1, hl2] at hE ⊢
  clear hl1 hl2 hbd hB hm hm2 hr
  obtain ⟨W0, hW0⟩ : ∃ W0, W0 = w.alloc (.cells #[.slice a l1 cap, .slice au l2 cu] 56) := ⟨_, rfl⟩
  have hb0 : Below w.heap.size w W0 := by rw [hW0]; (repeat (first | exact Below.refl _ _ | assumption | refine bchain (by assumption) ?_ | refine balloc ?_ _ | apply Below.drew | apply below_drewN | (refine Below.alloc ?_ (by (try simp) <;> omega) _) | (refine Below.setCell ?_ (by (try simp) <;> omega) _)))
  have k0 : BB W0 w.heap.size (.slice a l1 cap) (.slice au l2 cu) := by rw [hW0]; exact BB.made _ _ _ _
  replace hW0 := Lib.hid hW0
  go_enter Try.func19, Try.ntmps19
  go_wp2_with fail
  rw [← hW0.out]
  refine (hE.out _ _ hb0 ⟨k0.lt, k0.c0, k0.c1⟩).mono ?_
  rintro r1 w1 ⟨rfl, hb1⟩
  go_wp2
  go_ret
  exact ⟨rfl, bchain hb1 hb0⟩
end
end Go.Proofs.Ytfpoekdcedbciaa
