/-
  SameCertificate: the program's word and the model's.
-/
import Derived.Test.YtfpoekdcedbciaaCl
import Derived.Test.YtfpoekdcedbciaaKe
namespace Go.Proofs.Ytfpoekdcedbciaa
open Go.RowKit
set_option maxRecDepth 100000
attribute [local go_sem] Oper.semAt_some
theorem bAt_ext {xs ys : List BM} (hl : xs.length = ys.length) (h : ∀ i, i < xs.length → bAt xs i = bAt ys i) : xs = ys := by
  refine List.ext_getElem hl ?_
  intro i h1 h2
  have := h i h1
  simpa [bAt, List.getElem?_eq_getElem h1, List.getElem?_eq_getElem h2] using this
theorem bm_ext {X Y : BM} (h1 : X.ks = Y.ks) (h2 : X.m = Y.m) : X = Y := by
  cases X
  cases Y
  dsimp only at h1 h2
  rw [h1, h2]
section
variable (w : World)
set_option maxHeartbeats 1000000 in
theorem icl_any (Y Y' : BM) (z u z' u' : Value) (hz : SlK w z Y.ks) (hu : Fr.SlM w u Y.m) (hz' : SlK w z' Y'.ks) (hu' : Fr.SlM w u' Y'.m) (hm : wtB Y ≤ 1048576) (B : Bool) (hB : B = true ↔ Y = Y') :
    Calls Try.prog 79 #[.agg #[z, u], .agg #[z', u']] w fun r w' => r = .returned (.bool B) ∧ Below w.heap.size w w' := by
  have hr : ∀ i, i < Y.m.length → (Fr.rAt Y.m i).length ≤ 1048576 := fun i hi => by have := Fr.row_le Y.m hi; unfold wtB at hm; omega
  have hm1 : Y.ks.length ≤ 1048576 := by unfold wtB at hm; omega
  have hm2 : Y.m.length ≤ 1048576 := by unfold wtB at hm; omega
  obtain ⟨ks, m⟩ := Y
  obtain ⟨ks', m'⟩ := Y'
  dsimp only at *
  have hB2 : B = true ↔ (ks = ks' ∧ m = m') := hB.trans ⟨fun h => by cases h; exact ⟨rfl, rfl⟩, fun h => by rw [h.1, h.2]⟩
  obtain ⟨BG, hBG⟩ : ∃ B : Bool, (B = true ↔ ks = ks') := ⟨decide (ks = ks'), by simp⟩
  have hG := Lib.hid (fun W (hb : Below w.heap.size w W) => sleqK_any W z z' ks ks' (hz.below hb) (hz'.below hb) hm1 BG hBG)
  have hM := Lib.hid (fun W (hb : Below w.heap.size w W) => Fr.ism_any W u u' m m' (hu.below hb) (hu'.below hb) hm2 hr)
  rw [← hBG] at hB2
  obtain ⟨a, cap, rfl, _⟩ := hz
  obtain ⟨au, cu, rfl, _⟩ := hu
  obtain ⟨a', cap', rfl, _⟩ := hz'
  obtain ⟨au', cu', rfl, _⟩ := hu'
  obtain ⟨BM1, hBM⟩ : ∃ B, decide (m = m') = B := ⟨_, rfl⟩
  have hB3 : B = (BG && BM1) := by
    rw [Bool.eq_iff_iff, hB2, Bool.and_eq_true, ← hBM, decide_eq_true_iff]
  rw [hBM] at hM
  obtain ⟨l1, hl1⟩ : ∃ l, ks.length = l := ⟨_, rfl⟩
  obtain ⟨l2, hl2⟩ : ∃ l, m.length = l := ⟨_, rfl⟩
  obtain ⟨l1', hl1'⟩ : ∃ l, ks'.length = l := ⟨_, rfl⟩
  obtain ⟨l2', hl2'⟩ : ∃ l, m'.length = l := ⟨_, rfl⟩
  rw [hl1, hl1'] at hG ⊢
  rw [hl2, hl2'] at hM ⊢
  clear hB hB2 hBG hBM hm hm1 hm2 hr hl1 hl2 hl1' hl2'
  obtain ⟨W0, hW0⟩ : ∃ W0, W0 = (w.alloc (.cells #[.slice a l1 cap, .slice au l2 cu] 56)).alloc (.cells #[.slice a' l1' cap', .slice au' l2' cu'] 56) := ⟨_, rfl⟩
  have hb0 : Below w.heap.size w W0 := by rw [hW0]; (repeat (first | exact Below.refl _ _ | assumption | refine bchain (by assumption) ?_ | refine balloc ?_ _ | apply Below.drew | apply below_drewN | (refine Below.alloc ?_ (by (try simp) <;> omega) _) | (refine Below.setCell ?_ (by (try simp) <;> omega) _)))
  have sz : ∀ (W : World) (o : Obj), (W.alloc o).heap.size = W.heap.size + 1 := fun W o => by simp
  have k0 : BB W0 w.heap.size (.slice a l1 cap) (.slice au l2 cu) := by rw [hW0]; exact (BB.made _ _ _ _).below (balloc (Below.refl _ _) _)
  have k1 : BB W0 (w.heap.size + 1) (.slice a' l1' cap') (.slice au' l2' cu') := by rw [hW0, ← sz w (.cells #[.slice a l1 cap, .slice au l2 cu] 56)]; exact BB.made _ _ _ _
  replace hW0 := Lib.hid hW0
  clear sz
  obtain ⟨_, x0, x1, _⟩ := id k0
  obtain ⟨_, y0, y1, _⟩ := id k1
  cases BG with
  | true =>
    have e : B = BM1 := by simpa using hB3
    clear hB3
    subst e
    go_enter Try.func79, Try.ntmps79
    go_wp2_with fail
    rw [← hW0.out]
    go_wp2_with fail
    refine (hG.out _ hb0).mono ?_
    rintro r1 w1 ⟨rfl, hb1⟩
    replace k0 := k0.below hb1
    replace k1 := k1.below hb1
    replace hb0 := bchain hb1 hb0
    clear hb1 x0 x1 y0 y1
    obtain ⟨_, x0, x1, _⟩ := id k0
    obtain ⟨_, y0, y1, _⟩ := id k1
    go_wp2_with fail
    refine (hM.out _ hb0).mono ?_
    rintro r2 w2 ⟨rfl, hb2⟩
    go_wp2
    go_ret
    exact ⟨rfl, bchain hb2 hb0⟩
  | false =>
    have e : B = false := by simpa using hB3
    clear hB3
    subst e
    go_enter Try.func79, Try.ntmps79
    go_wp2_with fail
    rw [← hW0.out]
    go_wp2_with fail
    refine (hG.out _ hb0).mono ?_
    rintro r1 w1 ⟨rfl, hb1⟩
    go_wp2
    go_ret
    exact ⟨rfl, bchain hb1 hb0⟩
set_option maxHeartbeats 2000000 in
theorem ief_any (u v : Value) (xs ys : List BM) (hS : SlB w u xs) (hS' : SlB w v ys) (hm : xs.length + totB xs xs.length ≤ 1048576) (B : Bool) (hB0 : B = true ↔ xs = ys) :
    Calls Try.prog 78 #[u, v, .func (.func 79) #[] #[]] w fun r w' => r = .returned (.bool B) ∧ Below w.heap.size w w' := by
  obtain ⟨a, cap, rfl, h1, h2, h3⟩ := hS.rows
  obtain ⟨a', cap', rfl, h1', h2', h3'⟩ := hS'.rows
  clear hS hS'
  have hwt := Lib.hid (fun i (hi : i < xs.length) => wtB_le xs hi)
  replace hB0 := Lib.hid hB0
  by_cases hl : xs.length = ys.length
  · rw [← hl] at h3' h1' ⊢
    obtain ⟨n, hn⟩ : ∃ n, xs.length = n := ⟨_, rfl⟩
    rw [hn] at hm h1 h1' h3 h3' hwt ⊢
    replace hn := Lib.hid hn
    replace hl := Lib.hid hl
    go_enter Try.func78, Try.ntmps78
    go_wp2
    go_loopw [7, 8, 9, 17] (fun _ _ _ i wr => ∃ k : Nat, k ≤ n ∧ i = .int .i64 k ∧ (∀ j, j < k → bAt xs j = bAt ys j) ∧ Below w.heap.size w wr) (fun _ _ _ i _ => n - (intOf i).toNat)
    case atStart => exact ⟨0, by omega, rfl, fun j hj => by omega, by (repeat (first | exact Below.refl _ _ | assumption | refine bchain (by assumption) ?_ | refine balloc ?_ _ | apply Below.drew | apply below_drewN | (refine Below.alloc ?_ (by (try simp) <;> omega) _) | (refine Below.setCell ?_ (by (try simp) <;> omega) _)))⟩
    case round =>
      obtain ⟨k, hk, rfl, heq, hB⟩ := hrel
      replace heq := Lib.hid heq
      by_cases hlt : k < n
      · skip
        obtain ⟨b, off, rfl, hb, hg⟩ := h3.out (by omega)
        obtain ⟨b', off', rfl, hb', hg'⟩ := h3'.out (by omega)
        obtain ⟨z, u, hzc, huc, hSz, hSu⟩ := hg k hlt
        obtain ⟨z', u', hzc', huc', hSz', hSu'⟩ := hg' k hlt
        have hw := hwt.out k hlt
        obtain ⟨BE, hBE⟩ : ∃ B : Bool, (B = true ↔ bAt xs k = bAt ys k) := ⟨@decide (bAt xs k = bAt ys k) (Classical.propDecidable _), by simp⟩
        have hE := Lib.hid (fun W (hb : Below wr.heap.size wr W) => icl_any W (bAt xs k) (bAt ys k) z u z' u' ((hSz.below hB).below hb) ((hSu.below hB).below hb) ((hSz'.below hB).below hb) ((hSu'.below hB).below hb) (by omega) BE hBE)
        have s0 : wr.cell? ⟨b, off + k * 2, none⟩ = some z := (hB.cell (p := ⟨b, _, none⟩) hb).trans hzc
        have s1 : wr.cell? ⟨b, off + k * 2 + 1, none⟩ = some u := (hB.cell (p := ⟨b, _, none⟩) hb).trans huc
        have t0 : wr.cell? ⟨b', off' + k * 2, none⟩ = some z' := (hB.cell (p := ⟨b', _, none⟩) hb').trans hzc'
        have t1 : wr.cell? ⟨b', off' + k * 2 + 1, none⟩ = some u' := (hB.cell (p := ⟨b', _, none⟩) hb').trans huc'
        have hbz : b' < wr.heap.size := by have := hB.size; omega
        obtain ⟨a2, c2, rfl, _⟩ := hSz
        obtain ⟨a3, c3, rfl, _⟩ := hSu
        obtain ⟨a4, c4, rfl, _⟩ := hSz'
        obtain ⟨a5, c5, rfl, _⟩ := hSu'
        obtain ⟨m1, hm1⟩ : ∃ l, (bAt xs k).ks.length = l := ⟨_, rfl⟩
        obtain ⟨m2, hm2⟩ : ∃ l, (bAt xs k).m.length = l := ⟨_, rfl⟩
        obtain ⟨m3, hm3⟩ : ∃ l, (bAt ys k).ks.length = l := ⟨_, rfl⟩
        obtain ⟨m4, hm4⟩ : ∃ l, (bAt ys k).m.length = l := ⟨_, rfl⟩
        rw [hm1, hm2, hm3, hm4] at hE
        rw [hm1] at s0
        rw [hm2] at s1
        rw [hm3] at t0
        rw [hm4] at t1
        have hkn : (k : Int) < (n : Int) := by omega
        have hk0 : (0 : Int) ≤ (k : Int) := by omega
        clear hzc huc hzc' huc' hw hg hg' hm1 hm2 hm3 hm4
        replace hBE := Lib.hid hBE
        cases BE with
        | true =>
          have hne := Lib.hid (hBE.out.1 rfl)
          go_wp2_with fail
          refine (hE.out _ (by (repeat (first | exact Below.refl _ _ | assumption | refine bchain (by assumption) ?_ | refine balloc ?_ _ | apply Below.drew | apply below_drewN | (refine Below.alloc ?_ (by (try simp) <;> omega) _) | (refine Below.setCell ?_ (by (try simp) <;> omega) _))))).mono ?_
          rintro r3 w3 ⟨rfl, hb3⟩
          go_wp2
          go_roundw
          case rel => exact ⟨k + 1, by omega, by go_num, fun j hj => by
            by_cases e : j = k
            · rw [e]; exact hne.out
            · exact heq.out j (by omega), by (repeat (first | exact Below.refl _ _ | assumption | refine bchain (by assumption) ?_ | refine balloc ?_ _ | apply Below.drew | apply below_drewN | (refine Below.alloc ?_ (by (try simp) <;> omega) _) | (refine Below.setCell ?_ (by (try simp) <;> omega) _)))⟩
          case measure => simp [intOf]; omega
        | false =>
          obtain rfl : B = false := by
            rw [Bool.eq_false_iff]
            intro c
            have := hBE.out.2 (by rw [hB0.out.1 c])
            cases this
          clear hB0 hBE
          go_wp2_with fail
          refine (hE.out _ (by (repeat (first | exact Below.refl _ _ | assumption | refine bchain (by assumption) ?_ | refine balloc ?_ _ | apply Below.drew | apply below_drewN | (refine Below.alloc ?_ (by (try simp) <;> omega) _) | (refine Below.setCell ?_ (by (try simp) <;> omega) _))))).mono ?_
          rintro r3 w3 ⟨rfl, hb3⟩
          go_wp2
          go_ret
          exact ⟨rfl, by (repeat (first | exact Below.refl _ _ | assumption | refine bchain (by assumption) ?_ | refine balloc ?_ _ | apply Below.drew | apply below_drewN | (refine Below.alloc ?_ (by (try simp) <;> omega) _) | (refine Below.setCell ?_ (by (try simp) <;> omega) _)))⟩
      · obtain rfl : k = n := by omega
        have hd := decide_eq_false (show ¬ ((k : Int) < (k : Int)) by omega)
        obtain rfl : B = true := hB0.out.2 (bAt_ext hl.out (fun i hi => heq.out i (by rw [← hn.out]; exact hi)))
        go_wp2
        go_ret
        exact ⟨rfl, hB⟩
  · obtain rfl : B = false := by
      rw [Bool.eq_false_iff]
      intro c
      exact hl (by rw [hB0.out.1 c])
    have hd : ((xs.length : Int) == (ys.length : Int)) = false := by simp; omega
    obtain ⟨p, hp⟩ : ∃ p, xs.length = p := ⟨_, rfl⟩
    obtain ⟨q, hq⟩ : ∃ q, ys.length = q := ⟨_, rfl⟩
    rw [hp, hq] at hd
    rw [hp, hq]
    clear h3 h3' hl hp hq hB0 hwt
    go_enter Try.func78, Try.ntmps78
    go_wp2
    go_ret
    exact ⟨rfl, by (repeat (first | exact Below.refl _ _ | assumption | refine bchain (by assumption) ?_ | refine balloc ?_ _ | apply Below.drew | apply below_drewN | (refine Below.alloc ?_ (by (try simp) <;> omega) _) | (refine Below.setCell ?_ (by (try simp) <;> omega) _)))⟩
set_option maxHeartbeats 4000000 in
theorem isc_any (Y Y' : CM) (u u' : Value) (hu : SlB w u Y.bs) (hu' : SlB w u' Y'.bs) (hm : tC Y ≤ 1048576) (B : Bool) (hB : B = true ↔ (Y.s = Y'.s ∧ Y.bs = Y'.bs)) :
    Calls Try.prog 26 #[.agg #[.int .i64 Y.s, u], .agg #[.int .i64 Y'.s, u']] w fun r w' => r = .returned (.bool B) ∧ Below w.heap.size w w' := by
  obtain ⟨s, bs⟩ := Y
  obtain ⟨s', bs'⟩ := Y'
  unfold tC at hm
  dsimp only at *
  obtain ⟨BE, hBE⟩ : ∃ B : Bool, (B = true ↔ bs = bs') := ⟨@decide (bs = bs') (Classical.propDecidable _), by simp⟩
  have hC := Lib.hid (fun W (hb : Below w.heap.size w W) => ief_any W u u' bs bs' (hu.below hb) (hu'.below hb) hm BE hBE)
  rw [← hBE] at hB
  obtain ⟨a, cap, rfl, _⟩ := hu
  obtain ⟨a', cap', rfl, _⟩ := hu'
  obtain ⟨l, hl⟩ : ∃ l, bs.length = l := ⟨_, rfl⟩
  obtain ⟨l', hl'⟩ : ∃ l, bs'.length = l := ⟨_, rfl⟩
  rw [hl, hl'] at hC ⊢
  clear hm hl hl' hBE
  obtain ⟨W0, hW0⟩ : ∃ W0, W0 = (w.alloc (.cells #[.int .i64 s, .slice a l cap] 67)).alloc (.cells #[.int .i64 s', .slice a' l' cap'] 67) := ⟨_, rfl⟩
  have hb0 : Below w.heap.size w W0 := by rw [hW0]; (repeat (first | exact Below.refl _ _ | assumption | refine bchain (by assumption) ?_ | refine balloc ?_ _ | apply Below.drew | apply below_drewN | (refine Below.alloc ?_ (by (try simp) <;> omega) _) | (refine Below.setCell ?_ (by (try simp) <;> omega) _)))
  have sz : ∀ (W : World) (o : Obj), (W.alloc o).heap.size = W.heap.size + 1 := fun W o => by simp
  have k0 : CB W0 w.heap.size s (.slice a l cap) := by rw [hW0]; exact (CB.made _ _ _ _).below (balloc (Below.refl _ _) _)
  have k1 : CB W0 (w.heap.size + 1) s' (.slice a' l' cap') := by rw [hW0, ← sz w (.cells #[.int .i64 s, .slice a l cap] 67)]; exact CB.made _ _ _ _
  replace hW0 := Lib.hid hW0
  clear sz
  obtain ⟨_, x0, x1, _⟩ := id k0
  obtain ⟨_, y0, y1, _⟩ := id k1
  by_cases c : s = s'
  · subst c
    have e : B = BE := by rw [Bool.eq_iff_iff, hB]; simp
    clear hB
    subst e
    go_enter Try.func26, Try.ntmps26
    go_wp2_with fail
    rw [← hW0.out]
    go_wp2_with fail
    refine (hC.out _ hb0).mono ?_
    rintro r1 w1 ⟨rfl, hb1⟩
    go_wp2
    go_ret
    exact ⟨rfl, bchain hb1 hb0⟩
  · obtain rfl : B = false := by rw [Bool.eq_false_iff]; intro h; exact c (hB.1 h).1
    have d1 : (s == s') = false := by simpa using c
    clear hB c
    go_enter Try.func26, Try.ntmps26
    go_wp2_with fail
    rw [← hW0.out]
    go_wp2
    go_ret
    exact ⟨rfl, hb0⟩
set_option maxHeartbeats 4000000 in
theorem ssc_any (Y Y' : CM) (u u' : Value) (hu : SlB w u Y.bs) (hu' : SlB w u' Y'.bs) (hm : tC Y ≤ 1048576) (B : Bool) (hB : B = true ↔ (Y.s = Y'.s ∧ Y.bs = Y'.bs)) :
    Calls Try.prog 24 #[.agg #[.int .i64 Y.s, u], .agg #[.int .i64 Y'.s, u']] w fun r w' => r = .returned (.bool B) ∧ Below w.heap.size w w' := by
  obtain ⟨s, bs⟩ := Y
  obtain ⟨s', bs'⟩ := Y'
  unfold tC at hm
  dsimp only at *
  obtain ⟨a, cap, rfl, h1, h2, h3⟩ := hu.rows
  obtain ⟨a', cap', rfl, h1', h2', h3'⟩ := hu'.rows
  clear hu hu'
  have hwt := Lib.hid (fun i (hi : i < bs.length) => wtB_le bs hi)
  obtain ⟨l, hl⟩ : ∃ l, bs.length = l := ⟨_, rfl⟩
  obtain ⟨l', hl'⟩ : ∃ l, bs'.length = l := ⟨_, rfl⟩
  rw [hl] at hwt hm h1 h3 ⊢
  rw [hl'] at h1' h3' ⊢
  replace hl := Lib.hid hl
  replace hl' := Lib.hid hl'
  replace hB := Lib.hid hB
  obtain ⟨W0, hW0⟩ : ∃ W0, W0 = (w.alloc (.cells #[.int .i64 s, .slice a l cap] 67)).alloc (.cells #[.int .i64 s', .slice a' l' cap'] 67) := ⟨_, rfl⟩
  have hb0 : Below w.heap.size w W0 := by rw [hW0]; (repeat (first | exact Below.refl _ _ | assumption | refine bchain (by assumption) ?_ | refine balloc ?_ _ | apply Below.drew | apply below_drewN | (refine Below.alloc ?_ (by (try simp) <;> omega) _) | (refine Below.setCell ?_ (by (try simp) <;> omega) _)))
  have sz : ∀ (W : World) (o : Obj), (W.alloc o).heap.size = W.heap.size + 1 := fun W o => by simp
  have k0 : CB W0 w.heap.size s (.slice a l cap) := by rw [hW0]; exact (CB.made _ _ _ _).below (balloc (Below.refl _ _) _)
  have k1 : CB W0 (w.heap.size + 1) s' (.slice a' l' cap') := by rw [hW0, ← sz w (.cells #[.int .i64 s, .slice a l cap] 67)]; exact CB.made _ _ _ _
  replace hW0 := Lib.hid hW0
  clear sz
  obtain ⟨_, x0, x1, _⟩ := id k0
  obtain ⟨_, y0, y1, _⟩ := id k1
  by_cases c : s = s'
  · subst c
    by_cases c2 : l = l'
    · subst c2
      have d2 : ((l : Int) != (l : Int)) = false := by simp
      go_enter Try.func24, Try.ntmps24
      go_wp2_with fail
      rw [← hW0.out]
      go_wp2
      go_loopw [5] (fun i wr => ∃ k : Nat, k ≤ l ∧ i = .int .i64 k ∧ (∀ j, j < k → bAt bs j = bAt bs' j) ∧ CB wr w.heap.size s (.slice a l cap) ∧ CB wr (w.heap.size + 1) s (.slice a' l cap') ∧ Below w.heap.size w wr) (fun i _ => l - (intOf i).toNat)
      case atStart => exact ⟨0, by omega, rfl, fun j hj => by omega, k0, k1, hb0⟩
      case round =>
        clear k0 k1 hb0 x0 x1 y0 y1
        obtain ⟨k, hk, rfl, heq, k0, k1, hB1⟩ := hrel
        replace heq := Lib.hid heq
        have hBz := hB1.size
        obtain ⟨lt0, x0, x1, _⟩ := id k0
        obtain ⟨lt1, y0, y1, _⟩ := id k1
        by_cases hlt : k < l
        · skip
          obtain ⟨b, off, rfl, hb, hg⟩ := h3.out (by omega)
          obtain ⟨b', off', rfl, hb', hg'⟩ := h3'.out (by omega)
          obtain ⟨z, u, hzc, huc, hSz, hSu⟩ := hg k hlt
          obtain ⟨z', u', hzc', huc', hSz', hSu'⟩ := hg' k hlt
          have hw := hwt.out k hlt
          unfold wtB at hw
          obtain ⟨BG, hBG⟩ : ∃ B : Bool, (B = true ↔ (bAt bs k).ks = (bAt bs' k).ks) := ⟨decide ((bAt bs k).ks = (bAt bs' k).ks), by simp⟩
          have hG := Lib.hid (fun W (hb : Below wr.heap.size wr W) => ssk_any W z z' (bAt bs k).ks (bAt bs' k).ks ((hSz.below hB1).below hb) ((hSz'.below hB1).below hb) (by omega) BG hBG)
          have hM := Lib.hid (fun W (hb : Below wr.heap.size wr W) => Fr.ssm_any W u u' (bAt bs k).m (bAt bs' k).m ((hSu.below hB1).below hb) ((hSu'.below hB1).below hb) (by omega) (fun i hi => by have := Fr.row_le (bAt bs k).m hi; omega))
          obtain ⟨BM1, hBM⟩ : ∃ B, decide ((bAt bs k).m = (bAt bs' k).m) = B := ⟨_, rfl⟩
          rw [hBM] at hM
          have hbz : b < wr.heap.size := by omega
          have hbz' : b' < wr.heap.size := by omega
          have q0 := bw_cell hbz ((hB1.cell (p := ⟨b, _, none⟩) hb).trans hzc)
          have q1 := bw_cell hbz ((hB1.cell (p := ⟨b, _, none⟩) hb).trans huc)
          have p0 := bw_cell hbz' ((hB1.cell (p := ⟨b', _, none⟩) hb').trans hzc')
          have p1 := bw_cell hbz' ((hB1.cell (p := ⟨b', _, none⟩) hb').trans huc')
          have g1 := bw_cell lt0 x1
          have g3 := bw_cell lt1 y1
          obtain ⟨a2, c2, rfl, _⟩ := hSz
          obtain ⟨a3, c3, rfl, _⟩ := hSu
          obtain ⟨a4, c4, rfl, _⟩ := hSz'
          obtain ⟨a5, c5, rfl, _⟩ := hSu'
          have hBE : Hid ((BG && BM1) = true ↔ bAt bs k = bAt bs' k) := by
            show _ ↔ _
            rw [Bool.and_eq_true, hBG, ← hBM, decide_eq_true_iff]
            exact ⟨fun h => bm_ext h.1 h.2, fun h => by rw [h]; exact ⟨rfl, rfl⟩⟩
          obtain ⟨m1, hm1⟩ : ∃ l, (bAt bs k).ks.length = l := ⟨_, rfl⟩
          obtain ⟨m2, hm2⟩ : ∃ l, (bAt bs k).m.length = l := ⟨_, rfl⟩
          obtain ⟨m3, hm3⟩ : ∃ l, (bAt bs' k).ks.length = l := ⟨_, rfl⟩
          obtain ⟨m4, hm4⟩ : ∃ l, (bAt bs' k).m.length = l := ⟨_, rfl⟩
          rw [hm1, hm3] at hG
          rw [hm2, hm4] at hM
          simp only [hm1] at q0
          simp only [hm2] at q1
          simp only [hm3] at p0
          simp only [hm4] at p1
          have hkn : (k : Int) < (l : Int) := by omega
          have hk0 : (0 : Int) ≤ (k : Int) := by omega
          clear hzc huc hzc' huc' hw hg hg' hm1 hm2 hm3 hm4 hBG hBM
          cases BG with
          | true =>
            cases BM1 with
            | true =>
              have hne := Lib.hid (hBE.out.1 rfl)
              go_wp2_with fail
              refine wp_region_below (by kernel_rfl) (by kernel_rfl) ?_
              iterate 12 (quiet_step (fail))
              refine wpQuiet_step (fun K hK => ?_)
              go_simp
              apply Exists.intro
              refine ⟨fun p => ?_, hK _ ?_⟩
              · exact bw_of (w := wr) (p := p) (hG.out p.W p.h)
              clear hK K
              iterate 2 (quiet_step (fail))
              iterate 12 (quiet_step (fail))
              refine wpQuiet_step (fun K hK => ?_)
              go_simp
              apply Exists.intro
              refine ⟨fun p => ?_, hK _ ?_⟩
              · exact bw_of (w := wr) (p := p) (hM.out p.W p.h)
              clear hK K
              iterate 1 (quiet_step (fail))
              iterate 1 (quiet_step (fail))
              refine wpQuiet_nil ?_
              intro w3 hw'
              obtain ⟨⟨wx, hb_w3⟩, rfl⟩ := hw'
              go_wp2
              go_roundw
              case rel => exact ⟨k + 1, by omega, by go_num, fun j hj => by
                by_cases e : j = k
                · rw [e]; exact hne.out
                · exact heq.out j (by omega), k0.below hb_w3, k1.below hb_w3, hB1.trans (hb_w3.mono hBz)⟩
              case measure => simp [intOf]; omega
            | false =>
              obtain rfl : B = false := by
                rw [Bool.eq_false_iff]
                intro c
                have := hBE.out.2 (by rw [(hB.out.1 c).2])
                cases this
              clear hB hBE
              go_wp2_with fail
              refine wp_region_below (by kernel_rfl) (by kernel_rfl) ?_
              iterate 12 (quiet_step (fail))
              refine wpQuiet_step (fun K hK => ?_)
              go_simp
              apply Exists.intro
              refine ⟨fun p => ?_, hK _ ?_⟩
              · exact bw_of (w := wr) (p := p) (hG.out p.W p.h)
              clear hK K
              iterate 2 (quiet_step (fail))
              iterate 12 (quiet_step (fail))
              refine wpQuiet_step (fun K hK => ?_)
              go_simp
              apply Exists.intro
              refine ⟨fun p => ?_, hK _ ?_⟩
              · exact bw_of (w := wr) (p := p) (hM.out p.W p.h)
              clear hK K
              iterate 1 (quiet_step (fail))
              iterate 1 (quiet_step (fail))
              refine wpQuiet_nil ?_
              intro w3 hw'
              obtain ⟨⟨wx, hb_w3⟩, rfl⟩ := hw'
              go_wp2
              go_ret
              exact ⟨rfl, hB1.trans (hb_w3.mono hBz)⟩
          | false =>
            obtain rfl : B = false := by
              rw [Bool.eq_false_iff]
              intro c
              have := hBE.out.2 (by rw [(hB.out.1 c).2])
              cases this
            clear hB hBE
            go_wp2_with fail
            refine wp_region_below (by kernel_rfl) (by kernel_rfl) ?_
            iterate 12 (quiet_step (fail))
            refine wpQuiet_step (fun K hK => ?_)
            go_simp
            apply Exists.intro
            refine ⟨fun p => ?_, hK _ ?_⟩
            · exact bw_of (w := wr) (p := p) (hG.out p.W p.h)
            clear hK K
            iterate 2 (quiet_step (fail))
            iterate 14 go_big_quiet_skip
            iterate 1 (quiet_step (fail))
            refine wpQuiet_nil ?_
            intro w3 hw'
            obtain ⟨⟨wx, hb_w3⟩, rfl⟩ := hw'
            go_wp2
            go_ret
            exact ⟨rfl, hB1.trans (hb_w3.mono hBz)⟩
        · obtain rfl : k = l := by omega
          have hd := decide_eq_false (show ¬ ((k : Int) < (k : Int)) by omega)
          obtain rfl : B = true := hB.out.2 ⟨trivial, bAt_ext (by rw [hl.out, hl'.out]) (fun i hi => heq.out i (by rw [← hl.out]; exact hi))⟩
          go_wp2
          go_ret
          exact ⟨rfl, hB1⟩
    · have d2 : ((l : Int) != (l' : Int)) = true := by simp; omega
      obtain rfl : B = false := by
        rw [Bool.eq_false_iff]
        intro h
        exact c2 (by rw [← hl.out, ← hl'.out, (hB.out.1 h).2])
      clear hB h3 h3' hl hl' hwt c2
      go_enter Try.func24, Try.ntmps24
      go_wp2_with fail
      rw [← hW0.out]
      go_wp2
      go_ret
      exact ⟨rfl, hb0⟩
  · have d1 : (s != s') = true := by simpa using c
    obtain rfl : B = false := by rw [Bool.eq_false_iff]; intro h; exact c (hB.out.1 h).1
    clear hB h3 h3' hl hl' hwt c
    go_enter Try.func24, Try.ntmps24
    go_wp2_with fail
    rw [← hW0.out]
    go_wp2
    go_ret
    exact ⟨rfl, hb0⟩
end
end Go.Proofs.Ytfpoekdcedbciaa
