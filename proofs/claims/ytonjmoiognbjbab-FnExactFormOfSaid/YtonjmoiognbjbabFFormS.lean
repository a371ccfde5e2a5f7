/-
  THE FORM OF A MATRIX AND A LIST: the model's contract.
-/
import Derived.Test.YtonjmoiognbjbabFForm
import Derived.Deep.DeepCutAuto
namespace Go.Proofs.Ytonjmoiognbjbab
open Go.RowKit
set_option maxRecDepth 100000
section
variable (w : World)
set_option maxHeartbeats 4000000 in
theorem sff_ok (v v2 : Value) (m : List (List (Int × Int))) (xs : List (Int × Int)) (hF : Fit m xs) (hSm : SlM w v m) (hSx : SlG w v2 xs)
    (hVm : ∀ W, SlM W v m → Calls Try.prog 51 #[v] W fun r w' => r = .returned (.bool true) ∧ Below W.heap.size W w') :
    Calls Try.prog 39 #[v, v2] w fun r w' => r = .returned (lv (formTo m xs m.length)) ∧ Below w.heap.size w w' := by
  have h8 := hF.vm.1
  have hx8 : Vl xs := ⟨by have := hF.len; omega, hF.vl⟩
  replace hVm := Lib.hid hVm
  have hVl := Lib.hid (fun W (h : SlG W v2 xs) => svl_t W v2 xs h hx8)
  obtain ⟨a, cap, rfl, hR⟩ := hSm.rows
  obtain ⟨a', cap', rfl, hc'⟩ := hSx.lies
  have hD := Lib.hid (fun W k (hk : k < m.length) a2 c2 (h1 : Lies W a2 (rAt m k)) (h2 : Lies W a' xs) => sdot_any W a2 a' c2 cap' (rAt m k) xs (by have := (hF.row hk).1; have := hF.len; omega) (hF.row hk).1 h1 h2 (hF.row hk).2 hF.vl)
  have hM := Lib.hid (fun W k r (hk : k < m.length) (hd : dotTo (rAt m k) xs (rAt m k).length = some r) => stimes_any W r (gAt xs k) (dotTo_vp (hF.row hk).2 hF.vl (hF.row hk).1 _ r (Nat.le_refl _) hd) (hF.vl k (by have := hF.len; omega)))
  have hP := Lib.hid (fun W k s r p (hk : k < m.length) (hs : formTo m xs k = some s) (hd : dotTo (rAt m k) xs (rAt m k).length = some r) (hp : mulF r (gAt xs k) = some p) => splus_any W s p (formTo_vp hF k s (by omega) hs) (mul_vp (dotTo_vp (hF.row hk).2 hF.vl (hF.row hk).1 _ r (Nat.le_refl _) hd) (hF.vl k (by have := hF.len; omega)) hp))
  have hW := Lib.hid (fun W => zero_any W)
  have hrl := Lib.hid (fun k (hk : k < m.length) => (hF.row hk).1)
  have hxl := hF.len
  rw [hxl] at hVl hSx ⊢
  obtain ⟨n, hn⟩ : ∃ n, n = m.length := ⟨_, rfl⟩
  rw [← hn] at hP hM hD h8 hrl hxl hVm hVl hSm hSx ⊢
  replace hR := Lib.hid hR
  replace hc' := Lib.hid hc'
  replace hn := Lib.hid hn
  replace hxl := Lib.hid hxl
  replace hSm := Lib.hid hSm
  replace hSx := Lib.hid hSx
  clear hF hx8
  go_enter Try.func39, Try.ntmps39
  go_wp2_with fail
  refine (hVm.out _ (hSm.out.below (by (repeat (first | exact Below.refl _ _ | assumption | refine bchain (by assumption) ?_ | refine balloc ?_ _ | apply Below.drew | apply below_drewN | (refine Below.alloc ?_ (by (try simp) <;> omega) _) | (refine Below.setCell ?_ (by (try simp) <;> omega) _)))))).mono ?_
  rintro r0 wa ⟨rfl, hba⟩
  go_wp2_with fail
  refine (hVl.out _ (hSx.out.below (by (repeat (first | exact Below.refl _ _ | assumption | refine bchain (by assumption) ?_ | refine balloc ?_ _ | apply Below.drew | apply below_drewN | (refine Below.alloc ?_ (by (try simp) <;> omega) _) | (refine Below.setCell ?_ (by (try simp) <;> omega) _)))))).mono ?_
  rintro r0 w0 ⟨rfl, hbb⟩
  have hb0 : Below (w.heap.size + 1) (w.alloc (.cells #[.int .i64 0, .int .i64 0] 25)) w0 := by
    have h1 := hba.trans (hbb.mono hba.size)
    simpa using h1
  have hbw : Below w.heap.size w w0 := by (repeat (first | exact Below.refl _ _ | assumption | refine bchain (by assumption) ?_ | refine balloc ?_ _ | apply Below.drew | apply below_drewN | (refine Below.alloc ?_ (by (try simp) <;> omega) _) | (refine Below.setCell ?_ (by (try simp) <;> omega) _)))
  clear hba hbb
  go_wp2_with fail
  refine (hW.out _).mono ?_
  rintro r1 w1 ⟨rfl, hb1⟩
  have hA : SumAt w (w1.alloc (.cells #[.int .i64 0, .int .i64 1] 25)) w1.heap.size (0, 1) := by
    have hs0 := hb0.size
    have hs := hb1.size
    simp at hs0
    have h00 := hb0.cell (p := ⟨w.heap.size, 0, none⟩) (by simp)
    have h01 := hb0.cell (p := ⟨w.heap.size, 1, none⟩) (by simp)
    refine ⟨by simp [go_sem], by simp [go_sem], fun o => by simp, by simp, ?_, ?_, ?_, by omega, by (repeat (first | exact Below.refl _ _ | assumption | refine bchain (by assumption) ?_ | refine balloc ?_ _ | apply Below.drew | apply below_drewN | (refine Below.alloc ?_ (by (try simp) <;> omega) _) | (refine Below.setCell ?_ (by (try simp) <;> omega) _)))⟩
    · exact (World.cell?_alloc_lt _ _ _ (by show w.heap.size < _; omega)).trans ((keepAll hb1 _ _ (by omega)).trans (h00.trans (by simp [go_sem])))
    · exact (World.cell?_alloc_lt _ _ _ (by show w.heap.size < _; omega)).trans ((keepAll hb1 _ _ (by omega)).trans (h01.trans (by simp [go_sem])))
    · intro o
      have h0 := hb0.frozen (p := ⟨w.heap.size, o, none⟩) (by simp)
      have h1 := keepFz hb1 w.heap.size o (by omega)
      have h2 := keepFz (balloc (Below.refl _ w1) (.cells #[.int .i64 0, .int .i64 1] 25)) w.heap.size o (by omega)
      exact h2.trans (h1.trans (h0.trans (by simp)))
  replace hA := Lib.hid hA
  go_wp2
  go_loopw [7, 8, 9, 10, 11, 12, 13] (fun i _ _ _ _ _ _ wr => ∃ (k : Nat) (s : Int × Int), k ≤ n ∧ i = .int .i64 k ∧ formTo m xs k = some s ∧ SumAt w wr w1.heap.size s) (fun i _ _ _ _ _ _ _ => n - (intOf i).toNat)
  case atStart => exact ⟨0, (0, 1), by omega, rfl, rfl, hA.out⟩
  case round =>
    obtain ⟨k, s, hk, rfl, hs, hS⟩ := hrel
    clear hA hb1 hb0 hbw
    by_cases hlt : k < n
    · obtain ⟨b, off, rfl, hb, u, hu, hSu⟩ := hR.out k (by have := hn.out; omega)
      obtain ⟨b', off', rfl, hb', hg'⟩ := hc'.out k (by have := hxl.out; omega)
      have hB := hS.2.2.2.2.2.2.2.2
      have r0 : wr.cell? ⟨b, off + k, none⟩ = some u := (hB.cell (p := ⟨b, _, none⟩) hb).trans hu
      obtain ⟨a2, c2, rfl, hLi⟩ := (hSu.below hB).lies
      have hCd := Lib.hid (hD.out wr k hlt a2 c2 hLi (hc'.out.below hB))
      have hCm := Lib.hid (fun W r hd => hM.out W k r hlt hd)
      have hCp := Lib.hid (fun W r p hd hp => hP.out W k s r p hlt hs hd hp)
      have hN : ∀ x, formStep m xs s k = x → formTo m xs (k + 1) = x := fun x hx => by rw [formTo, hs]; exact hx
      unfold formStep at hN
      have hrk := hrl.out k hlt
      obtain ⟨x', y', hxy'⟩ : ∃ x y, gAt xs k = (x, y) := ⟨_, _, rfl⟩
      have v0 : wr.cell? ⟨b', off' + k * 2, none⟩ = some (.int .i64 x') := by rw [hB.cell (p := ⟨b', _, none⟩) hb', hg'.1, hxy']
      have v1 : wr.cell? ⟨b', off' + k * 2 + 1, none⟩ = some (.int .i64 y') := by rw [hB.cell (p := ⟨b', _, none⟩) hb', hg'.2, hxy']
      have zy : b' < wr.heap.size := Nat.lt_of_lt_of_le hb' hB.size
      obtain ⟨o, ho⟩ : ∃ o, dotTo (rAt m k) xs (rAt m k).length = o := ⟨_, rfl⟩
      rw [ho] at hCd hCm hCp hN
      rw [hrk, hxl.out] at hCd r0
      obtain ⟨r1, r2, c, hlv⟩ := lv_form o
      rw [hlv] at hCd
      replace hlv := Lib.hid hlv
      obtain ⟨p, q⟩ := s
      have hkn : (k : Int) < (n : Int) := by omega
      have hkn0 : (0 : Int) ≤ (k : Int) := by omega
      replace hS := Lib.hid hS
      clear hg' ho hs hu hSu hLi hrk hB
      go_wp2_with fail
      refine hCd.out.mono ?_
      rintro r w4 ⟨rfl, hb4⟩
      have hS4 := (hS.out.below hb4).below (balloc (Below.refl _ w4) (.cells #[.int .i64 r1, .int .i64 r2] 25))
      cases o with
      | none =>
        have hl2 := hlv.out
        unfold lv at hl2
        simp only [Value.tuple.injEq, Array.mk.injEq, List.cons.injEq, Value.agg.injEq, Value.int.injEq, true_and, and_true] at hl2
        obtain ⟨⟨rfl, rfl⟩, rfl⟩ := hl2
        obtain ⟨h0, h1, h2, h3, h4, h5, h6, h7, h8⟩ := hS4
        have ht := twoCells h4 h5 (.int .i64 0) (.int .i64 0)
        go_wp2
        rw [formTo_none (hN none rfl) n (by omega)]
        exact bodyPost_ret (v := .tuple #[.agg #[.int .i64 0, .int .i64 0], .int .i64 3]) (by simp [results, Try.results39, go_sem, ht.1, ht.2]) rfl ⟨rfl, by (repeat (first | exact Below.refl _ _ | assumption | refine bchain (by assumption) ?_ | refine balloc ?_ _ | apply Below.drew | apply below_drewN | (refine Below.alloc ?_ (by (try simp) <;> omega) _) | (refine Below.setCell ?_ (by (try simp) <;> omega) _)))⟩
      | some d =>
        obtain ⟨d1, d2⟩ := d
        have hl2 := hlv.out
        unfold lv fv at hl2
        simp only [Value.tuple.injEq, Array.mk.injEq, List.cons.injEq, Value.agg.injEq, Value.int.injEq, true_and, and_true] at hl2
        obtain ⟨⟨rfl, rfl⟩, rfl⟩ := hl2
        have hQ := Lib.hid (fun W => hCm.out W (d1, d2) rfl)
        obtain ⟨o2, ho2⟩ : ∃ o2, mulF (d1, d2) (gAt xs k) = o2 := ⟨_, rfl⟩
        have hR2 := Lib.hid (fun W p hp => hCp.out W (d1, d2) p rfl hp)
        simp only [Option.bind_some] at hN
        rw [ho2] at hQ hR2 hN
        rw [hxy'] at hQ
        unfold fv at hQ
        dsimp only at hQ
        obtain ⟨r1, r2, c, hlv2⟩ := lv_form o2
        rw [hlv2] at hQ
        replace hlv2 := Lib.hid hlv2
        clear hCm hCp ho2 hlv hCd
        obtain ⟨wb, hwb⟩ : ∃ wb, wb = w4.alloc (.cells #[.int .i64 d1, .int .i64 d2] 25) := ⟨_, rfl⟩
        rw [← hwb] at hS4
        have zb : w4.heap.size < wb.heap.size := by rw [hwb]; simp
        have zy2 : b' < wb.heap.size := by have := hb4.size; omega
        have y0 : wb.cell? ⟨w4.heap.size, 0, none⟩ = some (.int .i64 d1) := by rw [hwb]; simp
        have y1 : wb.cell? ⟨w4.heap.size, 1, none⟩ = some (.int .i64 d2) := by rw [hwb]; simp
        have x0 : wb.cell? ⟨b', off' + k * 2, none⟩ = some (.int .i64 x') := by rw [hwb]; exact (World.cell?_alloc_lt _ _ _ (by have := hb4.size; show b' < _; omega)).trans (old_cell zy v0 hb4)
        have x1 : wb.cell? ⟨b', off' + k * 2 + 1, none⟩ = some (.int .i64 y') := by rw [hwb]; exact (World.cell?_alloc_lt _ _ _ (by have := hb4.size; show b' < _; omega)).trans (old_cell zy v1 hb4)
        have hA0 : ∀ (c : Array Value) (t : TypeId) (i : Nat), (wb.drew.alloc (.cells c t)).cell? ⟨wb.heap.size, i, none⟩ = c[i]? := fun c t i => World.cell?_alloc_new wb.drew c t i
        have hF0 : ∀ (c : Array Value) (t : TypeId) (i : Nat), (wb.drew.alloc (.cells c t)).frozen? ⟨wb.heap.size, i, none⟩ = false := fun c t i => by
          have := (show ∀ W : World, (W.alloc (.cells c t)).frozen? ⟨W.heap.size, i, none⟩ = false from fun W => by simp) wb.drew
          exact this
        replace hS4 := Lib.hid hS4
        replace hS := Lib.hid True.intro
        clear hb4 r0 v0 v1
        go_upto_region 12 with fail
        rw [← hwb]
        clear hwb
        go_cut [10, 11] from 30 to 72 (fun s6 s7 wx => ∃ D : Nat, s6 = .pointer (some ⟨D, 0, none⟩) ∧ s7 = .int .i64 c ∧ wb.heap.size ≤ D ∧ D < wx.heap.size ∧ wx.cell? ⟨D, 0, none⟩ = some (.int .i64 r1) ∧ wx.cell? ⟨D, 1, none⟩ = some (.int .i64 r2) ∧ Below wb.heap.size wb wx)
        case first =>
          go_region_held3 (fun W => W.cell? ⟨w4.heap.size, 0, none⟩ = some (.int .i64 d1) ∧ W.cell? ⟨w4.heap.size, 1, none⟩ = some (.int .i64 d2) ∧ W.cell? ⟨b', off' + k * 2, none⟩ = some (.int .i64 x') ∧ W.cell? ⟨b', off' + k * 2 + 1, none⟩ = some (.int .i64 y'))
            (exact ⟨old_cell zb y0 (by (repeat (first | exact Below.refl _ _ | assumption | refine bchain (by assumption) ?_ | refine balloc ?_ _ | apply Below.drew | apply below_drewN | (refine Below.alloc ?_ (by (try simp) <;> omega) _) | (refine Below.setCell ?_ (by (try simp) <;> omega) _)))), old_cell zb y1 (by (repeat (first | exact Below.refl _ _ | assumption | refine bchain (by assumption) ?_ | refine balloc ?_ _ | apply Below.drew | apply below_drewN | (refine Below.alloc ?_ (by (try simp) <;> omega) _) | (refine Below.setCell ?_ (by (try simp) <;> omega) _)))), old_cell zy2 x0 (by (repeat (first | exact Below.refl _ _ | assumption | refine bchain (by assumption) ?_ | refine balloc ?_ _ | apply Below.drew | apply below_drewN | (refine Below.alloc ?_ (by (try simp) <;> omega) _) | (refine Below.setCell ?_ (by (try simp) <;> omega) _)))), old_cell zy2 x1 (by (repeat (first | exact Below.refl _ _ | assumption | refine bchain (by assumption) ?_ | refine balloc ?_ _ | apply Below.drew | apply below_drewN | (refine Below.alloc ?_ (by (try simp) <;> omega) _) | (refine Below.setCell ?_ (by (try simp) <;> omega) _))))⟩)
            (first | (go_at_call 72; refine (hQ.out _).mono ?_; rintro r w3 ⟨rfl, hb3⟩; have hk3 := keepAll hb3; have hf3 := keepFz hb3; have hz3 := keepLt hb3; have hs3 := hb3.size; try (simp at hs3); try (rw [Nat.add_one_le_iff] at hs3)))
          all_goals (go_wp2_with fail; go_meet; exact ⟨_, rfl, rfl, by (try simp) <;> omega, by (try simp) <;> omega, by first | (simp; done) | exact (twoCells (a := .int .i64 0) (b := .int .i64 0) (by simp [*]) (by simp [*]) _ _).1, by first | (simp; done) | exact (twoCells (a := .int .i64 0) (b := .int .i64 0) (by simp [*]) (by simp [*]) _ _).2, by (repeat (first | exact Below.refl _ _ | assumption | refine bchain (by assumption) ?_ | refine balloc ?_ _ | apply Below.drew | apply below_drewN | (refine Below.alloc ?_ (by (try simp) <;> omega) _) | (refine Below.setCell ?_ (by (try simp) <;> omega) _)))⟩)
        case rest =>
          obtain ⟨D, rfl, rfl, hD0, hD1, e0, e1, hBr⟩ := hcut
          have hS2 := hS4.out.below hBr
          clear hA0 hF0
          cases o2 with
          | none =>
            have hl2 := hlv2.out
            unfold lv at hl2
            simp only [Value.tuple.injEq, Array.mk.injEq, List.cons.injEq, Value.agg.injEq, Value.int.injEq, true_and, and_true] at hl2
            obtain ⟨⟨rfl, rfl⟩, rfl⟩ := hl2
            obtain ⟨h0, h1, h2, h3, h4, h5, h6, h7, h8⟩ := hS2
            have ht := twoCells h4 h5 (.int .i64 0) (.int .i64 0)
            go_wp2
            rw [formTo_none (hN none rfl) n (by omega)]
            exact bodyPost_ret (v := .tuple #[.agg #[.int .i64 0, .int .i64 0], .int .i64 3]) (by simp [results, Try.results39, go_sem, ht.1, ht.2]) rfl ⟨rfl, by (repeat (first | exact Below.refl _ _ | assumption | refine bchain (by assumption) ?_ | refine balloc ?_ _ | apply Below.drew | apply below_drewN | (refine Below.alloc ?_ (by (try simp) <;> omega) _) | (refine Below.setCell ?_ (by (try simp) <;> omega) _)))⟩
          | some t =>
            obtain ⟨t1, t2⟩ := t
            have hl2 := hlv2.out
            unfold lv fv at hl2
            simp only [Value.tuple.injEq, Array.mk.injEq, List.cons.injEq, Value.agg.injEq, Value.int.injEq, true_and, and_true] at hl2
            obtain ⟨⟨rfl, rfl⟩, rfl⟩ := hl2
            have hT := Lib.hid (fun W => hR2.out W (t1, t2) rfl)
            obtain ⟨o3, ho3⟩ : ∃ o3, addF (p, q) (t1, t2) = o3 := ⟨_, rfl⟩
            rw [ho3] at hT
            have hN3 := hN o3 ho3
            clear hR2 hN ho3 hlv2 hQ
            obtain ⟨r1, r2, c, hlv⟩ := lv_form o3
            rw [hlv] at hT
            replace hlv := Lib.hid hlv
            unfold fv at hT
            dsimp only at hT
            have g0 := hS2.1
            have g1 := hS2.2.1
            dsimp only at g0 g1
            replace hS2 := Lib.hid hS2
            go_wp2_with fail
            refine (hT.out _).mono ?_
            rintro r w5 ⟨rfl, hb5⟩
            have hS6 := (hS2.out.below hb5).below (balloc (Below.refl _ w5) (.cells #[.int .i64 r1, .int .i64 r2] 25))
            cases o3 with
            | none =>
              have hl2 := hlv.out
              unfold lv at hl2
              simp only [Value.tuple.injEq, Array.mk.injEq, List.cons.injEq, Value.agg.injEq, Value.int.injEq, true_and, and_true] at hl2
              obtain ⟨⟨rfl, rfl⟩, rfl⟩ := hl2
              obtain ⟨h0, h1, h2, h3, h4, h5, h6, h7, h8⟩ := hS6
              have ht := twoCells h4 h5 (.int .i64 0) (.int .i64 0)
              go_wp2
              rw [formTo_none hN3 n (by omega)]
              exact bodyPost_ret (v := .tuple #[.agg #[.int .i64 0, .int .i64 0], .int .i64 3]) (by simp [results, Try.results39, go_sem, ht.1, ht.2]) rfl ⟨rfl, by (repeat (first | exact Below.refl _ _ | assumption | refine bchain (by assumption) ?_ | refine balloc ?_ _ | apply Below.drew | apply below_drewN | (refine Below.alloc ?_ (by (try simp) <;> omega) _) | (refine Below.setCell ?_ (by (try simp) <;> omega) _)))⟩
            | some z =>
              obtain ⟨z1, z2⟩ := z
              have hl2 := hlv.out
              unfold lv fv at hl2
              simp only [Value.tuple.injEq, Array.mk.injEq, List.cons.injEq, Value.agg.injEq, Value.int.injEq, true_and, and_true] at hl2
              obtain ⟨⟨rfl, rfl⟩, rfl⟩ := hl2
              have f0 := hS6.1
              have f1 := hS6.2.1
              have f2 := hS6.2.2.1
              have hst := Lib.hid (hS6.store (z1, z2))
              dsimp only at f0 f1
              clear hS6 hlv
              go_wp2
              go_roundw
              case rel => exact ⟨k + 1, (z1, z2), by omega, by go_num, hN3, hst.out⟩
              case measure => simp [intOf]; omega
    · have hd := decide_eq_false (show ¬ ((k : Int) < (n : Int)) by omega)
      obtain rfl : k = n := by omega
      obtain ⟨p, q⟩ := s
      obtain ⟨h0, h1, h2, h3, h4, h5, h6, h7, h8⟩ := hS
      dsimp only at h0 h1
      have ht := twoCells h4 h5 (.int .i64 p) (.int .i64 q)
      go_wp2
      rw [hs]
      exact bodyPost_ret (v := .tuple #[.agg #[.int .i64 p, .int .i64 q], .int .i64 0]) (by simp [results, Try.results39, go_sem, ht.1, ht.2]) rfl ⟨rfl, by (repeat (first | exact Below.refl _ _ | assumption | refine bchain (by assumption) ?_ | refine balloc ?_ _ | apply Below.drew | apply below_drewN | (refine Below.alloc ?_ (by (try simp) <;> omega) _) | (refine Below.setCell ?_ (by (try simp) <;> omega) _)))⟩
end
end Go.Proofs.Ytonjmoiognbjbab
