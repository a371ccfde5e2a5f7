/-
  THE SUM OF PRODUCTS OF TWO LISTS OF VALID FRACTIONS: the model's contract.
-/
import Derived.Test.YtonjmoiognbjbabFDot
namespace Go.Proofs.Ytonjmoiognbjbab
open Go.RowKit
set_option maxRecDepth 100000
section
variable (w : World)
set_option maxHeartbeats 2000000 in
theorem sdot_any (a a' : Option Addr) (cap cap' : Nat) (xs ys : List (Int × Int)) (hm : xs.length ≤ 1048576) (hl : xs.length = ys.length) (hc : Lies w a xs) (hc' : Lies w a' ys) (hV : AllV xs) (hV' : AllV ys) :
    Calls Try.prog 48 #[.slice a xs.length cap, .slice a' ys.length cap'] w fun r w' => r = .returned (lv (dotTo xs ys xs.length)) ∧ Below w.heap.size w w' := by
  have hM := Lib.hid (fun W k (hk : k < xs.length) => stimes_any W (gAt xs k) (gAt ys k) (hV k hk) (hV' k (by omega)))
  have hP := Lib.hid (fun W k s p (hk : k < xs.length) (hs : dotTo xs ys k = some s) (hp : mulF (gAt xs k) (gAt ys k) = some p) => splus_any W s p (dotTo_vp hV hV' hl k s (by omega) hs) (mul_vp (hV k hk) (hV' k (by omega)) hp))
  have hW := Lib.hid (fun W => zero_any W)
  rw [← hl]
  obtain ⟨n, hn⟩ : ∃ n, n = xs.length := ⟨_, rfl⟩
  rw [← hn] at hm hP hM hl ⊢
  replace hc := Lib.hid hc
  replace hc' := Lib.hid hc'
  replace hn := Lib.hid hn
  replace hl := Lib.hid hl
  clear hV hV'
  go_enter Try.func48, Try.ntmps48
  go_wp2_with fail
  refine (hW.out _).mono ?_
  rintro r1 w1 ⟨rfl, hb1⟩
  have hA : SumAt w (w1.alloc (.cells #[.int .i64 0, .int .i64 1] 25)) w1.heap.size (0, 1) := by
    have hs := hb1.size
    simp at hs
    refine ⟨by simp [go_sem], by simp [go_sem], fun o => by simp, by simp, ?_, ?_, ?_, by omega, by (repeat (first | exact Below.refl _ _ | assumption | refine bchain (by assumption) ?_ | refine balloc ?_ _ | apply Below.drew | apply below_drewN | (refine Below.alloc ?_ (by (try simp) <;> omega) _) | (refine Below.setCell ?_ (by (try simp) <;> omega) _)))⟩
    · exact (World.cell?_alloc_lt _ _ _ (by show w.heap.size < _; omega)).trans ((keepAll hb1 _ _ (by simp)).trans (by simp [go_sem]))
    · exact (World.cell?_alloc_lt _ _ _ (by show w.heap.size < _; omega)).trans ((keepAll hb1 _ _ (by simp)).trans (by simp [go_sem]))
    · intro o
      have h1 := keepFz hb1 w.heap.size o (by simp)
      have h2 := keepFz (balloc (Below.refl _ w1) (.cells #[.int .i64 0, .int .i64 1] 25)) w.heap.size o (by omega)
      exact h2.trans (h1.trans (by simp))
  replace hA := Lib.hid hA
  go_wp2
  go_loopw [7, 8, 9, 10, 11] (fun i _ _ _ _ wr => ∃ (k : Nat) (s : Int × Int), k ≤ n ∧ i = .int .i64 k ∧ dotTo xs ys k = some s ∧ SumAt w wr w1.heap.size s) (fun i _ _ _ _ _ => n - (intOf i).toNat)
  case atStart => exact ⟨0, (0, 1), by omega, rfl, rfl, hA.out⟩
  case round =>
    obtain ⟨k, s, hk, rfl, hs, hS⟩ := hrel
    clear hA hb1
    by_cases hlt : k < n
    · obtain ⟨b, off, rfl, hb, hg⟩ := hc.out k (by have := hn.out; omega)
      obtain ⟨b', off', rfl, hb', hg'⟩ := hc'.out k (by have := hl.out; omega)
      have hCm := Lib.hid (fun W => hM.out W k hlt)
      have hCp := Lib.hid (fun W p hp => hP.out W k s p hlt hs hp)
      have hN : ∀ x, dotStep s (gAt xs k) (gAt ys k) = x → dotTo xs ys (k + 1) = x := fun x hx => by rw [dotTo, hs]; exact hx
      unfold dotStep at hN
      obtain ⟨x, y, hxy⟩ : ∃ x y, gAt xs k = (x, y) := ⟨_, _, rfl⟩
      obtain ⟨x', y', hxy'⟩ : ∃ x y, gAt ys k = (x, y) := ⟨_, _, rfl⟩
      have hB := hS.2.2.2.2.2.2.2.2
      have hsz := hS.2.2.2.1
      have s0 : wr.cell? ⟨b, off + k * 2, none⟩ = some (.int .i64 x) := by rw [hB.cell (p := ⟨b, _, none⟩) hb, hg.1, hxy]
      have s1 : wr.cell? ⟨b, off + k * 2 + 1, none⟩ = some (.int .i64 y) := by rw [hB.cell (p := ⟨b, _, none⟩) hb, hg.2, hxy]
      have s0' : wr.cell? ⟨b', off' + k * 2, none⟩ = some (.int .i64 x') := by rw [hB.cell (p := ⟨b', _, none⟩) hb', hg'.1, hxy']
      have s1' : wr.cell? ⟨b', off' + k * 2 + 1, none⟩ = some (.int .i64 y') := by rw [hB.cell (p := ⟨b', _, none⟩) hb', hg'.2, hxy']
      have hbw : b < wr.heap.size := Nat.lt_of_lt_of_le hb hB.size
      have hbw' : b' < wr.heap.size := Nat.lt_of_lt_of_le hb' hB.size
      obtain ⟨o, ho⟩ : ∃ o, mulF (gAt xs k) (gAt ys k) = o := ⟨_, rfl⟩
      rw [ho] at hCm hCp hN
      rw [hxy, hxy'] at hCm
      obtain ⟨p, q⟩ := s
      unfold fv at hCm
      dsimp only at hCm
      have hkn : (k : Int) < (n : Int) := by omega
      have hkn0 : (0 : Int) ≤ (k : Int) := by omega
      replace hS := Lib.hid hS
      clear hxy hxy' hg hg' ho hs
      obtain ⟨r1, r2, c, hlv⟩ := lv_form o
      rw [hlv] at hCm
      replace hlv := Lib.hid hlv
      have hA0 : ∀ (c : Array Value) (t : TypeId) (i : Nat), (wr.drew.alloc (.cells c t)).cell? ⟨wr.heap.size, i, none⟩ = c[i]? := fun c t i => World.cell?_alloc_new wr.drew c t i
      have hF0 : ∀ (c : Array Value) (t : TypeId) (i : Nat), (wr.drew.alloc (.cells c t)).frozen? ⟨wr.heap.size, i, none⟩ = false := fun c t i => by
        have := (show ∀ W : World, (W.alloc (.cells c t)).frozen? ⟨W.heap.size, i, none⟩ = false from fun W => by simp) wr.drew
        exact this
      go_upto_region 5 with fail
      go_cut [8, 9] from 13 to 45 (fun s6 s7 wx => ∃ D : Nat, s6 = .pointer (some ⟨D, 0, none⟩) ∧ s7 = .int .i64 c ∧ wr.heap.size ≤ D ∧ D < wx.heap.size ∧ wx.cell? ⟨D, 0, none⟩ = some (.int .i64 r1) ∧ wx.cell? ⟨D, 1, none⟩ = some (.int .i64 r2) ∧ Below wr.heap.size wr wx)
      case first =>
        go_region_held3 (fun W => W.cell? ⟨b, off + k * 2, none⟩ = some (.int .i64 x) ∧ W.cell? ⟨b, off + k * 2 + 1, none⟩ = some (.int .i64 y) ∧ W.cell? ⟨b', off' + k * 2, none⟩ = some (.int .i64 x') ∧ W.cell? ⟨b', off' + k * 2 + 1, none⟩ = some (.int .i64 y'))
          (exact ⟨old_cell hbw s0 (by (repeat (first | exact Below.refl _ _ | assumption | refine bchain (by assumption) ?_ | refine balloc ?_ _ | apply Below.drew | apply below_drewN | (refine Below.alloc ?_ (by (try simp) <;> omega) _) | (refine Below.setCell ?_ (by (try simp) <;> omega) _)))), old_cell hbw s1 (by (repeat (first | exact Below.refl _ _ | assumption | refine bchain (by assumption) ?_ | refine balloc ?_ _ | apply Below.drew | apply below_drewN | (refine Below.alloc ?_ (by (try simp) <;> omega) _) | (refine Below.setCell ?_ (by (try simp) <;> omega) _)))), old_cell hbw' s0' (by (repeat (first | exact Below.refl _ _ | assumption | refine bchain (by assumption) ?_ | refine balloc ?_ _ | apply Below.drew | apply below_drewN | (refine Below.alloc ?_ (by (try simp) <;> omega) _) | (refine Below.setCell ?_ (by (try simp) <;> omega) _)))), old_cell hbw' s1' (by (repeat (first | exact Below.refl _ _ | assumption | refine bchain (by assumption) ?_ | refine balloc ?_ _ | apply Below.drew | apply below_drewN | (refine Below.alloc ?_ (by (try simp) <;> omega) _) | (refine Below.setCell ?_ (by (try simp) <;> omega) _))))⟩)
          (first | (go_at_call 72; refine (hCm.out _).mono ?_; rintro r w3 ⟨rfl, hb3⟩; have hk3 := keepAll hb3; have hf3 := keepFz hb3; have hz3 := keepLt hb3; have hs3 := hb3.size; try (simp at hs3); try (rw [Nat.add_one_le_iff] at hs3)))
        all_goals (go_wp2_with fail; go_meet; exact ⟨_, rfl, rfl, by (try simp) <;> omega, by (try simp) <;> omega, by first | (simp; done) | exact (twoCells (a := .int .i64 0) (b := .int .i64 0) (by simp [*]) (by simp [*]) _ _).1, by first | (simp; done) | exact (twoCells (a := .int .i64 0) (b := .int .i64 0) (by simp [*]) (by simp [*]) _ _).2, by (repeat (first | exact Below.refl _ _ | assumption | refine bchain (by assumption) ?_ | refine balloc ?_ _ | apply Below.drew | apply below_drewN | (refine Below.alloc ?_ (by (try simp) <;> omega) _) | (refine Below.setCell ?_ (by (try simp) <;> omega) _)))⟩)
      case rest =>
        obtain ⟨D, rfl, rfl, hD0, hD1, d0, d1, hBr⟩ := hcut
        have hS2 := hS.out.below hBr
        clear hB hA0 hF0
        cases o with
        | none =>
          have hl2 := hlv.out
          unfold lv at hl2
          simp only [Value.tuple.injEq, Array.mk.injEq, List.cons.injEq, Value.agg.injEq, Value.int.injEq, true_and, and_true] at hl2
          obtain ⟨⟨rfl, rfl⟩, rfl⟩ := hl2
          obtain ⟨h0, h1, h2, h3, h4, h5, h6, h7, h8⟩ := hS2
          have ht := twoCells h4 h5 (.int .i64 0) (.int .i64 0)
          go_wp2
          rw [dotTo_none (hN none rfl) n (by omega)]
          exact bodyPost_ret (v := .tuple #[.agg #[.int .i64 0, .int .i64 0], .int .i64 3]) (by simp [results, Try.results48, go_sem, ht.1, ht.2]) rfl ⟨rfl, by (repeat (first | exact Below.refl _ _ | assumption | refine bchain (by assumption) ?_ | refine balloc ?_ _ | apply Below.drew | apply below_drewN | (refine Below.alloc ?_ (by (try simp) <;> omega) _) | (refine Below.setCell ?_ (by (try simp) <;> omega) _)))⟩
        | some m =>
          obtain ⟨m1, m2⟩ := m
          have hl2 := hlv.out
          unfold lv fv at hl2
          simp only [Value.tuple.injEq, Array.mk.injEq, List.cons.injEq, Value.agg.injEq, Value.int.injEq, true_and, and_true] at hl2
          obtain ⟨⟨rfl, rfl⟩, rfl⟩ := hl2
          have hR := Lib.hid (fun W => hCp.out W (m1, m2) rfl)
          obtain ⟨o2, ho2⟩ : ∃ o2, addF (p, q) (m1, m2) = o2 := ⟨_, rfl⟩
          rw [ho2] at hR
          have hN3 := hN o2 ho2
          clear hCm hCp hN ho2 hlv
          obtain ⟨r1, r2, c, hlv⟩ := lv_form o2
          rw [hlv] at hR
          replace hlv := Lib.hid hlv
          unfold fv at hR
          dsimp only at hR
          have g0 := hS2.1
          have g1 := hS2.2.1
          dsimp only at g0 g1
          replace hS2 := Lib.hid hS2
          go_wp2_with fail
          refine (hR.out _).mono ?_
          rintro r w5 ⟨rfl, hb5⟩
          have hS5 := hS2.out.below hb5
          have hS6 := hS5.below (balloc (Below.refl _ w5) (.cells #[.int .i64 r1, .int .i64 r2] 25))
          clear hS5
          cases o2 with
          | none =>
            have hl2 := hlv.out
            unfold lv at hl2
            simp only [Value.tuple.injEq, Array.mk.injEq, List.cons.injEq, Value.agg.injEq, Value.int.injEq, true_and, and_true] at hl2
            obtain ⟨⟨rfl, rfl⟩, rfl⟩ := hl2
            obtain ⟨h0, h1, h2, h3, h4, h5, h6, h7, h8⟩ := hS6
            have ht := twoCells h4 h5 (.int .i64 0) (.int .i64 0)
            go_wp2
            rw [dotTo_none hN3 n (by omega)]
            exact bodyPost_ret (v := .tuple #[.agg #[.int .i64 0, .int .i64 0], .int .i64 3]) (by simp [results, Try.results48, go_sem, ht.1, ht.2]) rfl ⟨rfl, by (repeat (first | exact Below.refl _ _ | assumption | refine bchain (by assumption) ?_ | refine balloc ?_ _ | apply Below.drew | apply below_drewN | (refine Below.alloc ?_ (by (try simp) <;> omega) _) | (refine Below.setCell ?_ (by (try simp) <;> omega) _)))⟩
          | some z =>
            obtain ⟨z1, z2⟩ := z
            have hl2 := hlv.out
            unfold lv fv at hl2
            simp only [Value.tuple.injEq, Array.mk.injEq, List.cons.injEq, Value.agg.injEq, Value.int.injEq, true_and, and_true] at hl2
            obtain ⟨⟨rfl, rfl⟩, rfl⟩ := hl2
            have e0 := hS6.1
            have e1 := hS6.2.1
            have e2 := hS6.2.2.1
            have hst := Lib.hid (hS6.store (z1, z2))
            dsimp only at e0 e1
            clear hS6 hlv
            go_wp2
            go_roundw
            case rel => exact ⟨k + 1, (z1, z2), by omega, by go_num, hN3, hst.out⟩
            case measure => simp [intOf]; omega
    · have hd := decide_eq_false (show ¬ ((k : Int) < (n : Int)) by omega)
      obtain rfl : k = n := by omega
      obtain ⟨p, q⟩ := s
      obtain ⟨h0, h1, h2, h3, h4, h5, h6, h7, h8⟩ := hS
      dsimp only at h0 h1
      have ht := twoCells h4 h5 (.int .i64 p) (.int .i64 q)
      go_wp2
      rw [hs]
      exact bodyPost_ret (v := .tuple #[.agg #[.int .i64 p, .int .i64 q], .int .i64 0]) (by simp [results, Try.results48, go_sem, ht.1, ht.2]) rfl ⟨rfl, by (repeat (first | exact Below.refl _ _ | assumption | refine bchain (by assumption) ?_ | refine balloc ?_ _ | apply Below.drew | apply below_drewN | (refine Below.alloc ?_ (by (try simp) <;> omega) _) | (refine Below.setCell ?_ (by (try simp) <;> omega) _)))⟩
end
end Go.Proofs.Ytonjmoiognbjbab
