/-
  AddMatrices: the model's loop. (made by gen_mops.py out of XFSqS)
-/
import Derived.Test.YtdibcchhamapjacFEl
import Derived.Test.YtdibcchhamapjacFSqS
namespace Go.Proofs.Ytdibcchhamapjac
open Go.RowKit
set_option maxRecDepth 100000
section
variable (w : World)
set_option maxHeartbeats 4000000 in
theorem sad_any (a : Option Addr) (cap : Nat) (a2 : Option Addr) (cap2 : Nat) (m m2 : List (List (Int × Int))) (hc : Rows w a m) (hc2 : Rows w a2 m2) (hV : VM m) (hV2 : VM m2) (hl2 : m2.length = m.length) :
    Calls Try.prog 46 #[.slice a m.length cap, .slice a2 m.length cap2] w fun r w' => (((∀ i j, i < m.length → j < m.length → oO (adF m m2) i j = true) ∧ ∃ v, r = .returned (.tuple #[v, .int .i64 0]) ∧ MB w.heap.size w' v m.length (gO (adF m m2))) ∨ ((∃ i j, i < m.length ∧ j < m.length ∧ oO (adF m m2) i j = false) ∧ ∃ u cap, r = .returned (.tuple #[.slice u 0 cap, .int .i64 3]) ∧ cap ≤ 9223372036854775807)) ∧ Below w.heap.size w w' := by
  have h8 := hV.1
  have hM := Lib.hid (fun W i j (hi : i < m.length) (hj : j < m.length) => splus_any W (gAt (rAt m i) j) (gAt (rAt m2 i) j) (hV.vp hi hj) (hV2.vp (by omega) (by omega)))
  have hE := Lib.hid (fun W => sempty_any W m.length h8)
  have hS : Hid (∀ i j, i < m.length → j < m.length → (oO (adF m m2) i j = true ∧ addF (gAt (rAt m i) j) (gAt (rAt m2 i) j) = some (gO (adF m m2) i j)) ∨ (oO (adF m m2) i j = false ∧ addF (gAt (rAt m i) j) (gAt (rAt m2 i) j) = none)) := Lib.hid fun i j _ _ => by
    unfold oO gO adF
    cases addF (gAt (rAt m i) j) (gAt (rAt m2 i) j) with
    | none => exact .inr ⟨rfl, rfl⟩
    | some m => exact .inl ⟨rfl, rfl⟩
  have hEl := Lib.hid (fun W (hb : Below w.heap.size w W) i j (hi : i < m.length) (hj : j < m.length) => el_at (hc.below hb) hV hi hj)
  have hEl2 := Lib.hid (fun W (hb : Below w.heap.size w W) i j (hi : i < m.length) (hj : j < m.length) => el_at (hc2.below hb) hV2 (i := i) (j := j) (by omega) (by omega))
  clear hc hV hc2 hV2
  obtain ⟨n, hn⟩ : ∃ n, n = m.length := ⟨_, rfl⟩
  rw [hl2] at hEl2
  rw [← hn] at hE hM hS hEl h8 hEl2 hl2 ⊢
  clear hn hl2
  obtain ⟨g, hg0⟩ : ∃ g, g = gO (adF m m2) := ⟨_, rfl⟩
  obtain ⟨o0, ho0⟩ : ∃ g, g = oO (adF m m2) := ⟨_, rfl⟩
  rw [← hg0, ← ho0] at hS ⊢
  clear hg0 ho0
  go_enter Try.func46, Try.ntmps46
  go_wp2_with fail
  refine (hE.out _).mono ?_
  rintro r1 w1 ⟨⟨v, rfl, hO⟩, hb1⟩
  obtain ⟨b, cap', _, _, rfl, _⟩ := id hO
  replace hO := Lib.hid hO
  go_wp2
  go_loopw [7, 8, 9, 10] (fun i _ _ _ wr => ∃ k : Nat, k ≤ n ∧ i = .int .i64 k ∧ Hid (MB w.heap.size wr (.slice b n cap') n (gT g k 0)) ∧ Below w.heap.size w wr ∧ Hid (∀ x y, x < k → y < n → o0 x y = true)) (fun i _ _ _ _ => n - (intOf i).toNat)
  case atStart => exact ⟨0, by omega, rfl, hO.out.congr (fun i j _ _ => gT_zero g i j), by (repeat (first | exact Below.refl _ _ | assumption | refine bchain (by assumption) ?_ | refine balloc ?_ _ | apply Below.drew | apply below_drewN | (refine Below.alloc ?_ (by (try simp) <;> omega) _) | (refine Below.setCell ?_ (by (try simp) <;> omega) _))), fun x y h => absurd h (by omega)⟩
  case round =>
    clear hO hb1
    obtain ⟨i, hi, rfl, hO, hb, hal⟩ := hrel
    by_cases hlt : i < n
    · go_wp2
      go_loopw [8, 9, 10] (fun j _ _ wr => ∃ k : Nat, k ≤ n ∧ j = .int .i64 k ∧ Hid (MB w.heap.size wr (.slice b n cap') n (gT g i k)) ∧ Below w.heap.size w wr ∧ Hid (∀ y, y < k → o0 i y = true)) (fun j _ _ _ => n - (intOf j).toNat)
      case atStart => exact ⟨0, by omega, rfl, hO.out, hb, fun y h => absurd h (by omega)⟩
      case round =>
        clear hO hb
        obtain ⟨j, hj, rfl, hO, hb, haj⟩ := hrel
        by_cases hjn : j < n
        · obtain ⟨B, off, d, e, dc, rfl, hB, hd, q0, s0, s1⟩ := hEl.out wr hb i j hlt hjn
          obtain ⟨B2, off2, d2, e2, dc2, rfl, hB2, hd2, q2, t0, t1⟩ := hEl2.out wr hb i j hlt hjn
          have hCm := Lib.hid (fun W => hM.out W i j hlt hjn)
          obtain ⟨x, y, hxy⟩ : ∃ p q : Int, gAt (rAt m i) j = (p, q) := ⟨_, _, rfl⟩
          rw [hxy] at s0 s1
          obtain ⟨x', y', hxy'⟩ : ∃ p q : Int, gAt (rAt m2 i) j = (p, q) := ⟨_, _, rfl⟩
          rw [hxy'] at t0 t1
          dsimp only at s0 s1 t0 t1
          have hSo := hS.out i j hlt hjn
          obtain ⟨o, ho⟩ : ∃ o, addF (gAt (rAt m i) j) (gAt (rAt m2 i) j) = o := ⟨_, rfl⟩
          rw [ho] at hCm hSo
          rw [hxy, hxy'] at hCm
          unfold fv at hCm
          dsimp only at hCm
          have hin : (i : Int) < (n : Int) := by omega
          have hi0 : (0 : Int) ≤ (i : Int) := by omega
          have hjn' : (j : Int) < (n : Int) := by omega
          have hj0 : (0 : Int) ≤ (j : Int) := by omega
          replace hSo := Lib.hid hSo
          clear hxy hxy' ho
          obtain ⟨r1, r2, c, hlv⟩ := lv_form o
          rw [hlv] at hCm
          replace hlv := Lib.hid hlv
          have hA0 : ∀ (c : Array Value) (t : TypeId) (i : Nat), (wr.drew.alloc (.cells c t)).cell? ⟨wr.heap.size, i, none⟩ = c[i]? := fun c t i => World.cell?_alloc_new wr.drew c t i
          have hF0 : ∀ (c : Array Value) (t : TypeId) (i : Nat), (wr.drew.alloc (.cells c t)).frozen? ⟨wr.heap.size, i, none⟩ = false := fun c t i => by
            have := (show ∀ W : World, (W.alloc (.cells c t)).frozen? ⟨W.heap.size, i, none⟩ = false from fun W => by simp) wr.drew
            exact this
          go_upto_region 8 with fail
          go_cut [9, 10] from 20 to 54 (fun s6 s7 wx => ∃ D : Nat, s6 = .pointer (some ⟨D, 0, none⟩) ∧ s7 = .int .i64 c ∧ wr.heap.size ≤ D ∧ D < wx.heap.size ∧ wx.cell? ⟨D, 0, none⟩ = some (.int .i64 r1) ∧ wx.cell? ⟨D, 1, none⟩ = some (.int .i64 r2) ∧ Below wr.heap.size wr wx)
          case first =>
            go_region_held3 (fun W => W.cell? ⟨B, off + i, none⟩ = some (.slice (some ⟨d, e, none⟩) n dc) ∧ W.cell? ⟨d, e + j * 2, none⟩ = some (.int .i64 x) ∧ W.cell? ⟨d, e + j * 2 + 1, none⟩ = some (.int .i64 y) ∧ W.cell? ⟨B2, off2 + i, none⟩ = some (.slice (some ⟨d2, e2, none⟩) n dc2) ∧ W.cell? ⟨d2, e2 + j * 2, none⟩ = some (.int .i64 x') ∧ W.cell? ⟨d2, e2 + j * 2 + 1, none⟩ = some (.int .i64 y'))
              (exact ⟨old_cell hB q0 (by (repeat (first | exact Below.refl _ _ | assumption | refine bchain (by assumption) ?_ | refine balloc ?_ _ | apply Below.drew | apply below_drewN | (refine Below.alloc ?_ (by (try simp) <;> omega) _) | (refine Below.setCell ?_ (by (try simp) <;> omega) _)))), old_cell hd s0 (by (repeat (first | exact Below.refl _ _ | assumption | refine bchain (by assumption) ?_ | refine balloc ?_ _ | apply Below.drew | apply below_drewN | (refine Below.alloc ?_ (by (try simp) <;> omega) _) | (refine Below.setCell ?_ (by (try simp) <;> omega) _)))), old_cell hd s1 (by (repeat (first | exact Below.refl _ _ | assumption | refine bchain (by assumption) ?_ | refine balloc ?_ _ | apply Below.drew | apply below_drewN | (refine Below.alloc ?_ (by (try simp) <;> omega) _) | (refine Below.setCell ?_ (by (try simp) <;> omega) _)))), old_cell hB2 q2 (by (repeat (first | exact Below.refl _ _ | assumption | refine bchain (by assumption) ?_ | refine balloc ?_ _ | apply Below.drew | apply below_drewN | (refine Below.alloc ?_ (by (try simp) <;> omega) _) | (refine Below.setCell ?_ (by (try simp) <;> omega) _)))), old_cell hd2 t0 (by (repeat (first | exact Below.refl _ _ | assumption | refine bchain (by assumption) ?_ | refine balloc ?_ _ | apply Below.drew | apply below_drewN | (refine Below.alloc ?_ (by (try simp) <;> omega) _) | (refine Below.setCell ?_ (by (try simp) <;> omega) _)))), old_cell hd2 t1 (by (repeat (first | exact Below.refl _ _ | assumption | refine bchain (by assumption) ?_ | refine balloc ?_ _ | apply Below.drew | apply below_drewN | (refine Below.alloc ?_ (by (try simp) <;> omega) _) | (refine Below.setCell ?_ (by (try simp) <;> omega) _))))⟩)
              (first | (go_at_call 69; refine (hCm.out _).mono ?_; rintro r w3 ⟨rfl, hb3⟩; have hk3 := keepAll hb3; have hf3 := keepFz hb3; have hz3 := keepLt hb3; have hs3 := hb3.size; try (simp at hs3); try (rw [Nat.add_one_le_iff] at hs3)))
            all_goals (go_wp2_with fail; go_meet; exact ⟨_, rfl, rfl, by (try simp) <;> omega, by (try simp) <;> omega, by first | (simp; done) | exact (twoCells (a := .int .i64 0) (b := .int .i64 0) (by simp [*]) (by simp [*]) _ _).1, by first | (simp; done) | exact (twoCells (a := .int .i64 0) (b := .int .i64 0) (by simp [*]) (by simp [*]) _ _).2, by (repeat (first | exact Below.refl _ _ | assumption | refine bchain (by assumption) ?_ | refine balloc ?_ _ | apply Below.drew | apply below_drewN | (refine Below.alloc ?_ (by (try simp) <;> omega) _) | (refine Below.setCell ?_ (by (try simp) <;> omega) _)))⟩)
          case rest =>
            obtain ⟨D, rfl, rfl, hD0, hD1, d0, d1, hBr⟩ := hcut
            clear hA0 hF0 s0 s1 t0 t1 hCm
            cases o with
            | none =>
              have hl2 := hlv.out
              unfold lv at hl2
              simp only [Value.tuple.injEq, Array.mk.injEq, List.cons.injEq, Value.agg.injEq, Value.int.injEq, true_and, and_true] at hl2
              obtain ⟨⟨rfl, rfl⟩, rfl⟩ := hl2
              have hbad : o0 i j = false := by
                rcases hSo.out with ⟨_, t⟩ | ⟨t, _⟩
                · cases t
                · exact t
              go_wp2
              go_ret2
              exact ⟨.inr ⟨⟨i, hlt, j, hjn, hbad⟩, _, _, rfl, by omega⟩, by (repeat (first | exact Below.refl _ _ | assumption | refine bchain (by assumption) ?_ | refine balloc ?_ _ | apply Below.drew | apply below_drewN | (refine Below.alloc ?_ (by (try simp) <;> omega) _) | (refine Below.setCell ?_ (by (try simp) <;> omega) _)))⟩
            | some m =>
              obtain ⟨m1, m2⟩ := m
              have hl2 := hlv.out
              unfold lv fv at hl2
              simp only [Value.tuple.injEq, Array.mk.injEq, List.cons.injEq, Value.agg.injEq, Value.int.injEq, true_and, and_true] at hl2
              obtain ⟨⟨rfl, rfl⟩, rfl⟩ := hl2
              obtain ⟨hgood, hgm⟩ : o0 i j = true ∧ g i j = (m1, m2) := by
                rcases hSo.out with ⟨t, t2⟩ | ⟨_, t⟩
                · injection t2 with t2
                  exact ⟨t, t2.symm⟩
                · cases t
              have hO2 := hO.out.below hBr
              obtain ⟨A, cap2, R, C, hv, hMO⟩ := hO2.mo (by omega)
              injection hv with hv1 _ hv2
              subst hv1 hv2
              have c0 := hMO.row i hlt
              obtain ⟨e0, e1, df⟩ := hMO.rb.cell hlt hjn
              obtain ⟨hC1, hC2⟩ := hMO.hc i hlt
              obtain ⟨z0, hz0⟩ : ∃ z, (gT g i j i j).1 = z := ⟨_, rfl⟩
              obtain ⟨z1, hz1⟩ : ∃ z, (gT g i j i j).2 = z := ⟨_, rfl⟩
              rw [hz0] at e0
              rw [hz1] at e1
              obtain ⟨Rk, hRk⟩ : ∃ r, R i = r := ⟨_, rfl⟩
              rw [hRk] at c0 e0 e1 df
              obtain ⟨Ck, hCk⟩ : ∃ r, C i = r := ⟨_, rfl⟩
              rw [hCk] at c0 hC1 hC2
              have df0 := df (j * 2)
              have df1 := df (j * 2 + 1)
              have hfin := sq_fin hMO hb hBr hlt hjn hgm
              rw [hRk] at hfin
              replace hfin := Lib.hid hfin
              clear hMO hO2 hO df hRk hCk hz0 hz1 hSo hlv
              go_wp2
              go_region
              all_goals go_wp2
              all_goals go_roundw
              case rel => exact ⟨j + 1, by omega, by go_num, hfin.out.1.below (Below.drew (Below.refl _ _)), Below.drew hfin.out.2, fun y hy => by by_cases c : y = j; (· subst c; exact hgood); (· exact haj y (by omega))⟩
              case measure => simp [intOf]; omega
        · obtain rfl : j = n := by omega
          have hd := decide_eq_false (show ¬ ((j : Int) < (j : Int)) by omega)
          go_wp2
          go_roundw
          case rel => exact ⟨i + 1, by omega, by go_num, hO.out.congr (fun a b _ hb' => (gT_row g i a hb').symm), hb, fun x y hx hy => by by_cases c : x = i; (· subst c; exact haj y hy); (· exact hal x y (by omega) hy)⟩
          case measure => simp [intOf]; omega
    · obtain rfl : i = n := by omega
      have hd := decide_eq_false (show ¬ ((i : Int) < (i : Int)) by omega)
      go_wp2
      go_ret2
      exact ⟨.inl ⟨hal, _, rfl, hO.out.congr (fun a b ha _ => (gT_all g b ha).symm)⟩, hb⟩
end
end Go.Proofs.Ytdibcchhamapjac
