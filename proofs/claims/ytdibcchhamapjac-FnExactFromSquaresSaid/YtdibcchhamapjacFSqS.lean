/-
  SquareMatrix: the model's contracts.
-/
import Derived.Test.YtdibcchhamapjacFSq2
import Derived.Test.YtdibcchhamapjacFUnitS
namespace Go.Proofs.Ytdibcchhamapjac
open Go.RowKit
set_option maxRecDepth 100000

/-- the products up to the place i, j, zeros behind it -/
def gT (g : Nat → Nat → Int × Int) (i0 j0 a b : Nat) : Int × Int := if a < i0 ∨ (a = i0 ∧ b < j0) then g a b else (0, 1)
theorem gT_zero (g : Nat → Nat → Int × Int) (a b : Nat) : gT g 0 0 a b = (0, 1) := by unfold gT; rw [if_neg (by omega)]
theorem gT_next (g : Nat → Nat → Int × Int) (i j a b : Nat) : gT g i (j + 1) a b = if a = i ∧ b = j then g i j else gT g i j a b := by
  unfold gT
  by_cases c : a = i ∧ b = j
  · obtain ⟨rfl, rfl⟩ := c
    rw [if_pos (by omega), if_pos ⟨rfl, rfl⟩]
  · rw [if_neg c]
    by_cases d : a < i ∨ (a = i ∧ b < j)
    · rw [if_pos d, if_pos (by omega)]
    · rw [if_neg d, if_neg (by omega)]
theorem gT_row (g : Nat → Nat → Int × Int) {n b : Nat} (i a : Nat) (hb : b < n) : gT g i n a b = gT g (i + 1) 0 a b := by
  unfold gT
  by_cases d : a < i ∨ (a = i ∧ b < n)
  · rw [if_pos d, if_pos (by omega)]
  · rw [if_neg d, if_neg (by omega)]
theorem gT_all (g : Nat → Nat → Int × Int) {n a : Nat} (b : Nat) (ha : a < n) : gT g n 0 a b = g a b := by unfold gT; rw [if_pos (by omega)]
theorem sq_fin {w wr wx : World} {n i j A cap : Nat} {R C : Nat → Nat} {g : Nat → Nat → Int × Int} {m1 m2 : Int} (hMO : MO w.heap.size wx n (gT g i j) A cap R C) (hb : Below w.heap.size w wr) (hBr : Below wr.heap.size wr wx) (hi : i < n) (hj : j < n) (hgm : g i j = (m1, m2)) :
    MB w.heap.size ((wx.setCell ⟨R i, j * 2, none⟩ (.int .i64 m1)).setCell ⟨R i, j * 2 + 1, none⟩ (.int .i64 m2)) (.slice (some ⟨A, 0, none⟩) n cap) n (gT g i (j + 1)) ∧ Below w.heap.size w ((wx.setCell ⟨R i, j * 2, none⟩ (.int .i64 m1)).setCell ⟨R i, j * 2 + 1, none⟩ (.int .i64 m2)) :=
  ⟨((hMO.set hi hj m1 m2).mb).congr (fun a b _ _ => by rw [gT_next, hgm]), hMO.grown (hb.trans (hBr.mono hb.size)) hi _ _⟩
section
variable (w : World)
set_option maxHeartbeats 4000000 in
theorem ssq_any (a : Option Addr) (cap : Nat) (xs : List (Int × Int)) (h8 : xs.length ≤ 8) (hc : Lies w a xs) (hV : AllV xs) :
    Calls Try.prog 57 #[.slice a xs.length cap] w fun r w' => (((∀ i j, i < xs.length → j < xs.length → oS xs i j = true) ∧ ∃ v, r = .returned (.tuple #[v, .int .i64 0]) ∧ MB w.heap.size w' v xs.length (gS xs)) ∨ ((∃ i j, i < xs.length ∧ j < xs.length ∧ oS xs i j = false) ∧ ∃ u cap, r = .returned (.tuple #[.slice u 0 cap, .int .i64 3]) ∧ cap ≤ 9223372036854775807)) ∧ Below w.heap.size w w' := by
  have hM := Lib.hid (fun W i j (hi : i < xs.length) (hj : j < xs.length) => stimes_any W (gAt xs i) (gAt xs j) (hV i hi) (hV j hj))
  have hE := Lib.hid (fun W => sempty_any W xs.length h8)
  obtain ⟨n, hn⟩ : ∃ n, n = xs.length := ⟨_, rfl⟩
  have hS : Hid (∀ i j, i < n → j < n → (oS xs i j = true ∧ mulF (gAt xs i) (gAt xs j) = some (gS xs i j)) ∨ (oS xs i j = false ∧ mulF (gAt xs i) (gAt xs j) = none)) := Lib.hid fun i j _ _ => by
    unfold oS gS
    cases mulF (gAt xs i) (gAt xs j) with
    | none => exact .inr ⟨rfl, rfl⟩
    | some m => exact .inl ⟨rfl, rfl⟩
  rw [← hn] at hE hM h8 ⊢
  replace hc := Lib.hid hc
  replace hn := Lib.hid hn
  clear hV
  obtain ⟨g, hg0⟩ : ∃ g, g = gS xs := ⟨_, rfl⟩
  obtain ⟨o0, ho0⟩ : ∃ g, g = oS xs := ⟨_, rfl⟩
  rw [← hg0, ← ho0] at hS ⊢
  clear hg0 ho0
  go_enter Try.func57, Try.ntmps57
  go_wp2_with fail
  refine (hE.out _).mono ?_
  rintro r1 w1 ⟨⟨v, rfl, hO⟩, hb1⟩
  obtain ⟨b, cap', _, _, rfl, _⟩ := id hO
  replace hO := Lib.hid hO
  go_wp2
  go_loopw [5, 6, 7, 8] (fun i _ _ _ wr => ∃ k : Nat, k ≤ n ∧ i = .int .i64 k ∧ Hid (MB w.heap.size wr (.slice b n cap') n (gT g k 0)) ∧ Below w.heap.size w wr ∧ Hid (∀ x y, x < k → y < n → o0 x y = true)) (fun i _ _ _ _ => n - (intOf i).toNat)
  case atStart => exact ⟨0, by omega, rfl, hO.out.congr (fun i j _ _ => gT_zero g i j), by (repeat (first | exact Below.refl _ _ | assumption | refine bchain (by assumption) ?_ | refine balloc ?_ _ | apply Below.drew | apply below_drewN | (refine Below.alloc ?_ (by (try simp) <;> omega) _) | (refine Below.setCell ?_ (by (try simp) <;> omega) _))), fun x y h => absurd h (by omega)⟩
  case round =>
    clear hO hb1
    obtain ⟨i, hi, rfl, hO, hb, hal⟩ := hrel
    by_cases hlt : i < n
    · go_wp2
      go_loopw [6, 7, 8] (fun j _ _ wr => ∃ k : Nat, k ≤ n ∧ j = .int .i64 k ∧ Hid (MB w.heap.size wr (.slice b n cap') n (gT g i k)) ∧ Below w.heap.size w wr ∧ Hid (∀ y, y < k → o0 i y = true)) (fun j _ _ _ => n - (intOf j).toNat)
      case atStart => exact ⟨0, by omega, rfl, hO.out, hb, fun y h => absurd h (by omega)⟩
      case round =>
        clear hO hb
        obtain ⟨j, hj, rfl, hO, hb, haj⟩ := hrel
        by_cases hjn : j < n
        · obtain ⟨B, off, rfl, hB, hg⟩ := hc.out i (by have := hn.out; omega)
          obtain ⟨B', off', hbb, hB', hg'⟩ := hc.out j (by have := hn.out; omega)
          injection hbb with hbb
          injection hbb with e1 e2
          subst e1 e2
          have hCm := Lib.hid (fun W => hM.out W i j (by have := hn.out; omega) (by have := hn.out; omega))
          obtain ⟨x, y, hxy⟩ : ∃ x y, gAt xs i = (x, y) := ⟨_, _, rfl⟩
          obtain ⟨x', y', hxy'⟩ : ∃ x y, gAt xs j = (x, y) := ⟨_, _, rfl⟩
          have s0 : wr.cell? ⟨B, off + i * 2, none⟩ = some (.int .i64 x) := by rw [hb.cell (p := ⟨B, _, none⟩) hB, hg.1, hxy]
          have s1 : wr.cell? ⟨B, off + i * 2 + 1, none⟩ = some (.int .i64 y) := by rw [hb.cell (p := ⟨B, _, none⟩) hB, hg.2, hxy]
          have s0' : wr.cell? ⟨B, off + j * 2, none⟩ = some (.int .i64 x') := by rw [hb.cell (p := ⟨B, _, none⟩) hB', hg'.1, hxy']
          have s1' : wr.cell? ⟨B, off + j * 2 + 1, none⟩ = some (.int .i64 y') := by rw [hb.cell (p := ⟨B, _, none⟩) hB', hg'.2, hxy']
          have hbw : B < wr.heap.size := Nat.lt_of_lt_of_le hB hb.size
          have hSo := hS.out i j hlt hjn
          obtain ⟨o, ho⟩ : ∃ o, mulF (gAt xs i) (gAt xs j) = o := ⟨_, rfl⟩
          rw [ho] at hCm hSo
          rw [hxy, hxy'] at hCm
          unfold fv at hCm
          dsimp only at hCm
          have hin : (i : Int) < (n : Int) := by omega
          have hi0 : (0 : Int) ≤ (i : Int) := by omega
          have hjn' : (j : Int) < (n : Int) := by omega
          have hj0 : (0 : Int) ≤ (j : Int) := by omega
          replace hSo := Lib.hid hSo
          clear hxy hxy' hg hg' ho
          obtain ⟨r1, r2, c, hlv⟩ := lv_form o
          rw [hlv] at hCm
          replace hlv := Lib.hid hlv
          have hA0 : ∀ (c : Array Value) (t : TypeId) (i : Nat), (wr.drew.alloc (.cells c t)).cell? ⟨wr.heap.size, i, none⟩ = c[i]? := fun c t i => World.cell?_alloc_new wr.drew c t i
          have hF0 : ∀ (c : Array Value) (t : TypeId) (i : Nat), (wr.drew.alloc (.cells c t)).frozen? ⟨wr.heap.size, i, none⟩ = false := fun c t i => by
            have := (show ∀ W : World, (W.alloc (.cells c t)).frozen? ⟨W.heap.size, i, none⟩ = false from fun W => by simp) wr.drew
            exact this
          go_upto_region 8 with fail
          go_cut [7, 8] from 18 to 46 (fun s6 s7 wx => ∃ D : Nat, s6 = .pointer (some ⟨D, 0, none⟩) ∧ s7 = .int .i64 c ∧ wr.heap.size ≤ D ∧ D < wx.heap.size ∧ wx.cell? ⟨D, 0, none⟩ = some (.int .i64 r1) ∧ wx.cell? ⟨D, 1, none⟩ = some (.int .i64 r2) ∧ Below wr.heap.size wr wx)
          case first =>
            go_region_held3 (fun W => W.cell? ⟨B, off + i * 2, none⟩ = some (.int .i64 x) ∧ W.cell? ⟨B, off + i * 2 + 1, none⟩ = some (.int .i64 y) ∧ W.cell? ⟨B, off + j * 2, none⟩ = some (.int .i64 x') ∧ W.cell? ⟨B, off + j * 2 + 1, none⟩ = some (.int .i64 y'))
              (exact ⟨old_cell hbw s0 (by (repeat (first | exact Below.refl _ _ | assumption | refine bchain (by assumption) ?_ | refine balloc ?_ _ | apply Below.drew | apply below_drewN | (refine Below.alloc ?_ (by (try simp) <;> omega) _) | (refine Below.setCell ?_ (by (try simp) <;> omega) _)))), old_cell hbw s1 (by (repeat (first | exact Below.refl _ _ | assumption | refine bchain (by assumption) ?_ | refine balloc ?_ _ | apply Below.drew | apply below_drewN | (refine Below.alloc ?_ (by (try simp) <;> omega) _) | (refine Below.setCell ?_ (by (try simp) <;> omega) _)))), old_cell hbw s0' (by (repeat (first | exact Below.refl _ _ | assumption | refine bchain (by assumption) ?_ | refine balloc ?_ _ | apply Below.drew | apply below_drewN | (refine Below.alloc ?_ (by (try simp) <;> omega) _) | (refine Below.setCell ?_ (by (try simp) <;> omega) _)))), old_cell hbw s1' (by (repeat (first | exact Below.refl _ _ | assumption | refine bchain (by assumption) ?_ | refine balloc ?_ _ | apply Below.drew | apply below_drewN | (refine Below.alloc ?_ (by (try simp) <;> omega) _) | (refine Below.setCell ?_ (by (try simp) <;> omega) _))))⟩)
              (first | (go_at_call 70; refine (hCm.out _).mono ?_; rintro r w3 ⟨rfl, hb3⟩; have hk3 := keepAll hb3; have hf3 := keepFz hb3; have hz3 := keepLt hb3; have hs3 := hb3.size; try (simp at hs3); try (rw [Nat.add_one_le_iff] at hs3)))
            all_goals (go_wp2_with fail; go_meet; exact ⟨_, rfl, rfl, by (try simp) <;> omega, by (try simp) <;> omega, by first | (simp; done) | exact (twoCells (a := .int .i64 0) (b := .int .i64 0) (by simp [*]) (by simp [*]) _ _).1, by first | (simp; done) | exact (twoCells (a := .int .i64 0) (b := .int .i64 0) (by simp [*]) (by simp [*]) _ _).2, by (repeat (first | exact Below.refl _ _ | assumption | refine bchain (by assumption) ?_ | refine balloc ?_ _ | apply Below.drew | apply below_drewN | (refine Below.alloc ?_ (by (try simp) <;> omega) _) | (refine Below.setCell ?_ (by (try simp) <;> omega) _)))⟩)
          case rest =>
            obtain ⟨D, rfl, rfl, hD0, hD1, d0, d1, hBr⟩ := hcut
            clear hA0 hF0 s0 s1 s0' s1' hCm
            cases o with
            | none =>
              have hl2 := hlv.out
              unfold lv at hl2
              simp only [Value.tuple.injEq, Array.mk.injEq, List.cons.injEq, Value.agg.injEq, Value.int.injEq, true_and, and_true] at hl2
              obtain ⟨⟨rfl, rfl⟩, rfl⟩ := hl2
              have hbad : o0 i j = false := by
                rcases hSo.out with ⟨_, t⟩ | ⟨t, _⟩
                · cases t
                · exact t
              go_wp2
              go_ret2
              exact ⟨.inr ⟨⟨i, hlt, j, hjn, hbad⟩, _, _, rfl, by omega⟩, by (repeat (first | exact Below.refl _ _ | assumption | refine bchain (by assumption) ?_ | refine balloc ?_ _ | apply Below.drew | apply below_drewN | (refine Below.alloc ?_ (by (try simp) <;> omega) _) | (refine Below.setCell ?_ (by (try simp) <;> omega) _)))⟩
            | some m =>
              obtain ⟨m1, m2⟩ := m
              have hl2 := hlv.out
              unfold lv fv at hl2
              simp only [Value.tuple.injEq, Array.mk.injEq, List.cons.injEq, Value.agg.injEq, Value.int.injEq, true_and, and_true] at hl2
              obtain ⟨⟨rfl, rfl⟩, rfl⟩ := hl2
              obtain ⟨hgood, hgm⟩ : o0 i j = true ∧ g i j = (m1, m2) := by
                rcases hSo.out with ⟨t, t2⟩ | ⟨_, t⟩
                · injection t2 with t2
                  exact ⟨t, t2.symm⟩
                · cases t
              have hO2 := hO.out.below hBr
              obtain ⟨A, cap2, R, C, hv, hMO⟩ := hO2.mo (by omega)
              injection hv with hv1 _ hv2
              subst hv1 hv2
              have c0 := hMO.row i hlt
              obtain ⟨e0, e1, df⟩ := hMO.rb.cell hlt hjn
              obtain ⟨hC1, hC2⟩ := hMO.hc i hlt
              obtain ⟨z0, hz0⟩ : ∃ z, (gT g i j i j).1 = z := ⟨_, rfl⟩
              obtain ⟨z1, hz1⟩ : ∃ z, (gT g i j i j).2 = z := ⟨_, rfl⟩
              rw [hz0] at e0
              rw [hz1] at e1
              obtain ⟨Rk, hRk⟩ : ∃ r, R i = r := ⟨_, rfl⟩
              rw [hRk] at c0 e0 e1 df
              obtain ⟨Ck, hCk⟩ : ∃ r, C i = r := ⟨_, rfl⟩
              rw [hCk] at c0 hC1 hC2
              have df0 := df (j * 2)
              have df1 := df (j * 2 + 1)
              have hfin := sq_fin hMO hb hBr hlt hjn hgm
              rw [hRk] at hfin
              replace hfin := Lib.hid hfin
              clear hMO hO2 hO df hRk hCk hz0 hz1 hSo hlv
              go_wp2
              go_region
              all_goals go_wp2
              all_goals go_roundw
              case rel => exact ⟨j + 1, by omega, by go_num, hfin.out.1.below (Below.drew (Below.refl _ _)), Below.drew hfin.out.2, fun y hy => by by_cases c : y = j; (· subst c; exact hgood); (· exact haj y (by omega))⟩
              case measure => simp [intOf]; omega
        · obtain rfl : j = n := by omega
          have hd := decide_eq_false (show ¬ ((j : Int) < (j : Int)) by omega)
          go_wp2
          go_roundw
          case rel => exact ⟨i + 1, by omega, by go_num, hO.out.congr (fun a b _ hb' => (gT_row g i a hb').symm), hb, fun x y hx hy => by by_cases c : x = i; (· subst c; exact haj y hy); (· exact hal x y (by omega) hy)⟩
          case measure => simp [intOf]; omega
    · obtain rfl : i = n := by omega
      have hd := decide_eq_false (show ¬ ((i : Int) < (i : Int)) by omega)
      go_wp2
      go_ret2
      exact ⟨.inl ⟨hal, _, rfl, hO.out.congr (fun a b ha _ => (gT_all g b ha).symm)⟩, hb⟩
end
end Go.Proofs.Ytdibcchhamapjac
