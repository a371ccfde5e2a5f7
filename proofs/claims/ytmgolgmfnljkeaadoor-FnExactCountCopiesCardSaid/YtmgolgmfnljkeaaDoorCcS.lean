/-
  CountCopies: the model's contract; both.
-/
import Derived.Test.YtmgolgmfnljkeaaDoorSs
namespace Go.Proofs.YtmgolgmfnljkeaaDoor
open Go.RowKit Go.Shelf
set_option maxRecDepth 100000
attribute [local go_sem] Oper.semAt_some
section
variable (w : World)
theorem scc_inv1 (k m n e : Int) (hm : m < 4294967296) (hm0 : 0 ≤ m) (h : ¬ VG k m) :
    Calls Tryd.prog 13 #[.agg #[.int .i64 k, .int .u32 m], .agg #[.int .i64 n, .int .u32 e]] w fun r w' => r = .returned (.tuple #[.int .i64 0, .int .i64 1]) ∧ Below w.heap.size w w' := by
  go_enter Tryd.func13, Tryd.ntmps13
  go_wp2_with fail
  refine (ok_f _ k m hm hm0 h).mono ?_
  rintro r1 w1 ⟨rfl, hb1⟩
  go_wp2
  go_ret2
  exact ⟨rfl, by (repeat (first | exact Below.refl _ _ | assumption | refine bchain (by assumption) ?_ | refine balloc ?_ _ | apply Below.drew | apply below_drewN | (refine Below.alloc ?_ (by (try simp) <;> omega) _) | (refine Below.setCell ?_ (by (try simp) <;> omega) _)))⟩
theorem scc_inv2 (k m n e : Int) (h : VG k m) (he : e < 4294967296) (he0 : 0 ≤ e) (h2 : ¬ VG n e) :
    Calls Tryd.prog 13 #[.agg #[.int .i64 k, .int .u32 m], .agg #[.int .i64 n, .int .u32 e]] w fun r w' => r = .returned (.tuple #[.int .i64 0, .int .i64 1]) ∧ Below w.heap.size w w' := by
  go_enter Tryd.func13, Tryd.ntmps13
  go_wp2_with fail
  refine (ok_t _ k m h).mono ?_
  rintro r1 w1 ⟨rfl, hb1⟩
  obtain ⟨hc1_0, hz1_0⟩ := bkeep hb1 (w.heap.size + 1) (by (try simp) <;> omega)
  go_wp2_with fail
  refine (ok_f _ n e he he0 h2).mono ?_
  rintro r2 w2 ⟨rfl, hb2⟩
  go_wp2
  go_ret2
  exact ⟨rfl, by (repeat (first | exact Below.refl _ _ | assumption | refine bchain (by assumption) ?_ | refine balloc ?_ _ | apply Below.drew | apply below_drewN | (refine Below.alloc ?_ (by (try simp) <;> omega) _) | (refine Below.setCell ?_ (by (try simp) <;> omega) _)))⟩
set_option maxHeartbeats 4000000 in
theorem scc_ok (k m n e : Nat) (h : VG k m) (h2 : VG n e) :
    Calls Tryd.prog 13 #[.agg #[.int .i64 k, .int .u32 m], .agg #[.int .i64 n, .int .u32 e]] w fun r w' => r = .returned (.tuple #[.int .i64 (cpE e k m (setsL n k) : Nat), .int .i64 0]) ∧ Below w.heap.size w w' := by
  have hm : m < 4294967296 := by have := h.2.2.2; have := eMax_le k; simp at *; omega
  have he : e < 4294967296 := by have := h2.2.2.2; have := eMax_le n; simp at *; omega
  have hn5 : n ≤ 5 := by have := h2.2.1; omega
  have hk5 : k ≤ 5 := by have := h.2.1; omega
  have hLs := Lib.hid (fun W => sleast_any W k m h)
  have hLx := Lib.hid (fun W x (hx : x ∈ setsL n k) => sleast_any W k (onL e x) ⟨by omega, by omega, by omega, by have := Cc.onL_lt e (sets_ok hn5 hx).1 hk5; simpa using this⟩)
  have hSe := Lib.hid (fun W => ssets_any W n k hn5)
  obtain ⟨ls, hls⟩ : ∃ ls, leastE k m = ls := ⟨_, rfl⟩
  rw [hls] at hLs
  replace hls := Lib.hid hls
  go_enter Tryd.func13, Tryd.ntmps13
  go_wp2_with fail
  refine (ok_t _ k m h).mono ?_
  rintro r1 w1 ⟨rfl, hb1⟩
  obtain ⟨hc1, hz1⟩ := bkeep hb1 w.heap.size (by (try simp) <;> omega)
  obtain ⟨hd1, hy1⟩ := bkeep hb1 (w.heap.size + 1) (by (try simp) <;> omega)
  go_wp2_with fail
  refine (ok_t _ n e h2).mono ?_
  rintro r2 w2 ⟨rfl, hb2⟩
  obtain ⟨hc2, hz2⟩ := bkeep hb2 w.heap.size hz1
  obtain ⟨hd2, hy2⟩ := bkeep hb2 (w.heap.size + 1) hy1
  go_wp2_with fail
  refine (hLs.out _).mono ?_
  rintro r3 w3 ⟨rfl, hb3⟩
  obtain ⟨hc3, hz3⟩ := bkeep hb3 w.heap.size hz2
  obtain ⟨hd3, hy3⟩ := bkeep hb3 (w.heap.size + 1) hy2
  have g0 : w3.cell? ⟨w.heap.size + 1, 0, none⟩ = some (.int .i64 n) := by rw [hd3, hd2, hd1, cNew _ _ _ _ _ (by simp)]; rfl
  have g1 : w3.cell? ⟨w.heap.size + 1, 1, none⟩ = some (.int .u32 e) := by rw [hd3, hd2, hd1, cNew _ _ _ _ _ (by simp)]; rfl
  have k0 : w3.cell? ⟨w.heap.size, 0, none⟩ = some (.int .i64 k) := by rw [hc3, hc2, hc1, cOld _ _ _ _ (by simp), cNew _ _ _ _ _ rfl]; rfl
  have hB3 : Below w.heap.size w w3 := by (repeat (first | exact Below.refl _ _ | assumption | refine bchain (by assumption) ?_ | refine balloc ?_ _ | apply Below.drew | apply below_drewN | (refine Below.alloc ?_ (by (try simp) <;> omega) _) | (refine Below.setCell ?_ (by (try simp) <;> omega) _)))
  clear hc1 hc2 hc3 hd1 hd2 hd3 hb1 hb2 hb3
  obtain ⟨G, hG⟩ : ∃ G, w.heap.size = G := ⟨_, rfl⟩
  rw [hG] at k0 g0 g1 hy3 hz3 hB3
  rw [hG]
  replace hG := Lib.hid hG
  obtain ⟨L, hL⟩ : ∃ L, w3.heap.size = L := ⟨_, rfl⟩
  replace hL := Lib.hid hL
  have hCC : Hid (∀ W, Below (L + 1) (w3.alloc (.cells #[.int .i64 k, .int .u32 ls] 27)) W → W.cell? ⟨G + 1, 0, none⟩ = some (.int .i64 n) ∧ W.cell? ⟨G + 1, 1, none⟩ = some (.int .u32 e) ∧ W.cell? ⟨L, 0, none⟩ = some (.int .i64 k) ∧ W.cell? ⟨L, 1, none⟩ = some (.int .u32 ls)) := fun W hW => by
    rw [hL.out] at hy3
    have hL := hL.out
    refine ⟨?_, ?_, ?_, ?_⟩
    · exact (hW.cell (p := ⟨G + 1, 0, none⟩) (by show G + 1 < L + 1; omega)).trans ((cOld _ _ _ _ (by omega)).trans g0)
    · exact (hW.cell (p := ⟨G + 1, 1, none⟩) (by show G + 1 < L + 1; omega)).trans ((cOld _ _ _ _ (by omega)).trans g1)
    · exact (hW.cell (p := ⟨L, 0, none⟩) (by show L < L + 1; omega)).trans (by rw [cNew _ _ _ _ _ hL.symm]; rfl)
    · exact (hW.cell (p := ⟨L, 1, none⟩) (by show L < L + 1; omega)).trans (by rw [cNew _ _ _ _ _ hL.symm]; rfl)
  go_wp2_with fail
  refine (hSe.out _).mono ?_
  rintro r4 w4 ⟨⟨v, rfl, hO⟩, hb4⟩
  have hB4 : Below G w w4 := by rw [← hG.out] at hB3 ⊢; (repeat (first | exact Below.refl _ _ | assumption | refine bchain (by assumption) ?_ | refine balloc ?_ _ | apply Below.drew | apply below_drewN | (refine Below.alloc ?_ (by (try simp) <;> omega) _) | (refine Below.setCell ?_ (by (try simp) <;> omega) _)))
  have hz4 := hb4.size
  rw [World.size_alloc, hL.out] at hb4
  rw [World.size_alloc, hL.out] at hz4
  rw [hL.out]
  obtain ⟨a, cap, rfl, hcap, hcm, hrd⟩ := hO.out.read
  have hlen := sets_len (k := k) hn5
  have hLe := Lib.hid (show (setsL n k).take (setsL n k).length = setsL n k from List.take_length)
  have hLx2 := Lib.hid (fun j (hj : j < (setsL n k).length) => (⟨(setsL n k)[j], by rw [List.getElem?_eq_getElem hj]; rfl, List.getElem_mem hj, by rw [List.take_succ_eq_append_getElem hj]⟩ : ∃ x, (setsL n k)[j]?.getD [] = x ∧ x ∈ setsL n k ∧ (setsL n k).take (j + 1) = (setsL n k).take j ++ [x]))
  have hrd2 := Lib.hid (fun W (h : Below w4.heap.size w4 W) i (hi : i < (setsL n k).length) => (by
    obtain ⟨g, u, e1, e2, e3, e4, e5⟩ := hrd i hi
    exact ⟨g, u, e1, (h.cell (p := ⟨g, i, none⟩) e3).trans e4, See.below _ _ _ _ e5 h⟩ : ∃ g u, a = some ⟨g, 0, none⟩ ∧ W.cell? ⟨g, i, none⟩ = some u ∧ See ((setsL n k)[i]?.getD []) u W))
  have hc4 := Lib.hid (fun W (h : Below w4.heap.size w4 W) => hCC.out W (hb4.trans (h.mono hz4)))
  obtain ⟨q, hq⟩ : ∃ q, (setsL n k).length = q := ⟨_, rfl⟩
  rw [hq] at hlen hLe hLx2 hrd2 hcap ⊢
  clear hO hrd hCC g0 g1 k0 hB3 hz1 hz2 hz3 hy1 hy2 hy3 hq hb4 hL
  go_wp2
  go_loopw [8, 9] (fun c i wr => ∃ j : Nat, j ≤ q ∧ i = .int .i64 j ∧ c = .int .i64 (cpE e k m ((setsL n k).take j) : Nat) ∧ Below w4.heap.size w4 wr) (fun _ i _ => q - (intOf i).toNat)
  case atStart => exact ⟨0, by omega, rfl, rfl, Below.refl _ _⟩
  case round =>
    obtain ⟨j, hj, rfl, rfl, hb5⟩ := hrel
    by_cases hlt : j < q
    · have hlt2 : (j : Int) < (q : Int) := by omega
      have hj0 : (0 : Int) ≤ (j : Int) := by omega
      obtain ⟨x, hx1, hx2, hx3⟩ := hLx2.out j hlt
      obtain ⟨g, u, rfl, e1, e2⟩ := hrd2.out wr hb5 j hlt
      rw [hx1] at e2
      have hok := (sets_ok hn5 hx2).1
      have hOn := Lib.hid (fun W' (h : Below wr.heap.size wr W') => sonL_any W' u x n k e (See.below _ _ _ _ e2 h) hn5 he hok)
      have hLq := Lib.hid (fun W' => hLx.out W' x hx2)
      have hcc := Lib.hid (fun W' (h : Below wr.heap.size wr W') => hc4.out W' (bchain h hb5))
      obtain ⟨f0, f1, f2, f3⟩ := hc4.out wr hb5
      have hkl : cpE e k m ((setsL n k).take j) < 1000 := by
        have h1 := cpE_le e k m ((setsL n k).take j)
        rw [List.length_take] at h1
        omega
      have hqe := fun W => eqGr W k k (leastE k (onL e x)) ls
      have hbe : ((k : Int) == k && (leastE k (onL e x) : Int) == (ls : Int)) = (leastE k (onL e x) == ls) := by
        rw [Bool.eq_iff_iff]; simp; omega
      rw [hbe] at hqe
      obtain ⟨ok, hok2⟩ : ∃ ok, (leastE k (onL e x) == ls) = ok := ⟨_, rfl⟩
      rw [hok2] at hqe
      have hnx : Hid (cpE e k m ((setsL n k).take (j + 1)) = cpE e k m ((setsL n k).take j) + if ok then 1 else 0) := by
        show _ = _
        rw [hx3]
        cases ok
        · rw [cpE_f (by rw [hls.out]; simpa using hok2)]; rfl
        · rw [cpE_t (by rw [hls.out]; simpa using hok2)]; rfl
      obtain ⟨y, hy⟩ : ∃ y : Nat, leastE k (onL e x) = y := ⟨_, rfl⟩
      obtain ⟨o, ho⟩ : ∃ o : Nat, onL e x = o := ⟨_, rfl⟩
      obtain ⟨z, hz⟩ : ∃ z : Nat, cpE e k m ((setsL n k).take j) = z := ⟨_, rfl⟩
      rw [hy] at hLq hqe
      rw [ho] at hOn hLq
      rw [hz] at hnx hkl
      rw [hz]
      clear hx1 hx2 hx3 hok hbe hok2 hy ho hz e2
      go_wp2
      cases ok
      all_goals
        go_region_with (first
          | (go_at_call 42; refine (hOn.out _ (by (repeat (first | exact Below.refl _ _ | assumption | refine bchain (by assumption) ?_ | refine balloc ?_ _ | apply Below.drew | apply below_drewN | (refine Below.alloc ?_ (by (try simp) <;> omega) _) | (refine Below.setCell ?_ (by (try simp) <;> omega) _))))).mono ?_; rintro r5 w5 ⟨rfl, hb6⟩; have hx5 : Below wr.heap.size wr w5 := (by (repeat (first | exact Below.refl _ _ | assumption | refine bchain (by assumption) ?_ | refine balloc ?_ _ | apply Below.drew | apply below_drewN | (refine Below.alloc ?_ (by (try simp) <;> omega) _) | (refine Below.setCell ?_ (by (try simp) <;> omega) _)))); obtain ⟨a1, a2, a3, a4⟩ := hcc.out w5 hx5)
          | (go_at_call 40; refine (hLq.out _).mono ?_; rintro r6 w6 ⟨rfl, hb6⟩; have hx6 : Below wr.heap.size wr w6 := (by (repeat (first | exact Below.refl _ _ | assumption | refine bchain (by assumption) ?_ | refine balloc ?_ _ | apply Below.drew | apply below_drewN | (refine Below.alloc ?_ (by (try simp) <;> omega) _) | (refine Below.setCell ?_ (by (try simp) <;> omega) _)))); obtain ⟨a1, a2, a3, a4⟩ := hcc.out w6 hx6))
        all_goals
          have hx7 := bchain hx6 hb5
          go_wp2
          go_roundw
          case rel => exact ⟨j + 1, by omega, by go_num, by rw [hnx.out]; simp, hx7⟩
          case measure => simp [intOf]; omega
    · obtain rfl : j = q := by omega
      have hdd := decide_eq_false (show ¬ ((j : Int) < (j : Int)) by omega)
      rw [hLe.out]
      obtain ⟨z, hz⟩ : ∃ z : Nat, cpE e k m (setsL n k) = z := ⟨_, rfl⟩
      rw [hz]
      replace hz := Lib.hid hz
      go_wp2
      go_ret2
      exact ⟨by rw [hz.out]; rfl, by rw [hG.out]; exact hB4.trans (hb5.mono (by have := hB4.size; have := hG.out; omega))⟩
end
theorem cc_both (k m n e : Int) (hm : m < 4294967296) (hm0 : 0 ≤ m) (he : e < 4294967296) (he0 : 0 ≤ e) : ∃ (b c : Int),
    (∀ W, Calls Tryd.prog 13 #[.agg #[.int .i64 k, .int .u32 m], .agg #[.int .i64 n, .int .u32 e]] W fun r w' => r = .returned (.tuple #[.int .i64 b, .int .i64 c]) ∧ Below W.heap.size W w') ∧
    (∀ W, TabZ W → Calls Tryd.prog 15 #[.agg #[.int .i64 k, .int .u32 m], .agg #[.int .i64 n, .int .u32 e]] W fun r w' => r = .returned (.tuple #[.int .i64 b, .int .i64 c]) ∧ Below W.heap.size W w') := by
  by_cases h : VG k m
  · by_cases h2 : VG n e
    · obtain ⟨k', rfl⟩ : ∃ a : Nat, k = a := ⟨k.toNat, by have := h.1; omega⟩
      obtain ⟨m', rfl⟩ : ∃ a : Nat, m = a := ⟨m.toNat, by omega⟩
      obtain ⟨n', rfl⟩ : ∃ a : Nat, n = a := ⟨n.toNat, by have := h2.1; omega⟩
      obtain ⟨e', rfl⟩ : ∃ a : Nat, e = a := ⟨e.toNat, by omega⟩
      exact ⟨_, _, fun W => scc_ok W k' m' n' e' h h2, fun W hT => icc_ok W k' m' n' e' h h2 hT⟩
    · exact ⟨_, _, fun W => scc_inv2 W k m n e h he he0 h2, fun W _ => icc_inv2 W k m n e h he he0 h2⟩
  · exact ⟨_, _, fun W => scc_inv1 W k m n e hm hm0 h, fun W _ => icc_inv1 W k m n e hm hm0 h⟩
end Go.Proofs.YtmgolgmfnljkeaaDoor
