/-
  BlowUp: the program's loops.
-/
import Derived.Test.YtfnjgdocmfmfgaaBl
namespace Go.Proofs.Ytfnjgdocmfmfgaa
open Go.RowKit
set_option maxRecDepth 100000
theorem not_good_neg {ss : List Int} {k : Nat} (hk : k < ss.length) (h : sz ss k < 0) : ¬ GoodS ss := fun c => by have := c.1 k hk; omega
theorem not_good_big {ss : List Int} {k : Nat} (hk : k < ss.length) (h : 5 < (bl ss (k + 1)).length) : ¬ GoodS ss := fun c => by
  have h1 := bl_mono ss (show k + 1 ≤ ss.length by omega)
  have := c.2
  omega
section
variable (w : World)
set_option maxHeartbeats 4000000 in
theorem ibl_ok (n e s : Nat) (he : e < 4294967296) (hs : s < 4294967296) (a : Option Addr) (L cap : Nat) (hL4 : L ≤ 4) (ss : List Int) (hl : ss.length = L) (v2 : Value) (hS : SlI w v2 ss) (m f c : Int)
    (hok : GoodS ss → m = ((bl ss L).length : Int) ∧ f = (mdE e s (bl ss L) : Nat) ∧ c = 0) (hbad : ¬ GoodS ss → m = 0 ∧ f = 0 ∧ c = 2)
    (hV : ∀ W, Below w.heap.size w W → Calls Try.prog 16 #[.agg #[.int .i64 n, .int .u32 e, .int .u32 s, .slice a L cap]] W fun r w' => r = .returned (.bool true) ∧ Below W.heap.size W w') :
    Calls Try.prog 31 #[.agg #[.int .i64 n, .int .u32 e, .int .u32 s, .slice a L cap], v2] w (RetGr w m f c) := by
  unfold RetGr
  replace hV := Lib.hid hV
  obtain ⟨i0, hi, hz0, hz1, hz2⟩ := info_parts info_i64
  replace hi := Lib.hid hi
  replace hz0 := Lib.hid hz0
  replace hz1 := Lib.hid hz1
  replace hz2 := Lib.hid hz2
  obtain ⟨a2, cap2, rfl, hc1, hc2, h3⟩ := hS
  rw [hl] at h3 hc1 ⊢
  have h3b : Hid (0 < L → ∃ b off, a2 = some ⟨b, off, none⟩ ∧ b < w.heap.size ∧ ∀ i, i < L → w.cell? ⟨b, off + i, none⟩ = some (.int .i64 (sz ss i))) := fun h0 => h3 (fun c => by rw [c] at hl; simp at hl; omega)
  have hMd := Lib.hid (fun W lv (hx : (bl ss L).length ≤ 5) (h : SlI W lv (zn (bl ss L))) => made_any W n e s he hs (bl ss L) hx (fun i hi => by have := bl_lt ss L i hi; omega) lv h)
  have hWo := Lib.hid (fun W => wo_any W n e s)
  obtain ⟨hB0, k0, k1⟩ := pre_b w n e s a L cap
  obtain ⟨W0, hW0⟩ : ∃ W0, W0 = pre w n e s a L cap := ⟨_, rfl⟩
  rw [← hW0] at hB0 k0 k1
  unfold pre at hW0
  replace hW0 := Lib.hid hW0
  replace hok := Lib.hid hok
  replace hbad := Lib.hid hbad
  replace hl := Lib.hid hl
  clear h3
  obtain ⟨_, x0, x1, x2, x3, _⟩ := id k0
  go_enter Try.func31, Try.ntmps31
  go_wp2_with fail
  rw [← hW0.out]
  go_wp2_with fail
  refine (hV.out _ hB0).mono ?_
  rintro r1 w1 ⟨rfl, hb1⟩
  clear x0 x1 x2 x3
  replace k0 := k0.below hb1
  replace k1 := k1.below hb1
  replace hB0 := bchain hb1 hB0
  clear hb1
  have hz1s := k1.lt
  obtain ⟨_, x0, x1, x2, x3, _⟩ := id k0
  have hd0 : ((L : Int) != (L : Int)) = false := by simp
  go_wp2
  clear x0 x1 x2 x3
  go_loopw [6, 22] (fun v i wr => ∃ k : Nat, k ≤ L ∧ i = .int .i64 k ∧ Hid (wr.ownsRow w1.heap.size 2 1 v (bl ss k).length (nC (bl ss k))) ∧ Hid (∀ j, j < k → 0 ≤ sz ss j) ∧ (bl ss k).length ≤ 5 ∧ w1.heap.size ≤ wr.heap.size ∧ Below w1.heap.size w1 wr) (fun _ i _ => L - (intOf i).toNat)
  case atStart => exact ⟨0, by omega, rfl, World.ownsRow_nil _ _ _ _, fun j hj => by omega, by simp [bl], Nat.le_refl _, Below.refl _ _⟩
  case round =>
    obtain ⟨k, hk, rfl, hrow, hpos, h5, hzr, hB⟩ := hrel
    have kr := k1.below hB
    have hBw := bchain hB hB0
    by_cases hlt : k < L
    · obtain ⟨b, off, rfl, hb, hcell⟩ := h3b.out (by omega)
      obtain ⟨y, hy⟩ : ∃ y, sz ss k = y := ⟨_, rfl⟩
      have s0 : wr.cell? ⟨b, off + k, none⟩ = some (.int .i64 y) := by rw [hBw.cell (p := ⟨b, _, none⟩) hb, hcell k hlt, hy]
      have hk0 : (0 : Int) ≤ (k : Int) := by omega
      have hk1 : (k : Int) < (L : Int) := by omega
      obtain ⟨_, q0, q1, fR⟩ := id kr
      obtain ⟨av, cv, hve, _⟩ := ownV_of_row hrow.out (Nat.le_refl w1.heap.size)
      obtain ⟨len, hlen⟩ : ∃ len, (bl ss k).length = len := ⟨_, rfl⟩
      rw [hlen] at hve h5
      subst hve
      have hsub : IntKind.i64.wrap (5 - (len : Int)) = 5 - (len : Int) := IntWalk.i64_in _ ⟨by omega, by omega⟩
      by_cases hy0 : y < 0
      · obtain ⟨rfl, rfl, rfl⟩ := hbad.out (not_good_neg (by rw [hl.out]; exact hlt) (by rw [hy]; exact hy0))
        have hdy : decide (y < 0) = true := decide_eq_true hy0
        have h2 := twoCells q0 q1 (.int .i64 0) (.int .u32 0)
        clear hrow hcell hy
        go_wp2
        exact bodyPost_ret (v := .tuple #[.agg #[.int .i64 0, .int .u32 0], .int .i64 2]) (by simp [results, Try.results31, go_sem, h2.1, h2.2]) rfl ⟨rfl, by (repeat (first | exact Below.refl _ _ | assumption | refine bchain (by assumption) ?_ | refine balloc ?_ _ | apply Below.drew | apply below_drewN | (refine Below.alloc ?_ (by (try simp) <;> omega) _) | (refine Below.setCell ?_ (by (try simp) <;> omega) _)))⟩
      · have hdy : decide (y < 0) = false := decide_eq_false hy0
        by_cases hy5 : 5 - (len : Int) < y
        · obtain ⟨rfl, rfl, rfl⟩ := hbad.out (not_good_big (k := k) (by rw [hl.out]; exact hlt) (by rw [bl_succ, hlen, hy]; omega))
          have hdy5 : decide (5 - (len : Int) < y) = true := decide_eq_true hy5
          have h2 := twoCells q0 q1 (.int .i64 0) (.int .u32 0)
          clear hrow hcell hy
          go_wp2
          exact bodyPost_ret (v := .tuple #[.agg #[.int .i64 0, .int .u32 0], .int .i64 2]) (by simp [results, Try.results31, go_sem, h2.1, h2.2]) rfl ⟨rfl, by (repeat (first | exact Below.refl _ _ | assumption | refine bchain (by assumption) ?_ | refine balloc ?_ _ | apply Below.drew | apply below_drewN | (refine Below.alloc ?_ (by (try simp) <;> omega) _) | (refine Below.setCell ?_ (by (try simp) <;> omega) _)))⟩
        · have hdy5 : decide (5 - (len : Int) < y) = false := decide_eq_false hy5
          obtain ⟨Y, hYy⟩ : ∃ Y : Nat, y = Y := ⟨y.toNat, by omega⟩
          have hlY : len + Y ≤ 5 := by omega
          have hbs : Hid (bl ss (k + 1) = bl ss k ++ List.replicate Y k) := by
            show _ = _
            rw [bl, hy, hYy, Int.toNat_natCast]
          have hpos2 : Hid (∀ j, j < k + 1 → 0 ≤ sz ss j) := fun j hj => by
            by_cases ej : j = k
            · rw [ej, hy]; omega
            · exact hpos.out j (by omega)
          rw [hYy] at s0 hdy hdy5
          replace hlen := Lib.hid hlen
          clear hcell hy hy0 hy5 hYy q0 q1 fR kr hpos
          go_wp2
          obtain ⟨wo, rfl⟩ : ∃ wo : World, wo = wr := ⟨_, rfl⟩
          go_loopw [6, 38] (fun v i wr => ∃ q : Nat, q ≤ Y ∧ i = .int .i64 q ∧ Hid (wr.ownsRow w1.heap.size 2 1 v (len + q) (nC (bl ss k ++ List.replicate q k))) ∧ w1.heap.size ≤ wr.heap.size ∧ Below w1.heap.size w1 wr) (fun _ i _ => Y - (intOf i).toNat)
          case atStart => exact ⟨0, by omega, rfl, (by show World.ownsRow _ _ _ _ _ _ _; rw [List.replicate_zero, List.append_nil, Nat.add_zero, ← hlen.out]; rw [hlen.out]; have := hrow.out; rw [hlen.out] at this; exact this), hzr, hB⟩
          case round =>
            clear hrow
            obtain ⟨q, hq, rfl, hrw, hzr2, hB2⟩ := hrel
            by_cases hlq : q < Y
            · have hq1 : (q : Int) < (Y : Int) := by omega
              go_wp2_with (first
                | (at_builtin; refine wpList_append_own _ rfl _ _ 46 rfl w1.heap.size 2 i0 (.int .i64 0) 1 8 Try.underlying46 hi.out hz0.out hz1.out hz2.out rfl (by decide) _ _ _ rfl (hrw.out.alloc _) ⟨wr.heap.size, 0, none⟩ 1 1 [.int .i64 k] rfl rfl (fun j u hj => by match j, hj with
                    | 0, hj => simp at hj; subst hj; rw [show (⟨wr.heap.size, 0, none⟩ : Addr).add 0 = ⟨wr.heap.size, 0, none⟩ from rfl, World.cell?_alloc_new]; rfl
                    | j + 1, hj => simp at hj) (fun u hu => by simp at hu; rcases hu with rfl; rfl) (by unfold maxLen; omega) (by omega) (by simp; omega) ?_; intro v' w5 hown' hgrow _))
              have hB5 : Below w1.heap.size w1 w5 := (balloc hB2 _).grown hgrow (by simp; omega) (fun g hg => by have := (hrw.out.lt g hg).1; omega)
              have hz5 : w1.heap.size ≤ w5.heap.size := hB5.size
              have hrow5 : Hid (w5.ownsRow w1.heap.size 2 1 v' (len + (q + 1)) (nC (bl ss k ++ List.replicate (q + 1) k))) := by
                show World.ownsRow _ _ _ _ _ _ _
                rw [rep_snoc, nC_snoc]
                exact hown'
              clear hown' hgrow hrw
              go_roundw
              case rel => exact ⟨q + 1, by omega, by go_num, hrow5, hz5, hB5⟩
              case measure => simp [intOf]; omega
            · obtain rfl : q = Y := by omega
              have hq1 := decide_eq_false (show ¬ ((q : Int) < (q : Int)) by omega)
              have hrow6 : ∀ v, wr.ownsRow w1.heap.size 2 1 v (len + q) (nC (bl ss k ++ List.replicate q k)) → Hid (wr.ownsRow w1.heap.size 2 1 v (bl ss (k + 1)).length (nC (bl ss (k + 1)))) := fun v h => by
                show World.ownsRow _ _ _ _ _ _ _
                rw [hbs.out, List.length_append, List.length_replicate, hlen.out]
                exact h
              have h56 : (bl ss (k + 1)).length ≤ 5 := by rw [hbs.out, List.length_append, List.length_replicate, hlen.out]; exact hlY
              have hrow7 := hrow6 _ hrw.out
              clear hrw hrow6
              go_wp2
              go_roundw
              case rel => exact ⟨k + 1, by omega, by go_num, hrow7, hpos2, h56, hzr2, hB2⟩
              case measure => simp [intOf]; omega
    · obtain rfl : k = L := by omega
      have hd := decide_eq_false (show ¬ ((k : Int) < (k : Int)) by omega)
      obtain ⟨hm', hf', rfl⟩ := hok.out ⟨fun i hi => hpos.out i (by rw [← hl.out]; exact hi), by rw [hl.out]; exact h5⟩
      have hSl := Lib.hid (sli_row hrow.out)
      obtain ⟨av, cv, hve, _⟩ := ownV_of_row hrow.out (Nat.le_refl w1.heap.size)
      obtain ⟨len, hlen⟩ : ∃ len, (bl ss k).length = len := ⟨_, rfl⟩
      obtain ⟨E, hE⟩ : ∃ E, mdE e s (bl ss k) = E := ⟨_, rfl⟩
      rw [hlen, hE] at hMd
      rw [hlen] at hve h5 hm'
      rw [hE] at hf'
      subst hve
      replace hm' := Lib.hid hm'
      replace hf' := Lib.hid hf'
      clear hrow hlen hE
      obtain ⟨_, x0, x1, x2, x3, _⟩ := k0.below hB
      go_wp2_with fail
      refine (hWo.out _).mono ?_
      rintro r3 w3 ⟨rfl, hb3⟩
      have hB3 := bchain hb3 hB
      go_wp2_with fail
      refine (hMd.out _ _ h5 (hSl.out.below hb3)).mono ?_
      rintro r4 w4 ⟨rfl, hb4⟩
      have hB4 := bchain hb4 hB3
      obtain ⟨_, q0, q1, fR⟩ := k1.below hB4
      have hbw := bchain hB4 hB0
      have h2 := twoCells q0 q1 (.int .i64 len) (.int .u32 E)
      go_wp2
      exact bodyPost_ret (v := .tuple #[.agg #[.int .i64 len, .int .u32 E], .int .i64 0]) (by simp [results, Try.results31, go_sem, h2.1, h2.2]) rfl ⟨by rw [hm'.out, hf'.out], by (repeat (first | exact Below.refl _ _ | assumption | refine bchain (by assumption) ?_ | refine balloc ?_ _ | apply Below.drew | apply below_drewN | (refine Below.alloc ?_ (by (try simp) <;> omega) _) | (refine Below.setCell ?_ (by (try simp) <;> omega) _)))⟩
end
end Go.Proofs.Ytfnjgdocmfmfgaa
