/-
  BlowUp: the model's contract.
-/
import Derived.Test.YtfnjgdocmfmfgaaBli
import Derived.StillTailTactics
namespace Go.Proofs.Ytfnjgdocmfmfgaa
open Go.RowKit
set_option maxRecDepth 100000
theorem vals_of (ps : List (Nat × Nat)) (h : ∀ p ∈ ps, p.1 < p.2 ∧ p.2 < 5) : ∃ xs : List (Pr 5), vals xs = ps := by
  induction ps with
  | nil => exact ⟨[], rfl⟩
  | cons p ps ih =>
    obtain ⟨xs, hx⟩ := ih (fun q hq => h q (List.mem_cons_of_mem _ hq))
    exact ⟨⟨p, h p (by simp)⟩ :: xs, by show p :: vals xs = _; rw [hx]⟩
theorem mem_prs : ∀ (j : Nat) (p : Nat × Nat), p ∈ prs j → p.1 < p.2 ∧ p.2 < j
  | 0, p, h => by cases h
  | j + 1, p, h => by
    unfold prs at h
    rcases List.mem_append.1 h with h1 | h1
    · have := mem_prs j p h1
      omega
    · obtain ⟨i, hi, rfl⟩ := List.mem_map.1 h1
      have := List.mem_range.1 hi
      exact ⟨this, by show j < j + 1; omega⟩
/-- the bits of the pairs up to those of j with the vertices before i -/
def ac (e lo : Nat) (x : List Nat) (j i : Nat) : Nat := foldE ((prsTo j i).filter fun p => pjn e lo (xn x p.1) (xn x p.2))
theorem ac_lt (e lo : Nat) (x : List Nat) (j i : Nat) (hi : i ≤ j) (hj : j ≤ 4) : ac e lo x j i < 2 ^ 10 := by
  obtain ⟨xs, hx⟩ := vals_of ((prsTo j i).filter fun p => pjn e lo (xn x p.1) (xn x p.2)) (fun p hp => by
    have h := (List.mem_filter.1 hp).1
    unfold prsTo at h
    rcases List.mem_append.1 h with h1 | h1
    · have := mem_prs j p h1
      omega
    · obtain ⟨q, hq, rfl⟩ := List.mem_map.1 h1
      have := List.mem_range.1 hq
      exact ⟨by show q < j; omega, by show j < 5; omega⟩)
  unfold ac
  rw [← hx]
  exact foldE_lt (by omega) xs
theorem ac_t (e lo : Nat) (x : List Nat) (j i : Nat) (h : pjn e lo (xn x i) (xn x j) = true) : ac e lo x j (i + 1) = ac e lo x j i ||| pb i j := by
  unfold ac
  rw [prsTo_succ, List.filter_append, show [(i, j)].filter (fun p => pjn e lo (xn x p.1) (xn x p.2)) = [(i, j)] by simp [h], foldE_snoc]
theorem ac_f (e lo : Nat) (x : List Nat) (j i : Nat) (h : pjn e lo (xn x i) (xn x j) = false) : ac e lo x j (i + 1) = ac e lo x j i := by
  unfold ac
  rw [prsTo_succ, List.filter_append]
  simp [h]
theorem ac_next (e lo : Nat) (x : List Nat) (j : Nat) : ac e lo x j j = ac e lo x (j + 1) 0 := by
  unfold ac
  rw [prsTo_end, prsTo_zero]
theorem ac_last (e lo : Nat) (x : List Nat) (j : Nat) (h1 : 1 ≤ j) (h : j = x.length ∨ (j = 1 ∧ x.length = 0)) : ac e lo x j 0 = mdE e lo x := by
  unfold ac mdE
  rw [prsTo_zero]
  rcases h with rfl | ⟨rfl, h0⟩
  · rfl
  · rw [h0]
    rfl
theorem bl_big {ss : List Int} {k : Nat} (hk : k < ss.length) (h : 5 < sz ss k) : ¬ GoodS ss := not_good_big hk (by rw [bl_succ]; omega)
theorem GB.put1 {W : World} {B : Nat} {n e : Int} (h : GB W B n e) (y : Int) : GB (W.drew.setCell ⟨B, 1, none⟩ (.int .u32 y)) B n y :=
  ⟨by simpa using h.lt, (World.cell?_setCell_other _ _ _ _ (by simp)).trans h.c0, World.cell?_setCell_same _ _ _ h.c1, fun o => by simp [h.fz o]⟩
section
variable (w : World)
set_option maxHeartbeats 4000000 in
/-- the edges, once the list is made: the loops alone -/
theorem sbl_bad (n e s : Int) (a : Option Addr) (L cap : Nat) (v : Value) (hV : ∀ W, Below w.heap.size w W → ∀ G, PB W G n e s (.slice a L cap) → Calls Try.prog 49 #[.pointer (some ⟨G, 0, none⟩)] W fun r w' => r = .returned (.bool false) ∧ Below W.heap.size W w') :
    Calls Try.prog 29 #[.agg #[.int .i64 n, .int .u32 e, .int .u32 s, .slice a L cap], v] w (RetGr w 0 0 1) := by
  unfold RetGr
  replace hV := Lib.hid hV
  obtain ⟨hB0, k0, k1⟩ := pre_b w n e s a L cap
  obtain ⟨W0, hW0⟩ : ∃ W0, W0 = pre w n e s a L cap := ⟨_, rfl⟩
  rw [← hW0] at hB0 k0 k1
  unfold pre at hW0
  replace hW0 := Lib.hid hW0
  go_enter Try.func29, Try.ntmps29
  go_wp2_with fail
  rw [← hW0.out]
  go_wp2_with fail
  refine (hV.out _ hB0 _ k0).mono ?_
  rintro r1 w1 ⟨rfl, hb1⟩
  obtain ⟨_, q0, q1, fR⟩ := k1.below hb1
  have hbw := bchain hb1 hB0
  have h2 := twoCells q0 q1 (.int .i64 0) (.int .u32 0)
  go_wp2
  exact bodyPost_ret (v := .tuple #[.agg #[.int .i64 0, .int .u32 0], .int .i64 1]) (by simp [results, Try.results29, go_sem, h2.1, h2.2]) rfl ⟨rfl, by (repeat (first | exact Below.refl _ _ | assumption | refine bchain (by assumption) ?_ | refine balloc ?_ _ | apply Below.drew | apply below_drewN | (refine Below.alloc ?_ (by (try simp) <;> omega) _) | (refine Below.setCell ?_ (by (try simp) <;> omega) _)))⟩
theorem sbl_len (n e s : Int) (a : Option Addr) (L cap : Nat) (a2 : Option Addr) (l2 cap2 : Nat) (hne : ((l2 : Int) != n) = true) (hV : ∀ W, Below w.heap.size w W → ∀ G, PB W G n e s (.slice a L cap) → Calls Try.prog 49 #[.pointer (some ⟨G, 0, none⟩)] W fun r w' => r = .returned (.bool true) ∧ Below W.heap.size W w') :
    Calls Try.prog 29 #[.agg #[.int .i64 n, .int .u32 e, .int .u32 s, .slice a L cap], .slice a2 l2 cap2] w (RetGr w 0 0 2) := by
  unfold RetGr
  replace hV := Lib.hid hV
  obtain ⟨hB0, k0, k1⟩ := pre_b w n e s a L cap
  obtain ⟨W0, hW0⟩ : ∃ W0, W0 = pre w n e s a L cap := ⟨_, rfl⟩
  rw [← hW0] at hB0 k0 k1
  unfold pre at hW0
  replace hW0 := Lib.hid hW0
  go_enter Try.func29, Try.ntmps29
  go_wp2_with fail
  rw [← hW0.out]
  go_wp2_with fail
  refine (hV.out _ hB0 _ k0).mono ?_
  rintro r1 w1 ⟨rfl, hb1⟩
  obtain ⟨_, x0, x1, x2, x3, _⟩ := k0.below hb1
  obtain ⟨_, q0, q1, fR⟩ := k1.below hb1
  have hbw := bchain hb1 hB0
  have h2 := twoCells q0 q1 (.int .i64 0) (.int .u32 0)
  go_wp2
  exact bodyPost_ret (v := .tuple #[.agg #[.int .i64 0, .int .u32 0], .int .i64 2]) (by simp [results, Try.results29, go_sem, h2.1, h2.2]) rfl ⟨rfl, by (repeat (first | exact Below.refl _ _ | assumption | refine bchain (by assumption) ?_ | refine balloc ?_ _ | apply Below.drew | apply below_drewN | (refine Below.alloc ?_ (by (try simp) <;> omega) _) | (refine Below.setCell ?_ (by (try simp) <;> omega) _)))⟩
set_option maxHeartbeats 8000000 in
theorem sbl_ok (e s : Nat) (he : e < 4294967296) (hs : s < 4294967296) (a : Option Addr) (L cap : Nat) (hL4 : L ≤ 4) (ss : List Int) (hl : ss.length = L) (v2 : Value) (hS : SlI w v2 ss) (m f c : Int)
    (hok : GoodS ss → m = ((bl ss L).length : Int) ∧ f = (mdE e s (bl ss L) : Nat) ∧ c = 0) (hbad : ¬ GoodS ss → m = 0 ∧ f = 0 ∧ c = 2)
    (hV : ∀ W, Below w.heap.size w W → ∀ G, PB W G L e s (.slice a L cap) → Calls Try.prog 49 #[.pointer (some ⟨G, 0, none⟩)] W fun r w' => r = .returned (.bool true) ∧ Below W.heap.size W w') :
    Calls Try.prog 29 #[.agg #[.int .i64 L, .int .u32 e, .int .u32 s, .slice a L cap], v2] w (RetGr w m f c) := by
  unfold RetGr
  replace hV := Lib.hid hV
  obtain ⟨i0, hi, hz0, hz1, hz2⟩ := info_parts info_i64
  replace hi := Lib.hid hi
  replace hz0 := Lib.hid hz0
  replace hz1 := Lib.hid hz1
  replace hz2 := Lib.hid hz2
  obtain ⟨a2, cap2, rfl, hc1, hc2, h3⟩ := hS
  rw [hl] at h3 hc1 ⊢
  have h3b : Hid (0 < L → ∃ b off, a2 = some ⟨b, off, none⟩ ∧ b < w.heap.size ∧ ∀ i, i < L → w.cell? ⟨b, off + i, none⟩ = some (.int .i64 (sz ss i))) := fun h0 => h3 (fun c => by rw [c] at hl; simp at hl; omega)
  obtain ⟨hB0, k0, k1⟩ := pre_b w L e s a L cap
  obtain ⟨W0, hW0⟩ : ∃ W0, W0 = pre w L e s a L cap := ⟨_, rfl⟩
  rw [← hW0] at hB0 k0 k1
  unfold pre at hW0
  replace hW0 := Lib.hid hW0
  replace hok := Lib.hid hok
  replace hbad := Lib.hid hbad
  replace hl := Lib.hid hl
  clear h3
  go_enter Try.func29, Try.ntmps29
  go_wp2_with fail
  rw [← hW0.out]
  go_wp2_with fail
  refine (hV.out _ hB0 _ k0).mono ?_
  rintro r1 w1 ⟨rfl, hb1⟩
  replace k0 := k0.below hb1
  replace k1 := k1.below hb1
  replace hB0 := bchain hb1 hB0
  clear hb1
  have hz1s := k1.lt
  obtain ⟨_, x0, x1, x2, x3, _⟩ := id k0
  have hd0 : ((L : Int) != (L : Int)) = false := by simp
  go_wp2
  clear x0 x1 x2 x3
  go_loopw [6, 7] (fun v i wr => ∃ k : Nat, k ≤ L ∧ i = .int .i64 k ∧ Hid (wr.ownsRow w1.heap.size 2 1 v (bl ss k).length (nC (bl ss k))) ∧ Hid (∀ j, j < k → 0 ≤ sz ss j) ∧ (bl ss k).length ≤ k * 5 ∧ w1.heap.size ≤ wr.heap.size ∧ Below w1.heap.size w1 wr) (fun _ i _ => L - (intOf i).toNat)
  case atStart => exact ⟨0, by omega, rfl, World.ownsRow_made w1 #[] 0 (Nat.le_refl _) (by omega) rfl, fun j hj => by omega, by simp [bl], by simp, balloc (Below.refl _ _) _⟩
  case round =>
    obtain ⟨k, hk, rfl, hrow, hpos, h5, hzr, hB⟩ := hrel
    have kr := k1.below hB
    have hBw := bchain hB hB0
    by_cases hlt : k < L
    · obtain ⟨b, off, rfl, hb, hcell⟩ := h3b.out (by omega)
      obtain ⟨y, hy⟩ : ∃ y, sz ss k = y := ⟨_, rfl⟩
      have s0 : wr.cell? ⟨b, off + k, none⟩ = some (.int .i64 y) := by rw [hBw.cell (p := ⟨b, _, none⟩) hb, hcell k hlt, hy]
      have hk0 : (0 : Int) ≤ (k : Int) := by omega
      have hk1 : (k : Int) < (L : Int) := by omega
      obtain ⟨_, q0, q1, fR⟩ := id kr
      by_cases hy0 : 0 ≤ y ∧ y ≤ 5
      · have hI := Lib.hid (fun W => in_t W y 0 5 hy0.1 hy0.2)
        obtain ⟨Y, hYy⟩ : ∃ Y : Nat, y = Y := ⟨y.toNat, by omega⟩
        have hbs : Hid (bl ss (k + 1) = bl ss k ++ List.replicate Y k) := by
          show _ = _
          rw [bl, hy, hYy, Int.toNat_natCast]
        have hpos2 : Hid (∀ j, j < k + 1 → 0 ≤ sz ss j) := fun j hj => by
          by_cases ej : j = k
          · rw [ej, hy]; omega
          · exact hpos.out j (by omega)
        have hY5 : Y ≤ 5 := by omega
        rw [hYy] at s0 hI
        obtain ⟨len, hlen⟩ : ∃ len, (bl ss k).length = len := ⟨_, rfl⟩
        rw [hlen] at h5
        replace hlen := Lib.hid hlen
        have hcb := Lib.hid (fun (W : World) (hW : Below w1.heap.size w1 W) => show W.cell? ⟨b, off + k, none⟩ = some (.int .i64 Y) from by rw [(bchain hW hB0).cell (p := ⟨b, _, none⟩) hb, hcell k hlt, hy, hYy])
        clear hcell hy hy0 hYy q0 q1 fR kr hpos
        go_wp2_with fail
        refine (hI.out _).mono ?_
        rintro r2 w2 ⟨rfl, rfl⟩
        go_wp2
        obtain ⟨wo, rfl⟩ : ∃ wo : World, wo = wr := ⟨_, rfl⟩
        clear s0
        go_loopw [6, 8] (fun v i wr => ∃ q : Nat, q ≤ Y ∧ i = .int .i64 q ∧ Hid (wr.ownsRow w1.heap.size 2 1 v (len + q) (nC (bl ss k ++ List.replicate q k))) ∧ w1.heap.size ≤ wr.heap.size ∧ Below w1.heap.size w1 wr) (fun _ i _ => Y - (intOf i).toNat)
        case atStart => exact ⟨0, by omega, rfl, (by show World.ownsRow _ _ _ _ _ _ _; rw [List.replicate_zero, List.append_nil, Nat.add_zero]; have := hrow.out; rw [hlen.out] at this; exact this), hzr, hB⟩
        case round =>
          clear hrow
          obtain ⟨q, hq, rfl, hrw, hzr2, hB2⟩ := hrel
          have s0 := hcb.out wr hB2
          by_cases hlq : q < Y
          · have hq1 : (q : Int) < (Y : Int) := by omega
            go_wp2_with (first
              | (at_builtin; refine wpList_append_own _ rfl _ _ 46 rfl w1.heap.size 2 i0 (.int .i64 0) 1 8 Try.underlying46 hi.out hz0.out hz1.out hz2.out rfl (by decide) _ _ _ rfl (hrw.out.alloc _) ⟨wr.heap.size, 0, none⟩ 1 1 [.int .i64 k] rfl rfl (fun j u hj => by match j, hj with
                  | 0, hj => simp at hj; subst hj; rw [show (⟨wr.heap.size, 0, none⟩ : Addr).add 0 = ⟨wr.heap.size, 0, none⟩ from rfl, World.cell?_alloc_new]; rfl
                  | j + 1, hj => simp at hj) (fun u hu => by simp at hu; rcases hu with rfl; rfl) (by unfold maxLen; omega) (by omega) (by simp; omega) ?_; intro v' w5 hown' hgrow _))
            have hB5 : Below w1.heap.size w1 w5 := (balloc hB2 _).grown hgrow (by simp; omega) (fun g hg => by have := (hrw.out.lt g hg).1; omega)
            have hz5 : w1.heap.size ≤ w5.heap.size := hB5.size
            have hrow5 : Hid (w5.ownsRow w1.heap.size 2 1 v' (len + (q + 1)) (nC (bl ss k ++ List.replicate (q + 1) k))) := by
              show World.ownsRow _ _ _ _ _ _ _
              rw [rep_snoc, nC_snoc]
              exact hown'
            clear hown' hgrow hrw
            go_roundw
            case rel => exact ⟨q + 1, by omega, by go_num, hrow5, hz5, hB5⟩
            case measure => simp [intOf]; omega
          · obtain rfl : q = Y := by omega
            have hq1 := decide_eq_false (show ¬ ((q : Int) < (q : Int)) by omega)
            have hrow6 : ∀ v, wr.ownsRow w1.heap.size 2 1 v (len + q) (nC (bl ss k ++ List.replicate q k)) → Hid (wr.ownsRow w1.heap.size 2 1 v (bl ss (k + 1)).length (nC (bl ss (k + 1)))) := fun v h => by
              show World.ownsRow _ _ _ _ _ _ _
              rw [hbs.out, List.length_append, List.length_replicate, hlen.out]
              exact h
            have h56 : (bl ss (k + 1)).length ≤ (k + 1) * 5 := by rw [hbs.out, List.length_append, List.length_replicate, hlen.out]; omega
            have hrow7 := hrow6 _ hrw.out
            clear hrw hrow6
            go_wp2
            go_roundw
            case rel => exact ⟨k + 1, by omega, by go_num, hrow7, hpos2, h56, hzr2, hB2⟩
            case measure => simp [intOf]; omega
      · have hng : ¬ GoodS ss := by
          by_cases h : y < 0
          · exact not_good_neg (by rw [hl.out]; exact hlt) (by rw [hy]; exact h)
          · exact bl_big (k := k) (by rw [hl.out]; exact hlt) (by rw [hy]; omega)
        obtain ⟨rfl, rfl, rfl⟩ := hbad.out hng
        have hI := Lib.hid (fun W => in_f W y 0 5 (by omega))
        have h2 := twoCells q0 q1 (.int .i64 0) (.int .u32 0)
        clear hrow hcell hy hy0
        go_wp2_with fail
        refine (hI.out _).mono ?_
        rintro r2 w2 ⟨rfl, rfl⟩
        go_wp2
        exact bodyPost_ret (v := .tuple #[.agg #[.int .i64 0, .int .u32 0], .int .i64 2]) (by simp [results, Try.results29, go_sem, h2.1, h2.2]) rfl ⟨rfl, by (repeat (first | exact Below.refl _ _ | assumption | refine bchain (by assumption) ?_ | refine balloc ?_ _ | apply Below.drew | apply below_drewN | (refine Below.alloc ?_ (by (try simp) <;> omega) _) | (refine Below.setCell ?_ (by (try simp) <;> omega) _)))⟩
    · obtain rfl : k = L := by omega
      have hd := decide_eq_false (show ¬ ((k : Int) < (k : Int)) by omega)
      have hSl := Lib.hid (sli_row hrow.out)
      obtain ⟨av, cv, hve, _⟩ := ownV_of_row hrow.out (Nat.le_refl w1.heap.size)
      obtain ⟨len, hlen⟩ : ∃ len, (bl ss k).length = len := ⟨_, rfl⟩
      rw [hlen] at hve h5
      subst hve
      obtain ⟨_, q0, q1, fR⟩ := id kr
      by_cases h55 : 5 < len
      · obtain ⟨rfl, rfl, rfl⟩ := hbad.out (fun c => by have := c.2; rw [hl.out, hlen] at this; omega)
        have hd5 : decide ((5 : Int) < (len : Int)) = true := decide_eq_true (by omega)
        have h2 := twoCells q0 q1 (.int .i64 0) (.int .u32 0)
        clear hrow
        go_wp2
        exact bodyPost_ret (v := .tuple #[.agg #[.int .i64 0, .int .u32 0], .int .i64 2]) (by simp [results, Try.results29, go_sem, h2.1, h2.2]) rfl ⟨rfl, by (repeat (first | exact Below.refl _ _ | assumption | refine bchain (by assumption) ?_ | refine balloc ?_ _ | apply Below.drew | apply below_drewN | (refine Below.alloc ?_ (by (try simp) <;> omega) _) | (refine Below.setCell ?_ (by (try simp) <;> omega) _)))⟩
      · obtain ⟨hm', hf', rfl⟩ := hok.out ⟨fun i hi => hpos.out i (by rw [← hl.out]; exact hi), by rw [hl.out, hlen]; omega⟩
        have hd5 : decide ((5 : Int) < (len : Int)) = false := decide_eq_false (by omega)
        rw [hlen] at hm'
        have hml := Lib.hid hm'
        replace hf' := Lib.hid hf'
        have hx4 : Hid (∀ q, q < len → xn (bl ss k) q ≤ 4) := fun q hq => by have := bl_lt ss k q (by omega); omega
        obtain ⟨x, hx⟩ : ∃ x, bl ss k = x := ⟨_, rfl⟩
        rw [hx] at hSl hlen hx4
        have hf2 : Hid (f = (mdE e s x : Nat)) := by rw [← hx]; exact hf'.out
        have hlst : Hid (0 < len → ∃ b off, av = some ⟨b, off, none⟩ ∧ b < wr.heap.size ∧ ∀ i, i < len → wr.cell? ⟨b, off + i, none⟩ = some (.int .i64 (xn x i : Nat))) := fun h0 => by
          obtain ⟨a3, c3, e3, _, _, h⟩ := hSl.out
          cases e3
          obtain ⟨b, off, rfl, hb, hc⟩ := h (fun c => by have := zn_length x; rw [c] at this; simp at this; omega)
          exact ⟨b, off, rfl, hb, fun i hi => by rw [hc i (by rw [zn_length]; omega), zn_get]; rfl⟩
        have hJn := Lib.hid (fun W i j (k0 : PB W w.heap.size k e s (.slice a k cap)) (hi : xn x i ≤ 4) (hj : xn x j ≤ 4) => sj_any W k e s (xn x i) (xn x j) w.heap.size _ k0 he hs hi hj)
        clear hrow hSl hpos q0 q1 fR hm' hf' hV hi hz0 hz1 hz2 h3b hbad hok
        replace hm' := hlen
        obtain ⟨wo, rfl⟩ : ∃ wo : World, wo = wr := ⟨_, rfl⟩
        go_wp2
        go_loopw [10] (fun i wr => ∃ J : Nat, 1 ≤ J ∧ (J ≤ len ∨ (J = 1 ∧ len = 0)) ∧ i = .int .i64 J ∧ Hid (GB wr wo.heap.size len (ac e s x J 0 : Nat)) ∧ Below wo.heap.size wo wr) (fun i _ => len - (intOf i).toNat)
        case atStart => exact ⟨1, by omega, by omega, rfl, GB.made _ _ _ _, balloc (Below.refl _ _) _⟩
        case round =>
          obtain ⟨J, hJ1, hJ2, rfl, hP, hBo⟩ := hrel
          obtain ⟨_, p0, p1, pf⟩ := hP.out
          by_cases hJl : J < len
          · have hJi : (J : Int) < (len : Int) := by omega
            go_wp2
            obtain ⟨wp, rfl⟩ : ∃ wp : World, wp = wr := ⟨_, rfl⟩
            clear p0 p1 pf
            go_loopw [11] (fun i wr => ∃ I : Nat, I ≤ J ∧ i = .int .i64 I ∧ Hid (GB wr wo.heap.size len (ac e s x J I : Nat)) ∧ Below wo.heap.size wo wr) (fun i _ => J - (intOf i).toNat)
            case atStart => exact ⟨0, by omega, rfl, hP.out, hBo⟩
            case round =>
              clear hP hBo
              obtain ⟨I, hI, rfl, hP, hBo⟩ := hrel
              by_cases hIJ : I < J
              · obtain ⟨b, off, rfl, hb, hcell⟩ := hlst.out (by omega)
                have s1 : wr.cell? ⟨b, off + I, none⟩ = some (.int .i64 (xn x I : Nat)) := (hBo.cell (p := ⟨b, _, none⟩) hb).trans (hcell I (by omega))
                have s2 : wr.cell? ⟨b, off + J, none⟩ = some (.int .i64 (xn x J : Nat)) := (hBo.cell (p := ⟨b, _, none⟩) hb).trans (hcell J hJl)
                have hC := fun W (hW : Below wo.heap.size wo W) => hJn.out W I J (k0.below (bchain hW hB)) (hx4.out I (by omega)) (hx4.out J hJl)
                have hBt := Lib.hid (fun W => sbit_any W I J (by omega) (by omega))
                have hpl := pb_le I J (by omega) (by omega)
                have hac := ac_lt e s x J I hI (by omega)
                have hor := u32_or_nat (ac e s x J I) (pb I J) (by omega) (by omega)
                have hi0 : (0 : Int) ≤ (I : Int) := by omega
                have hj0 : (0 : Int) ≤ (J : Int) := by omega
                have hi1 : (I : Int) < (len : Int) := by omega
                have hj1 : (J : Int) < (len : Int) := by omega
                have hij : (I : Int) < (J : Int) := by omega
                obtain ⟨u, hu⟩ : ∃ u : Nat, xn x I = u := ⟨_, rfl⟩
                obtain ⟨v, hv⟩ : ∃ v : Nat, xn x J = v := ⟨_, rfl⟩
                cases hjn : pjn e s (xn x I) (xn x J)
                · have hnx := Lib.hid (ac_f e s x J I hjn)
                  rw [hjn] at hC
                  rw [hu, hv] at hC
                  rw [hu] at s1
                  rw [hv] at s2
                  replace hC := Lib.hid hC
                  clear hor hpl hac hBt hjn hu hv hcell
                  go_wp2
                  go_still_tail 8, (by kernel_rfl)
                  change wpList _ _ _ _ _ wr.drew
                  go_wp2_with fail
                  refine (hC.out _ hBo.drew).mono ?_
                  rintro r3 w3 ⟨rfl, hb3⟩
                  have hb3' : Below wr.heap.size wr w3 := bchain hb3 (Below.refl _ wr).drew
                  have hP3 := Lib.hid (hP.out.below hb3')
                  have hB3 := bchain hb3' hBo
                  go_wp2
                  go_roundw
                  case rel => exact ⟨I + 1, by omega, by go_num, by rw [hnx.out]; exact hP3, hB3⟩
                  case measure => simp [intOf]; omega
                · have hnx := Lib.hid (ac_t e s x J I hjn)
                  rw [hjn] at hC
                  rw [hu, hv] at hC
                  rw [hu] at s1
                  rw [hv] at s2
                  replace hC := Lib.hid hC
                  obtain ⟨y, hy⟩ : ∃ y : Nat, ac e s x J I ||| pb I J = y := ⟨_, rfl⟩
                  rw [hy] at hor hnx
                  obtain ⟨E, hE⟩ : ∃ E : Nat, ac e s x J I = E := ⟨_, rfl⟩
                  rw [hE] at hP hor
                  obtain ⟨z, hz⟩ : ∃ z : Nat, pb I J = z := ⟨_, rfl⟩
                  rw [hz] at hor hBt
                  clear hpl hac hjn hu hv hcell hy hE hz
                  go_wp2
                  go_still_tail 8, (by kernel_rfl)
                  change wpList _ _ _ _ _ wr.drew
                  go_wp2_with fail
                  refine (hC.out _ hBo.drew).mono ?_
                  rintro r3 w3 ⟨rfl, hb3⟩
                  have hb3' : Below wr.heap.size wr w3 := bchain hb3 (Below.refl _ wr).drew
                  have hP3 := hP.out.below hb3'
                  have hB3 := bchain hb3' hBo
                  obtain ⟨ltP, p0, p1, pf⟩ := id hP3
                  have pf1 := pf 1
                  replace hP3 := Lib.hid hP3
                  clear s1 s2
                  go_wp2
                  go_region_with (go_at_call 71; refine (hBt.out _).mono ?_; rintro r4 w4 ⟨rfl, rfl⟩)
                  all_goals go_wp2
                  all_goals
                    go_roundw
                    case rel => exact ⟨I + 1, by omega, by go_num, by rw [hnx.out]; exact hP3.out.put1 y, (hB3.drew).setCell (p := ⟨wo.heap.size, 1, none⟩) (Nat.le_refl _) _⟩
                    case measure => simp [intOf]; omega
              · obtain rfl : I = J := by omega
                have hij := decide_eq_false (show ¬ ((I : Int) < (I : Int)) by omega)
                have hP2 : Hid (GB wr wo.heap.size len (ac e s x (I + 1) 0 : Nat)) := by rw [← ac_next]; exact hP.out
                go_wp2
                go_roundw
                case rel => exact ⟨I + 1, by omega, by omega, by go_num, hP2, hBo⟩
                case measure => simp [intOf]; omega
          · have hJi := decide_eq_false (show ¬ ((J : Int) < (len : Int)) by omega)
            have hE := ac_last e s x J hJ1 (by rw [hm']; omega)
            rw [hE] at p1
            obtain ⟨_, q0, q1, fR⟩ := (k1.below hB).below hBo
            have hbw := bchain hBo (bchain hB hB0)
            have h2 := twoCells q0 q1 (.int .i64 len) (.int .u32 (mdE e s x : Nat))
            replace hE := Lib.hid hE
            go_wp2
            exact bodyPost_ret (v := .tuple #[.agg #[.int .i64 len, .int .u32 (mdE e s x : Nat)], .int .i64 0]) (by simp [results, Try.results29, go_sem, h2.1, h2.2]) rfl ⟨by rw [hml.out, hf2.out], by (repeat (first | exact Below.refl _ _ | assumption | refine bchain (by assumption) ?_ | refine balloc ?_ _ | apply Below.drew | apply below_drewN | (refine Below.alloc ?_ (by (try simp) <;> omega) _) | (refine Below.setCell ?_ (by (try simp) <;> omega) _)))⟩
end
end Go.Proofs.Ytfnjgdocmfmfgaa
