/-
  FAMILIES OF FLAGS: the program's code of pairs, and the model's code of a family.
-/
import Derived.Test.YtfpoekdcedbciaaKFm
namespace Go.Proofs.Ytfpoekdcedbciaa
open Go.RowKit
set_option maxRecDepth 100000
attribute [local go_sem] Oper.semAt_some
section
variable (w : World)
set_option maxHeartbeats 1000000 in
theorem icp_any (gs : List (Int × Int × Int)) (hm : gs.length ≤ 1048576) (hV : AllK gs) :
    ∃ c : Int, (c = 0 ↔ FamK gs) ∧ ∀ (w : World) (a : Option Addr) (cap : Nat), LiesK w a gs → Calls Try.prog 72 #[.slice a gs.length cap] w fun r w' => r = .returned (.int .i64 c) ∧ Below w.heap.size w w' := by
  by_cases h8 : gs.length ≤ 8
  · by_cases h0 : 0 < gs.length
    · obtain ⟨B1, hB1⟩ : ∃ B : Bool, (B = true ↔ SameT gs gs.length) := ⟨@decide (SameT gs gs.length) (Classical.propDecidable _), by simp⟩
      obtain ⟨B2, hB2⟩ : ∃ B : Bool, (B = true ↔ SameN gs gs.length) := ⟨@decide (SameN gs gs.length) (Classical.propDecidable _), by simp⟩
      refine ⟨if B1 && B2 then 0 else 4, ?_, fun w a cap hc => ?_⟩
      · unfold FamK
        cases hb1 : B1 with
        | false =>
          simp
          intro _ _ _ hs
          have := hB1.2 hs
          rw [hb1] at this
          cases this
        | true =>
          cases hb2 : B2 with
          | false =>
            simp
            intro _ _ _ _ hs
            have := hB2.2 hs
            rw [hb2] at this
            cases this
          | true =>
            simp
            exact ⟨hV, h8, h0, hB1.1 hb1, hB2.1 hb2⟩
      have h1 := Lib.hid (fun W (hb : Below w.heap.size w W) => sft_any W a cap gs h8 h0 (hc.below hb) hV B1 hB1)
      have h2 := Lib.hid (fun W (hb : Below w.heap.size w W) => sfn_any W a cap gs h8 h0 (hc.below hb) B2 hB2)
      obtain ⟨n, hn⟩ : ∃ n, gs.length = n := ⟨_, rfl⟩
      rw [hn] at h8 h0 h1 h2 ⊢
      clear hn hB1 hB2 hc hV hm
      have hd8 := decide_eq_false (show ¬ (8 : Int) < (n : Int) by omega)
      have hd0 : ((n : Int) == 0) = false := by simp; omega
      cases B1 with
      | false =>
        go_enter Try.func72, Try.ntmps72
        go_wp2_with fail
        refine (h1.out _ (by (repeat (first | exact Below.refl _ _ | assumption | refine bchain (by assumption) ?_ | refine balloc ?_ _ | apply Below.drew | apply below_drewN | (refine Below.alloc ?_ (by (try simp) <;> omega) _) | (refine Below.setCell ?_ (by (try simp) <;> omega) _))))).mono ?_
        rintro r1 w1 ⟨rfl, hb1⟩
        go_wp2
        go_ret
        exact ⟨rfl, by (repeat (first | exact Below.refl _ _ | assumption | refine bchain (by assumption) ?_ | refine balloc ?_ _ | apply Below.drew | apply below_drewN | (refine Below.alloc ?_ (by (try simp) <;> omega) _) | (refine Below.setCell ?_ (by (try simp) <;> omega) _)))⟩
      | true =>
        cases B2 with
        | false =>
          go_enter Try.func72, Try.ntmps72
          go_wp2_with fail
          refine (h1.out _ (by (repeat (first | exact Below.refl _ _ | assumption | refine bchain (by assumption) ?_ | refine balloc ?_ _ | apply Below.drew | apply below_drewN | (refine Below.alloc ?_ (by (try simp) <;> omega) _) | (refine Below.setCell ?_ (by (try simp) <;> omega) _))))).mono ?_
          rintro r1 w1 ⟨rfl, hb1⟩
          go_wp2_with fail
          refine (h2.out _ (by (repeat (first | exact Below.refl _ _ | assumption | refine bchain (by assumption) ?_ | refine balloc ?_ _ | apply Below.drew | apply below_drewN | (refine Below.alloc ?_ (by (try simp) <;> omega) _) | (refine Below.setCell ?_ (by (try simp) <;> omega) _))))).mono ?_
          rintro r2 w2 ⟨rfl, hb2⟩
          go_wp2
          go_ret
          exact ⟨rfl, by (repeat (first | exact Below.refl _ _ | assumption | refine bchain (by assumption) ?_ | refine balloc ?_ _ | apply Below.drew | apply below_drewN | (refine Below.alloc ?_ (by (try simp) <;> omega) _) | (refine Below.setCell ?_ (by (try simp) <;> omega) _)))⟩
        | true =>
          go_enter Try.func72, Try.ntmps72
          go_wp2_with fail
          refine (h1.out _ (by (repeat (first | exact Below.refl _ _ | assumption | refine bchain (by assumption) ?_ | refine balloc ?_ _ | apply Below.drew | apply below_drewN | (refine Below.alloc ?_ (by (try simp) <;> omega) _) | (refine Below.setCell ?_ (by (try simp) <;> omega) _))))).mono ?_
          rintro r1 w1 ⟨rfl, hb1⟩
          go_wp2_with fail
          refine (h2.out _ (by (repeat (first | exact Below.refl _ _ | assumption | refine bchain (by assumption) ?_ | refine balloc ?_ _ | apply Below.drew | apply below_drewN | (refine Below.alloc ?_ (by (try simp) <;> omega) _) | (refine Below.setCell ?_ (by (try simp) <;> omega) _))))).mono ?_
          rintro r2 w2 ⟨rfl, hb2⟩
          go_wp2
          go_ret
          exact ⟨rfl, by (repeat (first | exact Below.refl _ _ | assumption | refine bchain (by assumption) ?_ | refine balloc ?_ _ | apply Below.drew | apply below_drewN | (refine Below.alloc ?_ (by (try simp) <;> omega) _) | (refine Below.setCell ?_ (by (try simp) <;> omega) _)))⟩
    · refine ⟨4, ⟨fun c => by omega, fun c => absurd c.2.2.1 h0⟩, fun w a cap hc => ?_⟩
      rw [show gs.length = 0 by omega]
      clear hc hV hm h8 h0
      go_enter Try.func72, Try.ntmps72
      go_wp2
      go_ret
      exact ⟨rfl, by (repeat (first | exact Below.refl _ _ | assumption | refine bchain (by assumption) ?_ | refine balloc ?_ _ | apply Below.drew | apply below_drewN | (refine Below.alloc ?_ (by (try simp) <;> omega) _) | (refine Below.setCell ?_ (by (try simp) <;> omega) _)))⟩
  · refine ⟨3, ⟨fun c => by omega, fun c => absurd c.2.1 h8⟩, fun w a cap hc => ?_⟩
    obtain ⟨n, hn⟩ : ∃ n, gs.length = n := ⟨_, rfl⟩
    rw [hn] at h8 hm ⊢
    have hd8 := decide_eq_true (show (8 : Int) < (n : Int) by omega)
    clear hn hc hV
    go_enter Try.func72, Try.ntmps72
    go_wp2
    go_ret
    exact ⟨rfl, by (repeat (first | exact Below.refl _ _ | assumption | refine bchain (by assumption) ?_ | refine balloc ?_ _ | apply Below.drew | apply below_drewN | (refine Below.alloc ?_ (by (try simp) <;> omega) _) | (refine Below.setCell ?_ (by (try simp) <;> omega) _)))⟩
set_option maxHeartbeats 1000000 in
theorem sfam_bad (a : Option Addr) (cap : Nat) (gs : List (Int × Int × Int)) (hm : gs.length ≤ 1048576) (hc : LiesK w a gs) (hbd : BdK gs) (m : Nat) (hm2 : m < gs.length) (hV : ∀ k, k < m → KV gs k) (hbad : ¬ KV gs m) :
    Calls Try.prog 128 #[.slice a gs.length cap] w fun r w' => r = .returned (.int .i64 1) ∧ Below w.heap.size w w' := by
  obtain ⟨n, hn⟩ : ∃ n, n = gs.length := ⟨_, rfl⟩
  rw [← hn] at hm hm2 ⊢
  replace hc := Lib.hid hc
  replace hV := Lib.hid hV
  replace hbd := Lib.hid hbd
  replace hn := Lib.hid hn
  replace hbad := Lib.hid hbad
  go_enter Try.func128, Try.ntmps128
  go_wp2
  go_loopw [3] (fun i wr => ∃ k : Nat, k ≤ m ∧ i = .int .i64 k ∧ Below w.heap.size w wr) (fun i _ => n - (intOf i).toNat)
  case atStart => exact ⟨0, by omega, rfl, by (repeat (first | exact Below.refl _ _ | assumption | refine bchain (by assumption) ?_ | refine balloc ?_ _ | apply Below.drew | apply below_drewN | (refine Below.alloc ?_ (by (try simp) <;> omega) _) | (refine Below.setCell ?_ (by (try simp) <;> omega) _)))⟩
  case round =>
    obtain ⟨k, hk, rfl, hB⟩ := hrel
    obtain ⟨b, off, rfl, hb, hg⟩ := hc.out k (by have := hn.out; omega)
    obtain ⟨x, y, z, hxy⟩ : ∃ x y z, kAt gs k = (x, y, z) := ⟨_, _, _, rfl⟩
    have s0 : wr.cell? ⟨b, off + k * 3, none⟩ = some (.int .i64 x) := by rw [hB.cell (p := ⟨b, _, none⟩) hb, hg.1, hxy]
    have s1 : wr.cell? ⟨b, off + k * 3 + 1, none⟩ = some (.int .i64 y) := by rw [hB.cell (p := ⟨b, _, none⟩) hb, hg.2.1, hxy]
    have s2 : wr.cell? ⟨b, off + k * 3 + 2, none⟩ = some (.int .u32 z) := by rw [hB.cell (p := ⟨b, _, none⟩) hb, hg.2.2, hxy]
    have hkn : (k : Int) < (n : Int) := by omega
    have hk0 : (0 : Int) ≤ (k : Int) := by omega
    by_cases hlt : k < m
    · have hv : KV gs k := hV.out k hlt
      unfold KV at hv
      rw [hxy] at hv
      have hC := Lib.hid (fun W => sok_t W x y z hv)
      clear hg hxy hv
      go_wp2_with fail
      refine (hC.out _).mono ?_
      rintro r3 w3 ⟨rfl, hb3⟩
      go_wp2
      go_roundw
      case rel => exact ⟨k + 1, by omega, by go_num, by (repeat (first | exact Below.refl _ _ | assumption | refine bchain (by assumption) ?_ | refine balloc ?_ _ | apply Below.drew | apply below_drewN | (refine Below.alloc ?_ (by (try simp) <;> omega) _) | (refine Below.setCell ?_ (by (try simp) <;> omega) _)))⟩
      case measure => simp [intOf]; omega
    · obtain rfl : k = m := by omega
      have hv := hbad.out
      have hbk := hbd.out k (by have := hn.out; omega)
      unfold KV at hv
      rw [hxy] at hv hbk
      have hC := Lib.hid (fun W => sok_f W x y z hbk.2 hbk.1 hv)
      clear hg hxy hv hbk
      go_wp2_with fail
      refine (hC.out _).mono ?_
      rintro r3 w3 ⟨rfl, hb3⟩
      go_wp2
      go_ret
      exact ⟨rfl, by (repeat (first | exact Below.refl _ _ | assumption | refine bchain (by assumption) ?_ | refine balloc ?_ _ | apply Below.drew | apply below_drewN | (refine Below.alloc ?_ (by (try simp) <;> omega) _) | (refine Below.setCell ?_ (by (try simp) <;> omega) _)))⟩
set_option maxHeartbeats 4000000 in
theorem sfam_any (gs : List (Int × Int × Int)) (hm : gs.length ≤ 1048576) (hV : AllK gs) :
    ∃ c : Int, (c = 0 ↔ FamK gs) ∧ ∀ (w : World) (a : Option Addr) (cap : Nat), LiesK w a gs → Calls Try.prog 128 #[.slice a gs.length cap] w fun r w' => r = .returned (.int .i64 c) ∧ Below w.heap.size w w' := by
  obtain ⟨B, hB0⟩ : ∃ B : Bool, (B = true ↔ (SameT gs gs.length ∧ SameN gs gs.length)) := ⟨@decide (SameT gs gs.length ∧ SameN gs gs.length) (Classical.propDecidable _), by simp⟩
  by_cases h8 : gs.length ≤ 8
  · refine ⟨if 0 < gs.length ∧ B = true then 0 else 4, ?_, fun w a cap hc => ?_⟩
    · unfold FamK
      by_cases h0 : 0 < gs.length
      · cases hb : B with
        | false =>
          simp
          intro _ _ _ h1 h2
          have := hB0.2 ⟨h1, h2⟩
          rw [hb] at this
          cases this
        | true =>
          rw [if_pos ⟨h0, rfl⟩]
          have := hB0.1 hb
          exact ⟨fun _ => ⟨hV, h8, h0, this.1, this.2⟩, fun _ => rfl⟩
      · rw [if_neg (fun h => h0 h.1)]
        exact ⟨fun c => by omega, fun c => absurd c.2.2.1 h0⟩
    obtain ⟨n, hn⟩ : ∃ n, n = gs.length := ⟨_, rfl⟩
    replace hB0 := Lib.hid hB0
    rw [← hn] at hm h8 ⊢
    replace hc := Lib.hid hc
    replace hV := Lib.hid hV
    replace hn := Lib.hid hn
    have hd8 := decide_eq_false (show ¬ (8 : Int) < (n : Int) by omega)
    by_cases h0 : 0 < n
    · have hd0 : ((n : Int) == 0) = false := by simp; omega
      rw [show (if 0 < n ∧ B = true then (0 : Int) else 4) = (if B = true then 0 else 4) by simp [h0]]
      go_enter Try.func128, Try.ntmps128
      go_wp2
      go_loopw [3] (fun i wr => ∃ k : Nat, k ≤ n ∧ i = .int .i64 k ∧ Below w.heap.size w wr) (fun i _ => n - (intOf i).toNat)
      case atStart => exact ⟨0, by omega, rfl, by (repeat (first | exact Below.refl _ _ | assumption | refine bchain (by assumption) ?_ | refine balloc ?_ _ | apply Below.drew | apply below_drewN | (refine Below.alloc ?_ (by (try simp) <;> omega) _) | (refine Below.setCell ?_ (by (try simp) <;> omega) _)))⟩
      case round =>
        obtain ⟨k, hk, rfl, hB⟩ := hrel
        by_cases hlt : k < n
        · obtain ⟨b, off, rfl, hb, hg⟩ := hc.out k (by have := hn.out; omega)
          have hv : KV gs k := hV.out k (by have := hn.out; omega)
          unfold KV at hv
          obtain ⟨x, y, z, hxy⟩ : ∃ x y z, kAt gs k = (x, y, z) := ⟨_, _, _, rfl⟩
          rw [hxy] at hv
          have s0 : wr.cell? ⟨b, off + k * 3, none⟩ = some (.int .i64 x) := by rw [hB.cell (p := ⟨b, _, none⟩) hb, hg.1, hxy]
          have s1 : wr.cell? ⟨b, off + k * 3 + 1, none⟩ = some (.int .i64 y) := by rw [hB.cell (p := ⟨b, _, none⟩) hb, hg.2.1, hxy]
          have s2 : wr.cell? ⟨b, off + k * 3 + 2, none⟩ = some (.int .u32 z) := by rw [hB.cell (p := ⟨b, _, none⟩) hb, hg.2.2, hxy]
          have hC := Lib.hid (fun W => sok_t W x y z hv)
          have hkn : (k : Int) < (n : Int) := by omega
          have hk0 : (0 : Int) ≤ (k : Int) := by omega
          clear hg hxy hv
          go_wp2_with fail
          refine (hC.out _).mono ?_
          rintro r3 w3 ⟨rfl, hb3⟩
          go_wp2
          go_roundw
          case rel => exact ⟨k + 1, by omega, by go_num, by (repeat (first | exact Below.refl _ _ | assumption | refine bchain (by assumption) ?_ | refine balloc ?_ _ | apply Below.drew | apply below_drewN | (refine Below.alloc ?_ (by (try simp) <;> omega) _) | (refine Below.setCell ?_ (by (try simp) <;> omega) _)))⟩
          case measure => simp [intOf]; omega
        · obtain rfl : k = n := by omega
          have hd := decide_eq_false (show ¬ ((k : Int) < (k : Int)) by omega)
          rename World => V
          clear hd
          obtain ⟨b, off, rfl, hb, hg0⟩ := hc.out 0 (by have := hn.out; omega)
          have hg : Hid (∀ i, i < k → KCell w b off (kAt gs i) i) := fun i hi => by
            obtain ⟨b', off', e, _, h⟩ := hc.out i (by have := hn.out; omega)
            cases e
            exact h
          obtain ⟨x0, y0, z0, hq0, hv0⟩ := kv_nat (hV.out 0 (by have := hn.out; omega))
          have hKV := Lib.hid (fun i (hi : i < k) => kv_nat (hV.out i (by have := hn.out; omega)))
          rw [hq0] at hg0
          unfold KCell at hg0
          rw [Nat.zero_mul, Nat.add_zero] at hg0
          have hT0 := Lib.hid (fun W => sty_any W x0 y0 z0 hv0)
          have ht0 : Hid (tyK gs 0 = ((x0 : Int), onL z0 (List.range x0))) := by show _ = _; unfold tyK; rw [hq0]; simp
          have hy0 : Hid ((kAt gs 0).2.1 = (y0 : Int)) := by show _ = _; rw [hq0]
          obtain ⟨u0, hu0⟩ : ∃ u, onL z0 (List.range x0) = u := ⟨_, rfl⟩
          rw [hu0] at hT0 ht0
          clear hc hV hu0 hv0 hq0
          go_wp2
          go_loopw [4] (fun i wr => ∃ j : Nat, 1 ≤ j ∧ j ≤ k ∧ i = .int .i64 j ∧ Hid (SameT gs j ∧ SameN gs j) ∧ Below w.heap.size w wr) (fun i _ => k - (intOf i).toNat)
          case atStart => exact ⟨1, by omega, by omega, rfl, ⟨fun i hi => by rw [show i = 0 by omega], fun i hi => by rw [show i = 0 by omega]⟩, hB⟩
          case round =>
            clear hB
            obtain ⟨j, hj1, hj, rfl, hs, hB⟩ := hrel
            by_cases hlt2 : j < k
            · obtain ⟨x, y, z, hxy, hv⟩ := hKV.out j hlt2
              have hgk := hg.out j hlt2
              rw [hxy] at hgk
              have hbz : b < wr.heap.size := by have := hB.size; omega
              have q0 := bw_cell hbz ((hB.cell (p := ⟨b, _, none⟩) hb).trans hgk.1)
              have q1 := bw_cell hbz ((hB.cell (p := ⟨b, _, none⟩) hb).trans hgk.2.1)
              have q2 := bw_cell hbz ((hB.cell (p := ⟨b, _, none⟩) hb).trans hgk.2.2)
              have p0 := bw_cell hbz ((hB.cell (p := ⟨b, _, none⟩) hb).trans hg0.1)
              have p1 := bw_cell hbz ((hB.cell (p := ⟨b, _, none⟩) hb).trans hg0.2.1)
              have p2 := bw_cell hbz ((hB.cell (p := ⟨b, _, none⟩) hb).trans hg0.2.2)
              have hT := Lib.hid (fun W => sty_any W x y z hv)
              have ht : Hid (tyK gs j = ((x : Int), onL z (List.range x))) := by show _ = _; unfold tyK; rw [hxy]; simp
              have hyj : Hid ((kAt gs j).2.1 = (y : Int)) := by show _ = _; rw [hxy]
              obtain ⟨u, hu⟩ : ∃ u, onL z (List.range x) = u := ⟨_, rfl⟩
              rw [hu] at hT ht
              have hkl : (j : Int) < (k : Int) := by omega
              have hj0 : (0 : Int) ≤ (j : Int) := by omega
              have hn0 : (0 : Int) < (k : Int) := by omega
              clear hgk hu hxy hv
              by_cases he : tyK gs j = tyK gs 0
              · have hq : ∀ W, (Op.equalIn 10000 36 (.agg #[.int .i64 (x : Int), .int .u32 (u : Int)]) (.agg #[.int .i64 (x0 : Int), .int .u32 (u0 : Int)])).run Try.prog W = .ok true W := fun W => by
                  rw [eqGrK]
                  have he2 := he
                  rw [ht.out, ht0.out] at he2
                  injection he2 with h1 h2
                  subst h2
                  rw [h1]
                  simp
                by_cases hy : (y : Int) = (y0 : Int)
                · have hyq : ((y : Int) != (y0 : Int)) = false := by simp; omega
                  have hs2 : Hid (SameT gs (j + 1) ∧ SameN gs (j + 1)) := ⟨fun i hi => by
                    by_cases e : i = j
                    · rw [e]; exact he
                    · exact hs.out.1 i (by omega), fun i hi => by
                    by_cases e : i = j
                    · rw [e, hyj.out, hy0.out]; exact hy
                    · exact hs.out.2 i (by omega)⟩
                  clear he hs ht hy hyj
                  go_wp2_with fail
                  refine wp_region_below (by kernel_rfl) (by kernel_rfl) ?_
                  iterate 4 (quiet_step (fail))
                  refine wpQuiet_step (fun K hK => ?_)
                  go_simp
                  apply Exists.intro
                  refine ⟨fun p => ?_, hK _ ?_⟩
                  · exact bw_of (w := wr) (p := p) (hT.out p.W)
                  clear hK K
                  iterate 3 (quiet_step (fail))
                  refine wpQuiet_step (fun K hK => ?_)
                  go_simp
                  apply Exists.intro
                  refine ⟨fun p => ?_, hK _ ?_⟩
                  · exact bw_of (w := wr) (p := p) (hT0.out p.W)
                  clear hK K
                  iterate 2 (quiet_step (fail))
                  iterate 12 (quiet_step (fail))
                  iterate 1 (quiet_step (fail))
                  refine wpQuiet_nil ?_
                  intro w3 hw'
                  obtain ⟨⟨wx, hb_w3⟩, rfl⟩ := hw'
                  go_wp2
                  go_roundw
                  case rel => exact ⟨j + 1, by omega, by omega, by go_num, hs2, hB.trans (hb_w3.mono hB.size)⟩
                  case measure => simp [intOf]; omega
                · have hyq : ((y : Int) != (y0 : Int)) = true := by simp; omega
                  obtain rfl : B = false := by
                    rw [Bool.eq_false_iff]
                    intro c
                    have h := (hB0.out.1 c).2 j (by have := hn.out; omega)
                    rw [hyj.out, hy0.out] at h
                    exact hy h
                  clear he hs ht hy hyj hB0
                  go_wp2_with fail
                  refine wp_region_below (by kernel_rfl) (by kernel_rfl) ?_
                  iterate 4 (quiet_step (fail))
                  refine wpQuiet_step (fun K hK => ?_)
                  go_simp
                  apply Exists.intro
                  refine ⟨fun p => ?_, hK _ ?_⟩
                  · exact bw_of (w := wr) (p := p) (hT.out p.W)
                  clear hK K
                  iterate 3 (quiet_step (fail))
                  refine wpQuiet_step (fun K hK => ?_)
                  go_simp
                  apply Exists.intro
                  refine ⟨fun p => ?_, hK _ ?_⟩
                  · exact bw_of (w := wr) (p := p) (hT0.out p.W)
                  clear hK K
                  iterate 2 (quiet_step (fail))
                  iterate 12 (quiet_step (fail))
                  iterate 1 (quiet_step (fail))
                  refine wpQuiet_nil ?_
                  intro w3 hw'
                  obtain ⟨⟨wx, hb_w3⟩, rfl⟩ := hw'
                  go_wp2
                  go_ret
                  exact ⟨rfl, hB.trans (hb_w3.mono hB.size)⟩
              · have hq : ∀ W, (Op.equalIn 10000 36 (.agg #[.int .i64 (x : Int), .int .u32 (u : Int)]) (.agg #[.int .i64 (x0 : Int), .int .u32 (u0 : Int)])).run Try.prog W = .ok false W := fun W => by
                  rw [eqGrK]
                  have he2 := he
                  rw [ht.out, ht0.out] at he2
                  have : ((x : Int) == (x0 : Int) && (u : Int) == (u0 : Int)) = false := by
                    rw [Bool.eq_false_iff]
                    intro h
                    simp at h
                    obtain ⟨h1, h2⟩ := h
                    exact he2 (by rw [show x = x0 by omega, show u = u0 by omega])
                  rw [this]
                obtain rfl : B = false := by
                  rw [Bool.eq_false_iff]
                  intro c
                  exact he ((hB0.out.1 c).1 j (by have := hn.out; omega))
                clear he hs ht hyj hB0
                go_wp2_with fail
                refine wp_region_below (by kernel_rfl) (by kernel_rfl) ?_
                iterate 4 (quiet_step (fail))
                refine wpQuiet_step (fun K hK => ?_)
                go_simp
                apply Exists.intro
                refine ⟨fun p => ?_, hK _ ?_⟩
                · exact bw_of (w := wr) (p := p) (hT.out p.W)
                clear hK K
                iterate 3 (quiet_step (fail))
                refine wpQuiet_step (fun K hK => ?_)
                go_simp
                apply Exists.intro
                refine ⟨fun p => ?_, hK _ ?_⟩
                · exact bw_of (w := wr) (p := p) (hT0.out p.W)
                clear hK K
                iterate 2 (quiet_step (fail))
                iterate 12 go_big_quiet_skip
                iterate 1 (quiet_step (fail))
                refine wpQuiet_nil ?_
                intro w3 hw'
                obtain ⟨⟨wx, hb_w3⟩, rfl⟩ := hw'
                go_wp2
                go_ret
                exact ⟨rfl, hB.trans (hb_w3.mono hB.size)⟩
            · obtain rfl : j = k := by omega
              have hd := decide_eq_false (show ¬ ((j : Int) < (j : Int)) by omega)
              obtain rfl : B = true := hB0.out.2 (by rw [← hn.out]; exact hs.out)
              go_wp2
              go_ret
              exact ⟨rfl, hB⟩
    · obtain rfl : n = 0 := by omega
      rw [show (if 0 < 0 ∧ B = true then (0 : Int) else 4) = 4 by simp]
      go_enter Try.func128, Try.ntmps128
      go_wp2
      go_loopw [3] (fun i wr => i = .int .i64 0 ∧ Below w.heap.size w wr) (fun _ _ => 0)
      case atStart => exact ⟨rfl, by (repeat (first | exact Below.refl _ _ | assumption | refine bchain (by assumption) ?_ | refine balloc ?_ _ | apply Below.drew | apply below_drewN | (refine Below.alloc ?_ (by (try simp) <;> omega) _) | (refine Below.setCell ?_ (by (try simp) <;> omega) _)))⟩
      case round =>
        obtain ⟨rfl, hB⟩ := hrel
        go_wp2
        go_ret
        exact ⟨rfl, hB⟩
  · refine ⟨3, ⟨fun c => by omega, fun c => absurd c.2.1 h8⟩, fun w a cap hc => ?_⟩
    obtain ⟨n, hn⟩ : ∃ n, n = gs.length := ⟨_, rfl⟩
    rw [← hn] at hm h8 ⊢
    replace hc := Lib.hid hc
    replace hV := Lib.hid hV
    replace hn := Lib.hid hn
    have hd8 := decide_eq_true (show (8 : Int) < (n : Int) by omega)
    clear hB0
    go_enter Try.func128, Try.ntmps128
    go_wp2
    go_loopw [3] (fun i wr => ∃ k : Nat, k ≤ n ∧ i = .int .i64 k ∧ Below w.heap.size w wr) (fun i _ => n - (intOf i).toNat)
    case atStart => exact ⟨0, by omega, rfl, by (repeat (first | exact Below.refl _ _ | assumption | refine bchain (by assumption) ?_ | refine balloc ?_ _ | apply Below.drew | apply below_drewN | (refine Below.alloc ?_ (by (try simp) <;> omega) _) | (refine Below.setCell ?_ (by (try simp) <;> omega) _)))⟩
    case round =>
      obtain ⟨k, hk, rfl, hB⟩ := hrel
      by_cases hlt : k < n
      · obtain ⟨b, off, rfl, hb, hg⟩ := hc.out k (by have := hn.out; omega)
        have hv : KV gs k := hV.out k (by have := hn.out; omega)
        unfold KV at hv
        obtain ⟨x, y, z, hxy⟩ : ∃ x y z, kAt gs k = (x, y, z) := ⟨_, _, _, rfl⟩
        rw [hxy] at hv
        have s0 : wr.cell? ⟨b, off + k * 3, none⟩ = some (.int .i64 x) := by rw [hB.cell (p := ⟨b, _, none⟩) hb, hg.1, hxy]
        have s1 : wr.cell? ⟨b, off + k * 3 + 1, none⟩ = some (.int .i64 y) := by rw [hB.cell (p := ⟨b, _, none⟩) hb, hg.2.1, hxy]
        have s2 : wr.cell? ⟨b, off + k * 3 + 2, none⟩ = some (.int .u32 z) := by rw [hB.cell (p := ⟨b, _, none⟩) hb, hg.2.2, hxy]
        have hC := Lib.hid (fun W => sok_t W x y z hv)
        have hkn : (k : Int) < (n : Int) := by omega
        have hk0 : (0 : Int) ≤ (k : Int) := by omega
        clear hg hxy hv
        go_wp2_with fail
        refine (hC.out _).mono ?_
        rintro r3 w3 ⟨rfl, hb3⟩
        go_wp2
        go_roundw
        case rel => exact ⟨k + 1, by omega, by go_num, by (repeat (first | exact Below.refl _ _ | assumption | refine bchain (by assumption) ?_ | refine balloc ?_ _ | apply Below.drew | apply below_drewN | (refine Below.alloc ?_ (by (try simp) <;> omega) _) | (refine Below.setCell ?_ (by (try simp) <;> omega) _)))⟩
        case measure => simp [intOf]; omega
      · obtain rfl : k = n := by omega
        have hd := decide_eq_false (show ¬ ((k : Int) < (k : Int)) by omega)
        go_wp2
        go_ret
        exact ⟨rfl, hB⟩
end
end Go.Proofs.Ytfpoekdcedbciaa
