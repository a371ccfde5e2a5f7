/-
  FAMILIES OF FLAGS (one type, one size): the program's words and the model's.
-/
import Derived.Test.YtfpoekdcedbciaaKAv
import Derived.Test.YtfpoekdcedbciaaKSmall
import Derived.Test.YtfpoekdcedbciaaKEq
import Derived.Test.YtfpoekdcedbciaaBw
namespace Go.Proofs.Ytfpoekdcedbciaa
open Go.RowKit
set_option maxRecDepth 100000
def tyK (gs : List (Int × Int × Int)) (i : Nat) : Int × Nat := ((kAt gs i).1, onL (kAt gs i).2.2.toNat (List.range (kAt gs i).1.toNat))
def SameT (gs : List (Int × Int × Int)) (m : Nat) : Prop := ∀ i, i < m → tyK gs i = tyK gs 0
def SameN (gs : List (Int × Int × Int)) (m : Nat) : Prop := ∀ i, i < m → (kAt gs i).2.1 = (kAt gs 0).2.1
/-- a family of flags -/
def FamK (gs : List (Int × Int × Int)) : Prop := AllK gs ∧ gs.length ≤ 8 ∧ 0 < gs.length ∧ SameT gs gs.length ∧ SameN gs gs.length
section
variable (w : World)
theorem isz2_any (k n e : Int) :
    Calls Try.prog 133 #[.agg #[.int .i64 k, .int .i64 n, .int .u32 e]] w fun r w' => r = .returned (.int .i64 n) ∧ Below w.heap.size w w' := by
  go_enter Try.func133, Try.ntmps133
  go_wp2
  go_ret
  exact ⟨rfl, by (repeat (first | exact Below.refl _ _ | assumption | refine bchain (by assumption) ?_ | refine balloc ?_ _ | apply Below.drew | apply below_drewN | (refine Below.alloc ?_ (by (try simp) <;> omega) _) | (refine Below.setCell ?_ (by (try simp) <;> omega) _)))⟩
set_option maxHeartbeats 2000000 in
theorem sft_any (a : Option Addr) (cap : Nat) (gs : List (Int × Int × Int)) (hl : gs.length ≤ 8) (h0 : 0 < gs.length) (hc : LiesK w a gs) (hV : AllK gs) (B : Bool) (hB0 : B = true ↔ SameT gs gs.length) :
    Calls Try.prog 130 #[.slice a gs.length cap, .func (.func 131) #[] #[]] w fun r w' => r = .returned (.bool B) ∧ Below w.heap.size w w' := by
  obtain ⟨b, off, rfl, hb, hg0⟩ := hc 0 h0
  have hg : Hid (∀ i, i < gs.length → KCell w b off (kAt gs i) i) := fun i hi => by
    obtain ⟨b', off', e, _, h⟩ := hc i hi
    cases e
    exact h
  obtain ⟨x0, y0, z0, hq0, hv0⟩ := kv_nat (hV 0 h0)
  have hKV := Lib.hid (fun i (hi : i < gs.length) => kv_nat (hV i hi))
  rw [hq0] at hg0
  unfold KCell at hg0
  rw [Nat.zero_mul, Nat.add_zero] at hg0
  have hT0 := Lib.hid (fun W => ity_any W x0 y0 z0 hv0)
  have ht0 : Hid (tyK gs 0 = ((x0 : Int), onL z0 (List.range x0))) := by show _ = _; unfold tyK; rw [hq0]; simp
  obtain ⟨u0, hu0⟩ : ∃ u, onL z0 (List.range x0) = u := ⟨_, rfl⟩
  rw [hu0] at hT0 ht0
  replace hB0 := Lib.hid hB0
  obtain ⟨n, hn⟩ : ∃ n, gs.length = n := ⟨_, rfl⟩
  rw [hn] at hl h0 hg hKV hB0 ⊢
  clear hc hV hn hu0 hv0 hq0
  go_enter Try.func130, Try.ntmps130
  go_wp2
  go_loopw [6, 9] (fun _ i wr => ∃ k : Nat, k ≤ n ∧ i = .int .i64 k ∧ Hid (SameT gs k) ∧ Below w.heap.size w wr) (fun _ i _ => n - (intOf i).toNat)
  case atStart => exact ⟨0, by omega, rfl, fun j hj => by omega, by (repeat (first | exact Below.refl _ _ | assumption | refine bchain (by assumption) ?_ | refine balloc ?_ _ | apply Below.drew | apply below_drewN | (refine Below.alloc ?_ (by (try simp) <;> omega) _) | (refine Below.setCell ?_ (by (try simp) <;> omega) _)))⟩
  case round =>
    obtain ⟨k, hk, rfl, hs, hB⟩ := hrel
    by_cases hlt : k < n
    · obtain ⟨x, y, z, hxy, hv⟩ := hKV.out k hlt
      have hgk := hg.out k hlt
      rw [hxy] at hgk
      have s0 : wr.cell? ⟨b, off + k * 3, none⟩ = some (.int .i64 x) := by rw [hB.cell (p := ⟨b, _, none⟩) hb, hgk.1]
      have s1 : wr.cell? ⟨b, off + k * 3 + 1, none⟩ = some (.int .i64 y) := by rw [hB.cell (p := ⟨b, _, none⟩) hb, hgk.2.1]
      have s2 : wr.cell? ⟨b, off + k * 3 + 2, none⟩ = some (.int .u32 z) := by rw [hB.cell (p := ⟨b, _, none⟩) hb, hgk.2.2]
      have hT := Lib.hid (fun W => ity_any W x y z hv)
      have ht : Hid (tyK gs k = ((x : Int), onL z (List.range x))) := by show _ = _; unfold tyK; rw [hxy]; simp
      obtain ⟨u, hu⟩ : ∃ u, onL z (List.range x) = u := ⟨_, rfl⟩
      rw [hu] at hT ht
      obtain ⟨W1, hW1⟩ : ∃ W1, W1 = wr.alloc (.cells #[.int .i64 x, .int .i64 y, .int .u32 z] 73) := ⟨_, rfl⟩
      have hBW : Below wr.heap.size wr W1 := by rw [hW1]; (repeat (first | exact Below.refl _ _ | assumption | refine bchain (by assumption) ?_ | refine balloc ?_ _ | apply Below.drew | apply below_drewN | (refine Below.alloc ?_ (by (try simp) <;> omega) _) | (refine Below.setCell ?_ (by (try simp) <;> omega) _)))
      have fb : FC W1 wr.heap.size x y z := by rw [hW1]; exact FC.made _ _ _ _ _
      replace hW1 := Lib.hid hW1
      have hbz : b < W1.heap.size := by have := hB.size; have := hBW.size; omega
      have hBB := hB.trans (hBW.mono hB.size)
      have q0 := bw_cell fb.lt fb.c0
      have q1 := bw_cell fb.lt fb.c1
      have q2 := bw_cell fb.lt fb.c2
      have p0 := bw_cell hbz ((hBB.cell (p := ⟨b, _, none⟩) hb).trans hg0.1)
      have p1 := bw_cell hbz ((hBB.cell (p := ⟨b, _, none⟩) hb).trans hg0.2.1)
      have p2 := bw_cell hbz ((hBB.cell (p := ⟨b, _, none⟩) hb).trans hg0.2.2)
      have hkl : (k : Int) < (n : Int) := by omega
      have hk0 : (0 : Int) ≤ (k : Int) := by omega
      have hn0 : (0 : Int) < (n : Int) := by omega
      clear hgk hu hxy hv
      by_cases he : tyK gs k = tyK gs 0
      · have hq : ∀ W, (Op.equalIn 10000 36 (.agg #[.int .i64 (x : Int), .int .u32 (u : Int)]) (.agg #[.int .i64 (x0 : Int), .int .u32 (u0 : Int)])).run Try.prog W = .ok true W := fun W => by
          rw [eqGrK]
          rw [ht.out, ht0.out] at he
          injection he with h1 h2
          subst h2
          rw [h1]
          simp
        have hs2 : Hid (SameT gs (k + 1)) := fun j hj => by
          by_cases e : j = k
          · rw [e]; exact he
          · exact hs.out j (by omega)
        clear he hs ht
        go_wp2_with fail
        rw [← hW1.out]
        refine wp_region_below (by kernel_rfl) (by kernel_rfl) ?_
        iterate 2 (quiet_step (fail))
        refine wpQuiet_step (fun K hK => ?_)
        go_simp
        apply Exists.intro
        refine ⟨fun p => ?_, hK _ ?_⟩
        · exact bw_of (w := W1) (p := p) (hT.out p.W)
        clear hK K
        iterate 4 (quiet_step (fail))
        refine wpQuiet_step (fun K hK => ?_)
        go_simp
        apply Exists.intro
        refine ⟨fun p => ?_, hK _ ?_⟩
        · exact bw_of (w := W1) (p := p) (hT0.out p.W)
        clear hK K
        iterate 1 (quiet_step (fail))
        refine wpQuiet_nil ?_
        intro w3 hw'
        obtain ⟨⟨wx, hb_w3⟩, rfl⟩ := hw'
        go_wp2
        go_roundw
        case rel => exact ⟨k + 1, by omega, by go_num, hs2, hB.trans ((hBW.trans (hb_w3.mono hBW.size)).mono hB.size)⟩
        case measure => simp [intOf]; omega
      · have hq : ∀ W, (Op.equalIn 10000 36 (.agg #[.int .i64 (x : Int), .int .u32 (u : Int)]) (.agg #[.int .i64 (x0 : Int), .int .u32 (u0 : Int)])).run Try.prog W = .ok false W := fun W => by
          rw [eqGrK]
          rw [ht.out, ht0.out] at he
          have : ((x : Int) == (x0 : Int) && (u : Int) == (u0 : Int)) = false := by
            rw [Bool.eq_false_iff]
            intro h
            simp at h
            obtain ⟨h1, h2⟩ := h
            exact he (by rw [show x = x0 by omega, show u = u0 by omega])
          rw [this]
        obtain rfl : B = false := by
          rw [Bool.eq_false_iff]
          intro c
          exact he (hB0.out.1 c k hlt)
        clear he hs ht hB0
        go_wp2_with fail
        rw [← hW1.out]
        refine wp_region_below (by kernel_rfl) (by kernel_rfl) ?_
        iterate 2 (quiet_step (fail))
        refine wpQuiet_step (fun K hK => ?_)
        go_simp
        apply Exists.intro
        refine ⟨fun p => ?_, hK _ ?_⟩
        · exact bw_of (w := W1) (p := p) (hT.out p.W)
        clear hK K
        iterate 4 (quiet_step (fail))
        refine wpQuiet_step (fun K hK => ?_)
        go_simp
        apply Exists.intro
        refine ⟨fun p => ?_, hK _ ?_⟩
        · exact bw_of (w := W1) (p := p) (hT0.out p.W)
        clear hK K
        iterate 1 (quiet_step (fail))
        refine wpQuiet_nil ?_
        intro w3 hw'
        obtain ⟨⟨wx, hb_w3⟩, rfl⟩ := hw'
        go_wp2
        go_ret
        exact ⟨rfl, hB.trans ((hBW.trans (hb_w3.mono hBW.size)).mono hB.size)⟩
    · obtain rfl : k = n := by omega
      have hd := decide_eq_false (show ¬ ((k : Int) < (k : Int)) by omega)
      obtain rfl : B = true := hB0.out.2 hs.out
      go_wp2
      go_ret
      exact ⟨rfl, hB⟩
set_option maxHeartbeats 2000000 in
theorem sfn_any (a : Option Addr) (cap : Nat) (gs : List (Int × Int × Int)) (hl : gs.length ≤ 8) (h0 : 0 < gs.length) (hc : LiesK w a gs) (B : Bool) (hB0 : B = true ↔ SameN gs gs.length) :
    Calls Try.prog 132 #[.slice a gs.length cap, .func (.func 133) #[] #[]] w fun r w' => r = .returned (.bool B) ∧ Below w.heap.size w w' := by
  obtain ⟨b, off, rfl, hb, hg0⟩ := hc 0 h0
  have hg : Hid (∀ i, i < gs.length → KCell w b off (kAt gs i) i) := fun i hi => by
    obtain ⟨b', off', e, _, h⟩ := hc i hi
    cases e
    exact h
  obtain ⟨x0, y0, z0, hq0⟩ : ∃ x y z, kAt gs 0 = (x, y, z) := ⟨_, _, _, rfl⟩
  rw [hq0] at hg0
  unfold KCell at hg0
  rw [Nat.zero_mul, Nat.add_zero] at hg0
  have hT0 := Lib.hid (fun W => isz2_any W x0 y0 z0)
  replace hq0 := Lib.hid hq0
  replace hB0 := Lib.hid hB0
  obtain ⟨n, hn⟩ : ∃ n, gs.length = n := ⟨_, rfl⟩
  rw [hn] at hl h0 hg hB0 ⊢
  clear hc hn
  go_enter Try.func132, Try.ntmps132
  go_wp2
  go_loopw [6, 9] (fun _ i wr => ∃ k : Nat, k ≤ n ∧ i = .int .i64 k ∧ Hid (SameN gs k) ∧ Below w.heap.size w wr) (fun _ i _ => n - (intOf i).toNat)
  case atStart => exact ⟨0, by omega, rfl, fun j hj => by omega, by (repeat (first | exact Below.refl _ _ | assumption | refine bchain (by assumption) ?_ | refine balloc ?_ _ | apply Below.drew | apply below_drewN | (refine Below.alloc ?_ (by (try simp) <;> omega) _) | (refine Below.setCell ?_ (by (try simp) <;> omega) _)))⟩
  case round =>
    obtain ⟨k, hk, rfl, hs, hB⟩ := hrel
    by_cases hlt : k < n
    · obtain ⟨x, y, z, hxy⟩ : ∃ x y z, kAt gs k = (x, y, z) := ⟨_, _, _, rfl⟩
      have hgk := hg.out k hlt
      rw [hxy] at hgk
      have s0 : wr.cell? ⟨b, off + k * 3, none⟩ = some (.int .i64 x) := by rw [hB.cell (p := ⟨b, _, none⟩) hb, hgk.1]
      have s1 : wr.cell? ⟨b, off + k * 3 + 1, none⟩ = some (.int .i64 y) := by rw [hB.cell (p := ⟨b, _, none⟩) hb, hgk.2.1]
      have s2 : wr.cell? ⟨b, off + k * 3 + 2, none⟩ = some (.int .u32 z) := by rw [hB.cell (p := ⟨b, _, none⟩) hb, hgk.2.2]
      have hT := Lib.hid (fun W => isz2_any W x y z)
      have hyk : Hid ((kAt gs k).2.1 = y) := by show _ = _; rw [hxy]
      have hy0 : Hid ((kAt gs 0).2.1 = y0) := by show _ = _; rw [hq0.out]
      obtain ⟨W1, hW1⟩ : ∃ W1, W1 = wr.alloc (.cells #[.int .i64 x, .int .i64 y, .int .u32 z] 73) := ⟨_, rfl⟩
      have hBW : Below wr.heap.size wr W1 := by rw [hW1]; (repeat (first | exact Below.refl _ _ | assumption | refine bchain (by assumption) ?_ | refine balloc ?_ _ | apply Below.drew | apply below_drewN | (refine Below.alloc ?_ (by (try simp) <;> omega) _) | (refine Below.setCell ?_ (by (try simp) <;> omega) _)))
      have fb : FC W1 wr.heap.size x y z := by rw [hW1]; exact FC.made _ _ _ _ _
      replace hW1 := Lib.hid hW1
      have hbz : b < W1.heap.size := by have := hB.size; have := hBW.size; omega
      have hBB := hB.trans (hBW.mono hB.size)
      have q0 := bw_cell fb.lt fb.c0
      have q1 := bw_cell fb.lt fb.c1
      have q2 := bw_cell fb.lt fb.c2
      have p0 := bw_cell hbz ((hBB.cell (p := ⟨b, _, none⟩) hb).trans hg0.1)
      have p1 := bw_cell hbz ((hBB.cell (p := ⟨b, _, none⟩) hb).trans hg0.2.1)
      have p2 := bw_cell hbz ((hBB.cell (p := ⟨b, _, none⟩) hb).trans hg0.2.2)
      have hkl : (k : Int) < (n : Int) := by omega
      have hk0 : (0 : Int) ≤ (k : Int) := by omega
      have hn0 : (0 : Int) < (n : Int) := by omega
      clear hgk hxy
      by_cases he : y = y0
      · have hq : (y != y0) = false := by simp [he]
        have hs2 : Hid (SameN gs (k + 1)) := fun j hj => by
          by_cases e : j = k
          · rw [e, hyk.out, hy0.out]; exact he
          · exact hs.out j (by omega)
        clear he hs hyk
        go_wp2_with fail
        rw [← hW1.out]
        refine wp_region_below (by kernel_rfl) (by kernel_rfl) ?_
        iterate 2 (quiet_step (fail))
        refine wpQuiet_step (fun K hK => ?_)
        go_simp
        apply Exists.intro
        refine ⟨fun p => ?_, hK _ ?_⟩
        · exact bw_of (w := W1) (p := p) (hT.out p.W)
        clear hK K
        iterate 4 (quiet_step (fail))
        refine wpQuiet_step (fun K hK => ?_)
        go_simp
        apply Exists.intro
        refine ⟨fun p => ?_, hK _ ?_⟩
        · exact bw_of (w := W1) (p := p) (hT0.out p.W)
        clear hK K
        iterate 1 (quiet_step (fail))
        refine wpQuiet_nil ?_
        intro w3 hw'
        obtain ⟨⟨wx, hb_w3⟩, rfl⟩ := hw'
        go_wp2
        go_roundw
        case rel => exact ⟨k + 1, by omega, by go_num, hs2, hB.trans ((hBW.trans (hb_w3.mono hBW.size)).mono hB.size)⟩
        case measure => simp [intOf]; omega
      · have hq : (y != y0) = true := by simp [he]
        obtain rfl : B = false := by
          rw [Bool.eq_false_iff]
          intro c
          have := hB0.out.1 c k hlt
          rw [hyk.out, hy0.out] at this
          exact he this
        clear he hs hyk hB0
        go_wp2_with fail
        rw [← hW1.out]
        refine wp_region_below (by kernel_rfl) (by kernel_rfl) ?_
        iterate 2 (quiet_step (fail))
        refine wpQuiet_step (fun K hK => ?_)
        go_simp
        apply Exists.intro
        refine ⟨fun p => ?_, hK _ ?_⟩
        · exact bw_of (w := W1) (p := p) (hT.out p.W)
        clear hK K
        iterate 4 (quiet_step (fail))
        refine wpQuiet_step (fun K hK => ?_)
        go_simp
        apply Exists.intro
        refine ⟨fun p => ?_, hK _ ?_⟩
        · exact bw_of (w := W1) (p := p) (hT0.out p.W)
        clear hK K
        iterate 1 (quiet_step (fail))
        refine wpQuiet_nil ?_
        intro w3 hw'
        obtain ⟨⟨wx, hb_w3⟩, rfl⟩ := hw'
        go_wp2
        go_ret
        exact ⟨rfl, hB.trans ((hBW.trans (hb_w3.mono hBW.size)).mono hB.size)⟩
    · obtain rfl : k = n := by omega
      have hd := decide_eq_false (show ¬ ((k : Int) < (k : Int)) by omega)
      obtain rfl : B = true := hB0.out.2 hs.out
      go_wp2
      go_ret
      exact ⟨rfl, hB⟩
end
end Go.Proofs.Ytfpoekdcedbciaa
