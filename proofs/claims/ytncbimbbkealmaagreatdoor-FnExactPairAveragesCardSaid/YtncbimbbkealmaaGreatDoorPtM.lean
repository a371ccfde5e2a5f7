/-
  KFm, KFd, FrT, PtA, PtB, PtS, PtC, in one text.
-/
import Derived.Test.YtncbimbbkealmaaGreatDoorKAv
import Derived.Test.YtncbimbbkealmaaGreatDoorKSmall
import Derived.Test.YtncbimbbkealmaaGreatDoorKEq
import Derived.Test.YtncbimbbkealmaaGreatDoorBw
import Derived.Deep.OwnRows
import Derived.Lib.Hide
import Derived.StillTailTactics
import Derived.Test.YtncbimbbkealmaaGreatDoorFrO
import Derived.Test.YtncbimbbkealmaaGreatDoorFrame
import Derived.Deep.RegionHeld3
import Derived.Deep.DeepCutAuto
import Derived.BigQuiet
import Derived.OwnWalk
import Derived.Lib.SmallJoins
import Derived.Test.YtncbimbbkealmaaGreatDoorJdM
import Derived.Test.YtncbimbbkealmaaGreatDoorRiR
import Derived.OwnWalkIn
/-
  FAMILIES OF FLAGS (one type, one size): the program's words and the model's.
-/
namespace Go.Proofs.YtncbimbbkealmaaGreatDoor
open Go.RowKit
set_option maxRecDepth 100000
def tyK (gs : List (Int × Int × Int)) (i : Nat) : Int × Nat := ((kAt gs i).1, onL (kAt gs i).2.2.toNat (List.range (kAt gs i).1.toNat))
def SameT (gs : List (Int × Int × Int)) (m : Nat) : Prop := ∀ i, i < m → tyK gs i = tyK gs 0
def SameN (gs : List (Int × Int × Int)) (m : Nat) : Prop := ∀ i, i < m → (kAt gs i).2.1 = (kAt gs 0).2.1
/-- a family of flags -/
def FamK (gs : List (Int × Int × Int)) : Prop := AllK gs ∧ gs.length ≤ 8 ∧ 0 < gs.length ∧ SameT gs gs.length ∧ SameN gs gs.length
section
variable (w : World)
theorem isz2_any (k n e : Int) :
    Calls Tryz.prog 47 #[.agg #[.int .i64 k, .int .i64 n, .int .u32 e]] w fun r w' => r = .returned (.int .i64 n) ∧ Below w.heap.size w w' := by
  go_enter Tryz.func47, Tryz.ntmps47
  go_wp2
  go_ret
  exact ⟨rfl, by (repeat (first | exact Below.refl _ _ | assumption | refine bchain (by assumption) ?_ | refine balloc ?_ _ | apply Below.drew | apply below_drewN | (refine Below.alloc ?_ (by (try simp) <;> omega) _) | (refine Below.setCell ?_ (by (try simp) <;> omega) _)))⟩
set_option maxHeartbeats 2000000 in
theorem sft_any (a : Option Addr) (cap : Nat) (gs : List (Int × Int × Int)) (hl : gs.length ≤ 8) (h0 : 0 < gs.length) (hc : LiesK w a gs) (hV : AllK gs) (B : Bool) (hB0 : B = true ↔ SameT gs gs.length) :
    Calls Tryz.prog 44 #[.slice a gs.length cap, .func (.func 45) #[] #[]] w fun r w' => r = .returned (.bool B) ∧ Below w.heap.size w w' := by
  obtain ⟨b, off, rfl, hb, hg0⟩ := hc 0 h0
  have hg : Hid (∀ i, i < gs.length → KCell w b off (kAt gs i) i) := fun i hi => by
    obtain ⟨b', off', e, _, h⟩ := hc i hi
    cases e
    exact h
  obtain ⟨x0, y0, z0, hq0, hv0⟩ := kv_nat (hV 0 h0)
  have hKV := Lib.hid (fun i (hi : i < gs.length) => kv_nat (hV i hi))
  rw [hq0] at hg0
  unfold KCell at hg0
  rw [Nat.zero_mul, Nat.add_zero] at hg0
  have hT0 := Lib.hid (fun W => ity_any W x0 y0 z0 hv0)
  have ht0 : Hid (tyK gs 0 = ((x0 : Int), onL z0 (List.range x0))) := by show _ = _; unfold tyK; rw [hq0]; simp
  obtain ⟨u0, hu0⟩ : ∃ u, onL z0 (List.range x0) = u := ⟨_, rfl⟩
  rw [hu0] at hT0 ht0
  replace hB0 := Lib.hid hB0
  obtain ⟨n, hn⟩ : ∃ n, gs.length = n := ⟨_, rfl⟩
  rw [hn] at hl h0 hg hKV hB0 ⊢
  clear hc hV hn hu0 hv0 hq0
  go_enter Tryz.func44, Tryz.ntmps44
  go_wp2
  go_loopw [6, 9] (fun _ i wr => ∃ k : Nat, k ≤ n ∧ i = .int .i64 k ∧ Hid (SameT gs k) ∧ Below w.heap.size w wr) (fun _ i _ => n - (intOf i).toNat)
  case atStart => exact ⟨0, by omega, rfl, fun j hj => by omega, by (repeat (first | exact Below.refl _ _ | assumption | refine bchain (by assumption) ?_ | refine balloc ?_ _ | apply Below.drew | apply below_drewN | (refine Below.alloc ?_ (by (try simp) <;> omega) _) | (refine Below.setCell ?_ (by (try simp) <;> omega) _)))⟩
  case round =>
    obtain ⟨k, hk, rfl, hs, hB⟩ := hrel
    by_cases hlt : k < n
    · obtain ⟨x, y, z, hxy, hv⟩ := hKV.out k hlt
      have hgk := hg.out k hlt
      rw [hxy] at hgk
      have s0 : wr.cell? ⟨b, off + k * 3, none⟩ = some (.int .i64 x) := by rw [hB.cell (p := ⟨b, _, none⟩) hb, hgk.1]
      have s1 : wr.cell? ⟨b, off + k * 3 + 1, none⟩ = some (.int .i64 y) := by rw [hB.cell (p := ⟨b, _, none⟩) hb, hgk.2.1]
      have s2 : wr.cell? ⟨b, off + k * 3 + 2, none⟩ = some (.int .u32 z) := by rw [hB.cell (p := ⟨b, _, none⟩) hb, hgk.2.2]
      have hT := Lib.hid (fun W => ity_any W x y z hv)
      have ht : Hid (tyK gs k = ((x : Int), onL z (List.range x))) := by show _ = _; unfold tyK; rw [hxy]; simp
      obtain ⟨u, hu⟩ : ∃ u, onL z (List.range x) = u := ⟨_, rfl⟩
      rw [hu] at hT ht
      obtain ⟨W1, hW1⟩ : ∃ W1, W1 = wr.alloc (.cells #[.int .i64 x, .int .i64 y, .int .u32 z] 43) := ⟨_, rfl⟩
      have hBW : Below wr.heap.size wr W1 := by rw [hW1]; (repeat (first | exact Below.refl _ _ | assumption | refine bchain (by assumption) ?_ | refine balloc ?_ _ | apply Below.drew | apply below_drewN | (refine Below.alloc ?_ (by (try simp) <;> omega) _) | (refine Below.setCell ?_ (by (try simp) <;> omega) _)))
      have fb : FC W1 wr.heap.size x y z := by rw [hW1]; exact FC.made _ _ _ _ _
      replace hW1 := Lib.hid hW1
      have hbz : b < W1.heap.size := by have := hB.size; have := hBW.size; omega
      have hBB := hB.trans (hBW.mono hB.size)
      have q0 := bw_cell fb.lt fb.c0
      have q1 := bw_cell fb.lt fb.c1
      have q2 := bw_cell fb.lt fb.c2
      have p0 := bw_cell hbz ((hBB.cell (p := ⟨b, _, none⟩) hb).trans hg0.1)
      have p1 := bw_cell hbz ((hBB.cell (p := ⟨b, _, none⟩) hb).trans hg0.2.1)
      have p2 := bw_cell hbz ((hBB.cell (p := ⟨b, _, none⟩) hb).trans hg0.2.2)
      have hkl : (k : Int) < (n : Int) := by omega
      have hk0 : (0 : Int) ≤ (k : Int) := by omega
      have hn0 : (0 : Int) < (n : Int) := by omega
      clear hgk hu hxy hv
      by_cases he : tyK gs k = tyK gs 0
      · have hq : ∀ W, (Op.equalIn 10000 32 (.agg #[.int .i64 (x : Int), .int .u32 (u : Int)]) (.agg #[.int .i64 (x0 : Int), .int .u32 (u0 : Int)])).run Tryz.prog W = .ok true W := fun W => by
          rw [eqGrK]
          rw [ht.out, ht0.out] at he
          injection he with h1 h2
          subst h2
          rw [h1]
          simp
        have hs2 : Hid (SameT gs (k + 1)) := fun j hj => by
          by_cases e : j = k
          · rw [e]; exact he
          · exact hs.out j (by omega)
        clear he hs ht
        go_wp2_with fail
        rw [← hW1.out]
        refine wp_region_below (by kernel_rfl) (by kernel_rfl) ?_
        iterate 2 (quiet_step (fail))
        refine wpQuiet_step (fun K hK => ?_)
        go_simp
        apply Exists.intro
        refine ⟨fun p => ?_, hK _ ?_⟩
        · exact bw_of (w := W1) (p := p) (hT.out p.W)
        clear hK K
        iterate 4 (quiet_step (fail))
        refine wpQuiet_step (fun K hK => ?_)
        go_simp
        apply Exists.intro
        refine ⟨fun p => ?_, hK _ ?_⟩
        · exact bw_of (w := W1) (p := p) (hT0.out p.W)
        clear hK K
        iterate 1 (quiet_step (fail))
        refine wpQuiet_nil ?_
        intro w3 hw'
        obtain ⟨⟨wx, hb_w3⟩, rfl⟩ := hw'
        go_wp2
        go_roundw
        case rel => exact ⟨k + 1, by omega, by go_num, hs2, hB.trans ((hBW.trans (hb_w3.mono hBW.size)).mono hB.size)⟩
        case measure => simp [intOf]; omega
      · have hq : ∀ W, (Op.equalIn 10000 32 (.agg #[.int .i64 (x : Int), .int .u32 (u : Int)]) (.agg #[.int .i64 (x0 : Int), .int .u32 (u0 : Int)])).run Tryz.prog W = .ok false W := fun W => by
          rw [eqGrK]
          rw [ht.out, ht0.out] at he
          have : ((x : Int) == (x0 : Int) && (u : Int) == (u0 : Int)) = false := by
            rw [Bool.eq_false_iff]
            intro h
            simp at h
            obtain ⟨h1, h2⟩ := h
            exact he (by rw [show x = x0 by omega, show u = u0 by omega])
          rw [this]
        obtain rfl : B = false := by
          rw [Bool.eq_false_iff]
          intro c
          exact he (hB0.out.1 c k hlt)
        clear he hs ht hB0
        go_wp2_with fail
        rw [← hW1.out]
        refine wp_region_below (by kernel_rfl) (by kernel_rfl) ?_
        iterate 2 (quiet_step (fail))
        refine wpQuiet_step (fun K hK => ?_)
        go_simp
        apply Exists.intro
        refine ⟨fun p => ?_, hK _ ?_⟩
        · exact bw_of (w := W1) (p := p) (hT.out p.W)
        clear hK K
        iterate 4 (quiet_step (fail))
        refine wpQuiet_step (fun K hK => ?_)
        go_simp
        apply Exists.intro
        refine ⟨fun p => ?_, hK _ ?_⟩
        · exact bw_of (w := W1) (p := p) (hT0.out p.W)
        clear hK K
        iterate 1 (quiet_step (fail))
        refine wpQuiet_nil ?_
        intro w3 hw'
        obtain ⟨⟨wx, hb_w3⟩, rfl⟩ := hw'
        go_wp2
        go_ret
        exact ⟨rfl, hB.trans ((hBW.trans (hb_w3.mono hBW.size)).mono hB.size)⟩
    · obtain rfl : k = n := by omega
      have hd := decide_eq_false (show ¬ ((k : Int) < (k : Int)) by omega)
      obtain rfl : B = true := hB0.out.2 hs.out
      go_wp2
      go_ret
      exact ⟨rfl, hB⟩
set_option maxHeartbeats 2000000 in
theorem sfn_any (a : Option Addr) (cap : Nat) (gs : List (Int × Int × Int)) (hl : gs.length ≤ 8) (h0 : 0 < gs.length) (hc : LiesK w a gs) (B : Bool) (hB0 : B = true ↔ SameN gs gs.length) :
    Calls Tryz.prog 46 #[.slice a gs.length cap, .func (.func 47) #[] #[]] w fun r w' => r = .returned (.bool B) ∧ Below w.heap.size w w' := by
  obtain ⟨b, off, rfl, hb, hg0⟩ := hc 0 h0
  have hg : Hid (∀ i, i < gs.length → KCell w b off (kAt gs i) i) := fun i hi => by
    obtain ⟨b', off', e, _, h⟩ := hc i hi
    cases e
    exact h
  obtain ⟨x0, y0, z0, hq0⟩ : ∃ x y z, kAt gs 0 = (x, y, z) := ⟨_, _, _, rfl⟩
  rw [hq0] at hg0
  unfold KCell at hg0
  rw [Nat.zero_mul, Nat.add_zero] at hg0
  have hT0 := Lib.hid (fun W => isz2_any W x0 y0 z0)
  replace hq0 := Lib.hid hq0
  replace hB0 := Lib.hid hB0
  obtain ⟨n, hn⟩ : ∃ n, gs.length = n := ⟨_, rfl⟩
  rw [hn] at hl h0 hg hB0 ⊢
  clear hc hn
  go_enter Tryz.func46, Tryz.ntmps46
  go_wp2
  go_loopw [6, 9] (fun _ i wr => ∃ k : Nat, k ≤ n ∧ i = .int .i64 k ∧ Hid (SameN gs k) ∧ Below w.heap.size w wr) (fun _ i _ => n - (intOf i).toNat)
  case atStart => exact ⟨0, by omega, rfl, fun j hj => by omega, by (repeat (first | exact Below.refl _ _ | assumption | refine bchain (by assumption) ?_ | refine balloc ?_ _ | apply Below.drew | apply below_drewN | (refine Below.alloc ?_ (by (try simp) <;> omega) _) | (refine Below.setCell ?_ (by (try simp) <;> omega) _)))⟩
  case round =>
    obtain ⟨k, hk, rfl, hs, hB⟩ := hrel
    by_cases hlt : k < n
    · obtain ⟨x, y, z, hxy⟩ : ∃ x y z, kAt gs k = (x, y, z) := ⟨_, _, _, rfl⟩
      have hgk := hg.out k hlt
      rw [hxy] at hgk
      have s0 : wr.cell? ⟨b, off + k * 3, none⟩ = some (.int .i64 x) := by rw [hB.cell (p := ⟨b, _, none⟩) hb, hgk.1]
      have s1 : wr.cell? ⟨b, off + k * 3 + 1, none⟩ = some (.int .i64 y) := by rw [hB.cell (p := ⟨b, _, none⟩) hb, hgk.2.1]
      have s2 : wr.cell? ⟨b, off + k * 3 + 2, none⟩ = some (.int .u32 z) := by rw [hB.cell (p := ⟨b, _, none⟩) hb, hgk.2.2]
      have hT := Lib.hid (fun W => isz2_any W x y z)
      have hyk : Hid ((kAt gs k).2.1 = y) := by show _ = _; rw [hxy]
      have hy0 : Hid ((kAt gs 0).2.1 = y0) := by show _ = _; rw [hq0.out]
      obtain ⟨W1, hW1⟩ : ∃ W1, W1 = wr.alloc (.cells #[.int .i64 x, .int .i64 y, .int .u32 z] 43) := ⟨_, rfl⟩
      have hBW : Below wr.heap.size wr W1 := by rw [hW1]; (repeat (first | exact Below.refl _ _ | assumption | refine bchain (by assumption) ?_ | refine balloc ?_ _ | apply Below.drew | apply below_drewN | (refine Below.alloc ?_ (by (try simp) <;> omega) _) | (refine Below.setCell ?_ (by (try simp) <;> omega) _)))
      have fb : FC W1 wr.heap.size x y z := by rw [hW1]; exact FC.made _ _ _ _ _
      replace hW1 := Lib.hid hW1
      have hbz : b < W1.heap.size := by have := hB.size; have := hBW.size; omega
      have hBB := hB.trans (hBW.mono hB.size)
      have q0 := bw_cell fb.lt fb.c0
      have q1 := bw_cell fb.lt fb.c1
      have q2 := bw_cell fb.lt fb.c2
      have p0 := bw_cell hbz ((hBB.cell (p := ⟨b, _, none⟩) hb).trans hg0.1)
      have p1 := bw_cell hbz ((hBB.cell (p := ⟨b, _, none⟩) hb).trans hg0.2.1)
      have p2 := bw_cell hbz ((hBB.cell (p := ⟨b, _, none⟩) hb).trans hg0.2.2)
      have hkl : (k : Int) < (n : Int) := by omega
      have hk0 : (0 : Int) ≤ (k : Int) := by omega
      have hn0 : (0 : Int) < (n : Int) := by omega
      clear hgk hxy
      by_cases he : y = y0
      · have hq : (y != y0) = false := by simp [he]
        have hs2 : Hid (SameN gs (k + 1)) := fun j hj => by
          by_cases e : j = k
          · rw [e, hyk.out, hy0.out]; exact he
          · exact hs.out j (by omega)
        clear he hs hyk
        go_wp2_with fail
        rw [← hW1.out]
        refine wp_region_below (by kernel_rfl) (by kernel_rfl) ?_
        iterate 2 (quiet_step (fail))
        refine wpQuiet_step (fun K hK => ?_)
        go_simp
        apply Exists.intro
        refine ⟨fun p => ?_, hK _ ?_⟩
        · exact bw_of (w := W1) (p := p) (hT.out p.W)
        clear hK K
        iterate 4 (quiet_step (fail))
        refine wpQuiet_step (fun K hK => ?_)
        go_simp
        apply Exists.intro
        refine ⟨fun p => ?_, hK _ ?_⟩
        · exact bw_of (w := W1) (p := p) (hT0.out p.W)
        clear hK K
        iterate 1 (quiet_step (fail))
        refine wpQuiet_nil ?_
        intro w3 hw'
        obtain ⟨⟨wx, hb_w3⟩, rfl⟩ := hw'
        go_wp2
        go_roundw
        case rel => exact ⟨k + 1, by omega, by go_num, hs2, hB.trans ((hBW.trans (hb_w3.mono hBW.size)).mono hB.size)⟩
        case measure => simp [intOf]; omega
      · have hq : (y != y0) = true := by simp [he]
        obtain rfl : B = false := by
          rw [Bool.eq_false_iff]
          intro c
          have := hB0.out.1 c k hlt
          rw [hyk.out, hy0.out] at this
          exact he this
        clear he hs hyk hB0
        go_wp2_with fail
        rw [← hW1.out]
        refine wp_region_below (by kernel_rfl) (by kernel_rfl) ?_
        iterate 2 (quiet_step (fail))
        refine wpQuiet_step (fun K hK => ?_)
        go_simp
        apply Exists.intro
        refine ⟨fun p => ?_, hK _ ?_⟩
        · exact bw_of (w := W1) (p := p) (hT.out p.W)
        clear hK K
        iterate 4 (quiet_step (fail))
        refine wpQuiet_step (fun K hK => ?_)
        go_simp
        apply Exists.intro
        refine ⟨fun p => ?_, hK _ ?_⟩
        · exact bw_of (w := W1) (p := p) (hT0.out p.W)
        clear hK K
        iterate 1 (quiet_step (fail))
        refine wpQuiet_nil ?_
        intro w3 hw'
        obtain ⟨⟨wx, hb_w3⟩, rfl⟩ := hw'
        go_wp2
        go_ret
        exact ⟨rfl, hB.trans ((hBW.trans (hb_w3.mono hBW.size)).mono hB.size)⟩
    · obtain rfl : k = n := by omega
      have hd := decide_eq_false (show ¬ ((k : Int) < (k : Int)) by omega)
      obtain rfl : B = true := hB0.out.2 hs.out
      go_wp2
      go_ret
      exact ⟨rfl, hB⟩
end
end Go.Proofs.YtncbimbbkealmaaGreatDoor
/-
  FAMILIES OF FLAGS, the codes told (made by gen_kmo.py of KFc): the program's code of pairs, and the model's code of a family.
-/
namespace Go.Proofs.YtncbimbbkealmaaGreatDoor
open Go.RowKit
set_option maxRecDepth 100000
attribute [local go_sem] Oper.semAt_some
section
variable (w : World)
set_option maxHeartbeats 1000000 in
theorem icpc_any (gs : List (Int × Int × Int)) (hm : gs.length ≤ 1048576) (hV : AllK gs) :
    ∃ c : Int, ((c = 0 ↔ FamK gs) ∧ (c = 3 ↔ 8 < gs.length) ∧ (c = 0 ∨ c = 3 ∨ c = 4)) ∧ ∀ (w : World) (a : Option Addr) (cap : Nat), LiesK w a gs → Calls Tryz.prog 21 #[.slice a gs.length cap] w fun r w' => r = .returned (.int .i64 c) ∧ Below w.heap.size w w' := by
  by_cases h8 : gs.length ≤ 8
  · by_cases h0 : 0 < gs.length
    · obtain ⟨B1, hB1⟩ : ∃ B : Bool, (B = true ↔ SameT gs gs.length) := ⟨@decide (SameT gs gs.length) (Classical.propDecidable _), by simp⟩
      obtain ⟨B2, hB2⟩ : ∃ B : Bool, (B = true ↔ SameN gs gs.length) := ⟨@decide (SameN gs gs.length) (Classical.propDecidable _), by simp⟩
      refine ⟨if B1 && B2 then 0 else 4, ⟨?_, ⟨fun c => by split at c <;> omega, fun c => by omega⟩, by split <;> omega⟩, fun w a cap hc => ?_⟩
      · unfold FamK
        cases hb1 : B1 with
        | false =>
          simp
          intro _ _ _ hs
          have := hB1.2 hs
          rw [hb1] at this
          cases this
        | true =>
          cases hb2 : B2 with
          | false =>
            simp
            intro _ _ _ _ hs
            have := hB2.2 hs
            rw [hb2] at this
            cases this
          | true =>
            simp
            exact ⟨hV, h8, h0, hB1.1 hb1, hB2.1 hb2⟩
      have h1 := Lib.hid (fun W (hb : Below w.heap.size w W) => sft_any W a cap gs h8 h0 (hc.below hb) hV B1 hB1)
      have h2 := Lib.hid (fun W (hb : Below w.heap.size w W) => sfn_any W a cap gs h8 h0 (hc.below hb) B2 hB2)
      obtain ⟨n, hn⟩ : ∃ n, gs.length = n := ⟨_, rfl⟩
      rw [hn] at h8 h0 h1 h2 ⊢
      clear hn hB1 hB2 hc hV hm
      have hd8 := decide_eq_false (show ¬ (8 : Int) < (n : Int) by omega)
      have hd0 : ((n : Int) == 0) = false := by simp; omega
      cases B1 with
      | false =>
        go_enter Tryz.func21, Tryz.ntmps21
        go_wp2_with fail
        refine (h1.out _ (by (repeat (first | exact Below.refl _ _ | assumption | refine bchain (by assumption) ?_ | refine balloc ?_ _ | apply Below.drew | apply below_drewN | (refine Below.alloc ?_ (by (try simp) <;> omega) _) | (refine Below.setCell ?_ (by (try simp) <;> omega) _))))).mono ?_
        rintro r1 w1 ⟨rfl, hb1⟩
        go_wp2
        go_ret
        exact ⟨rfl, by (repeat (first | exact Below.refl _ _ | assumption | refine bchain (by assumption) ?_ | refine balloc ?_ _ | apply Below.drew | apply below_drewN | (refine Below.alloc ?_ (by (try simp) <;> omega) _) | (refine Below.setCell ?_ (by (try simp) <;> omega) _)))⟩
      | true =>
        cases B2 with
        | false =>
          go_enter Tryz.func21, Tryz.ntmps21
          go_wp2_with fail
          refine (h1.out _ (by (repeat (first | exact Below.refl _ _ | assumption | refine bchain (by assumption) ?_ | refine balloc ?_ _ | apply Below.drew | apply below_drewN | (refine Below.alloc ?_ (by (try simp) <;> omega) _) | (refine Below.setCell ?_ (by (try simp) <;> omega) _))))).mono ?_
          rintro r1 w1 ⟨rfl, hb1⟩
          go_wp2_with fail
          refine (h2.out _ (by (repeat (first | exact Below.refl _ _ | assumption | refine bchain (by assumption) ?_ | refine balloc ?_ _ | apply Below.drew | apply below_drewN | (refine Below.alloc ?_ (by (try simp) <;> omega) _) | (refine Below.setCell ?_ (by (try simp) <;> omega) _))))).mono ?_
          rintro r2 w2 ⟨rfl, hb2⟩
          go_wp2
          go_ret
          exact ⟨rfl, by (repeat (first | exact Below.refl _ _ | assumption | refine bchain (by assumption) ?_ | refine balloc ?_ _ | apply Below.drew | apply below_drewN | (refine Below.alloc ?_ (by (try simp) <;> omega) _) | (refine Below.setCell ?_ (by (try simp) <;> omega) _)))⟩
        | true =>
          go_enter Tryz.func21, Tryz.ntmps21
          go_wp2_with fail
          refine (h1.out _ (by (repeat (first | exact Below.refl _ _ | assumption | refine bchain (by assumption) ?_ | refine balloc ?_ _ | apply Below.drew | apply below_drewN | (refine Below.alloc ?_ (by (try simp) <;> omega) _) | (refine Below.setCell ?_ (by (try simp) <;> omega) _))))).mono ?_
          rintro r1 w1 ⟨rfl, hb1⟩
          go_wp2_with fail
          refine (h2.out _ (by (repeat (first | exact Below.refl _ _ | assumption | refine bchain (by assumption) ?_ | refine balloc ?_ _ | apply Below.drew | apply below_drewN | (refine Below.alloc ?_ (by (try simp) <;> omega) _) | (refine Below.setCell ?_ (by (try simp) <;> omega) _))))).mono ?_
          rintro r2 w2 ⟨rfl, hb2⟩
          go_wp2
          go_ret
          exact ⟨rfl, by (repeat (first | exact Below.refl _ _ | assumption | refine bchain (by assumption) ?_ | refine balloc ?_ _ | apply Below.drew | apply below_drewN | (refine Below.alloc ?_ (by (try simp) <;> omega) _) | (refine Below.setCell ?_ (by (try simp) <;> omega) _)))⟩
    · refine ⟨4, ⟨⟨fun c => by omega, fun c => absurd c.2.2.1 h0⟩, ⟨fun c => by omega, fun c => by omega⟩, by omega⟩, fun w a cap hc => ?_⟩
      rw [show gs.length = 0 by omega]
      clear hc hV hm h8 h0
      go_enter Tryz.func21, Tryz.ntmps21
      go_wp2
      go_ret
      exact ⟨rfl, by (repeat (first | exact Below.refl _ _ | assumption | refine bchain (by assumption) ?_ | refine balloc ?_ _ | apply Below.drew | apply below_drewN | (refine Below.alloc ?_ (by (try simp) <;> omega) _) | (refine Below.setCell ?_ (by (try simp) <;> omega) _)))⟩
  · refine ⟨3, ⟨⟨fun c => by omega, fun c => absurd c.2.1 h8⟩, ⟨fun c => by omega, fun c => rfl⟩, by omega⟩, fun w a cap hc => ?_⟩
    obtain ⟨n, hn⟩ : ∃ n, gs.length = n := ⟨_, rfl⟩
    rw [hn] at h8 hm ⊢
    have hd8 := decide_eq_true (show (8 : Int) < (n : Int) by omega)
    clear hn hc hV
    go_enter Tryz.func21, Tryz.ntmps21
    go_wp2
    go_ret
    exact ⟨rfl, by (repeat (first | exact Below.refl _ _ | assumption | refine bchain (by assumption) ?_ | refine balloc ?_ _ | apply Below.drew | apply below_drewN | (refine Below.alloc ?_ (by (try simp) <;> omega) _) | (refine Below.setCell ?_ (by (try simp) <;> omega) _)))⟩
set_option maxHeartbeats 1000000 in
theorem sfam_bad (a : Option Addr) (cap : Nat) (gs : List (Int × Int × Int)) (hm : gs.length ≤ 1048576) (hc : LiesK w a gs) (hbd : BdK gs) (m : Nat) (hm2 : m < gs.length) (hV : ∀ k, k < m → KV gs k) (hbad : ¬ KV gs m) :
    Calls Tryz.prog 15 #[.slice a gs.length cap] w fun r w' => r = .returned (.int .i64 1) ∧ Below w.heap.size w w' := by
  obtain ⟨n, hn⟩ : ∃ n, n = gs.length := ⟨_, rfl⟩
  rw [← hn] at hm hm2 ⊢
  replace hc := Lib.hid hc
  replace hV := Lib.hid hV
  replace hbd := Lib.hid hbd
  replace hn := Lib.hid hn
  replace hbad := Lib.hid hbad
  go_enter Tryz.func15, Tryz.ntmps15
  go_wp2
  go_loopw [3] (fun i wr => ∃ k : Nat, k ≤ m ∧ i = .int .i64 k ∧ Below w.heap.size w wr) (fun i _ => n - (intOf i).toNat)
  case atStart => exact ⟨0, by omega, rfl, by (repeat (first | exact Below.refl _ _ | assumption | refine bchain (by assumption) ?_ | refine balloc ?_ _ | apply Below.drew | apply below_drewN | (refine Below.alloc ?_ (by (try simp) <;> omega) _) | (refine Below.setCell ?_ (by (try simp) <;> omega) _)))⟩
  case round =>
    obtain ⟨k, hk, rfl, hB⟩ := hrel
    obtain ⟨b, off, rfl, hb, hg⟩ := hc.out k (by have := hn.out; omega)
    obtain ⟨x, y, z, hxy⟩ : ∃ x y z, kAt gs k = (x, y, z) := ⟨_, _, _, rfl⟩
    have s0 : wr.cell? ⟨b, off + k * 3, none⟩ = some (.int .i64 x) := by rw [hB.cell (p := ⟨b, _, none⟩) hb, hg.1, hxy]
    have s1 : wr.cell? ⟨b, off + k * 3 + 1, none⟩ = some (.int .i64 y) := by rw [hB.cell (p := ⟨b, _, none⟩) hb, hg.2.1, hxy]
    have s2 : wr.cell? ⟨b, off + k * 3 + 2, none⟩ = some (.int .u32 z) := by rw [hB.cell (p := ⟨b, _, none⟩) hb, hg.2.2, hxy]
    have hkn : (k : Int) < (n : Int) := by omega
    have hk0 : (0 : Int) ≤ (k : Int) := by omega
    by_cases hlt : k < m
    · have hv : KV gs k := hV.out k hlt
      unfold KV at hv
      rw [hxy] at hv
      have hC := Lib.hid (fun W => sok_t W x y z hv)
      clear hg hxy hv
      go_wp2_with fail
      refine (hC.out _).mono ?_
      rintro r3 w3 ⟨rfl, hb3⟩
      go_wp2
      go_roundw
      case rel => exact ⟨k + 1, by omega, by go_num, by (repeat (first | exact Below.refl _ _ | assumption | refine bchain (by assumption) ?_ | refine balloc ?_ _ | apply Below.drew | apply below_drewN | (refine Below.alloc ?_ (by (try simp) <;> omega) _) | (refine Below.setCell ?_ (by (try simp) <;> omega) _)))⟩
      case measure => simp [intOf]; omega
    · obtain rfl : k = m := by omega
      have hv := hbad.out
      have hbk := hbd.out k (by have := hn.out; omega)
      unfold KV at hv
      rw [hxy] at hv hbk
      have hC := Lib.hid (fun W => sok_f W x y z hbk.2 hbk.1 hv)
      clear hg hxy hv hbk
      go_wp2_with fail
      refine (hC.out _).mono ?_
      rintro r3 w3 ⟨rfl, hb3⟩
      go_wp2
      go_ret
      exact ⟨rfl, by (repeat (first | exact Below.refl _ _ | assumption | refine bchain (by assumption) ?_ | refine balloc ?_ _ | apply Below.drew | apply below_drewN | (refine Below.alloc ?_ (by (try simp) <;> omega) _) | (refine Below.setCell ?_ (by (try simp) <;> omega) _)))⟩
set_option maxHeartbeats 4000000 in
theorem sfamc_any (gs : List (Int × Int × Int)) (hm : gs.length ≤ 1048576) (hV : AllK gs) :
    ∃ c : Int, ((c = 0 ↔ FamK gs) ∧ (c = 3 ↔ 8 < gs.length) ∧ (c = 0 ∨ c = 3 ∨ c = 4)) ∧ ∀ (w : World) (a : Option Addr) (cap : Nat), LiesK w a gs → Calls Tryz.prog 15 #[.slice a gs.length cap] w fun r w' => r = .returned (.int .i64 c) ∧ Below w.heap.size w w' := by
  obtain ⟨B, hB0⟩ : ∃ B : Bool, (B = true ↔ (SameT gs gs.length ∧ SameN gs gs.length)) := ⟨@decide (SameT gs gs.length ∧ SameN gs gs.length) (Classical.propDecidable _), by simp⟩
  by_cases h8 : gs.length ≤ 8
  · refine ⟨if 0 < gs.length ∧ B = true then 0 else 4, ⟨?_, ⟨fun c => by split at c <;> omega, fun c => by omega⟩, by split <;> omega⟩, fun w a cap hc => ?_⟩
    · unfold FamK
      by_cases h0 : 0 < gs.length
      · cases hb : B with
        | false =>
          simp
          intro _ _ _ h1 h2
          have := hB0.2 ⟨h1, h2⟩
          rw [hb] at this
          cases this
        | true =>
          rw [if_pos ⟨h0, rfl⟩]
          have := hB0.1 hb
          exact ⟨fun _ => ⟨hV, h8, h0, this.1, this.2⟩, fun _ => rfl⟩
      · rw [if_neg (fun h => h0 h.1)]
        exact ⟨fun c => by omega, fun c => absurd c.2.2.1 h0⟩
    obtain ⟨n, hn⟩ : ∃ n, n = gs.length := ⟨_, rfl⟩
    replace hB0 := Lib.hid hB0
    rw [← hn] at hm h8 ⊢
    replace hc := Lib.hid hc
    replace hV := Lib.hid hV
    replace hn := Lib.hid hn
    have hd8 := decide_eq_false (show ¬ (8 : Int) < (n : Int) by omega)
    by_cases h0 : 0 < n
    · have hd0 : ((n : Int) == 0) = false := by simp; omega
      rw [show (if 0 < n ∧ B = true then (0 : Int) else 4) = (if B = true then 0 else 4) by simp [h0]]
      go_enter Tryz.func15, Tryz.ntmps15
      go_wp2
      go_loopw [3] (fun i wr => ∃ k : Nat, k ≤ n ∧ i = .int .i64 k ∧ Below w.heap.size w wr) (fun i _ => n - (intOf i).toNat)
      case atStart => exact ⟨0, by omega, rfl, by (repeat (first | exact Below.refl _ _ | assumption | refine bchain (by assumption) ?_ | refine balloc ?_ _ | apply Below.drew | apply below_drewN | (refine Below.alloc ?_ (by (try simp) <;> omega) _) | (refine Below.setCell ?_ (by (try simp) <;> omega) _)))⟩
      case round =>
        obtain ⟨k, hk, rfl, hB⟩ := hrel
        by_cases hlt : k < n
        · obtain ⟨b, off, rfl, hb, hg⟩ := hc.out k (by have := hn.out; omega)
          have hv : KV gs k := hV.out k (by have := hn.out; omega)
          unfold KV at hv
          obtain ⟨x, y, z, hxy⟩ : ∃ x y z, kAt gs k = (x, y, z) := ⟨_, _, _, rfl⟩
          rw [hxy] at hv
          have s0 : wr.cell? ⟨b, off + k * 3, none⟩ = some (.int .i64 x) := by rw [hB.cell (p := ⟨b, _, none⟩) hb, hg.1, hxy]
          have s1 : wr.cell? ⟨b, off + k * 3 + 1, none⟩ = some (.int .i64 y) := by rw [hB.cell (p := ⟨b, _, none⟩) hb, hg.2.1, hxy]
          have s2 : wr.cell? ⟨b, off + k * 3 + 2, none⟩ = some (.int .u32 z) := by rw [hB.cell (p := ⟨b, _, none⟩) hb, hg.2.2, hxy]
          have hC := Lib.hid (fun W => sok_t W x y z hv)
          have hkn : (k : Int) < (n : Int) := by omega
          have hk0 : (0 : Int) ≤ (k : Int) := by omega
          clear hg hxy hv
          go_wp2_with fail
          refine (hC.out _).mono ?_
          rintro r3 w3 ⟨rfl, hb3⟩
          go_wp2
          go_roundw
          case rel => exact ⟨k + 1, by omega, by go_num, by (repeat (first | exact Below.refl _ _ | assumption | refine bchain (by assumption) ?_ | refine balloc ?_ _ | apply Below.drew | apply below_drewN | (refine Below.alloc ?_ (by (try simp) <;> omega) _) | (refine Below.setCell ?_ (by (try simp) <;> omega) _)))⟩
          case measure => simp [intOf]; omega
        · obtain rfl : k = n := by omega
          have hd := decide_eq_false (show ¬ ((k : Int) < (k : Int)) by omega)
          rename World => V
          clear hd
          obtain ⟨b, off, rfl, hb, hg0⟩ := hc.out 0 (by have := hn.out; omega)
          have hg : Hid (∀ i, i < k → KCell w b off (kAt gs i) i) := fun i hi => by
            obtain ⟨b', off', e, _, h⟩ := hc.out i (by have := hn.out; omega)
            cases e
            exact h
          obtain ⟨x0, y0, z0, hq0, hv0⟩ := kv_nat (hV.out 0 (by have := hn.out; omega))
          have hKV := Lib.hid (fun i (hi : i < k) => kv_nat (hV.out i (by have := hn.out; omega)))
          rw [hq0] at hg0
          unfold KCell at hg0
          rw [Nat.zero_mul, Nat.add_zero] at hg0
          have hT0 := Lib.hid (fun W => sty_any W x0 y0 z0 hv0)
          have ht0 : Hid (tyK gs 0 = ((x0 : Int), onL z0 (List.range x0))) := by show _ = _; unfold tyK; rw [hq0]; simp
          have hy0 : Hid ((kAt gs 0).2.1 = (y0 : Int)) := by show _ = _; rw [hq0]
          obtain ⟨u0, hu0⟩ : ∃ u, onL z0 (List.range x0) = u := ⟨_, rfl⟩
          rw [hu0] at hT0 ht0
          clear hc hV hu0 hv0 hq0
          go_wp2
          go_loopw [4] (fun i wr => ∃ j : Nat, 1 ≤ j ∧ j ≤ k ∧ i = .int .i64 j ∧ Hid (SameT gs j ∧ SameN gs j) ∧ Below w.heap.size w wr) (fun i _ => k - (intOf i).toNat)
          case atStart => exact ⟨1, by omega, by omega, rfl, ⟨fun i hi => by rw [show i = 0 by omega], fun i hi => by rw [show i = 0 by omega]⟩, hB⟩
          case round =>
            clear hB
            obtain ⟨j, hj1, hj, rfl, hs, hB⟩ := hrel
            by_cases hlt2 : j < k
            · obtain ⟨x, y, z, hxy, hv⟩ := hKV.out j hlt2
              have hgk := hg.out j hlt2
              rw [hxy] at hgk
              have hbz : b < wr.heap.size := by have := hB.size; omega
              have q0 := bw_cell hbz ((hB.cell (p := ⟨b, _, none⟩) hb).trans hgk.1)
              have q1 := bw_cell hbz ((hB.cell (p := ⟨b, _, none⟩) hb).trans hgk.2.1)
              have q2 := bw_cell hbz ((hB.cell (p := ⟨b, _, none⟩) hb).trans hgk.2.2)
              have p0 := bw_cell hbz ((hB.cell (p := ⟨b, _, none⟩) hb).trans hg0.1)
              have p1 := bw_cell hbz ((hB.cell (p := ⟨b, _, none⟩) hb).trans hg0.2.1)
              have p2 := bw_cell hbz ((hB.cell (p := ⟨b, _, none⟩) hb).trans hg0.2.2)
              have hT := Lib.hid (fun W => sty_any W x y z hv)
              have ht : Hid (tyK gs j = ((x : Int), onL z (List.range x))) := by show _ = _; unfold tyK; rw [hxy]; simp
              have hyj : Hid ((kAt gs j).2.1 = (y : Int)) := by show _ = _; rw [hxy]
              obtain ⟨u, hu⟩ : ∃ u, onL z (List.range x) = u := ⟨_, rfl⟩
              rw [hu] at hT ht
              have hkl : (j : Int) < (k : Int) := by omega
              have hj0 : (0 : Int) ≤ (j : Int) := by omega
              have hn0 : (0 : Int) < (k : Int) := by omega
              clear hgk hu hxy hv
              by_cases he : tyK gs j = tyK gs 0
              · have hq : ∀ W, (Op.equalIn 10000 32 (.agg #[.int .i64 (x : Int), .int .u32 (u : Int)]) (.agg #[.int .i64 (x0 : Int), .int .u32 (u0 : Int)])).run Tryz.prog W = .ok true W := fun W => by
                  rw [eqGrK]
                  have he2 := he
                  rw [ht.out, ht0.out] at he2
                  injection he2 with h1 h2
                  subst h2
                  rw [h1]
                  simp
                by_cases hy : (y : Int) = (y0 : Int)
                · have hyq : ((y : Int) != (y0 : Int)) = false := by simp; omega
                  have hs2 : Hid (SameT gs (j + 1) ∧ SameN gs (j + 1)) := ⟨fun i hi => by
                    by_cases e : i = j
                    · rw [e]; exact he
                    · exact hs.out.1 i (by omega), fun i hi => by
                    by_cases e : i = j
                    · rw [e, hyj.out, hy0.out]; exact hy
                    · exact hs.out.2 i (by omega)⟩
                  clear he hs ht hy hyj
                  go_wp2_with fail
                  refine wp_region_below (by kernel_rfl) (by kernel_rfl) ?_
                  iterate 4 (quiet_step (fail))
                  refine wpQuiet_step (fun K hK => ?_)
                  go_simp
                  apply Exists.intro
                  refine ⟨fun p => ?_, hK _ ?_⟩
                  · exact bw_of (w := wr) (p := p) (hT.out p.W)
                  clear hK K
                  iterate 3 (quiet_step (fail))
                  refine wpQuiet_step (fun K hK => ?_)
                  go_simp
                  apply Exists.intro
                  refine ⟨fun p => ?_, hK _ ?_⟩
                  · exact bw_of (w := wr) (p := p) (hT0.out p.W)
                  clear hK K
                  iterate 2 (quiet_step (fail))
                  iterate 12 (quiet_step (fail))
                  iterate 1 (quiet_step (fail))
                  refine wpQuiet_nil ?_
                  intro w3 hw'
                  obtain ⟨⟨wx, hb_w3⟩, rfl⟩ := hw'
                  go_wp2
                  go_roundw
                  case rel => exact ⟨j + 1, by omega, by omega, by go_num, hs2, hB.trans (hb_w3.mono hB.size)⟩
                  case measure => simp [intOf]; omega
                · have hyq : ((y : Int) != (y0 : Int)) = true := by simp; omega
                  obtain rfl : B = false := by
                    rw [Bool.eq_false_iff]
                    intro c
                    have h := (hB0.out.1 c).2 j (by have := hn.out; omega)
                    rw [hyj.out, hy0.out] at h
                    exact hy h
                  clear he hs ht hy hyj hB0
                  go_wp2_with fail
                  refine wp_region_below (by kernel_rfl) (by kernel_rfl) ?_
                  iterate 4 (quiet_step (fail))
                  refine wpQuiet_step (fun K hK => ?_)
                  go_simp
                  apply Exists.intro
                  refine ⟨fun p => ?_, hK _ ?_⟩
                  · exact bw_of (w := wr) (p := p) (hT.out p.W)
                  clear hK K
                  iterate 3 (quiet_step (fail))
                  refine wpQuiet_step (fun K hK => ?_)
                  go_simp
                  apply Exists.intro
                  refine ⟨fun p => ?_, hK _ ?_⟩
                  · exact bw_of (w := wr) (p := p) (hT0.out p.W)
                  clear hK K
                  iterate 2 (quiet_step (fail))
                  iterate 12 (quiet_step (fail))
                  iterate 1 (quiet_step (fail))
                  refine wpQuiet_nil ?_
                  intro w3 hw'
                  obtain ⟨⟨wx, hb_w3⟩, rfl⟩ := hw'
                  go_wp2
                  go_ret
                  exact ⟨rfl, hB.trans (hb_w3.mono hB.size)⟩
              · have hq : ∀ W, (Op.equalIn 10000 32 (.agg #[.int .i64 (x : Int), .int .u32 (u : Int)]) (.agg #[.int .i64 (x0 : Int), .int .u32 (u0 : Int)])).run Tryz.prog W = .ok false W := fun W => by
                  rw [eqGrK]
                  have he2 := he
                  rw [ht.out, ht0.out] at he2
                  have : ((x : Int) == (x0 : Int) && (u : Int) == (u0 : Int)) = false := by
                    rw [Bool.eq_false_iff]
                    intro h
                    simp at h
                    obtain ⟨h1, h2⟩ := h
                    exact he2 (by rw [show x = x0 by omega, show u = u0 by omega])
                  rw [this]
                obtain rfl : B = false := by
                  rw [Bool.eq_false_iff]
                  intro c
                  exact he ((hB0.out.1 c).1 j (by have := hn.out; omega))
                clear he hs ht hyj hB0
                go_wp2_with fail
                refine wp_region_below (by kernel_rfl) (by kernel_rfl) ?_
                iterate 4 (quiet_step (fail))
                refine wpQuiet_step (fun K hK => ?_)
                go_simp
                apply Exists.intro
                refine ⟨fun p => ?_, hK _ ?_⟩
                · exact bw_of (w := wr) (p := p) (hT.out p.W)
                clear hK K
                iterate 3 (quiet_step (fail))
                refine wpQuiet_step (fun K hK => ?_)
                go_simp
                apply Exists.intro
                refine ⟨fun p => ?_, hK _ ?_⟩
                · exact bw_of (w := wr) (p := p) (hT0.out p.W)
                clear hK K
                iterate 2 (quiet_step (fail))
                iterate 12 go_big_quiet_skip
                iterate 1 (quiet_step (fail))
                refine wpQuiet_nil ?_
                intro w3 hw'
                obtain ⟨⟨wx, hb_w3⟩, rfl⟩ := hw'
                go_wp2
                go_ret
                exact ⟨rfl, hB.trans (hb_w3.mono hB.size)⟩
            · obtain rfl : j = k := by omega
              have hd := decide_eq_false (show ¬ ((j : Int) < (j : Int)) by omega)
              obtain rfl : B = true := hB0.out.2 (by rw [← hn.out]; exact hs.out)
              go_wp2
              go_ret
              exact ⟨rfl, hB⟩
    · obtain rfl : n = 0 := by omega
      rw [show (if 0 < 0 ∧ B = true then (0 : Int) else 4) = 4 by simp]
      go_enter Tryz.func15, Tryz.ntmps15
      go_wp2
      go_loopw [3] (fun i wr => i = .int .i64 0 ∧ Below w.heap.size w wr) (fun _ _ => 0)
      case atStart => exact ⟨rfl, by (repeat (first | exact Below.refl _ _ | assumption | refine bchain (by assumption) ?_ | refine balloc ?_ _ | apply Below.drew | apply below_drewN | (refine Below.alloc ?_ (by (try simp) <;> omega) _) | (refine Below.setCell ?_ (by (try simp) <;> omega) _)))⟩
      case round =>
        obtain ⟨rfl, hB⟩ := hrel
        go_wp2
        go_ret
        exact ⟨rfl, hB⟩
  · refine ⟨3, ⟨⟨fun c => by omega, fun c => absurd c.2.1 h8⟩, ⟨fun c => by omega, fun c => rfl⟩, by omega⟩, fun w a cap hc => ?_⟩
    obtain ⟨n, hn⟩ : ∃ n, n = gs.length := ⟨_, rfl⟩
    rw [← hn] at hm h8 ⊢
    replace hc := Lib.hid hc
    replace hV := Lib.hid hV
    replace hn := Lib.hid hn
    have hd8 := decide_eq_true (show (8 : Int) < (n : Int) by omega)
    clear hB0
    go_enter Tryz.func15, Tryz.ntmps15
    go_wp2
    go_loopw [3] (fun i wr => ∃ k : Nat, k ≤ n ∧ i = .int .i64 k ∧ Below w.heap.size w wr) (fun i _ => n - (intOf i).toNat)
    case atStart => exact ⟨0, by omega, rfl, by (repeat (first | exact Below.refl _ _ | assumption | refine bchain (by assumption) ?_ | refine balloc ?_ _ | apply Below.drew | apply below_drewN | (refine Below.alloc ?_ (by (try simp) <;> omega) _) | (refine Below.setCell ?_ (by (try simp) <;> omega) _)))⟩
    case round =>
      obtain ⟨k, hk, rfl, hB⟩ := hrel
      by_cases hlt : k < n
      · obtain ⟨b, off, rfl, hb, hg⟩ := hc.out k (by have := hn.out; omega)
        have hv : KV gs k := hV.out k (by have := hn.out; omega)
        unfold KV at hv
        obtain ⟨x, y, z, hxy⟩ : ∃ x y z, kAt gs k = (x, y, z) := ⟨_, _, _, rfl⟩
        rw [hxy] at hv
        have s0 : wr.cell? ⟨b, off + k * 3, none⟩ = some (.int .i64 x) := by rw [hB.cell (p := ⟨b, _, none⟩) hb, hg.1, hxy]
        have s1 : wr.cell? ⟨b, off + k * 3 + 1, none⟩ = some (.int .i64 y) := by rw [hB.cell (p := ⟨b, _, none⟩) hb, hg.2.1, hxy]
        have s2 : wr.cell? ⟨b, off + k * 3 + 2, none⟩ = some (.int .u32 z) := by rw [hB.cell (p := ⟨b, _, none⟩) hb, hg.2.2, hxy]
        have hC := Lib.hid (fun W => sok_t W x y z hv)
        have hkn : (k : Int) < (n : Int) := by omega
        have hk0 : (0 : Int) ≤ (k : Int) := by omega
        clear hg hxy hv
        go_wp2_with fail
        refine (hC.out _).mono ?_
        rintro r3 w3 ⟨rfl, hb3⟩
        go_wp2
        go_roundw
        case rel => exact ⟨k + 1, by omega, by go_num, by (repeat (first | exact Below.refl _ _ | assumption | refine bchain (by assumption) ?_ | refine balloc ?_ _ | apply Below.drew | apply below_drewN | (refine Below.alloc ?_ (by (try simp) <;> omega) _) | (refine Below.setCell ?_ (by (try simp) <;> omega) _)))⟩
        case measure => simp [intOf]; omega
      · obtain rfl : k = n := by omega
        have hd := decide_eq_false (show ¬ ((k : Int) < (k : Int)) by omega)
        go_wp2
        go_ret
        exact ⟨rfl, hB⟩
end
end Go.Proofs.YtncbimbbkealmaaGreatDoor
/-
  MATRICES of fractions: what the program makes, what a law holds against another, what marks it bears. (made by gen_frt.py of Ms FMark FMatO ME FMR)
-/
namespace Go.Proofs.YtncbimbbkealmaaGreatDoor.Fr
open Go.RowKit
set_option maxRecDepth 100000

def gAt (gs : List (Int × Int)) (i : Nat) : Int × Int := gs[i]?.getD (0, 0)
/-- two cells of a block that hold the graph at i -/
def GCell (w : World) (b off : Nat) (g : Int × Int) (i : Nat) : Prop := w.cell? ⟨b, off + i * 2, none⟩ = some (.int .i64 g.1) ∧ w.cell? ⟨b, off + i * 2 + 1, none⟩ = some (.int .i64 g.2)
def SlG (w : World) (v : Value) (gs : List (Int × Int)) : Prop :=
  ∃ (a : Option Addr) (cap : Nat), v = .slice a gs.length cap ∧ gs.length ≤ cap ∧ cap ≤ 9223372036854775807 ∧
    (gs ≠ [] → ∃ b off, a = some ⟨b, off, none⟩ ∧ b < w.heap.size ∧ ∀ i, i < gs.length → GCell w b off (gAt gs i) i)
theorem SlG.below {w w' : World} {v : Value} {gs : List (Int × Int)} (h : SlG w v gs) (hb : Below w.heap.size w w') : SlG w' v gs := by
  obtain ⟨a, cap, e, h1, h2, h3⟩ := h
  refine ⟨a, cap, e, h1, h2, fun hz => ?_⟩
  obtain ⟨b, off, e2, hlt, hc⟩ := h3 hz
  exact ⟨b, off, e2, Nat.lt_of_lt_of_le hlt hb.size, fun i hi => ⟨(hb.cell (p := ⟨b, _, none⟩) hlt).trans (hc i hi).1, (hb.cell (p := ⟨b, _, none⟩) hlt).trans (hc i hi).2⟩⟩
/-- a block that holds the first k of gs, zeros behind -/
def HalfG (w : World) (B k : Nat) (gs : List (Int × Int)) : Prop := ∀ i, i < gs.length → GCell w B 0 (if i < k then gAt gs i else (0, 0)) i
theorem HalfG.set {w : World} {B k : Nat} {gs : List (Int × Int)} (h : HalfG w B k gs) (hk : k < gs.length) : HalfG ((w.setCell ⟨B, k * 2, none⟩ (.int .i64 (gAt gs k).1)).setCell ⟨B, k * 2 + 1, none⟩ (.int .i64 (gAt gs k).2)) B (k + 1) gs := by
  intro i hi
  have hi2 := h i hi
  unfold GCell at hi2 ⊢
  rw [Nat.zero_add] at hi2 ⊢
  by_cases e : i = k
  · subst e
    rw [if_pos (by omega)]
    exact ⟨(World.cell?_setCell_other _ _ _ _ (by simp)).trans (World.cell?_setCell_same _ _ _ hi2.1), World.cell?_setCell_same _ _ _ ((World.cell?_setCell_other _ _ _ _ (by simp)).trans hi2.2)⟩
  · rw [show (if i < k + 1 then gAt gs i else (0, 0)) = (if i < k then gAt gs i else (0, 0)) by
      by_cases c : i < k
      · rw [if_pos c, if_pos (by omega)]
      · rw [if_neg c, if_neg (by omega)]]
    exact ⟨(World.cell?_setCell_other _ _ _ _ (by simp <;> omega)).trans ((World.cell?_setCell_other _ _ _ _ (by simp <;> omega)).trans hi2.1), (World.cell?_setCell_other _ _ _ _ (by simp <;> omega)).trans ((World.cell?_setCell_other _ _ _ _ (by simp <;> omega)).trans hi2.2)⟩
theorem HalfG.below {w w' : World} {B k : Nat} {gs : List (Int × Int)} (h : HalfG w B k gs) (hb : Below w.heap.size w w') (hB : B < w.heap.size) : HalfG w' B k gs :=
  fun i hi => ⟨(hb.cell (p := ⟨B, _, none⟩) hB).trans (h i hi).1, (hb.cell (p := ⟨B, _, none⟩) hB).trans (h i hi).2⟩
theorem HalfG.done {w : World} {B cap : Nat} {gs : List (Int × Int)} (h : HalfG w B gs.length gs) (hB : B < w.heap.size) (hc : gs.length ≤ cap) (hm : cap ≤ 9223372036854775807) : SlG w (.slice (some ⟨B, 0, none⟩) gs.length cap) gs :=
  ⟨_, _, rfl, hc, hm, fun _ => ⟨B, 0, rfl, hB, fun i hi => by have := h i hi; rw [if_pos hi] at this; exact this⟩⟩
theorem info_graph : (Tryz.prog.info? 51).map (fun i => (i.zero, i.size, i.bytes)) = some (some (.agg #[.int .i64 0, .int .i64 0]), 2, 16) := by kernel_rfl
theorem madeG (w : World) (n B : Nat) (e : TypeId) (gs : List (Int × Int)) (hB : B = w.heap.size) (hn : gs.length = n) : HalfG (w.alloc (.cells (madeCells #[.int .i64 0, .int .i64 0] (n * 2)) e)) B 0 gs := by
  intro i hi
  subst hB
  unfold GCell
  rw [World.cell?_alloc_new, World.cell?_alloc_new, Nat.zero_add, if_neg (by omega)]
  have h1 : i * 2 < n * 2 := by omega
  have h2 : i * 2 + 1 < n * 2 := by omega
  constructor
  · simp [madeCells, h1]
  · simp [madeCells, h2]
section
variable (w : World)
theorem eqGs_empty (a a' : Option Addr) (cap cap' : Nat) :
    Calls Tryz.prog 26 #[.slice a 0 cap, .slice a' 0 cap'] w fun r w' => r = .returned (.bool true) ∧ Below w.heap.size w w' := by
  go_enter Tryz.func26, Tryz.ntmps26
  go_wp2
  go_loopw [5] (fun i wr => i = .int .i64 0 ∧ Below w.heap.size w wr) (fun _ _ => 0)
  case atStart => exact ⟨rfl, by (repeat (first | exact Below.refl _ _ | assumption | refine bchain (by assumption) ?_ | refine balloc ?_ _ | apply Below.drew | apply below_drewN | (refine Below.alloc ?_ (by (try simp) <;> omega) _) | (refine Below.setCell ?_ (by (try simp) <;> omega) _)))⟩
  case round =>
    obtain ⟨rfl, hb⟩ := hrel
    go_wp2
    go_ret
    exact ⟨rfl, hb⟩
set_option maxHeartbeats 1000000 in
theorem eqGs_some (b off cap b' off' cap' : Nat) (gs : List (Int × Int)) (h1 : 0 < gs.length) (hm : gs.length ≤ 1048576) (hb : b < w.heap.size) (hb' : b' < w.heap.size)
    (hc : ∀ i, i < gs.length → GCell w b off (gAt gs i) i) (hc' : ∀ i, i < gs.length → GCell w b' off' (gAt gs i) i) :
    Calls Tryz.prog 26 #[.slice (some ⟨b, off, none⟩) gs.length cap, .slice (some ⟨b', off', none⟩) gs.length cap'] w fun r w' => r = .returned (.bool true) ∧ Below w.heap.size w w' := by
  obtain ⟨n, hn⟩ : ∃ n, n = gs.length := ⟨_, rfl⟩
  rw [← hn] at h1 hm ⊢
  replace hn := Lib.hid hn
  replace hc := Lib.hid hc
  replace hc' := Lib.hid hc'
  go_enter Tryz.func26, Tryz.ntmps26
  go_wp2
  go_loopw [5] (fun i wr => ∃ k : Nat, k ≤ n ∧ i = .int .i64 k ∧ Below w.heap.size w wr) (fun i _ => n - (intOf i).toNat)
  case atStart => exact ⟨0, by omega, rfl, by (repeat (first | exact Below.refl _ _ | assumption | refine bchain (by assumption) ?_ | refine balloc ?_ _ | apply Below.drew | apply below_drewN | (refine Below.alloc ?_ (by (try simp) <;> omega) _) | (refine Below.setCell ?_ (by (try simp) <;> omega) _)))⟩
  case round =>
    obtain ⟨k, hk, rfl, hB⟩ := hrel
    by_cases hlt : k < n
    · have hg := hc.out k (by have := hn.out; omega)
      have hg' := hc'.out k (by have := hn.out; omega)
      obtain ⟨x, y, hxy⟩ : ∃ x y, gAt gs k = (x, y) := ⟨_, _, rfl⟩
      have s0 : wr.cell? ⟨b, off + k * 2, none⟩ = some (.int .i64 x) := by rw [hB.cell (p := ⟨b, _, none⟩) hb, hg.1, hxy]
      have s1 : wr.cell? ⟨b, off + k * 2 + 1, none⟩ = some (.int .i64 y) := by rw [hB.cell (p := ⟨b, _, none⟩) hb, hg.2, hxy]
      have t0 : wr.cell? ⟨b', off' + k * 2, none⟩ = some (.int .i64 x) := by rw [hB.cell (p := ⟨b', _, none⟩) hb', hg'.1, hxy]
      have t1 : wr.cell? ⟨b', off' + k * 2 + 1, none⟩ = some (.int .i64 y) := by rw [hB.cell (p := ⟨b', _, none⟩) hb', hg'.2, hxy]
      have hE := Lib.hid (eqF_any wr.drew x y)
      have hk1 : (k : Int) < (n : Int) := by omega
      clear hg hg' hxy
      go_wp2
      go_still_tail 8, (by kernel_rfl)
      change wpList _ _ _ _ _ wr.drew
      go_wp2_with (go_at_call 56; refine (hE.out).mono ?_; rintro r3 w3 ⟨rfl, hb3⟩)
      go_roundw
      case rel => exact ⟨k + 1, by omega, by go_num, by (repeat (first | exact Below.refl _ _ | assumption | refine bchain (by assumption) ?_ | refine balloc ?_ _ | apply Below.drew | apply below_drewN | (refine Below.alloc ?_ (by (try simp) <;> omega) _) | (refine Below.setCell ?_ (by (try simp) <;> omega) _)))⟩
      case measure => simp [intOf]; omega
    · have hd := decide_eq_false (show ¬ ((k : Int) < (n : Int)) by omega)
      go_wp2
      go_ret
      exact ⟨rfl, hB⟩
theorem eqGs_any (u v : Value) (gs : List (Int × Int)) (h : SlG w u gs) (h' : SlG w v gs) (hm : gs.length ≤ 1048576) :
    Calls Tryz.prog 26 #[u, v] w fun r w' => r = .returned (.bool true) ∧ Below w.heap.size w w' := by
  obtain ⟨a, cap, rfl, h1, h2, h3⟩ := h
  obtain ⟨a', cap', rfl, h1', h2', h3'⟩ := h'
  cases gs with
  | nil => exact eqGs_empty w a a' cap cap'
  | cons z zs =>
    obtain ⟨b, off, rfl, hb, hc⟩ := h3 (by simp)
    obtain ⟨b', off', rfl, hb', hc'⟩ := h3' (by simp)
    exact eqGs_some w b off cap b' off' cap' (z :: zs) (by simp) hm hb hb' hc hc'
end
end Go.Proofs.YtncbimbbkealmaaGreatDoor.Fr
namespace Go.Proofs.YtncbimbbkealmaaGreatDoor.Fr
open Go.RowKit
set_option maxRecDepth 100000

def rAt (m : List (List (Int × Int))) (i : Nat) : List (Int × Int) := m[i]?.getD []
def Row (w : World) (b off : Nat) (r : List (Int × Int)) (i : Nat) : Prop := ∃ u, w.cell? ⟨b, off + i, none⟩ = some u ∧ SlG w u r
theorem Row.below {w w' : World} {b off i : Nat} {r : List (Int × Int)} (h : Row w b off r i) (hb : Below w.heap.size w w') : Row w' b off r i := by
  obtain ⟨u, hc, hS⟩ := h
  exact ⟨u, (hb.cell (p := ⟨b, _, none⟩) (World.block_lt_of_cell? w _ hc)).trans hc, hS.below hb⟩
def SlM (w : World) (v : Value) (m : List (List (Int × Int))) : Prop :=
  ∃ (a : Option Addr) (cap : Nat), v = .slice a m.length cap ∧ m.length ≤ cap ∧ cap ≤ 9223372036854775807 ∧
    (m ≠ [] → ∃ b off, a = some ⟨b, off, none⟩ ∧ b < w.heap.size ∧ ∀ i, i < m.length → Row w b off (rAt m i) i)
theorem SlM.below {w w' : World} {v : Value} {m : List (List (Int × Int))} (h : SlM w v m) (hb : Below w.heap.size w w') : SlM w' v m := by
  obtain ⟨a, cap, e, h1, h2, h3⟩ := h
  refine ⟨a, cap, e, h1, h2, fun hz => ?_⟩
  obtain ⟨b, off, e2, hlt, hc⟩ := h3 hz
  exact ⟨b, off, e2, Nat.lt_of_lt_of_le hlt hb.size, fun i hi => (hc i hi).below hb⟩
/-- how many fractions the first k rows have -/
def tot (m : List (List (Int × Int))) : Nat → Nat | 0 => 0 | k + 1 => tot m k + (rAt m k).length
theorem tot_mono (m : List (List (Int × Int))) {k n : Nat} (h : k ≤ n) : tot m k ≤ tot m n := by
  induction n with
  | zero => obtain rfl : k = 0 := by omega
            exact Nat.le_refl _
  | succ n ih =>
    by_cases e : k = n + 1
    · rw [e]; exact Nat.le_refl _
    · have := ih (by omega)
      rw [tot]
      omega
theorem row_le (m : List (List (Int × Int))) {k n : Nat} (h : k < n) : (rAt m k).length ≤ tot m n := by
  have := tot_mono m (show k + 1 ≤ n from h)
  rw [tot] at this
  omega
/-- a block that holds the first k rows, nothing behind -/
def HalfM (w : World) (B k : Nat) (m : List (List (Int × Int))) : Prop := ∀ i, i < m.length → if i < k then Row w B 0 (rAt m i) i else w.cell? ⟨B, i, none⟩ = some (.slice none 0 0)
theorem HalfM.below {w w' : World} {B k : Nat} {m : List (List (Int × Int))} (h : HalfM w B k m) (hb : Below w.heap.size w w') (hB : B < w.heap.size) : HalfM w' B k m := by
  intro i hi
  have := h i hi
  split
  · rename_i c
    rw [if_pos c] at this
    exact this.below hb
  · rename_i c
    rw [if_neg c] at this
    exact (hb.cell (p := ⟨B, i, none⟩) hB).trans this
/-- a list of fractions is as it was behind a store into a cell that holds a list -/
theorem SlG.setCell {w : World} {u : Value} {r : List (Int × Int)} {B o : Nat} {x : Value} {a0 : Option Addr} {l0 c0 : Nat} (h : SlG w u r) (hc0 : w.cell? ⟨B, o, none⟩ = some (.slice a0 l0 c0)) : SlG (w.setCell ⟨B, o, none⟩ x) u r := by
  obtain ⟨a, cap, e, h1, h2, h3⟩ := h
  refine ⟨a, cap, e, h1, h2, fun hz => ?_⟩
  obtain ⟨b, off, e2, hlt, hc⟩ := h3 hz
  refine ⟨b, off, e2, by simpa using hlt, fun i hi => ?_⟩
  have hi2 := hc i hi
  have hne : ∀ j (n : Int), w.cell? ⟨b, j, none⟩ = some (.int .i64 n) → (w.setCell ⟨B, o, none⟩ x).cell? ⟨b, j, none⟩ = some (.int .i64 n) := fun j n hj => by
    refine (World.cell?_setCell_other _ _ _ _ ?_).trans hj
    intro he
    rw [← he, hc0] at hj
    cases hj
  exact ⟨hne _ _ hi2.1, hne _ _ hi2.2⟩
theorem HalfM.set {w : World} {B k : Nat} {m : List (List (Int × Int))} {u : Value} (h : HalfM w B k m) (hk : k < m.length) (hu : SlG w u (rAt m k)) : HalfM (w.setCell ⟨B, k, none⟩ u) B (k + 1) m := by
  have hck := h k hk
  rw [if_neg (by omega)] at hck
  intro i hi
  have hi2 := h i hi
  by_cases e : i = k
  · subst e
    rw [if_pos (by omega)]
    refine ⟨u, ?_, hu.setCell hck⟩
    rw [Nat.zero_add]
    exact World.cell?_setCell_same _ _ _ hck
  · by_cases c : i < k
    · rw [if_pos c] at hi2
      rw [if_pos (by omega)]
      obtain ⟨v, hv, hS⟩ := hi2
      rw [Nat.zero_add] at hv
      refine ⟨v, ?_, hS.setCell hck⟩
      rw [Nat.zero_add]
      exact (World.cell?_setCell_other _ _ _ _ (by simp <;> omega)).trans hv
    · rw [if_neg c] at hi2
      rw [if_neg (by omega)]
      exact (World.cell?_setCell_other _ _ _ _ (by simp <;> omega)).trans hi2
theorem HalfM.done {w : World} {B cap : Nat} {m : List (List (Int × Int))} (h : HalfM w B m.length m) (hB : B < w.heap.size) (hc : m.length ≤ cap) (hm : cap ≤ 9223372036854775807) : SlM w (.slice (some ⟨B, 0, none⟩) m.length cap) m :=
  ⟨_, _, rfl, hc, hm, fun _ => ⟨B, 0, rfl, hB, fun i hi => by have := h i hi; rw [if_pos hi] at this; exact this⟩⟩
theorem info_row : (Tryz.prog.info? 57).map (fun i => (i.zero, i.size, i.bytes)) = some (some (.slice none 0 0), 1, 24) := by kernel_rfl
theorem madeM (w : World) (n B : Nat) (e : TypeId) (m : List (List (Int × Int))) (hB : B = w.heap.size) (hn : m.length = n) : HalfM (w.alloc (.cells (madeCells #[.slice none 0 0] (n * 1)) e)) B 0 m := by
  intro i hi
  subst hB
  rw [World.cell?_alloc_new, if_neg (by omega)]
  have h1 : i < n := by omega
  simp [madeCells, h1, Nat.mod_one]
section
variable (w : World)
theorem eqMs_empty (a a' : Option Addr) (cap cap' : Nat) :
    Calls Tryz.prog 9 #[.slice a 0 cap, .slice a' 0 cap'] w fun r w' => r = .returned (.bool true) ∧ Below w.heap.size w w' := by
  go_enter Tryz.func9, Tryz.ntmps9
  go_wp2
  go_loopw [5] (fun i wr => i = .int .i64 0 ∧ Below w.heap.size w wr) (fun _ _ => 0)
  case atStart => exact ⟨rfl, by (repeat (first | exact Below.refl _ _ | assumption | refine bchain (by assumption) ?_ | refine balloc ?_ _ | apply Below.drew | apply below_drewN | (refine Below.alloc ?_ (by (try simp) <;> omega) _) | (refine Below.setCell ?_ (by (try simp) <;> omega) _)))⟩
  case round =>
    obtain ⟨rfl, hb⟩ := hrel
    go_wp2
    go_ret
    exact ⟨rfl, hb⟩
set_option maxHeartbeats 1000000 in
theorem eqMs_some (b off cap b' off' cap' : Nat) (m : List (List (Int × Int))) (h1 : 0 < m.length) (hm : m.length ≤ 1048576) (hr : ∀ i, i < m.length → (rAt m i).length ≤ 1048576) (hb : b < w.heap.size) (hb' : b' < w.heap.size)
    (hc : ∀ i, i < m.length → Row w b off (rAt m i) i) (hc' : ∀ i, i < m.length → Row w b' off' (rAt m i) i) :
    Calls Tryz.prog 9 #[.slice (some ⟨b, off, none⟩) m.length cap, .slice (some ⟨b', off', none⟩) m.length cap'] w fun r w' => r = .returned (.bool true) ∧ Below w.heap.size w w' := by
  obtain ⟨n, hn⟩ : ∃ n, n = m.length := ⟨_, rfl⟩
  rw [← hn] at h1 hm hr ⊢
  replace hn := Lib.hid hn
  replace hc := Lib.hid hc
  replace hc' := Lib.hid hc'
  replace hr := Lib.hid hr
  go_enter Tryz.func9, Tryz.ntmps9
  go_wp2
  go_loopw [5] (fun i wr => ∃ k : Nat, k ≤ n ∧ i = .int .i64 k ∧ Below w.heap.size w wr) (fun i _ => n - (intOf i).toNat)
  case atStart => exact ⟨0, by omega, rfl, by (repeat (first | exact Below.refl _ _ | assumption | refine bchain (by assumption) ?_ | refine balloc ?_ _ | apply Below.drew | apply below_drewN | (refine Below.alloc ?_ (by (try simp) <;> omega) _) | (refine Below.setCell ?_ (by (try simp) <;> omega) _)))⟩
  case round =>
    obtain ⟨k, hk, rfl, hB⟩ := hrel
    by_cases hlt : k < n
    · obtain ⟨u, hu, hSu⟩ := hc.out k (by have := hn.out; omega)
      obtain ⟨u', hu', hSu'⟩ := hc'.out k (by have := hn.out; omega)
      have s0 : wr.cell? ⟨b, off + k, none⟩ = some u := (hB.cell (p := ⟨b, _, none⟩) hb).trans hu
      have s1 : wr.cell? ⟨b', off' + k, none⟩ = some u' := (hB.cell (p := ⟨b', _, none⟩) hb').trans hu'
      have hE := Lib.hid (eqGs_any wr.drew u u' (rAt m k) ((hSu.below hB).below (by (repeat (first | exact Below.refl _ _ | assumption | refine bchain (by assumption) ?_ | refine balloc ?_ _ | apply Below.drew | apply below_drewN | (refine Below.alloc ?_ (by (try simp) <;> omega) _) | (refine Below.setCell ?_ (by (try simp) <;> omega) _))))) ((hSu'.below hB).below (by (repeat (first | exact Below.refl _ _ | assumption | refine bchain (by assumption) ?_ | refine balloc ?_ _ | apply Below.drew | apply below_drewN | (refine Below.alloc ?_ (by (try simp) <;> omega) _) | (refine Below.setCell ?_ (by (try simp) <;> omega) _))))) (hr.out k hlt))
      obtain ⟨a2, c2, rfl, _⟩ := hSu
      obtain ⟨a3, c3, rfl, _⟩ := hSu'
      obtain ⟨l, hl2⟩ : ∃ l, (rAt m k).length = l := ⟨_, rfl⟩
      rw [hl2] at hE s0 s1
      have hk1 : (k : Int) < (n : Int) := by omega
      clear hu hu' hl2
      go_wp2
      go_still_tail 8, (by kernel_rfl)
      change wpList _ _ _ _ _ wr.drew
      go_wp2_with (go_at_call 26; refine (hE.out).mono ?_; rintro r3 w3 ⟨rfl, hb3⟩)
      go_roundw
      case rel => exact ⟨k + 1, by omega, by go_num, by (repeat (first | exact Below.refl _ _ | assumption | refine bchain (by assumption) ?_ | refine balloc ?_ _ | apply Below.drew | apply below_drewN | (refine Below.alloc ?_ (by (try simp) <;> omega) _) | (refine Below.setCell ?_ (by (try simp) <;> omega) _)))⟩
      case measure => simp [intOf]; omega
    · have hd := decide_eq_false (show ¬ ((k : Int) < (n : Int)) by omega)
      go_wp2
      go_ret
      exact ⟨rfl, hB⟩
theorem eqMs_any (u v : Value) (m : List (List (Int × Int))) (h : SlM w u m) (h' : SlM w v m) (hm : m.length ≤ 1048576) (hr : ∀ i, i < m.length → (rAt m i).length ≤ 1048576) :
    Calls Tryz.prog 9 #[u, v] w fun r w' => r = .returned (.bool true) ∧ Below w.heap.size w w' := by
  obtain ⟨a, cap, rfl, h1, h2, h3⟩ := h
  obtain ⟨a', cap', rfl, h1', h2', h3'⟩ := h'
  cases m with
  | nil => exact eqMs_empty w a a' cap cap'
  | cons z zs =>
    obtain ⟨b, off, rfl, hb, hc⟩ := h3 (by simp)
    obtain ⟨b', off', rfl, hb', hc'⟩ := h3' (by simp)
    exact eqMs_some w b off cap b' off' cap' (z :: zs) (by simp) hm hr hb hb' hc hc'
end
end Go.Proofs.YtncbimbbkealmaaGreatDoor.Fr
namespace Go.Proofs.YtncbimbbkealmaaGreatDoor.Fr
open Go.RowKit
set_option maxRecDepth 100000

/-- N cells of a block, by a function -/
def CF (w : World) (B N : Nat) (f : Nat → Int) : Prop := ∀ i, i < N → w.cell? ⟨B, i, none⟩ = some (.int .i64 (f i))
theorem CF.set {w : World} {B l : Nat} {f g : Nat → Int} {k : Nat} {x : Int} (h : CF w B l f) (hk : k < l) (hx : g k = x) (ho : ∀ i, i ≠ k → g i = f i) : CF (w.setCell ⟨B, k, none⟩ (.int .i64 x)) B l g := by
  intro i hi
  by_cases e : i = k
  · subst e
    rw [World.cell?_setCell_same _ _ _ (h i hi), hx]
  · rw [World.cell?_setCell_other _ _ _ _ (by simp), h i hi, ho i e]
theorem CF.below {w w' : World} {B l : Nat} {f : Nat → Int} (h : CF w B l f) (hb : Below w.heap.size w w') (hB : B < w.heap.size) : CF w' B l f := fun i hi => (hb.cell (p := ⟨B, i, none⟩) hB).trans (h i hi)
theorem CF.congr {w : World} {B l : Nat} {f g : Nat → Int} (h : CF w B l f) (hg : ∀ i, i < l → g i = f i) : CF w B l g := fun i hi => by rw [h i hi, hg i hi]
/-- from o on, t cells hold the numbers from k on -/
def mkF (k o t : Nat) (f : Nat → Int) (c : Nat) : Int := if o ≤ c ∧ c < o + t then ((k + (c - o) : Nat) : Int) else f c
theorem mkF_zero (k o : Nat) (f : Nat → Int) (c : Nat) : mkF k o 0 f c = f c := by unfold mkF; rw [if_neg (by omega)]
theorem mkF_out {k o t : Nat} {f : Nat → Int} {c : Nat} (h : o + t ≤ c) : mkF k o t f c = f c := by unfold mkF; rw [if_neg (by omega)]
theorem mkF_new (k o t : Nat) (f : Nat → Int) : mkF k o (t + 1) f (o + t) = (k : Int) + t := by unfold mkF; rw [if_pos (by omega)]; omega
theorem mkF_old (k o t : Nat) (f : Nat → Int) (c : Nat) (h : c ≠ o + t) : mkF k o (t + 1) f c = mkF k o t f c := by
  unfold mkF
  by_cases h1 : o ≤ c ∧ c < o + t
  · rw [if_pos h1, if_pos (by omega)]
  · rw [if_neg h1, if_neg (by omega)]
theorem CF.next {w : World} {B N k o t : Nat} {f : Nat → Int} (h : CF w B N (mkF k o t f)) (ht : o + t < N) {x : Int} (hx : x = (k : Int) + t) : CF (w.setCell ⟨B, o + t, none⟩ (.int .i64 x)) B N (mkF k o (t + 1) f) :=
  h.set ht (by rw [hx]; exact mkF_new k o t f) (fun i hi => mkF_old k o t f i hi)

section
variable (w : World)
set_option maxHeartbeats 1000000 in
theorem markF_row (b0 : Nat) (B o cap l k N : Nat) (f : Nat → Int) (hN : o + l * 2 ≤ N) (hl : N ≤ 1048576) (hk : k ≤ 1048576) (h0 : b0 ≤ B) (hc : CF w B N f) (hf : ∀ c, w.frozen? ⟨B, c, none⟩ = false) :
    Calls Tryz.prog 28 #[.slice (some ⟨B, o, none⟩) l cap, .int .i64 k] w fun r w' => r = .returned (.int .i64 ((k + l * 2 : Nat) : Int)) ∧ Below b0 w w' ∧ CF w' B N (mkF k o (l * 2) f) ∧ (∀ c, w'.frozen? ⟨B, c, none⟩ = false) ∧ (∀ C i, C ≠ B → w'.cell? ⟨C, i, none⟩ = w.cell? ⟨C, i, none⟩) := by
  replace hc := Lib.hid hc
  replace hf := Lib.hid hf
  go_enter Tryz.func28, Tryz.ntmps28
  go_wp2
  go_loopw [1, 5] (fun q i wr => ∃ j : Nat, j ≤ l ∧ q = .int .i64 ((k : Int) + j * 2) ∧ i = .int .i64 j ∧ CF wr B N (mkF k o (j * 2) f) ∧ (∀ c, wr.frozen? ⟨B, c, none⟩ = false) ∧ (∀ C i, C ≠ B → wr.cell? ⟨C, i, none⟩ = w.cell? ⟨C, i, none⟩) ∧ Below b0 w wr) (fun _ i _ => l - (intOf i).toNat)
  case atStart => exact ⟨0, by omega, by simp, rfl, hc.out.congr (fun i hi => mkF_zero _ _ _ _), hf.out, fun _ _ _ => rfl, Below.refl _ _⟩
  case round =>
    obtain ⟨j, hj, rfl, rfl, hC, hF, hO, hb⟩ := hrel
    replace hO := Lib.hid hO
    by_cases hlt : j < l
    · have c0 := hC (o + j * 2) (by omega)
      have c1 := hC (o + j * 2 + 1) (by omega)
      have f0 := hF (o + j * 2)
      have f1 := hF (o + j * 2 + 1)
      rw [mkF_out (by omega)] at c0 c1
      have hn := (hC.next (x := (k : Int) + j * 2) (by omega) (by omega)).next (x := (k : Int) + j * 2 + 1) (by omega) (by omega)
      rw [show j * 2 + 1 + 1 = (j + 1) * 2 by omega, show o + (j * 2 + 1) = o + j * 2 + 1 by omega] at hn
      have hF2 : Hid (∀ c, ((wr.setCell ⟨B, o + j * 2, none⟩ (.int .i64 ((k : Int) + j * 2))).setCell ⟨B, o + j * 2 + 1, none⟩ (.int .i64 ((k : Int) + j * 2 + 1))).frozen? ⟨B, c, none⟩ = false) := fun c => by simp [hF c]
      have hB2 := Lib.hid ((hb.setCell (p := ⟨B, o + j * 2, none⟩) h0 (.int .i64 ((k : Int) + j * 2))).setCell (p := ⟨B, o + j * 2 + 1, none⟩) h0 (.int .i64 ((k : Int) + j * 2 + 1)))
      have hO2 : Hid (∀ C i, C ≠ B → ((wr.setCell ⟨B, o + j * 2, none⟩ (.int .i64 ((k : Int) + j * 2))).setCell ⟨B, o + j * 2 + 1, none⟩ (.int .i64 ((k : Int) + j * 2 + 1))).cell? ⟨C, i, none⟩ = w.cell? ⟨C, i, none⟩) := fun C i h => by
        rw [World.cell?_setCell_other _ _ _ _ (by simp), World.cell?_setCell_other _ _ _ _ (by simp)]
        exact hO.out C i h
      replace hn := Lib.hid hn
      clear hC hF hO
      obtain ⟨z0, hz0⟩ : ∃ z, f (o + j * 2) = z := ⟨_, rfl⟩
      obtain ⟨z1, hz1⟩ : ∃ z, f (o + j * 2 + 1) = z := ⟨_, rfl⟩
      rw [hz0] at c0
      rw [hz1] at c1
      clear hz0 hz1
      have hkj : (k : Int) + j * 2 + 1 ≤ 4194304 := by omega
      go_wp2
      go_roundw
      case rel => exact ⟨j + 1, by omega, by go_num, by go_num, hn.out, hF2.out, hO2.out, hB2.out⟩
      case measure => simp [intOf]; omega
    · obtain rfl : j = l := by omega
      have hdd := decide_eq_false (show ¬ ((j : Int) < (j : Int)) by omega)
      replace hC := Lib.hid hC
      replace hF := Lib.hid hF
      go_wp2
      go_ret
      exact ⟨by go_num, hb, hC.out, hF.out, hO.out⟩
set_option maxHeartbeats 1000000 in
theorem heldF_row (B o cap l k N : Nat) (f : Nat → Int) (hN : o + l * 2 ≤ N) (hl : N ≤ 1048576) (hk : k ≤ 1048576) (hB : B < w.heap.size) (hc : CF w B N f) (hv : ∀ t, t < l * 2 → f (o + t) = (k : Int) + t) :
    Calls Tryz.prog 29 #[.slice (some ⟨B, o, none⟩) l cap, .int .i64 k] w fun r w' => r = .returned (.int .i64 ((k + l * 2 : Nat) : Int)) ∧ Below w.heap.size w w' := by
  replace hc := Lib.hid hc
  replace hv := Lib.hid hv
  go_enter Tryz.func29, Tryz.ntmps29
  go_wp2
  go_loopw [1, 5] (fun q i wr => ∃ j : Nat, j ≤ l ∧ q = .int .i64 ((k : Int) + j * 2) ∧ i = .int .i64 j ∧ Below w.heap.size w wr) (fun _ i _ => l - (intOf i).toNat)
  case atStart => exact ⟨0, by omega, by simp, rfl, Below.refl _ _⟩
  case round =>
    obtain ⟨j, hj, rfl, rfl, hb⟩ := hrel
    by_cases hlt : j < l
    · have c0 : wr.cell? ⟨B, o + j * 2, none⟩ = some (.int .i64 ((k : Int) + j * 2)) := by
        rw [hb.cell (p := ⟨B, o + j * 2, none⟩) hB, hc.out _ (by omega), hv.out _ (by omega)]
        congr 2
      have c1 : wr.cell? ⟨B, o + j * 2 + 1, none⟩ = some (.int .i64 ((k : Int) + j * 2 + 1)) := by
        rw [hb.cell (p := ⟨B, o + j * 2 + 1, none⟩) hB, hc.out _ (by omega), show o + j * 2 + 1 = o + (j * 2 + 1) by omega, hv.out _ (by omega)]
        congr 2
      have hkj : (k : Int) + j * 2 + 1 ≤ 4194304 := by omega
      go_wp2
      go_roundw
      case rel => exact ⟨j + 1, by omega, by go_num, by go_num, by (repeat (first | exact Below.refl _ _ | assumption | refine bchain (by assumption) ?_ | refine balloc ?_ _ | apply Below.drew | apply below_drewN | (refine Below.alloc ?_ (by (try simp) <;> omega) _) | (refine Below.setCell ?_ (by (try simp) <;> omega) _)))⟩
      case measure => simp [intOf]; omega
    · obtain rfl : j = l := by omega
      have hdd := decide_eq_false (show ¬ ((j : Int) < (j : Int)) by omega)
      go_wp2
      go_ret
      exact ⟨by go_num, hb⟩
end
theorem mkF_join (k t s : Nat) (f : Nat → Int) (c : Nat) : mkF k 0 (t + s) f c = mkF (k + t) t s (mkF k 0 t f) c := by
  unfold mkF
  by_cases h1 : c < t
  · rw [if_pos (by omega), if_neg (by omega), if_pos (by omega)]
  · by_cases h2 : c < t + s
    · rw [if_pos (by omega), if_pos (by omega)]; congr 1; omega
    · rw [if_neg (by omega), if_neg (by omega), if_neg (by omega)]
/-- n rows of n fractions, one behind the other in a block -/
def RowsIn (w : World) (A B n : Nat) : Prop := ∀ i, i < n → w.cell? ⟨A, i, none⟩ = some (.slice (some ⟨B, i * n * 2, none⟩) n n)
theorem sq8 {i n : Nat} (hn : n ≤ 8) (hi : i < n) : i * n * 2 + n * 2 ≤ n * n * 2 ∧ n * n ≤ 64 := by
  have h1 : (i + 1) * n ≤ n * n := Nat.mul_le_mul (by omega) (Nat.le_refl n)
  have h2 : n * n ≤ 8 * 8 := Nat.mul_le_mul hn hn
  rw [Nat.add_mul, Nat.one_mul] at h1
  omega
theorem markM_zero (w : World) (a : Option Addr) (cap : Nat) (k : Nat) :
    Calls Tryz.prog 12 #[.slice a 0 cap, .int .i64 k] w fun r w' => r = .returned (.int .i64 (k : Nat)) ∧ Below w.heap.size w w' := by
  go_enter Tryz.func12, Tryz.ntmps12
  go_wp2
  go_loopw [1, 5] (fun q i wr => q = .int .i64 k ∧ i = .int .i64 0 ∧ Below w.heap.size w wr) (fun _ _ _ => 0)
  case atStart => exact ⟨rfl, rfl, by (repeat (first | exact Below.refl _ _ | assumption | refine bchain (by assumption) ?_ | refine balloc ?_ _ | apply Below.drew | apply below_drewN | (refine Below.alloc ?_ (by (try simp) <;> omega) _) | (refine Below.setCell ?_ (by (try simp) <;> omega) _)))⟩
  case round =>
    obtain ⟨rfl, rfl, hb⟩ := hrel
    go_wp2
    go_ret
    exact ⟨rfl, hb⟩
theorem heldM_zero (w : World) (a : Option Addr) (cap : Nat) (k : Nat) :
    Calls Tryz.prog 13 #[.slice a 0 cap, .int .i64 k] w fun r w' => r = .returned (.int .i64 (k : Nat)) ∧ Below w.heap.size w w' := by
  go_enter Tryz.func13, Tryz.ntmps13
  go_wp2
  go_loopw [1, 5] (fun q i wr => q = .int .i64 k ∧ i = .int .i64 0 ∧ Below w.heap.size w wr) (fun _ _ _ => 0)
  case atStart => exact ⟨rfl, rfl, by (repeat (first | exact Below.refl _ _ | assumption | refine bchain (by assumption) ?_ | refine balloc ?_ _ | apply Below.drew | apply below_drewN | (refine Below.alloc ?_ (by (try simp) <;> omega) _) | (refine Below.setCell ?_ (by (try simp) <;> omega) _)))⟩
  case round =>
    obtain ⟨rfl, rfl, hb⟩ := hrel
    go_wp2
    go_ret
    exact ⟨rfl, hb⟩
set_option maxHeartbeats 1000000 in
theorem markM_some (w : World) (b0 A B n k cap : Nat) (f : Nat → Int) (hn : n ≤ 8) (hk : k ≤ 1000) (hAB : A ≠ B) (h0 : b0 ≤ B) (hc : CF w B (n * n * 2) f) (hf : ∀ c, w.frozen? ⟨B, c, none⟩ = false) (hr : RowsIn w A B n) :
    Calls Tryz.prog 12 #[.slice (some ⟨A, 0, none⟩) n cap, .int .i64 k] w fun r w' => r = .returned (.int .i64 ((k + n * n * 2 : Nat) : Int)) ∧ Below b0 w w' ∧ CF w' B (n * n * 2) (mkF k 0 (n * n * 2) f) ∧ (∀ c, w'.frozen? ⟨B, c, none⟩ = false) ∧ RowsIn w' A B n := by
  replace hc := Lib.hid hc
  replace hf := Lib.hid hf
  replace hr := Lib.hid hr
  go_enter Tryz.func12, Tryz.ntmps12
  go_wp2
  go_loopw [1, 5] (fun q i wr => ∃ j : Nat, j ≤ n ∧ q = .int .i64 ((k + j * n * 2 : Nat) : Int) ∧ i = .int .i64 j ∧ CF wr B (n * n * 2) (mkF k 0 (j * n * 2) f) ∧ (∀ c, wr.frozen? ⟨B, c, none⟩ = false) ∧ RowsIn wr A B n ∧ Below b0 w wr) (fun _ i _ => n - (intOf i).toNat)
  case atStart => exact ⟨0, by omega, by simp, rfl, hc.out.congr (fun i hi => by rw [Nat.zero_mul, Nat.zero_mul]; exact mkF_zero _ _ _ _), hf.out, hr.out, Below.refl _ _⟩
  case round =>
    obtain ⟨j, hj, rfl, rfl, hC, hF, hR, hb⟩ := hrel
    by_cases hlt : j < n
    · have c0 := hR j hlt
      obtain ⟨s1, s2⟩ := sq8 hn hlt
      have e1 : (j + 1) * n * 2 = j * n * 2 + n * 2 := by rw [Nat.add_mul, Nat.one_mul, Nat.add_mul]
      obtain ⟨t, ht⟩ : ∃ t, j * n * 2 = t := ⟨_, rfl⟩
      rw [ht] at hC c0 s1 e1 ⊢
      have hM := Lib.hid (markF_row wr b0 B t n n (k + t) (n * n * 2) (mkF k 0 t f) s1 (by omega) (by omega) h0 hC hF)
      replace hR := Lib.hid hR
      replace e1 := Lib.hid e1
      clear hC hF ht
      go_wp2_with fail
      refine hM.out.mono ?_
      rintro r1 w1 ⟨rfl, hb1, hC1, hF1, hO1⟩
      have hR1 := Lib.hid (show RowsIn w1 A B n from fun i hi => (hO1 A i hAB).trans (hR.out i hi))
      have hC2 : CF w1 B (n * n * 2) (mkF k 0 ((j + 1) * n * 2) f) := hC1.congr (fun c _ => by rw [e1.out]; exact mkF_join k t (n * 2) f c)
      replace hC2 := Lib.hid hC2
      replace hF1 := Lib.hid hF1
      have hb2 : Below b0 w w1 := hb.trans hb1
      clear hC1 hO1 hM
      go_wp2
      go_roundw
      case rel => exact ⟨j + 1, by omega, by rw [e1.out]; congr 1; omega, by go_num, hC2.out, hF1.out, hR1.out, hb2⟩
      case measure => simp [intOf]; omega
    · obtain rfl : j = n := by omega
      have hdd := decide_eq_false (show ¬ ((j : Int) < (j : Int)) by omega)
      replace hC := Lib.hid hC
      replace hF := Lib.hid hF
      replace hR := Lib.hid hR
      go_wp2
      go_ret
      exact ⟨rfl, hb, hC.out, hF.out, hR.out⟩
set_option maxHeartbeats 1000000 in
theorem heldM_some (w : World) (A B n k cap : Nat) (f : Nat → Int) (hn : n ≤ 8) (hk : k ≤ 1000) (hA : A < w.heap.size) (hB : B < w.heap.size) (hc : CF w B (n * n * 2) (mkF k 0 (n * n * 2) f)) (hr : RowsIn w A B n) :
    Calls Tryz.prog 13 #[.slice (some ⟨A, 0, none⟩) n cap, .int .i64 k] w fun r w' => r = .returned (.int .i64 ((k + n * n * 2 : Nat) : Int)) ∧ Below w.heap.size w w' := by
  replace hc := Lib.hid hc
  replace hr := Lib.hid hr
  go_enter Tryz.func13, Tryz.ntmps13
  go_wp2
  go_loopw [1, 5] (fun q i wr => ∃ j : Nat, j ≤ n ∧ q = .int .i64 ((k + j * n * 2 : Nat) : Int) ∧ i = .int .i64 j ∧ Below w.heap.size w wr) (fun _ i _ => n - (intOf i).toNat)
  case atStart => exact ⟨0, by omega, by simp, rfl, Below.refl _ _⟩
  case round =>
    obtain ⟨j, hj, rfl, rfl, hb⟩ := hrel
    by_cases hlt : j < n
    · have c0 : wr.cell? ⟨A, j, none⟩ = some (.slice (some ⟨B, j * n * 2, none⟩) n n) := (hb.cell (p := ⟨A, j, none⟩) hA).trans (hr.out j hlt)
      obtain ⟨s1, s2⟩ := sq8 hn hlt
      have e1 : (j + 1) * n * 2 = j * n * 2 + n * 2 := by rw [Nat.add_mul, Nat.one_mul, Nat.add_mul]
      obtain ⟨t, ht⟩ : ∃ t, j * n * 2 = t := ⟨_, rfl⟩
      rw [ht] at c0 s1 e1 ⊢
      have hM := Lib.hid (heldF_row wr B t n n (k + t) (n * n * 2) (mkF k 0 (n * n * 2) f) s1 (by omega) (by omega) (Nat.lt_of_lt_of_le hB hb.size) (hc.out.below hb hB) (fun u hu => by unfold mkF; rw [if_pos (by omega)]; omega))
      replace e1 := Lib.hid e1
      have hp : decide (((k + t + n * 2 : Nat) : Int) < 0) = false := decide_eq_false (by omega)
      clear ht
      go_wp2_with fail
      refine hM.out.mono ?_
      rintro r1 w1 ⟨rfl, hb1⟩
      go_wp2
      go_roundw
      case rel => exact ⟨j + 1, by omega, by rw [e1.out]; congr 1; omega, by go_num, by (repeat (first | exact Below.refl _ _ | assumption | refine bchain (by assumption) ?_ | refine balloc ?_ _ | apply Below.drew | apply below_drewN | (refine Below.alloc ?_ (by (try simp) <;> omega) _) | (refine Below.setCell ?_ (by (try simp) <;> omega) _)))⟩
      case measure => simp [intOf]; omega
    · obtain rfl : j = n := by omega
      have hdd := decide_eq_false (show ¬ ((j : Int) < (j : Int)) by omega)
      go_wp2
      go_ret
      exact ⟨rfl, hb⟩
end Go.Proofs.YtncbimbbkealmaaGreatDoor.Fr
namespace Go.Proofs.YtncbimbbkealmaaGreatDoor.Fr
open Go.RowKit
set_option maxRecDepth 100000
/-- the cells of n rows of n fractions -/
def gv (n : Nat) (g : Nat → Nat → Int × Int) (c : Nat) : Int := if c % 2 = 0 then (g (c / 2 / n) (c / 2 % n)).1 else (g (c / 2 / n) (c / 2 % n)).2
theorem gv_at {n i j : Nat} (g : Nat → Nat → Int × Int) (hj : j < n) : gv n g ((i * n + j) * 2) = (g i j).1 ∧ gv n g ((i * n + j) * 2 + 1) = (g i j).2 := by
  have h1 : (i * n + j) * 2 / 2 = i * n + j := by omega
  have h2 : ((i * n + j) * 2 + 1) / 2 = i * n + j := by omega
  have h3 : (i * n + j) / n = i := by rw [Nat.mul_comm, Nat.mul_add_div (by omega), Nat.div_eq_of_lt hj]; omega
  have h4 : (i * n + j) % n = j := by rw [Nat.mul_comm, Nat.mul_add_mod, Nat.mod_eq_of_lt hj]
  unfold gv
  rw [h1, h2, h3, h4, if_pos (by omega), if_neg (by omega)]
  exact ⟨rfl, rfl⟩
/-- the cells up to m are told, the others are 0 -/
def upTo (n : Nat) (g : Nat → Nat → Int × Int) (m c : Nat) : Int := if c < m then gv n g c else 0
/-- the rows up to k stand, the others are nil -/
def RowsTo (w : World) (A B n k : Nat) : Prop := ∀ i, i < n → w.cell? ⟨A, i, none⟩ = some (if i < k then .slice (some ⟨B, i * n * 2, none⟩) n n else .slice none 0 0)
/-- what a cell holds -/
def cellOf (w : World) (a : Addr) : Value := (w.cell? a).getD undef
theorem cellOf_of {w : World} {a : Addr} {v : Value} (h : w.cell? a = some v) : w.cell? a = some (cellOf w a) := by unfold cellOf; rw [h]; rfl
theorem held_store {wr W : World} {A B i a : Nat} {r z0 z1 x y : Value} (hAB : A = B + 1) (zA : A < wr.heap.size) (zB : B < wr.heap.size) (r1 : wr.cell? ⟨A, i, none⟩ = some r) (c0 : wr.cell? ⟨B, a, none⟩ = some z0) (c1 : wr.cell? ⟨B, a + 1, none⟩ = some z1)
    (f0 : wr.frozen? ⟨B, a, none⟩ = false) (f1 : wr.frozen? ⟨B, a + 1, none⟩ = false) (hb : Below wr.heap.size wr W) (S : World) (hS : S = (W.setCell ⟨B, a, none⟩ x).setCell ⟨B, a + 1, none⟩ y) :
    S.cell? ⟨A, i, none⟩ = some r ∧ S.cell? ⟨B, a, none⟩ = some (cellOf S ⟨B, a, none⟩) ∧ S.cell? ⟨B, a + 1, none⟩ = some (cellOf S ⟨B, a + 1, none⟩) ∧ S.frozen? ⟨B, a, none⟩ = false ∧ S.frozen? ⟨B, a + 1, none⟩ = false := by
  have e0 := old_cell zB c0 hb
  have e1 := old_cell zB c1 hb
  have g0 := (hb.frozen (p := ⟨B, a, none⟩) zB).trans f0
  have g1 := (hb.frozen (p := ⟨B, a + 1, none⟩) zB).trans f1
  subst hS
  refine ⟨?_, cellOf_of (v := x) ?_, cellOf_of (v := y) ?_, by simp [g0], by simp [g1]⟩
  · exact (World.cell?_setCell_other _ _ _ _ (by simp <;> omega)).trans ((World.cell?_setCell_other _ _ _ _ (by simp <;> omega)).trans (old_cell zA r1 hb))
  · exact (World.cell?_setCell_other _ _ _ _ (by simp)).trans (World.cell?_setCell_same _ _ _ e0)
  · exact World.cell?_setCell_same _ _ _ ((World.cell?_setCell_other _ _ _ _ (by simp)).trans e1)
theorem CF.tell {W : World} {B L n m : Nat} {g : Nat → Nat → Int × Int} {x : Int} (h : CF W B L (upTo n g m)) (hm : m < L) (hx : gv n g m = x) : CF (W.setCell ⟨B, m, none⟩ (.int .i64 x)) B L (upTo n g (m + 1)) :=
  h.set hm (by unfold upTo; rw [if_pos (by omega)]; exact hx) (fun i hi => by
    unfold upTo
    by_cases c : i < m
    · rw [if_pos c, if_pos (by omega)]
    · rw [if_neg c, if_neg (by omega)])
theorem mat_next {w wr W : World} {B N n i t j : Nat} {g : Nat → Nat → Int × Int} {x y : Int} (hb : Below wr.heap.size wr W) (hjn : j < n) (ht : i * n = t) (hle : t + n ≤ N) (hxy : g i j = (x, y))
    (hC : CF wr B (N * 2) (upTo n g (t * 2 + j * 2))) (hR : RowsTo wr (B + 1) B n (i + 1)) (hF : ∀ c, wr.frozen? ⟨B, c, none⟩ = false) (hF1 : ∀ c, wr.frozen? ⟨B + 1, c, none⟩ = false) (hz : B + 1 < wr.heap.size) (hB : Below B w wr)
    (S : World) (hS : S = (W.setCell ⟨B, t * 2 + j * 2, none⟩ (.int .i64 x)).setCell ⟨B, t * 2 + j * 2 + 1, none⟩ (.int .i64 y)) :
    CF S B (N * 2) (upTo n g (t * 2 + (j + 1) * 2)) ∧ RowsTo S (B + 1) B n (i + 1) ∧ (∀ c, S.frozen? ⟨B, c, none⟩ = false) ∧ (∀ c, S.frozen? ⟨B + 1, c, none⟩ = false) ∧ B + 1 < S.heap.size ∧ Below B w S := by
  obtain ⟨g1, g2⟩ := gv_at (i := i) g hjn
  rw [ht, hxy, show (t + j) * 2 = t * 2 + j * 2 by omega] at g1 g2
  have hs := hb.size
  subst hS
  refine ⟨?_, fun k hk => ?_, fun c => ?_, fun c => ?_, by simp; omega, ?_⟩
  · rw [show t * 2 + (j + 1) * 2 = t * 2 + j * 2 + 1 + 1 by omega]
    exact ((hC.below hb (by omega)).tell (by omega) g1).tell (by omega) g2
  · exact (World.cell?_setCell_other _ _ _ _ (by simp <;> omega)).trans ((World.cell?_setCell_other _ _ _ _ (by simp <;> omega)).trans ((hb.cell (p := ⟨B + 1, k, none⟩) hz).trans (hR k hk)))
  · have := (hb.frozen (p := ⟨B, c, none⟩) (by show B < _; omega)).trans (hF c)
    simp [this]
  · have := (hb.frozen (p := ⟨B + 1, c, none⟩) hz).trans (hF1 c)
    simp [this]
  · exact ((hB.trans (hb.mono (by omega))).setCell (p := ⟨B, t * 2 + j * 2, none⟩) (Nat.le_refl B) _).setCell (p := ⟨B, t * 2 + j * 2 + 1, none⟩) (Nat.le_refl B) _
theorem madeCF (w : World) (N : Nat) (e : TypeId) (O O1 : Obj) (n : Nat) (g : Nat → Nat → Int × Int) (hO : O = Obj.cells (madeCells #[.int .i64 0, .int .i64 0] (N * 2)) e) : CF ((w.alloc O).alloc O1) w.heap.size (N * 2) (upTo n g (0 * n * 2)) := by
  intro i hi
  subst hO
  rw [World.cell?_alloc_old _ _ _ (by show w.heap.size ≠ _; simp), World.cell?_alloc_new]
  have hu : upTo n g (0 * n * 2) i = 0 := by unfold upTo; rw [if_neg (by omega)]
  rw [hu]
  rcases Nat.mod_two_eq_zero_or_one i with h | h <;> simp [madeCells, hi, h]
theorem madeRows (w : World) (n B : Nat) (e : TypeId) (O O1 : Obj) (hO : O1 = Obj.cells (madeCells #[.slice none 0 0] (n * 1)) e) : RowsTo ((w.alloc O).alloc O1) (w.heap.size + 1) B n 0 := by
  intro i hi
  subst hO
  have e1 : w.heap.size + 1 = (w.alloc O).heap.size := by simp
  rw [e1, World.cell?_alloc_new, if_neg (by omega)]
  simp [madeCells, hi, Nat.mod_one]
theorem row_next {wr : World} {B n i t N : Nat} {g : Nat → Nat → Int × Int} (ht : i * n = t) (hi : i < n) (hC : CF wr B (N * 2) (upTo n g (i * n * 2))) (hR : RowsTo wr (B + 1) B n i) (hF : ∀ c, wr.frozen? ⟨B, c, none⟩ = false) (hF1 : ∀ c, wr.frozen? ⟨B + 1, c, none⟩ = false)
    (S : World) (hS : S = wr.setCell ⟨B + 1, i, none⟩ (.slice (some ⟨B, t * 2, none⟩) n n)) :
    CF S B (N * 2) (upTo n g (t * 2 + 0 * 2)) ∧ RowsTo S (B + 1) B n (i + 1) ∧ (∀ c, S.frozen? ⟨B, c, none⟩ = false) ∧ (∀ c, S.frozen? ⟨B + 1, c, none⟩ = false) := by
  subst hS
  refine ⟨fun c hc => ?_, fun k hk => ?_, fun c => by simp [hF c], fun c => by simp [hF1 c]⟩
  · have h := hC c hc
    rw [ht] at h
    rw [show t * 2 + 0 * 2 = t * 2 by omega]
    exact (World.cell?_setCell_other _ _ _ _ (by simp <;> omega)).trans h
  · by_cases e : k = i
    · subst e
      rw [World.cell?_setCell_same _ _ _ (hR k hk), if_pos (by omega), ht]
    · refine (World.cell?_setCell_other _ _ _ _ (by simp <;> omega)).trans ((hR k hk).trans ?_)
      by_cases c : k < i
      · rw [if_pos c, if_pos (by omega)]
      · rw [if_neg c, if_neg (by omega)]
section
variable (w : World)
set_option maxHeartbeats 2000000 in
theorem imat_ok (G : FuncId) (caps : Array Value) (eg : ∀ args w, (callFunc G args).run Tryz.prog w = .ok (.enter G args) w) (n : Nat) (hn : n ≤ 8) (g : Nat → Nat → Int × Int)
    (hG : ∀ W (i j : Nat), Below w.heap.size w W → i < n → j < n → Calls Tryz.prog G (#[.int .i64 i, .int .i64 j] ++ caps) W fun r w' => r = .returned (.agg #[.int .i64 (g i j).1, .int .i64 (g i j).2]) ∧ Below W.heap.size W w') :
    Calls Tryz.prog 23 #[.int .i64 n, .func (.func G) #[] caps] w fun r w' => r = .returned (.slice (some ⟨w.heap.size + 1, 0, none⟩) n n) ∧ Below w.heap.size w w' ∧ CF w' w.heap.size (n * n * 2) (gv n g) ∧ RowsIn w' (w.heap.size + 1) w.heap.size n ∧ (∀ c, w'.frozen? ⟨w.heap.size, c, none⟩ = false) ∧ w.heap.size + 1 < w'.heap.size := by
  obtain ⟨i0, hi0, hz0, hs0, hb0⟩ := info_parts info_graph
  obtain ⟨i1, hi1, hz1, hs1, hb1⟩ := info_parts info_row
  obtain ⟨N, hN⟩ : ∃ N : Nat, n * n = N := ⟨_, rfl⟩
  have hN64 : N ≤ 64 := by rw [← hN]; exact Nat.mul_le_mul hn hn
  obtain ⟨O, hO⟩ : ∃ O, O = Obj.cells (madeCells #[.int .i64 0, .int .i64 0] (N * 2)) 51 := ⟨_, rfl⟩
  obtain ⟨O1, hO1⟩ : ∃ O, O = Obj.cells (madeCells #[.slice none 0 0] (n * 1)) 57 := ⟨_, rfl⟩
  have hmk : ∀ W : World, (Instr.makeSlice 57 (.int .i64 N) (.int .i64 N)).run Tryz.prog W = .ok (.slice (some ⟨W.heap.size, 0, none⟩) N N) (W.alloc O) := fun W => by
    have hr := run_make (P := Tryz.prog) W 57 51 i0 (.agg #[.int .i64 0, .int .i64 0]) Tryz.underlying57 hi0 hz0 .i64 .i64 (N : Int) (N : Int) (by omega) (by omega) (by rw [hb0]; omega) (by omega)
    simp only [Int.toNat_natCast, hs0] at hr
    rw [hO]
    exact hr
  have hmk1 : ∀ W : World, (Instr.makeSlice 27 (.int .i64 n) (.int .i64 n)).run Tryz.prog W = .ok (.slice (some ⟨W.heap.size, 0, none⟩) n n) (W.alloc O1) := fun W => by
    have hr := run_make (P := Tryz.prog) W 27 57 i1 (.slice none 0 0) Tryz.underlying27 hi1 hz1 .i64 .i64 (n : Int) (n : Int) (by omega) (by omega) (by rw [hb1]; omega) (by omega)
    simp only [Int.toNat_natCast, hs1] at hr
    rw [hO1]
    exact hr
  clear hi0 hz0 hs0 hb0 hi1 hz1 hs1 hb1
  replace hO := Lib.hid hO
  replace hO1 := Lib.hid hO1
  replace hG := Lib.hid hG
  have hNN : (n : Int) * (n : Int) = (N : Int) := by rw [← hN]; simp
  replace hN := Lib.hid hN
  go_enter Tryz.func23, Tryz.ntmps23
  go_wp2
  go_loopw [7, 8, 17, 41] (fun _ _ q _ wr => ∃ i : Nat, i ≤ n ∧ q = .int .i64 i ∧ CF wr w.heap.size (N * 2) (upTo n g (i * n * 2)) ∧ RowsTo wr (w.heap.size + 1) w.heap.size n i ∧ (∀ c, wr.frozen? ⟨w.heap.size, c, none⟩ = false) ∧ (∀ c, wr.frozen? ⟨w.heap.size + 1, c, none⟩ = false) ∧ w.heap.size + 1 < wr.heap.size ∧ Below w.heap.size w wr) (fun _ _ q _ _ => n - (intOf q).toNat)
  case atStart => exact ⟨0, by omega, by rfl, madeCF w N _ O O1 n g hO.out, madeRows w n _ _ O O1 hO1.out, fun c => by rw [hO.out, hO1.out]; simp, fun c => by rw [hO1.out, hO.out]; simp, by simp, by (repeat (first | exact Below.refl _ _ | assumption | refine bchain (by assumption) ?_ | refine balloc ?_ _ | apply Below.drew | apply below_drewN | (refine Below.alloc ?_ (by (try simp) <;> omega) _) | (refine Below.setCell ?_ (by (try simp) <;> omega) _)))⟩
  case round =>
    obtain ⟨i, hi, rfl, hC, hR, hF, hF1, hz, hb⟩ := hrel
    by_cases hlt : i < n
    · have r0 := hR i hlt
      rw [if_neg (by omega)] at r0
      have f1 := hF1 i
      obtain ⟨t, ht⟩ : ∃ t, i * n = t := ⟨_, rfl⟩
      have hm1 : (i : Int) * (n : Int) = (t : Int) := by rw [← ht]; simp
      have hm2 : ((i : Int) + 1) * (n : Int) = (t : Int) + (n : Int) := by rw [Int.add_mul, Int.one_mul, hm1]
      have ht2 : t + n ≤ N := by
        have h1 : (i + 1) * n ≤ n * n := Nat.mul_le_mul (by omega) (Nat.le_refl n)
        rw [Nat.add_mul, Nat.one_mul, ht, hN.out] at h1
        exact h1
      replace hC := Lib.hid hC
      replace hR := Lib.hid hR
      replace hF := Lib.hid hF
      replace hF1 := Lib.hid hF1
      have hin : i < n := hlt
      go_wp2
      simp only [Nat.add_sub_cancel_left]
      go_loopw [8, 41] (fun _ q wr => ∃ j : Nat, j ≤ n ∧ q = .int .i64 j ∧ CF wr w.heap.size (N * 2) (upTo n g (t * 2 + j * 2)) ∧ RowsTo wr (w.heap.size + 1) w.heap.size n (i + 1) ∧ (∀ c, wr.frozen? ⟨w.heap.size, c, none⟩ = false) ∧ (∀ c, wr.frozen? ⟨w.heap.size + 1, c, none⟩ = false) ∧ w.heap.size + 1 < wr.heap.size ∧ Below w.heap.size w wr) (fun _ q _ => n - (intOf q).toNat)
      case atStart =>
        obtain ⟨n1, n2, n3, n4⟩ := row_next ht hin hC.out hR.out hF.out hF1.out _ rfl
        exact ⟨0, by omega, by rfl, n1, n2, n3, n4, by simp; omega, hb.setCell (by simp <;> omega) _⟩
      case round =>
        clear f1 hC hR hF hF1 hz hb r0
        obtain ⟨j, hj, rfl, hC, hR, hF, hF1, hz, hb⟩ := hrel
        by_cases hjn : j < n
        · have r1 := hR i hin
          rw [if_pos (by omega), ht] at r1
          have c0 := hC (t * 2 + j * 2) (by omega)
          have c1 := hC (t * 2 + j * 2 + 1) (by omega)
          have f0 := hF (t * 2 + j * 2)
          have f1 := hF (t * 2 + j * 2 + 1)
          obtain ⟨z0, hz0⟩ : ∃ z, upTo n g (t * 2 + j * 2) (t * 2 + j * 2) = z := ⟨_, rfl⟩
          obtain ⟨z1, hz1⟩ : ∃ z, upTo n g (t * 2 + j * 2) (t * 2 + j * 2 + 1) = z := ⟨_, rfl⟩
          rw [hz0] at c0
          rw [hz1] at c1
          obtain ⟨x, y, hxy⟩ : ∃ x y, g i j = (x, y) := ⟨_, _, rfl⟩
          have hQ := Lib.hid (fun W (hb7 : Below wr.heap.size wr W) => hG.out W i j (hb.trans (hb7.mono hb.size)) hin hjn)
          rw [hxy] at hQ
          have hE := Lib.hid (fun W (h : Below wr.heap.size wr W) => mat_next (w := w) h hjn ht ht2 hxy hC hR hF hF1 hz hb _ rfl)
          clear hz0 hz1
          have zA : w.heap.size + 1 < wr.heap.size := hz
          have zB : w.heap.size < wr.heap.size := by omega
          replace hC := Lib.hid hC
          replace hR := Lib.hid hR
          replace hF := Lib.hid hF
          replace hF1 := Lib.hid hF1
          go_wp2
          go_region_held3 (fun W => W.cell? ⟨w.heap.size + 1, i, none⟩ = some (.slice (some ⟨w.heap.size, t * 2, none⟩) n n) ∧ W.cell? ⟨w.heap.size, t * 2 + j * 2, none⟩ = some (cellOf W ⟨w.heap.size, t * 2 + j * 2, none⟩) ∧ W.cell? ⟨w.heap.size, t * 2 + j * 2 + 1, none⟩ = some (cellOf W ⟨w.heap.size, t * 2 + j * 2 + 1, none⟩) ∧ W.frozen? ⟨w.heap.size, t * 2 + j * 2, none⟩ = false ∧ W.frozen? ⟨w.heap.size, t * 2 + j * 2 + 1, none⟩ = false)
            (first
              | exact held_store rfl zA zB r1 c0 c1 f0 f1 (by (repeat (first | exact Below.refl _ _ | assumption | refine bchain (by assumption) ?_ | refine balloc ?_ _ | apply Below.drew | apply below_drewN | (refine Below.alloc ?_ (by (try simp) <;> omega) _) | (refine Below.setCell ?_ (by (try simp) <;> omega) _)))) _ rfl
              | exact ⟨old_cell zA r1 (by (repeat (first | exact Below.refl _ _ | assumption | refine bchain (by assumption) ?_ | refine balloc ?_ _ | apply Below.drew | apply below_drewN | (refine Below.alloc ?_ (by (try simp) <;> omega) _) | (refine Below.setCell ?_ (by (try simp) <;> omega) _)))), cellOf_of (old_cell zB c0 (by (repeat (first | exact Below.refl _ _ | assumption | refine bchain (by assumption) ?_ | refine balloc ?_ _ | apply Below.drew | apply below_drewN | (refine Below.alloc ?_ (by (try simp) <;> omega) _) | (refine Below.setCell ?_ (by (try simp) <;> omega) _))))), cellOf_of (old_cell zB c1 (by (repeat (first | exact Below.refl _ _ | assumption | refine bchain (by assumption) ?_ | refine balloc ?_ _ | apply Below.drew | apply below_drewN | (refine Below.alloc ?_ (by (try simp) <;> omega) _) | (refine Below.setCell ?_ (by (try simp) <;> omega) _))))), (Below.frozen (p := ⟨w.heap.size, t * 2 + j * 2, none⟩) (by (repeat (first | exact Below.refl _ _ | assumption | refine bchain (by assumption) ?_ | refine balloc ?_ _ | apply Below.drew | apply below_drewN | (refine Below.alloc ?_ (by (try simp) <;> omega) _) | (refine Below.setCell ?_ (by (try simp) <;> omega) _)))) zB).trans f0, (Below.frozen (p := ⟨w.heap.size, t * 2 + j * 2 + 1, none⟩) (by (repeat (first | exact Below.refl _ _ | assumption | refine bchain (by assumption) ?_ | refine balloc ?_ _ | apply Below.drew | apply below_drewN | (refine Below.alloc ?_ (by (try simp) <;> omega) _) | (refine Below.setCell ?_ (by (try simp) <;> omega) _)))) zB).trans f1⟩)
            (first | (refine (hQ.out _ (by (repeat (first | exact Below.refl _ _ | assumption | refine bchain (by assumption) ?_ | refine balloc ?_ _ | apply Below.drew | apply below_drewN | (refine Below.alloc ?_ (by (try simp) <;> omega) _) | (refine Below.setCell ?_ (by (try simp) <;> omega) _))))).mono ?_; rintro r w3 ⟨rfl, hb3⟩))
          obtain ⟨n1, n2, n3, n4, n5, n6⟩ := hE.out w3 (by (repeat (first | exact Below.refl _ _ | assumption | refine bchain (by assumption) ?_ | refine balloc ?_ _ | apply Below.drew | apply below_drewN | (refine Below.alloc ?_ (by (try simp) <;> omega) _) | (refine Below.setCell ?_ (by (try simp) <;> omega) _))))
          replace n1 := Lib.hid n1
          replace n2 := Lib.hid n2
          replace n3 := Lib.hid n3
          replace n4 := Lib.hid n4
          go_wp2
          go_roundw
          case rel => exact ⟨j + 1, by omega, by go_num, n1.out, n2.out, n3.out, n4.out, n5, n6⟩
          case measure => simp [intOf]; omega
        · obtain rfl : j = n := by omega
          have hd := decide_eq_false (show ¬ ((j : Int) < (j : Int)) by omega)
          rw [show t * 2 + j * 2 = (i + 1) * j * 2 by rw [Nat.add_mul, Nat.one_mul, ht]; omega] at hC
          replace hC := Lib.hid hC
          replace hR := Lib.hid hR
          replace hF := Lib.hid hF
          replace hF1 := Lib.hid hF1
          go_wp2
          go_roundw
          case rel => exact ⟨i + 1, by omega, by go_num, hC.out, hR.out, hF.out, hF1.out, hz, hb⟩
          case measure => simp [intOf]; omega
    · obtain rfl : i = n := by omega
      have hd := decide_eq_false (show ¬ ((i : Int) < (i : Int)) by omega)
      replace hC := Lib.hid hC
      replace hR := Lib.hid hR
      replace hF := Lib.hid hF
      replace hF1 := Lib.hid hF1
      go_wp2
      go_ret
      refine ⟨rfl, hb, ?_, fun k hk => ?_, hF.out, hz⟩
      · have h := hC.out
        rw [hN.out] at h ⊢
        exact h.congr (fun c hc => by unfold upTo; rw [if_pos hc])
      · have h := hR.out k hk
        rwa [if_pos hk] at h
end
end Go.Proofs.YtncbimbbkealmaaGreatDoor.Fr
namespace Go.Proofs.YtncbimbbkealmaaGreatDoor.Fr
open Go.RowKit
set_option maxRecDepth 100000

/-- rows i < k of n fractions each, in blocks of their own -/
def RB (b0 : Nat) (w : World) (n k : Nat) (R : Nat → Nat) (h : Nat → Nat → Int × Int) : Prop :=
  ∀ i, i < k → b0 ≤ R i ∧ (∀ j, j < i → R j < R i) ∧ ∃ cur, w.heap[R i]? = some (.cells cur 51 (0, 0)) ∧ ∀ j, j < n → cur[j * 2]? = some (.int .i64 (h i j).1) ∧ cur[j * 2 + 1]? = some (.int .i64 (h i j).2)
theorem RB.lt {b0 : Nat} {w : World} {n k : Nat} {R : Nat → Nat} {h : Nat → Nat → Int × Int} (H : RB b0 w n k R h) {i : Nat} (hi : i < k) : R i < w.heap.size := by
  obtain ⟨_, _, cur, e, _⟩ := H i hi
  exact (Array.getElem?_eq_some_iff.1 e).1
theorem RB.inj {b0 : Nat} {w : World} {n k : Nat} {R : Nat → Nat} {h : Nat → Nat → Int × Int} (H : RB b0 w n k R h) {i j : Nat} (hi : i < k) (hj : j < k) (e : R i = R j) : i = j := by
  rcases Nat.lt_trichotomy i j with c | c | c
  · have := (H j hj).2.1 i c; omega
  · exact c
  · have := (H i hi).2.1 j c; omega
theorem RB.same {b0 : Nat} {w w' : World} {n k : Nat} {R : Nat → Nat} {h : Nat → Nat → Int × Int} (H : RB b0 w n k R h) (hs : ∀ i, i < k → w'.heap[R i]? = w.heap[R i]?) : RB b0 w' n k R h := fun i hi => by
  obtain ⟨h1, h2, cur, e, h3⟩ := H i hi
  exact ⟨h1, h2, cur, (hs i hi).trans e, h3⟩
theorem RB.below {b0 : Nat} {w w' : World} {n k : Nat} {R : Nat → Nat} {h : Nat → Nat → Int × Int} (H : RB b0 w n k R h) (hb : Below w.heap.size w w') : RB b0 w' n k R h :=
  H.same fun _ hi => hb.block _ (H.lt hi)
theorem RB.cell {b0 : Nat} {w : World} {n k : Nat} {R : Nat → Nat} {h : Nat → Nat → Int × Int} (H : RB b0 w n k R h) {i j : Nat} (hi : i < k) (hj : j < n) :
    w.cell? ⟨R i, j * 2, none⟩ = some (.int .i64 (h i j).1) ∧ w.cell? ⟨R i, j * 2 + 1, none⟩ = some (.int .i64 (h i j).2) ∧ ∀ c, w.frozen? ⟨R i, c, none⟩ = false := by
  obtain ⟨_, _, cur, e, h3⟩ := H i hi
  exact ⟨by simp [World.cell?, e, (h3 j hj).1], by simp [World.cell?, e, (h3 j hj).2], fun c => by simp [World.frozen?, e]⟩
/-- one fraction is written -/
theorem RB.set {b0 : Nat} {w : World} {n k : Nat} {R : Nat → Nat} {h : Nat → Nat → Int × Int} (H : RB b0 w n k R h) {i j : Nat} (hi : i < k) (hj : j < n) (x y : Int) :
    RB b0 ((w.setCell ⟨R i, j * 2, none⟩ (.int .i64 x)).setCell ⟨R i, j * 2 + 1, none⟩ (.int .i64 y)) n k R (fun a b => if a = i ∧ b = j then (x, y) else h a b) := fun a ha => by
  obtain ⟨h1, h2, cur, e, h3⟩ := H a ha
  by_cases c : a = i
  · subst c
    have e1 := Go.Joins.block_setCell e (.int .i64 x) (i := j * 2)
    have e2 := Go.Joins.block_setCell e1 (.int .i64 y) (i := j * 2 + 1)
    refine ⟨h1, h2, _, e2, fun b hb => ?_⟩
    obtain ⟨p, q⟩ := h3 b hb
    obtain ⟨p0, q0⟩ := h3 j hj
    have lp := (Array.getElem?_eq_some_iff.1 p).1
    have lq := (Array.getElem?_eq_some_iff.1 q).1
    by_cases d : b = j
    · subst d
      dsimp only
      rw [if_pos ⟨rfl, rfl⟩]
      constructor
      · rw [Array.getElem?_setIfInBounds_ne (by omega), Array.getElem?_setIfInBounds_self, if_pos lp]
      · rw [Array.getElem?_setIfInBounds_self, Array.size_setIfInBounds, if_pos lq]
    · dsimp only
      rw [if_neg (fun t => d t.2)]
      constructor
      · rw [Array.getElem?_setIfInBounds_ne (by omega), Array.getElem?_setIfInBounds_ne (by omega)]; exact p
      · rw [Array.getElem?_setIfInBounds_ne (by omega), Array.getElem?_setIfInBounds_ne (by omega)]; exact q
  · refine ⟨h1, h2, cur, ?_, fun b hb => by dsimp only; rw [if_neg (fun t => c t.1)]; exact h3 b hb⟩
    have hne : R i ≠ R a := fun t => c (H.inj ha hi t.symm)
    rw [Below.heap_setCell _ _ _ _ (fun t => hne t.symm), Below.heap_setCell _ _ _ _ (fun t => hne t.symm)]
    exact e
/-- a matrix of the call's own: its rows lie in a further block -/
def MB (b0 : Nat) (w : World) (v : Value) (n : Nat) (h : Nat → Nat → Int × Int) : Prop :=
  ∃ (a : Option Addr) (cap : Nat) (R C : Nat → Nat), v = .slice a n cap ∧ n ≤ cap ∧ cap ≤ 9223372036854775807 ∧ RB b0 w n n R h ∧ (∀ i, i < n → n ≤ C i ∧ C i ≤ 9223372036854775807) ∧
    (0 < n → ∃ A, a = some ⟨A, 0, none⟩ ∧ b0 ≤ A ∧ A < w.heap.size ∧ (∀ i, i < n → A ≠ R i) ∧ ∀ i, i < n → w.cell? ⟨A, i, none⟩ = some (.slice (some ⟨R i, 0, none⟩) n (C i)))

/-- the rows as lists -/
def matL (n : Nat) (h : Nat → Nat → Int × Int) : List (List (Int × Int)) := (List.range n).map fun i => (List.range n).map fun j => h i j
theorem matL_length (n : Nat) (h : Nat → Nat → Int × Int) : (matL n h).length = n := by simp [matL]
theorem matL_row {n : Nat} (h : Nat → Nat → Int × Int) {i : Nat} (hi : i < n) : rAt (matL n h) i = (List.range n).map fun j => h i j := by simp [rAt, matL, hi]
theorem row_get {n : Nat} (f : Nat → Int × Int) {j : Nat} (hj : j < n) : gAt ((List.range n).map f) j = f j := by simp [gAt, hj]
theorem matL_rows (n : Nat) (h : Nat → Nat → Int × Int) : ∀ i, i < (matL n h).length → (rAt (matL n h) i).length = n := fun i hi => by
  rw [matL_length] at hi
  rw [matL_row h hi]; simp
theorem matL_congr {n : Nat} {g h : Nat → Nat → Int × Int} (e : ∀ i j, i < n → j < n → g i j = h i j) : matL n g = matL n h := by
  unfold matL
  apply List.map_congr_left
  intro i hi
  apply List.map_congr_left
  intro j hj
  exact e i j (by simpa using hi) (by simpa using hj)
theorem MB.slm {b0 : Nat} {w : World} {v : Value} {n : Nat} {h : Nat → Nat → Int × Int} (H : MB b0 w v n h) : SlM w v (matL n h) := by
  obtain ⟨a, cap, R, C, e, h1, h2, hR, hC, hA⟩ := H
  refine ⟨a, cap, by rw [matL_length]; exact e, by rw [matL_length]; exact h1, h2, fun hz => ?_⟩
  have hn : 0 < n := by
    rcases Nat.eq_zero_or_pos n with c | c
    · subst c; exact absurd rfl hz
    · exact c
  obtain ⟨A, e2, _, hAl, _, hc⟩ := hA hn
  refine ⟨A, 0, e2, hAl, fun i hi => ?_⟩
  rw [matL_length] at hi
  refine ⟨_, by rw [Nat.zero_add]; exact hc i hi, ?_⟩
  rw [matL_row h hi]
  refine ⟨_, C i, by simp, by simpa using (hC i hi).1, (hC i hi).2, fun _ => ⟨R i, 0, rfl, hR.lt hi, fun j hj => ?_⟩⟩
  have hj' : j < n := by simpa using hj
  rw [row_get _ hj']
  have := hR.cell hi hj'
  exact ⟨by rw [Nat.zero_add]; exact this.1, by rw [Nat.zero_add]; exact this.2.1⟩
theorem rowsIn_slm {w : World} {A B n cap : Nat} {g : Nat → Nat → Int × Int} (hn : n ≤ cap) (hm : cap ≤ 9223372036854775807) (hA : A < w.heap.size) (hB : B < w.heap.size) (hr : RowsIn w A B n) (hc : CF w B (n * n * 2) (gv n g)) (hn8 : n ≤ 8) :
    SlM w (.slice (some ⟨A, 0, none⟩) n cap) (matL n g) := by
  refine ⟨_, cap, by rw [matL_length], by rw [matL_length]; exact hn, hm, fun hz => ⟨A, 0, rfl, hA, fun i hi => ?_⟩⟩
  rw [matL_length] at hi
  refine ⟨_, by rw [Nat.zero_add]; exact hr i hi, ?_⟩
  rw [matL_row g hi]
  refine ⟨_, n, by simp, by simp, by omega, fun _ => ⟨B, i * n * 2, rfl, hB, fun j hj => ?_⟩⟩
  have hj' : j < n := by simpa using hj
  rw [row_get _ hj']
  obtain ⟨s1, _⟩ := sq8 hn8 hi
  obtain ⟨g1, g2⟩ := gv_at (i := i) g hj'
  have e1 : i * n * 2 + j * 2 = (i * n + j) * 2 := by omega
  exact ⟨by rw [hc _ (by omega), e1, g1], by rw [hc _ (by omega), e1, g2]⟩

theorem own_ne {w : World} {base size n : Nat} {e : TypeId} {v : Value} {xs : List Value} (h : w.ownsRow base e size v n xs) {g : Nat} {cur : Array Value} {t : TypeId} (hg : w.heap[g]? = some (.cells cur t (0, 0))) (ht : t ≠ e) : some g ≠ Value.ownBlock v := by
  rcases h.2 with ⟨rfl, _⟩ | ⟨g', cap, cur', rfl, _, hh, _⟩
  · intro c; cases c
  · intro c
    injection c with c
    subst c
    rw [hg] at hh
    injection hh with hh
    injection hh with _ c2
    exact ht c2
/-- the rows k that stand, as values -/
def rowVs (n k : Nat) (R C : Nat → Nat) : List Value := (List.range k).map fun i => .slice (some ⟨R i, 0, none⟩) n (C i)
theorem rowVs_snoc (n k : Nat) (R C : Nat → Nat) (g c : Nat) : rowVs n (k + 1) (fun i => if i < k then R i else g) (fun i => if i < k then C i else c) = rowVs n k R C ++ [.slice (some ⟨g, 0, none⟩) n c] := by
  unfold rowVs
  rw [List.range_succ, List.map_append]
  congr 1
  · apply List.map_congr_left
    intro i hi
    have : i < k := by simpa using hi
    simp [this]
  · simp
end Go.Proofs.YtncbimbbkealmaaGreatDoor.Fr
namespace Go.Proofs.YtncbimbbkealmaaGreatDoor.Fr
open Go.RowKit
set_option maxRecDepth 100000

/-- n rows of n fractions: none, or in one block -/
def MR (b0 : Nat) (w : World) (u : Value) (n : Nat) (f : Nat → Int) : Prop :=
  (n = 0 ∧ ∃ a cap, u = .slice a 0 cap ∧ cap ≤ 9223372036854775807) ∨
    ∃ A B, u = .slice (some ⟨A, 0, none⟩) n n ∧ n ≤ 8 ∧ A ≠ B ∧ (b0 ≤ A ∧ b0 ≤ B) ∧ A < w.heap.size ∧ B < w.heap.size ∧ CF w B (n * n * 2) f ∧ (∀ c, w.frozen? ⟨B, c, none⟩ = false) ∧ RowsIn w A B n
theorem MR.below {b0 : Nat} {w w' : World} {u : Value} {n : Nat} {f : Nat → Int} (h : MR b0 w u n f) (hb : Below w.heap.size w w') : MR b0 w' u n f := by
  rcases h with h | ⟨A, B, e, h8, h1, h2, h3, h4, h5, h6, h7⟩
  · exact .inl h
  · exact .inr ⟨A, B, e, h8, h1, h2, Nat.lt_of_lt_of_le h3 hb.size, Nat.lt_of_lt_of_le h4 hb.size, h5.below hb h4, fun c => (hb.frozen (p := ⟨B, c, none⟩) h4).trans (h6 c), fun i hi => (hb.cell (p := ⟨A, i, none⟩) h3).trans (h7 i hi)⟩
theorem MR.slm {b0 : Nat} {w : World} {u : Value} {n : Nat} {g : Nat → Nat → Int × Int} (h : MR b0 w u n (gv n g)) : SlM w u (matL n g) := by
  rcases h with ⟨rfl, a, cap, rfl, hc⟩ | ⟨A, B, rfl, h8, h1, h2, h3, h4, h5, h6, h7⟩
  · exact ⟨a, cap, rfl, Nat.zero_le _, hc, fun c => absurd rfl c⟩
  · exact rowsIn_slm (Nat.le_refl _) (by omega) h3 h4 h7 h5 h8
theorem MR.le {b0 b1 : Nat} {w : World} {u : Value} {n : Nat} {f : Nat → Int} (h : MR b0 w u n f) (hb : b1 ≤ b0) : MR b1 w u n f := by
  rcases h with h | ⟨A, B, e, h8, h1, h2, h3⟩
  · exact .inl h
  · exact .inr ⟨A, B, e, h8, h1, ⟨by omega, by omega⟩, h3⟩
theorem MR.setCell {b0 : Nat} {w : World} {u : Value} {n : Nat} {f : Nat → Int} (h : MR b0 w u n f) {p : Addr} (x : Value) (hp : p.block < b0) : MR b0 (w.setCell p x) u n f := by
  rcases h with h | ⟨A, B, e, h8, h1, h2, h3, h4, h5, h6, h7⟩
  · exact .inl h
  · exact .inr ⟨A, B, e, h8, h1, h2, by simpa using h3, by simpa using h4, fun i hi => (World.cell?_setCell_other _ _ _ _ (by rintro rfl; exact absurd hp (by show ¬ B < b0; omega))).trans (h5 i hi), fun c => by rw [World.frozen?_setCell]; exact h6 c,
      fun i hi => (World.cell?_setCell_other _ _ _ _ (by rintro rfl; exact absurd hp (by show ¬ A < b0; omega))).trans (h7 i hi)⟩
section
variable (w : World)
theorem markR_any (b0 : Nat) (u : Value) (n : Nat) (f : Nat → Int) (h : MR b0 w u n f) (hb0 : b0 ≤ w.heap.size) :
    Calls Tryz.prog 12 #[u, .int .i64 1] w fun r w' => r = .returned (.int .i64 ((1 + n * n * 2 : Nat) : Int)) ∧ Below b0 w w' ∧ MR b0 w' u n (mkF 1 0 (n * n * 2) f) := by
  rcases h with ⟨rfl, a, cap, rfl, hc⟩ | ⟨A, B, rfl, h8, h1, h2, h3, h4, h5, h6, h7⟩
  · refine (markM_zero w a cap 1).mono ?_
    rintro r w' ⟨rfl, hb⟩
    exact ⟨rfl, hb.mono hb0, .inl ⟨rfl, a, cap, rfl, hc⟩⟩
  · refine (markM_some w b0 A B n 1 n f h8 (by omega) h1 h2.2 h5 h6 h7).mono ?_
    rintro r w' ⟨rfl, hb, hC, hF, hR⟩
    exact ⟨rfl, hb, .inr ⟨A, B, rfl, h8, h1, h2, Nat.lt_of_lt_of_le h3 hb.size, Nat.lt_of_lt_of_le h4 hb.size, hC, hF, hR⟩⟩
theorem heldR_any (b0 : Nat) (u : Value) (n : Nat) (f : Nat → Int) (h : MR b0 w u n (mkF 1 0 (n * n * 2) f)) :
    Calls Tryz.prog 13 #[u, .int .i64 1] w fun r w' => r = .returned (.int .i64 ((1 + n * n * 2 : Nat) : Int)) ∧ Below w.heap.size w w' := by
  rcases h with ⟨rfl, a, cap, rfl, hc⟩ | ⟨A, B, rfl, h8, h1, h2, h3, h4, h5, h6, h7⟩
  · exact heldM_zero w a cap 1
  · exact heldM_some w A B n 1 n f h8 (by omega) h3 h4 h5 h7
theorem eqR_any (u v : Value) (n : Nat) (g : Nat → Nat → Int × Int) (h8 : n ≤ 8) (h : SlM w u (matL n g)) (h' : SlM w v (matL n g)) :
    Calls Tryz.prog 9 #[u, v] w fun r w' => r = .returned (.bool true) ∧ Below w.heap.size w w' :=
  eqMs_any w u v (matL n g) h h' (by rw [matL_length]; omega) (fun i hi => by rw [matL_rows n g i hi]; omega)
theorem SlM.form {w : World} {v : Value} {n : Nat} {g : Nat → Nat → Int × Int} (h : SlM w v (matL n g)) : ∃ a cap, v = .slice a n cap := by
  obtain ⟨a, cap, e, _⟩ := h
  rw [matL_length] at e
  exact ⟨a, cap, e⟩
theorem MR.form {b0 : Nat} {w : World} {u : Value} {n : Nat} {f : Nat → Int} (h : MR b0 w u n f) : ∃ a cap, u = .slice a n cap := by
  rcases h with ⟨rfl, a, cap, rfl, _⟩ | ⟨A, B, rfl, _⟩
  · exact ⟨a, cap, rfl⟩
  · exact ⟨_, n, rfl⟩
end
end Go.Proofs.YtncbimbbkealmaaGreatDoor.Fr
/-
  TABLES OF JOINT DENSITIES: what the program's closure answers, what the model's rows hold. (made by gen_pt.py)
-/
namespace Go.Proofs.YtncbimbbkealmaaGreatDoor.Fr
open Go.RowKit
set_option maxRecDepth 100000
/-- fractions, as cells -/
def frow (f : Nat → Int × Int) (j : Nat) : List Value := (List.range j).flatMap fun t => [.int .i64 (f t).1, .int .i64 (f t).2]
theorem frow_succ (f : Nat → Int × Int) (j : Nat) : frow f (j + 1) = frow f j ++ [.int .i64 (f j).1, .int .i64 (f j).2] := by simp [frow, List.range_succ, List.flatMap_append]
theorem frow_len (f : Nat → Int × Int) (n : Nat) : (frow f n).length = n * 2 := by
  induction n with
  | zero => rfl
  | succ n ih => rw [frow_succ, List.length_append, ih]; simp; omega
theorem frow_get (f : Nat → Int × Int) : ∀ n j, j < n → (frow f n)[j * 2]? = some (.int .i64 (f j).1) ∧ (frow f n)[j * 2 + 1]? = some (.int .i64 (f j).2) := by
  intro n
  induction n with
  | zero => intro j hj; omega
  | succ n ih =>
    intro j hj
    rw [frow_succ]
    by_cases c : j < n
    · obtain ⟨p, q⟩ := ih j c
      have hl := frow_len f n
      rw [List.getElem?_append_left (by omega), List.getElem?_append_left (by omega)]
      exact ⟨p, q⟩
    · obtain rfl : j = n := by omega
      have hl := frow_len f j
      rw [List.getElem?_append_right (by omega), List.getElem?_append_right (by omega), hl]
      simp
/-- the model's rows up to k -/
def TB (b0 : Nat) (w : World) (v : Value) (n k : Nat) (h : Nat → Nat → Int × Int) : Prop :=
  ∃ R C : Nat → Nat, RB b0 w n k R h ∧ (∀ i, i < k → n ≤ C i ∧ C i ≤ 9223372036854775807) ∧ w.ownsRow b0 57 1 v k (rowVs n k R C)
theorem TB.done {b0 : Nat} {w : World} {v : Value} {n : Nat} {h : Nat → Nat → Int × Int} (H : TB b0 w v n n h) : MB b0 w v n h := by
  obtain ⟨R, C, hR, hC, hO⟩ := H
  have hm : maxLen ≤ 9223372036854775807 := by unfold maxLen; omega
  rcases hO.2 with ⟨rfl, rfl⟩ | ⟨g, cap, cur, rfl, hg, hh, hn, hc, hs, hx⟩
  · exact ⟨none, 0, R, C, rfl, Nat.le_refl _, by omega, hR, hC, fun c => absurd c (Nat.lt_irrefl _)⟩
  · refine ⟨some ⟨g, 0, none⟩, cap, R, C, rfl, hn, by omega, hR, hC, fun _ => ⟨g, rfl, hg, (Array.getElem?_eq_some_iff.1 hh).1, fun i hi e => ?_, fun i hi => ?_⟩⟩
    · obtain ⟨_, _, cur', e', _⟩ := hR i hi
      rw [← e, hh] at e'
      injection e' with e'
      injection e' with _ e2
      exact absurd e2 (by decide)
    · have h1 : (cur.toList.take (n * 1))[i]? = some (.slice (some ⟨R i, 0, none⟩) n (C i)) := by rw [hx]; simp [rowVs, hi]
      rw [List.getElem?_take_of_lt (by omega)] at h1
      simpa [World.cell?, hh] using h1
theorem TB_next {b0 : Nat} {w w2 w4 : World} {v v' : Value} {n k g c : Nat} {R C : Nat → Nat} {h : Nat → Nat → Int × Int} (hR : RB b0 w n k R h) (hC : ∀ i, i < k → n ≤ C i ∧ C i ≤ 9223372036854775807) (hown : w.ownsRow b0 57 1 v k (rowVs n k R C))
    (hb0 : b0 ≤ w.heap.size) (hb : Below w.heap.size w w2) (hr : w2.ownsRow w.heap.size 51 2 (.slice (some ⟨g, 0, none⟩) n c) n (frow (h k) n))
    (O : Obj) (hg : (w2.alloc O).grownBy w4 v.ownBlock) (hO : w4.ownsRow b0 57 1 v' (k + 1) (rowVs n k R C ++ [.slice (some ⟨g, 0, none⟩) n c])) : TB b0 w4 v' n (k + 1) h := by
  have hm : maxLen ≤ 9223372036854775807 := by unfold maxLen; omega
  have hall : ∀ x, x < w2.heap.size → (w2.alloc O).heap[x]? = w2.heap[x]? := fun x hx => Below.heap_alloc _ _ _ (by omega)
  rcases hr.2 with ⟨hv, _⟩ | ⟨g', cap, cur, hv, hge, hh, hnc, hcm, hs, hx⟩
  · cases hv
  · injection hv with e1 e2 e3
    injection e1 with e1
    injection e1 with e1
    subst e1 e3
    have hgl : g < w2.heap.size := (Array.getElem?_eq_some_iff.1 hh).1
    have hgs : w4.heap[g]? = w2.heap[g]? := (hg.block g (by simp; omega) (fun t => by have := (hown.lt g t.symm).2; omega)).trans (hall g hgl)
    have hRs : ∀ i, i < k → w4.heap[R i]? = w.heap[R i]? := fun i hi => by
      have hl := hR.lt hi
      obtain ⟨_, _, cur', e', _⟩ := hR i hi
      have hl2 : R i < w2.heap.size := Nat.lt_of_lt_of_le hl hb.size
      exact ((hg.block (R i) (by simp; omega) (own_ne hown e' (by decide))).trans (hall _ hl2)).trans (hb.block _ hl)
    refine ⟨fun i => if i < k then R i else g, fun i => if i < k then C i else c, fun i hi => ?_, fun i hi => ?_, by rw [rowVs_snoc]; exact hO⟩
    · by_cases d : i < k
      · obtain ⟨h1, h2, cur', e', h3⟩ := hR i d
        refine ⟨by dsimp only; rw [if_pos d]; exact h1, fun j hj => by dsimp only; rw [if_pos d, if_pos (by omega)]; exact h2 j hj, cur', by dsimp only; rw [if_pos d]; exact (hRs i d).trans e', h3⟩
      · obtain rfl : i = k := by omega
        refine ⟨by dsimp only; rw [if_neg d]; omega, fun j hj => by dsimp only; rw [if_neg d, if_pos (by omega)]; have := hR.lt (i := j) (by omega); omega, cur, by dsimp only; rw [if_neg d]; exact hgs.trans hh, fun j hj => ?_⟩
        obtain ⟨z0, z1⟩ := frow_get (h i) n j hj
        rw [← hx] at z0 z1
        rw [List.getElem?_take_of_lt (by omega)] at z0 z1
        exact ⟨by simpa using z0, by simpa using z1⟩
    · by_cases d : i < k
      · dsimp only; rw [if_pos d]; exact hC i d
      · dsimp only; rw [if_neg d]; exact ⟨hnc, by omega⟩
end Go.Proofs.YtncbimbbkealmaaGreatDoor.Fr
namespace Go.Proofs.YtncbimbbkealmaaGreatDoor
open Go.RowKit Go.Shelf
set_option maxRecDepth 100000
attribute [local go_sem] Oper.semAt_some
def eAt (gs : List (Int × Int × Int)) (i : Nat) : Nat := (kAt gs i).2.2.toNat
/-- a family in natural numbers -/
def FamN (gs : List (Int × Int × Int)) (K N : Nat) : Prop := ∀ i, i < gs.length → kAt gs i = ((K : Int), (N : Int), ((eAt gs i : Nat) : Int)) ∧ VK K N (eAt gs i)
theorem fam_nat {gs : List (Int × Int × Int)} (h : FamK gs) : ∃ K N : Nat, FamN gs K N := by
  obtain ⟨hV, _, h0, hT, hN⟩ := h
  obtain ⟨x0, y0, z0, e0, _⟩ := kv_nat (hV 0 h0)
  refine ⟨x0, y0, fun i hi => ?_⟩
  obtain ⟨x, y, z, e, hv⟩ := kv_nat (hV i hi)
  have t := congrArg Prod.fst (hT i hi)
  have n := hN i hi
  unfold tyK at t
  rw [e, e0] at t n
  have hz : eAt gs i = z := by unfold eAt; rw [e]; simp
  have t2 : (x : Int) = (x0 : Int) := t
  have n2 : (y : Int) = (y0 : Int) := n
  rw [hz, e]
  obtain rfl : x = x0 := by omega
  obtain rfl : y = y0 := by omega
  exact ⟨rfl, hv⟩
/-- the joint density of two of a list's flags -/
def jG (K N n e : Nat) (gs : List (Int × Int × Int)) (i j : Nat) : Int × Int := jdF K n e N (eAt gs i) N (eAt gs j)
/-- a list's box, a flag's, two flags of the list, a result -/
structure Pq0 (W : World) (G b p q R : Nat) (SV : Value) (k2 n2 e2 k0 n0 e0 k1 n1 e1 : Int) : Prop where
  gl : G < W.heap.size
  s : W.cell? ⟨G, 0, none⟩ = some SV
  g : FC W (G + 1) k2 n2 e2
  bl : b < W.heap.size
  i0 : W.cell? ⟨b, p, none⟩ = some (.int .i64 k0)
  i1 : W.cell? ⟨b, p + 1, none⟩ = some (.int .i64 n0)
  i2 : W.cell? ⟨b, p + 2, none⟩ = some (.int .u32 e0)
  j0 : W.cell? ⟨b, q, none⟩ = some (.int .i64 k1)
  j1 : W.cell? ⟨b, q + 1, none⟩ = some (.int .i64 n1)
  j2 : W.cell? ⟨b, q + 2, none⟩ = some (.int .u32 e1)
  r : FqB W R 0 0
  nG : G + 1 < R
  nb : b < R
def PqS (G b p q R : Nat) (SV : Value) (k2 n2 e2 k0 n0 e0 k1 n1 e1 : Int) (A : World) : Prop := A.cell? ⟨G, 0, none⟩ = some SV ∧ A.cell? ⟨G + 1, 0, none⟩ = some (.int .i64 k2) ∧ A.cell? ⟨G + 1, 1, none⟩ = some (.int .i64 n2) ∧ A.cell? ⟨G + 1, 2, none⟩ = some (.int .u32 e2) ∧ A.cell? ⟨b, p, none⟩ = some (.int .i64 k0) ∧ A.cell? ⟨b, p + 1, none⟩ = some (.int .i64 n0) ∧ A.cell? ⟨b, p + 2, none⟩ = some (.int .u32 e0) ∧ A.cell? ⟨b, q, none⟩ = some (.int .i64 k1) ∧ A.cell? ⟨b, q + 1, none⟩ = some (.int .i64 n1) ∧ A.cell? ⟨b, q + 2, none⟩ = some (.int .u32 e1) ∧ A.cell? ⟨R, 0, none⟩ = some (cellAt A ⟨R, 0, none⟩) ∧ A.cell? ⟨R, 1, none⟩ = some (cellAt A ⟨R, 1, none⟩) ∧ A.frozen? ⟨R, 0, none⟩ = false ∧ A.frozen? ⟨R, 1, none⟩ = false
section
variable {w W S : World} {G b p q R : Nat} {SV : Value} {k2 n2 e2 k0 n0 e0 k1 n1 e1 : Int}
theorem Pq0.below (h : Pq0 w G b p q R SV k2 n2 e2 k0 n0 e0 k1 n1 e1) (hb : Below w.heap.size w W) : Pq0 W G b p q R SV k2 n2 e2 k0 n0 e0 k1 n1 e1 :=
  ⟨Nat.lt_of_lt_of_le h.gl hb.size, old_cell h.gl h.s hb, h.g.below hb, Nat.lt_of_lt_of_le h.bl hb.size, old_cell h.bl h.i0 hb, old_cell h.bl h.i1 hb, old_cell h.bl h.i2 hb, old_cell h.bl h.j0 hb, old_cell h.bl h.j1 hb, old_cell h.bl h.j2 hb, h.r.below hb, h.nG, h.nb⟩
theorem Pq0.s' (h : Pq0 w G b p q R SV k2 n2 e2 k0 n0 e0 k1 n1 e1) : PqS G b p q R SV k2 n2 e2 k0 n0 e0 k1 n1 e1 w :=
  ⟨h.s, h.g.c0, h.g.c1, h.g.c2, h.i0, h.i1, h.i2, h.j0, h.j1, h.j2, cellAt_of h.r.c0, cellAt_of h.r.c1, h.r.fz 0, h.r.fz 1⟩
theorem Pq0.held {x y : Int} (h : Pq0 w G b p q R SV k2 n2 e2 k0 n0 e0 k1 n1 e1) (hb : Below w.heap.size w W) (hS : S = (W.setCell ⟨R, 0, none⟩ (.int .i64 x)).setCell ⟨R, 1, none⟩ (.int .i64 y)) : PqS G b p q R SV k2 n2 e2 k0 n0 e0 k1 n1 e1 S := by
  have h' := h.below hb
  subst hS
  have nG := h.nG
  have nb := h.nb
  have ot : ∀ (B o : Nat) (v : Value), B ≠ R → W.cell? ⟨B, o, none⟩ = some v → ((W.setCell ⟨R, 0, none⟩ (.int .i64 x)).setCell ⟨R, 1, none⟩ (.int .i64 y)).cell? ⟨B, o, none⟩ = some v := fun B o v hne hv =>
    (World.cell?_setCell_other _ _ _ _ (by intro c; injection c with c; exact hne c.symm)).trans ((World.cell?_setCell_other _ _ _ _ (by intro c; injection c with c; exact hne c.symm)).trans hv)
  have r1 := h'.r.put x y
  exact ⟨ot _ _ _ (by omega) h'.s, ot _ _ _ (by omega) h'.g.c0, ot _ _ _ (by omega) h'.g.c1, ot _ _ _ (by omega) h'.g.c2, ot _ _ _ (by omega) h'.i0, ot _ _ _ (by omega) h'.i1, ot _ _ _ (by omega) h'.i2, ot _ _ _ (by omega) h'.j0, ot _ _ _ (by omega) h'.j1, ot _ _ _ (by omega) h'.j2, cellAt_of r1.c0, cellAt_of r1.c1, r1.fz 0, r1.fz 1⟩
end
section
variable (w : World)
set_option maxHeartbeats 4000000 in
/-- the model's table -/
theorem stab_any (av : Option Addr) (cap : Nat) (gs : List (Int × Int × Int)) (K N n e : Nat) (hl8 : gs.length ≤ 8) (hc : LiesK w av gs) (hF : FamN gs K N) (hv : VK K n e) (hle : N + N ≤ n + K) :
    Calls Tryz.prog 37 #[.slice av gs.length cap, .agg #[.int .i64 K, .int .i64 n, .int .u32 e]] w fun r w' => (∃ v, r = .returned v ∧ Fr.SlM w' v (Fr.matL gs.length (jG K N n e gs))) ∧ Below w.heap.size w w' := by
  obtain ⟨i0, hi, hz0, hz1, hz2⟩ := info_parts Fr.info_graph
  obtain ⟨i1, ki, kz0, kz1, kz2⟩ := info_parts Fr.info_row
  replace hi := Lib.hid hi
  replace hz0 := Lib.hid hz0
  replace hz1 := Lib.hid hz1
  replace hz2 := Lib.hid hz2
  replace ki := Lib.hid ki
  replace kz0 := Lib.hid kz0
  replace kz1 := Lib.hid kz1
  replace kz2 := Lib.hid kz2
  obtain ⟨h, hh⟩ : ∃ h, h = jG K N n e gs := ⟨_, rfl⟩
  obtain ⟨L, hL⟩ : ∃ L, gs.length = L := ⟨_, rfl⟩
  have hdat : ∀ i j, i < L → j < L → (∀ W, Calls Tryz.prog 64 #[.agg #[.int .i64 K, .int .i64 N, .int .u32 (eAt gs i : Nat)], .agg #[.int .i64 K, .int .i64 N, .int .u32 (eAt gs j : Nat)], .agg #[.int .i64 K, .int .i64 n, .int .u32 e]] W fun r w' => r = .returned (.agg #[.int .i64 (h i j).1, .int .i64 (h i j).2]) ∧ Below W.heap.size W w') := fun i j hi hj W => by
    rw [hh]
    exact sjd_in W K n e N (eAt gs i) N (eAt gs j) hv (hF i (by omega)).2 (hF j (by omega)).2 hle
  have hcel : ∀ i, i < L → ∃ b off, av = some ⟨b, off, none⟩ ∧ b < w.heap.size ∧ w.cell? ⟨b, off + i * 3, none⟩ = some (.int .i64 K) ∧ w.cell? ⟨b, off + i * 3 + 1, none⟩ = some (.int .i64 N) ∧ w.cell? ⟨b, off + i * 3 + 2, none⟩ = some (.int .u32 (eAt gs i : Nat)) := fun i hi => by
    obtain ⟨b, off, e1, e2, e3⟩ := hc i (by omega)
    rw [(hF i (by omega)).1] at e3
    exact ⟨b, off, e1, e2, e3⟩
  rw [← hh, hL]
  rw [hL] at hl8
  have hk0 := FC.made w K n e 43
  obtain ⟨W1, hW1⟩ : ∃ W1, W1 = w.alloc (.cells #[.int .i64 K, .int .i64 n, .int .u32 e] 43) := ⟨_, rfl⟩
  rw [← hW1] at hk0
  have hB1 : Below w.heap.size w W1 := by rw [hW1]; (repeat (first | exact Below.refl _ _ | assumption | refine bchain (by assumption) ?_ | refine balloc ?_ _ | apply Below.drew | apply below_drewN | (refine Below.alloc ?_ (by (try simp) <;> omega) _) | (refine Below.setCell ?_ (by (try simp) <;> omega) _)))
  have hz1' : W1.heap.size = w.heap.size + 1 := by rw [hW1]; simp
  replace hdat := Lib.hid hdat
  replace hcel := Lib.hid hcel
  replace hW1 := Lib.hid hW1
  replace hk0 := Lib.hid hk0
  clear hh hL hc hF hv hle
  go_enter Tryz.func37, Tryz.ntmps37
  go_wp2
  rw [← hW1.out]
  go_loopw [5, 6] (fun v s wr => ∃ k : Nat, k ≤ L ∧ s = .int .i64 k ∧ Hid (Fr.TB W1.heap.size wr v L k h) ∧ Below W1.heap.size W1 wr) (fun _ s _ => L - (intOf s).toNat)
  case atStart =>
    refine ⟨0, by omega, rfl, ?_, by (repeat (first | exact Below.refl _ _ | assumption | refine bchain (by assumption) ?_ | refine balloc ?_ _ | apply Below.drew | apply below_drewN | (refine Below.alloc ?_ (by (try simp) <;> omega) _) | (refine Below.setCell ?_ (by (try simp) <;> omega) _)))⟩
    exact ⟨fun _ => 0, fun _ => 0, fun i hi => absurd hi (by omega), fun i hi => absurd hi (by omega), by rw [← hz1']; exact World.ownsRow_made W1 #[] 0 (Nat.le_refl _) (by omega) rfl⟩
  case round =>
    obtain ⟨k, hk, rfl, hE, hb⟩ := hrel
    by_cases hlt : k < L
    · obtain ⟨wo, rfl⟩ : ∃ wo : World, wo = wr := ⟨_, rfl⟩
      have hkl : (k : Int) < (L : Int) := by omega
      go_wp2
      go_loopw [7, 8] (fun v s wr => ∃ j : Nat, j ≤ L ∧ s = .int .i64 j ∧ Hid (wr.ownsRow wo.heap.size 51 2 v j (Fr.frow (h k) j)) ∧ Below wo.heap.size wo wr) (fun _ s _ => L - (intOf s).toNat)
      case atStart => exact ⟨0, by omega, rfl, World.ownsRow_made wo #[] 0 (Nat.le_refl _) (by omega) rfl, by (repeat (first | exact Below.refl _ _ | assumption | refine bchain (by assumption) ?_ | refine balloc ?_ _ | apply Below.drew | apply below_drewN | (refine Below.alloc ?_ (by (try simp) <;> omega) _) | (refine Below.setCell ?_ (by (try simp) <;> omega) _)))⟩
      case round =>
        obtain ⟨j, hj, rfl, hown, hb2⟩ := hrel
        by_cases hjn : j < L
        · have hjl : (j : Int) < (L : Int) := by omega
          obtain ⟨b, off, rfl, hbl, p0, p1, p2⟩ := hcel.out k hlt
          obtain ⟨b', off', e1, _, q0, q1, q2⟩ := hcel.out j hjn
          injection e1 with e1
          injection e1 with e1 e2
          subst e1 e2
          have hC := Lib.hid (hdat.out k j hlt hjn)
          obtain ⟨x, hx⟩ : ∃ x, (h k j).1 = x := ⟨_, rfl⟩
          obtain ⟨y, hy⟩ : ∃ x, (h k j).2 = x := ⟨_, rfl⟩
          have hxs2 : Hid (Fr.frow (h k) (j + 1) = Fr.frow (h k) j ++ [.int .i64 x, .int .i64 y]) := by
            show _ = _
            rw [Fr.frow_succ, hx, hy]
          rw [hx, hy] at hC
          obtain ⟨x0, hx0⟩ : ∃ x, eAt gs k = x := ⟨_, rfl⟩
          obtain ⟨y0, hy0⟩ : ∃ x, eAt gs j = x := ⟨_, rfl⟩
          rw [hx0] at hC p2
          rw [hy0] at hC q2
          obtain ⟨xs, hxs⟩ : ∃ xs, Fr.frow (h k) j = xs := ⟨_, rfl⟩
          rw [hxs] at hown hxs2
          have hbw : Below w.heap.size w wo := hB1.trans (hb.mono hB1.size)
          have hbr : b < wo.heap.size := Nat.lt_of_lt_of_le hbl hbw.size
          have y0' := old_cell hbl p0 hbw
          have y1' := old_cell hbl p1 hbw
          have y2' := old_cell hbl p2 hbw
          have v0' := old_cell hbl q0 hbw
          have v1' := old_cell hbl q1 hbw
          have v2' := old_cell hbl q2 hbw
          have s0 := old_cell hbr y0' hb2
          have s1 := old_cell hbr y1' hb2
          have s2 := old_cell hbr y2' hb2
          have t0 := old_cell hbr v0' hb2
          have t1 := old_cell hbr v1' hb2
          have t2 := old_cell hbr v2' hb2
          obtain ⟨g0, g1, g2, g3⟩ := hk0.out.below hb
          have z1 := old_cell g0 g1 hb2
          have z2 := old_cell g0 g2 hb2
          have z3 := old_cell g0 g3 hb2
          have hge := hb2.size
          clear hx hy hx0 hy0 hxs p0 p1 p2 q0 q1 q2 hbw
          go_wp2
          go_region_held3 (fun A => A.cell? ⟨b, off + k * 3, none⟩ = some (.int .i64 K) ∧ A.cell? ⟨b, off + k * 3 + 1, none⟩ = some (.int .i64 N) ∧ A.cell? ⟨b, off + k * 3 + 2, none⟩ = some (.int .u32 x0) ∧ A.cell? ⟨b, off + j * 3, none⟩ = some (.int .i64 K) ∧ A.cell? ⟨b, off + j * 3 + 1, none⟩ = some (.int .i64 N) ∧ A.cell? ⟨b, off + j * 3 + 2, none⟩ = some (.int .u32 y0) ∧ A.cell? ⟨w.heap.size, 0, none⟩ = some (.int .i64 K) ∧ A.cell? ⟨w.heap.size, 1, none⟩ = some (.int .i64 n) ∧ A.cell? ⟨w.heap.size, 2, none⟩ = some (.int .u32 e))
            (exact ⟨old_cell hbr y0' (by (repeat (first | exact Below.refl _ _ | assumption | refine bchain (by assumption) ?_ | refine balloc ?_ _ | apply Below.drew | apply below_drewN | (refine Below.alloc ?_ (by (try simp) <;> omega) _) | (refine Below.setCell ?_ (by (try simp) <;> omega) _)))), old_cell hbr y1' (by (repeat (first | exact Below.refl _ _ | assumption | refine bchain (by assumption) ?_ | refine balloc ?_ _ | apply Below.drew | apply below_drewN | (refine Below.alloc ?_ (by (try simp) <;> omega) _) | (refine Below.setCell ?_ (by (try simp) <;> omega) _)))), old_cell hbr y2' (by (repeat (first | exact Below.refl _ _ | assumption | refine bchain (by assumption) ?_ | refine balloc ?_ _ | apply Below.drew | apply below_drewN | (refine Below.alloc ?_ (by (try simp) <;> omega) _) | (refine Below.setCell ?_ (by (try simp) <;> omega) _)))), old_cell hbr v0' (by (repeat (first | exact Below.refl _ _ | assumption | refine bchain (by assumption) ?_ | refine balloc ?_ _ | apply Below.drew | apply below_drewN | (refine Below.alloc ?_ (by (try simp) <;> omega) _) | (refine Below.setCell ?_ (by (try simp) <;> omega) _)))), old_cell hbr v1' (by (repeat (first | exact Below.refl _ _ | assumption | refine bchain (by assumption) ?_ | refine balloc ?_ _ | apply Below.drew | apply below_drewN | (refine Below.alloc ?_ (by (try simp) <;> omega) _) | (refine Below.setCell ?_ (by (try simp) <;> omega) _)))), old_cell hbr v2' (by (repeat (first | exact Below.refl _ _ | assumption | refine bchain (by assumption) ?_ | refine balloc ?_ _ | apply Below.drew | apply below_drewN | (refine Below.alloc ?_ (by (try simp) <;> omega) _) | (refine Below.setCell ?_ (by (try simp) <;> omega) _)))), old_cell g0 g1 (by (repeat (first | exact Below.refl _ _ | assumption | refine bchain (by assumption) ?_ | refine balloc ?_ _ | apply Below.drew | apply below_drewN | (refine Below.alloc ?_ (by (try simp) <;> omega) _) | (refine Below.setCell ?_ (by (try simp) <;> omega) _)))), old_cell g0 g2 (by (repeat (first | exact Below.refl _ _ | assumption | refine bchain (by assumption) ?_ | refine balloc ?_ _ | apply Below.drew | apply below_drewN | (refine Below.alloc ?_ (by (try simp) <;> omega) _) | (refine Below.setCell ?_ (by (try simp) <;> omega) _)))), old_cell g0 g3 (by (repeat (first | exact Below.refl _ _ | assumption | refine bchain (by assumption) ?_ | refine balloc ?_ _ | apply Below.drew | apply below_drewN | (refine Below.alloc ?_ (by (try simp) <;> omega) _) | (refine Below.setCell ?_ (by (try simp) <;> omega) _))))⟩)
            (first
              | (go_at_call 64; refine (hC.out _).mono ?_; rintro r7 w7 ⟨rfl, hb7⟩; have hx7 : Below wr.heap.size wr w7 := (by (repeat (first | exact Below.refl _ _ | assumption | refine bchain (by assumption) ?_ | refine balloc ?_ _ | apply Below.drew | apply below_drewN | (refine Below.alloc ?_ (by (try simp) <;> omega) _) | (refine Below.setCell ?_ (by (try simp) <;> omega) _)))); have hown7 := Lib.hid (row_below hown.out hx7); have hz7 := hx7.size; have hx7o : Below wo.heap.size wo w7 := hb2.trans (hx7.mono hge))
              | (refine step_append_own rfl (.tmp 23) (.tmp 34) 57 rfl wo.heap.size 51 i0 (.agg #[.int .i64 0, .int .i64 0]) 2 16 Tryz.underlying57 hi.out hz0.out hz1.out hz2.out rfl (by decide) _ j xs (by simp [Act.eval]) (hown7.out.alloc _) ⟨w7.heap.size, 0, none⟩ 1 1 [.int .i64 x, .int .i64 y] (by simp [Act.eval]) rfl (fun q u hq => by match q, hq with
              | 0, hq => simp at hq; subst hq; rw [show (⟨w7.heap.size, 0, none⟩ : Addr).add 0 = ⟨w7.heap.size, 0, none⟩ from rfl, World.cell?_alloc_new]; rfl
              | 1, hq => simp at hq; subst hq; rw [show (⟨w7.heap.size, 0, none⟩ : Addr).add 1 = ⟨w7.heap.size, 1, none⟩ from rfl, World.cell?_alloc_new]; rfl
              | q + 2, hq => simp at hq) (fun u hu => by simp at hu; rcases hu with rfl | rfl <;> rfl) (by unfold maxLen; omega) (by omega) (by simp; omega) ?_; intro v' w8 hown' hgrow; have hb8 : Below wo.heap.size wo w8 := (((hx7o).alloc (by omega) _).grown hgrow (by simp; omega) (fun q hq => (hown7.out.lt q hq).1))))
          have hown8 : Hid (w8.ownsRow wo.heap.size 51 2 v' (j + 1) (Fr.frow (h k) (j + 1))) := by
            show World.ownsRow _ _ _ _ _ _ _
            rw [hxs2.out]
            exact hown'
          clear hown' hgrow hown hown7 hb7 hx7 hx7o s0 s1 s2 t0 t1 t2 g0 g1 g2 g3 z1 z2 z3 y0' y1' y2' v0' v1' v2'
          go_wp2
          go_roundw
          case rel => exact ⟨j + 1, by omega, by go_num, hown8, hb8⟩
          case measure => simp [intOf]; omega
        · obtain rfl : j = L := by omega
          have hdd := decide_eq_false (show ¬ ((j : Int) < (j : Int)) by omega)
          obtain ⟨R, C, hR, hC, hO⟩ := hE.out
          obtain ⟨g, c, hvv⟩ := Go.Joins.ownsRow_form hown.out (by omega)
          subst hvv
          have hkept := Lib.hid (hO.kept (row := none) (w' := wr) ⟨hb2.os, hb2.tape, hb2.output, hb2.size, fun k hk _ => hb2.block k hk⟩ (by cases (Value.ownBlock _) <;> simp))
          replace hR := Lib.hid hR
          replace hC := Lib.hid hC
          replace hO := Lib.hid hO
          have hge := hb.size
          have hge2 := hb2.size
          clear hE
          go_wp2_with (at_builtin; refine wpList_append_own _ rfl _ _ 27 rfl W1.heap.size 57 i1 (.slice none 0 0) 1 24 Tryz.underlying27 ki.out kz0.out kz1.out kz2.out rfl (by decide) _ _ _ rfl (hkept.out.alloc _) ⟨wr.heap.size, 0, none⟩ 1 1 [.slice (some ⟨g, 0, none⟩) j c] rfl rfl (fun q u hq => by cases q with | zero => simp at hq; subst hq; rw [show (⟨wr.heap.size, 0, none⟩ : Addr).add 0 = ⟨wr.heap.size, 0, none⟩ from rfl, World.cell?_alloc_new]; rfl | succ q => simp at hq) (fun u hu => by simp at hu; subst hu; rfl) (by unfold maxLen; omega) (by omega) (by simp; omega) ?_; intro v' w4 hown' hgrow _)
          have hE4 := Lib.hid (Fr.TB_next hR.out hC.out hO.out (by omega) hb2 hown.out _ hgrow hown')
          have hB4 : Below W1.heap.size W1 w4 := ((hb.trans (hb2.mono hge)).alloc (by omega) _).grown hgrow (by simp; omega) (fun k hk => (hO.out.lt k hk).1)
          clear hown' hgrow hkept hR hC hO hown
          go_wp2
          go_roundw
          case rel => exact ⟨k + 1, by omega, by go_num, hE4.out, hB4⟩
          case measure => simp [intOf]; omega
    · obtain rfl : k = L := by omega
      have hdd := decide_eq_false (show ¬ ((k : Int) < (k : Int)) by omega)
      go_wp2
      go_ret
      exact ⟨⟨_, rfl, hE.out.done.slm⟩, hB1.trans (hb.mono hB1.size)⟩
end
end Go.Proofs.YtncbimbbkealmaaGreatDoor
/-
  PAIRTABLE: the program's and the model's. (made by gen_ptb.py)
-/
namespace Go.Proofs.YtncbimbbkealmaaGreatDoor
open Go.RowKit Go.Shelf
set_option maxRecDepth 100000
attribute [local go_sem] Oper.semAt_some
/-- the boxes of the call: the list's and the flag's -/
structure PtB (W : World) (G : Nat) (v : Value) (k n e : Int) : Prop where
  s : W.cell? ⟨G, 0, none⟩ = some v
  g : FC W (G + 1) k n e
theorem PtB.lt {W : World} {G : Nat} {v : Value} {k n e : Int} (h : PtB W G v k n e) : G < W.heap.size := by have := h.g.lt; omega
theorem PtB.below {w W : World} {G : Nat} {v : Value} {k n e : Int} (h : PtB w G v k n e) (hb : Below w.heap.size w W) : PtB W G v k n e := ⟨old_cell h.lt h.s hb, h.g.below hb⟩
/-- the code -/
def ptc (B : Bool) : Int := if B then 2 else 0
def PtP (B : Bool) (w W : World) (L : Nat) (g : Nat → Nat → Int × Int) (u : Value) : Prop := (B = true → u = .slice none 0 0) ∧ (B = false → Fr.MR w.heap.size W u L (Fr.gv L g))
def PtQ (B : Bool) (W : World) (L : Nat) (g : Nat → Nat → Int × Int) (u : Value) : Prop := (B = true → Fr.SlM W u []) ∧ (B = false → Fr.SlM W u (Fr.matL L g))
theorem ptB_made (w : World) (v : Value) (k n e : Int) : PtB ((w.alloc (.cells #[v] 30)).alloc (.cells #[.int .i64 k, .int .i64 n, .int .u32 e] 43)) w.heap.size v k n e := by
  have hF := FC.made (w.alloc (.cells #[v] 30)) k n e 43
  rw [World.size_alloc] at hF
  exact ⟨by simp [go_sem], hF⟩
section
variable (w : World)
end
end Go.Proofs.YtncbimbbkealmaaGreatDoor
namespace Go.Proofs.YtncbimbbkealmaaGreatDoor
open Go.RowKit Go.Shelf
set_option maxRecDepth 100000
attribute [local go_sem] Oper.semAt_some
section
variable (w : World)
theorem slM_nil {W : World} {a : Option Addr} : Fr.SlM W (.slice a 0 0) [] := ⟨a, 0, rfl, Nat.le_refl _, by omega, fun c => absurd rfl c⟩
end
end Go.Proofs.YtncbimbbkealmaaGreatDoor
namespace Go.Proofs.YtncbimbbkealmaaGreatDoor
open Go.RowKit
set_option maxRecDepth 100000
theorem LiesK.at {w : World} {b off : Nat} {gs : List (Int × Int × Int)} (h : LiesK w (some ⟨b, off, none⟩) gs) : ∀ i, i < gs.length → KCell w b off (kAt gs i) i := fun i hi => by
  obtain ⟨b', off', e, _, hc⟩ := h i hi
  cases e
  exact hc
theorem iav_all (gs : List (Int × Int × Int)) (hm : gs.length ≤ 1048576) (hbd : BdK gs) : ∃ B : Bool, (B = true ↔ AllK gs) ∧ ∀ W a cap, LiesK W a gs → Calls Tryz.prog 19 #[.slice a gs.length cap] W fun r w' => r = .returned (.bool B) ∧ Below W.heap.size W w' := by
  by_cases h : AllK gs
  · exact ⟨true, by simp [h], fun W a cap hl => avk_t W a cap gs hm hl h⟩
  · obtain ⟨m, h1, h2, h3⟩ := not_allK h
    exact ⟨false, by simp [h], fun W a cap hl => avk_f W a cap gs hm hl hbd m h1 h2 h3⟩
theorem code_one {F G : Prop} {c c' : Int} (p : (c = 0 ↔ F) ∧ (c = 3 ↔ G) ∧ (c = 0 ∨ c = 3 ∨ c = 4)) (q : (c' = 0 ↔ F) ∧ (c' = 3 ↔ G) ∧ (c' = 0 ∨ c' = 3 ∨ c' = 4)) : c' = c := by
  obtain ⟨p1, p2, p3⟩ := p
  obtain ⟨q1, q2, q3⟩ := q
  by_cases f : F
  · rw [p1.2 f, q1.2 f]
  · by_cases g : G
    · rw [p2.2 g, q2.2 g]
    · have a1 : c ≠ 0 := fun t => f (p1.1 t)
      have a2 : c ≠ 3 := fun t => g (p2.1 t)
      have b1 : c' ≠ 0 := fun t => f (q1.1 t)
      have b2 : c' ≠ 3 := fun t => g (q2.1 t)
      omega
theorem mr_nil {b0 : Nat} {W : World} {g : Nat → Int} : Fr.MR b0 W (.slice none 0 0) 0 g := .inl ⟨rfl, none, 0, rfl, by omega⟩
end Go.Proofs.YtncbimbbkealmaaGreatDoor
