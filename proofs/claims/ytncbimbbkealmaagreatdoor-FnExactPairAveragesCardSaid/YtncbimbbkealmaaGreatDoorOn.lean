/-
  THE GRAPH ON A LIST OF DIFFERENT VERTICES: the program's and the model's, for every such list.
-/
import Derived.Test.YtncbimbbkealmaaGreatDoorPlain
import Derived.Deep.RegionWith
import Derived.StillTailTactics
namespace Go.Proofs.YtncbimbbkealmaaGreatDoor
open Go.RowKit
set_option maxRecDepth 100000

section
variable (w : World)

theorem ion_empty (a : Option Addr) (cap : Nat) (n e : Nat) :
    Calls Tryz.prog 75 #[.agg #[.int .i64 n, .int .u32 e], .slice a 0 cap] w fun r w' => r = .returned (.agg #[.int .i64 0, .int .u32 0]) ∧ Below w.heap.size w w' := by
  go_enter Tryz.func75, Tryz.ntmps75
  go_wp2
  go_loopw [15] (fun i wr => i = .int .i64 0 ∧ P3 wr w.heap.size n e 0 0 ∧ Below w.heap.size w wr) (fun _ _ => 0)
  case atStart => exact ⟨rfl, P3.start w _ _ _ _, by (repeat (first | exact Below.refl _ _ | assumption | refine bchain (by assumption) ?_ | refine balloc ?_ _ | apply Below.drew | apply below_drewN | (refine Below.alloc ?_ (by (try simp) <;> omega) _) | (refine Below.setCell ?_ (by (try simp) <;> omega) _)))⟩
  case round =>
    obtain ⟨rfl, hP, hb⟩ := hrel
    obtain ⟨q0, q1, q2, q3, q4, q5, q6, q7, q8, q9⟩ := hP
    go_wp2
    have h2 := twoCells q3 q4 (.int .i64 0) (.int .u32 0)
    exact bodyPost_ret (v := .agg #[.int .i64 0, .int .u32 0]) (by simp [results, Tryz.results75, go_sem, h2.1, h2.2]) rfl ⟨rfl, by (repeat (first | exact Below.refl _ _ | assumption | refine bchain (by assumption) ?_ | refine balloc ?_ _ | apply Below.drew | apply below_drewN | (refine Below.alloc ?_ (by (try simp) <;> omega) _) | (refine Below.setCell ?_ (by (try simp) <;> omega) _)))⟩

theorem ion_some (b off cap : Nat) (zs : List Int) (n e : Nat) (h1 : 0 < zs.length) (h2 : zs.length ≤ cap) (h3 : cap ≤ 9223372036854775807) (hb : b < w.heap.size) (hn5 : n ≤ 5) (he : e < 4294967296)
    (hc : ∀ i, i < zs.length → w.cell? ⟨b, off + i, none⟩ = some (.int .i64 (zs[i]?.getD 0))) (hd : Diff zs n) :
    Calls Tryz.prog 75 #[.agg #[.int .i64 n, .int .u32 e], .slice (some ⟨b, off, none⟩) zs.length cap] w fun r w' => r = .returned (.agg #[.int .i64 zs.length, .int .u32 (onE e (vx zs) zs.length : Nat)]) ∧ Below w.heap.size w w' := by
  obtain ⟨l, hl⟩ : ∃ l, l = zs.length := ⟨_, rfl⟩
  have hl5 : l ≤ 5 := by have := hd.length_le; omega
  rw [← hl] at h1 h2 ⊢
  replace hl := Lib.hid hl
  replace hc := Lib.hid hc
  replace hd := Lib.hid hd
  go_enter Tryz.func75, Tryz.ntmps75
  go_wp2
  go_loopw [6, 7, 15] (fun _ _ i wr => ∃ j : Nat, j ≤ l ∧ i = .int .i64 j ∧ P3 wr w.heap.size n e l (onE e (vx zs) j) ∧ Below w.heap.size w wr) (fun _ _ i _ => l - (intOf i).toNat)
  case atStart => exact ⟨0, by omega, rfl, P3.start w _ _ _ _, by (repeat (first | exact Below.refl _ _ | assumption | refine bchain (by assumption) ?_ | refine balloc ?_ _ | apply Below.drew | apply below_drewN | (refine Below.alloc ?_ (by (try simp) <;> omega) _) | (refine Below.setCell ?_ (by (try simp) <;> omega) _)))⟩
  case round =>
    obtain ⟨j, hj, rfl, hP, hB⟩ := hrel
    by_cases hlt : j < l
    · have hP0 := Lib.hid hP
      obtain ⟨q0, q1, q2, q3, q4, q5, q6, q7, q8, q9⟩ := hP
      have hB0 := hB
      have hs1 : wr.cell? ⟨b, off + j, none⟩ = some (.int .i64 (vx zs j : Nat)) := by rw [hB.cell (p := ⟨b, off + j, none⟩) hb, hc.out j (by have := hl.out; omega)]; exact congrArg (fun x => some (Value.int .i64 x)) (hd.out.vx_eq (by have := hl.out; omega))
      obtain ⟨x0, hx0⟩ : ∃ x : Nat, onE e (vx zs) j = x := ⟨_, rfl⟩
      rw [hx0] at q6 hP0
      replace hx0 := Lib.hid hx0
      go_wp2
      obtain ⟨wo, rfl⟩ : ∃ wo : World, wo = wr := ⟨_, rfl⟩
      clear q0 q1 q2 q3 q4 q5 q6 q7 q8 q9
      go_loopw [8, 9, 24] (fun _ _ i wr => ∃ i' : Nat, i' ≤ j ∧ i = .int .i64 i' ∧ P3 wr w.heap.size n e l (accE e (vx zs) j i') ∧ Below w.heap.size w wr) (fun _ _ i _ => j - (intOf i).toNat)
      case atStart => exact ⟨0, by omega, rfl, by rw [accE_zero, hx0.out]; exact hP0.out, hB0⟩
      case round =>
        obtain ⟨i, hi, rfl, hP, hB2⟩ := hrel
        by_cases hlt2 : i < j
        · have hvi : vx zs i ≤ 4 := by have := hd.out.vx_lt (i := i) (by have := hl.out; omega); omega
          have hvj : vx zs j ≤ 4 := by have := hd.out.vx_lt (i := j) (by have := hl.out; omega); omega
          have hvne := hd.out.vx_ne hlt2 (by have := hl.out; omega)
          have hs1 : wr.cell? ⟨b, off + j, none⟩ = some (.int .i64 (vx zs j : Nat)) := by rw [hB2.cell (p := ⟨b, off + j, none⟩) hb, hc.out j (by have := hl.out; omega)]; exact congrArg (fun x => some (Value.int .i64 x)) (hd.out.vx_eq (by have := hl.out; omega))
          have hs2 : wr.cell? ⟨b, off + i, none⟩ = some (.int .i64 (vx zs i : Nat)) := by rw [hB2.cell (p := ⟨b, off + i, none⟩) hb, hc.out i (by have := hl.out; omega)]; exact congrArg (fun x => some (Value.int .i64 x)) (hd.out.vx_eq (by have := hl.out; omega))
          have hJ := fun W => joined_any W n e (vx zs i) (vx zs j) he hvi hvj
          have hBt := Lib.hid (fun W => pbit_any W i j (by omega) (by omega))
          have hpl := pb_le i j (by omega) (by omega)
          have hac := accE_lt e (vx zs) j i hi (by omega)
          have hor := u32_or_nat (accE e (vx zs) j i) (pb i j) (by omega) (by omega)
          have hwi : IntKind.i64.wrap (i : Int) = i := IntWalk.i64_in _ (by omega)
          have hlt3 : (i : Int) < (j : Int) := by omega
          have hlt4 : i < l := by omega
          cases hjn : jn e (vx zs i) (vx zs j)
          · have hnx := Lib.hid (accE_f e (vx zs) j i hjn)
            rw [hjn] at hJ
            replace hJ := Lib.hid hJ
            clear hor hpl
            obtain ⟨x, hx⟩ : ∃ x : Nat, accE e (vx zs) j i = x := ⟨_, rfl⟩
            rw [hx] at hP hnx hac
            obtain ⟨u, hu⟩ : ∃ u : Nat, vx zs i = u := ⟨_, rfl⟩
            rw [hu] at hJ
            rw [hu] at hs2
            clear hjn hvi hvj hvne hx hu
            have hP0 := Lib.hid hP
            obtain ⟨q0, q1, q2, q3, q4, q5, q6, q7, q8, q9⟩ := hP
            go_wp2_with fail
            refine (hJ.out _).mono ?_
            rintro r3 w3 ⟨rfl, hb3⟩
            have hPe := hP0.out.below hb3
            go_wp2
            go_roundw
            case rel => exact ⟨i + 1, by omega, by go_num, by rw [hnx.out]; exact hPe, by (repeat (first | exact Below.refl _ _ | assumption | refine bchain (by assumption) ?_ | refine balloc ?_ _ | apply Below.drew | apply below_drewN | (refine Below.alloc ?_ (by (try simp) <;> omega) _) | (refine Below.setCell ?_ (by (try simp) <;> omega) _)))⟩
            case measure => simp [intOf]; omega
          · have hnx := Lib.hid (accE_t e (vx zs) j i hjn)
            rw [hjn] at hJ
            replace hJ := Lib.hid hJ
            obtain ⟨y, hy⟩ : ∃ y : Nat, accE e (vx zs) j i ||| pb i j = y := ⟨_, rfl⟩
            rw [hy] at hor hnx
            obtain ⟨x, hx⟩ : ∃ x : Nat, accE e (vx zs) j i = x := ⟨_, rfl⟩
            rw [hx] at hP hor
            obtain ⟨z, hz⟩ : ∃ z : Nat, pb i j = z := ⟨_, rfl⟩
            rw [hz] at hor hBt
            obtain ⟨u, hu⟩ : ∃ u : Nat, vx zs i = u := ⟨_, rfl⟩
            rw [hu] at hJ
            rw [hu] at hs2
            clear hjn hvi hvj hvne hx hy hz hu hpl hac
            have hP0 := Lib.hid hP
            obtain ⟨q0, q1, q2, q3, q4, q5, q6, q7, q8, q9⟩ := hP
            go_wp2_with fail
            refine (hJ.out _).mono ?_
            rintro r3 w3 ⟨rfl, hb3⟩
            have hPe := hP0.out.below hb3
            clear q0 q1 q2 q3 q4 q5 q6 q7 q8 q9
            obtain ⟨q0, q1, q2, q3, q4, q5, q6, q7, q8, q9⟩ := hPe
            have hPe := Lib.hid (hP0.out.below hb3)
            replace hPe := hPe.out
            go_wp2
            go_region_with (go_at_call 97; refine (hBt.out _).mono ?_; rintro r4 w4 ⟨rfl, rfl⟩)
            all_goals go_wp2
            all_goals
              go_roundw
              case rel => exact ⟨i + 1, by omega, by go_num, by rw [hnx.out]; exact (hPe.set _).drew, by (repeat (first | exact Below.refl _ _ | assumption | refine bchain (by assumption) ?_ | refine balloc ?_ _ | apply Below.drew | apply below_drewN | (refine Below.alloc ?_ (by (try simp) <;> omega) _) | (refine Below.setCell ?_ (by (try simp) <;> omega) _)))⟩
              case measure => simp [intOf]; omega
        · obtain rfl : i = j := by omega
          have hdd := decide_eq_false (show ¬ ((i : Int) < (i : Int)) by omega)
          rw [accE_end] at hP
          replace hP := Lib.hid hP
          go_wp2
          go_roundw
          case rel => exact ⟨i + 1, by omega, by go_num, hP.out, by (repeat (first | exact Below.refl _ _ | assumption | refine bchain (by assumption) ?_ | refine balloc ?_ _ | apply Below.drew | apply below_drewN | (refine Below.alloc ?_ (by (try simp) <;> omega) _) | (refine Below.setCell ?_ (by (try simp) <;> omega) _)))⟩
          case measure => simp [intOf]; omega
    · obtain rfl : j = l := by omega
      have hdd := decide_eq_false (show ¬ ((j : Int) < (j : Int)) by omega)
      have hx := Lib.hid hl.out
      obtain ⟨x0, hx0⟩ : ∃ x : Nat, onE e (vx zs) j = x := ⟨_, rfl⟩
      rw [hx0] at hP
      replace hx0 := Lib.hid hx0
      obtain ⟨q0, q1, q2, q3, q4, q5, q6, q7, q8, q9⟩ := hP
      go_wp2
      have h2 := twoCells q3 q4 (.int .i64 j) (.int .u32 x0)
      exact bodyPost_ret (v := .agg #[.int .i64 j, .int .u32 x0]) (by simp [results, Tryz.results75, go_sem, h2.1, h2.2]) rfl ⟨by rw [hx0.out], by (repeat (first | exact Below.refl _ _ | assumption | refine bchain (by assumption) ?_ | refine balloc ?_ _ | apply Below.drew | apply below_drewN | (refine Below.alloc ?_ (by (try simp) <;> omega) _) | (refine Below.setCell ?_ (by (try simp) <;> omega) _)))⟩

theorem ion_any (v : Value) (zs : List Int) (n e : Nat) (h : SlI w v zs) (hn5 : n ≤ 5) (he : e < 4294967296) (hd : Diff zs n) :
    Calls Tryz.prog 75 #[.agg #[.int .i64 n, .int .u32 e], v] w fun r w' => r = .returned (.agg #[.int .i64 zs.length, .int .u32 (onE e (vx zs) zs.length : Nat)]) ∧ Below w.heap.size w w' := by
  obtain ⟨a, cap, rfl, h1, h2, h3⟩ := h
  cases zs with
  | nil => exact ion_empty w a cap n e
  | cons z zs =>
    obtain ⟨b, off, rfl, hb, hc⟩ := h3 (by simp)
    exact ion_some w b off cap (z :: zs) n e (by simp) h1 h2 hb hn5 he hc hd

theorem son_empty (a : Option Addr) (cap : Nat) (n e : Nat) :
    Calls Tryz.prog 58 #[.agg #[.int .i64 n, .int .u32 e], .slice a 0 cap] w fun r w' => r = .returned (.agg #[.int .i64 0, .int .u32 0]) ∧ Below w.heap.size w w' := by
  go_enter Tryz.func58, Tryz.ntmps58
  go_wp2
  go_loopw [6] (fun i wr => i = .int .i64 1 ∧ P3 wr w.heap.size n e 0 0 ∧ Below w.heap.size w wr) (fun _ _ => 0)
  case atStart => exact ⟨rfl, P3.start w _ _ _ _, by (repeat (first | exact Below.refl _ _ | assumption | refine bchain (by assumption) ?_ | refine balloc ?_ _ | apply Below.drew | apply below_drewN | (refine Below.alloc ?_ (by (try simp) <;> omega) _) | (refine Below.setCell ?_ (by (try simp) <;> omega) _)))⟩
  case round =>
    obtain ⟨rfl, hP, hb⟩ := hrel
    obtain ⟨q0, q1, q2, q3, q4, q5, q6, q7, q8, q9⟩ := hP
    go_wp2
    have h2 := twoCells q3 q4 (.int .i64 0) (.int .u32 0)
    exact bodyPost_ret (v := .agg #[.int .i64 0, .int .u32 0]) (by simp [results, Tryz.results58, go_sem, h2.1, h2.2]) rfl ⟨rfl, by (repeat (first | exact Below.refl _ _ | assumption | refine bchain (by assumption) ?_ | refine balloc ?_ _ | apply Below.drew | apply below_drewN | (refine Below.alloc ?_ (by (try simp) <;> omega) _) | (refine Below.setCell ?_ (by (try simp) <;> omega) _)))⟩

theorem son_some (b off cap : Nat) (zs : List Int) (n e : Nat) (h1 : 0 < zs.length) (h2 : zs.length ≤ cap) (h3 : cap ≤ 9223372036854775807) (hb : b < w.heap.size) (hn5 : n ≤ 5) (he : e < 4294967296)
    (hc : ∀ i, i < zs.length → w.cell? ⟨b, off + i, none⟩ = some (.int .i64 (zs[i]?.getD 0))) (hd : Diff zs n) :
    Calls Tryz.prog 58 #[.agg #[.int .i64 n, .int .u32 e], .slice (some ⟨b, off, none⟩) zs.length cap] w fun r w' => r = .returned (.agg #[.int .i64 zs.length, .int .u32 (onE e (vx zs) zs.length : Nat)]) ∧ Below w.heap.size w w' := by
  obtain ⟨l, hl⟩ : ∃ l, l = zs.length := ⟨_, rfl⟩
  have hl5 : l ≤ 5 := by have := hd.length_le; omega
  rw [← hl] at h1 h2 ⊢
  replace hl := Lib.hid hl
  replace hc := Lib.hid hc
  replace hd := Lib.hid hd
  go_enter Tryz.func58, Tryz.ntmps58
  go_wp2
  go_loopw [6] (fun i wr => ∃ j : Nat, 1 ≤ j ∧ j ≤ l ∧ i = .int .i64 j ∧ P3 wr w.heap.size n e l (onE e (vx zs) j) ∧ Below w.heap.size w wr) (fun i _ => l - (intOf i).toNat)
  case atStart => exact ⟨1, by omega, by omega, rfl, by rw [show onE e (vx zs) 1 = 0 by simp [onE, rowE]]; exact P3.start w _ _ _ _, by (repeat (first | exact Below.refl _ _ | assumption | refine bchain (by assumption) ?_ | refine balloc ?_ _ | apply Below.drew | apply below_drewN | (refine Below.alloc ?_ (by (try simp) <;> omega) _) | (refine Below.setCell ?_ (by (try simp) <;> omega) _)))⟩
  case round =>
    obtain ⟨j, hj1, hj, rfl, hP, hB⟩ := hrel
    by_cases hlt : j < l
    · have hP0 := Lib.hid hP
      obtain ⟨q0, q1, q2, q3, q4, q5, q6, q7, q8, q9⟩ := hP
      have hB0 := hB
      obtain ⟨x0, hx0⟩ : ∃ x : Nat, onE e (vx zs) j = x := ⟨_, rfl⟩
      rw [hx0] at q6 hP0
      replace hx0 := Lib.hid hx0
      go_wp2
      obtain ⟨wo, rfl⟩ : ∃ wo : World, wo = wr := ⟨_, rfl⟩
      clear q0 q1 q2 q3 q4 q5 q6 q7 q8 q9
      go_loopw [7] (fun i wr => ∃ i' : Nat, i' ≤ j ∧ i = .int .i64 i' ∧ P3 wr w.heap.size n e l (accE e (vx zs) j i') ∧ Below w.heap.size w wr) (fun i _ => j - (intOf i).toNat)
      case atStart => exact ⟨0, by omega, rfl, by rw [accE_zero, hx0.out]; exact hP0.out, hB0⟩
      case round =>
        obtain ⟨i, hi, rfl, hP, hB2⟩ := hrel
        by_cases hlt2 : i < j
        · have hvi : vx zs i ≤ 4 := by have := hd.out.vx_lt (i := i) (by have := hl.out; omega); omega
          have hvj : vx zs j ≤ 4 := by have := hd.out.vx_lt (i := j) (by have := hl.out; omega); omega
          have hvne := hd.out.vx_ne hlt2 (by have := hl.out; omega)
          have hs1 : wr.cell? ⟨b, off + j, none⟩ = some (.int .i64 (vx zs j : Nat)) := by rw [hB2.cell (p := ⟨b, off + j, none⟩) hb, hc.out j (by have := hl.out; omega)]; exact congrArg (fun x => some (Value.int .i64 x)) (hd.out.vx_eq (by have := hl.out; omega))
          have hs2 : wr.cell? ⟨b, off + i, none⟩ = some (.int .i64 (vx zs i : Nat)) := by rw [hB2.cell (p := ⟨b, off + i, none⟩) hb, hc.out i (by have := hl.out; omega)]; exact congrArg (fun x => some (Value.int .i64 x)) (hd.out.vx_eq (by have := hl.out; omega))
          have hJ := fun W => sjoined_any W n e (vx zs i) (vx zs j) he hvi hvj hvne
          have hBt := Lib.hid (fun W => sbit_any W i j (by omega) (by omega))
          have hpl := pb_le i j (by omega) (by omega)
          have hac := accE_lt e (vx zs) j i hi (by omega)
          have hor := u32_or_nat (accE e (vx zs) j i) (pb i j) (by omega) (by omega)
          have hwi : IntKind.i64.wrap (i : Int) = i := IntWalk.i64_in _ (by omega)
          have hlt3 : (i : Int) < (j : Int) := by omega
          have hlt4 : i < l := by omega
          cases hjn : jn e (vx zs i) (vx zs j)
          · have hnx := Lib.hid (accE_f e (vx zs) j i hjn)
            rw [hjn] at hJ
            replace hJ := Lib.hid hJ
            clear hor hpl
            obtain ⟨x, hx⟩ : ∃ x : Nat, accE e (vx zs) j i = x := ⟨_, rfl⟩
            rw [hx] at hP hnx hac
            obtain ⟨u, hu⟩ : ∃ u : Nat, vx zs i = u := ⟨_, rfl⟩
            obtain ⟨v, hv⟩ : ∃ v : Nat, vx zs j = v := ⟨_, rfl⟩
            rw [hu, hv] at hJ
            rw [hu] at hs2
            rw [hv] at hs1
            clear hjn hvi hvj hvne hx hu hv
            have hP0 := Lib.hid hP
            obtain ⟨q0, q1, q2, q3, q4, q5, q6, q7, q8, q9⟩ := hP
            go_wp2
            go_still_tail 9, (by kernel_rfl)
            change wpList _ _ _ _ _ wr.drew
            go_wp2_with fail
            refine (hJ.out _).mono ?_
            rintro r3 w3 ⟨rfl, hb3⟩
            have hPe := hP0.out.drew.below hb3
            go_wp2
            go_roundw
            case rel => exact ⟨i + 1, by omega, by go_num, by rw [hnx.out]; exact hPe, by (repeat (first | exact Below.refl _ _ | assumption | refine bchain (by assumption) ?_ | refine balloc ?_ _ | apply Below.drew | apply below_drewN | (refine Below.alloc ?_ (by (try simp) <;> omega) _) | (refine Below.setCell ?_ (by (try simp) <;> omega) _)))⟩
            case measure => simp [intOf]; omega
          · have hnx := Lib.hid (accE_t e (vx zs) j i hjn)
            rw [hjn] at hJ
            replace hJ := Lib.hid hJ
            obtain ⟨y, hy⟩ : ∃ y : Nat, accE e (vx zs) j i ||| pb i j = y := ⟨_, rfl⟩
            rw [hy] at hor hnx
            obtain ⟨x, hx⟩ : ∃ x : Nat, accE e (vx zs) j i = x := ⟨_, rfl⟩
            rw [hx] at hP hor
            obtain ⟨z, hz⟩ : ∃ z : Nat, pb i j = z := ⟨_, rfl⟩
            rw [hz] at hor hBt
            obtain ⟨u, hu⟩ : ∃ u : Nat, vx zs i = u := ⟨_, rfl⟩
            obtain ⟨v, hv⟩ : ∃ v : Nat, vx zs j = v := ⟨_, rfl⟩
            rw [hu, hv] at hJ
            rw [hu] at hs2
            rw [hv] at hs1
            clear hjn hvi hvj hvne hx hy hz hu hv hpl hac
            have hP0 := Lib.hid hP
            obtain ⟨q0, q1, q2, q3, q4, q5, q6, q7, q8, q9⟩ := hP
            go_wp2
            go_still_tail 9, (by kernel_rfl)
            change wpList _ _ _ _ _ wr.drew
            go_wp2_with fail
            refine (hJ.out _).mono ?_
            rintro r3 w3 ⟨rfl, hb3⟩
            have hPe := hP0.out.drew.below hb3
            clear q0 q1 q2 q3 q4 q5 q6 q7 q8 q9
            obtain ⟨q0, q1, q2, q3, q4, q5, q6, q7, q8, q9⟩ := hPe
            have hPe := Lib.hid (hP0.out.drew.below hb3)
            replace hPe := hPe.out
            go_wp2
            go_region_with (go_at_call 78; refine (hBt.out _).mono ?_; rintro r4 w4 ⟨rfl, rfl⟩)
            all_goals go_wp2
            all_goals
              go_roundw
              case rel => exact ⟨i + 1, by omega, by go_num, by rw [hnx.out]; exact (hPe.set _).drew, by (repeat (first | exact Below.refl _ _ | assumption | refine bchain (by assumption) ?_ | refine balloc ?_ _ | apply Below.drew | apply below_drewN | (refine Below.alloc ?_ (by (try simp) <;> omega) _) | (refine Below.setCell ?_ (by (try simp) <;> omega) _)))⟩
              case measure => simp [intOf]; omega
        · obtain rfl : i = j := by omega
          have hdd := decide_eq_false (show ¬ ((i : Int) < (i : Int)) by omega)
          rw [accE_end] at hP
          replace hP := Lib.hid hP
          go_wp2
          go_roundw
          case rel => exact ⟨i + 1, by omega, by omega, by go_num, hP.out, by (repeat (first | exact Below.refl _ _ | assumption | refine bchain (by assumption) ?_ | refine balloc ?_ _ | apply Below.drew | apply below_drewN | (refine Below.alloc ?_ (by (try simp) <;> omega) _) | (refine Below.setCell ?_ (by (try simp) <;> omega) _)))⟩
          case measure => simp [intOf]; omega
    · obtain rfl : j = l := by omega
      have hdd := decide_eq_false (show ¬ ((j : Int) < (j : Int)) by omega)
      have hx := Lib.hid hl.out
      obtain ⟨x0, hx0⟩ : ∃ x : Nat, onE e (vx zs) j = x := ⟨_, rfl⟩
      rw [hx0] at hP
      replace hx0 := Lib.hid hx0
      obtain ⟨q0, q1, q2, q3, q4, q5, q6, q7, q8, q9⟩ := hP
      go_wp2
      have h2 := twoCells q3 q4 (.int .i64 j) (.int .u32 x0)
      exact bodyPost_ret (v := .agg #[.int .i64 j, .int .u32 x0]) (by simp [results, Tryz.results58, go_sem, h2.1, h2.2]) rfl ⟨by rw [hx0.out], by (repeat (first | exact Below.refl _ _ | assumption | refine bchain (by assumption) ?_ | refine balloc ?_ _ | apply Below.drew | apply below_drewN | (refine Below.alloc ?_ (by (try simp) <;> omega) _) | (refine Below.setCell ?_ (by (try simp) <;> omega) _)))⟩

theorem son_any (v : Value) (zs : List Int) (n e : Nat) (h : SlI w v zs) (hn5 : n ≤ 5) (he : e < 4294967296) (hd : Diff zs n) :
    Calls Tryz.prog 58 #[.agg #[.int .i64 n, .int .u32 e], v] w fun r w' => r = .returned (.agg #[.int .i64 zs.length, .int .u32 (onE e (vx zs) zs.length : Nat)]) ∧ Below w.heap.size w w' := by
  obtain ⟨a, cap, rfl, h1, h2, h3⟩ := h
  cases zs with
  | nil => exact son_empty w a cap n e
  | cons z zs =>
    obtain ⟨b, off, rfl, hb, hc⟩ := h3 (by simp)
    exact son_some w b off cap (z :: zs) n e (by simp) h1 h2 hb hn5 he hc hd
end
end Go.Proofs.YtncbimbbkealmaaGreatDoor
