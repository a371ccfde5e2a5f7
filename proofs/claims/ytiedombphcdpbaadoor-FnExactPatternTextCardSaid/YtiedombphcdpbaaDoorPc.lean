/-
  WHICH PATTERNS ARE VALID: the program's word and the model's.
-/
import Derived.Test.YtiedombphcdpbaaDoorPt
import Derived.Test.YtiedombphcdpbaaDoorBw
import Derived.Deep.RegionHeld3
import Derived.BigQuiet
namespace Go.Proofs.YtiedombphcdpbaaDoor
open Go.RowKit
set_option maxRecDepth 100000
attribute [local go_sem] Oper.semAt_some
/-- may this number of vertices and these loops be those of a pattern -/
def hpB (n lo : Int) : Bool := decide (1 ≤ n ∧ n ≤ 4 ∧ lo < ((2 ^ n.toNat : Nat) : Int))
/-- valid weights, none of them negative -/
def AllW (gs : List (Int × Int)) : Prop := ∀ i, i < gs.length → Fr.VP (Fr.gAt gs i) ∧ 0 ≤ (Fr.gAt gs i).1
def OneW (gs : List (Int × Int)) : Prop := Fr.sumTo gs gs.length = some (1, 1)
/-- which patterns are valid -/
def VPat (X : PM) : Prop := VG X.n X.e ∧ hpB X.n X.s = true ∧ (X.ts.length : Int) = X.n ∧ AllW X.ts ∧ OneW X.ts
theorem AllW.allV {gs : List (Int × Int)} (h : AllW gs) : Fr.AllV gs := fun i hi => (h i hi).1
theorem not_allW {gs : List (Int × Int)} (h : ¬ AllW gs) : ∃ m, m < gs.length ∧ (∀ k, k < m → Fr.VP (Fr.gAt gs k) ∧ 0 ≤ (Fr.gAt gs k).1) ∧ ¬ (Fr.VP (Fr.gAt gs m) ∧ 0 ≤ (Fr.gAt gs m).1) := by
  have : ∀ m, m ≤ gs.length → (∀ k, k < m → Fr.VP (Fr.gAt gs k) ∧ 0 ≤ (Fr.gAt gs k).1) ∨ ∃ m', m' < gs.length ∧ (∀ k, k < m' → Fr.VP (Fr.gAt gs k) ∧ 0 ≤ (Fr.gAt gs k).1) ∧ ¬ (Fr.VP (Fr.gAt gs m') ∧ 0 ≤ (Fr.gAt gs m').1) := by
    intro m
    induction m with
    | zero => intro _; exact .inl fun k hk => by omega
    | succ m ih =>
      intro hm
      rcases ih (by omega) with h1 | h1
      · by_cases c : Fr.VP (Fr.gAt gs m) ∧ 0 ≤ (Fr.gAt gs m).1
        · exact .inl fun k hk => by
            by_cases e : k = m
            · rw [e]; exact c
            · exact h1 k (by omega)
        · exact .inr ⟨m, by omega, h1, c⟩
      · exact .inr h1
  rcases this gs.length (Nat.le_refl _) with h1 | h1
  · exact absurd h1 h
  · exact h1
theorem lv_one (o : Option (Int × Int)) : ∃ x y c : Int, Fr.lv o = .tuple #[.agg #[.int .i64 x, .int .i64 y], .int .i64 c] ∧ (o = some (1, 1) ↔ c = 0 ∧ x = 1 ∧ y = 1) := by
  cases o with
  | none => exact ⟨0, 0, 3, rfl, by simp⟩
  | some a =>
    obtain ⟨x, y⟩ := a
    exact ⟨x, y, 0, rfl, by simp⟩
theorem shl_p (k : Nat) (h : k ≤ 4) : wrap64 (2 ^ k) = ((2 ^ k : Nat) : Int) := by
  have hc : k = 0 ∨ k = 1 ∨ k = 2 ∨ k = 3 ∨ k = 4 := by omega
  rcases hc with rfl | rfl | rfl | rfl | rfl <;> first | rfl | decide +kernel
section
variable (w : World)
theorem al_any (k : Nat) (h : k ≤ 4) :
    Calls Tryd.prog 131 #[.int .i64 k] w fun r w' => r = .returned (.int .u32 ((2 ^ k - 1 : Nat) : Int)) ∧ w = w' := by
  have hc : k = 0 ∨ k = 1 ∨ k = 2 ∨ k = 3 ∨ k = 4 := by omega
  rcases hc with rfl | rfl | rfl | rfl | rfl
  all_goals
    go_enter Tryd.func131, Tryd.ntmps131
    go_wp2
    go_ret
    exact ⟨rfl, rfl⟩
theorem hp_any (n e lo : Int) (h0 : 0 ≤ lo) (h1 : lo < 4294967296) :
    Calls Tryd.prog 97 #[.agg #[.int .i64 n, .int .u32 e], .int .u32 lo] w fun r w' => r = .returned (.bool (hpB n lo)) ∧ Below w.heap.size w w' := by
  by_cases hr : 1 ≤ n ∧ n ≤ 4
  · obtain ⟨k, rfl⟩ : ∃ k : Nat, n = k := ⟨n.toNat, by omega⟩
    have hk : k ≤ 4 := by omega
    have hm := andNot_mask k (by omega) lo h0 h1
    have hB : hpB (k : Int) lo = decide (lo < ((2 ^ k : Nat) : Int)) := by
      unfold hpB
      rw [Int.toNat_natCast, Bool.eq_iff_iff, decide_eq_true_iff, decide_eq_true_iff]
      exact ⟨fun h => h.2.2, fun h => ⟨hr.1, hr.2, h⟩⟩
    rw [hB, ← hm]
    have hC := Lib.hid (fun W => al_any W k hk)
    have hd1 : decide ((1 : Int) ≤ (k : Int)) = true := decide_eq_true hr.1
    have hd2 : decide ((k : Int) ≤ 4) = true := decide_eq_true hr.2
    clear hB hm
    go_enter Tryd.func97, Tryd.ntmps97
    go_wp2_with fail
    refine (hC.out _).mono ?_
    rintro r1 w1 ⟨rfl, rfl⟩
    go_wp2
    go_ret
    exact ⟨rfl, by (repeat (first | exact Below.refl _ _ | assumption | refine bchain (by assumption) ?_ | refine balloc ?_ _ | apply Below.drew | apply below_drewN | (refine Below.alloc ?_ (by (try simp) <;> omega) _) | (refine Below.setCell ?_ (by (try simp) <;> omega) _)))⟩
  · have hB : hpB n lo = false := by
      unfold hpB
      exact decide_eq_false (fun h => hr ⟨h.1, h.2.1⟩)
    rw [hB]
    by_cases c1 : 1 ≤ n
    · have hd1 : decide (1 ≤ n) = true := decide_eq_true c1
      have hd2 : decide (n ≤ 4) = false := decide_eq_false (by omega)
      clear hB
      go_enter Tryd.func97, Tryd.ntmps97
      go_wp2
      go_ret
      exact ⟨rfl, by (repeat (first | exact Below.refl _ _ | assumption | refine bchain (by assumption) ?_ | refine balloc ?_ _ | apply Below.drew | apply below_drewN | (refine Below.alloc ?_ (by (try simp) <;> omega) _) | (refine Below.setCell ?_ (by (try simp) <;> omega) _)))⟩
    · have hd1 : decide (1 ≤ n) = false := decide_eq_false c1
      clear hB
      go_enter Tryd.func97, Tryd.ntmps97
      go_wp2
      go_ret
      exact ⟨rfl, by (repeat (first | exact Below.refl _ _ | assumption | refine bchain (by assumption) ?_ | refine balloc ?_ _ | apply Below.drew | apply below_drewN | (refine Below.alloc ?_ (by (try simp) <;> omega) _) | (refine Below.setCell ?_ (by (try simp) <;> omega) _)))⟩
theorem fm_any (n e lo : Int) (h0 : 0 ≤ lo) (h1 : lo < 4294967296) :
    Calls Tryd.prog 91 #[.agg #[.int .i64 n, .int .u32 e], .int .u32 lo] w fun r w' => r = .returned (.bool (hpB n lo)) ∧ Below w.heap.size w w' := by
  by_cases hr : 1 ≤ n ∧ n ≤ 4
  · obtain ⟨k, rfl⟩ : ∃ k : Nat, n = k := ⟨n.toNat, by omega⟩
    have hk : k ≤ 4 := by omega
    have hB : hpB (k : Int) lo = decide (lo < ((2 ^ k : Nat) : Int)) := by
      unfold hpB
      rw [Int.toNat_natCast, Bool.eq_iff_iff, decide_eq_true_iff, decide_eq_true_iff]
      exact ⟨fun h => h.2.2, fun h => ⟨hr.1, hr.2, h⟩⟩
    rw [hB]
    have hC := Lib.hid (fun W => in_t W (k : Int) 1 4 hr.1 hr.2)
    have hsh := shl_p k hk
    have e1 : IntKind.i64.wrap lo = lo := IntWalk.i64_in _ ⟨by omega, by omega⟩
    clear hB
    go_enter Tryd.func91, Tryd.ntmps91
    go_wp2_with fail
    refine (hC.out _).mono ?_
    rintro r1 w1 ⟨rfl, rfl⟩
    go_wp2
    go_ret
    exact ⟨by simp only [hsh]; rfl, by (repeat (first | exact Below.refl _ _ | assumption | refine bchain (by assumption) ?_ | refine balloc ?_ _ | apply Below.drew | apply below_drewN | (refine Below.alloc ?_ (by (try simp) <;> omega) _) | (refine Below.setCell ?_ (by (try simp) <;> omega) _)))⟩
  · have hB : hpB n lo = false := by
      unfold hpB
      exact decide_eq_false (fun h => hr ⟨h.1, h.2.1⟩)
    rw [hB]
    have hC := Lib.hid (fun W => in_f W n 1 4 (by omega))
    clear hB
    go_enter Tryd.func91, Tryd.ntmps91
    go_wp2_with fail
    refine (hC.out _).mono ?_
    rintro r1 w1 ⟨rfl, rfl⟩
    go_wp2
    go_ret
    exact ⟨rfl, by (repeat (first | exact Below.refl _ _ | assumption | refine bchain (by assumption) ?_ | refine balloc ?_ _ | apply Below.drew | apply below_drewN | (refine Below.alloc ?_ (by (try simp) <;> omega) _) | (refine Below.setCell ?_ (by (try simp) <;> omega) _)))⟩
set_option maxHeartbeats 1000000 in
theorem aw_t (v : Value) (gs : List (Int × Int)) (hS : Fr.SlG w v gs) (hm : gs.length ≤ 256) (hA : AllW gs) (B : Bool) (hB0 : B = true ↔ OneW gs) :
    Calls Tryd.prog 98 #[v] w fun r w' => r = .returned (.bool B) ∧ Below w.heap.size w w' := by
  have hV : Fr.Vl gs := ⟨hm, hA.allV⟩
  have hQ := fun W (hW : Fr.SlG W v gs) => Fr.isf_ok W v gs hW hV
  obtain ⟨p, q, c, hl, ho⟩ := lv_one (Fr.sumTo gs gs.length)
  rw [hl] at hQ
  unfold OneW at hB0
  rw [ho] at hB0
  replace hQ := Lib.hid hQ
  have hSx := Lib.hid hS
  obtain ⟨a, cap, rfl, hc⟩ := hS.lies
  have hF := Lib.hid (fun W => Fr.whole_any W 1)
  clear hl ho hV
  obtain ⟨n, hn⟩ : ∃ n, n = gs.length := ⟨_, rfl⟩
  rw [← hn] at hm hQ hSx ⊢
  replace hc := Lib.hid hc
  replace hA := Lib.hid hA
  replace hn := Lib.hid hn
  replace hB0 := Lib.hid hB0
  clear hS
  go_enter Tryd.func98, Tryd.ntmps98
  go_wp2
  go_loopw [4, 9] (fun _ i wr => ∃ k : Nat, k ≤ n ∧ i = .int .i64 k ∧ Below w.heap.size w wr) (fun _ i _ => n - (intOf i).toNat)
  case atStart => exact ⟨0, by omega, rfl, by (repeat (first | exact Below.refl _ _ | assumption | refine bchain (by assumption) ?_ | refine balloc ?_ _ | apply Below.drew | apply below_drewN | (refine Below.alloc ?_ (by (try simp) <;> omega) _) | (refine Below.setCell ?_ (by (try simp) <;> omega) _)))⟩
  case round =>
    obtain ⟨k, hk, rfl, hB⟩ := hrel
    by_cases hlt : k < n
    · obtain ⟨b, off, rfl, hb, hg⟩ := hc.out k (by have := hn.out; omega)
      have hv := hA.out k (by have := hn.out; omega)
      obtain ⟨x, y, hxy⟩ : ∃ x y, Fr.gAt gs k = (x, y) := ⟨_, _, rfl⟩
      rw [hxy] at hv
      have s0 : wr.cell? ⟨b, off + k * 2, none⟩ = some (.int .i64 x) := by rw [hB.cell (p := ⟨b, _, none⟩) hb, hg.1, hxy]
      have s1 : wr.cell? ⟨b, off + k * 2 + 1, none⟩ = some (.int .i64 y) := by rw [hB.cell (p := ⟨b, _, none⟩) hb, hg.2, hxy]
      have hC := Lib.hid (fun W => Fr.vf_any W x y)
      rw [decide_eq_true (show Fr.VF x y from hv.1)] at hC
      have hx0 : decide (x < 0) = false := decide_eq_false (by have := hv.2; dsimp only at this; omega)
      have hkn : (k : Int) < (n : Int) := by omega
      clear hg hxy hv
      go_wp2_with fail
      refine (hC.out _).mono ?_
      rintro r3 w3 ⟨rfl, hb3⟩
      obtain ⟨hc3, hz3⟩ := bkeep hb3 wr.heap.size (by (try simp) <;> omega)
      have d0 : w3.cell? ⟨wr.heap.size, 0, none⟩ = some (.int .i64 x) := (hc3 0).trans (by simp [go_sem])
      go_wp2
      go_roundw
      case rel => exact ⟨k + 1, by omega, by go_num, by (repeat (first | exact Below.refl _ _ | assumption | refine bchain (by assumption) ?_ | refine balloc ?_ _ | apply Below.drew | apply below_drewN | (refine Below.alloc ?_ (by (try simp) <;> omega) _) | (refine Below.setCell ?_ (by (try simp) <;> omega) _)))⟩
      case measure => simp [intOf]; omega
    · have hd := decide_eq_false (show ¬ ((k : Int) < (n : Int)) by omega)
      obtain rfl : k = n := by omega
      go_wp2_with fail
      refine (hQ.out _ (hSx.out.below hB)).mono ?_
      rintro r4 w4 ⟨rfl, hb4⟩
      have hB4 := bchain hb4 hB
      clear hb4
      obtain ⟨W5, hW5⟩ : ∃ W5, W5 = w4.alloc (.cells #[.int .i64 p, .int .i64 q] 70) := ⟨_, rfl⟩
      have bX : Below w4.heap.size w4 W5 := by rw [hW5]; exact balloc (Below.refl _ _) _
      have zX : w4.heap.size < W5.heap.size := by rw [hW5]; simp
      have g0 : W5.cell? ⟨w4.heap.size, 0, none⟩ = some (.int .i64 p) := by rw [hW5, World.cell?_alloc_new]; rfl
      have g1 : W5.cell? ⟨w4.heap.size, 1, none⟩ = some (.int .i64 q) := by rw [hW5, World.cell?_alloc_new]; rfl
      replace hW5 := Lib.hid hW5
      have q0 := bw_cell zX g0
      have q1 := bw_cell zX g1
      go_wp2_with fail
      rw [← hW5.out]
      by_cases c0 : c = 0
      · subst c0
        have hq : ∀ W, (Op.equalIn 10000 70 (.agg #[.int .i64 p, .int .i64 q]) (.agg #[.int .i64 1, .int .i64 1])).run Tryd.prog W = .ok B W := fun W => by
          rw [Fr.eqFr]
          have : (p == 1 && q == 1) = B := by
            rw [Bool.eq_iff_iff, hB0.out]
            simp
          rw [this]
        refine wp_region_below (by kernel_rfl) (by kernel_rfl) ?_
        iterate 4 (quiet_step (fail))
        refine wpQuiet_step (fun K hK => ?_)
        go_simp
        apply Exists.intro
        refine ⟨fun p => ?_, hK _ ?_⟩
        · exact bw_of (w := W5) (p := p) (hF.out p.W)
        clear hK K
        iterate 1 (quiet_step (fail))
        iterate 2 (quiet_step (fail))
        refine wpQuiet_nil ?_
        intro w6 hw'
        obtain ⟨⟨wx, hb_w6⟩, rfl⟩ := hw'
        go_wp2
        go_ret
        exact ⟨rfl, bchain hb_w6 (bchain bX hB4)⟩
      · have hd2 : (c == 0) = false := by simpa using c0
        obtain rfl : B = false := by
          rw [Bool.eq_false_iff]; intro h; exact c0 (hB0.out.1 h).1
        refine wp_region_below (by kernel_rfl) (by kernel_rfl) ?_
        iterate 3 (quiet_step (fail))
        iterate 3 go_big_quiet_skip
        iterate 2 (quiet_step (fail))
        refine wpQuiet_nil ?_
        intro w6 hw'
        obtain ⟨⟨wx, hb_w6⟩, rfl⟩ := hw'
        go_wp2
        go_ret
        exact ⟨rfl, bchain hb_w6 (bchain bX hB4)⟩
set_option maxHeartbeats 1000000 in
theorem aw_f (v : Value) (gs : List (Int × Int)) (hS : Fr.SlG w v gs) (hm : gs.length ≤ 256) (m : Nat) (hm2 : m < gs.length) (hA : ∀ k, k < m → Fr.VP (Fr.gAt gs k) ∧ 0 ≤ (Fr.gAt gs k).1) (hbad : ¬ (Fr.VP (Fr.gAt gs m) ∧ 0 ≤ (Fr.gAt gs m).1)) :
    Calls Tryd.prog 98 #[v] w fun r w' => r = .returned (.bool false) ∧ Below w.heap.size w w' := by
  obtain ⟨a, cap, rfl, hc⟩ := hS.lies
  obtain ⟨n, hn⟩ : ∃ n, n = gs.length := ⟨_, rfl⟩
  rw [← hn] at hm hm2 ⊢
  replace hc := Lib.hid hc
  replace hA := Lib.hid hA
  replace hn := Lib.hid hn
  replace hbad := Lib.hid hbad
  clear hS
  go_enter Tryd.func98, Tryd.ntmps98
  go_wp2
  go_loopw [4, 9] (fun _ i wr => ∃ k : Nat, k ≤ m ∧ i = .int .i64 k ∧ Below w.heap.size w wr) (fun _ i _ => n - (intOf i).toNat)
  case atStart => exact ⟨0, by omega, rfl, by (repeat (first | exact Below.refl _ _ | assumption | refine bchain (by assumption) ?_ | refine balloc ?_ _ | apply Below.drew | apply below_drewN | (refine Below.alloc ?_ (by (try simp) <;> omega) _) | (refine Below.setCell ?_ (by (try simp) <;> omega) _)))⟩
  case round =>
    obtain ⟨k, hk, rfl, hB⟩ := hrel
    obtain ⟨b, off, rfl, hb, hg⟩ := hc.out k (by have := hn.out; omega)
    obtain ⟨x, y, hxy⟩ : ∃ x y, Fr.gAt gs k = (x, y) := ⟨_, _, rfl⟩
    have s0 : wr.cell? ⟨b, off + k * 2, none⟩ = some (.int .i64 x) := by rw [hB.cell (p := ⟨b, _, none⟩) hb, hg.1, hxy]
    have s1 : wr.cell? ⟨b, off + k * 2 + 1, none⟩ = some (.int .i64 y) := by rw [hB.cell (p := ⟨b, _, none⟩) hb, hg.2, hxy]
    have hC := Lib.hid (fun W => Fr.vf_any W x y)
    have hkn : (k : Int) < (n : Int) := by omega
    clear hg
    by_cases hlt : k < m
    · have hv := hA.out k hlt
      rw [hxy] at hv
      rw [decide_eq_true (show Fr.VF x y from hv.1)] at hC
      have hx0 : decide (x < 0) = false := decide_eq_false (by have := hv.2; dsimp only at this; omega)
      clear hxy hv
      go_wp2_with fail
      refine (hC.out _).mono ?_
      rintro r3 w3 ⟨rfl, hb3⟩
      obtain ⟨hc3, hz3⟩ := bkeep hb3 wr.heap.size (by (try simp) <;> omega)
      have d0 : w3.cell? ⟨wr.heap.size, 0, none⟩ = some (.int .i64 x) := (hc3 0).trans (by simp [go_sem])
      go_wp2
      go_roundw
      case rel => exact ⟨k + 1, by omega, by go_num, by (repeat (first | exact Below.refl _ _ | assumption | refine bchain (by assumption) ?_ | refine balloc ?_ _ | apply Below.drew | apply below_drewN | (refine Below.alloc ?_ (by (try simp) <;> omega) _) | (refine Below.setCell ?_ (by (try simp) <;> omega) _)))⟩
      case measure => simp [intOf]; omega
    · obtain rfl : k = m := by omega
      have hv := hbad.out
      rw [hxy] at hv
      clear hxy
      by_cases hV : Fr.VF x y
      · rw [decide_eq_true hV] at hC
        have hx0 : decide (x < 0) = true := decide_eq_true (Int.not_le.1 fun c => hv ⟨hV, c⟩)
        clear hv
        go_wp2_with fail
        refine (hC.out _).mono ?_
        rintro r3 w3 ⟨rfl, hb3⟩
        obtain ⟨hc3, hz3⟩ := bkeep hb3 wr.heap.size (by (try simp) <;> omega)
        have d0 : w3.cell? ⟨wr.heap.size, 0, none⟩ = some (.int .i64 x) := (hc3 0).trans (by simp [go_sem])
        go_wp2
        go_ret
        exact ⟨rfl, by (repeat (first | exact Below.refl _ _ | assumption | refine bchain (by assumption) ?_ | refine balloc ?_ _ | apply Below.drew | apply below_drewN | (refine Below.alloc ?_ (by (try simp) <;> omega) _) | (refine Below.setCell ?_ (by (try simp) <;> omega) _)))⟩
      · rw [decide_eq_false hV] at hC
        clear hv
        go_wp2_with fail
        refine (hC.out _).mono ?_
        rintro r3 w3 ⟨rfl, hb3⟩
        go_wp2
        go_ret
        exact ⟨rfl, by (repeat (first | exact Below.refl _ _ | assumption | refine bchain (by assumption) ?_ | refine balloc ?_ _ | apply Below.drew | apply below_drewN | (refine Below.alloc ?_ (by (try simp) <;> omega) _) | (refine Below.setCell ?_ (by (try simp) <;> omega) _)))⟩
theorem aw_any (v : Value) (gs : List (Int × Int)) (hS : Fr.SlG w v gs) (hm : gs.length ≤ 256) (B : Bool) (hB0 : B = true ↔ AllW gs ∧ OneW gs) :
    Calls Tryd.prog 98 #[v] w fun r w' => r = .returned (.bool B) ∧ Below w.heap.size w w' := by
  by_cases hA : AllW gs
  · exact aw_t w v gs hS hm hA B (by rw [hB0]; exact ⟨fun h => h.2, fun h => ⟨hA, h⟩⟩)
  · obtain ⟨m, h1, h2, h3⟩ := not_allW hA
    obtain rfl : B = false := by
      rw [Bool.eq_false_iff]; intro h; exact hA (hB0.1 h).1
    exact aw_f w v gs hS hm m h1 h2 h3
set_option maxHeartbeats 1000000 in
theorem ivp_any (X : PM) (u : Value) (hS : Fr.SlG w u X.ts) (hbd : BdP X) (B : Bool) (hB : B = true ↔ VPat X) :
    Calls Tryd.prog 59 #[.agg #[.int .i64 X.n, .int .u32 X.e, .int .u32 X.s, u]] w fun r w' => r = .returned (.bool B) ∧ Below w.heap.size w w' := by
  obtain ⟨n, e, s, ts⟩ := X
  unfold VPat at hB
  obtain ⟨hb0, hb1, hb2, hb3⟩ := hbd
  dsimp only at hS hB hb0 hb1 hb2 hb3 ⊢
  have hW := fun (hm : ts.length ≤ 256) B1 hB1 => Lib.hid (fun W (hb : Below w.heap.size w W) => aw_any W u ts (hS.below hb) hm B1 hB1)
  have hP := Lib.hid (fun W => hp_any W n e s hb2 hb3)
  obtain ⟨a, cap, rfl, hcap, hcap2, _⟩ := id hS
  obtain ⟨W0, hW0⟩ : ∃ W0, W0 = w.alloc (.cells #[.int .i64 n, .int .u32 e, .int .u32 s, .slice a ts.length cap] 62) := ⟨_, rfl⟩
  have hB0 : Below w.heap.size w W0 := by rw [hW0]; (repeat (first | exact Below.refl _ _ | assumption | refine bchain (by assumption) ?_ | refine balloc ?_ _ | apply Below.drew | apply below_drewN | (refine Below.alloc ?_ (by (try simp) <;> omega) _) | (refine Below.setCell ?_ (by (try simp) <;> omega) _)))
  have k0 : PB W0 w.heap.size n e s (.slice a ts.length cap) := by rw [hW0]; exact PB.made w _ _ _ _ _
  replace hW0 := Lib.hid hW0
  obtain ⟨_, x0, x1, x2, x3, _⟩ := id k0
  have hV : ∀ B1 : Bool, (B1 = true ↔ VG n e) → Hid (∀ W, Calls Tryd.prog 74 #[.agg #[.int .i64 n, .int .u32 e]] W fun r w' => r = .returned (.bool B1) ∧ Below W.heap.size W w') := fun B1 h W => by
    by_cases c : VG n e
    · obtain rfl : B1 = true := h.2 c
      exact valid_t W n e c
    · obtain rfl : B1 = false := by rw [Bool.eq_false_iff]; intro c2; exact c (h.1 c2)
      exact valid_f W n e hb1 hb0 c
  by_cases h1 : VG n e
  · have hV1 := hV true ⟨fun _ => h1, fun _ => rfl⟩
    by_cases h2 : hpB n s = true
    · rw [h2] at hP
      have hn4 : 1 ≤ n ∧ n ≤ 4 := by
        unfold hpB at h2
        rw [decide_eq_true_iff] at h2
        exact ⟨h2.1, h2.2.1⟩
      by_cases h3 : (ts.length : Int) = n
      · have hW1 := hW (by omega) B (by rw [hB]; exact ⟨fun h => h.2.2.2, fun h => ⟨h1, h2, h3, h⟩⟩)
        have hd : ((ts.length : Int) == n) = true := by simpa using h3
        obtain ⟨l, hl⟩ : ∃ l, ts.length = l := ⟨_, rfl⟩
        rw [hl] at hd hW1 hW0 k0 x3 hcap ⊢
        clear hB hW hV hl hS h3 h2 h1 hb0 hb1 hb2 hb3
        go_enter Tryd.func59, Tryd.ntmps59
        go_wp2_with fail
        rw [← hW0.out]
        go_wp2_with fail
        refine (hV1.out _).mono ?_
        rintro r1 w1 ⟨rfl, hb1⟩
        replace k0 := k0.below hb1
        replace hB0 := bchain hb1 hB0
        clear x0 x1 x2 x3 hb1
        obtain ⟨_, x0, x1, x2, x3, _⟩ := id k0
        go_wp2_with fail
        refine (hP.out _).mono ?_
        rintro r2 w2 ⟨rfl, hb2⟩
        replace k0 := k0.below hb2
        replace hB0 := bchain hb2 hB0
        clear x0 x1 x2 x3 hb2
        obtain ⟨_, x0, x1, x2, x3, _⟩ := id k0
        go_wp2_with fail
        refine (hW1.out _ hB0).mono ?_
        rintro r3 w3 ⟨rfl, hb3⟩
        go_wp2
        go_ret
        exact ⟨rfl, bchain hb3 hB0⟩
      · obtain rfl : B = false := by
          rw [Bool.eq_false_iff]; intro c; exact h3 (hB.1 c).2.2.1
        have hd : ((ts.length : Int) == n) = false := by simpa using h3
        obtain ⟨l, hl⟩ : ∃ l, ts.length = l := ⟨_, rfl⟩
        rw [hl] at hd hW0 k0 x3 hcap ⊢
        clear hB hW hV hl hS h3 h2 h1 hb0 hb1 hb2 hb3
        go_enter Tryd.func59, Tryd.ntmps59
        go_wp2_with fail
        rw [← hW0.out]
        go_wp2_with fail
        refine (hV1.out _).mono ?_
        rintro r1 w1 ⟨rfl, hb1⟩
        replace k0 := k0.below hb1
        replace hB0 := bchain hb1 hB0
        clear x0 x1 x2 x3 hb1
        obtain ⟨_, x0, x1, x2, x3, _⟩ := id k0
        go_wp2_with fail
        refine (hP.out _).mono ?_
        rintro r2 w2 ⟨rfl, hb2⟩
        replace k0 := k0.below hb2
        replace hB0 := bchain hb2 hB0
        clear x0 x1 x2 x3 hb2
        obtain ⟨_, x0, x1, x2, x3, _⟩ := id k0
        go_wp2
        go_ret
        exact ⟨rfl, hB0⟩
    · obtain rfl : B = false := by
        rw [Bool.eq_false_iff]; intro c; exact h2 (hB.1 c).2.1
      rw [Bool.eq_false_iff.2 h2] at hP
      obtain ⟨l, hl⟩ : ∃ l, ts.length = l := ⟨_, rfl⟩
      rw [hl] at hW0 k0 x3 hcap ⊢
      clear hB hW hV hl hS h2 h1 hb0 hb1 hb2 hb3
      go_enter Tryd.func59, Tryd.ntmps59
      go_wp2_with fail
      rw [← hW0.out]
      go_wp2_with fail
      refine (hV1.out _).mono ?_
      rintro r1 w1 ⟨rfl, hb1⟩
      replace k0 := k0.below hb1
      replace hB0 := bchain hb1 hB0
      clear x0 x1 x2 x3 hb1
      obtain ⟨_, x0, x1, x2, x3, _⟩ := id k0
      go_wp2_with fail
      refine (hP.out _).mono ?_
      rintro r2 w2 ⟨rfl, hb2⟩
      go_wp2
      go_ret
      exact ⟨rfl, bchain hb2 hB0⟩
  · obtain rfl : B = false := by
      rw [Bool.eq_false_iff]; intro c; exact h1 (hB.1 c).1
    have hV1 := hV false ⟨fun c => (by cases c), fun c => absurd c h1⟩
    obtain ⟨l, hl⟩ : ∃ l, ts.length = l := ⟨_, rfl⟩
    rw [hl] at hW0 k0 x3 hcap ⊢
    clear hB hW hV hl hS h1 hb0 hb1 hb2 hb3
    go_enter Tryd.func59, Tryd.ntmps59
    go_wp2_with fail
    rw [← hW0.out]
    go_wp2_with fail
    refine (hV1.out _).mono ?_
    rintro r1 w1 ⟨rfl, hb1⟩
    go_wp2
    go_ret
    exact ⟨rfl, bchain hb1 hB0⟩
end
end Go.Proofs.YtiedombphcdpbaaDoor
