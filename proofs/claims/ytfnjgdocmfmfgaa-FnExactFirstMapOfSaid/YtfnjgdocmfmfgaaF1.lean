/-
  l07First: the model's first map: contract.
-/
import Derived.Test.YtfnjgdocmfmfgaaFt
import Derived.Test.YtfnjgdocmfmfgaaOwnI
import Derived.Test.YtfnjgdocmfmfgaaCo
import Derived.Deep.LoopGhost
import Derived.Shelf.Abstract
namespace Go.Proofs.Ytfnjgdocmfmfgaa
open Go.RowKit
set_option maxRecDepth 100000
attribute [local go_sem] Oper.semAt_some
/-- what makes a map good -/
def OkM (n m e lo : Nat) (gs : List (Int × Int)) (x : List Nat) : Prop := (∀ i, i < n → 0 < (Fr.gAt gs (xn x i)).1) ∧ FitsM n m e lo x
/-- the place of the first list of which it holds -/
def FirstO (N n : Nat) (P : List Nat → Prop) : Option Nat → Prop
  | some k => k < N ^ n ∧ P (dg N n k) ∧ ∀ j, j < k → ¬ P (dg N n j)
  | none => ∀ j, j < N ^ n → ¬ P (dg N n j)
theorem firstO_ex (N n : Nat) (P : List Nat → Prop) : ∃ o, FirstO N n P o := by
  by_cases h : ∃ k, k < N ^ n ∧ P (dg N n k)
  · obtain ⟨k, hk, hmin⟩ := exists_least h
    refine ⟨some k, hk.1, hk.2, fun j hj hP => ?_⟩
    have := hmin j ⟨by omega, hP⟩
    omega
  · exact ⟨none, fun j hj hP => h ⟨j, hj, hP⟩⟩
theorem FirstO.is {N n k : Nat} {P : List Nat → Prop} {o : Option Nat} (h : FirstO N n P o) (hk : k < N ^ n) (hP : P (dg N n k)) (hno : ∀ j, j < k → ¬ P (dg N n j)) : o = some k := by
  cases o with
  | none => exact absurd hP (h k hk)
  | some k2 =>
    obtain ⟨h1, h2, h3⟩ := h
    rcases Nat.lt_trichotomy k k2 with c | c | c
    · exact absurd hP (h3 k c)
    · rw [c]
    · exact absurd h2 (hno k2 c)
theorem FirstO.none_of {N n : Nat} {P : List Nat → Prop} {o : Option Nat} (h : FirstO N n P o) (hno : ∀ j, j < N ^ n → ¬ P (dg N n j)) : o = none := by
  cases o with
  | none => rfl
  | some k => exact absurd h.2.1 (hno k h.1)
/-- what the search hands back -/
def FirstR (w : World) (N n : Nat) (o : Option Nat) (r : Ending) (w' : World) : Prop := ∃ v, r = .returned (.tuple #[v, .bool o.isSome]) ∧ Below w.heap.size w w' ∧ ∀ k, o = some k → OwnI w w' v n fun i => ((xn (dg N n k) i : Nat) : Int)
theorem only_below {a w : World} {B : Nat} (h : a.grownBy w (some B)) (hB : B ≤ a.heap.size) : Below B a w :=
  ⟨h.os, h.tape, h.output, h.size, fun i hi => h.block i (by omega) (by intro c; cases c; omega)⟩
theorem NM.own {w W : World} {B n : Nat} {x : List Nat} (h : NM W B n x) (hn : n ≤ 5) (hB : w.heap.size ≤ B) : OwnI w W (.slice (some ⟨B, 0, none⟩) n n) n fun i => ((xn x i : Nat) : Int) :=
  ⟨_, n, rfl, Nat.le_refl _, by omega, fun _ => ⟨B, rfl, hB, h.lt, fun i hi => h.val i hi, fun o ho => h.fz o ho⟩⟩
section
variable (w : World)
set_option maxHeartbeats 4000000 in
theorem sfirst_any (n m N e lo : Nat) (hN1 : 1 ≤ N) (hN4 : N ≤ 4) (hn5 : n ≤ 5) (hm : m < 4294967296) (he : e < 4294967296) (hlo : lo < 4294967296) (G b off cap : Nat) (k0 : PB w G N e lo (.slice (some ⟨b, off, none⟩) N cap))
    (gs : List (Int × Int)) (hb : b < w.heap.size) (hg : ∀ i, i < N → Fr.GCell w b off (Fr.gAt gs i) i) (o : Option Nat) (hO : FirstO N n (OkM n m e lo gs) o) :
    Calls Try.prog 75 #[.pointer (some ⟨G, 0, none⟩), .agg #[.int .i64 n, .int .u32 m]] w (FirstR w N n o) := by
  unfold FirstR
  obtain ⟨H, hH⟩ : ∃ H, w.heap.size = H := ⟨_, rfl⟩
  obtain ⟨O, hOo⟩ : ∃ O, O = Obj.cells (madeCells #[.int .i64 0] n) 2 := ⟨_, rfl⟩
  obtain ⟨i0, hi0, hz0, hs0, hb0⟩ := info_parts info_i64
  have hmk : ∀ W : World, (Instr.makeSlice 46 (.int .i64 n) (.int .i64 n)).run Try.prog W = .ok (.slice (some ⟨W.heap.size, 0, none⟩) n n) (W.alloc O) := fun W => by
    have hr := run_make (P := Try.prog) W 46 2 i0 (.int .i64 0) Try.underlying46 hi0 hz0 .i64 .i64 (n : Int) (n : Int) (by omega) (by omega) (by rw [hb0]; omega) (by omega)
    simp only [Int.toNat_natCast, hs0, Nat.mul_one] at hr
    rw [hOo]
    exact hr
  obtain ⟨W1, hW1⟩ : ∃ W1, W1 = (w.alloc (.cells #[.int .i64 n, .int .u32 m] 30)).alloc O := ⟨_, rfl⟩
  have hM1 : NM W1 (H + 1) n (dg N n 0) := by
    have := NM.made (w.alloc (.cells #[.int .i64 n, .int .u32 m] 30)) n N 2 (fun i hi => by simp [madeCells, hi, Nat.mod_one])
    rw [← hOo, ← hW1, World.size_alloc, hH] at this
    exact this
  have hB1 : Below w.heap.size w W1 := by rw [hW1]; (repeat (first | exact Below.refl _ _ | assumption | refine bchain (by assumption) ?_ | refine balloc ?_ _ | apply Below.drew | apply below_drewN | (refine Below.alloc ?_ (by (try simp) <;> omega) _) | (refine Below.setCell ?_ (by (try simp) <;> omega) _)))
  have hz1 : W1.heap.size = H + 2 := by rw [hW1, World.size_alloc, World.size_alloc, hH]
  have g0 : W1.cell? ⟨H, 0, none⟩ = some (.int .i64 n) := by rw [hW1, cOld _ _ _ _ (by rw [World.size_alloc]; omega), ← hH, World.cell?_alloc_new]; rfl
  have g1 : W1.cell? ⟨H, 1, none⟩ = some (.int .u32 m) := by rw [hW1, cOld _ _ _ _ (by rw [World.size_alloc]; omega), ← hH, World.cell?_alloc_new]; rfl
  have hf := Lib.hid (fun W (h : Below (H + 1) W1 W) => (⟨(h.cell (p := ⟨H, 0, none⟩) (Nat.lt_succ_self H)).trans g0, (h.cell (p := ⟨H, 1, none⟩) (Nat.lt_succ_self H)).trans g1⟩ : W.cell? ⟨H, 0, none⟩ = some (.int .i64 n) ∧ W.cell? ⟨H, 1, none⟩ = some (.int .u32 m)))
  have hbw := Lib.hid (fun W (h : Below (H + 1) W1 W) => hB1.trans (h.mono (by omega)))
  have kP := Lib.hid (fun W (h : Below (H + 1) W1 W) => k0.below (hbw.out W h))
  have hgw := Lib.hid (fun W (h : Below (H + 1) W1 W) i (hi : i < N) => ((hbw.out W h).cell (p := ⟨b, off + i * 2, none⟩) hb).trans (hg i hi).1)
  have hdl := Lib.hid (fun k i (hi : i < n) => dg_lt N (by omega) n k i hi)
  clear hi0 hz0 hs0 hb0 hOo k0 hg g0 g1
  replace hO := Lib.hid hO
  replace hW1 := Lib.hid hW1
  replace hM1 := Lib.hid hM1
  replace hB1 := Lib.hid hB1
  go_enter Try.func75, Try.ntmps75
  go_wp2_with fail
  rw [← hW1.out]
  clear hmk
  go_loopg [7] (N ^ n) (fun c s wr => (∃ k, k < N ^ n ∧ c = N ^ n - k ∧ s = .bool true ∧ Hid (NM wr (H + 1) n (dg N n k)) ∧ Hid (∀ j, j < k → ¬ OkM n m e lo gs (dg N n j)) ∧ Below (H + 1) W1 wr) ∨ (c = 0 ∧ s = .bool false ∧ Hid (∀ j, j < N ^ n → ¬ OkM n m e lo gs (dg N n j)) ∧ Below (H + 1) W1 wr))
  case atStart => exact .inl ⟨0, Nat.pow_pos hN1, rfl, rfl, hM1, fun j hj => by omega, Below.refl _ _⟩
  case round =>
    rcases hrel with ⟨k, hk, rfl, rfl, hM, hno, hb2⟩ | ⟨rfl, rfl, hno, hb2⟩
    · go_wp2
      rename World => V
      go_loopw [8, 9] (fun h i wr2 => ∃ (q : Nat) (hv : Bool), q ≤ n ∧ h = .bool hv ∧ i = .int .i64 q ∧ Hid (hv = true ↔ ∀ j, j < q → 0 < (Fr.gAt gs (xn (dg N n k) j)).1) ∧ Below V.heap.size V wr2) (fun _ i _ => n - (intOf i).toNat)
      case atStart => exact ⟨0, true, Nat.zero_le _, rfl, rfl, ⟨fun _ j hj => by omega, fun _ => rfl⟩, Below.refl _ _⟩
      case round =>
        obtain ⟨q, hv, hq, rfl, rfl, hhv, hb3⟩ := hrel
        have hb4 : Below (H + 1) W1 wr := hb2.trans (hb3.mono (by have := hb2.size; omega))
        have hM3 := Lib.hid (hM.out.below hb3)
        by_cases hlq : q < n
        · have hlq2 : (q : Int) < (n : Int) := by omega
          have hx := hdl.out k q hlq
          have hc := hM3.out.val q hlq
          have hw := hgw.out _ hb4 _ hx
          obtain ⟨_, x0, x1, x2, x3, _⟩ := kP.out _ hb4
          have hhv2 : ∀ hv2 : Bool, (hv2 = true ↔ hv = true ∧ 0 < (Fr.gAt gs (xn (dg N n k) q)).1) → Hid (hv2 = true ↔ ∀ j, j < q + 1 → 0 < (Fr.gAt gs (xn (dg N n k) j)).1) := fun hv2 h => by
            refine h.trans ⟨fun h j hj => ?_, fun h => ⟨hhv.out.2 fun j hj => h j (by omega), h q (by omega)⟩⟩
            by_cases c : j = q
            · rw [c]; exact h.2
            · exact hhv.out.1 h.1 j (by omega)
          obtain ⟨a, ha⟩ : ∃ a, xn (dg N n k) q = a := ⟨_, rfl⟩
          rw [ha] at hx hc hw hhv2
          obtain ⟨y, hy⟩ : ∃ y, (Fr.gAt gs a).1 = y := ⟨_, rfl⟩
          rw [hy] at hw hhv2
          replace hhv2 := Lib.hid hhv2
          have ha0 : (0 : Int) ≤ (a : Int) := by omega
          have ha1 : (a : Int) < (N : Int) := by omega
          have hq0 : (0 : Int) ≤ (q : Int) := by omega
          clear hy ha hhv x0 x1 x2
          cases hv
          · go_wp2
            go_region
            all_goals go_wp2
            all_goals
              go_roundw
              case rel => exact ⟨q + 1, false, by omega, rfl, by go_num, hhv2.out false (by simp), hb3.drew⟩
              case measure => simp [intOf]; omega
          · by_cases hpos : 0 < y
            · have hd : decide (0 < y) = true := decide_eq_true hpos
              go_wp2
              go_region
              all_goals go_wp2
              all_goals
                go_roundw
                case rel => exact ⟨q + 1, true, by omega, rfl, by go_num, hhv2.out true (by simp [hpos]), hb3.drew⟩
                case measure => simp [intOf]; omega
            · have hd : decide (0 < y) = false := decide_eq_false hpos
              go_wp2
              go_region
              all_goals go_wp2
              all_goals
                go_roundw
                case rel => exact ⟨q + 1, false, by omega, rfl, by go_num, hhv2.out false (by simp [hpos]), hb3.drew⟩
                case measure => simp [intOf]; omega
        · obtain rfl : q = n := by omega
          have hdq := decide_eq_false (show ¬ ((q : Int) < (q : Int)) by omega)
          have hmap := Lib.hid (fun W (h : Below wr.heap.size wr W) => map_any W N q k (H + 1) hN1 hN4 hn5 hk (hM3.out.below h))
          obtain ⟨_, x0, x1, x2, x3, _⟩ := kP.out _ hb4
          obtain ⟨c0, c1⟩ := hf.out _ hb4
          have hbn : ∀ w5 W, Below wr.heap.size wr W → W.grownBy w5 (some (H + 1)) → Below (H + 1) W1 w5 := fun w5 W h1 h2 => by
            have := hb4.size
            have := h1.size
            exact (hb4.trans (h1.mono (by omega))).trans (only_below h2 (by omega))
          replace hbn := Lib.hid hbn
          cases hv
          · have hno2 : Hid (∀ j, j < k + 1 → ¬ OkM q m e lo gs (dg N q j)) := fun j hj hP => by
              by_cases c : j = k
              · subst c
                have := hhv.out.2 hP.1
                cases this
              · exact hno.out j (by omega) hP
            clear hhv
            go_wp2_with (go_at_call 101; refine (hmap.out _ (Below.refl _ _)).mono ?_; rintro r5 w5 (⟨h5, rfl, hM5, hg5⟩ | ⟨h5, rfl, hg5⟩))
            · have hb7 := hbn.out _ _ (Below.refl _ _) hg5
              go_roundg (N ^ q - (k + 1))
              case measure => omega
              case rel => exact .inl ⟨k + 1, h5, rfl, rfl, hM5, hno2, hb7⟩
            · have hb7 := hbn.out _ _ (Below.refl _ _) hg5
              go_roundg 0
              case measure => omega
              case rel => exact .inr ⟨rfl, rfl, (by rw [h5]; exact hno2), hb7⟩
          · obtain ⟨R, hR⟩ : ∃ R : Bool, R = true ↔ FitsM q m e lo (dg N q k) := by
              by_cases c : FitsM q m e lo (dg N q k)
              · exact ⟨true, fun _ => c, fun _ => rfl⟩
              · exact ⟨false, (fun h => by cases h), fun h => absurd h c⟩
            have hfit := Lib.hid (fits_any wr q m N e lo hn5 hm he hlo G _ (kP.out _ hb4) (H + 1) (dg N q k) hM3.out (fun i hi => by have := hdl.out k i hi; omega) R hR)
            have hheavy := hhv.out.1 rfl
            cases R
            · have hno2 : Hid (∀ j, j < k + 1 → ¬ OkM q m e lo gs (dg N q j)) := fun j hj hP => by
                by_cases c : j = k
                · subst c
                  have := hR.2 hP.2
                  cases this
                · exact hno.out j (by omega) hP
              clear hR hheavy
              clear hhv
              go_wp2_with (first
                | (go_at_call 102; refine (hfit.out).mono ?_; rintro r4 w4 ⟨rfl, hb6⟩; obtain ⟨_, y0, y1, y2, y3, _⟩ := kP.out w4 (hb4.trans (hb6.mono (by have := hb4.size; omega))))
                | (go_at_call 101; refine (hmap.out _ hb6).mono ?_; rintro r5 w5 (⟨h5, rfl, hM5, hg5⟩ | ⟨h5, rfl, hg5⟩)))
              · have hb7 := hbn.out _ _ hb6 hg5
                go_roundg (N ^ q - (k + 1))
                case measure => omega
                case rel => exact .inl ⟨k + 1, h5, rfl, rfl, hM5, hno2, hb7⟩
              · have hb7 := hbn.out _ _ hb6 hg5
                go_roundg 0
                case measure => omega
                case rel => exact .inr ⟨rfl, rfl, (by rw [h5]; exact hno2), hb7⟩
            · have ho := hO.out.is hk ⟨hheavy, hR.1 rfl⟩ hno.out
              subst ho
              clear hR hheavy hhv hmap
              go_wp2_with (go_at_call 102; refine (hfit.out).mono ?_; rintro r4 w4 ⟨rfl, hb6⟩)
              have hM4 := hM3.out.below hb6
              refine bodyPost_ret (v := .tuple #[.slice (some ⟨H + 1, 0, none⟩) q q, .bool true]) (by simp [results, Try.results75, go_sem]) rfl ⟨_, rfl, ?_, ?_⟩
              · exact hbw.out _ (hb4.trans (hb6.mono (by have := hb4.size; omega)))
              · intro k2 hk2
                cases hk2
                exact hM4.own hn5 (by omega)
    · obtain rfl := hO.out.none_of hno.out
      have hsz := hb2.size
      rw [hz1] at hsz
      go_wp2
      refine bodyPost_ret (v := .tuple #[_, .bool false]) (by simp [results, Try.results75, go_sem]; rfl) rfl ⟨_, rfl, ?_, ?_⟩
      · exact hbw.out _ (by (repeat (first | exact Below.refl _ _ | assumption | refine bchain (by assumption) ?_ | refine balloc ?_ _ | apply Below.drew | apply below_drewN | (refine Below.alloc ?_ (by (try simp) <;> omega) _) | (refine Below.setCell ?_ (by (try simp) <;> omega) _))))
      · intro k2 hk2
        cases hk2
end
end Go.Proofs.Ytfnjgdocmfmfgaa
