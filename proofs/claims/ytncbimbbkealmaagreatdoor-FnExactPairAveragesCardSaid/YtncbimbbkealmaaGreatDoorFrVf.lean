/-
  Gen, Num, Low, Lowest, FEq, Vfr, in one text.
-/
import Derived.Test.YtncbimbbkealmaaGreatDoorProg
import Derived.WalkKit
import Derived.Laws.BitsAllLaws
import Derived.Deep.QuietTactic
import Derived.BigQuiet
import Derived.Below
import Derived.Lib.Hide
import Derived.LoopTactic
import Derived.Deep.RegionWith
/-
  SMALL LAWS ABOUT WORLDS: a callee that leaves the world alone; what an old block keeps behind a call that only makes new ones.
-/
namespace Go.Proofs.YtncbimbbkealmaaGreatDoor.Fr
open Go.RowKit
set_option maxRecDepth 100000

/-- a callee that leaves the world alone, met in a region that draws its order -/
theorem quiet_eq {P : Program} {f : FuncId} {args : Array Value} {w : World} {n : Nat} {v : Value}
    (h : Calls P f args (w.drewN n) fun e w' => e = .returned v ∧ w.drewN n = w') : Calls P f args (w.drewN n) fun e w'' => e = .returned v ∧ ∃ m, w'' = w.drewN m :=
  h.mono fun _ _ ⟨he, hm⟩ => ⟨he, n, hm.symm⟩
theorem below_drewN {B : Nat} {a w : World} (h : Below B a w) (n : Nat) : Below B a (w.drewN n) := ⟨h.os, h.tape, h.output, h.size, h.block⟩

/-- an old block behind a call that only makes new ones: its cells, its marks, and that it is still old -/
theorem bkeep {W w1 : World} (hb : Below W.heap.size W w1) (b : Nat) (h : b < W.heap.size) :
    (∀ o, w1.cell? ⟨b, o, none⟩ = W.cell? ⟨b, o, none⟩) ∧ b < w1.heap.size :=
  ⟨fun o => hb.cell (p := ⟨b, o, none⟩) h, Nat.lt_of_lt_of_le h hb.size⟩

theorem bkeepz {W w1 : World} (hb : Below W.heap.size W w1) (b : Nat) (h : b < W.heap.size) : ∀ o, w1.frozen? ⟨b, o, none⟩ = W.frozen? ⟨b, o, none⟩ :=
  fun o => hb.frozen (p := ⟨b, o, none⟩) h
theorem cellHit {w : World} {a : Addr} {u v : Value} (h : w.cell? a = some u) : (w.setCell a v).drew.cell? a = some v := World.cell?_setCell_same w a v h
theorem cellMiss {w : World} {a b : Addr} {u v : Value} (h : w.cell? b = some u) (hn : a ≠ b) : (w.setCell a v).drew.cell? b = some u := (World.cell?_setCell_other w a b v hn).trans h
/-- a struct of two cells, stored over another one -/
theorem twoCells {w : World} {B : Nat} {a b : Value} (h0 : w.cell? ⟨B, 0, none⟩ = some a) (h1 : w.cell? ⟨B, 1, none⟩ = some b) (x y : Value) :
    ((w.setCell ⟨B, 0, none⟩ x).setCell ⟨B, 1, none⟩ y).cell? ⟨B, 0, none⟩ = some x ∧ ((w.setCell ⟨B, 0, none⟩ x).setCell ⟨B, 1, none⟩ y).cell? ⟨B, 1, none⟩ = some y :=
  ⟨(World.cell?_setCell_other _ _ _ _ (by simp)).trans (World.cell?_setCell_same _ _ _ h0), World.cell?_setCell_same _ _ _ ((World.cell?_setCell_other _ _ _ _ (by simp)).trans h1)⟩
/-- .. and a new block behind it -/
theorem twoCellsA {w : World} {B : Nat} {a b : Value} (hB : B < w.heap.size) (h0 : w.cell? ⟨B, 0, none⟩ = some a) (h1 : w.cell? ⟨B, 1, none⟩ = some b) (x y : Value) (O : Obj) :
    (((w.setCell ⟨B, 0, none⟩ x).setCell ⟨B, 1, none⟩ y).alloc O).cell? ⟨B, 0, none⟩ = some x ∧ (((w.setCell ⟨B, 0, none⟩ x).setCell ⟨B, 1, none⟩ y).alloc O).cell? ⟨B, 1, none⟩ = some y := by
  have h := twoCells h0 h1 x y
  have hs : ((w.setCell ⟨B, 0, none⟩ x).setCell ⟨B, 1, none⟩ y).heap.size = w.heap.size := by simp
  exact ⟨(World.cell?_alloc_old _ _ _ (by show B ≠ _; omega)).trans h.1, (World.cell?_alloc_old _ _ _ (by show B ≠ _; omega)).trans h.2⟩
theorem balloc {w W : World} (h : Below w.heap.size w W) (O : Obj) : Below w.heap.size w (W.alloc O) := h.alloc h.size O
theorem bchain {w W W1 : World} (hb : Below W.heap.size W W1) (h : Below w.heap.size w W) : Below w.heap.size w W1 := h.trans (hb.mono h.size)
/-- all old blocks behind a call that only makes new ones: as rules for 'simp' -/
theorem keepAll {W W1 : World} (hb : Below W.heap.size W W1) (b o : Nat) (h : b < W.heap.size) : W1.cell? ⟨b, o, none⟩ = W.cell? ⟨b, o, none⟩ := (bkeep hb b h).1 o
theorem keepFz {W W1 : World} (hb : Below W.heap.size W W1) (b o : Nat) (h : b < W.heap.size) : W1.frozen? ⟨b, o, none⟩ = W.frozen? ⟨b, o, none⟩ := bkeepz hb b h o
theorem keepLt {W W1 : World} (hb : Below W.heap.size W W1) (b : Nat) (h : b < W.heap.size) : b < W1.heap.size := (bkeep hb b h).2
theorem newLt {W W1 : World} (hb : Below W.heap.size W W1) (b : Nat) (h : b < W.heap.size) : W1.heap.size ≠ b := by have := hb.size; omega
end Go.Proofs.YtncbimbbkealmaaGreatDoor.Fr
/-
  NUMBERS: quotients in lowest terms. 'VF p q': p and q are the parts of a valid fraction. 'low p q': the quotient of p and q in lowest terms, if it is not too large.
-/
namespace Go.Proofs.YtncbimbbkealmaaGreatDoor.Fr
set_option maxRecDepth 100000

/-- the parts of a fraction are small enough, and it is in lowest terms -/
def VF (p q : Int) : Prop := 1 ≤ q ∧ q ≤ 1000000000 ∧ -1000000000 ≤ p ∧ p ≤ 1000000000 ∧ Int.gcd p q = 1
instance (p q : Int) : Decidable (VF p q) := by unfold VF; infer_instance
/-- the greatest common divisor with the sign of q -/
def gs (p q : Int) : Int := if q < 0 then -(Int.gcd p q : Int) else (Int.gcd p q : Int)
/-- a quotient in lowest terms, if it is not too large -/
def low (p q : Int) : Option (Int × Int) :=
  if -1000000000 ≤ p.tdiv (gs p q) ∧ p.tdiv (gs p q) ≤ 1000000000 ∧ q.tdiv (gs p q) ≤ 1000000000 then some (p.tdiv (gs p q), q.tdiv (gs p q)) else none

theorem gcd_tstep (p q : Int) : Int.gcd q (p.tmod q) = Int.gcd p q := by
  unfold Int.gcd
  rw [Int.natAbs_tmod, Nat.gcd_comm p.natAbs, Nat.gcd_rec q.natAbs p.natAbs, Nat.gcd_comm]
theorem gs_ne {p q : Int} (hq : q ≠ 0) : gs p q ≠ 0 := by
  have : Int.gcd p q ≠ 0 := by rw [Ne, Int.gcd_eq_zero_iff]; exact fun h => hq h.2
  unfold gs
  split <;> omega
theorem gs_dvd (p q : Int) : gs p q ∣ p ∧ gs p q ∣ q := by
  unfold gs
  split
  · exact ⟨Int.neg_dvd.2 (Int.gcd_dvd_left _ _), Int.neg_dvd.2 (Int.gcd_dvd_right _ _)⟩
  · exact ⟨Int.gcd_dvd_left _ _, Int.gcd_dvd_right _ _⟩
theorem gs_mul (p q : Int) : p.tdiv (gs p q) * gs p q = p ∧ q.tdiv (gs p q) * gs p q = q :=
  ⟨Int.tdiv_mul_cancel (gs_dvd p q).1, Int.tdiv_mul_cancel (gs_dvd p q).2⟩
theorem low_den {p q : Int} (hq : q ≠ 0) : 1 ≤ q.tdiv (gs p q) := by
  have h := (gs_mul p q).2
  have hg := gs_ne (p := p) hq
  have hp : 0 < (Int.gcd p q : Int) := by
    have : Int.gcd p q ≠ 0 := by rw [Ne, Int.gcd_eq_zero_iff]; exact fun h => hq h.2
    omega
  by_cases c : q < 0
  · have e : gs p q = -(Int.gcd p q : Int) := by unfold gs; rw [if_pos c]
    rw [e] at h ⊢
    apply Int.not_lt.1
    intro c2
    have : 0 ≤ q.tdiv (-(Int.gcd p q : Int)) * (-(Int.gcd p q : Int)) := Int.mul_nonneg_of_nonpos_of_nonpos (by omega) (by omega)
    omega
  · have e : gs p q = (Int.gcd p q : Int) := by unfold gs; rw [if_neg c]
    rw [e] at h ⊢
    apply Int.not_lt.1
    intro c2
    have : q.tdiv (Int.gcd p q : Int) * (Int.gcd p q : Int) ≤ 0 := Int.mul_nonpos_of_nonpos_of_nonneg (by omega) (by omega)
    omega
theorem low_gcd {p q : Int} (hq : q ≠ 0) : Int.gcd (p.tdiv (gs p q)) (q.tdiv (gs p q)) = 1 := by
  have hp : 0 < Int.gcd p q := by
    have : Int.gcd p q ≠ 0 := by rw [Ne, Int.gcd_eq_zero_iff]; exact fun h => hq h.2
    omega
  have ha : (gs p q).natAbs = Int.gcd p q := by unfold gs; split <;> simp
  unfold Int.gcd
  rw [Int.natAbs_tdiv, Int.natAbs_tdiv, ha]
  exact Nat.coprime_div_gcd_div_gcd hp
theorem low_vf {p q a b : Int} (hq : q ≠ 0) (h : low p q = some (a, b)) : VF a b := by
  unfold low at h
  split at h
  · rename_i c
    cases h
    exact ⟨low_den hq, c.2.2, c.1, c.2.1, low_gcd hq⟩
  · cases h
/-- the model's way to the lowest terms is the same -/
theorem spec_low (p q : Int) : (if q < 0 then -p else p).tdiv (Int.gcd (if q < 0 then -p else p) (if q < 0 then -q else q)) = p.tdiv (gs p q) ∧
    (if q < 0 then -q else q).tdiv (Int.gcd (if q < 0 then -p else p) (if q < 0 then -q else q)) = q.tdiv (gs p q) := by
  unfold gs
  split
  · rw [Int.gcd_neg, Int.neg_gcd]; simp [Int.neg_tdiv, Int.tdiv_neg]
  · simp
theorem tdiv_abs (p s : Int) (b : Int) (h : -b ≤ p ∧ p ≤ b) : -b ≤ p.tdiv s ∧ p.tdiv s ≤ b := by
  have h1 : (p.tdiv s).natAbs ≤ p.natAbs := Int.natAbs_tdiv_le_natAbs p s
  omega
theorem mul_b {a b : Int} (ha : -1000000000 ≤ a ∧ a ≤ 1000000000) (hb : -1000000000 ≤ b ∧ b ≤ 1000000000) : -1000000000000000000 ≤ a * b ∧ a * b ≤ 1000000000000000000 := by
  have h : (a * b).natAbs ≤ 1000000000 * 1000000000 := by rw [Int.natAbs_mul]; exact Nat.mul_le_mul (by omega) (by omega)
  omega
theorem mul_pos_b {a b : Int} (ha : 1 ≤ a) (hb : 1 ≤ b) : 1 ≤ a * b := by
  have := Int.mul_le_mul ha hb (by omega) (by omega)
  omega
theorem tmod_b (a b : Int) : (a.tmod b).natAbs ≤ a.natAbs := by
  rw [Int.natAbs_tmod]
  exact Nat.mod_le _ _
end Go.Proofs.YtncbimbbkealmaaGreatDoor.Fr
/-
  CONTRACTS: the greatest common divisor, a quotient in lowest terms: the program's and the model's.
-/
namespace Go.Proofs.YtncbimbbkealmaaGreatDoor.Fr
open Go.RowKit
set_option maxRecDepth 100000

section
variable (w : World)

theorem cd_any (p q : Int) (hp : -2000000000000000000 ≤ p ∧ p ≤ 2000000000000000000) (hq : -2000000000000000000 ≤ q ∧ q ≤ 2000000000000000000) :
    Calls Tryz.prog 98 #[.int .i64 p, .int .i64 q] w fun r w' => r = .returned (.int .i64 (Int.gcd p q : Nat)) ∧ Below w.heap.size w w' := by
  go_enter Tryz.func98, Tryz.ntmps98
  go_wp2
  go_loopw [0, 1] (fun x y wr => ∃ a b : Int, x = .int .i64 a ∧ y = .int .i64 b ∧ (-2000000000000000000 ≤ a ∧ a ≤ 2000000000000000000) ∧ (-2000000000000000000 ≤ b ∧ b ≤ 2000000000000000000) ∧ Int.gcd a b = Int.gcd p q ∧ Below w.heap.size w wr) (fun _ y _ => (intOf y).natAbs)
  case atStart => exact ⟨p, q, rfl, rfl, hp, hq, rfl, by (repeat (first | exact Below.refl _ _ | assumption | refine bchain (by assumption) ?_ | refine balloc ?_ _ | apply Below.drew | apply below_drewN | (refine Below.alloc ?_ (by (try simp) <;> omega) _) | (refine Below.setCell ?_ (by (try simp) <;> omega) _)))⟩
  case round =>
    obtain ⟨a, b, rfl, rfl, ha, hb, hg, hB⟩ := hrel
    by_cases h0 : b = 0
    · subst h0
      have hgv : ((Int.gcd p q : Nat) : Int) = (a.natAbs : Nat) := by rw [← hg, Int.gcd_zero_right]
      by_cases hs : 0 ≤ a
      · have e : ((Int.gcd p q : Nat) : Int) = a := by omega
        clear hg hgv
        go_wp2
        all_goals first | (go_ret; exact ⟨by first | rfl | (rw [e]; rfl), by (repeat (first | exact Below.refl _ _ | assumption | refine bchain (by assumption) ?_ | refine balloc ?_ _ | apply Below.drew | apply below_drewN | (refine Below.alloc ?_ (by (try simp) <;> omega) _) | (refine Below.setCell ?_ (by (try simp) <;> omega) _)))⟩) | (exfalso; omega)
      · have e : ((Int.gcd p q : Nat) : Int) = -a := by omega
        clear hg hgv
        go_wp2
        all_goals first | (go_ret; exact ⟨by first | rfl | (rw [e]; rfl), by (repeat (first | exact Below.refl _ _ | assumption | refine bchain (by assumption) ?_ | refine balloc ?_ _ | apply Below.drew | apply below_drewN | (refine Below.alloc ?_ (by (try simp) <;> omega) _) | (refine Below.setCell ?_ (by (try simp) <;> omega) _)))⟩) | (exfalso; omega)
    · have h1 := hg
      rw [← gcd_tstep] at h1
      have h2 := tmod_b a b
      have h3 := Int.natAbs_tmod a b
      have h4 : a.natAbs % b.natAbs < b.natAbs := Nat.mod_lt _ (by omega)
      obtain ⟨r, hr⟩ : ∃ r, a.tmod b = r := ⟨_, rfl⟩
      rw [hr] at h1 h2 h3
      go_wp2
      go_quiet (fail)
      go_wp2
      go_roundw
      case rel => exact ⟨b, r, rfl, rfl, hb, by omega, h1, by (repeat (first | exact Below.refl _ _ | assumption | refine bchain (by assumption) ?_ | refine balloc ?_ _ | apply Below.drew | apply below_drewN | (refine Below.alloc ?_ (by (try simp) <;> omega) _) | (refine Below.setCell ?_ (by (try simp) <;> omega) _)))⟩
      case measure => simp [intOf]; omega

theorem sabs_any (a : Int) (ha : -2000000000000000000 ≤ a ∧ a ≤ 2000000000000000000) :
    Calls Tryz.prog 85 #[.int .i64 a] w fun r w' => r = .returned (.int .i64 (a.natAbs : Nat)) ∧ w = w' := by
  by_cases hs : a < 0
  · have e : ((a.natAbs : Nat) : Int) = -a := by omega
    go_enter Tryz.func85, Tryz.ntmps85
    go_wp2
    go_ret
    exact ⟨by first | rfl | (rw [e]; rfl), rfl⟩
  · have e : ((a.natAbs : Nat) : Int) = a := by omega
    have hd := decide_eq_false hs
    go_enter Tryz.func85, Tryz.ntmps85
    go_wp2
    go_ret
    exact ⟨by first | rfl | (rw [e]; rfl), rfl⟩

theorem sc_any (p q : Int) (hp : 0 ≤ p ∧ p ≤ 2000000000000000000) (hq : 0 ≤ q ∧ q ≤ 2000000000000000000) :
    Calls Tryz.prog 84 #[.int .i64 p, .int .i64 q] w fun r w' => r = .returned (.int .i64 (Int.gcd p q : Nat)) ∧ w = w' := by
  go_enter Tryz.func84, Tryz.ntmps84
  go_wp2
  go_loopw [0, 1] (fun x y wr => ∃ a b : Int, x = .int .i64 a ∧ y = .int .i64 b ∧ (0 ≤ a ∧ a ≤ 2000000000000000000) ∧ (0 ≤ b ∧ b ≤ 2000000000000000000) ∧ Int.gcd a b = Int.gcd p q ∧ w = wr) (fun _ y _ => (intOf y).natAbs)
  case atStart => exact ⟨p, q, rfl, rfl, hp, hq, rfl, rfl⟩
  case round =>
    obtain ⟨a, b, rfl, rfl, ha, hb, hg, rfl⟩ := hrel
    by_cases h0 : b = 0
    · subst h0
      have hgv : ((Int.gcd p q : Nat) : Int) = (a.natAbs : Nat) := by rw [← hg, Int.gcd_zero_right]
      have e : ((Int.gcd p q : Nat) : Int) = a := by omega
      clear hg hgv
      go_wp2
      go_ret
      exact ⟨by first | rfl | (rw [e]; rfl), rfl⟩
    · have h1 := hg
      rw [← gcd_tstep] at h1
      have h2 := tmod_b a b
      have h3 := Int.natAbs_tmod a b
      have h5 := Int.tmod_nonneg b ha.1
      have h4 : a.natAbs % b.natAbs < b.natAbs := Nat.mod_lt _ (by omega)
      obtain ⟨r, hr⟩ : ∃ r, a.tmod b = r := ⟨_, rfl⟩
      rw [hr] at h1 h2 h3 h5
      go_wp2
      go_roundw
      case rel => exact ⟨b, r, rfl, rfl, hb, by omega, h1, by first | trivial | rfl⟩
      case measure => simp [intOf]; omega

theorem scb_any (p q : Int) (hp : 0 ≤ p ∧ p ≤ 2000000000000000000) (hq : 0 ≤ q ∧ q ≤ 2000000000000000000) :
    Calls Tryz.prog 84 #[.int .i64 p, .int .i64 q] w fun r w' => r = .returned (.int .i64 (Int.gcd p q : Nat)) ∧ Below w.heap.size w w' :=
  (sc_any w p q hp hq).mono fun _ _ ⟨h, e⟩ => ⟨h, e ▸ Below.refl _ _⟩

theorem am_any (l x : Int) (hl : 0 ≤ l ∧ l ≤ 2000000000000000000) :
    Calls Tryz.prog 99 #[.int .i64 l, .int .i64 x] w fun r w' => r = .returned (.bool (decide (-l ≤ x ∧ x ≤ l))) ∧ w = w' := by
  by_cases h1 : -l ≤ x
  · by_cases h2 : x ≤ l
    · rw [decide_eq_true ⟨h1, h2⟩]
      go_enter Tryz.func99, Tryz.ntmps99
      go_wp2
      go_ret
      exact ⟨rfl, rfl⟩
    · rw [decide_eq_false (fun c => h2 c.2)]
      have hd := decide_eq_false h2
      go_enter Tryz.func99, Tryz.ntmps99
      go_wp2
      go_ret
      exact ⟨rfl, rfl⟩
  · rw [decide_eq_false (fun c => h1 c.1)]
    have hd := decide_eq_false h1
    go_enter Tryz.func99, Tryz.ntmps99
    go_wp2
    go_ret
    exact ⟨rfl, rfl⟩
end
end Go.Proofs.YtncbimbbkealmaaGreatDoor.Fr
/-
  CONTRACTS: a quotient in lowest terms: the model's, which answers with a code, and the program's, which panics if it is too large.
-/
namespace Go.Proofs.YtncbimbbkealmaaGreatDoor.Fr
open Go.RowKit
set_option maxRecDepth 100000

/-- a fraction's value -/
def fv (x : Int × Int) : Value := .agg #[.int .i64 x.1, .int .i64 x.2]
/-- what the model answers: a fraction and OK, or the zero value and ErrLimit -/
def lv : Option (Int × Int) → Value | some x => .tuple #[fv x, .int .i64 0] | none => .tuple #[.agg #[.int .i64 0, .int .i64 0], .int .i64 3]
/-- how the program ends where a fraction is too large -/
def tooBig : Ending := .panicked [{ v := .iface 130 (.agg #[]), recovered := false }]
/-- how the program ends: with a fraction, or thrown out -/
def qe : Option (Int × Int) → Ending | some x => .returned (fv x) | none => tooBig
theorem lv_form (o : Option (Int × Int)) : ∃ x y c : Int, lv o = .tuple #[.agg #[.int .i64 x, .int .i64 y], .int .i64 c] := by
  cases o with
  | none => exact ⟨_, _, _, rfl⟩
  | some x => exact ⟨_, _, _, rfl⟩
theorem low_some {p q A B : Int} (hA : p.tdiv (gs p q) = A) (hB : q.tdiv (gs p q) = B) (h1 : -1000000000 ≤ A ∧ A ≤ 1000000000) (h2 : B ≤ 1000000000) : low p q = some (A, B) := by
  unfold low
  rw [hA, hB, if_pos ⟨h1.1, h1.2, h2⟩]
theorem low_none {p q A B : Int} (hA : p.tdiv (gs p q) = A) (hB : q.tdiv (gs p q) = B) (h : ¬ ((-1000000000 ≤ A ∧ A ≤ 1000000000) ∧ B ≤ 1000000000)) : low p q = none := by
  unfold low
  rw [hA, hB, if_neg (fun c => h ⟨⟨c.1, c.2.1⟩, c.2.2⟩)]
section
variable (w : World)

set_option maxHeartbeats 1000000 in
theorem sl_pos (p q : Int) (hp : -2000000000000000000 ≤ p ∧ p ≤ 2000000000000000000) (hqb : -2000000000000000000 ≤ q ∧ q ≤ 2000000000000000000) (hq : 0 < q) :
    Calls Tryz.prog 65 #[.int .i64 p, .int .i64 q] w fun r w' => r = .returned (lv (low p q)) ∧ Below w.heap.size w w' := by
  have hg0 : (Int.gcd p q : Nat) ≠ 0 := by rw [Ne, Int.gcd_eq_zero_iff]; omega
  have hge : Int.gcd (p.natAbs : Nat) q = Int.gcd p q := by simp [Int.gcd]
  have eg : gs p q = (Int.gcd p q : Nat) := by unfold gs; rw [if_neg (by omega)]
  have eA : p.tdiv (Int.gcd p q : Nat) = p.tdiv (gs p q) := by rw [eg]
  have eB : q.tdiv (Int.gcd p q : Nat) = q.tdiv (gs p q) := by rw [eg]
  have hd0 := decide_eq_false (show ¬ q < 0 by omega)
  have bA := tdiv_abs p (Int.gcd p q : Nat) 2000000000000000000 (by omega)
  have bB := tdiv_abs q (Int.gcd p q : Nat) 2000000000000000000 (by omega)
  have pB := low_den (p := p) (q := q) (by omega)
  have hC := Lib.hid (fun W => scb_any W (p.natAbs : Nat) q (by omega) (by omega))
  rw [hge] at hC
  have hS := Lib.hid (fun W => sabs_any W p (by omega))
  clear hge eg
  obtain ⟨g, hg⟩ : ∃ g : Int, ((Int.gcd p q : Nat) : Int) = g := ⟨_, rfl⟩
  rw [hg] at hC eA eB bA bB
  have hgn : ¬ g = 0 := by omega
  clear hg0 hg
  obtain ⟨A, hA⟩ : ∃ A, p.tdiv (gs p q) = A := ⟨_, rfl⟩
  obtain ⟨B, hB⟩ : ∃ B, q.tdiv (gs p q) = B := ⟨_, rfl⟩
  rw [hA] at eA
  rw [hB] at eB pB
  rw [eA] at bA
  rw [eB] at bB
  obtain ⟨k, hk⟩ : ∃ k, p.natAbs = k := ⟨_, rfl⟩
  rw [hk] at hC hS
  clear hk
  have hT := Lib.hid (fun W => sabs_any W A (by omega))
  by_cases c1 : -1000000000 ≤ A ∧ A ≤ 1000000000
  · have d1 : decide ((1000000000 : Int) < (A.natAbs : Nat)) = false := decide_eq_false (by omega)
    by_cases c2 : B ≤ 1000000000
    · rw [low_some hA hB c1 c2]
      have d2 : decide ((1000000000 : Int) < B) = false := decide_eq_false (by omega)
      obtain ⟨m, hm⟩ : ∃ m : Int, (A.natAbs : Nat) = m := ⟨_, rfl⟩
      rw [hm] at d1 hT
      clear hm c1 c2 hA hB
      go_enter Tryz.func65, Tryz.ntmps65
      go_wp2_with (first | (go_at_call 85; refine (hS.out _).mono ?_; rintro r w1 ⟨rfl, rfl⟩) | (go_at_call 84; refine (hC.out _).mono ?_; rintro r w2 ⟨rfl, hb2⟩; obtain ⟨hc2, hz2⟩ := bkeep hb2 w.heap.size (by (try simp) <;> omega); have hf2 := bkeepz hb2 w.heap.size (by (try simp) <;> omega)))
      go_region
      all_goals go_wp2_with (go_at_call 85; refine (hT.out _).mono ?_; rintro r w3 ⟨rfl, rfl⟩)
      all_goals have h2 := fun O => twoCellsA (a := .int .i64 0) (b := .int .i64 0) hz2 ((hc2 0).trans (by simp)) ((hc2 1).trans (by simp)) (.int .i64 A) (.int .i64 B) O
      all_goals exact bodyPost_ret (v := .tuple #[.agg #[.int .i64 A, .int .i64 B], .int .i64 0]) (by simp [results, Tryz.results65, go_sem, (h2 _).1, (h2 _).2]) rfl ⟨rfl, by (repeat (first | exact Below.refl _ _ | assumption | refine bchain (by assumption) ?_ | refine balloc ?_ _ | apply Below.drew | apply below_drewN | (refine Below.alloc ?_ (by (try simp) <;> omega) _) | (refine Below.setCell ?_ (by (try simp) <;> omega) _)))⟩
    · rw [low_none hA hB (by omega)]
      have d2 : decide ((1000000000 : Int) < B) = true := decide_eq_true (by omega)
      obtain ⟨m, hm⟩ : ∃ m : Int, (A.natAbs : Nat) = m := ⟨_, rfl⟩
      rw [hm] at d1 hT
      clear hm c1 c2 hA hB
      go_enter Tryz.func65, Tryz.ntmps65
      go_wp2_with (first | (go_at_call 85; refine (hS.out _).mono ?_; rintro r w1 ⟨rfl, rfl⟩) | (go_at_call 84; refine (hC.out _).mono ?_; rintro r w2 ⟨rfl, hb2⟩; obtain ⟨hc2, hz2⟩ := bkeep hb2 w.heap.size (by (try simp) <;> omega); have hf2 := bkeepz hb2 w.heap.size (by (try simp) <;> omega)))
      go_region
      all_goals go_wp2_with (go_at_call 85; refine (hT.out _).mono ?_; rintro r w3 ⟨rfl, rfl⟩)
      all_goals have h2 := fun O => twoCellsA (a := .int .i64 0) (b := .int .i64 0) hz2 ((hc2 0).trans (by simp)) ((hc2 1).trans (by simp)) (.int .i64 0) (.int .i64 0) O
      all_goals exact bodyPost_ret (v := .tuple #[.agg #[.int .i64 0, .int .i64 0], .int .i64 3]) (by simp [results, Tryz.results65, go_sem, (h2 _).1, (h2 _).2]) rfl ⟨rfl, by (repeat (first | exact Below.refl _ _ | assumption | refine bchain (by assumption) ?_ | refine balloc ?_ _ | apply Below.drew | apply below_drewN | (refine Below.alloc ?_ (by (try simp) <;> omega) _) | (refine Below.setCell ?_ (by (try simp) <;> omega) _)))⟩
  · rw [low_none hA hB (by omega)]
    have d1 : decide ((1000000000 : Int) < (A.natAbs : Nat)) = true := decide_eq_true (by omega)
    obtain ⟨m, hm⟩ : ∃ m : Int, (A.natAbs : Nat) = m := ⟨_, rfl⟩
    rw [hm] at d1 hT
    clear hm c1 hA hB
    go_enter Tryz.func65, Tryz.ntmps65
    go_wp2_with (first | (go_at_call 85; refine (hS.out _).mono ?_; rintro r w1 ⟨rfl, rfl⟩) | (go_at_call 84; refine (hC.out _).mono ?_; rintro r w2 ⟨rfl, hb2⟩; obtain ⟨hc2, hz2⟩ := bkeep hb2 w.heap.size (by (try simp) <;> omega); have hf2 := bkeepz hb2 w.heap.size (by (try simp) <;> omega)))
    go_region
    all_goals go_wp2_with (go_at_call 85; refine (hT.out _).mono ?_; rintro r w3 ⟨rfl, rfl⟩)
    all_goals have h2 := fun O => twoCellsA (a := .int .i64 0) (b := .int .i64 0) hz2 ((hc2 0).trans (by simp)) ((hc2 1).trans (by simp)) (.int .i64 0) (.int .i64 0) O
    all_goals exact bodyPost_ret (v := .tuple #[.agg #[.int .i64 0, .int .i64 0], .int .i64 3]) (by simp [results, Tryz.results65, go_sem, (h2 _).1, (h2 _).2]) rfl ⟨rfl, by (repeat (first | exact Below.refl _ _ | assumption | refine bchain (by assumption) ?_ | refine balloc ?_ _ | apply Below.drew | apply below_drewN | (refine Below.alloc ?_ (by (try simp) <;> omega) _) | (refine Below.setCell ?_ (by (try simp) <;> omega) _)))⟩

set_option maxHeartbeats 1000000 in
theorem sl_neg (p q : Int) (hp : -2000000000000000000 ≤ p ∧ p ≤ 2000000000000000000) (hqb : -2000000000000000000 ≤ q ∧ q ≤ 2000000000000000000) (hq : q < 0) :
    Calls Tryz.prog 65 #[.int .i64 p, .int .i64 q] w fun r w' => r = .returned (lv (low p q)) ∧ Below w.heap.size w w' := by
  have hg0 : (Int.gcd p q : Nat) ≠ 0 := by rw [Ne, Int.gcd_eq_zero_iff]; omega
  have hge : Int.gcd ((-p).natAbs : Nat) (-q) = Int.gcd p q := by simp [Int.gcd]
  have eg : gs p q = -(Int.gcd p q : Nat) := by unfold gs; rw [if_pos hq]
  have eA : (-p).tdiv (Int.gcd p q : Nat) = p.tdiv (gs p q) := by rw [eg, Int.neg_tdiv, Int.tdiv_neg]
  have eB : (-q).tdiv (Int.gcd p q : Nat) = q.tdiv (gs p q) := by rw [eg, Int.neg_tdiv, Int.tdiv_neg]
  have bA := tdiv_abs (-p) (Int.gcd p q : Nat) 2000000000000000000 (by omega)
  have bB := tdiv_abs (-q) (Int.gcd p q : Nat) 2000000000000000000 (by omega)
  have pB := low_den (p := p) (q := q) (by omega)
  have hC := Lib.hid (fun W => scb_any W ((-p).natAbs : Nat) (-q) (by omega) (by omega))
  rw [hge] at hC
  have hS := Lib.hid (fun W => sabs_any W (-p) (by omega))
  clear hge eg
  obtain ⟨g, hg⟩ : ∃ g : Int, ((Int.gcd p q : Nat) : Int) = g := ⟨_, rfl⟩
  rw [hg] at hC eA eB bA bB
  have hgn : ¬ g = 0 := by omega
  clear hg0 hg
  obtain ⟨A, hA⟩ : ∃ A, p.tdiv (gs p q) = A := ⟨_, rfl⟩
  obtain ⟨B, hB⟩ : ∃ B, q.tdiv (gs p q) = B := ⟨_, rfl⟩
  rw [hA] at eA
  rw [hB] at eB pB
  rw [eA] at bA
  rw [eB] at bB
  obtain ⟨k, hk⟩ : ∃ k, (-p).natAbs = k := ⟨_, rfl⟩
  rw [hk] at hC hS
  clear hk
  have hT := Lib.hid (fun W => sabs_any W A (by omega))
  by_cases c1 : -1000000000 ≤ A ∧ A ≤ 1000000000
  · have d1 : decide ((1000000000 : Int) < (A.natAbs : Nat)) = false := decide_eq_false (by omega)
    by_cases c2 : B ≤ 1000000000
    · rw [low_some hA hB c1 c2]
      have d2 : decide ((1000000000 : Int) < B) = false := decide_eq_false (by omega)
      obtain ⟨m, hm⟩ : ∃ m : Int, (A.natAbs : Nat) = m := ⟨_, rfl⟩
      rw [hm] at d1 hT
      clear hm c1 c2 hA hB
      go_enter Tryz.func65, Tryz.ntmps65
      go_wp2_with (first | (go_at_call 85; refine (hS.out _).mono ?_; rintro r w1 ⟨rfl, rfl⟩) | (go_at_call 84; refine (hC.out _).mono ?_; rintro r w2 ⟨rfl, hb2⟩; obtain ⟨hc2, hz2⟩ := bkeep hb2 w.heap.size (by (try simp) <;> omega); have hf2 := bkeepz hb2 w.heap.size (by (try simp) <;> omega)))
      go_region
      all_goals go_wp2_with (go_at_call 85; refine (hT.out _).mono ?_; rintro r w3 ⟨rfl, rfl⟩)
      all_goals have h2 := fun O => twoCellsA (a := .int .i64 0) (b := .int .i64 0) hz2 ((hc2 0).trans (by simp)) ((hc2 1).trans (by simp)) (.int .i64 A) (.int .i64 B) O
      all_goals exact bodyPost_ret (v := .tuple #[.agg #[.int .i64 A, .int .i64 B], .int .i64 0]) (by simp [results, Tryz.results65, go_sem, (h2 _).1, (h2 _).2]) rfl ⟨rfl, by (repeat (first | exact Below.refl _ _ | assumption | refine bchain (by assumption) ?_ | refine balloc ?_ _ | apply Below.drew | apply below_drewN | (refine Below.alloc ?_ (by (try simp) <;> omega) _) | (refine Below.setCell ?_ (by (try simp) <;> omega) _)))⟩
    · rw [low_none hA hB (by omega)]
      have d2 : decide ((1000000000 : Int) < B) = true := decide_eq_true (by omega)
      obtain ⟨m, hm⟩ : ∃ m : Int, (A.natAbs : Nat) = m := ⟨_, rfl⟩
      rw [hm] at d1 hT
      clear hm c1 c2 hA hB
      go_enter Tryz.func65, Tryz.ntmps65
      go_wp2_with (first | (go_at_call 85; refine (hS.out _).mono ?_; rintro r w1 ⟨rfl, rfl⟩) | (go_at_call 84; refine (hC.out _).mono ?_; rintro r w2 ⟨rfl, hb2⟩; obtain ⟨hc2, hz2⟩ := bkeep hb2 w.heap.size (by (try simp) <;> omega); have hf2 := bkeepz hb2 w.heap.size (by (try simp) <;> omega)))
      go_region
      all_goals go_wp2_with (go_at_call 85; refine (hT.out _).mono ?_; rintro r w3 ⟨rfl, rfl⟩)
      all_goals have h2 := fun O => twoCellsA (a := .int .i64 0) (b := .int .i64 0) hz2 ((hc2 0).trans (by simp)) ((hc2 1).trans (by simp)) (.int .i64 0) (.int .i64 0) O
      all_goals exact bodyPost_ret (v := .tuple #[.agg #[.int .i64 0, .int .i64 0], .int .i64 3]) (by simp [results, Tryz.results65, go_sem, (h2 _).1, (h2 _).2]) rfl ⟨rfl, by (repeat (first | exact Below.refl _ _ | assumption | refine bchain (by assumption) ?_ | refine balloc ?_ _ | apply Below.drew | apply below_drewN | (refine Below.alloc ?_ (by (try simp) <;> omega) _) | (refine Below.setCell ?_ (by (try simp) <;> omega) _)))⟩
  · rw [low_none hA hB (by omega)]
    have d1 : decide ((1000000000 : Int) < (A.natAbs : Nat)) = true := decide_eq_true (by omega)
    obtain ⟨m, hm⟩ : ∃ m : Int, (A.natAbs : Nat) = m := ⟨_, rfl⟩
    rw [hm] at d1 hT
    clear hm c1 hA hB
    go_enter Tryz.func65, Tryz.ntmps65
    go_wp2_with (first | (go_at_call 85; refine (hS.out _).mono ?_; rintro r w1 ⟨rfl, rfl⟩) | (go_at_call 84; refine (hC.out _).mono ?_; rintro r w2 ⟨rfl, hb2⟩; obtain ⟨hc2, hz2⟩ := bkeep hb2 w.heap.size (by (try simp) <;> omega); have hf2 := bkeepz hb2 w.heap.size (by (try simp) <;> omega)))
    go_region
    all_goals go_wp2_with (go_at_call 85; refine (hT.out _).mono ?_; rintro r w3 ⟨rfl, rfl⟩)
    all_goals have h2 := fun O => twoCellsA (a := .int .i64 0) (b := .int .i64 0) hz2 ((hc2 0).trans (by simp)) ((hc2 1).trans (by simp)) (.int .i64 0) (.int .i64 0) O
    all_goals exact bodyPost_ret (v := .tuple #[.agg #[.int .i64 0, .int .i64 0], .int .i64 3]) (by simp [results, Tryz.results65, go_sem, (h2 _).1, (h2 _).2]) rfl ⟨rfl, by (repeat (first | exact Below.refl _ _ | assumption | refine bchain (by assumption) ?_ | refine balloc ?_ _ | apply Below.drew | apply below_drewN | (refine Below.alloc ?_ (by (try simp) <;> omega) _) | (refine Below.setCell ?_ (by (try simp) <;> omega) _)))⟩
theorem sl_any (p q : Int) (hp : -2000000000000000000 ≤ p ∧ p ≤ 2000000000000000000) (hqb : -2000000000000000000 ≤ q ∧ q ≤ 2000000000000000000) (hq : q ≠ 0) :
    Calls Tryz.prog 65 #[.int .i64 p, .int .i64 q] w fun r w' => r = .returned (lv (low p q)) ∧ Below w.heap.size w w' := by
  rcases Int.lt_or_gt_of_ne hq with h | h
  · exact sl_neg w p q hp hqb h
  · exact sl_pos w p q hp hqb h

set_option maxHeartbeats 1000000 in
theorem q_pos (p q : Int) (hp : -2000000000000000000 ≤ p ∧ p ≤ 2000000000000000000) (hqb : -2000000000000000000 ≤ q ∧ q ≤ 2000000000000000000) (hq : 0 < q) :
    Calls Tryz.prog 76 #[.int .i64 p, .int .i64 q] w fun r w' => r = qe (low p q) ∧ Below w.heap.size w w' := by
  have hg0 : (Int.gcd p q : Nat) ≠ 0 := by rw [Ne, Int.gcd_eq_zero_iff]; omega
  have eg : gs p q = (Int.gcd p q : Nat) := by unfold gs; rw [if_neg (by omega)]
  have eA : p.tdiv (Int.gcd p q : Nat) = p.tdiv (gs p q) := by rw [eg]
  have eB : q.tdiv (Int.gcd p q : Nat) = q.tdiv (gs p q) := by rw [eg]
  have hd0 := decide_eq_false (show ¬ q < 0 by omega)
  have bA := tdiv_abs p (Int.gcd p q : Nat) 2000000000000000000 (by omega)
  have bB := tdiv_abs q (Int.gcd p q : Nat) 2000000000000000000 (by omega)
  have pB := low_den (p := p) (q := q) (by omega)
  have bg : ((Int.gcd p q : Nat) : Int) ≤ 2000000000000000000 := by
    have := Int.gcd_le_natAbs_right p (show q ≠ 0 by omega)
    omega
  have hC := Lib.hid (fun W => cd_any W p q hp hqb)
  clear eg
  obtain ⟨g, hg⟩ : ∃ g : Int, ((Int.gcd p q : Nat) : Int) = g := ⟨_, rfl⟩
  rw [hg] at hC eA eB bA bB bg
  have hgn : ¬ g = 0 := by omega
  have hg1 : 0 < g := by omega
  clear hg0 hg
  obtain ⟨A, hA⟩ : ∃ A, p.tdiv (gs p q) = A := ⟨_, rfl⟩
  obtain ⟨B, hB⟩ : ∃ B, q.tdiv (gs p q) = B := ⟨_, rfl⟩
  rw [hA] at eA
  rw [hB] at eB pB
  rw [eA] at bA
  rw [eB] at bB
  have hT := Lib.hid (fun W => am_any W 1000000000 A (by omega))
  have hU := Lib.hid (fun W => am_any W 1000000000 B (by omega))
  obtain ⟨b1, e1⟩ : ∃ b1, decide (-1000000000 ≤ A ∧ A ≤ 1000000000) = b1 := ⟨_, rfl⟩
  obtain ⟨b2, e2⟩ : ∃ b2, decide (-1000000000 ≤ B ∧ B ≤ 1000000000) = b2 := ⟨_, rfl⟩
  rw [e1] at hT
  rw [e2] at hU
  have key : (b1 = true ∧ b2 = true ∧ low p q = some (A, B)) ∨ (b1 = true ∧ b2 = false ∧ low p q = none) ∨ (b1 = false ∧ low p q = none) := by
    by_cases c1 : -1000000000 ≤ A ∧ A ≤ 1000000000
    · rw [decide_eq_true c1] at e1
      by_cases c2 : B ≤ 1000000000
      · rw [decide_eq_true ⟨by omega, c2⟩] at e2
        exact .inl ⟨e1.symm, e2.symm, low_some hA hB c1 c2⟩
      · rw [decide_eq_false (by omega)] at e2
        exact .inr (.inl ⟨e1.symm, e2.symm, low_none hA hB (by omega)⟩)
    · rw [decide_eq_false c1] at e1
      exact .inr (.inr ⟨e1.symm, low_none hA hB (by omega)⟩)
  clear e1 e2 hA hB
  rcases key with ⟨rfl, rfl, hl⟩ | ⟨rfl, rfl, hl⟩ | ⟨rfl, hl⟩
  · rw [hl]
    go_enter Tryz.func76, Tryz.ntmps76
    go_wp2_with (go_at_call 98; refine (hC.out _).mono ?_; rintro r w2 ⟨rfl, hb2⟩; obtain ⟨hc2, hz2⟩ := bkeep hb2 w.heap.size (by (try simp) <;> omega); have hf2 := bkeepz hb2 w.heap.size (by (try simp) <;> omega))
    go_region
    all_goals go_wp2_with (go_at_call 99; first | (with_reducible refine (hT.out _).mono ?_; rintro r w3 ⟨rfl, rfl⟩) | (with_reducible refine (hU.out _).mono ?_; rintro r w3 ⟨rfl, rfl⟩))
    all_goals have h2 := fun O => twoCellsA (a := .int .i64 0) (b := .int .i64 0) hz2 ((hc2 0).trans (by simp)) ((hc2 1).trans (by simp)) (.int .i64 A) (.int .i64 B) O
    all_goals exact bodyPost_ret (v := .agg #[.int .i64 A, .int .i64 B]) (by simp [results, Tryz.results76, go_sem, (h2 _).1, (h2 _).2]) rfl ⟨rfl, by (repeat (first | exact Below.refl _ _ | assumption | refine bchain (by assumption) ?_ | refine balloc ?_ _ | apply Below.drew | apply below_drewN | (refine Below.alloc ?_ (by (try simp) <;> omega) _) | (refine Below.setCell ?_ (by (try simp) <;> omega) _)))⟩
  · rw [hl]
    go_enter Tryz.func76, Tryz.ntmps76
    go_wp2_with (go_at_call 98; refine (hC.out _).mono ?_; rintro r w2 ⟨rfl, hb2⟩; obtain ⟨hc2, hz2⟩ := bkeep hb2 w.heap.size (by (try simp) <;> omega); have hf2 := bkeepz hb2 w.heap.size (by (try simp) <;> omega))
    go_region
    all_goals go_wp2_with (go_at_call 99; first | (with_reducible refine (hT.out _).mono ?_; rintro r w3 ⟨rfl, rfl⟩) | (with_reducible refine (hU.out _).mono ?_; rintro r w3 ⟨rfl, rfl⟩))
    all_goals exact ⟨rfl, rfl, by (repeat (first | exact Below.refl _ _ | assumption | refine bchain (by assumption) ?_ | refine balloc ?_ _ | apply Below.drew | apply below_drewN | (refine Below.alloc ?_ (by (try simp) <;> omega) _) | (refine Below.setCell ?_ (by (try simp) <;> omega) _)))⟩
  · rw [hl]
    go_enter Tryz.func76, Tryz.ntmps76
    go_wp2_with (go_at_call 98; refine (hC.out _).mono ?_; rintro r w2 ⟨rfl, hb2⟩; obtain ⟨hc2, hz2⟩ := bkeep hb2 w.heap.size (by (try simp) <;> omega); have hf2 := bkeepz hb2 w.heap.size (by (try simp) <;> omega))
    go_region
    all_goals go_wp2_with (go_at_call 99; refine (hT.out _).mono ?_; rintro r w3 ⟨rfl, rfl⟩)
    all_goals exact ⟨rfl, rfl, by (repeat (first | exact Below.refl _ _ | assumption | refine bchain (by assumption) ?_ | refine balloc ?_ _ | apply Below.drew | apply below_drewN | (refine Below.alloc ?_ (by (try simp) <;> omega) _) | (refine Below.setCell ?_ (by (try simp) <;> omega) _)))⟩

set_option maxHeartbeats 1000000 in
theorem q_neg (p q : Int) (hp : -2000000000000000000 ≤ p ∧ p ≤ 2000000000000000000) (hqb : -2000000000000000000 ≤ q ∧ q ≤ 2000000000000000000) (hq : q < 0) :
    Calls Tryz.prog 76 #[.int .i64 p, .int .i64 q] w fun r w' => r = qe (low p q) ∧ Below w.heap.size w w' := by
  have hg0 : (Int.gcd p q : Nat) ≠ 0 := by rw [Ne, Int.gcd_eq_zero_iff]; omega
  have eg : gs p q = -(Int.gcd p q : Nat) := by unfold gs; rw [if_pos hq]
  have eA : p.tdiv (-(Int.gcd p q : Nat)) = p.tdiv (gs p q) := by rw [eg]
  have eB : q.tdiv (-(Int.gcd p q : Nat)) = q.tdiv (gs p q) := by rw [eg]
  have bA := tdiv_abs p (-(Int.gcd p q : Nat)) 2000000000000000000 (by omega)
  have bB := tdiv_abs q (-(Int.gcd p q : Nat)) 2000000000000000000 (by omega)
  have pB := low_den (p := p) (q := q) (by omega)
  have bg : ((Int.gcd p q : Nat) : Int) ≤ 2000000000000000000 := by
    have := Int.gcd_le_natAbs_right p (show q ≠ 0 by omega)
    omega
  have hC := Lib.hid (fun W => cd_any W p q hp hqb)
  clear eg
  obtain ⟨g, hg⟩ : ∃ g : Int, ((Int.gcd p q : Nat) : Int) = g := ⟨_, rfl⟩
  rw [hg] at hC eA eB bA bB bg
  have hgn : ¬ g = 0 := by omega
  have hg1 : 0 < g := by omega
  clear hg0 hg
  obtain ⟨A, hA⟩ : ∃ A, p.tdiv (gs p q) = A := ⟨_, rfl⟩
  obtain ⟨B, hB⟩ : ∃ B, q.tdiv (gs p q) = B := ⟨_, rfl⟩
  rw [hA] at eA
  rw [hB] at eB pB
  rw [eA] at bA
  rw [eB] at bB
  have hT := Lib.hid (fun W => am_any W 1000000000 A (by omega))
  have hU := Lib.hid (fun W => am_any W 1000000000 B (by omega))
  obtain ⟨b1, e1⟩ : ∃ b1, decide (-1000000000 ≤ A ∧ A ≤ 1000000000) = b1 := ⟨_, rfl⟩
  obtain ⟨b2, e2⟩ : ∃ b2, decide (-1000000000 ≤ B ∧ B ≤ 1000000000) = b2 := ⟨_, rfl⟩
  rw [e1] at hT
  rw [e2] at hU
  have key : (b1 = true ∧ b2 = true ∧ low p q = some (A, B)) ∨ (b1 = true ∧ b2 = false ∧ low p q = none) ∨ (b1 = false ∧ low p q = none) := by
    by_cases c1 : -1000000000 ≤ A ∧ A ≤ 1000000000
    · rw [decide_eq_true c1] at e1
      by_cases c2 : B ≤ 1000000000
      · rw [decide_eq_true ⟨by omega, c2⟩] at e2
        exact .inl ⟨e1.symm, e2.symm, low_some hA hB c1 c2⟩
      · rw [decide_eq_false (by omega)] at e2
        exact .inr (.inl ⟨e1.symm, e2.symm, low_none hA hB (by omega)⟩)
    · rw [decide_eq_false c1] at e1
      exact .inr (.inr ⟨e1.symm, low_none hA hB (by omega)⟩)
  clear e1 e2 hA hB
  rcases key with ⟨rfl, rfl, hl⟩ | ⟨rfl, rfl, hl⟩ | ⟨rfl, hl⟩
  · rw [hl]
    go_enter Tryz.func76, Tryz.ntmps76
    go_wp2_with (go_at_call 98; refine (hC.out _).mono ?_; rintro r w2 ⟨rfl, hb2⟩; obtain ⟨hc2, hz2⟩ := bkeep hb2 w.heap.size (by (try simp) <;> omega); have hf2 := bkeepz hb2 w.heap.size (by (try simp) <;> omega))
    go_region
    all_goals go_wp2_with (go_at_call 99; first | (with_reducible refine (hT.out _).mono ?_; rintro r w3 ⟨rfl, rfl⟩) | (with_reducible refine (hU.out _).mono ?_; rintro r w3 ⟨rfl, rfl⟩))
    all_goals have h2 := fun O => twoCellsA (a := .int .i64 0) (b := .int .i64 0) hz2 ((hc2 0).trans (by simp)) ((hc2 1).trans (by simp)) (.int .i64 A) (.int .i64 B) O
    all_goals exact bodyPost_ret (v := .agg #[.int .i64 A, .int .i64 B]) (by simp [results, Tryz.results76, go_sem, (h2 _).1, (h2 _).2]) rfl ⟨rfl, by (repeat (first | exact Below.refl _ _ | assumption | refine bchain (by assumption) ?_ | refine balloc ?_ _ | apply Below.drew | apply below_drewN | (refine Below.alloc ?_ (by (try simp) <;> omega) _) | (refine Below.setCell ?_ (by (try simp) <;> omega) _)))⟩
  · rw [hl]
    go_enter Tryz.func76, Tryz.ntmps76
    go_wp2_with (go_at_call 98; refine (hC.out _).mono ?_; rintro r w2 ⟨rfl, hb2⟩; obtain ⟨hc2, hz2⟩ := bkeep hb2 w.heap.size (by (try simp) <;> omega); have hf2 := bkeepz hb2 w.heap.size (by (try simp) <;> omega))
    go_region
    all_goals go_wp2_with (go_at_call 99; first | (with_reducible refine (hT.out _).mono ?_; rintro r w3 ⟨rfl, rfl⟩) | (with_reducible refine (hU.out _).mono ?_; rintro r w3 ⟨rfl, rfl⟩))
    all_goals exact ⟨rfl, rfl, by (repeat (first | exact Below.refl _ _ | assumption | refine bchain (by assumption) ?_ | refine balloc ?_ _ | apply Below.drew | apply below_drewN | (refine Below.alloc ?_ (by (try simp) <;> omega) _) | (refine Below.setCell ?_ (by (try simp) <;> omega) _)))⟩
  · rw [hl]
    go_enter Tryz.func76, Tryz.ntmps76
    go_wp2_with (go_at_call 98; refine (hC.out _).mono ?_; rintro r w2 ⟨rfl, hb2⟩; obtain ⟨hc2, hz2⟩ := bkeep hb2 w.heap.size (by (try simp) <;> omega); have hf2 := bkeepz hb2 w.heap.size (by (try simp) <;> omega))
    go_region
    all_goals go_wp2_with (go_at_call 99; refine (hT.out _).mono ?_; rintro r w3 ⟨rfl, rfl⟩)
    all_goals exact ⟨rfl, rfl, by (repeat (first | exact Below.refl _ _ | assumption | refine bchain (by assumption) ?_ | refine balloc ?_ _ | apply Below.drew | apply below_drewN | (refine Below.alloc ?_ (by (try simp) <;> omega) _) | (refine Below.setCell ?_ (by (try simp) <;> omega) _)))⟩
theorem q_any (p q : Int) (hp : -2000000000000000000 ≤ p ∧ p ≤ 2000000000000000000) (hqb : -2000000000000000000 ≤ q ∧ q ≤ 2000000000000000000) (hq : q ≠ 0) :
    Calls Tryz.prog 76 #[.int .i64 p, .int .i64 q] w fun r w' => r = qe (low p q) ∧ Below w.heap.size w w' := by
  rcases Int.lt_or_gt_of_ne hq with h | h
  · exact q_neg w p q hp hqb h
  · exact q_pos w p q hp hqb h
end
end Go.Proofs.YtncbimbbkealmaaGreatDoor.Fr
/-
  CONTRACTS: a fraction of the laws' own as the program's; two fractions held against each other.
-/
namespace Go.Proofs.YtncbimbbkealmaaGreatDoor.Fr
open Go.RowKit
set_option maxRecDepth 100000
/-- two boxes of two cells each, behind what only makes new blocks -/
theorem boxes_keep {w wS W : World} {a1 a2 b1 b2 : Int} (h : wS.cell? ⟨w.heap.size, 0, none⟩ = some (.int .i64 a1) ∧ wS.cell? ⟨w.heap.size, 1, none⟩ = some (.int .i64 a2) ∧ wS.cell? ⟨w.heap.size + 1, 0, none⟩ = some (.int .i64 b1) ∧ wS.cell? ⟨w.heap.size + 1, 1, none⟩ = some (.int .i64 b2) ∧ w.heap.size < wS.heap.size ∧ w.heap.size + 1 < wS.heap.size) (hb : Below wS.heap.size wS W) :
    W.cell? ⟨w.heap.size, 0, none⟩ = some (.int .i64 a1) ∧ W.cell? ⟨w.heap.size, 1, none⟩ = some (.int .i64 a2) ∧ W.cell? ⟨w.heap.size + 1, 0, none⟩ = some (.int .i64 b1) ∧ W.cell? ⟨w.heap.size + 1, 1, none⟩ = some (.int .i64 b2) ∧ w.heap.size < W.heap.size ∧ w.heap.size + 1 < W.heap.size := by
  obtain ⟨h0, h1, h2, h3, z0, z1⟩ := h
  have hs := hb.size
  exact ⟨(hb.cell (p := ⟨_, _, none⟩) z0).trans h0, (hb.cell (p := ⟨_, _, none⟩) z0).trans h1, (hb.cell (p := ⟨_, _, none⟩) z1).trans h2, (hb.cell (p := ⟨_, _, none⟩) z1).trans h3, by omega, by omega⟩
theorem old_lt {wS W : World} {B : Nat} (h : B < wS.heap.size) (hb : Below wS.heap.size wS W) : B < W.heap.size := Nat.lt_of_lt_of_le h hb.size
theorem old_cell {wS W : World} {B o : Nat} {v : Value} (h : B < wS.heap.size) (hc : wS.cell? ⟨B, o, none⟩ = some v) (hb : Below wS.heap.size wS W) : W.cell? ⟨B, o, none⟩ = some v := (hb.cell (p := ⟨B, o, none⟩) h).trans hc
section
variable (w : World)
theorem eqF_any (m f : Int) : Calls Tryz.prog 56 #[.agg #[.int .i64 m, .int .i64 f], .agg #[.int .i64 m, .int .i64 f]] w fun r w' => r = .returned (.bool true) ∧ Below w.heap.size w w' := by
  go_enter Tryz.func56, Tryz.ntmps56
  go_wp2
  go_ret
  exact ⟨rfl, by (repeat (first | exact Below.refl _ _ | assumption | refine bchain (by assumption) ?_ | refine balloc ?_ _ | apply Below.drew | apply below_drewN | (refine Below.alloc ?_ (by (try simp) <;> omega) _) | (refine Below.setCell ?_ (by (try simp) <;> omega) _)))⟩
end
end Go.Proofs.YtncbimbbkealmaaGreatDoor.Fr
namespace Go.Proofs.YtncbimbbkealmaaGreatDoor.Fr
open Go.RowKit
set_option maxRecDepth 100000
section
variable (w : World)
theorem in_t (n lo hi : Int) (h1 : lo ≤ n) (h2 : n ≤ hi) :
    Calls Tryz.prog 30 #[.int .i64 n, .int .i64 lo, .int .i64 hi] w fun e w' => e = .returned (.bool true) ∧ w = w' := by
  go_enter Tryz.func30, Tryz.ntmps30
  go_wp2
  go_ret
  exact ⟨rfl, rfl⟩
theorem in_f (n lo hi : Int) (h : n < lo ∨ hi < n) :
    Calls Tryz.prog 30 #[.int .i64 n, .int .i64 lo, .int .i64 hi] w fun e w' => e = .returned (.bool false) ∧ w = w' := by
  rcases h with h | h
  · have hd : decide (lo ≤ n) = false := by simp; omega
    go_enter Tryz.func30, Tryz.ntmps30
    go_wp2
    go_ret
    exact ⟨rfl, rfl⟩
  · have hd : decide (n ≤ hi) = false := by simp; omega
    by_cases hl : lo ≤ n
    · go_enter Tryz.func30, Tryz.ntmps30
      go_wp2
      go_ret
      exact ⟨rfl, rfl⟩
    · have hd2 : decide (lo ≤ n) = false := by simp; omega
      go_enter Tryz.func30, Tryz.ntmps30
      go_wp2
      go_ret
      exact ⟨rfl, rfl⟩

end
end Go.Proofs.YtncbimbbkealmaaGreatDoor.Fr
