/-
  LISTS OF DIFFERENT VERTICES: the program's test and the model's, for every list.
-/
import Derived.Test.YtmbjhncgdmbpaaaInts
namespace Go.Proofs.Ytmbjhncgdmbpaaa
open Go.RowKit
set_option maxRecDepth 100000

def zi (zs : List Int) (i : Nat) : Int := zs[i]?.getD 0
/-- the number at k is a vertex that did not come before -/
def Fresh (zs : List Int) (n : Int) (k : Nat) : Prop := 0 ≤ zi zs k ∧ zi zs k < n ∧ ∀ j, j < k → zi zs j ≠ zi zs k
def Diff (zs : List Int) (n : Int) : Prop := ∀ k, k < zs.length → Fresh zs n k

theorem not_diff {zs : List Int} {n : Int} (h : ¬ Diff zs n) : ∃ m, m < zs.length ∧ (∀ k, k < m → Fresh zs n k) ∧ ¬ Fresh zs n m := by
  have : ∀ m, m ≤ zs.length → (∀ k, k < m → Fresh zs n k) ∨ ∃ m', m' < zs.length ∧ (∀ k, k < m' → Fresh zs n k) ∧ ¬ Fresh zs n m' := by
    intro m
    induction m with
    | zero => intro _; exact .inl (fun k hk => by omega)
    | succ m ih =>
      intro hm
      rcases ih (by omega) with h1 | h1
      · by_cases hf : Fresh zs n m
        · refine .inl (fun k hk => ?_)
          by_cases e : k = m
          · rw [e]; exact hf
          · exact h1 k (by omega)
        · exact .inr ⟨m, by omega, h1, hf⟩
      · exact .inr h1
  rcases this zs.length (Nat.le_refl _) with h1 | h1
  · exact absurd h1 h
  · exact h1

section
variable (w : World)

open Classical in
/-- the vertex u came among the first k -/
def seenB (zs : List Int) : Nat → Nat → Bool | 0, _ => false | k + 1, u => seenB zs k u || (zi zs k == (u : Int))
theorem seenB_iff (zs : List Int) (k u : Nat) : seenB zs k u = true ↔ ∃ j, j < k ∧ zi zs j = (u : Int) := by
  induction k with
  | zero => simp [seenB]
  | succ k ih =>
    simp only [seenB, Bool.or_eq_true, ih, beq_iff_eq]
    constructor
    · rintro (⟨j, h1, h2⟩ | h)
      · exact ⟨j, by omega, h2⟩
      · exact ⟨k, by omega, h⟩
    · rintro ⟨j, h1, h2⟩
      by_cases e : j = k
      · subst e; exact .inr h2
      · exact .inl ⟨j, by omega, h2⟩
def Seen (w : World) (B : Nat) (zs : List Int) (k : Nat) : Prop := ∀ u, u < 5 → w.cell? ⟨B, u, none⟩ = some (.bool (seenB zs k u))
theorem Seen.set {w : World} {B k u : Nat} {zs : List Int} (h : Seen w B zs k) (hu : zi zs k = (u : Int)) (hu5 : u < 5) : Seen (w.setCell ⟨B, u, none⟩ (.bool true)) B zs (k + 1) := by
  intro x hx
  by_cases e : x = u
  · subst e
    rw [World.cell?_setCell_same _ _ _ (h x hx)]
    simp [seenB, hu]
  · rw [World.cell?_setCell_other _ _ _ _ (by simp), h x hx]
    have : (zi zs k == (x : Int)) = false := by rw [hu]; simp; omega
    simp [seenB, this]

theorem idiff_empty (a : Option Addr) (cap : Nat) (n : Int) :
    Calls Try.prog 52 #[.int .i64 n, .slice a 0 cap] w fun r w' => r = .returned (.bool true) ∧ Below w.heap.size w w' := by
  go_enter Try.func52, Try.ntmps52
  go_wp2
  go_loopw [10] (fun i wr => i = .int .i64 0 ∧ Below w.heap.size w wr) (fun _ _ => 0)
  case atStart => exact ⟨rfl, by (repeat (first | exact Below.refl _ _ | assumption | refine bchain (by assumption) ?_ | refine balloc ?_ _ | apply Below.drew | apply below_drewN | (refine Below.alloc ?_ (by (try simp) <;> omega) _) | (refine Below.setCell ?_ (by (try simp) <;> omega) _)))⟩
  case round =>
    obtain ⟨rfl, hb⟩ := hrel
    go_wp2
    go_ret
    exact ⟨rfl, hb⟩

theorem idiff_t (b off cap : Nat) (zs : List Int) (n : Int) (hm : zs.length ≤ 1048576) (hb : b < w.heap.size) (hn5 : n ≤ 5)
    (hc : ∀ i, i < zs.length → w.cell? ⟨b, off + i, none⟩ = some (.int .i64 (zs[i]?.getD 0))) (hd : Diff zs n) :
    Calls Try.prog 52 #[.int .i64 n, .slice (some ⟨b, off, none⟩) zs.length cap] w fun r w' => r = .returned (.bool true) ∧ Below w.heap.size w w' := by
  obtain ⟨l, hl⟩ : ∃ l, l = zs.length := ⟨_, rfl⟩
  rw [← hl] at hm ⊢
  replace hl := Lib.hid hl
  replace hc := Lib.hid hc
  replace hd := Lib.hid hd
  go_enter Try.func52, Try.ntmps52
  go_wp2
  go_loopw [7, 10] (fun _ i wr => ∃ k : Nat, k ≤ l ∧ i = .int .i64 k ∧ Seen wr w.heap.size zs k ∧ (∀ o, wr.frozen? ⟨w.heap.size, o, none⟩ = false) ∧ w.heap.size < wr.heap.size ∧ Below w.heap.size w wr) (fun _ i _ => l - (intOf i).toNat)
  case atStart =>
    refine ⟨0, by omega, rfl, fun u hu => ?_, fun o => by simp, by simp, by (repeat (first | exact Below.refl _ _ | assumption | refine bchain (by assumption) ?_ | refine balloc ?_ _ | apply Below.drew | apply below_drewN | (refine Below.alloc ?_ (by (try simp) <;> omega) _) | (refine Below.setCell ?_ (by (try simp) <;> omega) _)))⟩
    have hq : u = 0 ∨ u = 1 ∨ u = 2 ∨ u = 3 ∨ u = 4 := by omega
    rcases hq with rfl | rfl | rfl | rfl | rfl <;> simp [seenB]
  case round =>
    obtain ⟨k, hk, rfl, hS, hF, hz, hB⟩ := hrel
    by_cases hlt : k < l
    · have hs : wr.cell? ⟨b, off + k, none⟩ = some (.int .i64 (zi zs k)) := (hB.cell (p := ⟨b, off + k, none⟩) hb).trans (hc.out k (by have := hl.out; omega))
      obtain ⟨f1, f2, f3⟩ := hd.out k (by have := hl.out; omega)
      obtain ⟨u, hu⟩ : ∃ u : Nat, zi zs k = (u : Int) := ⟨(zi zs k).toNat, by omega⟩
      rw [hu] at hs f1 f2
      have hu5 : u < 5 := by omega
      have hcell := hS u hu5
      have hfz := hF u
      have hsn : seenB zs k u = false := by
        cases h : seenB zs k u
        · rfl
        · obtain ⟨j, h1, h2⟩ := (seenB_iff zs k u).1 h
          exact absurd (h2.trans hu.symm) (f3 j h1)
      rw [hsn] at hcell
      have hS2 := Lib.hid (hS.set hu hu5)
      replace hF := Lib.hid hF
      have hd1 := decide_eq_false (show ¬ ((u : Int) < 0) by omega)
      have hd2 := decide_eq_false (show ¬ (n ≤ (u : Int)) by omega)
      clear hu hS f3 hsn
      go_wp2
      go_roundw
      case rel => exact ⟨k + 1, by omega, by go_num, hS2.out, fun o => by simp [hF.out o], by simp; omega, by (repeat (first | exact Below.refl _ _ | assumption | refine bchain (by assumption) ?_ | refine balloc ?_ _ | apply Below.drew | apply below_drewN | (refine Below.alloc ?_ (by (try simp) <;> omega) _) | (refine Below.setCell ?_ (by (try simp) <;> omega) _)))⟩
      case measure => simp [intOf]; omega
    · have hdd := decide_eq_false (show ¬ ((k : Int) < (l : Int)) by omega)
      replace hS := Lib.hid hS
      replace hF := Lib.hid hF
      go_wp2
      go_ret
      exact ⟨rfl, hB⟩

theorem idiff_f (b off cap : Nat) (zs : List Int) (n : Int) (hm : zs.length ≤ 1048576) (hb : b < w.heap.size) (hn5 : n ≤ 5)
    (hc : ∀ i, i < zs.length → w.cell? ⟨b, off + i, none⟩ = some (.int .i64 (zs[i]?.getD 0))) (M : Nat) (hM : M < zs.length) (hd : ∀ k, k < M → Fresh zs n k) (hbad : ¬ Fresh zs n M) :
    Calls Try.prog 52 #[.int .i64 n, .slice (some ⟨b, off, none⟩) zs.length cap] w fun r w' => r = .returned (.bool false) ∧ Below w.heap.size w w' := by
  obtain ⟨l, hl⟩ : ∃ l, l = zs.length := ⟨_, rfl⟩
  rw [← hl] at hm hM ⊢
  replace hl := Lib.hid hl
  replace hc := Lib.hid hc
  replace hd := Lib.hid hd
  replace hbad := Lib.hid hbad
  go_enter Try.func52, Try.ntmps52
  go_wp2
  go_loopw [7, 10] (fun _ i wr => ∃ k : Nat, k ≤ M ∧ i = .int .i64 k ∧ Seen wr w.heap.size zs k ∧ (∀ o, wr.frozen? ⟨w.heap.size, o, none⟩ = false) ∧ w.heap.size < wr.heap.size ∧ Below w.heap.size w wr) (fun _ i _ => M - (intOf i).toNat)
  case atStart =>
    refine ⟨0, by omega, rfl, fun u hu => ?_, fun o => by simp, by simp, by (repeat (first | exact Below.refl _ _ | assumption | refine bchain (by assumption) ?_ | refine balloc ?_ _ | apply Below.drew | apply below_drewN | (refine Below.alloc ?_ (by (try simp) <;> omega) _) | (refine Below.setCell ?_ (by (try simp) <;> omega) _)))⟩
    have hq : u = 0 ∨ u = 1 ∨ u = 2 ∨ u = 3 ∨ u = 4 := by omega
    rcases hq with rfl | rfl | rfl | rfl | rfl <;> simp [seenB]
  case round =>
    obtain ⟨k, hk, rfl, hS, hF, hz, hB⟩ := hrel
    have hlt0 : k < l := by omega
    have hs : wr.cell? ⟨b, off + k, none⟩ = some (.int .i64 (zi zs k)) := (hB.cell (p := ⟨b, off + k, none⟩) hb).trans (hc.out k (by have := hl.out; omega))
    by_cases hlt : k < M
    · obtain ⟨f1, f2, f3⟩ := hd.out k hlt
      obtain ⟨u, hu⟩ : ∃ u : Nat, zi zs k = (u : Int) := ⟨(zi zs k).toNat, by omega⟩
      rw [hu] at hs f1 f2
      have hu5 : u < 5 := by omega
      have hcell := hS u hu5
      have hfz := hF u
      have hsn : seenB zs k u = false := by
        cases h : seenB zs k u
        · rfl
        · obtain ⟨j, h1, h2⟩ := (seenB_iff zs k u).1 h
          exact absurd (h2.trans hu.symm) (f3 j h1)
      rw [hsn] at hcell
      have hS2 := Lib.hid (hS.set hu hu5)
      replace hF := Lib.hid hF
      have hd1 := decide_eq_false (show ¬ ((u : Int) < 0) by omega)
      have hd2 := decide_eq_false (show ¬ (n ≤ (u : Int)) by omega)
      clear hu hS f3 hsn
      go_wp2
      go_roundw
      case rel => exact ⟨k + 1, by omega, by go_num, hS2.out, fun o => by simp [hF.out o], by simp; omega, by (repeat (first | exact Below.refl _ _ | assumption | refine bchain (by assumption) ?_ | refine balloc ?_ _ | apply Below.drew | apply below_drewN | (refine Below.alloc ?_ (by (try simp) <;> omega) _) | (refine Below.setCell ?_ (by (try simp) <;> omega) _)))⟩
      case measure => simp [intOf]; omega
    · obtain rfl : k = M := by omega
      replace hF := Lib.hid hF
      by_cases f1 : 0 ≤ zi zs k
      · by_cases f2 : zi zs k < n
        · obtain ⟨u, hu⟩ : ∃ u : Nat, zi zs k = (u : Int) := ⟨(zi zs k).toNat, by omega⟩
          rw [hu] at hs f1 f2
          have hu5 : u < 5 := by omega
          have hcell := hS u hu5
          have hsn : seenB zs k u = true := by
            rw [seenB_iff]
            by_cases hx : ∃ j, j < k ∧ zi zs j = (u : Int)
            · exact hx
            · exact absurd ⟨by omega, by omega, fun j hj e => hx ⟨j, hj, e.trans hu⟩⟩ hbad.out
          rw [hsn] at hcell
          have hd1 := decide_eq_false (show ¬ ((u : Int) < 0) by omega)
          have hd2 := decide_eq_false (show ¬ (n ≤ (u : Int)) by omega)
          clear hu hS hsn
          go_wp2
          go_ret
          exact ⟨rfl, hB⟩
        · obtain ⟨z, hz2⟩ : ∃ z, zi zs k = z := ⟨_, rfl⟩
          rw [hz2] at hs f1 f2
          have hd1 := decide_eq_false (show ¬ (z < 0) by omega)
          have hd2 := decide_eq_true (show n ≤ z by omega)
          clear hz2
          replace hS := Lib.hid hS
          go_wp2
          go_ret
          exact ⟨rfl, hB⟩
      · obtain ⟨z, hz2⟩ : ∃ z, zi zs k = z := ⟨_, rfl⟩
        rw [hz2] at hs f1
        have hd1 := decide_eq_true (show z < 0 by omega)
        clear hz2
        replace hS := Lib.hid hS
        go_wp2
        go_ret
        exact ⟨rfl, hB⟩

open Classical in
theorem idiff_any (v : Value) (zs : List Int) (n : Int) (h : SlI w v zs) (hm : zs.length ≤ 1048576) (hn5 : n ≤ 5) :
    Calls Try.prog 52 #[.int .i64 n, v] w fun r w' => r = .returned (.bool (decide (Diff zs n))) ∧ Below w.heap.size w w' := by
  obtain ⟨a, cap, rfl, h1, h2, h3⟩ := h
  cases zs with
  | nil =>
    rw [decide_eq_true (show Diff [] n from fun k hk => absurd hk (Nat.not_lt_zero _))]
    exact idiff_empty w a cap n
  | cons z zs =>
    obtain ⟨b, off, rfl, hb, hc⟩ := h3 (by simp)
    by_cases hd : Diff (z :: zs) n
    · rw [decide_eq_true hd]
      exact idiff_t w b off cap (z :: zs) n hm hb hn5 hc hd
    · rw [decide_eq_false hd]
      obtain ⟨m, hm2, hf, hbad⟩ := not_diff hd
      exact idiff_f w b off cap (z :: zs) n hm hb hn5 hc m hm2 hf hbad
open Classical in
open Classical in
open Classical in
theorem idiff_yes (v : Value) (zs : List Int) (n : Int) (h : SlI w v zs) (hm : zs.length ≤ 1048576) (hn5 : n ≤ 5) (hd : Diff zs n) :
    Calls Try.prog 52 #[.int .i64 n, v] w fun r w' => r = .returned (.bool true) ∧ Below w.heap.size w w' := by
  have := idiff_any w v zs n h hm hn5
  rwa [decide_eq_true hd] at this
open Classical in
theorem idiff_no (v : Value) (zs : List Int) (n : Int) (h : SlI w v zs) (hm : zs.length ≤ 1048576) (hn5 : n ≤ 5) (hd : ¬ Diff zs n) :
    Calls Try.prog 52 #[.int .i64 n, v] w fun r w' => r = .returned (.bool false) ∧ Below w.heap.size w w' := by
  have := idiff_any w v zs n h hm hn5
  rwa [decide_eq_false hd] at this
end
end Go.Proofs.Ytmbjhncgdmbpaaa
