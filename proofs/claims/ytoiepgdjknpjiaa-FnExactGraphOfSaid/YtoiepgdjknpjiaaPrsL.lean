/-
  LISTS OF PAIRS: what holds two of them against each other, writes marks into one, and asks for them.
-/
import Derived.Test.YtoiepgdjknpjiaaPrs
import Derived.Test.YtoiepgdjknpjiaaPairs2
namespace Go.Proofs.Ytoiepgdjknpjiaa
open Go.RowKit
set_option maxRecDepth 100000

theorem CA.set0 {w : World} {B n j : Nat} {f g : Nat → Int × Int} {x : Int} (h : CA w B n f) (hg : ∀ i, i < n → g i = if i = j then (x, (f j).2) else f i) : CA (w.setCell ⟨B, j * 2, none⟩ (.int .i64 x)) B n g := fun i hi => by
  rw [hg i hi]
  by_cases e : i = j
  · subst e
    rw [if_pos rfl]
    exact ⟨World.cell?_setCell_same _ _ _ (h i hi).1, (World.cell?_setCell_other _ _ _ _ (by simp)).trans (h i hi).2⟩
  · rw [if_neg e]
    exact ⟨(World.cell?_setCell_other _ _ _ _ (by simp <;> omega)).trans (h i hi).1, (World.cell?_setCell_other _ _ _ _ (by simp <;> omega)).trans (h i hi).2⟩
theorem CA.set1 {w : World} {B n j : Nat} {f g : Nat → Int × Int} {x : Int} (h : CA w B n f) (hg : ∀ i, i < n → g i = if i = j then ((f j).1, x) else f i) : CA (w.setCell ⟨B, j * 2 + 1, none⟩ (.int .i64 x)) B n g := fun i hi => by
  rw [hg i hi]
  by_cases e : i = j
  · subst e
    rw [if_pos rfl]
    exact ⟨(World.cell?_setCell_other _ _ _ _ (by simp)).trans (h i hi).1, World.cell?_setCell_same _ _ _ (h i hi).2⟩
  · rw [if_neg e]
    exact ⟨(World.cell?_setCell_other _ _ _ _ (by simp <;> omega)).trans (h i hi).1, (World.cell?_setCell_other _ _ _ _ (by simp <;> omega)).trans (h i hi).2⟩
/-- the marks from k on -/
def mk2 (k : Nat) (i : Nat) : Int × Int := (((k + 2 * i : Nat) : Int), ((k + 2 * i + 1 : Nat) : Int))
section
variable (w : World)
theorem eqA_empty (a a' : Option Addr) (cap cap' : Nat) :
    Calls Try.prog 48 #[.slice a 0 cap, .slice a' 0 cap'] w fun r w' => r = .returned (.bool true) ∧ Below w.heap.size w w' := by
  go_enter Try.func48, Try.ntmps48
  go_wp2
  go_loopw [5] (fun i wr => i = .int .i64 0 ∧ Below w.heap.size w wr) (fun _ _ => 0)
  case atStart => exact ⟨rfl, by (repeat (first | exact Below.refl _ _ | assumption | refine bchain (by assumption) ?_ | refine balloc ?_ _ | apply Below.drew | apply below_drewN | (refine Below.alloc ?_ (by (try simp) <;> omega) _) | (refine Below.setCell ?_ (by (try simp) <;> omega) _)))⟩
  case round =>
    obtain ⟨rfl, hb⟩ := hrel
    go_wp2
    go_ret
    exact ⟨rfl, hb⟩
set_option maxHeartbeats 1000000 in
theorem eqA_some (b cap b' cap' n : Nat) (f : Nat → Int × Int) (hm : n ≤ 1048576) (hb : b < w.heap.size) (hb' : b' < w.heap.size) (hc : CA w b n f) (hc' : CA w b' n f) :
    Calls Try.prog 48 #[.slice (some ⟨b, 0, none⟩) n cap, .slice (some ⟨b', 0, none⟩) n cap'] w fun r w' => r = .returned (.bool true) ∧ Below w.heap.size w w' := by
  replace hc := Lib.hid hc
  replace hc' := Lib.hid hc'
  go_enter Try.func48, Try.ntmps48
  go_wp2
  go_loopw [5] (fun i wr => ∃ k : Nat, k ≤ n ∧ i = .int .i64 k ∧ Below w.heap.size w wr) (fun i _ => n - (intOf i).toNat)
  case atStart => exact ⟨0, by omega, rfl, by (repeat (first | exact Below.refl _ _ | assumption | refine bchain (by assumption) ?_ | refine balloc ?_ _ | apply Below.drew | apply below_drewN | (refine Below.alloc ?_ (by (try simp) <;> omega) _) | (refine Below.setCell ?_ (by (try simp) <;> omega) _)))⟩
  case round =>
    obtain ⟨k, hk, rfl, hB⟩ := hrel
    by_cases hlt : k < n
    · have hg := hc.out k hlt
      have hg' := hc'.out k hlt
      obtain ⟨x, y, hxy⟩ : ∃ x y, f k = (x, y) := ⟨_, _, rfl⟩
      have s0 : wr.cell? ⟨b, k * 2, none⟩ = some (.int .i64 x) := by rw [hB.cell (p := ⟨b, _, none⟩) hb, hg.1, hxy]
      have s1 : wr.cell? ⟨b, k * 2 + 1, none⟩ = some (.int .i64 y) := by rw [hB.cell (p := ⟨b, _, none⟩) hb, hg.2, hxy]
      have t0 : wr.cell? ⟨b', k * 2, none⟩ = some (.int .i64 x) := by rw [hB.cell (p := ⟨b', _, none⟩) hb', hg'.1, hxy]
      have t1 : wr.cell? ⟨b', k * 2 + 1, none⟩ = some (.int .i64 y) := by rw [hB.cell (p := ⟨b', _, none⟩) hb', hg'.2, hxy]
      have hE := Lib.hid (eqA2_any wr.drew x y)
      have hk1 : (k : Int) < (n : Int) := by omega
      clear hg hg' hxy
      go_wp2
      go_still_tail 8, (by kernel_rfl)
      change wpList _ _ _ _ _ wr.drew
      go_wp2_with (go_at_call 77; refine (hE.out).mono ?_; rintro r3 w3 ⟨rfl, hb3⟩)
      go_roundw
      case rel => exact ⟨k + 1, by omega, by go_num, by (repeat (first | exact Below.refl _ _ | assumption | refine bchain (by assumption) ?_ | refine balloc ?_ _ | apply Below.drew | apply below_drewN | (refine Below.alloc ?_ (by (try simp) <;> omega) _) | (refine Below.setCell ?_ (by (try simp) <;> omega) _)))⟩
      case measure => simp [intOf]; omega
    · have hd := decide_eq_false (show ¬ ((k : Int) < (n : Int)) by omega)
      go_wp2
      go_ret
      exact ⟨rfl, hB⟩
theorem eqA_any (w0 w0' : World) (u v : Value) (n : Nat) (f : Nat → Int × Int) (h : OwnA w0 w u n f) (h' : OwnA w0' w v n f) (hm : n ≤ 1048576) :
    Calls Try.prog 48 #[u, v] w fun r w' => r = .returned (.bool true) ∧ Below w.heap.size w w' := by
  obtain ⟨a, cap, rfl, h3⟩ := h
  obtain ⟨a', cap', rfl, h3'⟩ := h'
  rcases Nat.eq_zero_or_pos n with h0 | h0
  · subst h0; exact eqA_empty w a a' cap cap'
  · obtain ⟨b, rfl, _, hb, hc, _⟩ := h3 h0
    obtain ⟨b', rfl, _, hb', hc', _⟩ := h3' h0
    exact eqA_some w b cap b' cap' n f hm hb hb' hc hc'

end
end Go.Proofs.Ytoiepgdjknpjiaa
