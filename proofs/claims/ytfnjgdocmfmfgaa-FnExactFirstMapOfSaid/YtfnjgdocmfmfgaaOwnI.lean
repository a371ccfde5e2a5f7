/-
  LISTS OF int64 THAT A CALL MADE: 'OwnI w0 w v zs': v holds zs in a block that was not there in w0 and may be written; what writes marks into such a list, and what asks for them.
-/
import Derived.Test.YtfnjgdocmfmfgaaInts
namespace Go.Proofs.Ytfnjgdocmfmfgaa
open Go.RowKit
set_option maxRecDepth 100000

/-- l cells of a block, by a function -/
def CF (w : World) (B l : Nat) (f : Nat → Int) : Prop := ∀ i, i < l → w.cell? ⟨B, i, none⟩ = some (.int .i64 (f i))
theorem CF.set {w : World} {B l : Nat} {f g : Nat → Int} {k : Nat} {x : Int} (h : CF w B l f) (hk : k < l) (hx : g k = x) (ho : ∀ i, i ≠ k → g i = f i) : CF (w.setCell ⟨B, k, none⟩ (.int .i64 x)) B l g := by
  intro i hi
  by_cases e : i = k
  · subst e
    rw [World.cell?_setCell_same _ _ _ (h i hi), hx]
  · rw [World.cell?_setCell_other _ _ _ _ (by simp), h i hi, ho i e]
theorem CF.below {w w' : World} {B l : Nat} {f : Nat → Int} (h : CF w B l f) (hb : Below w.heap.size w w') (hB : B < w.heap.size) : CF w' B l f := fun i hi => (hb.cell (p := ⟨B, i, none⟩) hB).trans (h i hi)
theorem CF.congr {w : World} {B l : Nat} {f g : Nat → Int} (h : CF w B l f) (hg : ∀ i, i < l → g i = f i) : CF w B l g := fun i hi => by rw [h i hi, hg i hi]

def OwnI (w0 w : World) (v : Value) (l : Nat) (f : Nat → Int) : Prop :=
  ∃ (a : Option Addr) (cap : Nat), v = .slice a l cap ∧ l ≤ cap ∧ cap ≤ 9223372036854775807 ∧ (0 < l → ∃ B, a = some ⟨B, 0, none⟩ ∧ w0.heap.size ≤ B ∧ B < w.heap.size ∧ CF w B l f ∧ ∀ o, o < l → w.frozen? ⟨B, o, none⟩ = false)
theorem OwnI.below {w0 w w' : World} {v : Value} {l : Nat} {f : Nat → Int} (h : OwnI w0 w v l f) (hb : Below w.heap.size w w') : OwnI w0 w' v l f := by
  obtain ⟨a, cap, e, h1, h2, h3⟩ := h
  refine ⟨a, cap, e, h1, h2, fun hz => ?_⟩
  obtain ⟨B, e2, h4, h5, h6, h7⟩ := h3 hz
  exact ⟨B, e2, h4, Nat.lt_of_lt_of_le h5 hb.size, h6.below hb h5, fun o ho => (hb.frozen (p := ⟨B, o, none⟩) h5).trans (h7 o ho)⟩
/-- the list of the first l values of f -/
def lst (l : Nat) (f : Nat → Int) : List Int := (List.range l).map f
theorem lst_length (l : Nat) (f : Nat → Int) : (lst l f).length = l := by simp [lst]
theorem lst_get (l : Nat) (f : Nat → Int) (i : Nat) (h : i < l) : (lst l f)[i]?.getD 0 = f i := by simp [lst, h]
theorem OwnI.sl {w0 w : World} {v : Value} {l : Nat} {f : Nat → Int} (h : OwnI w0 w v l f) : SlI w v (lst l f) := by
  obtain ⟨a, cap, e, h1, h2, h3⟩ := h
  refine ⟨a, cap, by rw [lst_length]; exact e, by rw [lst_length]; exact h1, h2, fun hz => ?_⟩
  have hl : 0 < l := by
    rcases Nat.eq_zero_or_pos l with h0 | h0
    · subst h0; exact absurd rfl hz
    · exact h0
  obtain ⟨B, e2, h4, h5, h6, h7⟩ := h3 hl
  exact ⟨B, 0, e2, h5, fun i hi => by rw [lst_length] at hi; rw [Nat.zero_add, lst_get _ _ _ hi]; exact h6 i hi⟩

section
variable (w : World)
theorem markI_zero (a : Option Addr) (cap : Nat) (k : Nat) :
    Calls Try.prog 41 #[.slice a 0 cap, .int .i64 k] w fun r w' => r = .returned (.int .i64 (k : Nat)) ∧ Below w.heap.size w w' := by
  go_enter Try.func41, Try.ntmps41
  go_wp2
  go_loopw [1, 5] (fun q i wr => q = .int .i64 k ∧ i = .int .i64 0 ∧ Below w.heap.size w wr) (fun _ _ _ => 0)
  case atStart => exact ⟨rfl, rfl, by (repeat (first | exact Below.refl _ _ | assumption | refine bchain (by assumption) ?_ | refine balloc ?_ _ | apply Below.drew | apply below_drewN | (refine Below.alloc ?_ (by (try simp) <;> omega) _) | (refine Below.setCell ?_ (by (try simp) <;> omega) _)))⟩
  case round =>
    obtain ⟨rfl, rfl, hb⟩ := hrel
    go_wp2
    go_ret
    exact ⟨rfl, hb⟩
theorem markI_some (w0 : World) (B cap l k : Nat) (f : Nat → Int) (hl : l ≤ 1048576) (hk : k ≤ 1048576) (h0 : w0.heap.size ≤ B) (hc : CF w B l f) (hf : ∀ o, o < l → w.frozen? ⟨B, o, none⟩ = false) :
    Calls Try.prog 41 #[.slice (some ⟨B, 0, none⟩) l cap, .int .i64 k] w fun r w' => r = .returned (.int .i64 ((k + l : Nat) : Int)) ∧ Below w0.heap.size w w' ∧ CF w' B l (fun i => ((k + i : Nat) : Int)) ∧ (∀ o, o < l → w'.frozen? ⟨B, o, none⟩ = false) := by
  replace hc := Lib.hid hc
  replace hf := Lib.hid hf
  go_enter Try.func41, Try.ntmps41
  go_wp2
  go_loopw [1, 5] (fun q i wr => ∃ j : Nat, j ≤ l ∧ q = .int .i64 ((k : Int) + j) ∧ i = .int .i64 j ∧ CF wr B l (fun i => if i < j then ((k + i : Nat) : Int) else f i) ∧ (∀ o, o < l → wr.frozen? ⟨B, o, none⟩ = false) ∧ Below w0.heap.size w wr) (fun _ i _ => l - (intOf i).toNat)
  case atStart => exact ⟨0, by omega, by simp, rfl, hc.out.congr (fun i hi => by simp), hf.out, Below.refl _ _⟩
  case round =>
    obtain ⟨j, hj, rfl, rfl, hC, hF, hb⟩ := hrel
    by_cases hlt : j < l
    · have hcell := hC j hlt
      have hfz := hF j hlt
      simp only [Nat.lt_irrefl, if_false] at hcell
      have hn := hC.set (k := j) (x := (k : Int) + j) (g := fun i => if i < j + 1 then ((k + i : Nat) : Int) else f i) hlt (by simp) (fun i hi => by
        by_cases c : i < j
        · rw [if_pos c, if_pos (by omega)]
        · rw [if_neg c, if_neg (by omega)])
      replace hn := Lib.hid hn
      replace hF := Lib.hid hF
      clear hC
      obtain ⟨z, hz⟩ : ∃ z, f j = z := ⟨_, rfl⟩
      rw [hz] at hcell
      clear hz
      go_wp2
      go_roundw
      case rel => exact ⟨j + 1, by omega, by go_num, by go_num, hn.out, fun o ho => by simp [hF.out o ho], hb.setCell (p := ⟨B, j, none⟩) h0 _⟩
      case measure => simp [intOf]; omega
    · obtain rfl : j = l := by omega
      have hdd := decide_eq_false (show ¬ ((j : Int) < (j : Int)) by omega)
      replace hC := Lib.hid hC
      replace hF := Lib.hid hF
      go_wp2
      go_ret
      exact ⟨by go_num, hb, hC.out.congr (fun i hi => by rw [if_pos hi]), hF.out⟩
theorem markI_any (w0 : World) (hw0 : Below w0.heap.size w0 w) (v : Value) (l k : Nat) (f : Nat → Int) (hl : l ≤ 1048576) (hk : k ≤ 1048576) (h : OwnI w0 w v l f) :
    Calls Try.prog 41 #[v, .int .i64 k] w fun r w' => r = .returned (.int .i64 ((k + l : Nat) : Int)) ∧ Below w0.heap.size w w' ∧ OwnI w0 w' v l (fun i => ((k + i : Nat) : Int)) := by
  obtain ⟨a, cap, rfl, h1, h2, h3⟩ := h
  rcases Nat.eq_zero_or_pos l with h0 | h0
  · subst h0
    refine (markI_zero w a cap k).mono fun r w' ⟨hr, hb⟩ => ⟨hr, hb.mono hw0.size, a, cap, rfl, h1, h2, fun c => absurd c (Nat.lt_irrefl _)⟩
  · obtain ⟨B, rfl, hB0, hB, hc, hf⟩ := h3 h0
    exact (markI_some w w0 B cap l k f hl hk hB0 hc hf).mono fun r w' ⟨hr, hb, hc', hf'⟩ => ⟨hr, hb, _, cap, rfl, h1, h2, fun _ => ⟨B, rfl, hB0, Nat.lt_of_lt_of_le hB hb.size, hc', hf'⟩⟩

theorem heldI_zero (a : Option Addr) (cap : Nat) (k : Nat) :
    Calls Try.prog 42 #[.slice a 0 cap, .int .i64 k] w fun r w' => r = .returned (.int .i64 (k : Nat)) ∧ Below w.heap.size w w' := by
  go_enter Try.func42, Try.ntmps42
  go_wp2
  go_loopw [1, 5] (fun q i wr => q = .int .i64 k ∧ i = .int .i64 0 ∧ Below w.heap.size w wr) (fun _ _ _ => 0)
  case atStart => exact ⟨rfl, rfl, by (repeat (first | exact Below.refl _ _ | assumption | refine bchain (by assumption) ?_ | refine balloc ?_ _ | apply Below.drew | apply below_drewN | (refine Below.alloc ?_ (by (try simp) <;> omega) _) | (refine Below.setCell ?_ (by (try simp) <;> omega) _)))⟩
  case round =>
    obtain ⟨rfl, rfl, hb⟩ := hrel
    go_wp2
    go_ret
    exact ⟨rfl, hb⟩
theorem heldI_some (B cap l k : Nat) (hl : l ≤ 1048576) (hk : k ≤ 1048576) (hB : B < w.heap.size) (hc : CF w B l (fun i => ((k + i : Nat) : Int))) :
    Calls Try.prog 42 #[.slice (some ⟨B, 0, none⟩) l cap, .int .i64 k] w fun r w' => r = .returned (.int .i64 ((k + l : Nat) : Int)) ∧ Below w.heap.size w w' := by
  replace hc := Lib.hid hc
  go_enter Try.func42, Try.ntmps42
  go_wp2
  go_loopw [1, 5] (fun q i wr => ∃ j : Nat, j ≤ l ∧ q = .int .i64 ((k : Int) + j) ∧ i = .int .i64 j ∧ Below w.heap.size w wr) (fun _ i _ => l - (intOf i).toNat)
  case atStart => exact ⟨0, by omega, by simp, rfl, Below.refl _ _⟩
  case round =>
    obtain ⟨j, hj, rfl, rfl, hb⟩ := hrel
    by_cases hlt : j < l
    · have hcell : wr.cell? ⟨B, j, none⟩ = some (.int .i64 ((k : Int) + j)) := (hb.cell (p := ⟨B, j, none⟩) hB).trans (hc.out j hlt)
      go_wp2
      go_roundw
      case rel => exact ⟨j + 1, by omega, by go_num, by go_num, by (repeat (first | exact Below.refl _ _ | assumption | refine bchain (by assumption) ?_ | refine balloc ?_ _ | apply Below.drew | apply below_drewN | (refine Below.alloc ?_ (by (try simp) <;> omega) _) | (refine Below.setCell ?_ (by (try simp) <;> omega) _)))⟩
      case measure => simp [intOf]; omega
    · obtain rfl : j = l := by omega
      have hdd := decide_eq_false (show ¬ ((j : Int) < (j : Int)) by omega)
      go_wp2
      go_ret
      exact ⟨by go_num, hb⟩
theorem heldI_any (w0 : World) (v : Value) (l k : Nat) (hl : l ≤ 1048576) (hk : k ≤ 1048576) (h : OwnI w0 w v l (fun i => ((k + i : Nat) : Int))) :
    Calls Try.prog 42 #[v, .int .i64 k] w fun r w' => r = .returned (.int .i64 ((k + l : Nat) : Int)) ∧ Below w.heap.size w w' := by
  obtain ⟨a, cap, rfl, h1, h2, h3⟩ := h
  rcases Nat.eq_zero_or_pos l with h0 | h0
  · subst h0
    exact heldI_zero w a cap k
  · obtain ⟨B, rfl, hB0, hB, hc, hf⟩ := h3 h0
    exact heldI_some w B cap l k hl hk hB hc
end
end Go.Proofs.Ytfnjgdocmfmfgaa
