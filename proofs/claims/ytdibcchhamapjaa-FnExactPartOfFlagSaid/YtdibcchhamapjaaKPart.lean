/-
  SOME UNLABELLED VERTICES OF A FLAG, AND THE FLAG ON THEM: the program's.
-/
import Derived.Test.YtdibcchhamapjaaKFlagOf
import Derived.Test.YtdibcchhamapjaaKTurn
import Derived.Deep.RegionHeld3
import Derived.Deep.RegionLaw
namespace Go.Proofs.Ytdibcchhamapjaa
open Go.RowKit Go.Shelf
set_option maxRecDepth 100000

/-- no number is a label -/
def Unl (zs : List Int) (k : Int) : Prop := ∀ i, i < zs.length → k ≤ zi zs i
theorem range_zi (k : Nat) {i : Nat} (h : i < k) : zi (zl (List.range k)) i = (i : Int) := by
  unfold zi
  rw [zl_get, List.getElem?_range h]
  rfl
/-- the labels and the numbers together are different vertices just if the numbers are, and none is a label -/
theorem diff_first {zs : List Int} {k n : Nat} (hkn : k ≤ n) : Diff (zl (List.range k) ++ zs) n ↔ (Unl zs k ∧ Diff zs n) := by
  have hl : (zl (List.range k)).length = k := by rw [zl_length]; simp
  have h1 : ∀ i, i < k → zi (zl (List.range k) ++ zs) i = (i : Int) := fun i hi => by
    unfold zi
    rw [List.getElem?_append_left (by omega)]
    exact range_zi k hi
  have h2 : ∀ i, zi (zl (List.range k) ++ zs) (k + i) = zi zs i := fun i => by
    unfold zi
    rw [List.getElem?_append_right (by omega), hl, Nat.add_sub_cancel_left]
  constructor
  · intro h
    have hz : ∀ i, i < zs.length → Fresh (zl (List.range k) ++ zs) n (k + i) := fun i hi => h (k + i) (by rw [List.length_append]; omega)
    refine ⟨fun i hi => ?_, fun i hi => ?_⟩
    · obtain ⟨a, b, c⟩ := hz i hi
      rw [h2] at a c
      have hx : ¬ zi zs i < k := fun hlt => by
        have := c (zi zs i).toNat (by omega)
        rw [h1 _ (by omega)] at this
        omega
      omega
    · obtain ⟨a, b, c⟩ := hz i hi
      rw [h2] at a b c
      refine ⟨a, b, fun j hj => ?_⟩
      have := c (k + j) (by omega)
      rwa [h2] at this
  · rintro ⟨hu, hd⟩ i hi
    rw [List.length_append, hl] at hi
    by_cases c : i < k
    · refine ⟨by rw [h1 i c]; omega, by rw [h1 i c]; omega, fun j hj => ?_⟩
      rw [h1 i c, h1 j (by omega)]
      omega
    · obtain ⟨q, rfl⟩ : ∃ q, i = k + q := ⟨i - k, by omega⟩
      obtain ⟨a, b, d⟩ := hd q (by omega)
      have hq := hu q (by omega)
      refine ⟨by rw [h2]; exact a, by rw [h2]; exact b, fun j hj => ?_⟩
      rw [h2]
      by_cases e : j < k
      · rw [h1 j e]; omega
      · obtain ⟨p, rfl⟩ : ∃ p, j = k + p := ⟨j - k, by omega⟩
        rw [h2]
        exact d p (by omega)
theorem LMem.setCells {W : World} {B n : Nat} {p : List Nat} (x : List Nat) (h : LMem W B n p) (hl : p.length + x.length ≤ n) : LMem (W.setCells B p.length (rowN x)) B n (p ++ x) := by
  induction x generalizing W p with
  | nil => simpa [rowN, World.setCells] using h
  | cons v x ih =>
    have hp := h.push (by simp at hl; omega) v
    have := ih (p := p ++ [v]) hp (by simp at hl ⊢; omega)
    simpa [rowN, World.setCells, List.append_assoc] using this
theorem setCells_below {b0 : Nat} {w0 W : World} {B : Nat} (h : Below b0 w0 W) (hB : b0 ≤ B) : ∀ (vs : List Value) (o : Nat), Below b0 w0 (W.setCells B o vs)
  | [], _ => h
  | v :: vs, o => setCells_below (h.setCell (p := ⟨B, o, none⟩) hB v) hB vs (o + 1)
section
variable (w : World)
set_option maxHeartbeats 1000000 in
theorem unl_any (v : Value) (zs : List Int) (k n e : Nat) (hn5 : n ≤ 5) (hS : SlI w v zs) (hm : zs.length ≤ 1048576) (b : Bool) (hb : b = true ↔ (Unl zs k ∧ Diff zs n)) :
    Calls Try.prog 63 #[.agg #[.int .i64 k, .int .i64 n, .int .u32 e], v] w fun r w' => r = .returned (.bool b) ∧ Below w.heap.size w w' := by
  obtain ⟨a, cap, hv, h1, h2, h3⟩ := id hS
  have hF0 := FC.made w k n e 30
  obtain ⟨wL, hwL⟩ : ∃ wL, wL = w.alloc (.cells #[.int .i64 k, .int .i64 n, .int .u32 e] 30) := ⟨_, rfl⟩
  have hBL : Below w.heap.size w wL := by rw [hwL]; (repeat (first | exact Below.refl _ _ | assumption | refine bchain (by assumption) ?_ | refine balloc ?_ _ | apply Below.drew | apply below_drewN | (refine Below.alloc ?_ (by (try simp) <;> omega) _) | (refine Below.setCell ?_ (by (try simp) <;> omega) _)))
  have hSL := hS.below hBL
  rw [← hwL] at hF0
  have hc : ∀ i, i < zs.length → ∃ b off, a = some ⟨b, off, none⟩ ∧ wL.cell? ⟨b, off + i, none⟩ = some (.int .i64 (zi zs i)) := fun i hi => by
    obtain ⟨b, off, e1, e2, e3⟩ := h3 (by intro c; subst c; simp at hi)
    exact ⟨b, off, e1, (hBL.cell (p := ⟨b, off + i, none⟩) e2).trans (e3 i hi)⟩
  obtain ⟨l, hl⟩ : ∃ l, zs.length = l := ⟨_, rfl⟩
  rw [hl] at hm hc hv
  have hD1 : b = true → Calls Try.prog 49 #[.int .i64 n, v] wL fun r w' => r = .returned (.bool true) ∧ Below wL.heap.size wL w' := fun h => idiff_yes wL v zs n hSL (by omega) (by omega) (hb.1 h).2
  have hD0 : b = false → Unl zs k → Calls Try.prog 49 #[.int .i64 n, v] wL fun r w' => r = .returned (.bool false) ∧ Below wL.heap.size wL w' := fun h hu => idiff_no wL v zs n hSL (by omega) (by omega) (fun hd => by have := hb.2 ⟨hu, hd⟩; rw [h] at this; cases this)
  have hD : Unl zs k → Calls Try.prog 49 #[.int .i64 n, v] wL fun r w' => r = .returned (.bool b) ∧ Below wL.heap.size wL w' := fun hu => by
    cases hbb : b with
    | true => exact hD1 hbb
    | false => exact hD0 hbb hu
  have hbad : ∀ i, i < l → zi zs i < k → b = false := fun i hi hlt => by
    cases hbb : b with
    | false => rfl
    | true => have := (hb.1 hbb).1 i (by omega); omega
  have hun : (∀ i, i < l → (k : Int) ≤ zi zs i) → Unl zs k := fun h i hi => h i (by omega)
  subst hv
  obtain ⟨_, f0, f1, f2⟩ := hF0
  replace hD := Lib.hid hD
  replace hbad := Lib.hid hbad
  replace hun := Lib.hid hun
  replace hc := Lib.hid hc
  replace hwL := Lib.hid hwL
  clear hD0 hD1 hb h1 h2 h3 hS hSL hl
  go_enter Try.func63, Try.ntmps63
  go_wp2_with fail
  rw [← hwL.out]
  go_loopw [6, 9] (fun _ i wr => ∃ j : Nat, j ≤ l ∧ i = .int .i64 j ∧ wr = wL ∧ Hid (∀ q, q < j → (k : Int) ≤ zi zs q)) (fun _ i _ => l - (intOf i).toNat)
  case atStart => exact ⟨0, (by omega), (by first | rfl | trivial), (by first | rfl | trivial), fun q hq => absurd hq (by omega)⟩
  case round =>
    obtain ⟨j, hj, rfl, rfl, hq⟩ := hrel
    by_cases hlt : j < l
    · obtain ⟨b', off, rfl, hcell⟩ := hc.out j hlt
      obtain ⟨z, hz⟩ : ∃ z, zi zs j = z := ⟨_, rfl⟩
      rw [hz] at hcell
      by_cases hzk : z < k
      · have hd := decide_eq_true hzk
        obtain rfl := hbad.out j hlt (by rw [hz]; exact hzk)
        clear hD hbad hun hz
        go_wp2
        go_ret
        exact ⟨rfl, hBL⟩
      · have hd := decide_eq_false hzk
        have hq2 : Hid (∀ q, q < j + 1 → (k : Int) ≤ zi zs q) := fun q hq3 => by
          by_cases c : q = j
          · subst c; rw [hz]; omega
          · exact hq q (by omega)
        clear hq hz
        go_wp2
        go_roundw
        case rel => exact ⟨j + 1, by omega, by go_num, (by first | rfl | trivial), hq2⟩
        case measure => simp [intOf]; omega
    · obtain rfl : j = l := by omega
      have hdd := decide_eq_false (show ¬ ((j : Int) < (j : Int)) by omega)
      have hQ := Lib.hid (hD.out (hun.out hq))
      clear hq hbad hun hD hc
      go_wp2_with fail
      refine hQ.out.mono ?_
      rintro r1 w1 ⟨rfl, hb1⟩
      go_wp2
      go_ret
      exact ⟨rfl, hBL.trans (hb1.mono hBL.size)⟩
end
end Go.Proofs.Ytdibcchhamapjaa
