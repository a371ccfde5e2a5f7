/-
  LISTS OF PAIRS: what holds two of them against each other, writes marks into one, and asks for them.
-/
import Derived.Test.YtoiepgdjknpjiabPrs
import Derived.Test.YtoiepgdjknpjiabPairs2
namespace Go.Proofs.Ytoiepgdjknpjiab
open Go.RowKit
set_option maxRecDepth 100000

theorem CA.set0 {w : World} {B n j : Nat} {f g : Nat → Int × Int} {x : Int} (h : CA w B n f) (hg : ∀ i, i < n → g i = if i = j then (x, (f j).2) else f i) : CA (w.setCell ⟨B, j * 2, none⟩ (.int .i64 x)) B n g := fun i hi => by
  rw [hg i hi]
  by_cases e : i = j
  · subst e
    rw [if_pos rfl]
    exact ⟨World.cell?_setCell_same _ _ _ (h i hi).1, (World.cell?_setCell_other _ _ _ _ (by simp)).trans (h i hi).2⟩
  · rw [if_neg e]
    exact ⟨(World.cell?_setCell_other _ _ _ _ (by simp <;> omega)).trans (h i hi).1, (World.cell?_setCell_other _ _ _ _ (by simp <;> omega)).trans (h i hi).2⟩
theorem CA.set1 {w : World} {B n j : Nat} {f g : Nat → Int × Int} {x : Int} (h : CA w B n f) (hg : ∀ i, i < n → g i = if i = j then ((f j).1, x) else f i) : CA (w.setCell ⟨B, j * 2 + 1, none⟩ (.int .i64 x)) B n g := fun i hi => by
  rw [hg i hi]
  by_cases e : i = j
  · subst e
    rw [if_pos rfl]
    exact ⟨(World.cell?_setCell_other _ _ _ _ (by simp)).trans (h i hi).1, World.cell?_setCell_same _ _ _ (h i hi).2⟩
  · rw [if_neg e]
    exact ⟨(World.cell?_setCell_other _ _ _ _ (by simp <;> omega)).trans (h i hi).1, (World.cell?_setCell_other _ _ _ _ (by simp <;> omega)).trans (h i hi).2⟩
/-- the marks from k on -/
def mk2 (k : Nat) (i : Nat) : Int × Int := (((k + 2 * i : Nat) : Int), ((k + 2 * i + 1 : Nat) : Int))
section
variable (w : World)
theorem eqA_empty (a a' : Option Addr) (cap cap' : Nat) :
    Calls Try.prog 16 #[.slice a 0 cap, .slice a' 0 cap'] w fun r w' => r = .returned (.bool true) ∧ Below w.heap.size w w' := by
  go_enter Try.func16, Try.ntmps16
  go_wp2
  go_loopw [5] (fun i wr => i = .int .i64 0 ∧ Below w.heap.size w wr) (fun _ _ => 0)
  case atStart => exact ⟨rfl, by (repeat (first | exact Below.refl _ _ | assumption | refine bchain (by assumption) ?_ | refine balloc ?_ _ | apply Below.drew | apply below_drewN | (refine Below.alloc ?_ (by (try simp) <;> omega) _) | (refine Below.setCell ?_ (by (try simp) <;> omega) _)))⟩
  case round =>
    obtain ⟨rfl, hb⟩ := hrel
    go_wp2
    go_ret
    exact ⟨rfl, hb⟩
set_option maxHeartbeats 1000000 in
theorem eqA_some (b cap b' cap' n : Nat) (f : Nat → Int × Int) (hm : n ≤ 1048576) (hb : b < w.heap.size) (hb' : b' < w.heap.size) (hc : CA w b n f) (hc' : CA w b' n f) :
    Calls Try.prog 16 #[.slice (some ⟨b, 0, none⟩) n cap, .slice (some ⟨b', 0, none⟩) n cap'] w fun r w' => r = .returned (.bool true) ∧ Below w.heap.size w w' := by
  replace hc := Lib.hid hc
  replace hc' := Lib.hid hc'
  go_enter Try.func16, Try.ntmps16
  go_wp2
  go_loopw [5] (fun i wr => ∃ k : Nat, k ≤ n ∧ i = .int .i64 k ∧ Below w.heap.size w wr) (fun i _ => n - (intOf i).toNat)
  case atStart => exact ⟨0, by omega, rfl, by (repeat (first | exact Below.refl _ _ | assumption | refine bchain (by assumption) ?_ | refine balloc ?_ _ | apply Below.drew | apply below_drewN | (refine Below.alloc ?_ (by (try simp) <;> omega) _) | (refine Below.setCell ?_ (by (try simp) <;> omega) _)))⟩
  case round =>
    obtain ⟨k, hk, rfl, hB⟩ := hrel
    by_cases hlt : k < n
    · have hg := hc.out k hlt
      have hg' := hc'.out k hlt
      obtain ⟨x, y, hxy⟩ : ∃ x y, f k = (x, y) := ⟨_, _, rfl⟩
      have s0 : wr.cell? ⟨b, k * 2, none⟩ = some (.int .i64 x) := by rw [hB.cell (p := ⟨b, _, none⟩) hb, hg.1, hxy]
      have s1 : wr.cell? ⟨b, k * 2 + 1, none⟩ = some (.int .i64 y) := by rw [hB.cell (p := ⟨b, _, none⟩) hb, hg.2, hxy]
      have t0 : wr.cell? ⟨b', k * 2, none⟩ = some (.int .i64 x) := by rw [hB.cell (p := ⟨b', _, none⟩) hb', hg'.1, hxy]
      have t1 : wr.cell? ⟨b', k * 2 + 1, none⟩ = some (.int .i64 y) := by rw [hB.cell (p := ⟨b', _, none⟩) hb', hg'.2, hxy]
      have hE := Lib.hid (eqA2_any wr.drew x y)
      have hk1 : (k : Int) < (n : Int) := by omega
      clear hg hg' hxy
      go_wp2
      go_still_tail 8, (by kernel_rfl)
      change wpList _ _ _ _ _ wr.drew
      go_wp2_with (go_at_call 46; refine (hE.out).mono ?_; rintro r3 w3 ⟨rfl, hb3⟩)
      go_roundw
      case rel => exact ⟨k + 1, by omega, by go_num, by (repeat (first | exact Below.refl _ _ | assumption | refine bchain (by assumption) ?_ | refine balloc ?_ _ | apply Below.drew | apply below_drewN | (refine Below.alloc ?_ (by (try simp) <;> omega) _) | (refine Below.setCell ?_ (by (try simp) <;> omega) _)))⟩
      case measure => simp [intOf]; omega
    · have hd := decide_eq_false (show ¬ ((k : Int) < (n : Int)) by omega)
      go_wp2
      go_ret
      exact ⟨rfl, hB⟩
theorem eqA_any (w0 w0' : World) (u v : Value) (n : Nat) (f : Nat → Int × Int) (h : OwnA w0 w u n f) (h' : OwnA w0' w v n f) (hm : n ≤ 1048576) :
    Calls Try.prog 16 #[u, v] w fun r w' => r = .returned (.bool true) ∧ Below w.heap.size w w' := by
  obtain ⟨a, cap, rfl, h3⟩ := h
  obtain ⟨a', cap', rfl, h3'⟩ := h'
  rcases Nat.eq_zero_or_pos n with h0 | h0
  · subst h0; exact eqA_empty w a a' cap cap'
  · obtain ⟨b, rfl, _, hb, hc, _⟩ := h3 h0
    obtain ⟨b', rfl, _, hb', hc', _⟩ := h3' h0
    exact eqA_some w b cap b' cap' n f hm hb hb' hc hc'

theorem markA_zero (a : Option Addr) (cap : Nat) (k : Nat) :
    Calls Try.prog 17 #[.slice a 0 cap, .int .i64 k] w fun r w' => r = .returned (.int .i64 (k : Nat)) ∧ Below w.heap.size w w' := by
  go_enter Try.func17, Try.ntmps17
  go_wp2
  go_loopw [1, 5, 6] (fun q i _ wr => q = .int .i64 k ∧ i = .int .i64 0 ∧ Below w.heap.size w wr) (fun _ _ _ _ => 0)
  case atStart => exact ⟨rfl, rfl, by (repeat (first | exact Below.refl _ _ | assumption | refine bchain (by assumption) ?_ | refine balloc ?_ _ | apply Below.drew | apply below_drewN | (refine Below.alloc ?_ (by (try simp) <;> omega) _) | (refine Below.setCell ?_ (by (try simp) <;> omega) _)))⟩
  case round =>
    obtain ⟨rfl, rfl, hb⟩ := hrel
    go_wp2
    go_ret
    exact ⟨rfl, hb⟩
set_option maxHeartbeats 1000000 in
theorem markA_some (w0 : World) (B cap l k : Nat) (f : Nat → Int × Int) (hl : l ≤ 1000) (hk : k ≤ 1000) (h0 : w0.heap.size ≤ B) (hc : CA w B l f) (hf : ∀ o, w.frozen? ⟨B, o, none⟩ = false) :
    Calls Try.prog 17 #[.slice (some ⟨B, 0, none⟩) l cap, .int .i64 k] w fun r w' => r = .returned (.int .i64 ((k + 2 * l : Nat) : Int)) ∧ Below w0.heap.size w w' ∧ CA w' B l (mk2 k) ∧ (∀ o, w'.frozen? ⟨B, o, none⟩ = false) := by
  replace hc := Lib.hid hc
  replace hf := Lib.hid hf
  go_enter Try.func17, Try.ntmps17
  go_wp2
  go_loopw [1, 5, 6] (fun q i _ wr => ∃ j : Nat, j ≤ l ∧ q = .int .i64 ((k + 2 * j : Nat) : Int) ∧ i = .int .i64 j ∧ CA wr B l (fun i => if i < j then mk2 k i else f i) ∧ (∀ o, wr.frozen? ⟨B, o, none⟩ = false) ∧ Below w0.heap.size w wr) (fun _ i _ _ => l - (intOf i).toNat)
  case atStart => exact ⟨0, by omega, by simp, rfl, hc.out.congr (fun i hi => by simp), hf.out, Below.refl _ _⟩
  case round =>
    obtain ⟨j, hj, rfl, rfl, hC, hF, hb⟩ := hrel
    by_cases hlt : j < l
    · have hC0 := Lib.hid hC
      have hF0 := Lib.hid hF
      clear hC hF
      have hb0 := hb
      clear hb
      obtain ⟨m, hm⟩ : ∃ m : Nat, k + 2 * j = m := ⟨_, rfl⟩
      rw [hm]
      have hm1 : m ≤ 10000 := by omega
      replace hm := Lib.hid hm
      have hjl : (j : Int) < (l : Int) := by omega
      go_wp2
      go_loopw [1, 6] (fun q s wr => ∃ t : Nat, t ≤ 2 ∧ q = .int .i64 ((m : Int) + t) ∧ s = .int .i64 t ∧ CA wr B l (fun i => if i < j then mk2 k i else if i = j then (if 0 < t then (m : Int) else (f j).1, if 1 < t then (m : Int) + 1 else (f j).2) else f i) ∧ (∀ o, wr.frozen? ⟨B, o, none⟩ = false) ∧ Below w0.heap.size w wr) (fun _ s _ => 2 - (intOf s).toNat)
      case atStart => exact ⟨0, by omega, by simp, rfl, hC0.out.congr (fun i hi => by
        by_cases c : i < j
        · rw [if_pos c, if_pos c]
        · rw [if_neg c, if_neg c]
          by_cases d : i = j
          · subst d; rw [if_pos rfl]; simp
          · rw [if_neg d]), hF0.out, hb0⟩
      case round =>
        obtain ⟨t, ht, rfl, rfl, hC, hF, hb⟩ := hrel
        have hq : t = 0 ∨ t = 1 ∨ t = 2 := by omega
        rcases hq with rfl | rfl | rfl
        · have hcell := (hC j hlt).1
          simp only [Nat.lt_irrefl, if_false, if_true] at hcell
          have hfz := hF (j * 2)
          have hn := hC.set0 (j := j) (x := (m : Int)) (g := fun i => if i < j then mk2 k i else if i = j then ((m : Int), (f j).2) else f i) (fun i hi => by
            by_cases c : i = j
            · subst c; simp
            · simp [c])
          obtain ⟨z, hz⟩ : ∃ z, (f j).1 = z := ⟨_, rfl⟩
          rw [hz] at hcell
          replace hn := Lib.hid hn
          replace hF := Lib.hid hF
          clear hC hz
          go_wp2
          go_roundw
          case rel => exact ⟨1, by omega, by go_num, by go_num, hn.out.congr (fun i hi => by simp), fun o => by simp [hF.out o], hb.setCell (p := ⟨B, j * 2, none⟩) h0 _⟩
          case measure => simp [intOf]
        · have hcell := (hC j hlt).2
          simp only [Nat.lt_irrefl, if_false, if_true] at hcell
          have hfz := hF (j * 2 + 1)
          have hn := hC.set1 (j := j) (x := (m : Int) + 1) (g := fun i => if i < j then mk2 k i else if i = j then ((m : Int), (m : Int) + 1) else f i) (fun i hi => by
            by_cases c : i = j
            · subst c; simp
            · simp [c])
          obtain ⟨z, hz⟩ : ∃ z, (f j).2 = z := ⟨_, rfl⟩
          rw [hz] at hcell
          replace hn := Lib.hid hn
          replace hF := Lib.hid hF
          clear hC hz
          go_wp2
          go_roundw
          case rel => exact ⟨2, by omega, by go_num, by go_num, hn.out.congr (fun i hi => by simp), fun o => by simp [hF.out o], hb.setCell (p := ⟨B, j * 2 + 1, none⟩) h0 _⟩
          case measure => simp [intOf]
        · have hn := hC.congr (g := fun i => if i < j + 1 then mk2 k i else f i) (fun i hi => by
            by_cases c : i < j
            · rw [if_pos c, if_pos (by omega)]
            · by_cases d : i = j
              · subst d
                rw [if_pos (by omega), if_neg c, if_pos rfl]
                unfold mk2
                rw [hm.out]
                simp
              · rw [if_neg (by omega), if_neg c, if_neg d])
          replace hn := Lib.hid hn
          replace hF := Lib.hid hF
          clear hC
          go_wp2
          go_roundw
          case rel => exact ⟨j + 1, by omega, by have := hm.out; go_num, by go_num, hn.out, hF.out, hb⟩
          case measure => simp [intOf]; omega
    · obtain rfl : j = l := by omega
      have hdd := decide_eq_false (show ¬ ((j : Int) < (j : Int)) by omega)
      replace hC := Lib.hid hC
      replace hF := Lib.hid hF
      go_wp2
      go_ret
      exact ⟨rfl, hb, hC.out.congr (fun i hi => by rw [if_pos hi]), hF.out⟩
theorem markA_any (w0 : World) (hw0 : Below w0.heap.size w0 w) (v : Value) (l k : Nat) (f : Nat → Int × Int) (hl : l ≤ 1000) (hk : k ≤ 1000) (h : OwnA w0 w v l f) :
    Calls Try.prog 17 #[v, .int .i64 k] w fun r w' => r = .returned (.int .i64 ((k + 2 * l : Nat) : Int)) ∧ Below w0.heap.size w w' ∧ OwnA w0 w' v l (mk2 k) := by
  obtain ⟨a, cap, rfl, h3⟩ := h
  rcases Nat.eq_zero_or_pos l with h0 | h0
  · subst h0
    refine (markA_zero w a cap k).mono fun r w' ⟨hr, hb⟩ => ⟨hr, hb.mono hw0.size, a, cap, rfl, fun c => absurd c (Nat.lt_irrefl _)⟩
  · obtain ⟨B, rfl, hB0, hB, hc, hf⟩ := h3 h0
    exact (markA_some w w0 B cap l k f hl hk hB0 hc hf).mono fun r w' ⟨hr, hb, hc', hf'⟩ => ⟨hr, hb, _, cap, rfl, fun _ => ⟨B, rfl, hB0, Nat.lt_of_lt_of_le hB hb.size, hc', hf'⟩⟩

theorem heldA_zero (a : Option Addr) (cap : Nat) (k : Nat) :
    Calls Try.prog 18 #[.slice a 0 cap, .int .i64 k] w fun r w' => r = .returned (.int .i64 (k : Nat)) ∧ Below w.heap.size w w' := by
  go_enter Try.func18, Try.ntmps18
  go_wp2
  go_loopw [1, 5, 6] (fun q i _ wr => q = .int .i64 k ∧ i = .int .i64 0 ∧ Below w.heap.size w wr) (fun _ _ _ _ => 0)
  case atStart => exact ⟨rfl, rfl, by (repeat (first | exact Below.refl _ _ | assumption | refine bchain (by assumption) ?_ | refine balloc ?_ _ | apply Below.drew | apply below_drewN | (refine Below.alloc ?_ (by (try simp) <;> omega) _) | (refine Below.setCell ?_ (by (try simp) <;> omega) _)))⟩
  case round =>
    obtain ⟨rfl, rfl, hb⟩ := hrel
    go_wp2
    go_ret
    exact ⟨rfl, hb⟩
set_option maxHeartbeats 1000000 in
theorem heldA_some (B cap l k : Nat) (hl : l ≤ 1000) (hk : k ≤ 1000) (hB : B < w.heap.size) (hc : CA w B l (mk2 k)) :
    Calls Try.prog 18 #[.slice (some ⟨B, 0, none⟩) l cap, .int .i64 k] w fun r w' => r = .returned (.int .i64 ((k + 2 * l : Nat) : Int)) ∧ Below w.heap.size w w' := by
  replace hc := Lib.hid hc
  go_enter Try.func18, Try.ntmps18
  go_wp2
  go_loopw [1, 5, 6] (fun q i _ wr => ∃ j : Nat, j ≤ l ∧ q = .int .i64 ((k + 2 * j : Nat) : Int) ∧ i = .int .i64 j ∧ Below w.heap.size w wr) (fun _ i _ _ => l - (intOf i).toNat)
  case atStart => exact ⟨0, by omega, by simp, rfl, Below.refl _ _⟩
  case round =>
    obtain ⟨j, hj, rfl, rfl, hb⟩ := hrel
    by_cases hlt : j < l
    · have hc0 := hc.out j hlt
      unfold mk2 at hc0
      obtain ⟨m, hm⟩ : ∃ m : Nat, k + 2 * j = m := ⟨_, rfl⟩
      rw [hm] at hc0 ⊢
      have hm1 : m ≤ 10000 := by omega
      have hjl : (j : Int) < (l : Int) := by omega
      obtain ⟨e0, e1⟩ := hc0
      replace e0 := Lib.hid e0
      replace e1 := Lib.hid e1
      replace hm := Lib.hid hm
      go_wp2
      go_loopw [1, 6] (fun q s wr => ∃ t : Nat, t ≤ 2 ∧ q = .int .i64 ((m : Int) + t) ∧ s = .int .i64 t ∧ Below w.heap.size w wr) (fun _ s _ => 2 - (intOf s).toNat)
      case atStart => exact ⟨0, by omega, by simp, rfl, hb⟩
      case round =>
        obtain ⟨t, ht, rfl, rfl, hb⟩ := hrel
        have hq : t = 0 ∨ t = 1 ∨ t = 2 := by omega
        rcases hq with rfl | rfl | rfl
        · have hcell : wr.cell? ⟨B, j * 2, none⟩ = some (.int .i64 (m : Int)) := (hb.cell (p := ⟨B, _, none⟩) hB).trans e0.out
          go_wp2
          go_roundw
          case rel => exact ⟨1, by omega, by go_num, by go_num, by (repeat (first | exact Below.refl _ _ | assumption | refine bchain (by assumption) ?_ | refine balloc ?_ _ | apply Below.drew | apply below_drewN | (refine Below.alloc ?_ (by (try simp) <;> omega) _) | (refine Below.setCell ?_ (by (try simp) <;> omega) _)))⟩
          case measure => simp [intOf]
        · have hcell : wr.cell? ⟨B, j * 2 + 1, none⟩ = some (.int .i64 ((m : Int) + 1)) := (hb.cell (p := ⟨B, _, none⟩) hB).trans (by rw [e1.out]; simp)
          go_wp2
          go_roundw
          case rel => exact ⟨2, by omega, by go_num, by go_num, by (repeat (first | exact Below.refl _ _ | assumption | refine bchain (by assumption) ?_ | refine balloc ?_ _ | apply Below.drew | apply below_drewN | (refine Below.alloc ?_ (by (try simp) <;> omega) _) | (refine Below.setCell ?_ (by (try simp) <;> omega) _)))⟩
          case measure => simp [intOf]
        · go_wp2
          go_roundw
          case rel => exact ⟨j + 1, by omega, by have := hm.out; go_num, by go_num, hb⟩
          case measure => simp [intOf]; omega
    · obtain rfl : j = l := by omega
      have hdd := decide_eq_false (show ¬ ((j : Int) < (j : Int)) by omega)
      go_wp2
      go_ret
      exact ⟨rfl, hb⟩
theorem heldA_any (w0 : World) (v : Value) (l k : Nat) (hl : l ≤ 1000) (hk : k ≤ 1000) (h : OwnA w0 w v l (mk2 k)) :
    Calls Try.prog 18 #[v, .int .i64 k] w fun r w' => r = .returned (.int .i64 ((k + 2 * l : Nat) : Int)) ∧ Below w.heap.size w w' := by
  obtain ⟨a, cap, rfl, h3⟩ := h
  rcases Nat.eq_zero_or_pos l with h0 | h0
  · subst h0
    exact heldA_zero w a cap k
  · obtain ⟨B, rfl, hB0, hB, hc, hf⟩ := h3 h0
    exact heldA_some w B cap l k hl hk hB hc
end
end Go.Proofs.Ytoiepgdjknpjiab
