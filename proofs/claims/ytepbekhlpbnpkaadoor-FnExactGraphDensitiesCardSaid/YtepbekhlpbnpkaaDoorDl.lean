/-
  LISTS OF FRACTIONS THAT A CALL MAKES: how they are read, marked, and found marked again.
-/
import Derived.Test.YtepbekhlpbnpkaaDoorFrS
import Derived.Test.YtepbekhlpbnpkaaDoorFd
import Derived.Lib.SmallJoins
import Derived.OwnWalk
namespace Go.Proofs.YtepbekhlpbnpkaaDoor
open Go.RowKit Go.Shelf
set_option maxRecDepth 100000
def dsC (ds : List (Int × Int)) : List Value := ds.flatMap fun f => [.int .i64 f.1, .int .i64 f.2]
theorem dsC_snoc (ds : List (Int × Int)) (f : Int × Int) : dsC (ds ++ [f]) = dsC ds ++ [.int .i64 f.1, .int .i64 f.2] := by simp [dsC]
theorem dsC_get : ∀ (gs : List (Int × Int)) (i : Nat), i < gs.length → (dsC gs)[i * 2]? = some (.int .i64 (Fr.gAt gs i).1) ∧ (dsC gs)[i * 2 + 1]? = some (.int .i64 (Fr.gAt gs i).2)
  | [], i, h => absurd h (by simp)
  | f :: r, 0, _ => ⟨rfl, rfl⟩
  | f :: r, i + 1, h => by
    have h2 := dsC_get r i (by simpa using h)
    have e : Fr.gAt (f :: r) (i + 1) = Fr.gAt r i := by simp [Fr.gAt]
    have e2 : dsC (f :: r) = .int .i64 f.1 :: .int .i64 f.2 :: dsC r := by simp [dsC]
    rw [e, e2, show (i + 1) * 2 = i * 2 + 1 + 1 by omega]
    simpa using h2
theorem dsl_of_row {W : World} {base : Nat} {u : Value} {gs : List (Int × Int)} (h : W.ownsRow base 38 2 u gs.length (dsC gs)) : Fr.SlG W u gs := by
  have hm : maxLen ≤ 9223372036854775807 := by unfold maxLen; omega
  rcases h.2 with ⟨e0, e1⟩ | ⟨g, cap, cur, e, a1, a2, a3, a4, a5, a6⟩
  · exact ⟨none, 0, by rw [e0, e1], by omega, by omega, fun c => absurd (List.length_eq_zero_iff.1 e1) c⟩
  · refine ⟨some ⟨g, 0, none⟩, cap, e, a3, by omega, fun _ => ⟨g, 0, rfl, (Array.getElem?_eq_some_iff.1 a2).1, fun i hi => ?_⟩⟩
    obtain ⟨f1, f2⟩ := dsC_get gs i hi
    rw [← a6, List.getElem?_take_of_lt (by omega)] at f1 f2
    exact ⟨by rw [Nat.zero_add]; simpa [World.cell?, a2] using f1, by rw [Nat.zero_add]; simpa [World.cell?, a2] using f2⟩
/-- what each cell of a block holds -/
def CFd (w : World) (B N : Nat) (f : Nat → Int) : Prop := ∀ i, i < N → w.cell? ⟨B, i, none⟩ = some (.int .i64 (f i))
/-- the program's list: nil, or in a block of its own -/
def OwnD (base : Nat) (W : World) (v : Value) (ds : List (Int × Int)) : Prop :=
  (v = .slice none 0 0 ∧ ds = []) ∨ ∃ B cap, v = .slice (some ⟨B, 0, none⟩) ds.length cap ∧ ds.length ≤ cap ∧ cap ≤ 9223372036854775807 ∧ base ≤ B ∧ B < W.heap.size ∧ (∀ c, W.frozen? ⟨B, c, none⟩ = false) ∧ ∀ i, i < ds.length → Fr.GCell W B 0 (Fr.gAt ds i) i
theorem OwnD.sl {base : Nat} {W : World} {v : Value} {ds : List (Int × Int)} (h : OwnD base W v ds) : Fr.SlG W v ds := by
  rcases h with ⟨rfl, rfl⟩ | ⟨B, cap, e, h1, h2, h3, h4, h5, h6⟩
  · exact ⟨none, 0, rfl, by simp, by omega, fun c => absurd rfl c⟩
  · exact ⟨_, cap, e, h1, h2, fun _ => ⟨B, 0, rfl, h4, h6⟩⟩
/-- the numbers in its cells -/
def dsF (ds : List (Int × Int)) (c : Nat) : Int := if c % 2 = 0 then (Fr.gAt ds (c / 2)).1 else (Fr.gAt ds (c / 2)).2
theorem cfd_of {W : World} {B : Nat} {ds : List (Int × Int)} (h : ∀ i, i < ds.length → Fr.GCell W B 0 (Fr.gAt ds i) i) : CFd W B (ds.length * 2) (dsF ds) := fun c hc => by
  have h2 := h (c / 2) (by omega)
  unfold dsF
  by_cases h0 : c % 2 = 0
  · rw [if_pos h0]
    have := h2.1
    rwa [Nat.zero_add, show c / 2 * 2 = c by omega] at this
  · rw [if_neg h0]
    have := h2.2
    rwa [Nat.zero_add, show c / 2 * 2 + 1 = c by omega] at this
theorem CFd.below {W W' : World} {B N : Nat} {f : Nat → Int} (h : CFd W B N f) (hB : B < W.heap.size) (hb : Below W.heap.size W W') : CFd W' B N f := fun i hi => (hb.cell (p := ⟨B, i, none⟩) hB).trans (h i hi)
theorem info_fr3 : (Tryd.prog.info? 38).map (fun i => (i.zero, i.size, i.bytes)) = some (some (.agg #[.int .i64 0, .int .i64 0]), 2, 16) := by kernel_rfl
section
variable (w : World)
set_option maxHeartbeats 1000000 in
theorem markD_row (b0 : Nat) (B cap l k : Nat) (f : Nat → Int) (hl : l ≤ 2000) (hk : k ≤ 1048576) (h0 : b0 ≤ B) (hc : CFd w B (l * 2) f) (hf : ∀ c, w.frozen? ⟨B, c, none⟩ = false) :
    Calls Tryd.prog 31 #[.slice (some ⟨B, 0, none⟩) l cap, .int .i64 k] w fun r w' => r = .returned (.int .i64 ((k + l * 2 : Nat) : Int)) ∧ Below b0 w w' ∧ CFd w' B (l * 2) (fun c => ((k + c : Nat) : Int)) ∧ (∀ C c, w'.frozen? ⟨C, c, none⟩ = w.frozen? ⟨C, c, none⟩) ∧ (∀ C i, C ≠ B → w'.cell? ⟨C, i, none⟩ = w.cell? ⟨C, i, none⟩) := by
  replace hc := Lib.hid hc
  replace hf := Lib.hid hf
  go_enter Tryd.func31, Tryd.ntmps31
  go_wp2
  go_loopw [1, 5] (fun q i wr => ∃ j : Nat, j ≤ l ∧ q = .int .i64 ((k : Int) + j * 2) ∧ i = .int .i64 j ∧ Hid (∀ c, c < l * 2 → wr.cell? ⟨B, c, none⟩ = some (.int .i64 (if c < j * 2 then ((k + c : Nat) : Int) else f c))) ∧ Hid (∀ C c, wr.frozen? ⟨C, c, none⟩ = w.frozen? ⟨C, c, none⟩) ∧ Hid (∀ C i, C ≠ B → wr.cell? ⟨C, i, none⟩ = w.cell? ⟨C, i, none⟩) ∧ Below b0 w wr) (fun _ i _ => l - (intOf i).toNat)
  case atStart => exact ⟨0, by omega, by simp, rfl, (fun c h => by rw [if_neg (by omega)]; exact hc.out c h), fun _ _ => rfl, fun _ _ _ => rfl, Below.refl _ _⟩
  case round =>
    obtain ⟨j, hj, rfl, rfl, hC, hF, hO, hb⟩ := hrel
    by_cases hlt : j < l
    · have c0 := hC.out (j * 2) (by omega)
      have c1 := hC.out (j * 2 + 1) (by omega)
      have f0 := (hF.out B (j * 2)).trans (hf.out _)
      have f1 := (hF.out B (j * 2 + 1)).trans (hf.out _)
      rw [if_neg (by omega)] at c0 c1
      have hn : Hid (∀ c, c < l * 2 → ((wr.setCell ⟨B, j * 2, none⟩ (.int .i64 ((k : Int) + j * 2))).setCell ⟨B, j * 2 + 1, none⟩ (.int .i64 ((k : Int) + j * 2 + 1))).cell? ⟨B, c, none⟩ = some (.int .i64 (if c < (j + 1) * 2 then ((k + c : Nat) : Int) else f c))) := fun c h => by
        by_cases e1 : c = j * 2 + 1
        · subst e1
          rw [World.cell?_setCell_same _ _ _ ((World.cell?_setCell_other _ _ _ _ (by simp)).trans c1), if_pos (by omega)]
          congr 2
        · rw [World.cell?_setCell_other _ _ _ _ (by (try simp) <;> omega)]
          by_cases e0 : c = j * 2
          · subst e0
            rw [World.cell?_setCell_same _ _ _ c0, if_pos (by omega)]
            congr 2
          · rw [World.cell?_setCell_other _ _ _ _ (by (try simp) <;> omega), hC.out c h]
            by_cases e2 : c < j * 2
            · rw [if_pos e2, if_pos (by omega)]
            · rw [if_neg e2, if_neg (by omega)]
      have hF2 : Hid (∀ C c, ((wr.setCell ⟨B, j * 2, none⟩ (.int .i64 ((k : Int) + j * 2))).setCell ⟨B, j * 2 + 1, none⟩ (.int .i64 ((k : Int) + j * 2 + 1))).frozen? ⟨C, c, none⟩ = w.frozen? ⟨C, c, none⟩) := fun C c => by
        rw [World.frozen?_setCell, World.frozen?_setCell]; exact hF.out C c
      have hB2 := Lib.hid ((hb.setCell (p := ⟨B, j * 2, none⟩) h0 (.int .i64 ((k : Int) + j * 2))).setCell (p := ⟨B, j * 2 + 1, none⟩) h0 (.int .i64 ((k : Int) + j * 2 + 1)))
      have hO2 : Hid (∀ C i, C ≠ B → ((wr.setCell ⟨B, j * 2, none⟩ (.int .i64 ((k : Int) + j * 2))).setCell ⟨B, j * 2 + 1, none⟩ (.int .i64 ((k : Int) + j * 2 + 1))).cell? ⟨C, i, none⟩ = w.cell? ⟨C, i, none⟩) := fun C i h => by
        rw [World.cell?_setCell_other _ _ _ _ (by intro e; injection e with e; exact h e.symm), World.cell?_setCell_other _ _ _ _ (by intro e; injection e with e; exact h e.symm)]
        exact hO.out C i h
      clear hC hF hO
      obtain ⟨z0, hz0⟩ : ∃ z, f (j * 2) = z := ⟨_, rfl⟩
      obtain ⟨z1, hz1⟩ : ∃ z, f (j * 2 + 1) = z := ⟨_, rfl⟩
      rw [hz0] at c0
      rw [hz1] at c1
      clear hz0 hz1
      have hkj : (k : Int) + j * 2 + 1 ≤ 4194304 := by omega
      go_wp2
      go_roundw
      case rel => exact ⟨j + 1, by omega, by go_num, by go_num, hn, hF2, hO2, hB2.out⟩
      case measure => simp [intOf]; omega
    · obtain rfl : j = l := by omega
      have hdd := decide_eq_false (show ¬ ((j : Int) < (j : Int)) by omega)
      go_wp2
      go_ret
      exact ⟨by go_num, hb, fun c h => by have := hC.out c h; rwa [if_pos h] at this, hF.out, hO.out⟩
set_option maxHeartbeats 1000000 in
theorem heldD_row (B cap l k : Nat) (hl : l ≤ 2000) (hk : k ≤ 1048576) (hB : B < w.heap.size) (hc : CFd w B (l * 2) (fun c => ((k + c : Nat) : Int))) :
    Calls Tryd.prog 32 #[.slice (some ⟨B, 0, none⟩) l cap, .int .i64 k] w fun r w' => r = .returned (.int .i64 ((k + l * 2 : Nat) : Int)) ∧ Below w.heap.size w w' := by
  replace hc := Lib.hid hc
  go_enter Tryd.func32, Tryd.ntmps32
  go_wp2
  go_loopw [1, 5] (fun q i wr => ∃ j : Nat, j ≤ l ∧ q = .int .i64 ((k : Int) + j * 2) ∧ i = .int .i64 j ∧ Below w.heap.size w wr) (fun _ i _ => l - (intOf i).toNat)
  case atStart => exact ⟨0, by omega, by simp, rfl, Below.refl _ _⟩
  case round =>
    obtain ⟨j, hj, rfl, rfl, hb⟩ := hrel
    by_cases hlt : j < l
    · have c0 : wr.cell? ⟨B, j * 2, none⟩ = some (.int .i64 ((k : Int) + j * 2)) := by
        rw [hb.cell (p := ⟨B, j * 2, none⟩) hB, hc.out _ (by omega)]
        congr 2
      have c1 : wr.cell? ⟨B, j * 2 + 1, none⟩ = some (.int .i64 ((k : Int) + j * 2 + 1)) := by
        rw [hb.cell (p := ⟨B, j * 2 + 1, none⟩) hB, hc.out _ (by omega)]
        congr 2
      have hkj : (k : Int) + j * 2 + 1 ≤ 4194304 := by omega
      go_wp2
      go_roundw
      case rel => exact ⟨j + 1, by omega, by go_num, by go_num, by (repeat (first | exact Below.refl _ _ | assumption | refine bchain (by assumption) ?_ | refine balloc ?_ _ | apply Below.drew | apply below_drewN | (refine Below.alloc ?_ (by (try simp) <;> omega) _) | (refine Below.setCell ?_ (by (try simp) <;> omega) _)))⟩
      case measure => simp [intOf]; omega
    · obtain rfl : j = l := by omega
      have hdd := decide_eq_false (show ¬ ((j : Int) < (j : Int)) by omega)
      go_wp2
      go_ret
      exact ⟨by go_num, hb⟩
theorem markD_zero (a : Option Addr) (cap k : Nat) :
    Calls Tryd.prog 31 #[.slice a 0 cap, .int .i64 k] w fun r w' => r = .returned (.int .i64 (k : Nat)) ∧ Below w.heap.size w w' := by
  go_enter Tryd.func31, Tryd.ntmps31
  go_wp2
  go_loopw [1, 5] (fun q i wr => q = .int .i64 k ∧ i = .int .i64 0 ∧ Below w.heap.size w wr) (fun _ _ _ => 0)
  case atStart => exact ⟨rfl, rfl, by (repeat (first | exact Below.refl _ _ | assumption | refine bchain (by assumption) ?_ | refine balloc ?_ _ | apply Below.drew | apply below_drewN | (refine Below.alloc ?_ (by (try simp) <;> omega) _) | (refine Below.setCell ?_ (by (try simp) <;> omega) _)))⟩
  case round =>
    obtain ⟨rfl, rfl, hb⟩ := hrel
    go_wp2
    go_ret
    exact ⟨rfl, hb⟩
theorem heldD_zero (a : Option Addr) (cap k : Nat) :
    Calls Tryd.prog 32 #[.slice a 0 cap, .int .i64 k] w fun r w' => r = .returned (.int .i64 (k : Nat)) ∧ Below w.heap.size w w' := by
  go_enter Tryd.func32, Tryd.ntmps32
  go_wp2
  go_loopw [1, 5] (fun q i wr => q = .int .i64 k ∧ i = .int .i64 0 ∧ Below w.heap.size w wr) (fun _ _ _ => 0)
  case atStart => exact ⟨rfl, rfl, by (repeat (first | exact Below.refl _ _ | assumption | refine bchain (by assumption) ?_ | refine balloc ?_ _ | apply Below.drew | apply below_drewN | (refine Below.alloc ?_ (by (try simp) <;> omega) _) | (refine Below.setCell ?_ (by (try simp) <;> omega) _)))⟩
  case round =>
    obtain ⟨rfl, rfl, hb⟩ := hrel
    go_wp2
    go_ret
    exact ⟨rfl, hb⟩
end
end Go.Proofs.YtepbekhlpbnpkaaDoor
