/-
  LISTS OF FRACTIONS: 'SlG w v gs': in the world w the value v is a list that holds the fractions gs. What copies such a list, and what holds two against each other.
-/
import Derived.Test.YtepbekhlpbnpkaaDoorFrVf
import Derived.Deep.OwnRows
import Derived.Lib.Hide
import Derived.StillTailTactics
namespace Go.Proofs.YtepbekhlpbnpkaaDoor.Fr
open Go.RowKit
set_option maxRecDepth 100000

def gAt (gs : List (Int × Int)) (i : Nat) : Int × Int := gs[i]?.getD (0, 0)
/-- two cells of a block that hold the graph at i -/
def GCell (w : World) (b off : Nat) (g : Int × Int) (i : Nat) : Prop := w.cell? ⟨b, off + i * 2, none⟩ = some (.int .i64 g.1) ∧ w.cell? ⟨b, off + i * 2 + 1, none⟩ = some (.int .i64 g.2)
def SlG (w : World) (v : Value) (gs : List (Int × Int)) : Prop :=
  ∃ (a : Option Addr) (cap : Nat), v = .slice a gs.length cap ∧ gs.length ≤ cap ∧ cap ≤ 9223372036854775807 ∧
    (gs ≠ [] → ∃ b off, a = some ⟨b, off, none⟩ ∧ b < w.heap.size ∧ ∀ i, i < gs.length → GCell w b off (gAt gs i) i)
theorem SlG.below {w w' : World} {v : Value} {gs : List (Int × Int)} (h : SlG w v gs) (hb : Below w.heap.size w w') : SlG w' v gs := by
  obtain ⟨a, cap, e, h1, h2, h3⟩ := h
  refine ⟨a, cap, e, h1, h2, fun hz => ?_⟩
  obtain ⟨b, off, e2, hlt, hc⟩ := h3 hz
  exact ⟨b, off, e2, Nat.lt_of_lt_of_le hlt hb.size, fun i hi => ⟨(hb.cell (p := ⟨b, _, none⟩) hlt).trans (hc i hi).1, (hb.cell (p := ⟨b, _, none⟩) hlt).trans (hc i hi).2⟩⟩
/-- a block that holds the first k of gs, zeros behind -/
def HalfG (w : World) (B k : Nat) (gs : List (Int × Int)) : Prop := ∀ i, i < gs.length → GCell w B 0 (if i < k then gAt gs i else (0, 0)) i
theorem HalfG.set {w : World} {B k : Nat} {gs : List (Int × Int)} (h : HalfG w B k gs) (hk : k < gs.length) : HalfG ((w.setCell ⟨B, k * 2, none⟩ (.int .i64 (gAt gs k).1)).setCell ⟨B, k * 2 + 1, none⟩ (.int .i64 (gAt gs k).2)) B (k + 1) gs := by
  intro i hi
  have hi2 := h i hi
  unfold GCell at hi2 ⊢
  rw [Nat.zero_add] at hi2 ⊢
  by_cases e : i = k
  · subst e
    rw [if_pos (by omega)]
    exact ⟨(World.cell?_setCell_other _ _ _ _ (by simp)).trans (World.cell?_setCell_same _ _ _ hi2.1), World.cell?_setCell_same _ _ _ ((World.cell?_setCell_other _ _ _ _ (by simp)).trans hi2.2)⟩
  · rw [show (if i < k + 1 then gAt gs i else (0, 0)) = (if i < k then gAt gs i else (0, 0)) by
      by_cases c : i < k
      · rw [if_pos c, if_pos (by omega)]
      · rw [if_neg c, if_neg (by omega)]]
    exact ⟨(World.cell?_setCell_other _ _ _ _ (by simp <;> omega)).trans ((World.cell?_setCell_other _ _ _ _ (by simp <;> omega)).trans hi2.1), (World.cell?_setCell_other _ _ _ _ (by simp <;> omega)).trans ((World.cell?_setCell_other _ _ _ _ (by simp <;> omega)).trans hi2.2)⟩
theorem HalfG.below {w w' : World} {B k : Nat} {gs : List (Int × Int)} (h : HalfG w B k gs) (hb : Below w.heap.size w w') (hB : B < w.heap.size) : HalfG w' B k gs :=
  fun i hi => ⟨(hb.cell (p := ⟨B, _, none⟩) hB).trans (h i hi).1, (hb.cell (p := ⟨B, _, none⟩) hB).trans (h i hi).2⟩
theorem HalfG.done {w : World} {B cap : Nat} {gs : List (Int × Int)} (h : HalfG w B gs.length gs) (hB : B < w.heap.size) (hc : gs.length ≤ cap) (hm : cap ≤ 9223372036854775807) : SlG w (.slice (some ⟨B, 0, none⟩) gs.length cap) gs :=
  ⟨_, _, rfl, hc, hm, fun _ => ⟨B, 0, rfl, hB, fun i hi => by have := h i hi; rw [if_pos hi] at this; exact this⟩⟩
theorem info_graph : (Tryd.prog.info? 38).map (fun i => (i.zero, i.size, i.bytes)) = some (some (.agg #[.int .i64 0, .int .i64 0]), 2, 16) := by kernel_rfl
theorem madeG (w : World) (n B : Nat) (e : TypeId) (gs : List (Int × Int)) (hB : B = w.heap.size) (hn : gs.length = n) : HalfG (w.alloc (.cells (madeCells #[.int .i64 0, .int .i64 0] (n * 2)) e)) B 0 gs := by
  intro i hi
  subst hB
  unfold GCell
  rw [World.cell?_alloc_new, World.cell?_alloc_new, Nat.zero_add, if_neg (by omega)]
  have h1 : i * 2 < n * 2 := by omega
  have h2 : i * 2 + 1 < n * 2 := by omega
  constructor
  · simp [madeCells, h1]
  · simp [madeCells, h2]
section
variable (w : World)
theorem eqGs_empty (a a' : Option Addr) (cap cap' : Nat) :
    Calls Tryd.prog 30 #[.slice a 0 cap, .slice a' 0 cap'] w fun r w' => r = .returned (.bool true) ∧ Below w.heap.size w w' := by
  go_enter Tryd.func30, Tryd.ntmps30
  go_wp2
  go_loopw [5] (fun i wr => i = .int .i64 0 ∧ Below w.heap.size w wr) (fun _ _ => 0)
  case atStart => exact ⟨rfl, by (repeat (first | exact Below.refl _ _ | assumption | refine bchain (by assumption) ?_ | refine balloc ?_ _ | apply Below.drew | apply below_drewN | (refine Below.alloc ?_ (by (try simp) <;> omega) _) | (refine Below.setCell ?_ (by (try simp) <;> omega) _)))⟩
  case round =>
    obtain ⟨rfl, hb⟩ := hrel
    go_wp2
    go_ret
    exact ⟨rfl, hb⟩
set_option maxHeartbeats 1000000 in
theorem eqGs_some (b off cap b' off' cap' : Nat) (gs : List (Int × Int)) (h1 : 0 < gs.length) (hm : gs.length ≤ 1048576) (hb : b < w.heap.size) (hb' : b' < w.heap.size)
    (hc : ∀ i, i < gs.length → GCell w b off (gAt gs i) i) (hc' : ∀ i, i < gs.length → GCell w b' off' (gAt gs i) i) :
    Calls Tryd.prog 30 #[.slice (some ⟨b, off, none⟩) gs.length cap, .slice (some ⟨b', off', none⟩) gs.length cap'] w fun r w' => r = .returned (.bool true) ∧ Below w.heap.size w w' := by
  obtain ⟨n, hn⟩ : ∃ n, n = gs.length := ⟨_, rfl⟩
  rw [← hn] at h1 hm ⊢
  replace hn := Lib.hid hn
  replace hc := Lib.hid hc
  replace hc' := Lib.hid hc'
  go_enter Tryd.func30, Tryd.ntmps30
  go_wp2
  go_loopw [5] (fun i wr => ∃ k : Nat, k ≤ n ∧ i = .int .i64 k ∧ Below w.heap.size w wr) (fun i _ => n - (intOf i).toNat)
  case atStart => exact ⟨0, by omega, rfl, by (repeat (first | exact Below.refl _ _ | assumption | refine bchain (by assumption) ?_ | refine balloc ?_ _ | apply Below.drew | apply below_drewN | (refine Below.alloc ?_ (by (try simp) <;> omega) _) | (refine Below.setCell ?_ (by (try simp) <;> omega) _)))⟩
  case round =>
    obtain ⟨k, hk, rfl, hB⟩ := hrel
    by_cases hlt : k < n
    · have hg := hc.out k (by have := hn.out; omega)
      have hg' := hc'.out k (by have := hn.out; omega)
      obtain ⟨x, y, hxy⟩ : ∃ x y, gAt gs k = (x, y) := ⟨_, _, rfl⟩
      have s0 : wr.cell? ⟨b, off + k * 2, none⟩ = some (.int .i64 x) := by rw [hB.cell (p := ⟨b, _, none⟩) hb, hg.1, hxy]
      have s1 : wr.cell? ⟨b, off + k * 2 + 1, none⟩ = some (.int .i64 y) := by rw [hB.cell (p := ⟨b, _, none⟩) hb, hg.2, hxy]
      have t0 : wr.cell? ⟨b', off' + k * 2, none⟩ = some (.int .i64 x) := by rw [hB.cell (p := ⟨b', _, none⟩) hb', hg'.1, hxy]
      have t1 : wr.cell? ⟨b', off' + k * 2 + 1, none⟩ = some (.int .i64 y) := by rw [hB.cell (p := ⟨b', _, none⟩) hb', hg'.2, hxy]
      have hE := Lib.hid (eqF_any wr.drew x y)
      have hk1 : (k : Int) < (n : Int) := by omega
      clear hg hg' hxy
      go_wp2
      go_still_tail 8, (by kernel_rfl)
      change wpList _ _ _ _ _ wr.drew
      go_wp2_with (go_at_call 21; refine (hE.out).mono ?_; rintro r3 w3 ⟨rfl, hb3⟩)
      go_roundw
      case rel => exact ⟨k + 1, by omega, by go_num, by (repeat (first | exact Below.refl _ _ | assumption | refine bchain (by assumption) ?_ | refine balloc ?_ _ | apply Below.drew | apply below_drewN | (refine Below.alloc ?_ (by (try simp) <;> omega) _) | (refine Below.setCell ?_ (by (try simp) <;> omega) _)))⟩
      case measure => simp [intOf]; omega
    · have hd := decide_eq_false (show ¬ ((k : Int) < (n : Int)) by omega)
      go_wp2
      go_ret
      exact ⟨rfl, hB⟩
theorem eqGs_any (u v : Value) (gs : List (Int × Int)) (h : SlG w u gs) (h' : SlG w v gs) (hm : gs.length ≤ 1048576) :
    Calls Tryd.prog 30 #[u, v] w fun r w' => r = .returned (.bool true) ∧ Below w.heap.size w w' := by
  obtain ⟨a, cap, rfl, h1, h2, h3⟩ := h
  obtain ⟨a', cap', rfl, h1', h2', h3'⟩ := h'
  cases gs with
  | nil => exact eqGs_empty w a a' cap cap'
  | cons z zs =>
    obtain ⟨b, off, rfl, hb, hc⟩ := h3 (by simp)
    obtain ⟨b', off', rfl, hb', hc'⟩ := h3' (by simp)
    exact eqGs_some w b off cap b' off' cap' (z :: zs) (by simp) hm hb hb' hc hc'
end
end Go.Proofs.YtepbekhlpbnpkaaDoor.Fr
