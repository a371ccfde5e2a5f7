/-
  Fs, Ms, Lim, FOps, FWh, FSame, FSameM, FList, FVm, FVmS, FOpen, OpenFs, OpenMs, in one text.
-/
import Derived.Test.YtdbidlnkaplekaaDoorFrVf
import Derived.Deep.OwnRows
import Derived.Lib.Hide
import Derived.StillTailTactics
import Derived.Deep.RegionHeld3
import Derived.Defers
import Derived.Recover
import Derived.Laws.Pointers
import Derived.Laws.StructEq
import Derived.Laws.Tables
import Derived.KernelRfl
import Derived.Deep.DeepCutAuto
import Derived.BigQuiet
import Derived.Test.YtdbidlnkaplekaaDoorRows
import Derived.Test.YtdbidlnkaplekaaDoorFrame
import Derived.Lib.SmallJoins
import Derived.OpenShut
import Derived.Deep.SlicePairs
import Derived.Deep.Slices
/-
  LISTS OF FRACTIONS: 'SlG w v gs': in the world w the value v is a list that holds the fractions gs. What copies such a list, and what holds two against each other.
-/
namespace Go.Proofs.YtdbidlnkaplekaaDoor.Fr
open Go.RowKit
set_option maxRecDepth 100000

def gAt (gs : List (Int × Int)) (i : Nat) : Int × Int := gs[i]?.getD (0, 0)
/-- two cells of a block that hold the graph at i -/
def GCell (w : World) (b off : Nat) (g : Int × Int) (i : Nat) : Prop := w.cell? ⟨b, off + i * 2, none⟩ = some (.int .i64 g.1) ∧ w.cell? ⟨b, off + i * 2 + 1, none⟩ = some (.int .i64 g.2)
def SlG (w : World) (v : Value) (gs : List (Int × Int)) : Prop :=
  ∃ (a : Option Addr) (cap : Nat), v = .slice a gs.length cap ∧ gs.length ≤ cap ∧ cap ≤ 9223372036854775807 ∧
    (gs ≠ [] → ∃ b off, a = some ⟨b, off, none⟩ ∧ b < w.heap.size ∧ ∀ i, i < gs.length → GCell w b off (gAt gs i) i)
theorem SlG.below {w w' : World} {v : Value} {gs : List (Int × Int)} (h : SlG w v gs) (hb : Below w.heap.size w w') : SlG w' v gs := by
  obtain ⟨a, cap, e, h1, h2, h3⟩ := h
  refine ⟨a, cap, e, h1, h2, fun hz => ?_⟩
  obtain ⟨b, off, e2, hlt, hc⟩ := h3 hz
  exact ⟨b, off, e2, Nat.lt_of_lt_of_le hlt hb.size, fun i hi => ⟨(hb.cell (p := ⟨b, _, none⟩) hlt).trans (hc i hi).1, (hb.cell (p := ⟨b, _, none⟩) hlt).trans (hc i hi).2⟩⟩
/-- a block that holds the first k of gs, zeros behind -/
def HalfG (w : World) (B k : Nat) (gs : List (Int × Int)) : Prop := ∀ i, i < gs.length → GCell w B 0 (if i < k then gAt gs i else (0, 0)) i
theorem HalfG.set {w : World} {B k : Nat} {gs : List (Int × Int)} (h : HalfG w B k gs) (hk : k < gs.length) : HalfG ((w.setCell ⟨B, k * 2, none⟩ (.int .i64 (gAt gs k).1)).setCell ⟨B, k * 2 + 1, none⟩ (.int .i64 (gAt gs k).2)) B (k + 1) gs := by
  intro i hi
  have hi2 := h i hi
  unfold GCell at hi2 ⊢
  rw [Nat.zero_add] at hi2 ⊢
  by_cases e : i = k
  · subst e
    rw [if_pos (by omega)]
    exact ⟨(World.cell?_setCell_other _ _ _ _ (by simp)).trans (World.cell?_setCell_same _ _ _ hi2.1), World.cell?_setCell_same _ _ _ ((World.cell?_setCell_other _ _ _ _ (by simp)).trans hi2.2)⟩
  · rw [show (if i < k + 1 then gAt gs i else (0, 0)) = (if i < k then gAt gs i else (0, 0)) by
      by_cases c : i < k
      · rw [if_pos c, if_pos (by omega)]
      · rw [if_neg c, if_neg (by omega)]]
    exact ⟨(World.cell?_setCell_other _ _ _ _ (by simp <;> omega)).trans ((World.cell?_setCell_other _ _ _ _ (by simp <;> omega)).trans hi2.1), (World.cell?_setCell_other _ _ _ _ (by simp <;> omega)).trans ((World.cell?_setCell_other _ _ _ _ (by simp <;> omega)).trans hi2.2)⟩
theorem HalfG.below {w w' : World} {B k : Nat} {gs : List (Int × Int)} (h : HalfG w B k gs) (hb : Below w.heap.size w w') (hB : B < w.heap.size) : HalfG w' B k gs :=
  fun i hi => ⟨(hb.cell (p := ⟨B, _, none⟩) hB).trans (h i hi).1, (hb.cell (p := ⟨B, _, none⟩) hB).trans (h i hi).2⟩
theorem HalfG.done {w : World} {B cap : Nat} {gs : List (Int × Int)} (h : HalfG w B gs.length gs) (hB : B < w.heap.size) (hc : gs.length ≤ cap) (hm : cap ≤ 9223372036854775807) : SlG w (.slice (some ⟨B, 0, none⟩) gs.length cap) gs :=
  ⟨_, _, rfl, hc, hm, fun _ => ⟨B, 0, rfl, hB, fun i hi => by have := h i hi; rw [if_pos hi] at this; exact this⟩⟩
theorem info_graph : (Tryd.prog.info? 53).map (fun i => (i.zero, i.size, i.bytes)) = some (some (.agg #[.int .i64 0, .int .i64 0]), 2, 16) := by kernel_rfl
theorem madeG (w : World) (n B : Nat) (e : TypeId) (gs : List (Int × Int)) (hB : B = w.heap.size) (hn : gs.length = n) : HalfG (w.alloc (.cells (madeCells #[.int .i64 0, .int .i64 0] (n * 2)) e)) B 0 gs := by
  intro i hi
  subst hB
  unfold GCell
  rw [World.cell?_alloc_new, World.cell?_alloc_new, Nat.zero_add, if_neg (by omega)]
  have h1 : i * 2 < n * 2 := by omega
  have h2 : i * 2 + 1 < n * 2 := by omega
  constructor
  · simp [madeCells, h1]
  · simp [madeCells, h2]
section
variable (w : World)
theorem eqGs_empty (a a' : Option Addr) (cap cap' : Nat) :
    Calls Tryd.prog 26 #[.slice a 0 cap, .slice a' 0 cap'] w fun r w' => r = .returned (.bool true) ∧ Below w.heap.size w w' := by
  go_enter Tryd.func26, Tryd.ntmps26
  go_wp2
  go_loopw [5] (fun i wr => i = .int .i64 0 ∧ Below w.heap.size w wr) (fun _ _ => 0)
  case atStart => exact ⟨rfl, by (repeat (first | exact Below.refl _ _ | assumption | refine bchain (by assumption) ?_ | refine balloc ?_ _ | apply Below.drew | apply below_drewN | (refine Below.alloc ?_ (by (try simp) <;> omega) _) | (refine Below.setCell ?_ (by (try simp) <;> omega) _)))⟩
  case round =>
    obtain ⟨rfl, hb⟩ := hrel
    go_wp2
    go_ret
    exact ⟨rfl, hb⟩
set_option maxHeartbeats 1000000 in
theorem eqGs_some (b off cap b' off' cap' : Nat) (gs : List (Int × Int)) (h1 : 0 < gs.length) (hm : gs.length ≤ 1048576) (hb : b < w.heap.size) (hb' : b' < w.heap.size)
    (hc : ∀ i, i < gs.length → GCell w b off (gAt gs i) i) (hc' : ∀ i, i < gs.length → GCell w b' off' (gAt gs i) i) :
    Calls Tryd.prog 26 #[.slice (some ⟨b, off, none⟩) gs.length cap, .slice (some ⟨b', off', none⟩) gs.length cap'] w fun r w' => r = .returned (.bool true) ∧ Below w.heap.size w w' := by
  obtain ⟨n, hn⟩ : ∃ n, n = gs.length := ⟨_, rfl⟩
  rw [← hn] at h1 hm ⊢
  replace hn := Lib.hid hn
  replace hc := Lib.hid hc
  replace hc' := Lib.hid hc'
  go_enter Tryd.func26, Tryd.ntmps26
  go_wp2
  go_loopw [5] (fun i wr => ∃ k : Nat, k ≤ n ∧ i = .int .i64 k ∧ Below w.heap.size w wr) (fun i _ => n - (intOf i).toNat)
  case atStart => exact ⟨0, by omega, rfl, by (repeat (first | exact Below.refl _ _ | assumption | refine bchain (by assumption) ?_ | refine balloc ?_ _ | apply Below.drew | apply below_drewN | (refine Below.alloc ?_ (by (try simp) <;> omega) _) | (refine Below.setCell ?_ (by (try simp) <;> omega) _)))⟩
  case round =>
    obtain ⟨k, hk, rfl, hB⟩ := hrel
    by_cases hlt : k < n
    · have hg := hc.out k (by have := hn.out; omega)
      have hg' := hc'.out k (by have := hn.out; omega)
      obtain ⟨x, y, hxy⟩ : ∃ x y, gAt gs k = (x, y) := ⟨_, _, rfl⟩
      have s0 : wr.cell? ⟨b, off + k * 2, none⟩ = some (.int .i64 x) := by rw [hB.cell (p := ⟨b, _, none⟩) hb, hg.1, hxy]
      have s1 : wr.cell? ⟨b, off + k * 2 + 1, none⟩ = some (.int .i64 y) := by rw [hB.cell (p := ⟨b, _, none⟩) hb, hg.2, hxy]
      have t0 : wr.cell? ⟨b', off' + k * 2, none⟩ = some (.int .i64 x) := by rw [hB.cell (p := ⟨b', _, none⟩) hb', hg'.1, hxy]
      have t1 : wr.cell? ⟨b', off' + k * 2 + 1, none⟩ = some (.int .i64 y) := by rw [hB.cell (p := ⟨b', _, none⟩) hb', hg'.2, hxy]
      have hE := Lib.hid (eqF_any wr.drew x y)
      have hk1 : (k : Int) < (n : Int) := by omega
      clear hg hg' hxy
      go_wp2
      go_still_tail 8, (by kernel_rfl)
      change wpList _ _ _ _ _ wr.drew
      go_wp2_with (go_at_call 43; refine (hE.out).mono ?_; rintro r3 w3 ⟨rfl, hb3⟩)
      go_roundw
      case rel => exact ⟨k + 1, by omega, by go_num, by (repeat (first | exact Below.refl _ _ | assumption | refine bchain (by assumption) ?_ | refine balloc ?_ _ | apply Below.drew | apply below_drewN | (refine Below.alloc ?_ (by (try simp) <;> omega) _) | (refine Below.setCell ?_ (by (try simp) <;> omega) _)))⟩
      case measure => simp [intOf]; omega
    · have hd := decide_eq_false (show ¬ ((k : Int) < (n : Int)) by omega)
      go_wp2
      go_ret
      exact ⟨rfl, hB⟩
theorem eqGs_any (u v : Value) (gs : List (Int × Int)) (h : SlG w u gs) (h' : SlG w v gs) (hm : gs.length ≤ 1048576) :
    Calls Tryd.prog 26 #[u, v] w fun r w' => r = .returned (.bool true) ∧ Below w.heap.size w w' := by
  obtain ⟨a, cap, rfl, h1, h2, h3⟩ := h
  obtain ⟨a', cap', rfl, h1', h2', h3'⟩ := h'
  cases gs with
  | nil => exact eqGs_empty w a a' cap cap'
  | cons z zs =>
    obtain ⟨b, off, rfl, hb, hc⟩ := h3 (by simp)
    obtain ⟨b', off', rfl, hb', hc'⟩ := h3' (by simp)
    exact eqGs_some w b off cap b' off' cap' (z :: zs) (by simp) hm hb hb' hc hc'
end
end Go.Proofs.YtdbidlnkaplekaaDoor.Fr
/-
  LISTS OF ROWS: 'SlM w v m': in the world w the value v is a list of rows that holds the rows m. What measures such a list, copies it, and what holds two against each other.
-/
namespace Go.Proofs.YtdbidlnkaplekaaDoor.Fr
open Go.RowKit
set_option maxRecDepth 100000

def rAt (m : List (List (Int × Int))) (i : Nat) : List (Int × Int) := m[i]?.getD []
def Row (w : World) (b off : Nat) (r : List (Int × Int)) (i : Nat) : Prop := ∃ u, w.cell? ⟨b, off + i, none⟩ = some u ∧ SlG w u r
theorem Row.below {w w' : World} {b off i : Nat} {r : List (Int × Int)} (h : Row w b off r i) (hb : Below w.heap.size w w') : Row w' b off r i := by
  obtain ⟨u, hc, hS⟩ := h
  exact ⟨u, (hb.cell (p := ⟨b, _, none⟩) (World.block_lt_of_cell? w _ hc)).trans hc, hS.below hb⟩
def SlM (w : World) (v : Value) (m : List (List (Int × Int))) : Prop :=
  ∃ (a : Option Addr) (cap : Nat), v = .slice a m.length cap ∧ m.length ≤ cap ∧ cap ≤ 9223372036854775807 ∧
    (m ≠ [] → ∃ b off, a = some ⟨b, off, none⟩ ∧ b < w.heap.size ∧ ∀ i, i < m.length → Row w b off (rAt m i) i)
theorem SlM.below {w w' : World} {v : Value} {m : List (List (Int × Int))} (h : SlM w v m) (hb : Below w.heap.size w w') : SlM w' v m := by
  obtain ⟨a, cap, e, h1, h2, h3⟩ := h
  refine ⟨a, cap, e, h1, h2, fun hz => ?_⟩
  obtain ⟨b, off, e2, hlt, hc⟩ := h3 hz
  exact ⟨b, off, e2, Nat.lt_of_lt_of_le hlt hb.size, fun i hi => (hc i hi).below hb⟩
/-- how many fractions the first k rows have -/
def tot (m : List (List (Int × Int))) : Nat → Nat | 0 => 0 | k + 1 => tot m k + (rAt m k).length
theorem tot_mono (m : List (List (Int × Int))) {k n : Nat} (h : k ≤ n) : tot m k ≤ tot m n := by
  induction n with
  | zero => obtain rfl : k = 0 := by omega
            exact Nat.le_refl _
  | succ n ih =>
    by_cases e : k = n + 1
    · rw [e]; exact Nat.le_refl _
    · have := ih (by omega)
      rw [tot]
      omega
theorem row_le (m : List (List (Int × Int))) {k n : Nat} (h : k < n) : (rAt m k).length ≤ tot m n := by
  have := tot_mono m (show k + 1 ≤ n from h)
  rw [tot] at this
  omega
/-- a block that holds the first k rows, nothing behind -/
def HalfM (w : World) (B k : Nat) (m : List (List (Int × Int))) : Prop := ∀ i, i < m.length → if i < k then Row w B 0 (rAt m i) i else w.cell? ⟨B, i, none⟩ = some (.slice none 0 0)
theorem HalfM.below {w w' : World} {B k : Nat} {m : List (List (Int × Int))} (h : HalfM w B k m) (hb : Below w.heap.size w w') (hB : B < w.heap.size) : HalfM w' B k m := by
  intro i hi
  have := h i hi
  split
  · rename_i c
    rw [if_pos c] at this
    exact this.below hb
  · rename_i c
    rw [if_neg c] at this
    exact (hb.cell (p := ⟨B, i, none⟩) hB).trans this
/-- a list of fractions is as it was behind a store into a cell that holds a list -/
theorem SlG.setCell {w : World} {u : Value} {r : List (Int × Int)} {B o : Nat} {x : Value} {a0 : Option Addr} {l0 c0 : Nat} (h : SlG w u r) (hc0 : w.cell? ⟨B, o, none⟩ = some (.slice a0 l0 c0)) : SlG (w.setCell ⟨B, o, none⟩ x) u r := by
  obtain ⟨a, cap, e, h1, h2, h3⟩ := h
  refine ⟨a, cap, e, h1, h2, fun hz => ?_⟩
  obtain ⟨b, off, e2, hlt, hc⟩ := h3 hz
  refine ⟨b, off, e2, by simpa using hlt, fun i hi => ?_⟩
  have hi2 := hc i hi
  have hne : ∀ j (n : Int), w.cell? ⟨b, j, none⟩ = some (.int .i64 n) → (w.setCell ⟨B, o, none⟩ x).cell? ⟨b, j, none⟩ = some (.int .i64 n) := fun j n hj => by
    refine (World.cell?_setCell_other _ _ _ _ ?_).trans hj
    intro he
    rw [← he, hc0] at hj
    cases hj
  exact ⟨hne _ _ hi2.1, hne _ _ hi2.2⟩
theorem HalfM.set {w : World} {B k : Nat} {m : List (List (Int × Int))} {u : Value} (h : HalfM w B k m) (hk : k < m.length) (hu : SlG w u (rAt m k)) : HalfM (w.setCell ⟨B, k, none⟩ u) B (k + 1) m := by
  have hck := h k hk
  rw [if_neg (by omega)] at hck
  intro i hi
  have hi2 := h i hi
  by_cases e : i = k
  · subst e
    rw [if_pos (by omega)]
    refine ⟨u, ?_, hu.setCell hck⟩
    rw [Nat.zero_add]
    exact World.cell?_setCell_same _ _ _ hck
  · by_cases c : i < k
    · rw [if_pos c] at hi2
      rw [if_pos (by omega)]
      obtain ⟨v, hv, hS⟩ := hi2
      rw [Nat.zero_add] at hv
      refine ⟨v, ?_, hS.setCell hck⟩
      rw [Nat.zero_add]
      exact (World.cell?_setCell_other _ _ _ _ (by simp <;> omega)).trans hv
    · rw [if_neg c] at hi2
      rw [if_neg (by omega)]
      exact (World.cell?_setCell_other _ _ _ _ (by simp <;> omega)).trans hi2
theorem HalfM.done {w : World} {B cap : Nat} {m : List (List (Int × Int))} (h : HalfM w B m.length m) (hB : B < w.heap.size) (hc : m.length ≤ cap) (hm : cap ≤ 9223372036854775807) : SlM w (.slice (some ⟨B, 0, none⟩) m.length cap) m :=
  ⟨_, _, rfl, hc, hm, fun _ => ⟨B, 0, rfl, hB, fun i hi => by have := h i hi; rw [if_pos hi] at this; exact this⟩⟩
theorem info_row : (Tryd.prog.info? 51).map (fun i => (i.zero, i.size, i.bytes)) = some (some (.slice none 0 0), 1, 24) := by kernel_rfl
theorem madeM (w : World) (n B : Nat) (e : TypeId) (m : List (List (Int × Int))) (hB : B = w.heap.size) (hn : m.length = n) : HalfM (w.alloc (.cells (madeCells #[.slice none 0 0] (n * 1)) e)) B 0 m := by
  intro i hi
  subst hB
  rw [World.cell?_alloc_new, if_neg (by omega)]
  have h1 : i < n := by omega
  simp [madeCells, h1, Nat.mod_one]
section
variable (w : World)
theorem eqMs_empty (a a' : Option Addr) (cap cap' : Nat) :
    Calls Tryd.prog 10 #[.slice a 0 cap, .slice a' 0 cap'] w fun r w' => r = .returned (.bool true) ∧ Below w.heap.size w w' := by
  go_enter Tryd.func10, Tryd.ntmps10
  go_wp2
  go_loopw [5] (fun i wr => i = .int .i64 0 ∧ Below w.heap.size w wr) (fun _ _ => 0)
  case atStart => exact ⟨rfl, by (repeat (first | exact Below.refl _ _ | assumption | refine bchain (by assumption) ?_ | refine balloc ?_ _ | apply Below.drew | apply below_drewN | (refine Below.alloc ?_ (by (try simp) <;> omega) _) | (refine Below.setCell ?_ (by (try simp) <;> omega) _)))⟩
  case round =>
    obtain ⟨rfl, hb⟩ := hrel
    go_wp2
    go_ret
    exact ⟨rfl, hb⟩
set_option maxHeartbeats 1000000 in
theorem eqMs_some (b off cap b' off' cap' : Nat) (m : List (List (Int × Int))) (h1 : 0 < m.length) (hm : m.length ≤ 1048576) (hr : ∀ i, i < m.length → (rAt m i).length ≤ 1048576) (hb : b < w.heap.size) (hb' : b' < w.heap.size)
    (hc : ∀ i, i < m.length → Row w b off (rAt m i) i) (hc' : ∀ i, i < m.length → Row w b' off' (rAt m i) i) :
    Calls Tryd.prog 10 #[.slice (some ⟨b, off, none⟩) m.length cap, .slice (some ⟨b', off', none⟩) m.length cap'] w fun r w' => r = .returned (.bool true) ∧ Below w.heap.size w w' := by
  obtain ⟨n, hn⟩ : ∃ n, n = m.length := ⟨_, rfl⟩
  rw [← hn] at h1 hm hr ⊢
  replace hn := Lib.hid hn
  replace hc := Lib.hid hc
  replace hc' := Lib.hid hc'
  replace hr := Lib.hid hr
  go_enter Tryd.func10, Tryd.ntmps10
  go_wp2
  go_loopw [5] (fun i wr => ∃ k : Nat, k ≤ n ∧ i = .int .i64 k ∧ Below w.heap.size w wr) (fun i _ => n - (intOf i).toNat)
  case atStart => exact ⟨0, by omega, rfl, by (repeat (first | exact Below.refl _ _ | assumption | refine bchain (by assumption) ?_ | refine balloc ?_ _ | apply Below.drew | apply below_drewN | (refine Below.alloc ?_ (by (try simp) <;> omega) _) | (refine Below.setCell ?_ (by (try simp) <;> omega) _)))⟩
  case round =>
    obtain ⟨k, hk, rfl, hB⟩ := hrel
    by_cases hlt : k < n
    · obtain ⟨u, hu, hSu⟩ := hc.out k (by have := hn.out; omega)
      obtain ⟨u', hu', hSu'⟩ := hc'.out k (by have := hn.out; omega)
      have s0 : wr.cell? ⟨b, off + k, none⟩ = some u := (hB.cell (p := ⟨b, _, none⟩) hb).trans hu
      have s1 : wr.cell? ⟨b', off' + k, none⟩ = some u' := (hB.cell (p := ⟨b', _, none⟩) hb').trans hu'
      have hE := Lib.hid (eqGs_any wr.drew u u' (rAt m k) ((hSu.below hB).below (by (repeat (first | exact Below.refl _ _ | assumption | refine bchain (by assumption) ?_ | refine balloc ?_ _ | apply Below.drew | apply below_drewN | (refine Below.alloc ?_ (by (try simp) <;> omega) _) | (refine Below.setCell ?_ (by (try simp) <;> omega) _))))) ((hSu'.below hB).below (by (repeat (first | exact Below.refl _ _ | assumption | refine bchain (by assumption) ?_ | refine balloc ?_ _ | apply Below.drew | apply below_drewN | (refine Below.alloc ?_ (by (try simp) <;> omega) _) | (refine Below.setCell ?_ (by (try simp) <;> omega) _))))) (hr.out k hlt))
      obtain ⟨a2, c2, rfl, _⟩ := hSu
      obtain ⟨a3, c3, rfl, _⟩ := hSu'
      obtain ⟨l, hl2⟩ : ∃ l, (rAt m k).length = l := ⟨_, rfl⟩
      rw [hl2] at hE s0 s1
      have hk1 : (k : Int) < (n : Int) := by omega
      clear hu hu' hl2
      go_wp2
      go_still_tail 8, (by kernel_rfl)
      change wpList _ _ _ _ _ wr.drew
      go_wp2_with (go_at_call 26; refine (hE.out).mono ?_; rintro r3 w3 ⟨rfl, hb3⟩)
      go_roundw
      case rel => exact ⟨k + 1, by omega, by go_num, by (repeat (first | exact Below.refl _ _ | assumption | refine bchain (by assumption) ?_ | refine balloc ?_ _ | apply Below.drew | apply below_drewN | (refine Below.alloc ?_ (by (try simp) <;> omega) _) | (refine Below.setCell ?_ (by (try simp) <;> omega) _)))⟩
      case measure => simp [intOf]; omega
    · have hd := decide_eq_false (show ¬ ((k : Int) < (n : Int)) by omega)
      go_wp2
      go_ret
      exact ⟨rfl, hB⟩
theorem eqMs_any (u v : Value) (m : List (List (Int × Int))) (h : SlM w u m) (h' : SlM w v m) (hm : m.length ≤ 1048576) (hr : ∀ i, i < m.length → (rAt m i).length ≤ 1048576) :
    Calls Tryd.prog 10 #[u, v] w fun r w' => r = .returned (.bool true) ∧ Below w.heap.size w w' := by
  obtain ⟨a, cap, rfl, h1, h2, h3⟩ := h
  obtain ⟨a', cap', rfl, h1', h2', h3'⟩ := h'
  cases m with
  | nil => exact eqMs_empty w a a' cap cap'
  | cons z zs =>
    obtain ⟨b, off, rfl, hb, hc⟩ := h3 (by simp)
    obtain ⟨b', off', rfl, hb', hc'⟩ := h3' (by simp)
    exact eqMs_some w b off cap b' off' cap' (z :: zs) (by simp) hm hr hb hb' hc hc'
end
end Go.Proofs.YtdbidlnkaplekaaDoor.Fr
/-
  'limited': what a function that builds something returns, or, if it has thrown that a fraction is too large, ErrLimit.
-/
namespace Go.Proofs.YtdbidlnkaplekaaDoor.Fr
open Go.RowKit
set_option maxRecDepth 100000

end Go.Proofs.YtdbidlnkaplekaaDoor.Fr
namespace Go.Proofs.YtdbidlnkaplekaaDoor.Fr
open Go.RowKit
set_option maxRecDepth 100000
def addF (a b : Int × Int) : Option (Int × Int) := low (a.1 * b.2 + b.1 * a.2) (a.2 * b.2)
def subF (a b : Int × Int) : Option (Int × Int) := low (a.1 * b.2 - b.1 * a.2) (a.2 * b.2)
def mulF (a b : Int × Int) : Option (Int × Int) := low (a.1 * b.1) (a.2 * b.2)
def divF (a b : Int × Int) : Option (Int × Int) := low (a.1 * b.2) (a.2 * b.1)
def VP (a : Int × Int) : Prop := VF a.1 a.2
theorem VP.b1 {a : Int × Int} (h : VP a) : -1000000000 ≤ a.1 ∧ a.1 ≤ 1000000000 := ⟨h.2.2.1, h.2.2.2.1⟩
theorem VP.b2 {a : Int × Int} (h : VP a) : -1000000000 ≤ a.2 ∧ a.2 ≤ 1000000000 := ⟨by have := h.1; omega, h.2.1⟩
theorem VP.pos {a : Int × Int} (h : VP a) : 1 ≤ a.2 := h.1
theorem add_vp {a b x : Int × Int} (ha : VP a) (hb : VP b) (h : addF a b = some x) : VP x := low_vf (by have := mul_pos_b ha.pos hb.pos; omega) h
theorem sub_vp {a b x : Int × Int} (ha : VP a) (hb : VP b) (h : subF a b = some x) : VP x := low_vf (by have := mul_pos_b ha.pos hb.pos; omega) h
theorem mul_vp {a b x : Int × Int} (ha : VP a) (hb : VP b) (h : mulF a b = some x) : VP x := low_vf (by have := mul_pos_b ha.pos hb.pos; omega) h
theorem div_vp {a b x : Int × Int} (ha : VP a) (hb : b.1 ≠ 0) (h : divF a b = some x) : VP x := low_vf (Int.mul_ne_zero (by have := ha.pos; omega) hb) h
section
variable (w : World)

/-- a fraction with the other sign -/
def oppF (a : Int × Int) : Int × Int := (-a.1, a.2)
theorem opp_vp {a : Int × Int} (h : VP a) : VP (oppF a) := ⟨h.1, h.2.1, by have := h.2.2.2.1; simp [oppF]; omega, by have := h.2.2.1; simp [oppF]; omega, by show Int.gcd (-a.1) a.2 = 1; rw [Int.neg_gcd]; exact h.2.2.2.2⟩
theorem sub_opp (a b : Int × Int) : subF a b = addF a (oppF b) := by unfold subF addF oppF; dsimp only; rw [Int.neg_mul, Int.sub_eq_add_neg]
end
end Go.Proofs.YtdbidlnkaplekaaDoor.Fr
namespace Go.Proofs.YtdbidlnkaplekaaDoor.Fr
open Go.RowKit
set_option maxRecDepth 100000
theorem eqFr (W : World) (n m e f : Int) : (Op.equalIn 10000 53 (.agg #[.int .i64 n, .int .i64 e]) (.agg #[.int .i64 m, .int .i64 f])).run Tryd.prog W = .ok (n == m && e == f) W := by
  have u3 := Tryd.underlying2
  have hS : Tryd.prog.underlying 53 = some (.struct (Tryd.prog.fieldsOf 53)) := by kernel_rfl
  have hp : Tryd.prog.stoodInHeld 53 = false := by kernel_rfl
  rw [show (10000 : Nat) = 9999 + 1 from rfl, run_equalIn_agg W 9999 53 _ _ hS hp]
  simp only [Program.fieldsOf, Tryd.underlying53]
  go_simp
  by_cases h1 : n = m <;> by_cases h2 : e = f <;> simp [h1, h2]
/-- a zero value and a code -/
def cv (c : Int) : Value := .tuple #[.agg #[.int .i64 0, .int .i64 0], .int .i64 c]
section
variable (w : World)
end
end Go.Proofs.YtdbidlnkaplekaaDoor.Fr
namespace Go.Proofs.YtdbidlnkaplekaaDoor.Fr
open Go.RowKit
set_option maxRecDepth 100000
theorem gAt_ext {xs ys : List (Int × Int)} (hl : xs.length = ys.length) (h : ∀ i, i < xs.length → gAt xs i = gAt ys i) : xs = ys := by
  apply List.ext_getElem hl
  intro i h1 h2
  have := h i h1
  simpa [gAt, List.getElem?_eq_getElem h1, List.getElem?_eq_getElem h2] using this
theorem rAt_ext {m n : List (List (Int × Int))} (hl : m.length = n.length) (h : ∀ i, i < m.length → rAt m i = rAt n i) : m = n := by
  apply List.ext_getElem hl
  intro i h1 h2
  have := h i h1
  simpa [rAt, List.getElem?_eq_getElem h1, List.getElem?_eq_getElem h2] using this
section
variable (w : World)
end
end Go.Proofs.YtdbidlnkaplekaaDoor.Fr
namespace Go.Proofs.YtdbidlnkaplekaaDoor.Fr
open Go.RowKit
set_option maxRecDepth 100000
/-- the rows of a list, where they lie -/
def Rows (w : World) (a : Option Addr) (m : List (List (Int × Int))) : Prop := ∀ i, i < m.length → ∃ b off, a = some ⟨b, off, none⟩ ∧ b < w.heap.size ∧ Row w b off (rAt m i) i
theorem SlM.rows {w : World} {v : Value} {m : List (List (Int × Int))} (h : SlM w v m) : ∃ a cap, v = .slice a m.length cap ∧ Rows w a m := by
  obtain ⟨a, cap, e, _, _, h3⟩ := h
  refine ⟨a, cap, e, fun i hi => ?_⟩
  obtain ⟨b, off, e2, hlt, hc⟩ := h3 (by intro c; rw [c] at hi; simp at hi)
  exact ⟨b, off, e2, hlt, hc i hi⟩
section
variable (w : World)
end
end Go.Proofs.YtdbidlnkaplekaaDoor.Fr
namespace Go.Proofs.YtdbidlnkaplekaaDoor.Fr
open Go.RowKit
set_option maxRecDepth 100000
/-- the list lies in the world, each element where it is read -/
def Lies (w : World) (a : Option Addr) (gs : List (Int × Int)) : Prop := ∀ i, i < gs.length → ∃ b off, a = some ⟨b, off, none⟩ ∧ b < w.heap.size ∧ GCell w b off (gAt gs i) i
theorem SlG.lies {w : World} {v : Value} {gs : List (Int × Int)} (h : SlG w v gs) : ∃ a cap, v = .slice a gs.length cap ∧ Lies w a gs := by
  obtain ⟨a, cap, e, _, _, h3⟩ := h
  refine ⟨a, cap, e, fun i hi => ?_⟩
  obtain ⟨b, off, e2, hlt, hc⟩ := h3 (by intro c; rw [c] at hi; simp at hi)
  exact ⟨b, off, e2, hlt, hc i hi⟩
theorem Lies.below {w w' : World} {a : Option Addr} {gs : List (Int × Int)} (h : Lies w a gs) (hb : Below w.heap.size w w') : Lies w' a gs := fun i hi => by
  obtain ⟨b, off, e, hlt, hc⟩ := h i hi
  exact ⟨b, off, e, Nat.lt_of_lt_of_le hlt hb.size, (hb.cell (p := ⟨b, _, none⟩) hlt).trans hc.1, (hb.cell (p := ⟨b, _, none⟩) hlt).trans hc.2⟩
def AllV (gs : List (Int × Int)) : Prop := ∀ i, i < gs.length → VP (gAt gs i)
theorem not_allV {gs : List (Int × Int)} (h : ¬ AllV gs) : ∃ m, m < gs.length ∧ (∀ k, k < m → VP (gAt gs k)) ∧ ¬ VP (gAt gs m) := by
  have : ∀ m, m ≤ gs.length → (∀ k, k < m → VP (gAt gs k)) ∨ ∃ m', m' < gs.length ∧ (∀ k, k < m' → VP (gAt gs k)) ∧ ¬ VP (gAt gs m') := by
    intro m
    induction m with
    | zero => intro _; exact .inl (fun k hk => by omega)
    | succ m ih =>
      intro hm
      rcases ih (by omega) with h1 | h1
      · by_cases hf : VP (gAt gs m)
        · refine .inl (fun k hk => ?_)
          by_cases e : k = m
          · rw [e]; exact hf
          · exact h1 k (by omega)
        · exact .inr ⟨m, by omega, h1, hf⟩
      · exact .inr h1
  rcases this gs.length (Nat.le_refl _) with h1 | h1
  · exact absurd h1 h
  · exact h1
section
variable (w : World)

theorem av_t (a : Option Addr) (cap : Nat) (gs : List (Int × Int)) (hm : gs.length ≤ 1048576) (hc : Lies w a gs) (hV : AllV gs) :
    Calls Tryd.prog 42 #[.slice a gs.length cap] w fun r w' => r = .returned (.bool true) ∧ Below w.heap.size w w' := by
  obtain ⟨n, hn⟩ : ∃ n, n = gs.length := ⟨_, rfl⟩
  rw [← hn] at hm ⊢
  replace hc := Lib.hid hc
  replace hV := Lib.hid hV
  replace hn := Lib.hid hn
  go_enter Tryd.func42, Tryd.ntmps42
  go_wp2
  go_loopw [4, 7] (fun _ i wr => ∃ k : Nat, k ≤ n ∧ i = .int .i64 k ∧ Below w.heap.size w wr) (fun _ i _ => n - (intOf i).toNat)
  case atStart => exact ⟨0, by omega, rfl, by (repeat (first | exact Below.refl _ _ | assumption | refine bchain (by assumption) ?_ | refine balloc ?_ _ | apply Below.drew | apply below_drewN | (refine Below.alloc ?_ (by (try simp) <;> omega) _) | (refine Below.setCell ?_ (by (try simp) <;> omega) _)))⟩
  case round =>
    obtain ⟨k, hk, rfl, hB⟩ := hrel
    by_cases hlt : k < n
    · obtain ⟨b, off, rfl, hb, hg⟩ := hc.out k (by have := hn.out; omega)
      have hv : VP (gAt gs k) := hV.out k (by first | exact hlt | (have := hn.out; omega))
      obtain ⟨x, y, hxy⟩ : ∃ x y, gAt gs k = (x, y) := ⟨_, _, rfl⟩
      rw [hxy] at hv
      have s0 : wr.cell? ⟨b, off + k * 2, none⟩ = some (.int .i64 x) := by rw [hB.cell (p := ⟨b, _, none⟩) hb, hg.1, hxy]
      have s1 : wr.cell? ⟨b, off + k * 2 + 1, none⟩ = some (.int .i64 y) := by rw [hB.cell (p := ⟨b, _, none⟩) hb, hg.2, hxy]
      have hC := Lib.hid (fun W => vf_any W x y)
      rw [decide_eq_true (show VF x y from hv)] at hC
      have hkn : (k : Int) < (n : Int) := by omega
      clear hg hxy hv
      go_wp2_with fail
      refine (hC.out _).mono ?_
      rintro r3 w3 ⟨rfl, hb3⟩
      go_wp2
      go_roundw
      case rel => exact ⟨k + 1, by omega, by go_num, by (repeat (first | exact Below.refl _ _ | assumption | refine bchain (by assumption) ?_ | refine balloc ?_ _ | apply Below.drew | apply below_drewN | (refine Below.alloc ?_ (by (try simp) <;> omega) _) | (refine Below.setCell ?_ (by (try simp) <;> omega) _)))⟩
      case measure => simp [intOf]; omega
    · have hd := decide_eq_false (show ¬ ((k : Int) < (n : Int)) by omega)
      obtain rfl : k = n := by omega
      go_wp2
      go_ret
      exact ⟨rfl, hB⟩

theorem av_f (a : Option Addr) (cap : Nat) (gs : List (Int × Int)) (hm : gs.length ≤ 1048576) (hc : Lies w a gs) (m : Nat) (hm2 : m < gs.length) (hV : ∀ k, k < m → VP (gAt gs k)) (hbad : ¬ VP (gAt gs m)) :
    Calls Tryd.prog 42 #[.slice a gs.length cap] w fun r w' => r = .returned (.bool false) ∧ Below w.heap.size w w' := by
  obtain ⟨n, hn⟩ : ∃ n, n = gs.length := ⟨_, rfl⟩
  rw [← hn] at hm ⊢
  replace hc := Lib.hid hc
  replace hV := Lib.hid hV
  replace hn := Lib.hid hn
  rw [← hn.out] at hm2
  replace hbad := Lib.hid hbad
  go_enter Tryd.func42, Tryd.ntmps42
  go_wp2
  go_loopw [4, 7] (fun _ i wr => ∃ k : Nat, k ≤ m ∧ i = .int .i64 k ∧ Below w.heap.size w wr) (fun _ i _ => n - (intOf i).toNat)
  case atStart => exact ⟨0, by omega, rfl, by (repeat (first | exact Below.refl _ _ | assumption | refine bchain (by assumption) ?_ | refine balloc ?_ _ | apply Below.drew | apply below_drewN | (refine Below.alloc ?_ (by (try simp) <;> omega) _) | (refine Below.setCell ?_ (by (try simp) <;> omega) _)))⟩
  case round =>
    obtain ⟨k, hk, rfl, hB⟩ := hrel
    by_cases hlt : k < m
    · obtain ⟨b, off, rfl, hb, hg⟩ := hc.out k (by have := hn.out; omega)
      have hv : VP (gAt gs k) := hV.out k (by first | exact hlt | (have := hn.out; omega))
      obtain ⟨x, y, hxy⟩ : ∃ x y, gAt gs k = (x, y) := ⟨_, _, rfl⟩
      rw [hxy] at hv
      have s0 : wr.cell? ⟨b, off + k * 2, none⟩ = some (.int .i64 x) := by rw [hB.cell (p := ⟨b, _, none⟩) hb, hg.1, hxy]
      have s1 : wr.cell? ⟨b, off + k * 2 + 1, none⟩ = some (.int .i64 y) := by rw [hB.cell (p := ⟨b, _, none⟩) hb, hg.2, hxy]
      have hC := Lib.hid (fun W => vf_any W x y)
      rw [decide_eq_true (show VF x y from hv)] at hC
      have hkn : (k : Int) < (n : Int) := by omega
      clear hg hxy hv
      go_wp2_with fail
      refine (hC.out _).mono ?_
      rintro r3 w3 ⟨rfl, hb3⟩
      go_wp2
      go_roundw
      case rel => exact ⟨k + 1, by omega, by go_num, by (repeat (first | exact Below.refl _ _ | assumption | refine bchain (by assumption) ?_ | refine balloc ?_ _ | apply Below.drew | apply below_drewN | (refine Below.alloc ?_ (by (try simp) <;> omega) _) | (refine Below.setCell ?_ (by (try simp) <;> omega) _)))⟩
      case measure => simp [intOf]; omega
    · obtain rfl : k = m := by omega
      obtain ⟨b, off, rfl, hb, hg⟩ := hc.out k (by have := hn.out; omega)
      have hv := hbad.out
      obtain ⟨x, y, hxy⟩ : ∃ x y, gAt gs k = (x, y) := ⟨_, _, rfl⟩
      rw [hxy] at hv
      have s0 : wr.cell? ⟨b, off + k * 2, none⟩ = some (.int .i64 x) := by rw [hB.cell (p := ⟨b, _, none⟩) hb, hg.1, hxy]
      have s1 : wr.cell? ⟨b, off + k * 2 + 1, none⟩ = some (.int .i64 y) := by rw [hB.cell (p := ⟨b, _, none⟩) hb, hg.2, hxy]
      have hC := Lib.hid (fun W => vf_any W x y)
      rw [decide_eq_false (show ¬ VF x y from hv)] at hC
      have hkn : (k : Int) < (n : Int) := by omega
      clear hg hxy hv
      go_wp2_with fail
      refine (hC.out _).mono ?_
      rintro r3 w3 ⟨rfl, hb3⟩
      go_wp2
      go_ret
      exact ⟨rfl, by (repeat (first | exact Below.refl _ _ | assumption | refine bchain (by assumption) ?_ | refine balloc ?_ _ | apply Below.drew | apply below_drewN | (refine Below.alloc ?_ (by (try simp) <;> omega) _) | (refine Below.setCell ?_ (by (try simp) <;> omega) _)))⟩

/-- a list is valid: it is not too long, and all of its fractions are -/
def Vl (gs : List (Int × Int)) : Prop := gs.length ≤ 256 ∧ AllV gs
end
end Go.Proofs.YtdbidlnkaplekaaDoor.Fr
namespace Go.Proofs.YtdbidlnkaplekaaDoor.Fr
open Go.RowKit
set_option maxRecDepth 100000
/-- the first k rows are square and valid -/
def SqV (m : List (List (Int × Int))) (k : Nat) : Prop := ∀ i, i < k → (rAt m i).length = m.length ∧ AllV (rAt m i)
/-- what is before the row k, and before the place j of it, is the same as its mirror -/
def Sym (m : List (List (Int × Int))) (k j : Nat) : Prop := (∀ a b, a < k → b < a → gAt (rAt m a) b = gAt (rAt m b) a) ∧ ∀ b, b < j → gAt (rAt m k) b = gAt (rAt m b) k
def VM (m : List (List (Int × Int))) : Prop := m.length ≤ 8 ∧ SqV m m.length ∧ Sym m m.length 0
theorem SqV.succ {m : List (List (Int × Int))} {k : Nat} (h : SqV m k) (hk : (rAt m k).length = m.length ∧ AllV (rAt m k)) : SqV m (k + 1) := fun i hi => by
  by_cases e : i = k
  · rw [e]; exact hk
  · exact h i (by omega)
section
variable (w : World)
set_option maxHeartbeats 2000000 in
theorem ivm_any (v : Value) (m : List (List (Int × Int))) (hS : SlM w v m) (hm : m.length ≤ 1048576) (hr : ∀ i, i < m.length → (rAt m i).length ≤ 1048576) (B : Bool) (hBt : VM m → B = true) (hBf : ¬ VM m → B = false) :
    Calls Tryd.prog 25 #[v] w fun r w' => r = .returned (.bool B) ∧ Below w.heap.size w w' := by
  obtain ⟨a, cap, rfl, hR⟩ := hS.rows
  clear hS
  replace hBt := Lib.hid hBt
  replace hBf := Lib.hid hBf
  obtain ⟨l, hn⟩ : ∃ l, l = m.length := ⟨_, rfl⟩
  rw [← hn] at hm hr ⊢
  replace hR := Lib.hid hR
  replace hr := Lib.hid hr
  replace hn := Lib.hid hn
  by_cases h8 : l ≤ 8
  · have hd8 : decide ((8 : Int) < (l : Int)) = false := decide_eq_false (by omega)
    go_enter Tryd.func25, Tryd.ntmps25
    go_wp2
    go_loopw [4, 13] (fun _ i wr => ∃ k : Nat, k ≤ l ∧ i = .int .i64 k ∧ SqV m k ∧ Below w.heap.size w wr) (fun _ i _ => l - (intOf i).toNat)
    case atStart => exact ⟨0, by omega, rfl, fun j hj => by omega, by (repeat (first | exact Below.refl _ _ | assumption | refine bchain (by assumption) ?_ | refine balloc ?_ _ | apply Below.drew | apply below_drewN | (refine Below.alloc ?_ (by (try simp) <;> omega) _) | (refine Below.setCell ?_ (by (try simp) <;> omega) _)))⟩
    case round =>
      obtain ⟨k, hk, rfl, hsq, hB⟩ := hrel
      by_cases hlt : k < l
      · obtain ⟨b, off, rfl, hb, u, hu, hSu⟩ := hR.out k (by have := hn.out; omega)
        have s0 : wr.cell? ⟨b, off + k, none⟩ = some u := (hB.cell (p := ⟨b, _, none⟩) hb).trans hu
        have hrk := hr.out k hlt
        obtain ⟨a2, c2, rfl, hLi⟩ := (hSu.below hB).lies
        obtain ⟨l2, hl2⟩ : ∃ l2, (rAt m k).length = l2 := ⟨_, rfl⟩
        have hkn : (k : Int) < (l : Int) := by omega
        clear hu hSu
        replace hsq := Lib.hid hsq
        by_cases hlr : l2 = l
        · by_cases hV : AllV (rAt m k)
          · have hC := Lib.hid (av_t wr a2 c2 (rAt m k) hrk hLi hV)
            rw [hl2] at hC s0 hrk
            have hnx := Lib.hid (hsq.out.succ ⟨hl2.trans (hlr.trans hn.out), hV⟩)
            subst hlr
            clear hV hl2
            go_wp2_with fail
            refine hC.out.mono ?_
            rintro r3 w3 ⟨rfl, hb3⟩
            go_wp2
            go_roundw
            case rel => exact ⟨k + 1, by omega, by go_num, hnx.out, by (repeat (first | exact Below.refl _ _ | assumption | refine bchain (by assumption) ?_ | refine balloc ?_ _ | apply Below.drew | apply below_drewN | (refine Below.alloc ?_ (by (try simp) <;> omega) _) | (refine Below.setCell ?_ (by (try simp) <;> omega) _)))⟩
            case measure => simp [intOf]; omega
          · obtain ⟨mm, h1, h2, h3⟩ := not_allV hV
            have hC := Lib.hid (av_f wr a2 c2 (rAt m k) hrk hLi mm h1 h2 h3)
            rw [hl2] at hC s0 hrk
            obtain rfl : B = false := hBf.out (fun c => hV (c.2.1 k (by have := hn.out; omega)).2)
            subst hlr
            clear hV hl2 hBt hBf h1 h2 h3
            go_wp2_with fail
            refine hC.out.mono ?_
            rintro r3 w3 ⟨rfl, hb3⟩
            go_wp2
            go_ret
            exact ⟨rfl, by (repeat (first | exact Below.refl _ _ | assumption | refine bchain (by assumption) ?_ | refine balloc ?_ _ | apply Below.drew | apply below_drewN | (refine Below.alloc ?_ (by (try simp) <;> omega) _) | (refine Below.setCell ?_ (by (try simp) <;> omega) _)))⟩
        · rw [hl2] at s0
          obtain rfl : B = false := hBf.out (fun c => hlr (by rw [← hl2, (c.2.1 k (by have := hn.out; omega)).1, hn.out]))
          have hne2 : ((l2 : Int) != (l : Int)) = true := by simp; omega
          clear hBt hBf hl2 hlr hLi
          go_wp2
          go_ret
          exact ⟨rfl, by (repeat (first | exact Below.refl _ _ | assumption | refine bchain (by assumption) ?_ | refine balloc ?_ _ | apply Below.drew | apply below_drewN | (refine Below.alloc ?_ (by (try simp) <;> omega) _) | (refine Below.setCell ?_ (by (try simp) <;> omega) _)))⟩
      · have hd := decide_eq_false (show ¬ ((k : Int) < (l : Int)) by omega)
        obtain rfl : l = k := by omega
        replace hsq := Lib.hid hsq
        go_wp2
        go_loopw [5, 6, 7, 30] (fun _ _ _ i wr2 => ∃ k : Nat, k ≤ l ∧ i = .int .i64 k ∧ Sym m k 0 ∧ Below w.heap.size w wr2) (fun _ _ _ i _ => l - (intOf i).toNat)
        case atStart => exact ⟨0, by omega, rfl, ⟨fun a b h => by omega, fun b h => by omega⟩, by (repeat (first | exact Below.refl _ _ | assumption | refine bchain (by assumption) ?_ | refine balloc ?_ _ | apply Below.drew | apply below_drewN | (refine Below.alloc ?_ (by (try simp) <;> omega) _) | (refine Below.setCell ?_ (by (try simp) <;> omega) _)))⟩
        case round =>
          obtain ⟨k, hk2, rfl, hsy, hB2⟩ := hrel
          clear hlt hd hk
          by_cases hlt : k < l
          · obtain ⟨b, off, rfl, hb, u, hu, hSu⟩ := hR.out k (by have := hn.out; omega)
            have s0 : wr.cell? ⟨b, off + k, none⟩ = some u := (hB2.cell (p := ⟨b, _, none⟩) hb).trans hu
            have hlk : (rAt m k).length = l := (hsq.out k hlt).1.trans hn.out.symm
            obtain ⟨a2, c2, rfl, hu1, hu2, hu3⟩ := hSu
            obtain ⟨b2, off2, rfl, hb2, hg⟩ := hu3 (by intro c; rw [c] at hlk; simp at hlk; omega)
            rw [hlk] at hu1 s0
            have hg2 := Lib.hid (fun i (hi : i < l) => hg i (by rw [hlk]; exact hi))
            have hkn : (k : Int) < (l : Int) := by omega
            have hkn0 : (0 : Int) ≤ (k : Int) := by omega
            clear hu hg hu3
            replace hsy := Lib.hid hsy
            replace hlk := Lib.hid hlk
            go_wp2
            go_loopw [7, 36] (fun _ i wr3 => ∃ j : Nat, j ≤ k ∧ i = .int .i64 j ∧ Sym m k j ∧ Below w.heap.size w wr3) (fun _ i _ => k - (intOf i).toNat)
            case atStart => exact ⟨0, by omega, rfl, hsy.out, by (repeat (first | exact Below.refl _ _ | assumption | refine bchain (by assumption) ?_ | refine balloc ?_ _ | apply Below.drew | apply below_drewN | (refine Below.alloc ?_ (by (try simp) <;> omega) _) | (refine Below.setCell ?_ (by (try simp) <;> omega) _)))⟩
            case round =>
              obtain ⟨j, hj, rfl, hsj, hB3⟩ := hrel
              by_cases hjl : j < k
              · obtain ⟨b', off', e', hb', u', hu', hSu'⟩ := hR.out j (by have := hn.out; omega)
                cases e'
                have s1 : wr.cell? ⟨b, off + j, none⟩ = some u' := (hB3.cell (p := ⟨b, _, none⟩) hb).trans hu'
                have hlj : (rAt m j).length = l := (hsq.out j (by omega)).1.trans hn.out.symm
                obtain ⟨a3, c3, rfl, hv1, hv2, hv3⟩ := hSu'
                obtain ⟨b3, off3, rfl, hb3, hg'⟩ := hv3 (by intro c; rw [c] at hlj; simp at hlj; omega)
                rw [hlj] at hv1 s1
                have hgk := hg' k (by rw [hlj]; omega)
                have hgj := hg2.out j (by omega)
                obtain ⟨x, y, hxy⟩ : ∃ x y, gAt (rAt m k) j = (x, y) := ⟨_, _, rfl⟩
                obtain ⟨x', y', hxy'⟩ : ∃ x y, gAt (rAt m j) k = (x, y) := ⟨_, _, rfl⟩
                have e0 : wr.cell? ⟨b2, off2 + j * 2, none⟩ = some (.int .i64 x) := by rw [hB3.cell (p := ⟨b2, _, none⟩) hb2, hgj.1, hxy]
                have e1 : wr.cell? ⟨b2, off2 + j * 2 + 1, none⟩ = some (.int .i64 y) := by rw [hB3.cell (p := ⟨b2, _, none⟩) hb2, hgj.2, hxy]
                have e2 : wr.cell? ⟨b3, off3 + k * 2, none⟩ = some (.int .i64 x') := by rw [hB3.cell (p := ⟨b3, _, none⟩) hb3, hgk.1, hxy']
                have e3 : wr.cell? ⟨b3, off3 + k * 2 + 1, none⟩ = some (.int .i64 y') := by rw [hB3.cell (p := ⟨b3, _, none⟩) hb3, hgk.2, hxy']
                have hjn : (j : Int) < (k : Int) := by omega
                have hjn2 : (j : Int) < (l : Int) := by omega
                have hjn0 : (0 : Int) ≤ (j : Int) := by omega
                clear hg' hgk hgj hu' hv3
                replace hsj := Lib.hid hsj
                replace hlj := Lib.hid hlj
                by_cases he : x = x' ∧ y = y'
                · obtain ⟨rfl, rfl⟩ := he
                  have hq : ∀ W, (Op.equalIn 10000 53 (.agg #[.int .i64 x, .int .i64 y]) (.agg #[.int .i64 x, .int .i64 y])).run Tryd.prog W = .ok true W := fun W => by rw [eqFr]; simp
                  have hne := Lib.hid (hxy.trans hxy'.symm)
                  clear hxy hxy'
                  go_wp2
                  go_region_held3 (fun W => W.cell? ⟨b2, off2 + j * 2, none⟩ = some (.int .i64 x) ∧ W.cell? ⟨b2, off2 + j * 2 + 1, none⟩ = some (.int .i64 y) ∧ W.cell? ⟨b, off + j, none⟩ = some (.slice (some ⟨b3, off3, none⟩) l c3) ∧ W.cell? ⟨b3, off3 + k * 2, none⟩ = some (.int .i64 x) ∧ W.cell? ⟨b3, off3 + k * 2 + 1, none⟩ = some (.int .i64 y))
                    (exact ⟨e0, e1, s1, e2, e3⟩) (fail)
                  go_wp2
                  go_roundw
                  case rel => exact ⟨j + 1, by omega, by go_num, ⟨hsj.out.1, fun i hi => by
                    by_cases e : i = j
                    · rw [e]; exact hne.out
                    · exact hsj.out.2 i (by omega)⟩, by (repeat (first | exact Below.refl _ _ | assumption | refine bchain (by assumption) ?_ | refine balloc ?_ _ | apply Below.drew | apply below_drewN | (refine Below.alloc ?_ (by (try simp) <;> omega) _) | (refine Below.setCell ?_ (by (try simp) <;> omega) _)))⟩
                  case measure => simp [intOf]; omega
                · have hq : ∀ W, (Op.equalIn 10000 53 (.agg #[.int .i64 x, .int .i64 y]) (.agg #[.int .i64 x', .int .i64 y'])).run Tryd.prog W = .ok false W := fun W => by
                    rw [eqFr]
                    have : (x == x' && y == y') = false := by
                      rw [Bool.eq_false_iff]
                      intro h
                      simp at h
                      exact he h
                    rw [this]
                  obtain rfl : B = false := hBf.out (fun c => he (by have h := c.2.2.1 k j (by have := hn.out; omega) hjl; rw [hxy, hxy'] at h; cases h; exact ⟨rfl, rfl⟩))
                  clear he hxy hxy' hBt hBf
                  go_wp2
                  go_region_held3 (fun W => W.cell? ⟨b2, off2 + j * 2, none⟩ = some (.int .i64 x) ∧ W.cell? ⟨b2, off2 + j * 2 + 1, none⟩ = some (.int .i64 y) ∧ W.cell? ⟨b, off + j, none⟩ = some (.slice (some ⟨b3, off3, none⟩) l c3) ∧ W.cell? ⟨b3, off3 + k * 2, none⟩ = some (.int .i64 x') ∧ W.cell? ⟨b3, off3 + k * 2 + 1, none⟩ = some (.int .i64 y'))
                    (exact ⟨e0, e1, s1, e2, e3⟩) (fail)
                  go_wp2
                  go_ret
                  exact ⟨rfl, by (repeat (first | exact Below.refl _ _ | assumption | refine bchain (by assumption) ?_ | refine balloc ?_ _ | apply Below.drew | apply below_drewN | (refine Below.alloc ?_ (by (try simp) <;> omega) _) | (refine Below.setCell ?_ (by (try simp) <;> omega) _)))⟩
              · have hd := decide_eq_false (show ¬ ((j : Int) < (k : Int)) by omega)
                obtain rfl : j = k := by omega
                have hsn : Sym m (j + 1) 0 := ⟨fun a b h1 h2 => by
                  by_cases e : a = j
                  · subst e; exact hsj.2 b h2
                  · exact hsj.1 a b (by omega) h2, fun b h => by omega⟩
                replace hsn := Lib.hid hsn
                clear hsj
                go_wp2
                go_roundw
                case rel => exact ⟨j + 1, by omega, by go_num, hsn.out, by (repeat (first | exact Below.refl _ _ | assumption | refine bchain (by assumption) ?_ | refine balloc ?_ _ | apply Below.drew | apply below_drewN | (refine Below.alloc ?_ (by (try simp) <;> omega) _) | (refine Below.setCell ?_ (by (try simp) <;> omega) _)))⟩
                case measure => simp [intOf]; omega
          · have hd := decide_eq_false (show ¬ ((k : Int) < (l : Int)) by omega)
            obtain rfl : l = k := by omega
            obtain rfl : B = true := hBt.out ⟨by have := hn.out; omega, by rw [← hn.out]; exact hsq.out, by rw [← hn.out]; exact hsy⟩
            clear hsy hBt hBf
            go_wp2
            go_ret
            exact ⟨rfl, hB2⟩
  · have hd8 : decide ((8 : Int) < (l : Int)) = true := decide_eq_true (by omega)
    obtain rfl : B = false := hBf.out (fun c => h8 (by rw [hn.out]; exact c.1))
    clear hBt hBf
    go_enter Tryd.func25, Tryd.ntmps25
    go_wp2
    go_ret
    exact ⟨rfl, by (repeat (first | exact Below.refl _ _ | assumption | refine bchain (by assumption) ?_ | refine balloc ?_ _ | apply Below.drew | apply below_drewN | (refine Below.alloc ?_ (by (try simp) <;> omega) _) | (refine Below.setCell ?_ (by (try simp) <;> omega) _)))⟩
end
end Go.Proofs.YtdbidlnkaplekaaDoor.Fr
/-
  WHICH MATRICES ARE VALID: the model's contract.
-/
namespace Go.Proofs.YtdbidlnkaplekaaDoor.Fr
open Go.RowKit
set_option maxRecDepth 100000

/-- the place at a, b is valid, and the same as its mirror -/
def Pl (m : List (List (Int × Int))) (a b : Nat) : Prop := VP (gAt (rAt m a) b) ∧ gAt (rAt m a) b = gAt (rAt m b) a
theorem VM.pl {m : List (List (Int × Int))} (h : VM m) {a b : Nat} (ha : a < m.length) (hb : b < m.length) : Pl m a b := by
  refine ⟨(h.2.1 a ha).2 b (by rw [(h.2.1 a ha).1]; exact hb), ?_⟩
  rcases Nat.lt_trichotomy a b with c | c | c
  · exact (h.2.2.1 b a hb c).symm
  · rw [c]
  · exact h.2.2.1 a b ha c
/-- a world whose old blocks are as they were -/
structure BW (w : World) where
  W : World
  h : Below w.heap.size w W
instance (w : World) : Nonempty (BW w) := ⟨⟨w, Below.refl _ _⟩⟩
/-- A REGION THAT READS, WITH CALLEES THAT MAKE NEW BLOCKS ALONE: one walk in the text's order. -/
theorem wp_region_below {P : Program} {id : Nat} {Q : Exit → Act → World → Prop} {a : Act} {w : World} {l : List Oper} (hm : P.follows .mixedOrders = true) (hB : Region.lexB .any l.toArray = true)
    (h : wpQuiet P l.toArray (fun w' => ∃ p : BW w, w' = p.W) (fun a' => ∀ w', (∃ p : BW w, w' = p.W) → Q .normal a' w') l a) : (Code.region id l.toArray true).wp P Q a w :=
  wp_region_quiet (C := fun w' => ∃ p : BW w, w' = p.W) hm hB ⟨⟨_, (Below.refl _ w).drew⟩, rfl⟩ (by simpa using h)
theorem bw_of {P : Program} {f : FuncId} {args : Array Value} {w : World} {p : BW w} {v : Value} (h : Calls P f args p.W fun e w' => e = .returned v ∧ Below p.W.heap.size p.W w') : Calls P f args p.W fun e w' => e = .returned v ∧ ∃ q : BW w, w' = q.W :=
  h.mono fun _ w' ⟨he, hb⟩ => ⟨he, ⟨w', p.h.trans (hb.mono p.h.size)⟩, rfl⟩
theorem bw_cell {w : World} {B o : Nat} {v : Value} (hz : B < w.heap.size) (hc : w.cell? ⟨B, o, none⟩ = some v) (p : BW w) : p.W.cell? ⟨B, o, none⟩ = some v := old_cell hz hc p.h
section
variable (w : World)
set_option maxHeartbeats 4000000 in
theorem svm_any (v : Value) (m : List (List (Int × Int))) (hS : SlM w v m) (hm : m.length ≤ 1048576) (hr : ∀ i, i < m.length → (rAt m i).length ≤ 1048576) (B : Bool) (hBt : VM m → B = true) (hBf : ¬ VM m → B = false) :
    Calls Tryd.prog 22 #[v] w fun r w' => r = .returned (.bool B) ∧ Below w.heap.size w w' := by
  obtain ⟨a, cap, rfl, hR⟩ := hS.rows
  clear hS
  replace hBt := Lib.hid hBt
  replace hBf := Lib.hid hBf
  obtain ⟨l, hn⟩ : ∃ l, l = m.length := ⟨_, rfl⟩
  rw [← hn] at hm hr ⊢
  replace hR := Lib.hid hR
  replace hr := Lib.hid hr
  replace hn := Lib.hid hn
  by_cases h8 : l ≤ 8
  · have hd8 : decide ((8 : Int) < (l : Int)) = false := decide_eq_false (by omega)
    go_enter Tryd.func22, Tryd.ntmps22
    go_wp2
    go_loopw [3] (fun i wr => ∃ k : Nat, k ≤ l ∧ i = .int .i64 k ∧ (∀ j, j < k → (rAt m j).length = l) ∧ Below w.heap.size w wr) (fun i _ => l - (intOf i).toNat)
    case atStart => exact ⟨0, by omega, rfl, fun j hj => by omega, by (repeat (first | exact Below.refl _ _ | assumption | refine bchain (by assumption) ?_ | refine balloc ?_ _ | apply Below.drew | apply below_drewN | (refine Below.alloc ?_ (by (try simp) <;> omega) _) | (refine Below.setCell ?_ (by (try simp) <;> omega) _)))⟩
    case round =>
      obtain ⟨k, hk, rfl, hsq, hB⟩ := hrel
      by_cases hlt : k < l
      · obtain ⟨b, off, rfl, hb, u, hu, hSu⟩ := hR.out k (by have := hn.out; omega)
        have s0 : wr.cell? ⟨b, off + k, none⟩ = some u := (hB.cell (p := ⟨b, _, none⟩) hb).trans hu
        have hrk := hr.out k hlt
        obtain ⟨a2, c2, rfl, _⟩ := hSu
        obtain ⟨l2, hl2⟩ : ∃ l2, (rAt m k).length = l2 := ⟨_, rfl⟩
        have hkn : (k : Int) < (l : Int) := by omega
        rw [hl2] at s0 hrk
        clear hu
        replace hsq := Lib.hid hsq
        by_cases hlr : l2 = l
        · subst hlr
          have hnx := Lib.hid (show ∀ j, j < k + 1 → (rAt m j).length = l2 from fun j hj => by
            by_cases e : j = k
            · rw [e]; exact hl2
            · exact hsq.out j (by omega))
          clear hl2
          go_wp2
          go_roundw
          case rel => exact ⟨k + 1, by omega, by go_num, hnx.out, by (repeat (first | exact Below.refl _ _ | assumption | refine bchain (by assumption) ?_ | refine balloc ?_ _ | apply Below.drew | apply below_drewN | (refine Below.alloc ?_ (by (try simp) <;> omega) _) | (refine Below.setCell ?_ (by (try simp) <;> omega) _)))⟩
          case measure => simp [intOf]; omega
        · obtain rfl : B = false := hBf.out (fun c => hlr (by rw [← hl2, (c.2.1 k (by have := hn.out; omega)).1, hn.out]))
          have hne2 : ((l2 : Int) != (l : Int)) = true := by simp; omega
          clear hBt hBf hl2 hlr
          go_wp2
          go_ret
          exact ⟨rfl, by (repeat (first | exact Below.refl _ _ | assumption | refine bchain (by assumption) ?_ | refine balloc ?_ _ | apply Below.drew | apply below_drewN | (refine Below.alloc ?_ (by (try simp) <;> omega) _) | (refine Below.setCell ?_ (by (try simp) <;> omega) _)))⟩
      · have hd := decide_eq_false (show ¬ ((k : Int) < (l : Int)) by omega)
        obtain rfl : l = k := by omega
        replace hsq := Lib.hid hsq
        go_wp2
        go_loopw [4, 5] (fun i _ wr2 => ∃ k : Nat, k ≤ l ∧ i = .int .i64 k ∧ (∀ a b, a < k → b < l → Pl m a b) ∧ Below w.heap.size w wr2) (fun i _ _ => l - (intOf i).toNat)
        case atStart => exact ⟨0, by omega, rfl, fun a b h => by omega, by (repeat (first | exact Below.refl _ _ | assumption | refine bchain (by assumption) ?_ | refine balloc ?_ _ | apply Below.drew | apply below_drewN | (refine Below.alloc ?_ (by (try simp) <;> omega) _) | (refine Below.setCell ?_ (by (try simp) <;> omega) _)))⟩
        case round =>
          obtain ⟨k, hk2, rfl, hsy, hB2⟩ := hrel
          clear hlt hd hk
          by_cases hlt : k < l
          · obtain ⟨b, off, rfl, hb, u, hu, hSu⟩ := hR.out k (by have := hn.out; omega)
            have hlk : (rAt m k).length = l := hsq.out k hlt
            obtain ⟨a2, c2, rfl, hu1, hu2, hu3⟩ := hSu
            obtain ⟨b2, off2, rfl, hb2, hg⟩ := hu3 (by intro c; rw [c] at hlk; simp at hlk; omega)
            rw [hlk] at hu1 hu
            have hg2 := Lib.hid (fun i (hi : i < l) => hg i (by rw [hlk]; exact hi))
            have hkn : (k : Int) < (l : Int) := by omega
            have hkn0 : (0 : Int) ≤ (k : Int) := by omega
            clear hg hu3
            replace hu := Lib.hid hu
            replace hsy := Lib.hid hsy
            replace hlk := Lib.hid hlk
            go_wp2
            go_loopw [5] (fun i wr3 => ∃ j : Nat, j ≤ l ∧ i = .int .i64 j ∧ (∀ b, b < j → Pl m k b) ∧ Below w.heap.size w wr3) (fun i _ => l - (intOf i).toNat)
            case atStart => exact ⟨0, by omega, rfl, fun b h => by omega, by (repeat (first | exact Below.refl _ _ | assumption | refine bchain (by assumption) ?_ | refine balloc ?_ _ | apply Below.drew | apply below_drewN | (refine Below.alloc ?_ (by (try simp) <;> omega) _) | (refine Below.setCell ?_ (by (try simp) <;> omega) _)))⟩
            case round =>
              obtain ⟨j, hj, rfl, hsj, hB3⟩ := hrel
              by_cases hjl : j < l
              · obtain ⟨b', off', e', hb', u', hu', hSu'⟩ := hR.out j (by have := hn.out; omega)
                cases e'
                have s0 : wr.cell? ⟨b, off + k, none⟩ = some (.slice (some ⟨b2, off2, none⟩) l c2) := (hB3.cell (p := ⟨b, _, none⟩) hb).trans hu.out
                have s1 : wr.cell? ⟨b, off + j, none⟩ = some u' := (hB3.cell (p := ⟨b, _, none⟩) hb).trans hu'
                have hlj : (rAt m j).length = l := hsq.out j (by omega)
                obtain ⟨a3, c3, rfl, hv1, hv2, hv3⟩ := hSu'
                obtain ⟨b3, off3, rfl, hb3, hg'⟩ := hv3 (by intro c; rw [c] at hlj; simp at hlj; omega)
                rw [hlj] at hv1 s1
                have hgk := hg' k (by rw [hlj]; omega)
                have hgj := hg2.out j (by omega)
                obtain ⟨x, y, hxy⟩ : ∃ x y, gAt (rAt m k) j = (x, y) := ⟨_, _, rfl⟩
                obtain ⟨x', y', hxy'⟩ : ∃ x y, gAt (rAt m j) k = (x, y) := ⟨_, _, rfl⟩
                have e0 : wr.cell? ⟨b2, off2 + j * 2, none⟩ = some (.int .i64 x) := by rw [hB3.cell (p := ⟨b2, _, none⟩) hb2, hgj.1, hxy]
                have e1 : wr.cell? ⟨b2, off2 + j * 2 + 1, none⟩ = some (.int .i64 y) := by rw [hB3.cell (p := ⟨b2, _, none⟩) hb2, hgj.2, hxy]
                have e2 : wr.cell? ⟨b3, off3 + k * 2, none⟩ = some (.int .i64 x') := by rw [hB3.cell (p := ⟨b3, _, none⟩) hb3, hgk.1, hxy']
                have e3 : wr.cell? ⟨b3, off3 + k * 2 + 1, none⟩ = some (.int .i64 y') := by rw [hB3.cell (p := ⟨b3, _, none⟩) hb3, hgk.2, hxy']
                have zb : b < wr.heap.size := Nat.lt_of_lt_of_le hb hB3.size
                have zb2 : b2 < wr.heap.size := Nat.lt_of_lt_of_le hb2 hB3.size
                have zb3 : b3 < wr.heap.size := Nat.lt_of_lt_of_le hb3 hB3.size
                have hjn2 : (j : Int) < (l : Int) := by omega
                have hjn0 : (0 : Int) ≤ (j : Int) := by omega
                have hC := Lib.hid (fun W => ok_any W x y)
                clear hg' hgk hgj hu' hv3
                replace hsj := Lib.hid hsj
                replace hlj := Lib.hid hlj
                by_cases hok : VF x y
                · rw [decide_eq_true hok] at hC
                  by_cases he : x = x' ∧ y = y'
                  · obtain ⟨rfl, rfl⟩ := he
                    have hq : ∀ W, (Op.equalIn 10000 53 (.agg #[.int .i64 x, .int .i64 y]) (.agg #[.int .i64 x, .int .i64 y])).run Tryd.prog W = .ok true W := fun W => by rw [eqFr]; simp
                    have hne := Lib.hid (show Pl m k j from ⟨by rw [hxy]; exact hok, hxy.trans hxy'.symm⟩)
                    clear hxy hxy' hok
                    go_wp2
                    go_region_held3 (fun W => W.cell? ⟨b, off + k, none⟩ = some (.slice (some ⟨b2, off2, none⟩) l c2) ∧ W.cell? ⟨b2, off2 + j * 2, none⟩ = some (.int .i64 x) ∧ W.cell? ⟨b2, off2 + j * 2 + 1, none⟩ = some (.int .i64 y) ∧ W.cell? ⟨b, off + j, none⟩ = some (.slice (some ⟨b3, off3, none⟩) l c3) ∧ W.cell? ⟨b3, off3 + k * 2, none⟩ = some (.int .i64 x) ∧ W.cell? ⟨b3, off3 + k * 2 + 1, none⟩ = some (.int .i64 y))
                      (exact ⟨old_cell zb s0 (by (repeat (first | exact Below.refl _ _ | assumption | refine bchain (by assumption) ?_ | refine balloc ?_ _ | apply Below.drew | apply below_drewN | (refine Below.alloc ?_ (by (try simp) <;> omega) _) | (refine Below.setCell ?_ (by (try simp) <;> omega) _)))), old_cell zb2 e0 (by (repeat (first | exact Below.refl _ _ | assumption | refine bchain (by assumption) ?_ | refine balloc ?_ _ | apply Below.drew | apply below_drewN | (refine Below.alloc ?_ (by (try simp) <;> omega) _) | (refine Below.setCell ?_ (by (try simp) <;> omega) _)))), old_cell zb2 e1 (by (repeat (first | exact Below.refl _ _ | assumption | refine bchain (by assumption) ?_ | refine balloc ?_ _ | apply Below.drew | apply below_drewN | (refine Below.alloc ?_ (by (try simp) <;> omega) _) | (refine Below.setCell ?_ (by (try simp) <;> omega) _)))), old_cell zb s1 (by (repeat (first | exact Below.refl _ _ | assumption | refine bchain (by assumption) ?_ | refine balloc ?_ _ | apply Below.drew | apply below_drewN | (refine Below.alloc ?_ (by (try simp) <;> omega) _) | (refine Below.setCell ?_ (by (try simp) <;> omega) _)))), old_cell zb3 e2 (by (repeat (first | exact Below.refl _ _ | assumption | refine bchain (by assumption) ?_ | refine balloc ?_ _ | apply Below.drew | apply below_drewN | (refine Below.alloc ?_ (by (try simp) <;> omega) _) | (refine Below.setCell ?_ (by (try simp) <;> omega) _)))), old_cell zb3 e3 (by (repeat (first | exact Below.refl _ _ | assumption | refine bchain (by assumption) ?_ | refine balloc ?_ _ | apply Below.drew | apply below_drewN | (refine Below.alloc ?_ (by (try simp) <;> omega) _) | (refine Below.setCell ?_ (by (try simp) <;> omega) _))))⟩)
                      (first | (go_at_call 35; refine (hC.out _).mono ?_; rintro r w3 ⟨rfl, hb3⟩))
                    go_wp2
                    go_roundw
                    case rel => exact ⟨j + 1, by omega, by go_num, fun i hi => by
                      by_cases e : i = j
                      · rw [e]; exact hne.out
                      · exact hsj.out i (by omega), by (repeat (first | exact Below.refl _ _ | assumption | refine bchain (by assumption) ?_ | refine balloc ?_ _ | apply Below.drew | apply below_drewN | (refine Below.alloc ?_ (by (try simp) <;> omega) _) | (refine Below.setCell ?_ (by (try simp) <;> omega) _)))⟩
                    case measure => simp [intOf]; omega
                  · have hq : ∀ W, (Op.equalIn 10000 53 (.agg #[.int .i64 x, .int .i64 y]) (.agg #[.int .i64 x', .int .i64 y'])).run Tryd.prog W = .ok false W := fun W => by
                      rw [eqFr]
                      have : (x == x' && y == y') = false := by
                        rw [Bool.eq_false_iff]
                        intro h
                        simp at h
                        exact he h
                      rw [this]
                    obtain rfl : B = false := hBf.out (fun c => he (by have h := (c.pl (a := k) (b := j) (by have := hn.out; omega) (by have := hn.out; omega)).2; rw [hxy, hxy'] at h; cases h; exact ⟨rfl, rfl⟩))
                    clear he hxy hxy' hBt hBf hok
                    go_wp2
                    go_region_held3 (fun W => W.cell? ⟨b, off + k, none⟩ = some (.slice (some ⟨b2, off2, none⟩) l c2) ∧ W.cell? ⟨b2, off2 + j * 2, none⟩ = some (.int .i64 x) ∧ W.cell? ⟨b2, off2 + j * 2 + 1, none⟩ = some (.int .i64 y) ∧ W.cell? ⟨b, off + j, none⟩ = some (.slice (some ⟨b3, off3, none⟩) l c3) ∧ W.cell? ⟨b3, off3 + k * 2, none⟩ = some (.int .i64 x') ∧ W.cell? ⟨b3, off3 + k * 2 + 1, none⟩ = some (.int .i64 y'))
                      (exact ⟨old_cell zb s0 (by (repeat (first | exact Below.refl _ _ | assumption | refine bchain (by assumption) ?_ | refine balloc ?_ _ | apply Below.drew | apply below_drewN | (refine Below.alloc ?_ (by (try simp) <;> omega) _) | (refine Below.setCell ?_ (by (try simp) <;> omega) _)))), old_cell zb2 e0 (by (repeat (first | exact Below.refl _ _ | assumption | refine bchain (by assumption) ?_ | refine balloc ?_ _ | apply Below.drew | apply below_drewN | (refine Below.alloc ?_ (by (try simp) <;> omega) _) | (refine Below.setCell ?_ (by (try simp) <;> omega) _)))), old_cell zb2 e1 (by (repeat (first | exact Below.refl _ _ | assumption | refine bchain (by assumption) ?_ | refine balloc ?_ _ | apply Below.drew | apply below_drewN | (refine Below.alloc ?_ (by (try simp) <;> omega) _) | (refine Below.setCell ?_ (by (try simp) <;> omega) _)))), old_cell zb s1 (by (repeat (first | exact Below.refl _ _ | assumption | refine bchain (by assumption) ?_ | refine balloc ?_ _ | apply Below.drew | apply below_drewN | (refine Below.alloc ?_ (by (try simp) <;> omega) _) | (refine Below.setCell ?_ (by (try simp) <;> omega) _)))), old_cell zb3 e2 (by (repeat (first | exact Below.refl _ _ | assumption | refine bchain (by assumption) ?_ | refine balloc ?_ _ | apply Below.drew | apply below_drewN | (refine Below.alloc ?_ (by (try simp) <;> omega) _) | (refine Below.setCell ?_ (by (try simp) <;> omega) _)))), old_cell zb3 e3 (by (repeat (first | exact Below.refl _ _ | assumption | refine bchain (by assumption) ?_ | refine balloc ?_ _ | apply Below.drew | apply below_drewN | (refine Below.alloc ?_ (by (try simp) <;> omega) _) | (refine Below.setCell ?_ (by (try simp) <;> omega) _))))⟩)
                      (first | (go_at_call 35; refine (hC.out _).mono ?_; rintro r w3 ⟨rfl, hb3⟩))
                    go_wp2
                    go_ret
                    exact ⟨rfl, by (repeat (first | exact Below.refl _ _ | assumption | refine bchain (by assumption) ?_ | refine balloc ?_ _ | apply Below.drew | apply below_drewN | (refine Below.alloc ?_ (by (try simp) <;> omega) _) | (refine Below.setCell ?_ (by (try simp) <;> omega) _)))⟩
                · rw [decide_eq_false hok] at hC
                  obtain rfl : B = false := hBf.out (fun c => hok (by have h := (c.pl (a := k) (b := j) (by have := hn.out; omega) (by have := hn.out; omega)).1; rw [hxy] at h; exact h))
                  clear hxy hxy' hBt hBf hok
                  have q0 := bw_cell zb s0
                  have q1 := bw_cell zb2 e0
                  have q2 := bw_cell zb2 e1
                  clear e2 e3 s1 s0 e0 e1 hu hsy hlk hlj hsj hg2 hR hr
                  go_wp2
                  refine wp_region_below (by kernel_rfl) (by kernel_rfl) ?_
                  iterate 7 (quiet_step (fail))
                  refine wpQuiet_step (fun K hK => ?_)
                  go_simp
                  apply Exists.intro
                  refine ⟨fun p => ?_, hK _ ?_⟩
                  · exact bw_of (w := wr) (p := p) (hC.out p.W)
                  clear hK K
                  iterate 2 (quiet_step (fail))
                  iterate 15 go_big_quiet_skip
                  quiet_step (fail)
                  refine wpQuiet_nil ?_
                  intro _ hw'
                  obtain ⟨⟨W9, hb9⟩, rfl⟩ := hw'
                  go_wp2
                  go_ret
                  exact ⟨rfl, by (repeat (first | exact Below.refl _ _ | assumption | refine bchain (by assumption) ?_ | refine balloc ?_ _ | apply Below.drew | apply below_drewN | (refine Below.alloc ?_ (by (try simp) <;> omega) _) | (refine Below.setCell ?_ (by (try simp) <;> omega) _)))⟩
              · have hd := decide_eq_false (show ¬ ((j : Int) < (l : Int)) by omega)
                obtain rfl : l = j := by omega
                have hsn := Lib.hid (show ∀ a b, a < k + 1 → b < l → Pl m a b from fun a b h1 h2 => by
                  by_cases e : a = k
                  · subst e; exact hsj b h2
                  · exact hsy.out a b (by omega) h2)
                clear hsj
                go_wp2
                go_roundw
                case rel => exact ⟨k + 1, by omega, by go_num, hsn.out, by (repeat (first | exact Below.refl _ _ | assumption | refine bchain (by assumption) ?_ | refine balloc ?_ _ | apply Below.drew | apply below_drewN | (refine Below.alloc ?_ (by (try simp) <;> omega) _) | (refine Below.setCell ?_ (by (try simp) <;> omega) _)))⟩
                case measure => simp [intOf]; omega
          · have hd := decide_eq_false (show ¬ ((k : Int) < (l : Int)) by omega)
            obtain rfl : l = k := by omega
            obtain rfl : B = true := hBt.out ⟨by have := hn.out; omega, fun i hi => ⟨(hsq.out i (by have := hn.out; omega)).trans hn.out, fun j hj => (hsy i j (by have := hn.out; omega) (by have := hsq.out i (by have := hn.out; omega); omega)).1⟩,
              ⟨fun a b h1 h2 => (hsy a b (by have := hn.out; omega) (by have := hn.out; omega)).2, fun b h => by omega⟩⟩
            clear hsy hBt hBf
            go_wp2
            go_ret
            exact ⟨rfl, hB2⟩
  · have hd8 : decide ((8 : Int) < (l : Int)) = true := decide_eq_true (by omega)
    obtain rfl : B = false := hBf.out (fun c => h8 (by rw [hn.out]; exact c.1))
    clear hBt hBf
    go_enter Tryd.func22, Tryd.ntmps22
    go_wp2
    go_ret
    exact ⟨rfl, by (repeat (first | exact Below.refl _ _ | assumption | refine bchain (by assumption) ?_ | refine balloc ?_ _ | apply Below.drew | apply below_drewN | (refine Below.alloc ?_ (by (try simp) <;> omega) _) | (refine Below.setCell ?_ (by (try simp) <;> omega) _)))⟩
end
end Go.Proofs.YtdbidlnkaplekaaDoor.Fr
/-
  WHAT COMES IN, OPENED BY SHAPE: an int64, a bool, a laws.Fraction by value; and the closed facts of this seat's program that every row owes.
-/
namespace Go.Proofs.YtdbidlnkaplekaaDoor.Fr
open Go.ChangeShapes Go.WideShapes Go.ChangeAt Go.RowKit Go.Joins
set_option maxRecDepth 100000

theorem own : ownKnob Tryd.prog.godebug = none := by kernel_rfl
theorem laid_out : laidOutB Tryd.prog = true := by kernel_rfl
section
variable {H : Type} {enc : TypeId × Value → H}
theorem open_i64 {W : World} {base : Nat} {v : Value} {d : DataW H} {p : List MemPlace} (hv : Value.okWide Tryd.prog W .any base 2 v) (h : DataW.Trod enc Tryd.prog W 0 (fun _ => true) true 2 v d p) :
    ∃ n : Int, v = .int .i64 n ∧ (Lit.int .i64 n).wf = true := by
  obtain ⟨x, rfl, rfl, rfl, wx⟩ := open_int Tryd.underlying2 hv h
  exact ⟨x, rfl, wx⟩

end
end Go.Proofs.YtdbidlnkaplekaaDoor.Fr
namespace Go.Proofs.YtdbidlnkaplekaaDoor.Fr
open Go.ChangeShapes Go.WideShapes Go.ChangeAt Go.RowKit Go.Deep
set_option maxRecDepth 100000
end Go.Proofs.YtdbidlnkaplekaaDoor.Fr
namespace Go.Proofs.YtdbidlnkaplekaaDoor.Fr
open Go.ChangeShapes Go.WideShapes Go.ChangeAt Go.RowKit Go.Deep
set_option maxRecDepth 100000
end Go.Proofs.YtdbidlnkaplekaaDoor.Fr
