/-
  Fs, Ms, Lim, FOps, FWh, FSame, FSameM, FList, FVm, FVmS, FOpen, OpenFs, OpenMs, in one text.
-/
import Derived.Test.YtiedombphcdpbaaDoorFrVf
import Derived.Deep.OwnRows
import Derived.Lib.Hide
import Derived.StillTailTactics
import Derived.Deep.RegionHeld3
import Derived.Defers
import Derived.Recover
import Derived.Laws.Pointers
import Derived.Laws.StructEq
import Derived.Laws.Tables
import Derived.KernelRfl
import Derived.Deep.DeepCutAuto
import Derived.BigQuiet
import Derived.Test.YtiedombphcdpbaaDoorRows
import Derived.Test.YtiedombphcdpbaaDoorFrame
import Derived.Lib.SmallJoins
import Derived.OpenShut
import Derived.Deep.SlicePairs
import Derived.Deep.Slices
/-
  LISTS OF FRACTIONS: 'SlG w v gs': in the world w the value v is a list that holds the fractions gs. What copies such a list, and what holds two against each other.
-/
namespace Go.Proofs.YtiedombphcdpbaaDoor.Fr
open Go.RowKit
set_option maxRecDepth 100000

def gAt (gs : List (Int × Int)) (i : Nat) : Int × Int := gs[i]?.getD (0, 0)
/-- two cells of a block that hold the graph at i -/
def GCell (w : World) (b off : Nat) (g : Int × Int) (i : Nat) : Prop := w.cell? ⟨b, off + i * 2, none⟩ = some (.int .i64 g.1) ∧ w.cell? ⟨b, off + i * 2 + 1, none⟩ = some (.int .i64 g.2)
def SlG (w : World) (v : Value) (gs : List (Int × Int)) : Prop :=
  ∃ (a : Option Addr) (cap : Nat), v = .slice a gs.length cap ∧ gs.length ≤ cap ∧ cap ≤ 9223372036854775807 ∧
    (gs ≠ [] → ∃ b off, a = some ⟨b, off, none⟩ ∧ b < w.heap.size ∧ ∀ i, i < gs.length → GCell w b off (gAt gs i) i)
theorem SlG.below {w w' : World} {v : Value} {gs : List (Int × Int)} (h : SlG w v gs) (hb : Below w.heap.size w w') : SlG w' v gs := by
  obtain ⟨a, cap, e, h1, h2, h3⟩ := h
  refine ⟨a, cap, e, h1, h2, fun hz => ?_⟩
  obtain ⟨b, off, e2, hlt, hc⟩ := h3 hz
  exact ⟨b, off, e2, Nat.lt_of_lt_of_le hlt hb.size, fun i hi => ⟨(hb.cell (p := ⟨b, _, none⟩) hlt).trans (hc i hi).1, (hb.cell (p := ⟨b, _, none⟩) hlt).trans (hc i hi).2⟩⟩
/-- a block that holds the first k of gs, zeros behind -/
def HalfG (w : World) (B k : Nat) (gs : List (Int × Int)) : Prop := ∀ i, i < gs.length → GCell w B 0 (if i < k then gAt gs i else (0, 0)) i
theorem HalfG.set {w : World} {B k : Nat} {gs : List (Int × Int)} (h : HalfG w B k gs) (hk : k < gs.length) : HalfG ((w.setCell ⟨B, k * 2, none⟩ (.int .i64 (gAt gs k).1)).setCell ⟨B, k * 2 + 1, none⟩ (.int .i64 (gAt gs k).2)) B (k + 1) gs := by
  intro i hi
  have hi2 := h i hi
  unfold GCell at hi2 ⊢
  rw [Nat.zero_add] at hi2 ⊢
  by_cases e : i = k
  · subst e
    rw [if_pos (by omega)]
    exact ⟨(World.cell?_setCell_other _ _ _ _ (by simp)).trans (World.cell?_setCell_same _ _ _ hi2.1), World.cell?_setCell_same _ _ _ ((World.cell?_setCell_other _ _ _ _ (by simp)).trans hi2.2)⟩
  · rw [show (if i < k + 1 then gAt gs i else (0, 0)) = (if i < k then gAt gs i else (0, 0)) by
      by_cases c : i < k
      · rw [if_pos c, if_pos (by omega)]
      · rw [if_neg c, if_neg (by omega)]]
    exact ⟨(World.cell?_setCell_other _ _ _ _ (by simp <;> omega)).trans ((World.cell?_setCell_other _ _ _ _ (by simp <;> omega)).trans hi2.1), (World.cell?_setCell_other _ _ _ _ (by simp <;> omega)).trans ((World.cell?_setCell_other _ _ _ _ (by simp <;> omega)).trans hi2.2)⟩
theorem HalfG.below {w w' : World} {B k : Nat} {gs : List (Int × Int)} (h : HalfG w B k gs) (hb : Below w.heap.size w w') (hB : B < w.heap.size) : HalfG w' B k gs :=
  fun i hi => ⟨(hb.cell (p := ⟨B, _, none⟩) hB).trans (h i hi).1, (hb.cell (p := ⟨B, _, none⟩) hB).trans (h i hi).2⟩
theorem HalfG.done {w : World} {B cap : Nat} {gs : List (Int × Int)} (h : HalfG w B gs.length gs) (hB : B < w.heap.size) (hc : gs.length ≤ cap) (hm : cap ≤ 9223372036854775807) : SlG w (.slice (some ⟨B, 0, none⟩) gs.length cap) gs :=
  ⟨_, _, rfl, hc, hm, fun _ => ⟨B, 0, rfl, hB, fun i hi => by have := h i hi; rw [if_pos hi] at this; exact this⟩⟩
theorem info_graph : (Tryd.prog.info? 70).map (fun i => (i.zero, i.size, i.bytes)) = some (some (.agg #[.int .i64 0, .int .i64 0]), 2, 16) := by kernel_rfl
theorem madeG (w : World) (n B : Nat) (e : TypeId) (gs : List (Int × Int)) (hB : B = w.heap.size) (hn : gs.length = n) : HalfG (w.alloc (.cells (madeCells #[.int .i64 0, .int .i64 0] (n * 2)) e)) B 0 gs := by
  intro i hi
  subst hB
  unfold GCell
  rw [World.cell?_alloc_new, World.cell?_alloc_new, Nat.zero_add, if_neg (by omega)]
  have h1 : i * 2 < n * 2 := by omega
  have h2 : i * 2 + 1 < n * 2 := by omega
  constructor
  · simp [madeCells, h1]
  · simp [madeCells, h2]
section
variable (w : World)
theorem sz_ok (a : Option Addr) (l cap : Nat) (q : Int) (hq : q ≤ 1048576) (hl : (l : Int) ≤ q) :
    Calls Tryd.prog 27 #[.slice a l cap, .int .i64 q] w fun r w' => r = .returned (.int .i64 (q - (l : Int))) ∧ w = w' := by
  go_enter Tryd.func27, Tryd.ntmps27
  go_wp2
  go_ret
  exact ⟨rfl, rfl⟩
theorem sz_long (a : Option Addr) (l cap : Nat) (q : Int) (hq0 : 0 ≤ q) (hq : q ≤ 1048576) (hl : q < (l : Int)) (hm : l ≤ 9223372036854775807) :
    Calls Tryd.prog 27 #[.slice a l cap, .int .i64 q] w fun r w' => r = .returned (.int .i64 (-1)) ∧ w = w' := by
  go_enter Tryd.func27, Tryd.ntmps27
  go_wp2
  go_ret
  exact ⟨rfl, rfl⟩
theorem toGs_empty (a : Option Addr) (cap : Nat) :
    Calls Tryd.prog 30 #[.slice a 0 cap] w fun r w' => (∃ v, r = .returned v ∧ SlG w' v []) ∧ Below w.heap.size w w' := by
  obtain ⟨i0, hi0, hz0, hs0, hb0⟩ := info_parts info_graph
  have hmk : ∀ W : World, (Instr.makeSlice 60 (.int .i64 0) (.int .i64 0)).run Tryd.prog W = .ok (.slice (some ⟨W.heap.size, 0, none⟩) 0 0) (W.alloc (.cells (madeCells #[.int .i64 0, .int .i64 0] (0 * 2)) 70)) := fun W => by
    have hr := run_make (P := Tryd.prog) W 60 70 i0 (.agg #[.int .i64 0, .int .i64 0]) Tryd.underlying60 hi0 hz0 .i64 .i64 ((0 : Nat) : Int) ((0 : Nat) : Int) (by omega) (by omega) (by rw [hb0]; omega) (by omega)
    simp only [Int.toNat_natCast, hs0] at hr
    exact hr
  clear hi0 hz0 hs0 hb0
  go_enter Tryd.func30, Tryd.ntmps30
  go_wp2
  go_loopw [4] (fun i wr => i = .int .i64 0 ∧ Below w.heap.size w wr) (fun _ _ => 0)
  case atStart => exact ⟨rfl, by (repeat (first | exact Below.refl _ _ | assumption | refine bchain (by assumption) ?_ | refine balloc ?_ _ | apply Below.drew | apply below_drewN | (refine Below.alloc ?_ (by (try simp) <;> omega) _) | (refine Below.setCell ?_ (by (try simp) <;> omega) _)))⟩
  case round =>
    obtain ⟨rfl, hb⟩ := hrel
    go_wp2
    go_ret
    exact ⟨⟨_, rfl, _, _, rfl, by simp, by simp, fun c => absurd rfl c⟩, hb⟩
set_option maxHeartbeats 1000000 in
theorem toGs_some (b off cap : Nat) (gs : List (Int × Int)) (h1 : 0 < gs.length) (h2 : gs.length ≤ cap) (hm : gs.length ≤ 1048576) (hb : b < w.heap.size) (hc : ∀ i, i < gs.length → GCell w b off (gAt gs i) i) :
    Calls Tryd.prog 30 #[.slice (some ⟨b, off, none⟩) gs.length cap] w fun r w' => (∃ v, r = .returned v ∧ SlG w' v gs) ∧ Below w.heap.size w w' := by
  obtain ⟨i0, hi0, hz0, hs0, hb0⟩ := info_parts info_graph
  obtain ⟨O, hO⟩ : ∃ O, O = Obj.cells (madeCells #[.int .i64 0, .int .i64 0] (gs.length * 2)) 70 := ⟨_, rfl⟩
  obtain ⟨n, hn⟩ : ∃ n, n = gs.length := ⟨_, rfl⟩
  rw [← hn] at h1 h2 hm hO ⊢
  have hmk : ∀ W : World, (Instr.makeSlice 60 (.int .i64 n) (.int .i64 n)).run Tryd.prog W = .ok (.slice (some ⟨W.heap.size, 0, none⟩) n n) (W.alloc O) := fun W => by
    have hr := run_make (P := Tryd.prog) W 60 70 i0 (.agg #[.int .i64 0, .int .i64 0]) Tryd.underlying60 hi0 hz0 .i64 .i64 (n : Int) (n : Int) (by omega) (by omega) (by rw [hb0]; omega) (by omega)
    simp only [Int.toNat_natCast, hs0] at hr
    rw [hO]
    exact hr
  clear hi0 hz0 hs0 hb0
  replace hO := Lib.hid hO
  replace hn := Lib.hid hn
  replace hc := Lib.hid hc
  go_enter Tryd.func30, Tryd.ntmps30
  go_wp2
  go_loopw [4] (fun i wr => ∃ k : Nat, k ≤ n ∧ i = .int .i64 k ∧ HalfG wr w.heap.size k gs ∧ (∀ o, wr.frozen? ⟨w.heap.size, o, none⟩ = false) ∧ w.heap.size < wr.heap.size ∧ Below w.heap.size w wr) (fun i _ => n - (intOf i).toNat)
  case atStart => exact ⟨0, by omega, rfl, by rw [hO.out]; exact madeG _ _ _ _ _ rfl hn.out.symm, fun o => by rw [hO.out]; simp, by simp, by (repeat (first | exact Below.refl _ _ | assumption | refine bchain (by assumption) ?_ | refine balloc ?_ _ | apply Below.drew | apply below_drewN | (refine Below.alloc ?_ (by (try simp) <;> omega) _) | (refine Below.setCell ?_ (by (try simp) <;> omega) _)))⟩
  case round =>
    obtain ⟨k, hk, rfl, hh, hf, hz, hB⟩ := hrel
    by_cases hlt : k < n
    · have hg := hc.out k (by have := hn.out; omega)
      obtain ⟨x, y, hxy⟩ : ∃ x y, gAt gs k = (x, y) := ⟨_, _, rfl⟩
      have hs0 : wr.cell? ⟨b, off + k * 2, none⟩ = some (.int .i64 x) := by rw [hB.cell (p := ⟨b, _, none⟩) hb, hg.1, hxy]
      have hs1 : wr.cell? ⟨b, off + k * 2 + 1, none⟩ = some (.int .i64 y) := by rw [hB.cell (p := ⟨b, _, none⟩) hb, hg.2, hxy]
      have hset := Lib.hid (fun (W : World) (h : HalfG W w.heap.size k gs) => h.set (k := k) (by have := hn.out; omega))
      rw [hxy] at hset
      clear hg hxy
      replace hh := Lib.hid hh
      replace hf := Lib.hid hf
      go_wp2_with fail
      refine (toF_any _ x y).mono ?_
      rintro r3 w3 ⟨rfl, hb3⟩
      have hh3 := hh.out.below hb3 hz
      have hz3 := Nat.lt_of_lt_of_le hz hb3.size
      have ht := hh3 k (by have := hn.out; omega)
      rw [if_neg (by omega)] at ht
      have t0 : w3.cell? ⟨w.heap.size, k * 2, none⟩ = some (.int .i64 0) := by have := ht.1; rwa [Nat.zero_add] at this
      have t1 : w3.cell? ⟨w.heap.size, k * 2 + 1, none⟩ = some (.int .i64 0) := by have := ht.2; rwa [Nat.zero_add] at this
      have hf3 : ∀ o, w3.frozen? ⟨w.heap.size, o, none⟩ = false := fun o => (hb3.frozen (p := ⟨w.heap.size, o, none⟩) hz).trans (hf.out o)
      have f0 := hf3 (k * 2)
      have f1 := hf3 (k * 2 + 1)
      have hn2 := Lib.hid (hset.out w3 hh3)
      replace hf3 := Lib.hid hf3
      clear hh3 ht
      go_wp2
      go_roundw
      case rel => exact ⟨k + 1, by omega, by go_num, hn2.out, fun o => by simp [hf3.out o], by simp; omega, by (repeat (first | exact Below.refl _ _ | assumption | refine bchain (by assumption) ?_ | refine balloc ?_ _ | apply Below.drew | apply below_drewN | (refine Below.alloc ?_ (by (try simp) <;> omega) _) | (refine Below.setCell ?_ (by (try simp) <;> omega) _)))⟩
      case measure => simp [intOf]; omega
    · have hd := decide_eq_false (show ¬ ((k : Int) < (n : Int)) by omega)
      obtain rfl : k = n := by omega
      replace hh := Lib.hid hh
      replace hf := Lib.hid hf
      go_wp2
      go_ret
      refine ⟨⟨_, rfl, ?_⟩, hB⟩
      have e := hn.out
      subst e
      exact HalfG.done hh.out hz (Nat.le_refl _) (by omega)
theorem toGs_any (v : Value) (gs : List (Int × Int)) (h : SlG w v gs) (hm : gs.length ≤ 1048576) :
    Calls Tryd.prog 30 #[v] w fun r w' => (∃ u, r = .returned u ∧ SlG w' u gs) ∧ Below w.heap.size w w' := by
  obtain ⟨a, cap, rfl, h1, h2, h3⟩ := h
  cases gs with
  | nil => exact toGs_empty w a cap
  | cons z zs =>
    obtain ⟨b, off, rfl, hb, hc⟩ := h3 (by simp)
    exact toGs_some w b off cap (z :: zs) (by simp) h1 hm hb hc
theorem eqGs_empty (a a' : Option Addr) (cap cap' : Nat) :
    Calls Tryd.prog 35 #[.slice a 0 cap, .slice a' 0 cap'] w fun r w' => r = .returned (.bool true) ∧ Below w.heap.size w w' := by
  go_enter Tryd.func35, Tryd.ntmps35
  go_wp2
  go_loopw [5] (fun i wr => i = .int .i64 0 ∧ Below w.heap.size w wr) (fun _ _ => 0)
  case atStart => exact ⟨rfl, by (repeat (first | exact Below.refl _ _ | assumption | refine bchain (by assumption) ?_ | refine balloc ?_ _ | apply Below.drew | apply below_drewN | (refine Below.alloc ?_ (by (try simp) <;> omega) _) | (refine Below.setCell ?_ (by (try simp) <;> omega) _)))⟩
  case round =>
    obtain ⟨rfl, hb⟩ := hrel
    go_wp2
    go_ret
    exact ⟨rfl, hb⟩
set_option maxHeartbeats 1000000 in
theorem eqGs_some (b off cap b' off' cap' : Nat) (gs : List (Int × Int)) (h1 : 0 < gs.length) (hm : gs.length ≤ 1048576) (hb : b < w.heap.size) (hb' : b' < w.heap.size)
    (hc : ∀ i, i < gs.length → GCell w b off (gAt gs i) i) (hc' : ∀ i, i < gs.length → GCell w b' off' (gAt gs i) i) :
    Calls Tryd.prog 35 #[.slice (some ⟨b, off, none⟩) gs.length cap, .slice (some ⟨b', off', none⟩) gs.length cap'] w fun r w' => r = .returned (.bool true) ∧ Below w.heap.size w w' := by
  obtain ⟨n, hn⟩ : ∃ n, n = gs.length := ⟨_, rfl⟩
  rw [← hn] at h1 hm ⊢
  replace hn := Lib.hid hn
  replace hc := Lib.hid hc
  replace hc' := Lib.hid hc'
  go_enter Tryd.func35, Tryd.ntmps35
  go_wp2
  go_loopw [5] (fun i wr => ∃ k : Nat, k ≤ n ∧ i = .int .i64 k ∧ Below w.heap.size w wr) (fun i _ => n - (intOf i).toNat)
  case atStart => exact ⟨0, by omega, rfl, by (repeat (first | exact Below.refl _ _ | assumption | refine bchain (by assumption) ?_ | refine balloc ?_ _ | apply Below.drew | apply below_drewN | (refine Below.alloc ?_ (by (try simp) <;> omega) _) | (refine Below.setCell ?_ (by (try simp) <;> omega) _)))⟩
  case round =>
    obtain ⟨k, hk, rfl, hB⟩ := hrel
    by_cases hlt : k < n
    · have hg := hc.out k (by have := hn.out; omega)
      have hg' := hc'.out k (by have := hn.out; omega)
      obtain ⟨x, y, hxy⟩ : ∃ x y, gAt gs k = (x, y) := ⟨_, _, rfl⟩
      have s0 : wr.cell? ⟨b, off + k * 2, none⟩ = some (.int .i64 x) := by rw [hB.cell (p := ⟨b, _, none⟩) hb, hg.1, hxy]
      have s1 : wr.cell? ⟨b, off + k * 2 + 1, none⟩ = some (.int .i64 y) := by rw [hB.cell (p := ⟨b, _, none⟩) hb, hg.2, hxy]
      have t0 : wr.cell? ⟨b', off' + k * 2, none⟩ = some (.int .i64 x) := by rw [hB.cell (p := ⟨b', _, none⟩) hb', hg'.1, hxy]
      have t1 : wr.cell? ⟨b', off' + k * 2 + 1, none⟩ = some (.int .i64 y) := by rw [hB.cell (p := ⟨b', _, none⟩) hb', hg'.2, hxy]
      have hE := Lib.hid (eqF_any wr.drew x y)
      have hk1 : (k : Int) < (n : Int) := by omega
      clear hg hg' hxy
      go_wp2
      go_still_tail 8, (by kernel_rfl)
      change wpList _ _ _ _ _ wr.drew
      go_wp2_with (go_at_call 67; refine (hE.out).mono ?_; rintro r3 w3 ⟨rfl, hb3⟩)
      go_roundw
      case rel => exact ⟨k + 1, by omega, by go_num, by (repeat (first | exact Below.refl _ _ | assumption | refine bchain (by assumption) ?_ | refine balloc ?_ _ | apply Below.drew | apply below_drewN | (refine Below.alloc ?_ (by (try simp) <;> omega) _) | (refine Below.setCell ?_ (by (try simp) <;> omega) _)))⟩
      case measure => simp [intOf]; omega
    · have hd := decide_eq_false (show ¬ ((k : Int) < (n : Int)) by omega)
      go_wp2
      go_ret
      exact ⟨rfl, hB⟩
theorem eqGs_any (u v : Value) (gs : List (Int × Int)) (h : SlG w u gs) (h' : SlG w v gs) (hm : gs.length ≤ 1048576) :
    Calls Tryd.prog 35 #[u, v] w fun r w' => r = .returned (.bool true) ∧ Below w.heap.size w w' := by
  obtain ⟨a, cap, rfl, h1, h2, h3⟩ := h
  obtain ⟨a', cap', rfl, h1', h2', h3'⟩ := h'
  cases gs with
  | nil => exact eqGs_empty w a a' cap cap'
  | cons z zs =>
    obtain ⟨b, off, rfl, hb, hc⟩ := h3 (by simp)
    obtain ⟨b', off', rfl, hb', hc'⟩ := h3' (by simp)
    exact eqGs_some w b off cap b' off' cap' (z :: zs) (by simp) hm hb hb' hc hc'
end
end Go.Proofs.YtiedombphcdpbaaDoor.Fr
/-
  LISTS OF ROWS: 'SlM w v m': in the world w the value v is a list of rows that holds the rows m. What measures such a list, copies it, and what holds two against each other.
-/
namespace Go.Proofs.YtiedombphcdpbaaDoor.Fr
open Go.RowKit
set_option maxRecDepth 100000

def rAt (m : List (List (Int × Int))) (i : Nat) : List (Int × Int) := m[i]?.getD []
def Row (w : World) (b off : Nat) (r : List (Int × Int)) (i : Nat) : Prop := ∃ u, w.cell? ⟨b, off + i, none⟩ = some u ∧ SlG w u r
theorem Row.below {w w' : World} {b off i : Nat} {r : List (Int × Int)} (h : Row w b off r i) (hb : Below w.heap.size w w') : Row w' b off r i := by
  obtain ⟨u, hc, hS⟩ := h
  exact ⟨u, (hb.cell (p := ⟨b, _, none⟩) (World.block_lt_of_cell? w _ hc)).trans hc, hS.below hb⟩
def SlM (w : World) (v : Value) (m : List (List (Int × Int))) : Prop :=
  ∃ (a : Option Addr) (cap : Nat), v = .slice a m.length cap ∧ m.length ≤ cap ∧ cap ≤ 9223372036854775807 ∧
    (m ≠ [] → ∃ b off, a = some ⟨b, off, none⟩ ∧ b < w.heap.size ∧ ∀ i, i < m.length → Row w b off (rAt m i) i)
theorem SlM.below {w w' : World} {v : Value} {m : List (List (Int × Int))} (h : SlM w v m) (hb : Below w.heap.size w w') : SlM w' v m := by
  obtain ⟨a, cap, e, h1, h2, h3⟩ := h
  refine ⟨a, cap, e, h1, h2, fun hz => ?_⟩
  obtain ⟨b, off, e2, hlt, hc⟩ := h3 hz
  exact ⟨b, off, e2, Nat.lt_of_lt_of_le hlt hb.size, fun i hi => (hc i hi).below hb⟩
/-- how many fractions the first k rows have -/
def tot (m : List (List (Int × Int))) : Nat → Nat | 0 => 0 | k + 1 => tot m k + (rAt m k).length
theorem tot_mono (m : List (List (Int × Int))) {k n : Nat} (h : k ≤ n) : tot m k ≤ tot m n := by
  induction n with
  | zero => obtain rfl : k = 0 := by omega
            exact Nat.le_refl _
  | succ n ih =>
    by_cases e : k = n + 1
    · rw [e]; exact Nat.le_refl _
    · have := ih (by omega)
      rw [tot]
      omega
theorem row_le (m : List (List (Int × Int))) {k n : Nat} (h : k < n) : (rAt m k).length ≤ tot m n := by
  have := tot_mono m (show k + 1 ≤ n from h)
  rw [tot] at this
  omega
/-- a block that holds the first k rows, nothing behind -/
def HalfM (w : World) (B k : Nat) (m : List (List (Int × Int))) : Prop := ∀ i, i < m.length → if i < k then Row w B 0 (rAt m i) i else w.cell? ⟨B, i, none⟩ = some (.slice none 0 0)
theorem HalfM.below {w w' : World} {B k : Nat} {m : List (List (Int × Int))} (h : HalfM w B k m) (hb : Below w.heap.size w w') (hB : B < w.heap.size) : HalfM w' B k m := by
  intro i hi
  have := h i hi
  split
  · rename_i c
    rw [if_pos c] at this
    exact this.below hb
  · rename_i c
    rw [if_neg c] at this
    exact (hb.cell (p := ⟨B, i, none⟩) hB).trans this
/-- a list of fractions is as it was behind a store into a cell that holds a list -/
theorem SlG.setCell {w : World} {u : Value} {r : List (Int × Int)} {B o : Nat} {x : Value} {a0 : Option Addr} {l0 c0 : Nat} (h : SlG w u r) (hc0 : w.cell? ⟨B, o, none⟩ = some (.slice a0 l0 c0)) : SlG (w.setCell ⟨B, o, none⟩ x) u r := by
  obtain ⟨a, cap, e, h1, h2, h3⟩ := h
  refine ⟨a, cap, e, h1, h2, fun hz => ?_⟩
  obtain ⟨b, off, e2, hlt, hc⟩ := h3 hz
  refine ⟨b, off, e2, by simpa using hlt, fun i hi => ?_⟩
  have hi2 := hc i hi
  have hne : ∀ j (n : Int), w.cell? ⟨b, j, none⟩ = some (.int .i64 n) → (w.setCell ⟨B, o, none⟩ x).cell? ⟨b, j, none⟩ = some (.int .i64 n) := fun j n hj => by
    refine (World.cell?_setCell_other _ _ _ _ ?_).trans hj
    intro he
    rw [← he, hc0] at hj
    cases hj
  exact ⟨hne _ _ hi2.1, hne _ _ hi2.2⟩
theorem HalfM.set {w : World} {B k : Nat} {m : List (List (Int × Int))} {u : Value} (h : HalfM w B k m) (hk : k < m.length) (hu : SlG w u (rAt m k)) : HalfM (w.setCell ⟨B, k, none⟩ u) B (k + 1) m := by
  have hck := h k hk
  rw [if_neg (by omega)] at hck
  intro i hi
  have hi2 := h i hi
  by_cases e : i = k
  · subst e
    rw [if_pos (by omega)]
    refine ⟨u, ?_, hu.setCell hck⟩
    rw [Nat.zero_add]
    exact World.cell?_setCell_same _ _ _ hck
  · by_cases c : i < k
    · rw [if_pos c] at hi2
      rw [if_pos (by omega)]
      obtain ⟨v, hv, hS⟩ := hi2
      rw [Nat.zero_add] at hv
      refine ⟨v, ?_, hS.setCell hck⟩
      rw [Nat.zero_add]
      exact (World.cell?_setCell_other _ _ _ _ (by simp <;> omega)).trans hv
    · rw [if_neg c] at hi2
      rw [if_neg (by omega)]
      exact (World.cell?_setCell_other _ _ _ _ (by simp <;> omega)).trans hi2
theorem HalfM.done {w : World} {B cap : Nat} {m : List (List (Int × Int))} (h : HalfM w B m.length m) (hB : B < w.heap.size) (hc : m.length ≤ cap) (hm : cap ≤ 9223372036854775807) : SlM w (.slice (some ⟨B, 0, none⟩) m.length cap) m :=
  ⟨_, _, rfl, hc, hm, fun _ => ⟨B, 0, rfl, hB, fun i hi => by have := h i hi; rw [if_pos hi] at this; exact this⟩⟩
theorem info_row : (Tryd.prog.info? 60).map (fun i => (i.zero, i.size, i.bytes)) = some (some (.slice none 0 0), 1, 24) := by kernel_rfl
theorem madeM (w : World) (n B : Nat) (e : TypeId) (m : List (List (Int × Int))) (hB : B = w.heap.size) (hn : m.length = n) : HalfM (w.alloc (.cells (madeCells #[.slice none 0 0] (n * 1)) e)) B 0 m := by
  intro i hi
  subst hB
  rw [World.cell?_alloc_new, if_neg (by omega)]
  have h1 : i < n := by omega
  simp [madeCells, h1, Nat.mod_one]
section
variable (w : World)
/-- the list is not too long in all -/
theorem szM_ok (v : Value) (m : List (List (Int × Int))) (hS : SlM w v m) (q : Int) (hq : q ≤ 1048576) (hl : (m.length : Int) + (tot m m.length : Nat) ≤ q) :
    Calls Tryd.prog 7 #[v, .int .i64 q] w fun r w' => r = .returned (.int .i64 (q - (m.length : Int) - (tot m m.length : Nat))) ∧ Below w.heap.size w w' := by
  obtain ⟨a, cap, rfl, h1, h2, h3⟩ := hS
  obtain ⟨n, hn⟩ : ∃ n, n = m.length := ⟨_, rfl⟩
  rw [← hn] at hl h1 ⊢
  replace h3 := Lib.hid h3
  replace hn := Lib.hid hn
  go_enter Tryd.func7, Tryd.ntmps7
  go_wp2
  go_loopw [1, 5] (fun x i wr => ∃ k : Nat, k ≤ n ∧ i = .int .i64 k ∧ x = .int .i64 (q - (n : Int) - (tot m k : Nat)) ∧ Below w.heap.size w wr) (fun _ i _ => n - (intOf i).toNat)
  case atStart => exact ⟨0, by omega, rfl, by simp [tot], by (repeat (first | exact Below.refl _ _ | assumption | refine bchain (by assumption) ?_ | refine balloc ?_ _ | apply Below.drew | apply below_drewN | (refine Below.alloc ?_ (by (try simp) <;> omega) _) | (refine Below.setCell ?_ (by (try simp) <;> omega) _)))⟩
  case round =>
    obtain ⟨k, hk, rfl, rfl, hB⟩ := hrel
    have ht := tot_mono m hk
    by_cases hlt : k < n
    · obtain ⟨b, off, rfl, hb, hg⟩ := h3.out (by intro c; have := hn.out; rw [c] at this; simp at this; omega)
      obtain ⟨u, hu, hSu⟩ := hg k (by have := hn.out; omega)
      have ht2 := tot_mono m (show k + 1 ≤ n from hlt)
      have e1 : (q - (n : Int) - (tot m k : Nat)) - ((rAt m k).length : Int) = q - (n : Int) - (tot m (k + 1) : Nat) := by rw [tot]; omega
      rw [tot] at ht2
      have s0 : wr.cell? ⟨b, off + k, none⟩ = some u := (hB.cell (p := ⟨b, _, none⟩) hb).trans hu
      obtain ⟨a2, c2, rfl, _⟩ := hSu
      have hC := Lib.hid (fun W => sz_ok W a2 (rAt m k).length c2 (q - (n : Int) - (tot m k : Nat)) (by omega) (by omega))
      rw [e1] at hC
      have g0 : 0 ≤ q - (n : Int) - (tot m (k + 1) : Nat) := by rw [tot]; omega
      obtain ⟨y, hy⟩ : ∃ y, q - (n : Int) - (tot m (k + 1) : Nat) = y := ⟨_, rfl⟩
      rw [hy] at hC g0
      obtain ⟨x, hx⟩ : ∃ x, q - (n : Int) - (tot m k : Nat) = x := ⟨_, rfl⟩
      rw [hx] at hC e1 ⊢
      obtain ⟨l, hl2⟩ : ∃ l, (rAt m k).length = l := ⟨_, rfl⟩
      rw [hl2] at hC s0
      have hkn : (k : Int) < (n : Int) := by omega
      clear hg hu e1 ht ht2 hx hl2
      go_wp2_with fail
      refine (hC.out _).mono ?_
      rintro r3 w3 ⟨rfl, rfl⟩
      go_wp2
      go_roundw
      case rel => exact ⟨k + 1, by omega, by go_num, by rw [hy], by (repeat (first | exact Below.refl _ _ | assumption | refine bchain (by assumption) ?_ | refine balloc ?_ _ | apply Below.drew | apply below_drewN | (refine Below.alloc ?_ (by (try simp) <;> omega) _) | (refine Below.setCell ?_ (by (try simp) <;> omega) _)))⟩
      case measure => simp [intOf]; omega
    · have hd := decide_eq_false (show ¬ ((k : Int) < (n : Int)) by omega)
      obtain rfl : k = n := by omega
      go_wp2
      go_ret
      exact ⟨rfl, hB⟩
theorem szM_long (v : Value) (m : List (List (Int × Int))) (hS : SlM w v m) (q : Int) (hq0 : 0 ≤ q) (hq : q ≤ 1048576) (hl : q < (m.length : Int) + (tot m m.length : Nat)) :
    Calls Tryd.prog 7 #[v, .int .i64 q] w fun r w' => r = .returned (.int .i64 (-1)) ∧ Below w.heap.size w w' := by
  obtain ⟨a, cap, rfl, h1, h2, h3⟩ := hS
  obtain ⟨n, hn⟩ : ∃ n, n = m.length := ⟨_, rfl⟩
  rw [← hn] at hl h1 ⊢
  replace h3 := Lib.hid h3
  replace hn := Lib.hid hn
  by_cases h0 : q < (n : Int)
  · go_enter Tryd.func7, Tryd.ntmps7
    go_wp2
    go_ret
    exact ⟨rfl, by (repeat (first | exact Below.refl _ _ | assumption | refine bchain (by assumption) ?_ | refine balloc ?_ _ | apply Below.drew | apply below_drewN | (refine Below.alloc ?_ (by (try simp) <;> omega) _) | (refine Below.setCell ?_ (by (try simp) <;> omega) _)))⟩
  · go_enter Tryd.func7, Tryd.ntmps7
    go_wp2
    go_loopw [1, 5] (fun x i wr => ∃ k : Nat, k ≤ n ∧ i = .int .i64 k ∧ x = .int .i64 (q - (n : Int) - (tot m k : Nat)) ∧ (n : Int) + (tot m k : Nat) ≤ q ∧ Below w.heap.size w wr) (fun _ i _ => n - (intOf i).toNat)
    case atStart => exact ⟨0, by omega, rfl, by simp [tot], by simp [tot]; omega, by (repeat (first | exact Below.refl _ _ | assumption | refine bchain (by assumption) ?_ | refine balloc ?_ _ | apply Below.drew | apply below_drewN | (refine Below.alloc ?_ (by (try simp) <;> omega) _) | (refine Below.setCell ?_ (by (try simp) <;> omega) _)))⟩
    case round =>
      obtain ⟨k, hk, rfl, rfl, hle, hB⟩ := hrel
      have hlt : k < n := by
        apply Nat.lt_of_not_le
        intro hc
        obtain rfl : k = n := by omega
        omega
      obtain ⟨b, off, rfl, hb, hg⟩ := h3.out (by intro c; have := hn.out; rw [c] at this; simp at this; omega)
      obtain ⟨u, hu, hSu⟩ := hg k (by have := hn.out; omega)
      have s0 : wr.cell? ⟨b, off + k, none⟩ = some u := (hB.cell (p := ⟨b, _, none⟩) hb).trans hu
      obtain ⟨a2, c2, rfl, hu1, hu2, _⟩ := hSu
      have e1 : (q - (n : Int) - (tot m k : Nat)) - ((rAt m k).length : Int) = q - (n : Int) - (tot m (k + 1) : Nat) := by rw [tot]; omega
      obtain ⟨x, hx⟩ : ∃ x, q - (n : Int) - (tot m k : Nat) = x := ⟨_, rfl⟩
      have hx0 : 0 ≤ x := by omega
      have hx1 : x ≤ 1048576 := by omega
      have hkn : (k : Int) < (n : Int) := by omega
      by_cases hfit : (n : Int) + (tot m (k + 1) : Nat) ≤ q
      · have hC := Lib.hid (fun W => sz_ok W a2 (rAt m k).length c2 (q - (n : Int) - (tot m k : Nat)) (by omega) (by rw [tot] at hfit; omega))
        rw [e1] at hC
        have g0 : 0 ≤ q - (n : Int) - (tot m (k + 1) : Nat) := by omega
        obtain ⟨y, hy⟩ : ∃ y, q - (n : Int) - (tot m (k + 1) : Nat) = y := ⟨_, rfl⟩
        rw [hy] at hC g0
        rw [hx] at hC e1 ⊢
        obtain ⟨l, hl2⟩ : ∃ l, (rAt m k).length = l := ⟨_, rfl⟩
        rw [hl2] at hC s0
        clear hg hu e1 hx hl2
        go_wp2_with fail
        refine (hC.out _).mono ?_
        rintro r3 w3 ⟨rfl, rfl⟩
        go_wp2
        go_roundw
        case rel => exact ⟨k + 1, by omega, by go_num, by rw [hy], hfit, by (repeat (first | exact Below.refl _ _ | assumption | refine bchain (by assumption) ?_ | refine balloc ?_ _ | apply Below.drew | apply below_drewN | (refine Below.alloc ?_ (by (try simp) <;> omega) _) | (refine Below.setCell ?_ (by (try simp) <;> omega) _)))⟩
        case measure => simp [intOf]; omega
      · have hC := Lib.hid (fun W => sz_long W a2 (rAt m k).length c2 (q - (n : Int) - (tot m k : Nat)) (by omega) (by omega) (by rw [tot] at hfit; omega) (by omega))
        rw [hx] at hC ⊢
        obtain ⟨l, hl2⟩ : ∃ l, (rAt m k).length = l := ⟨_, rfl⟩
        rw [hl2] at hC s0
        clear hg hu e1 hx hl2 hu1 hu2
        go_wp2_with fail
        refine (hC.out _).mono ?_
        rintro r3 w3 ⟨rfl, rfl⟩
        go_wp2
        go_ret
        exact ⟨rfl, by (repeat (first | exact Below.refl _ _ | assumption | refine bchain (by assumption) ?_ | refine balloc ?_ _ | apply Below.drew | apply below_drewN | (refine Below.alloc ?_ (by (try simp) <;> omega) _) | (refine Below.setCell ?_ (by (try simp) <;> omega) _)))⟩
theorem toMs_empty (a : Option Addr) (cap : Nat) :
    Calls Tryd.prog 9 #[.slice a 0 cap] w fun r w' => (∃ v, r = .returned v ∧ SlM w' v []) ∧ Below w.heap.size w w' := by
  obtain ⟨i0, hi0, hz0, hs0, hb0⟩ := info_parts info_row
  have hmk : ∀ W : World, (Instr.makeSlice 25 (.int .i64 0) (.int .i64 0)).run Tryd.prog W = .ok (.slice (some ⟨W.heap.size, 0, none⟩) 0 0) (W.alloc (.cells (madeCells #[.slice none 0 0] (0 * 1)) 60)) := fun W => by
    have hr := run_make (P := Tryd.prog) W 25 60 i0 (.slice none 0 0) Tryd.underlying25 hi0 hz0 .i64 .i64 ((0 : Nat) : Int) ((0 : Nat) : Int) (by omega) (by omega) (by rw [hb0]; omega) (by omega)
    simp only [Int.toNat_natCast, hs0] at hr
    exact hr
  clear hi0 hz0 hs0 hb0
  go_enter Tryd.func9, Tryd.ntmps9
  go_wp2
  go_loopw [4] (fun i wr => i = .int .i64 0 ∧ Below w.heap.size w wr) (fun _ _ => 0)
  case atStart => exact ⟨rfl, by (repeat (first | exact Below.refl _ _ | assumption | refine bchain (by assumption) ?_ | refine balloc ?_ _ | apply Below.drew | apply below_drewN | (refine Below.alloc ?_ (by (try simp) <;> omega) _) | (refine Below.setCell ?_ (by (try simp) <;> omega) _)))⟩
  case round =>
    obtain ⟨rfl, hb⟩ := hrel
    go_wp2
    go_ret
    exact ⟨⟨_, rfl, _, _, rfl, by simp, by simp, fun c => absurd rfl c⟩, hb⟩
set_option maxHeartbeats 1000000 in
theorem toMs_some (b off cap : Nat) (m : List (List (Int × Int))) (h1 : 0 < m.length) (h2 : m.length ≤ cap) (hm : m.length ≤ 1048576) (hr : ∀ i, i < m.length → (rAt m i).length ≤ 1048576) (hb : b < w.heap.size) (hc : ∀ i, i < m.length → Row w b off (rAt m i) i) :
    Calls Tryd.prog 9 #[.slice (some ⟨b, off, none⟩) m.length cap] w fun r w' => (∃ v, r = .returned v ∧ SlM w' v m) ∧ Below w.heap.size w w' := by
  obtain ⟨i0, hi0, hz0, hs0, hb0⟩ := info_parts info_row
  obtain ⟨O, hO⟩ : ∃ O, O = Obj.cells (madeCells #[.slice none 0 0] (m.length * 1)) 60 := ⟨_, rfl⟩
  obtain ⟨n, hn⟩ : ∃ n, n = m.length := ⟨_, rfl⟩
  rw [← hn] at h1 h2 hm hO hr ⊢
  have hmk : ∀ W : World, (Instr.makeSlice 25 (.int .i64 n) (.int .i64 n)).run Tryd.prog W = .ok (.slice (some ⟨W.heap.size, 0, none⟩) n n) (W.alloc O) := fun W => by
    have hr := run_make (P := Tryd.prog) W 25 60 i0 (.slice none 0 0) Tryd.underlying25 hi0 hz0 .i64 .i64 (n : Int) (n : Int) (by omega) (by omega) (by rw [hb0]; omega) (by omega)
    simp only [Int.toNat_natCast, hs0] at hr
    rw [hO]
    exact hr
  clear hi0 hz0 hs0 hb0
  replace hO := Lib.hid hO
  replace hn := Lib.hid hn
  replace hc := Lib.hid hc
  replace hr := Lib.hid hr
  go_enter Tryd.func9, Tryd.ntmps9
  go_wp2
  go_loopw [4] (fun i wr => ∃ k : Nat, k ≤ n ∧ i = .int .i64 k ∧ HalfM wr w.heap.size k m ∧ (∀ o, wr.frozen? ⟨w.heap.size, o, none⟩ = false) ∧ w.heap.size < wr.heap.size ∧ Below w.heap.size w wr) (fun i _ => n - (intOf i).toNat)
  case atStart => exact ⟨0, by omega, rfl, by rw [hO.out]; exact madeM _ _ _ _ _ rfl hn.out.symm, fun o => by rw [hO.out]; simp, by simp, by (repeat (first | exact Below.refl _ _ | assumption | refine bchain (by assumption) ?_ | refine balloc ?_ _ | apply Below.drew | apply below_drewN | (refine Below.alloc ?_ (by (try simp) <;> omega) _) | (refine Below.setCell ?_ (by (try simp) <;> omega) _)))⟩
  case round =>
    obtain ⟨k, hk, rfl, hh, hf, hz, hB⟩ := hrel
    by_cases hlt : k < n
    · obtain ⟨u, hu, hSu⟩ := hc.out k (by have := hn.out; omega)
      have s0 : wr.cell? ⟨b, off + k, none⟩ = some u := (hB.cell (p := ⟨b, _, none⟩) hb).trans hu
      have hT := Lib.hid (toGs_any wr u (rAt m k) (hSu.below hB) (hr.out k hlt))
      have hset := Lib.hid (fun (W : World) (v : Value) (h : HalfM W w.heap.size k m) (hv : SlG W v (rAt m k)) => h.set (k := k) (by have := hn.out; omega) hv)
      obtain ⟨a2, c2, rfl, _⟩ := hSu
      obtain ⟨l, hl2⟩ : ∃ l, (rAt m k).length = l := ⟨_, rfl⟩
      rw [hl2] at hT s0
      clear hu hl2
      replace hh := Lib.hid hh
      replace hf := Lib.hid hf
      go_wp2_with fail
      refine hT.out.mono ?_
      rintro r3 w3 ⟨⟨v3, rfl, hv3⟩, hb3⟩
      have hh3 := hh.out.below hb3 hz
      have hz3 := Nat.lt_of_lt_of_le hz hb3.size
      have ht := hh3 k (by have := hn.out; omega)
      rw [if_neg (by omega)] at ht
      have hf3 : ∀ o, w3.frozen? ⟨w.heap.size, o, none⟩ = false := fun o => (hb3.frozen (p := ⟨w.heap.size, o, none⟩) hz).trans (hf.out o)
      have f0 := hf3 k
      have hn2 := Lib.hid (hset.out w3 v3 hh3 hv3)
      replace hf3 := Lib.hid hf3
      obtain ⟨a4, c4, rfl, _⟩ := hv3
      clear hh3
      go_wp2
      go_roundw
      case rel => exact ⟨k + 1, by omega, by go_num, hn2.out, fun o => by simp [hf3.out o], by simp; omega, by (repeat (first | exact Below.refl _ _ | assumption | refine bchain (by assumption) ?_ | refine balloc ?_ _ | apply Below.drew | apply below_drewN | (refine Below.alloc ?_ (by (try simp) <;> omega) _) | (refine Below.setCell ?_ (by (try simp) <;> omega) _)))⟩
      case measure => simp [intOf]; omega
    · have hd := decide_eq_false (show ¬ ((k : Int) < (n : Int)) by omega)
      obtain rfl : k = n := by omega
      replace hh := Lib.hid hh
      replace hf := Lib.hid hf
      go_wp2
      go_ret
      refine ⟨⟨_, rfl, ?_⟩, hB⟩
      have e := hn.out
      subst e
      exact HalfM.done hh.out hz (Nat.le_refl _) (by omega)
theorem toMs_any (v : Value) (m : List (List (Int × Int))) (h : SlM w v m) (hm : m.length ≤ 1048576) (hr : ∀ i, i < m.length → (rAt m i).length ≤ 1048576) :
    Calls Tryd.prog 9 #[v] w fun r w' => (∃ u, r = .returned u ∧ SlM w' u m) ∧ Below w.heap.size w w' := by
  obtain ⟨a, cap, rfl, h1, h2, h3⟩ := h
  cases m with
  | nil => exact toMs_empty w a cap
  | cons z zs =>
    obtain ⟨b, off, rfl, hb, hc⟩ := h3 (by simp)
    exact toMs_some w b off cap (z :: zs) (by simp) h1 hm hr hb hc
theorem eqMs_empty (a a' : Option Addr) (cap cap' : Nat) :
    Calls Tryd.prog 11 #[.slice a 0 cap, .slice a' 0 cap'] w fun r w' => r = .returned (.bool true) ∧ Below w.heap.size w w' := by
  go_enter Tryd.func11, Tryd.ntmps11
  go_wp2
  go_loopw [5] (fun i wr => i = .int .i64 0 ∧ Below w.heap.size w wr) (fun _ _ => 0)
  case atStart => exact ⟨rfl, by (repeat (first | exact Below.refl _ _ | assumption | refine bchain (by assumption) ?_ | refine balloc ?_ _ | apply Below.drew | apply below_drewN | (refine Below.alloc ?_ (by (try simp) <;> omega) _) | (refine Below.setCell ?_ (by (try simp) <;> omega) _)))⟩
  case round =>
    obtain ⟨rfl, hb⟩ := hrel
    go_wp2
    go_ret
    exact ⟨rfl, hb⟩
set_option maxHeartbeats 1000000 in
theorem eqMs_some (b off cap b' off' cap' : Nat) (m : List (List (Int × Int))) (h1 : 0 < m.length) (hm : m.length ≤ 1048576) (hr : ∀ i, i < m.length → (rAt m i).length ≤ 1048576) (hb : b < w.heap.size) (hb' : b' < w.heap.size)
    (hc : ∀ i, i < m.length → Row w b off (rAt m i) i) (hc' : ∀ i, i < m.length → Row w b' off' (rAt m i) i) :
    Calls Tryd.prog 11 #[.slice (some ⟨b, off, none⟩) m.length cap, .slice (some ⟨b', off', none⟩) m.length cap'] w fun r w' => r = .returned (.bool true) ∧ Below w.heap.size w w' := by
  obtain ⟨n, hn⟩ : ∃ n, n = m.length := ⟨_, rfl⟩
  rw [← hn] at h1 hm hr ⊢
  replace hn := Lib.hid hn
  replace hc := Lib.hid hc
  replace hc' := Lib.hid hc'
  replace hr := Lib.hid hr
  go_enter Tryd.func11, Tryd.ntmps11
  go_wp2
  go_loopw [5] (fun i wr => ∃ k : Nat, k ≤ n ∧ i = .int .i64 k ∧ Below w.heap.size w wr) (fun i _ => n - (intOf i).toNat)
  case atStart => exact ⟨0, by omega, rfl, by (repeat (first | exact Below.refl _ _ | assumption | refine bchain (by assumption) ?_ | refine balloc ?_ _ | apply Below.drew | apply below_drewN | (refine Below.alloc ?_ (by (try simp) <;> omega) _) | (refine Below.setCell ?_ (by (try simp) <;> omega) _)))⟩
  case round =>
    obtain ⟨k, hk, rfl, hB⟩ := hrel
    by_cases hlt : k < n
    · obtain ⟨u, hu, hSu⟩ := hc.out k (by have := hn.out; omega)
      obtain ⟨u', hu', hSu'⟩ := hc'.out k (by have := hn.out; omega)
      have s0 : wr.cell? ⟨b, off + k, none⟩ = some u := (hB.cell (p := ⟨b, _, none⟩) hb).trans hu
      have s1 : wr.cell? ⟨b', off' + k, none⟩ = some u' := (hB.cell (p := ⟨b', _, none⟩) hb').trans hu'
      have hE := Lib.hid (eqGs_any wr.drew u u' (rAt m k) ((hSu.below hB).below (by (repeat (first | exact Below.refl _ _ | assumption | refine bchain (by assumption) ?_ | refine balloc ?_ _ | apply Below.drew | apply below_drewN | (refine Below.alloc ?_ (by (try simp) <;> omega) _) | (refine Below.setCell ?_ (by (try simp) <;> omega) _))))) ((hSu'.below hB).below (by (repeat (first | exact Below.refl _ _ | assumption | refine bchain (by assumption) ?_ | refine balloc ?_ _ | apply Below.drew | apply below_drewN | (refine Below.alloc ?_ (by (try simp) <;> omega) _) | (refine Below.setCell ?_ (by (try simp) <;> omega) _))))) (hr.out k hlt))
      obtain ⟨a2, c2, rfl, _⟩ := hSu
      obtain ⟨a3, c3, rfl, _⟩ := hSu'
      obtain ⟨l, hl2⟩ : ∃ l, (rAt m k).length = l := ⟨_, rfl⟩
      rw [hl2] at hE s0 s1
      have hk1 : (k : Int) < (n : Int) := by omega
      clear hu hu' hl2
      go_wp2
      go_still_tail 8, (by kernel_rfl)
      change wpList _ _ _ _ _ wr.drew
      go_wp2_with (go_at_call 35; refine (hE.out).mono ?_; rintro r3 w3 ⟨rfl, hb3⟩)
      go_roundw
      case rel => exact ⟨k + 1, by omega, by go_num, by (repeat (first | exact Below.refl _ _ | assumption | refine bchain (by assumption) ?_ | refine balloc ?_ _ | apply Below.drew | apply below_drewN | (refine Below.alloc ?_ (by (try simp) <;> omega) _) | (refine Below.setCell ?_ (by (try simp) <;> omega) _)))⟩
      case measure => simp [intOf]; omega
    · have hd := decide_eq_false (show ¬ ((k : Int) < (n : Int)) by omega)
      go_wp2
      go_ret
      exact ⟨rfl, hB⟩
theorem eqMs_any (u v : Value) (m : List (List (Int × Int))) (h : SlM w u m) (h' : SlM w v m) (hm : m.length ≤ 1048576) (hr : ∀ i, i < m.length → (rAt m i).length ≤ 1048576) :
    Calls Tryd.prog 11 #[u, v] w fun r w' => r = .returned (.bool true) ∧ Below w.heap.size w w' := by
  obtain ⟨a, cap, rfl, h1, h2, h3⟩ := h
  obtain ⟨a', cap', rfl, h1', h2', h3'⟩ := h'
  cases m with
  | nil => exact eqMs_empty w a a' cap cap'
  | cons z zs =>
    obtain ⟨b, off, rfl, hb, hc⟩ := h3 (by simp)
    obtain ⟨b', off', rfl, hb', hc'⟩ := h3' (by simp)
    exact eqMs_some w b off cap b' off' cap' (z :: zs) (by simp) hm hr hb hb' hc hc'
end
end Go.Proofs.YtiedombphcdpbaaDoor.Fr
/-
  'limited': what a function that builds something returns, or, if it has thrown that a fraction is too large, ErrLimit.
-/
namespace Go.Proofs.YtiedombphcdpbaaDoor.Fr
open Go.RowKit
set_option maxRecDepth 100000

theorem catch_pan (B : Nat) (x : Value) (older : List PanicEntry) (w : World) (hB : B < w.heap.size) (hc : w.cell? ⟨B, 0, none⟩ = some x) (hz : w.frozen? ⟨B, 0, none⟩ = false) :
    CallsD Tryd.prog 157 #[.pointer (some ⟨B, 0, none⟩)] (.panicking ({ v := .iface 213 (.agg #[]), recovered := false } :: older)) w fun e u' w' =>
      e = .returned (.tuple #[]) ∧ u' = .panicking ({ v := .iface 213 (.agg #[]), recovered := true } :: older) ∧ w' = (w.setCell ⟨B, 0, none⟩ (.int .i64 3)).alloc (.cells #[] 213) := by
  refine callsD_of_wpS Tryd.func157 rfl fun c₀ cs hu => ?_
  apply wpS_seq
  apply wpS_region
  simp [wpOpsS, go_sem, recoverD, hu, Tryd.ntmps157, Exit.thenS]
  have hta : ∀ W : World, (Instr.typeAssert (.iface 213 (.agg #[])) 20 205 true).run Tryd.prog W = .ok (.tuple #[.iface 213 (.agg #[]), .bool true]) W := fun _ => by kernel_rfl
  have hmt : ∀ W : World, (method 327 213 (.agg #[]) "loop.example/g01169/impl.code").run Tryd.prog W = .ok (179, .agg #[]) W := fun _ => by kernel_rfl
  have hc1 : (w.alloc (.cells #[] 213)).cell? ⟨B, 0, none⟩ = some x := (World.cell?_alloc_old _ _ _ (by show B ≠ _; omega)).trans hc
  have hz1 : (w.alloc (.cells #[] 213)).frozen? ⟨B, 0, none⟩ = false := (((Below.refl w.heap.size w).alloc (Nat.le_refl _) _).frozen (p := ⟨B, 0, none⟩) hB).trans hz
  apply wpS_of_wp
  change Code.wp _ _ _ { tmps := #[.pointer (some ⟨B, 0, none⟩), .iface 213 (.agg #[]), undef, undef, .iface 213 (.agg #[]), undef, undef, undef, undef, undef, undef, undef, undef, undef, undef, undef], defers := [] } w
  go_wp2
  simp [bodyPostS, results, Tryd.results157]

theorem catch_idle (B : Nat) (w : World) :
    CallsD Tryd.prog 157 #[.pointer (some ⟨B, 0, none⟩)] .returning w fun e u' w' => e = .returned (.tuple #[]) ∧ u' = .returning ∧ w' = w := by
  refine callsD_of_wpS Tryd.func157 rfl fun c₀ cs hu => ?_
  apply wpS_seq
  apply wpS_region
  simp [wpOpsS, go_sem, recoverD, hu, Tryd.ntmps157, Exit.thenS]
  have hta : ∀ W : World, (Instr.typeAssert .nilIface 20 205 true).run Tryd.prog W = .ok (.tuple #[.nilIface, .bool false]) W := fun _ => by kernel_rfl
  have hne : ∀ W : World, (binOp .neq 20 .nilIface .nilIface).run Tryd.prog W = .ok (.bool false) W := fun _ => by kernel_rfl
  apply wpS_of_wp
  change Code.wp _ _ _ { tmps := #[.pointer (some ⟨B, 0, none⟩), .nilIface, undef, undef, .nilIface, undef, undef, undef, undef, undef, undef, undef, undef, undef, undef, undef], defers := [] } w
  go_wp2
  cases c₀
  simp_all [bodyPostS, results, Tryd.results157]

theorem lim_some (G : FuncId) (caps : Array Value) (eg : ∀ args w, (callFunc G args).run Tryd.prog w = .ok (.enter G args) w) (x : Int × Int) (w : World)
    (hG : ∀ W, Below w.heap.size w W → Calls Tryd.prog G caps W fun r w' => r = .returned (fv x) ∧ Below W.heap.size W w') :
    Calls Tryd.prog 152 #[.func (.func G) #[] caps] w fun r w' => r = .returned (lv (some x)) ∧ Below w.heap.size w w' := by
  replace hG := Lib.hid hG
  have hmf : ∀ (fn : Fn) (first cap : Array Value) (w : World), (Instr.makeFunc fn first cap).run Tryd.prog w = .ok (.func fn first cap) w := fun _ _ _ _ => rfl
  obtain ⟨x1, x2⟩ := x
  go_enter_defers Tryd.func152, Tryd.ntmps152
  go_wp2_with fail
  refine (hG.out _ (by (repeat (first | exact Below.refl _ _ | assumption | refine bchain (by assumption) ?_ | refine balloc ?_ _ | apply Below.drew | apply below_drewN | (refine Below.alloc ?_ (by (try simp) <;> omega) _) | (refine Below.setCell ?_ (by (try simp) <;> omega) _))))).mono ?_
  rintro r1 w1 ⟨rfl, hb1⟩
  obtain ⟨hc1, hz1⟩ := bkeep hb1 w.heap.size (by simp <;> omega)
  obtain ⟨hc2, hz2⟩ := bkeep hb1 (w.heap.size + 1) (by simp)
  have hf1 := bkeepz hb1 w.heap.size (by simp <;> omega)
  have hf2 := bkeepz hb1 (w.heap.size + 1) (by simp)
  unfold fv
  go_wp2
  refine leaves_cons (f := 157) (args := #[.pointer (some ⟨w.heap.size + 1, 0, none⟩)]) (by simp) (by simp [go_sem]) ?_
  refine (catch_idle (w.heap.size + 1) _).mono ?_
  rintro e u' w'' ⟨rfl, rfl, rfl⟩
  have g0 : w1.cell? ⟨w.heap.size, 0, none⟩ = some (.int .i64 0) := (hc1 0).trans (by simp)
  have g1 : w1.cell? ⟨w.heap.size, 1, none⟩ = some (.int .i64 0) := (hc1 1).trans (by simp)
  have g2 : w1.cell? ⟨w.heap.size + 1, 0, none⟩ = some (.int .i64 0) := (hc2 0).trans (by simp)
  have k0 : (w1.setCell ⟨w.heap.size, 0, none⟩ (.int .i64 x1)).cell? ⟨w.heap.size, 0, none⟩ = some (.int .i64 x1) := World.cell?_setCell_same _ _ _ g0
  have k1 : ((w1.setCell ⟨w.heap.size, 0, none⟩ (.int .i64 x1)).setCell ⟨w.heap.size, 1, none⟩ (.int .i64 x2)).cell? ⟨w.heap.size, 1, none⟩ = some (.int .i64 x2) :=
    World.cell?_setCell_same _ _ _ ((World.cell?_setCell_other _ _ _ _ (by simp)).trans g1)
  have k2 : (((w1.setCell ⟨w.heap.size, 0, none⟩ (.int .i64 x1)).setCell ⟨w.heap.size, 1, none⟩ (.int .i64 x2)).setCell ⟨w.heap.size + 1, 0, none⟩ (.int .i64 0)).cell? ⟨w.heap.size + 1, 0, none⟩ = some (.int .i64 0) :=
    World.cell?_setCell_same _ _ _ ((World.cell?_setCell_other _ _ _ _ (by simp)).trans ((World.cell?_setCell_other _ _ _ _ (by simp)).trans g2))
  simp [Leaves, settle, results, Tryd.results152, go_sem, k0, k1, k2]
  exact ⟨rfl, by (repeat (first | exact Below.refl _ _ | assumption | refine bchain (by assumption) ?_ | refine balloc ?_ _ | apply Below.drew | apply below_drewN | (refine Below.alloc ?_ (by (try simp) <;> omega) _) | (refine Below.setCell ?_ (by (try simp) <;> omega) _)))⟩
theorem lim_none (G : FuncId) (caps : Array Value) (eg : ∀ args w, (callFunc G args).run Tryd.prog w = .ok (.enter G args) w) (w : World)
    (hG : ∀ W, Below w.heap.size w W → Calls Tryd.prog G caps W fun r w' => r = tooBig ∧ Below W.heap.size W w') :
    Calls Tryd.prog 152 #[.func (.func G) #[] caps] w fun r w' => r = .returned (lv none) ∧ Below w.heap.size w w' := by
  replace hG := Lib.hid hG
  have hmf : ∀ (fn : Fn) (first cap : Array Value) (w : World), (Instr.makeFunc fn first cap).run Tryd.prog w = .ok (.func fn first cap) w := fun _ _ _ _ => rfl
  go_enter_defers Tryd.func152, Tryd.ntmps152
  go_wp2_with fail
  refine (hG.out _ (by (repeat (first | exact Below.refl _ _ | assumption | refine bchain (by assumption) ?_ | refine balloc ?_ _ | apply Below.drew | apply below_drewN | (refine Below.alloc ?_ (by (try simp) <;> omega) _) | (refine Below.setCell ?_ (by (try simp) <;> omega) _))))).mono ?_
  rintro r1 w1 ⟨rfl, hb1⟩
  obtain ⟨hc1, hz1⟩ := bkeep hb1 w.heap.size (by simp <;> omega)
  obtain ⟨hc2, hz2⟩ := bkeep hb1 (w.heap.size + 1) (by simp)
  have hf1 := bkeepz hb1 w.heap.size (by simp <;> omega)
  have hf2 := bkeepz hb1 (w.heap.size + 1) (by simp)
  have g0 : w1.cell? ⟨w.heap.size, 0, none⟩ = some (.int .i64 0) := (hc1 0).trans (by simp)
  have g1 : w1.cell? ⟨w.heap.size, 1, none⟩ = some (.int .i64 0) := (hc1 1).trans (by simp)
  have g2 : w1.cell? ⟨w.heap.size + 1, 0, none⟩ = some (.int .i64 0) := (hc2 0).trans (by simp)
  have z2 : w1.frozen? ⟨w.heap.size + 1, 0, none⟩ = false := (hf2 0).trans (by simp)
  unfold tooBig
  go_wp2
  refine leaves_cons (f := 157) (args := #[.pointer (some ⟨w.heap.size + 1, 0, none⟩)]) (by simp) (by simp [go_sem]) ?_
  refine (catch_pan (w.heap.size + 1) _ [] _ hz2 g2 z2).mono ?_
  rintro e u' w'' ⟨rfl, rfl, rfl⟩
  have k0 : ((w1.setCell ⟨w.heap.size + 1, 0, none⟩ (.int .i64 3)).alloc (.cells #[] 213)).cell? ⟨w.heap.size, 0, none⟩ = some (.int .i64 0) :=
    (World.cell?_alloc_old _ _ _ (by simp; omega)).trans ((World.cell?_setCell_other _ _ _ _ (by simp)).trans g0)
  have k1 : ((w1.setCell ⟨w.heap.size + 1, 0, none⟩ (.int .i64 3)).alloc (.cells #[] 213)).cell? ⟨w.heap.size, 1, none⟩ = some (.int .i64 0) :=
    (World.cell?_alloc_old _ _ _ (by simp; omega)).trans ((World.cell?_setCell_other _ _ _ _ (by simp)).trans g1)
  have k2 : ((w1.setCell ⟨w.heap.size + 1, 0, none⟩ (.int .i64 3)).alloc (.cells #[] 213)).cell? ⟨w.heap.size + 1, 0, none⟩ = some (.int .i64 3) :=
    (World.cell?_alloc_old _ _ _ (by simp; omega)).trans (World.cell?_setCell_same _ _ _ g2)
  simp [Leaves, settle, results, Tryd.results152, go_sem, k0, k1, k2]
  exact ⟨rfl, by (repeat (first | exact Below.refl _ _ | assumption | refine bchain (by assumption) ?_ | refine balloc ?_ _ | apply Below.drew | apply below_drewN | (refine Below.alloc ?_ (by (try simp) <;> omega) _) | (refine Below.setCell ?_ (by (try simp) <;> omega) _)))⟩
theorem lim_any (G : FuncId) (caps : Array Value) (eg : ∀ args w, (callFunc G args).run Tryd.prog w = .ok (.enter G args) w) (o : Option (Int × Int)) (w : World)
    (hG : ∀ W, Below w.heap.size w W → Calls Tryd.prog G caps W fun r w' => r = qe o ∧ Below W.heap.size W w') :
    Calls Tryd.prog 152 #[.func (.func G) #[] caps] w fun r w' => r = .returned (lv o) ∧ Below w.heap.size w w' := by
  cases o with
  | some x => exact lim_some G caps eg x w hG
  | none => exact lim_none G caps eg w hG
end Go.Proofs.YtiedombphcdpbaaDoor.Fr
/-
  CONTRACTS: sum, difference, product and quotient of two valid fractions: the program's and the model's.
-/
namespace Go.Proofs.YtiedombphcdpbaaDoor.Fr
open Go.RowKit
set_option maxRecDepth 100000

def addF (a b : Int × Int) : Option (Int × Int) := low (a.1 * b.2 + b.1 * a.2) (a.2 * b.2)
def subF (a b : Int × Int) : Option (Int × Int) := low (a.1 * b.2 - b.1 * a.2) (a.2 * b.2)
def mulF (a b : Int × Int) : Option (Int × Int) := low (a.1 * b.1) (a.2 * b.2)
def divF (a b : Int × Int) : Option (Int × Int) := low (a.1 * b.2) (a.2 * b.1)
def VP (a : Int × Int) : Prop := VF a.1 a.2
theorem VP.b1 {a : Int × Int} (h : VP a) : -1000000000 ≤ a.1 ∧ a.1 ≤ 1000000000 := ⟨h.2.2.1, h.2.2.2.1⟩
theorem VP.b2 {a : Int × Int} (h : VP a) : -1000000000 ≤ a.2 ∧ a.2 ≤ 1000000000 := ⟨by have := h.1; omega, h.2.1⟩
theorem VP.pos {a : Int × Int} (h : VP a) : 1 ≤ a.2 := h.1
theorem add_vp {a b x : Int × Int} (ha : VP a) (hb : VP b) (h : addF a b = some x) : VP x := low_vf (by have := mul_pos_b ha.pos hb.pos; omega) h
theorem sub_vp {a b x : Int × Int} (ha : VP a) (hb : VP b) (h : subF a b = some x) : VP x := low_vf (by have := mul_pos_b ha.pos hb.pos; omega) h
theorem mul_vp {a b x : Int × Int} (ha : VP a) (hb : VP b) (h : mulF a b = some x) : VP x := low_vf (by have := mul_pos_b ha.pos hb.pos; omega) h
theorem div_vp {a b x : Int × Int} (ha : VP a) (hb : b.1 ≠ 0) (h : divF a b = some x) : VP x := low_vf (Int.mul_ne_zero (by have := ha.pos; omega) hb) h
section
variable (w : World)

theorem plus_any (a b : Int × Int) (ha : VP a) (hb : VP b) :
    Calls Tryd.prog 158 #[fv a, fv b] w fun r w' => r = qe (addF a b) ∧ Below w.heap.size w w' := by
  have c1 := mul_b ha.b1 hb.b2
  have c2 := mul_b hb.b1 ha.b2
  have c3 := mul_b ha.b2 hb.b2
  have c4 := mul_pos_b ha.pos hb.pos
  unfold addF
  obtain ⟨a1, a2⟩ := a
  obtain ⟨b1, b2⟩ := b
  unfold fv
  dsimp only at *
  obtain ⟨m1, hm1⟩ : ∃ m1 : Int, a1 * b2 = m1 := ⟨_, rfl⟩
  rw [hm1] at c1 ⊢
  obtain ⟨m2, hm2⟩ : ∃ m2 : Int, b1 * a2 = m2 := ⟨_, rfl⟩
  rw [hm2] at c2 ⊢
  obtain ⟨m3, hm3⟩ : ∃ m3 : Int, a2 * b2 = m3 := ⟨_, rfl⟩
  rw [hm3] at c3 c4 ⊢
  have hQ := Lib.hid (fun W => q_any W (m1 + m2) m3 (by omega) (by omega) (by omega))
  obtain ⟨R, hR⟩ : ∃ R, low (m1 + m2) m3 = R := ⟨_, rfl⟩
  rw [hR] at hQ ⊢
  clear hR ha hb
  go_enter Tryd.func158, Tryd.ntmps158
  go_wp2_with fail
  refine (hQ.out _).mono ?_
  rintro r w1 ⟨rfl, hb1⟩
  cases R with
  | none =>
    unfold qe tooBig
    go_wp2
    exact ⟨rfl, rfl, by (repeat (first | exact Below.refl _ _ | assumption | refine bchain (by assumption) ?_ | refine balloc ?_ _ | apply Below.drew | apply below_drewN | (refine Below.alloc ?_ (by (try simp) <;> omega) _) | (refine Below.setCell ?_ (by (try simp) <;> omega) _)))⟩
  | some x =>
    obtain ⟨x1, x2⟩ := x
    obtain ⟨hk1, hz1⟩ := bkeep hb1 (w.heap.size + 1 + 1) (by simp)
    have hf1 := bkeepz hb1 (w.heap.size + 1 + 1) (by simp)
    unfold qe fv
    go_wp2
    have g0 : w1.cell? ⟨w.heap.size + 1 + 1, 0, none⟩ = some (.int .i64 0) := (hk1 0).trans (by simp [go_sem])
    have g1 : w1.cell? ⟨w.heap.size + 1 + 1, 1, none⟩ = some (.int .i64 0) := (hk1 1).trans (by simp [go_sem])
    have h2 := twoCells g0 g1 (.int .i64 x1) (.int .i64 x2)
    exact bodyPost_ret (v := .agg #[.int .i64 x1, .int .i64 x2]) (by simp [results, Tryd.results158, go_sem, h2.1, h2.2]) rfl ⟨rfl, by (repeat (first | exact Below.refl _ _ | assumption | refine bchain (by assumption) ?_ | refine balloc ?_ _ | apply Below.drew | apply below_drewN | (refine Below.alloc ?_ (by (try simp) <;> omega) _) | (refine Below.setCell ?_ (by (try simp) <;> omega) _)))⟩

theorem splus_any (a b : Int × Int) (ha : VP a) (hb : VP b) :
    Calls Tryd.prog 129 #[fv a, fv b] w fun r w' => r = .returned (lv (addF a b)) ∧ Below w.heap.size w w' := by
  have c1 := mul_b ha.b1 hb.b2
  have c2 := mul_b hb.b1 ha.b2
  have c3 := mul_b ha.b2 hb.b2
  have c4 := mul_pos_b ha.pos hb.pos
  unfold addF
  obtain ⟨a1, a2⟩ := a
  obtain ⟨b1, b2⟩ := b
  unfold fv
  dsimp only at *
  obtain ⟨m1, hm1⟩ : ∃ m1 : Int, a1 * b2 = m1 := ⟨_, rfl⟩
  rw [hm1] at c1 ⊢
  obtain ⟨m2, hm2⟩ : ∃ m2 : Int, b1 * a2 = m2 := ⟨_, rfl⟩
  rw [hm2] at c2 ⊢
  obtain ⟨m3, hm3⟩ : ∃ m3 : Int, a2 * b2 = m3 := ⟨_, rfl⟩
  rw [hm3] at c3 c4 ⊢
  have hQ := Lib.hid (fun W => sl_any W (m1 + m2) m3 (by omega) (by omega) (by omega))
  obtain ⟨R, hR⟩ : ∃ R, low (m1 + m2) m3 = R := ⟨_, rfl⟩
  rw [hR] at hQ ⊢
  clear hR ha hb
  go_enter Tryd.func129, Tryd.ntmps129
  go_wp2_with fail
  refine (hQ.out _).mono ?_
  rintro r w1 ⟨rfl, hb1⟩
  obtain ⟨hk1, hz1⟩ := bkeep hb1 (w.heap.size + 1 + 1) (by simp)
  have hf1 := bkeepz hb1 (w.heap.size + 1 + 1) (by simp)
  cases R with
  | none =>
    unfold lv
    go_wp2
    have g0 : w1.cell? ⟨w.heap.size + 1 + 1, 0, none⟩ = some (.int .i64 0) := (hk1 0).trans (by simp [go_sem])
    have g1 : w1.cell? ⟨w.heap.size + 1 + 1, 1, none⟩ = some (.int .i64 0) := (hk1 1).trans (by simp [go_sem])
    have h2 := twoCells g0 g1 (.int .i64 0) (.int .i64 0)
    exact bodyPost_ret (v := .tuple #[.agg #[.int .i64 0, .int .i64 0], .int .i64 3]) (by simp [results, Tryd.results129, go_sem, h2.1, h2.2]) rfl ⟨rfl, by (repeat (first | exact Below.refl _ _ | assumption | refine bchain (by assumption) ?_ | refine balloc ?_ _ | apply Below.drew | apply below_drewN | (refine Below.alloc ?_ (by (try simp) <;> omega) _) | (refine Below.setCell ?_ (by (try simp) <;> omega) _)))⟩
  | some x =>
    obtain ⟨x1, x2⟩ := x
    unfold lv fv
    go_wp2
    have g0 : w1.cell? ⟨w.heap.size + 1 + 1, 0, none⟩ = some (.int .i64 0) := (hk1 0).trans (by simp [go_sem])
    have g1 : w1.cell? ⟨w.heap.size + 1 + 1, 1, none⟩ = some (.int .i64 0) := (hk1 1).trans (by simp [go_sem])
    have h2 := twoCells g0 g1 (.int .i64 x1) (.int .i64 x2)
    exact bodyPost_ret (v := .tuple #[.agg #[.int .i64 x1, .int .i64 x2], .int .i64 0]) (by simp [results, Tryd.results129, go_sem, h2.1, h2.2]) rfl ⟨rfl, by (repeat (first | exact Below.refl _ _ | assumption | refine bchain (by assumption) ?_ | refine balloc ?_ _ | apply Below.drew | apply below_drewN | (refine Below.alloc ?_ (by (try simp) <;> omega) _) | (refine Below.setCell ?_ (by (try simp) <;> omega) _)))⟩

/-- a fraction with the other sign -/
def oppF (a : Int × Int) : Int × Int := (-a.1, a.2)
theorem opp_vp {a : Int × Int} (h : VP a) : VP (oppF a) := ⟨h.1, h.2.1, by have := h.2.2.2.1; simp [oppF]; omega, by have := h.2.2.1; simp [oppF]; omega, by show Int.gcd (-a.1) a.2 = 1; rw [Int.neg_gcd]; exact h.2.2.2.2⟩
theorem sub_opp (a b : Int × Int) : subF a b = addF a (oppF b) := by unfold subF addF oppF; dsimp only; rw [Int.neg_mul, Int.sub_eq_add_neg]
end
end Go.Proofs.YtiedombphcdpbaaDoor.Fr
namespace Go.Proofs.YtiedombphcdpbaaDoor.Fr
open Go.RowKit
set_option maxRecDepth 100000
theorem eqFr (W : World) (n m e f : Int) : (Op.equalIn 10000 70 (.agg #[.int .i64 n, .int .i64 e]) (.agg #[.int .i64 m, .int .i64 f])).run Tryd.prog W = .ok (n == m && e == f) W := by
  have u3 := Tryd.underlying2
  have hS : Tryd.prog.underlying 70 = some (.struct (Tryd.prog.fieldsOf 70)) := by kernel_rfl
  have hp : Tryd.prog.stoodInHeld 70 = false := by kernel_rfl
  rw [show (10000 : Nat) = 9999 + 1 from rfl, run_equalIn_agg W 9999 70 _ _ hS hp]
  simp only [Program.fieldsOf, Tryd.underlying70]
  go_simp
  by_cases h1 : n = m <;> by_cases h2 : e = f <;> simp [h1, h2]
/-- a zero value and a code -/
def cv (c : Int) : Value := .tuple #[.agg #[.int .i64 0, .int .i64 0], .int .i64 c]
theorem qe_form (o : Option (Int × Int)) : (∃ x y : Int, qe o = .returned (.agg #[.int .i64 x, .int .i64 y])) ∨ qe o = tooBig := by
  cases o with
  | none => exact .inr rfl
  | some x => exact .inl ⟨_, _, rfl⟩
section
variable (w : World)
theorem whole_any (n : Int) :
    Calls Tryd.prog 79 #[.int .i64 n] w fun r w' => r = .returned (.agg #[.int .i64 n, .int .i64 1]) ∧ Below w.heap.size w w' := by
  go_enter Tryd.func79, Tryd.ntmps79
  go_wp2
  exact bodyPost_ret (v := .agg #[.int .i64 n, .int .i64 1]) (by simp [results, Tryd.results79, go_sem]) rfl ⟨rfl, by (repeat (first | exact Below.refl _ _ | assumption | refine bchain (by assumption) ?_ | refine balloc ?_ _ | apply Below.drew | apply below_drewN | (refine Below.alloc ?_ (by (try simp) <;> omega) _) | (refine Below.setCell ?_ (by (try simp) <;> omega) _)))⟩
theorem zero_any :
    Calls Tryd.prog 128 #[] w fun r w' => r = .returned (.agg #[.int .i64 0, .int .i64 1]) ∧ Below w.heap.size w w' := by
  go_enter Tryd.func128, Tryd.ntmps128
  go_wp2
  exact bodyPost_ret (v := .agg #[.int .i64 0, .int .i64 1]) (by simp [results, Tryd.results128, go_sem]) rfl ⟨rfl, by (repeat (first | exact Below.refl _ _ | assumption | refine bchain (by assumption) ?_ | refine balloc ?_ _ | apply Below.drew | apply below_drewN | (refine Below.alloc ?_ (by (try simp) <;> omega) _) | (refine Below.setCell ?_ (by (try simp) <;> omega) _)))⟩
theorem one_any (n : Int) :
    Calls Tryd.prog 94 #[.int .i64 n] w fun r w' => r = .returned (.agg #[.int .i64 n, .int .i64 1]) ∧ Below w.heap.size w w' := by
  go_enter Tryd.func94, Tryd.ntmps94
  go_wp2
  exact bodyPost_ret (v := .agg #[.int .i64 n, .int .i64 1]) (by simp [results, Tryd.results94, go_sem]) rfl ⟨rfl, by (repeat (first | exact Below.refl _ _ | assumption | refine bchain (by assumption) ?_ | refine balloc ?_ _ | apply Below.drew | apply below_drewN | (refine Below.alloc ?_ (by (try simp) <;> omega) _) | (refine Below.setCell ?_ (by (try simp) <;> omega) _)))⟩
end
end Go.Proofs.YtiedombphcdpbaaDoor.Fr
/-
  TWO LISTS OF ROWS HELD AGAINST EACH OTHER: the program's and the model's contracts.
-/
namespace Go.Proofs.YtiedombphcdpbaaDoor.Fr
open Go.RowKit
set_option maxRecDepth 100000

theorem gAt_ext {xs ys : List (Int × Int)} (hl : xs.length = ys.length) (h : ∀ i, i < xs.length → gAt xs i = gAt ys i) : xs = ys := by
  apply List.ext_getElem hl
  intro i h1 h2
  have := h i h1
  simpa [gAt, List.getElem?_eq_getElem h1, List.getElem?_eq_getElem h2] using this
theorem rAt_ext {m n : List (List (Int × Int))} (hl : m.length = n.length) (h : ∀ i, i < m.length → rAt m i = rAt n i) : m = n := by
  apply List.ext_getElem hl
  intro i h1 h2
  have := h i h1
  simpa [rAt, List.getElem?_eq_getElem h1, List.getElem?_eq_getElem h2] using this
section
variable (w : World)
end
end Go.Proofs.YtiedombphcdpbaaDoor.Fr
namespace Go.Proofs.YtiedombphcdpbaaDoor.Fr
open Go.RowKit
set_option maxRecDepth 100000
/-- the rows of a list, where they lie -/
def Rows (w : World) (a : Option Addr) (m : List (List (Int × Int))) : Prop := ∀ i, i < m.length → ∃ b off, a = some ⟨b, off, none⟩ ∧ b < w.heap.size ∧ Row w b off (rAt m i) i
theorem SlM.rows {w : World} {v : Value} {m : List (List (Int × Int))} (h : SlM w v m) : ∃ a cap, v = .slice a m.length cap ∧ Rows w a m := by
  obtain ⟨a, cap, e, _, _, h3⟩ := h
  refine ⟨a, cap, e, fun i hi => ?_⟩
  obtain ⟨b, off, e2, hlt, hc⟩ := h3 (by intro c; rw [c] at hi; simp at hi)
  exact ⟨b, off, e2, hlt, hc i hi⟩
section
variable (w : World)
end
end Go.Proofs.YtiedombphcdpbaaDoor.Fr
namespace Go.Proofs.YtiedombphcdpbaaDoor.Fr
open Go.RowKit
set_option maxRecDepth 100000
/-- the list lies in the world, each element where it is read -/
def Lies (w : World) (a : Option Addr) (gs : List (Int × Int)) : Prop := ∀ i, i < gs.length → ∃ b off, a = some ⟨b, off, none⟩ ∧ b < w.heap.size ∧ GCell w b off (gAt gs i) i
theorem SlG.lies {w : World} {v : Value} {gs : List (Int × Int)} (h : SlG w v gs) : ∃ a cap, v = .slice a gs.length cap ∧ Lies w a gs := by
  obtain ⟨a, cap, e, _, _, h3⟩ := h
  refine ⟨a, cap, e, fun i hi => ?_⟩
  obtain ⟨b, off, e2, hlt, hc⟩ := h3 (by intro c; rw [c] at hi; simp at hi)
  exact ⟨b, off, e2, hlt, hc i hi⟩
theorem Lies.below {w w' : World} {a : Option Addr} {gs : List (Int × Int)} (h : Lies w a gs) (hb : Below w.heap.size w w') : Lies w' a gs := fun i hi => by
  obtain ⟨b, off, e, hlt, hc⟩ := h i hi
  exact ⟨b, off, e, Nat.lt_of_lt_of_le hlt hb.size, (hb.cell (p := ⟨b, _, none⟩) hlt).trans hc.1, (hb.cell (p := ⟨b, _, none⟩) hlt).trans hc.2⟩
def AllV (gs : List (Int × Int)) : Prop := ∀ i, i < gs.length → VP (gAt gs i)
theorem not_allV {gs : List (Int × Int)} (h : ¬ AllV gs) : ∃ m, m < gs.length ∧ (∀ k, k < m → VP (gAt gs k)) ∧ ¬ VP (gAt gs m) := by
  have : ∀ m, m ≤ gs.length → (∀ k, k < m → VP (gAt gs k)) ∨ ∃ m', m' < gs.length ∧ (∀ k, k < m' → VP (gAt gs k)) ∧ ¬ VP (gAt gs m') := by
    intro m
    induction m with
    | zero => intro _; exact .inl (fun k hk => by omega)
    | succ m ih =>
      intro hm
      rcases ih (by omega) with h1 | h1
      · by_cases hf : VP (gAt gs m)
        · refine .inl (fun k hk => ?_)
          by_cases e : k = m
          · rw [e]; exact hf
          · exact h1 k (by omega)
        · exact .inr ⟨m, by omega, h1, hf⟩
      · exact .inr h1
  rcases this gs.length (Nat.le_refl _) with h1 | h1
  · exact absurd h1 h
  · exact h1
section
variable (w : World)

theorem av_t (a : Option Addr) (cap : Nat) (gs : List (Int × Int)) (hm : gs.length ≤ 1048576) (hc : Lies w a gs) (hV : AllV gs) :
    Calls Tryd.prog 64 #[.slice a gs.length cap] w fun r w' => r = .returned (.bool true) ∧ Below w.heap.size w w' := by
  obtain ⟨n, hn⟩ : ∃ n, n = gs.length := ⟨_, rfl⟩
  rw [← hn] at hm ⊢
  replace hc := Lib.hid hc
  replace hV := Lib.hid hV
  replace hn := Lib.hid hn
  go_enter Tryd.func64, Tryd.ntmps64
  go_wp2
  go_loopw [4, 7] (fun _ i wr => ∃ k : Nat, k ≤ n ∧ i = .int .i64 k ∧ Below w.heap.size w wr) (fun _ i _ => n - (intOf i).toNat)
  case atStart => exact ⟨0, by omega, rfl, by (repeat (first | exact Below.refl _ _ | assumption | refine bchain (by assumption) ?_ | refine balloc ?_ _ | apply Below.drew | apply below_drewN | (refine Below.alloc ?_ (by (try simp) <;> omega) _) | (refine Below.setCell ?_ (by (try simp) <;> omega) _)))⟩
  case round =>
    obtain ⟨k, hk, rfl, hB⟩ := hrel
    by_cases hlt : k < n
    · obtain ⟨b, off, rfl, hb, hg⟩ := hc.out k (by have := hn.out; omega)
      have hv : VP (gAt gs k) := hV.out k (by first | exact hlt | (have := hn.out; omega))
      obtain ⟨x, y, hxy⟩ : ∃ x y, gAt gs k = (x, y) := ⟨_, _, rfl⟩
      rw [hxy] at hv
      have s0 : wr.cell? ⟨b, off + k * 2, none⟩ = some (.int .i64 x) := by rw [hB.cell (p := ⟨b, _, none⟩) hb, hg.1, hxy]
      have s1 : wr.cell? ⟨b, off + k * 2 + 1, none⟩ = some (.int .i64 y) := by rw [hB.cell (p := ⟨b, _, none⟩) hb, hg.2, hxy]
      have hC := Lib.hid (fun W => vf_any W x y)
      rw [decide_eq_true (show VF x y from hv)] at hC
      have hkn : (k : Int) < (n : Int) := by omega
      clear hg hxy hv
      go_wp2_with fail
      refine (hC.out _).mono ?_
      rintro r3 w3 ⟨rfl, hb3⟩
      go_wp2
      go_roundw
      case rel => exact ⟨k + 1, by omega, by go_num, by (repeat (first | exact Below.refl _ _ | assumption | refine bchain (by assumption) ?_ | refine balloc ?_ _ | apply Below.drew | apply below_drewN | (refine Below.alloc ?_ (by (try simp) <;> omega) _) | (refine Below.setCell ?_ (by (try simp) <;> omega) _)))⟩
      case measure => simp [intOf]; omega
    · have hd := decide_eq_false (show ¬ ((k : Int) < (n : Int)) by omega)
      obtain rfl : k = n := by omega
      go_wp2
      go_ret
      exact ⟨rfl, hB⟩

theorem av_f (a : Option Addr) (cap : Nat) (gs : List (Int × Int)) (hm : gs.length ≤ 1048576) (hc : Lies w a gs) (m : Nat) (hm2 : m < gs.length) (hV : ∀ k, k < m → VP (gAt gs k)) (hbad : ¬ VP (gAt gs m)) :
    Calls Tryd.prog 64 #[.slice a gs.length cap] w fun r w' => r = .returned (.bool false) ∧ Below w.heap.size w w' := by
  obtain ⟨n, hn⟩ : ∃ n, n = gs.length := ⟨_, rfl⟩
  rw [← hn] at hm ⊢
  replace hc := Lib.hid hc
  replace hV := Lib.hid hV
  replace hn := Lib.hid hn
  rw [← hn.out] at hm2
  replace hbad := Lib.hid hbad
  go_enter Tryd.func64, Tryd.ntmps64
  go_wp2
  go_loopw [4, 7] (fun _ i wr => ∃ k : Nat, k ≤ m ∧ i = .int .i64 k ∧ Below w.heap.size w wr) (fun _ i _ => n - (intOf i).toNat)
  case atStart => exact ⟨0, by omega, rfl, by (repeat (first | exact Below.refl _ _ | assumption | refine bchain (by assumption) ?_ | refine balloc ?_ _ | apply Below.drew | apply below_drewN | (refine Below.alloc ?_ (by (try simp) <;> omega) _) | (refine Below.setCell ?_ (by (try simp) <;> omega) _)))⟩
  case round =>
    obtain ⟨k, hk, rfl, hB⟩ := hrel
    by_cases hlt : k < m
    · obtain ⟨b, off, rfl, hb, hg⟩ := hc.out k (by have := hn.out; omega)
      have hv : VP (gAt gs k) := hV.out k (by first | exact hlt | (have := hn.out; omega))
      obtain ⟨x, y, hxy⟩ : ∃ x y, gAt gs k = (x, y) := ⟨_, _, rfl⟩
      rw [hxy] at hv
      have s0 : wr.cell? ⟨b, off + k * 2, none⟩ = some (.int .i64 x) := by rw [hB.cell (p := ⟨b, _, none⟩) hb, hg.1, hxy]
      have s1 : wr.cell? ⟨b, off + k * 2 + 1, none⟩ = some (.int .i64 y) := by rw [hB.cell (p := ⟨b, _, none⟩) hb, hg.2, hxy]
      have hC := Lib.hid (fun W => vf_any W x y)
      rw [decide_eq_true (show VF x y from hv)] at hC
      have hkn : (k : Int) < (n : Int) := by omega
      clear hg hxy hv
      go_wp2_with fail
      refine (hC.out _).mono ?_
      rintro r3 w3 ⟨rfl, hb3⟩
      go_wp2
      go_roundw
      case rel => exact ⟨k + 1, by omega, by go_num, by (repeat (first | exact Below.refl _ _ | assumption | refine bchain (by assumption) ?_ | refine balloc ?_ _ | apply Below.drew | apply below_drewN | (refine Below.alloc ?_ (by (try simp) <;> omega) _) | (refine Below.setCell ?_ (by (try simp) <;> omega) _)))⟩
      case measure => simp [intOf]; omega
    · obtain rfl : k = m := by omega
      obtain ⟨b, off, rfl, hb, hg⟩ := hc.out k (by have := hn.out; omega)
      have hv := hbad.out
      obtain ⟨x, y, hxy⟩ : ∃ x y, gAt gs k = (x, y) := ⟨_, _, rfl⟩
      rw [hxy] at hv
      have s0 : wr.cell? ⟨b, off + k * 2, none⟩ = some (.int .i64 x) := by rw [hB.cell (p := ⟨b, _, none⟩) hb, hg.1, hxy]
      have s1 : wr.cell? ⟨b, off + k * 2 + 1, none⟩ = some (.int .i64 y) := by rw [hB.cell (p := ⟨b, _, none⟩) hb, hg.2, hxy]
      have hC := Lib.hid (fun W => vf_any W x y)
      rw [decide_eq_false (show ¬ VF x y from hv)] at hC
      have hkn : (k : Int) < (n : Int) := by omega
      clear hg hxy hv
      go_wp2_with fail
      refine (hC.out _).mono ?_
      rintro r3 w3 ⟨rfl, hb3⟩
      go_wp2
      go_ret
      exact ⟨rfl, by (repeat (first | exact Below.refl _ _ | assumption | refine bchain (by assumption) ?_ | refine balloc ?_ _ | apply Below.drew | apply below_drewN | (refine Below.alloc ?_ (by (try simp) <;> omega) _) | (refine Below.setCell ?_ (by (try simp) <;> omega) _)))⟩

theorem sv_t (a : Option Addr) (cap : Nat) (gs : List (Int × Int)) (hm : gs.length ≤ 1048576) (hc : Lies w a gs) (hV : AllV gs) (h6 : gs.length ≤ 256) :
    Calls Tryd.prog 92 #[.slice a gs.length cap] w fun r w' => r = .returned (.bool true) ∧ Below w.heap.size w w' := by
  obtain ⟨n, hn⟩ : ∃ n, n = gs.length := ⟨_, rfl⟩
  rw [← hn] at hm ⊢
  replace hc := Lib.hid hc
  replace hV := Lib.hid hV
  replace hn := Lib.hid hn
  rw [← hn.out] at h6
  have hd6 : decide ((n : Int) ≤ 256) = true := decide_eq_true (by omega)
  go_enter Tryd.func92, Tryd.ntmps92
  go_wp2
  go_loopw [3] (fun i wr => ∃ k : Nat, k ≤ n ∧ i = .int .i64 k ∧ Below w.heap.size w wr) (fun i _ => n - (intOf i).toNat)
  case atStart => exact ⟨0, by omega, rfl, by (repeat (first | exact Below.refl _ _ | assumption | refine bchain (by assumption) ?_ | refine balloc ?_ _ | apply Below.drew | apply below_drewN | (refine Below.alloc ?_ (by (try simp) <;> omega) _) | (refine Below.setCell ?_ (by (try simp) <;> omega) _)))⟩
  case round =>
    obtain ⟨k, hk, rfl, hB⟩ := hrel
    by_cases hlt : k < n
    · obtain ⟨b, off, rfl, hb, hg⟩ := hc.out k (by have := hn.out; omega)
      have hv : VP (gAt gs k) := hV.out k (by first | exact hlt | (have := hn.out; omega))
      obtain ⟨x, y, hxy⟩ : ∃ x y, gAt gs k = (x, y) := ⟨_, _, rfl⟩
      rw [hxy] at hv
      have s0 : wr.cell? ⟨b, off + k * 2, none⟩ = some (.int .i64 x) := by rw [hB.cell (p := ⟨b, _, none⟩) hb, hg.1, hxy]
      have s1 : wr.cell? ⟨b, off + k * 2 + 1, none⟩ = some (.int .i64 y) := by rw [hB.cell (p := ⟨b, _, none⟩) hb, hg.2, hxy]
      have hC := Lib.hid (fun W => ok_any W x y)
      rw [decide_eq_true (show VF x y from hv)] at hC
      have hkn : (k : Int) < (n : Int) := by omega
      clear hg hxy hv
      go_wp2_with fail
      refine (hC.out _).mono ?_
      rintro r3 w3 ⟨rfl, hb3⟩
      go_wp2
      go_roundw
      case rel => exact ⟨k + 1, by omega, by go_num, by (repeat (first | exact Below.refl _ _ | assumption | refine bchain (by assumption) ?_ | refine balloc ?_ _ | apply Below.drew | apply below_drewN | (refine Below.alloc ?_ (by (try simp) <;> omega) _) | (refine Below.setCell ?_ (by (try simp) <;> omega) _)))⟩
      case measure => simp [intOf]; omega
    · have hd := decide_eq_false (show ¬ ((k : Int) < (n : Int)) by omega)
      obtain rfl : k = n := by omega
      go_wp2
      go_ret
      exact ⟨rfl, hB⟩

theorem sv_tl (a : Option Addr) (cap : Nat) (gs : List (Int × Int)) (hm : gs.length ≤ 1048576) (hc : Lies w a gs) (hV : AllV gs) (h6 : 256 < gs.length) :
    Calls Tryd.prog 92 #[.slice a gs.length cap] w fun r w' => r = .returned (.bool false) ∧ Below w.heap.size w w' := by
  obtain ⟨n, hn⟩ : ∃ n, n = gs.length := ⟨_, rfl⟩
  rw [← hn] at hm ⊢
  replace hc := Lib.hid hc
  replace hV := Lib.hid hV
  replace hn := Lib.hid hn
  rw [← hn.out] at h6
  have hd6 : decide ((n : Int) ≤ 256) = false := decide_eq_false (by omega)
  go_enter Tryd.func92, Tryd.ntmps92
  go_wp2
  go_loopw [3] (fun i wr => ∃ k : Nat, k ≤ n ∧ i = .int .i64 k ∧ Below w.heap.size w wr) (fun i _ => n - (intOf i).toNat)
  case atStart => exact ⟨0, by omega, rfl, by (repeat (first | exact Below.refl _ _ | assumption | refine bchain (by assumption) ?_ | refine balloc ?_ _ | apply Below.drew | apply below_drewN | (refine Below.alloc ?_ (by (try simp) <;> omega) _) | (refine Below.setCell ?_ (by (try simp) <;> omega) _)))⟩
  case round =>
    obtain ⟨k, hk, rfl, hB⟩ := hrel
    by_cases hlt : k < n
    · obtain ⟨b, off, rfl, hb, hg⟩ := hc.out k (by have := hn.out; omega)
      have hv : VP (gAt gs k) := hV.out k (by first | exact hlt | (have := hn.out; omega))
      obtain ⟨x, y, hxy⟩ : ∃ x y, gAt gs k = (x, y) := ⟨_, _, rfl⟩
      rw [hxy] at hv
      have s0 : wr.cell? ⟨b, off + k * 2, none⟩ = some (.int .i64 x) := by rw [hB.cell (p := ⟨b, _, none⟩) hb, hg.1, hxy]
      have s1 : wr.cell? ⟨b, off + k * 2 + 1, none⟩ = some (.int .i64 y) := by rw [hB.cell (p := ⟨b, _, none⟩) hb, hg.2, hxy]
      have hC := Lib.hid (fun W => ok_any W x y)
      rw [decide_eq_true (show VF x y from hv)] at hC
      have hkn : (k : Int) < (n : Int) := by omega
      clear hg hxy hv
      go_wp2_with fail
      refine (hC.out _).mono ?_
      rintro r3 w3 ⟨rfl, hb3⟩
      go_wp2
      go_roundw
      case rel => exact ⟨k + 1, by omega, by go_num, by (repeat (first | exact Below.refl _ _ | assumption | refine bchain (by assumption) ?_ | refine balloc ?_ _ | apply Below.drew | apply below_drewN | (refine Below.alloc ?_ (by (try simp) <;> omega) _) | (refine Below.setCell ?_ (by (try simp) <;> omega) _)))⟩
      case measure => simp [intOf]; omega
    · have hd := decide_eq_false (show ¬ ((k : Int) < (n : Int)) by omega)
      obtain rfl : k = n := by omega
      go_wp2
      go_ret
      exact ⟨rfl, hB⟩

theorem sv_f (a : Option Addr) (cap : Nat) (gs : List (Int × Int)) (hm : gs.length ≤ 1048576) (hc : Lies w a gs) (m : Nat) (hm2 : m < gs.length) (hV : ∀ k, k < m → VP (gAt gs k)) (hbad : ¬ VP (gAt gs m)) :
    Calls Tryd.prog 92 #[.slice a gs.length cap] w fun r w' => r = .returned (.bool false) ∧ Below w.heap.size w w' := by
  obtain ⟨n, hn⟩ : ∃ n, n = gs.length := ⟨_, rfl⟩
  rw [← hn] at hm ⊢
  replace hc := Lib.hid hc
  replace hV := Lib.hid hV
  replace hn := Lib.hid hn
  rw [← hn.out] at hm2
  replace hbad := Lib.hid hbad
  go_enter Tryd.func92, Tryd.ntmps92
  go_wp2
  go_loopw [3] (fun i wr => ∃ k : Nat, k ≤ m ∧ i = .int .i64 k ∧ Below w.heap.size w wr) (fun i _ => n - (intOf i).toNat)
  case atStart => exact ⟨0, by omega, rfl, by (repeat (first | exact Below.refl _ _ | assumption | refine bchain (by assumption) ?_ | refine balloc ?_ _ | apply Below.drew | apply below_drewN | (refine Below.alloc ?_ (by (try simp) <;> omega) _) | (refine Below.setCell ?_ (by (try simp) <;> omega) _)))⟩
  case round =>
    obtain ⟨k, hk, rfl, hB⟩ := hrel
    by_cases hlt : k < m
    · obtain ⟨b, off, rfl, hb, hg⟩ := hc.out k (by have := hn.out; omega)
      have hv : VP (gAt gs k) := hV.out k (by first | exact hlt | (have := hn.out; omega))
      obtain ⟨x, y, hxy⟩ : ∃ x y, gAt gs k = (x, y) := ⟨_, _, rfl⟩
      rw [hxy] at hv
      have s0 : wr.cell? ⟨b, off + k * 2, none⟩ = some (.int .i64 x) := by rw [hB.cell (p := ⟨b, _, none⟩) hb, hg.1, hxy]
      have s1 : wr.cell? ⟨b, off + k * 2 + 1, none⟩ = some (.int .i64 y) := by rw [hB.cell (p := ⟨b, _, none⟩) hb, hg.2, hxy]
      have hC := Lib.hid (fun W => ok_any W x y)
      rw [decide_eq_true (show VF x y from hv)] at hC
      have hkn : (k : Int) < (n : Int) := by omega
      clear hg hxy hv
      go_wp2_with fail
      refine (hC.out _).mono ?_
      rintro r3 w3 ⟨rfl, hb3⟩
      go_wp2
      go_roundw
      case rel => exact ⟨k + 1, by omega, by go_num, by (repeat (first | exact Below.refl _ _ | assumption | refine bchain (by assumption) ?_ | refine balloc ?_ _ | apply Below.drew | apply below_drewN | (refine Below.alloc ?_ (by (try simp) <;> omega) _) | (refine Below.setCell ?_ (by (try simp) <;> omega) _)))⟩
      case measure => simp [intOf]; omega
    · obtain rfl : k = m := by omega
      obtain ⟨b, off, rfl, hb, hg⟩ := hc.out k (by have := hn.out; omega)
      have hv := hbad.out
      obtain ⟨x, y, hxy⟩ : ∃ x y, gAt gs k = (x, y) := ⟨_, _, rfl⟩
      rw [hxy] at hv
      have s0 : wr.cell? ⟨b, off + k * 2, none⟩ = some (.int .i64 x) := by rw [hB.cell (p := ⟨b, _, none⟩) hb, hg.1, hxy]
      have s1 : wr.cell? ⟨b, off + k * 2 + 1, none⟩ = some (.int .i64 y) := by rw [hB.cell (p := ⟨b, _, none⟩) hb, hg.2, hxy]
      have hC := Lib.hid (fun W => ok_any W x y)
      rw [decide_eq_false (show ¬ VF x y from hv)] at hC
      have hkn : (k : Int) < (n : Int) := by omega
      clear hg hxy hv
      go_wp2_with fail
      refine (hC.out _).mono ?_
      rintro r3 w3 ⟨rfl, hb3⟩
      go_wp2
      go_ret
      exact ⟨rfl, by (repeat (first | exact Below.refl _ _ | assumption | refine bchain (by assumption) ?_ | refine balloc ?_ _ | apply Below.drew | apply below_drewN | (refine Below.alloc ?_ (by (try simp) <;> omega) _) | (refine Below.setCell ?_ (by (try simp) <;> omega) _)))⟩

/-- a list is valid: it is not too long, and all of its fractions are -/
def Vl (gs : List (Int × Int)) : Prop := gs.length ≤ 256 ∧ AllV gs
theorem ivl_t (v : Value) (gs : List (Int × Int)) (hS : SlG w v gs) (hV : Vl gs) :
    Calls Tryd.prog 151 #[v] w fun r w' => r = .returned (.bool true) ∧ Below w.heap.size w w' := by
  obtain ⟨a, cap, rfl, hL⟩ := hS.lies
  have hC := Lib.hid (av_t w a cap gs (by have := hV.1; omega) hL hV.2)
  have h6 := hV.1
  obtain ⟨l, hl⟩ : ∃ l, gs.length = l := ⟨_, rfl⟩
  rw [hl] at hC h6 ⊢
  have hd : decide ((l : Int) ≤ 256) = true := decide_eq_true (by omega)
  clear hl hS hV
  go_enter Tryd.func151, Tryd.ntmps151
  go_wp2_with fail
  refine (hC.out).mono ?_
  rintro r2 w2 ⟨rfl, hb2⟩
  go_wp2
  go_ret
  exact ⟨rfl, by (repeat (first | exact Below.refl _ _ | assumption | refine bchain (by assumption) ?_ | refine balloc ?_ _ | apply Below.drew | apply below_drewN | (refine Below.alloc ?_ (by (try simp) <;> omega) _) | (refine Below.setCell ?_ (by (try simp) <;> omega) _)))⟩
theorem ivl_f (v : Value) (gs : List (Int × Int)) (hS : SlG w v gs) (hm : gs.length ≤ 1048576) (hV : ¬ Vl gs) :
    Calls Tryd.prog 151 #[v] w fun r w' => r = .returned (.bool false) ∧ Below w.heap.size w w' := by
  obtain ⟨a, cap, rfl, hL⟩ := hS.lies
  by_cases h6 : gs.length ≤ 256
  · obtain ⟨m, h1, h2, h3⟩ := not_allV (fun h => hV ⟨h6, h⟩)
    have hC := Lib.hid (av_f w a cap gs hm hL m h1 h2 h3)
    obtain ⟨l, hl⟩ : ∃ l, gs.length = l := ⟨_, rfl⟩
    rw [hl] at hC h6 ⊢
    have hd : decide ((l : Int) ≤ 256) = true := decide_eq_true (by omega)
    clear hl hS hV h1 h2 h3
    go_enter Tryd.func151, Tryd.ntmps151
    go_wp2_with fail
    refine (hC.out).mono ?_
    rintro r2 w2 ⟨rfl, hb2⟩
    go_wp2
    go_ret
    exact ⟨rfl, by (repeat (first | exact Below.refl _ _ | assumption | refine bchain (by assumption) ?_ | refine balloc ?_ _ | apply Below.drew | apply below_drewN | (refine Below.alloc ?_ (by (try simp) <;> omega) _) | (refine Below.setCell ?_ (by (try simp) <;> omega) _)))⟩
  · obtain ⟨l, hl⟩ : ∃ l, gs.length = l := ⟨_, rfl⟩
    rw [hl] at h6 ⊢
    have hd : decide ((l : Int) ≤ 256) = false := decide_eq_false (by omega)
    clear hl hS hV
    go_enter Tryd.func151, Tryd.ntmps151
    go_wp2
    go_ret
    exact ⟨rfl, by (repeat (first | exact Below.refl _ _ | assumption | refine bchain (by assumption) ?_ | refine balloc ?_ _ | apply Below.drew | apply below_drewN | (refine Below.alloc ?_ (by (try simp) <;> omega) _) | (refine Below.setCell ?_ (by (try simp) <;> omega) _)))⟩
theorem svl_t (v : Value) (gs : List (Int × Int)) (hS : SlG w v gs) (hV : Vl gs) :
    Calls Tryd.prog 92 #[v] w fun r w' => r = .returned (.bool true) ∧ Below w.heap.size w w' := by
  obtain ⟨a, cap, rfl, hL⟩ := hS.lies
  exact sv_t w a cap gs (by have := hV.1; omega) hL hV.2 hV.1
theorem svl_f (v : Value) (gs : List (Int × Int)) (hS : SlG w v gs) (hm : gs.length ≤ 1048576) (hV : ¬ Vl gs) :
    Calls Tryd.prog 92 #[v] w fun r w' => r = .returned (.bool false) ∧ Below w.heap.size w w' := by
  obtain ⟨a, cap, rfl, hL⟩ := hS.lies
  by_cases hA : AllV gs
  · exact sv_tl w a cap gs hm hL hA (Nat.lt_of_not_le fun h => hV ⟨h, hA⟩)
  · obtain ⟨m, h1, h2, h3⟩ := not_allV hA
    exact sv_f w a cap gs hm hL m h1 h2 h3
end
end Go.Proofs.YtiedombphcdpbaaDoor.Fr
/-
  WHICH MATRICES ARE VALID: the program's and the model's contracts.
-/
namespace Go.Proofs.YtiedombphcdpbaaDoor.Fr
open Go.RowKit
set_option maxRecDepth 100000

/-- the first k rows are square and valid -/
def SqV (m : List (List (Int × Int))) (k : Nat) : Prop := ∀ i, i < k → (rAt m i).length = m.length ∧ AllV (rAt m i)
/-- what is before the row k, and before the place j of it, is the same as its mirror -/
def Sym (m : List (List (Int × Int))) (k j : Nat) : Prop := (∀ a b, a < k → b < a → gAt (rAt m a) b = gAt (rAt m b) a) ∧ ∀ b, b < j → gAt (rAt m k) b = gAt (rAt m b) k
def VM (m : List (List (Int × Int))) : Prop := m.length ≤ 8 ∧ SqV m m.length ∧ Sym m m.length 0
theorem SqV.succ {m : List (List (Int × Int))} {k : Nat} (h : SqV m k) (hk : (rAt m k).length = m.length ∧ AllV (rAt m k)) : SqV m (k + 1) := fun i hi => by
  by_cases e : i = k
  · rw [e]; exact hk
  · exact h i (by omega)
section
variable (w : World)
set_option maxHeartbeats 2000000 in
theorem ivm_any (v : Value) (m : List (List (Int × Int))) (hS : SlM w v m) (hm : m.length ≤ 1048576) (hr : ∀ i, i < m.length → (rAt m i).length ≤ 1048576) (B : Bool) (hBt : VM m → B = true) (hBf : ¬ VM m → B = false) :
    Calls Tryd.prog 31 #[v] w fun r w' => r = .returned (.bool B) ∧ Below w.heap.size w w' := by
  obtain ⟨a, cap, rfl, hR⟩ := hS.rows
  clear hS
  replace hBt := Lib.hid hBt
  replace hBf := Lib.hid hBf
  obtain ⟨l, hn⟩ : ∃ l, l = m.length := ⟨_, rfl⟩
  rw [← hn] at hm hr ⊢
  replace hR := Lib.hid hR
  replace hr := Lib.hid hr
  replace hn := Lib.hid hn
  by_cases h8 : l ≤ 8
  · have hd8 : decide ((8 : Int) < (l : Int)) = false := decide_eq_false (by omega)
    go_enter Tryd.func31, Tryd.ntmps31
    go_wp2
    go_loopw [4, 13] (fun _ i wr => ∃ k : Nat, k ≤ l ∧ i = .int .i64 k ∧ SqV m k ∧ Below w.heap.size w wr) (fun _ i _ => l - (intOf i).toNat)
    case atStart => exact ⟨0, by omega, rfl, fun j hj => by omega, by (repeat (first | exact Below.refl _ _ | assumption | refine bchain (by assumption) ?_ | refine balloc ?_ _ | apply Below.drew | apply below_drewN | (refine Below.alloc ?_ (by (try simp) <;> omega) _) | (refine Below.setCell ?_ (by (try simp) <;> omega) _)))⟩
    case round =>
      obtain ⟨k, hk, rfl, hsq, hB⟩ := hrel
      by_cases hlt : k < l
      · obtain ⟨b, off, rfl, hb, u, hu, hSu⟩ := hR.out k (by have := hn.out; omega)
        have s0 : wr.cell? ⟨b, off + k, none⟩ = some u := (hB.cell (p := ⟨b, _, none⟩) hb).trans hu
        have hrk := hr.out k hlt
        obtain ⟨a2, c2, rfl, hLi⟩ := (hSu.below hB).lies
        obtain ⟨l2, hl2⟩ : ∃ l2, (rAt m k).length = l2 := ⟨_, rfl⟩
        have hkn : (k : Int) < (l : Int) := by omega
        clear hu hSu
        replace hsq := Lib.hid hsq
        by_cases hlr : l2 = l
        · by_cases hV : AllV (rAt m k)
          · have hC := Lib.hid (av_t wr a2 c2 (rAt m k) hrk hLi hV)
            rw [hl2] at hC s0 hrk
            have hnx := Lib.hid (hsq.out.succ ⟨hl2.trans (hlr.trans hn.out), hV⟩)
            subst hlr
            clear hV hl2
            go_wp2_with fail
            refine hC.out.mono ?_
            rintro r3 w3 ⟨rfl, hb3⟩
            go_wp2
            go_roundw
            case rel => exact ⟨k + 1, by omega, by go_num, hnx.out, by (repeat (first | exact Below.refl _ _ | assumption | refine bchain (by assumption) ?_ | refine balloc ?_ _ | apply Below.drew | apply below_drewN | (refine Below.alloc ?_ (by (try simp) <;> omega) _) | (refine Below.setCell ?_ (by (try simp) <;> omega) _)))⟩
            case measure => simp [intOf]; omega
          · obtain ⟨mm, h1, h2, h3⟩ := not_allV hV
            have hC := Lib.hid (av_f wr a2 c2 (rAt m k) hrk hLi mm h1 h2 h3)
            rw [hl2] at hC s0 hrk
            obtain rfl : B = false := hBf.out (fun c => hV (c.2.1 k (by have := hn.out; omega)).2)
            subst hlr
            clear hV hl2 hBt hBf h1 h2 h3
            go_wp2_with fail
            refine hC.out.mono ?_
            rintro r3 w3 ⟨rfl, hb3⟩
            go_wp2
            go_ret
            exact ⟨rfl, by (repeat (first | exact Below.refl _ _ | assumption | refine bchain (by assumption) ?_ | refine balloc ?_ _ | apply Below.drew | apply below_drewN | (refine Below.alloc ?_ (by (try simp) <;> omega) _) | (refine Below.setCell ?_ (by (try simp) <;> omega) _)))⟩
        · rw [hl2] at s0
          obtain rfl : B = false := hBf.out (fun c => hlr (by rw [← hl2, (c.2.1 k (by have := hn.out; omega)).1, hn.out]))
          have hne2 : ((l2 : Int) != (l : Int)) = true := by simp; omega
          clear hBt hBf hl2 hlr hLi
          go_wp2
          go_ret
          exact ⟨rfl, by (repeat (first | exact Below.refl _ _ | assumption | refine bchain (by assumption) ?_ | refine balloc ?_ _ | apply Below.drew | apply below_drewN | (refine Below.alloc ?_ (by (try simp) <;> omega) _) | (refine Below.setCell ?_ (by (try simp) <;> omega) _)))⟩
      · have hd := decide_eq_false (show ¬ ((k : Int) < (l : Int)) by omega)
        obtain rfl : l = k := by omega
        replace hsq := Lib.hid hsq
        go_wp2
        go_loopw [5, 6, 7, 30] (fun _ _ _ i wr2 => ∃ k : Nat, k ≤ l ∧ i = .int .i64 k ∧ Sym m k 0 ∧ Below w.heap.size w wr2) (fun _ _ _ i _ => l - (intOf i).toNat)
        case atStart => exact ⟨0, by omega, rfl, ⟨fun a b h => by omega, fun b h => by omega⟩, by (repeat (first | exact Below.refl _ _ | assumption | refine bchain (by assumption) ?_ | refine balloc ?_ _ | apply Below.drew | apply below_drewN | (refine Below.alloc ?_ (by (try simp) <;> omega) _) | (refine Below.setCell ?_ (by (try simp) <;> omega) _)))⟩
        case round =>
          obtain ⟨k, hk2, rfl, hsy, hB2⟩ := hrel
          clear hlt hd hk
          by_cases hlt : k < l
          · obtain ⟨b, off, rfl, hb, u, hu, hSu⟩ := hR.out k (by have := hn.out; omega)
            have s0 : wr.cell? ⟨b, off + k, none⟩ = some u := (hB2.cell (p := ⟨b, _, none⟩) hb).trans hu
            have hlk : (rAt m k).length = l := (hsq.out k hlt).1.trans hn.out.symm
            obtain ⟨a2, c2, rfl, hu1, hu2, hu3⟩ := hSu
            obtain ⟨b2, off2, rfl, hb2, hg⟩ := hu3 (by intro c; rw [c] at hlk; simp at hlk; omega)
            rw [hlk] at hu1 s0
            have hg2 := Lib.hid (fun i (hi : i < l) => hg i (by rw [hlk]; exact hi))
            have hkn : (k : Int) < (l : Int) := by omega
            have hkn0 : (0 : Int) ≤ (k : Int) := by omega
            clear hu hg hu3
            replace hsy := Lib.hid hsy
            replace hlk := Lib.hid hlk
            go_wp2
            go_loopw [7, 36] (fun _ i wr3 => ∃ j : Nat, j ≤ k ∧ i = .int .i64 j ∧ Sym m k j ∧ Below w.heap.size w wr3) (fun _ i _ => k - (intOf i).toNat)
            case atStart => exact ⟨0, by omega, rfl, hsy.out, by (repeat (first | exact Below.refl _ _ | assumption | refine bchain (by assumption) ?_ | refine balloc ?_ _ | apply Below.drew | apply below_drewN | (refine Below.alloc ?_ (by (try simp) <;> omega) _) | (refine Below.setCell ?_ (by (try simp) <;> omega) _)))⟩
            case round =>
              obtain ⟨j, hj, rfl, hsj, hB3⟩ := hrel
              by_cases hjl : j < k
              · obtain ⟨b', off', e', hb', u', hu', hSu'⟩ := hR.out j (by have := hn.out; omega)
                cases e'
                have s1 : wr.cell? ⟨b, off + j, none⟩ = some u' := (hB3.cell (p := ⟨b, _, none⟩) hb).trans hu'
                have hlj : (rAt m j).length = l := (hsq.out j (by omega)).1.trans hn.out.symm
                obtain ⟨a3, c3, rfl, hv1, hv2, hv3⟩ := hSu'
                obtain ⟨b3, off3, rfl, hb3, hg'⟩ := hv3 (by intro c; rw [c] at hlj; simp at hlj; omega)
                rw [hlj] at hv1 s1
                have hgk := hg' k (by rw [hlj]; omega)
                have hgj := hg2.out j (by omega)
                obtain ⟨x, y, hxy⟩ : ∃ x y, gAt (rAt m k) j = (x, y) := ⟨_, _, rfl⟩
                obtain ⟨x', y', hxy'⟩ : ∃ x y, gAt (rAt m j) k = (x, y) := ⟨_, _, rfl⟩
                have e0 : wr.cell? ⟨b2, off2 + j * 2, none⟩ = some (.int .i64 x) := by rw [hB3.cell (p := ⟨b2, _, none⟩) hb2, hgj.1, hxy]
                have e1 : wr.cell? ⟨b2, off2 + j * 2 + 1, none⟩ = some (.int .i64 y) := by rw [hB3.cell (p := ⟨b2, _, none⟩) hb2, hgj.2, hxy]
                have e2 : wr.cell? ⟨b3, off3 + k * 2, none⟩ = some (.int .i64 x') := by rw [hB3.cell (p := ⟨b3, _, none⟩) hb3, hgk.1, hxy']
                have e3 : wr.cell? ⟨b3, off3 + k * 2 + 1, none⟩ = some (.int .i64 y') := by rw [hB3.cell (p := ⟨b3, _, none⟩) hb3, hgk.2, hxy']
                have hjn : (j : Int) < (k : Int) := by omega
                have hjn2 : (j : Int) < (l : Int) := by omega
                have hjn0 : (0 : Int) ≤ (j : Int) := by omega
                clear hg' hgk hgj hu' hv3
                replace hsj := Lib.hid hsj
                replace hlj := Lib.hid hlj
                by_cases he : x = x' ∧ y = y'
                · obtain ⟨rfl, rfl⟩ := he
                  have hq : ∀ W, (Op.equalIn 10000 70 (.agg #[.int .i64 x, .int .i64 y]) (.agg #[.int .i64 x, .int .i64 y])).run Tryd.prog W = .ok true W := fun W => by rw [eqFr]; simp
                  have hne := Lib.hid (hxy.trans hxy'.symm)
                  clear hxy hxy'
                  go_wp2
                  go_region_held3 (fun W => W.cell? ⟨b2, off2 + j * 2, none⟩ = some (.int .i64 x) ∧ W.cell? ⟨b2, off2 + j * 2 + 1, none⟩ = some (.int .i64 y) ∧ W.cell? ⟨b, off + j, none⟩ = some (.slice (some ⟨b3, off3, none⟩) l c3) ∧ W.cell? ⟨b3, off3 + k * 2, none⟩ = some (.int .i64 x) ∧ W.cell? ⟨b3, off3 + k * 2 + 1, none⟩ = some (.int .i64 y))
                    (exact ⟨e0, e1, s1, e2, e3⟩) (fail)
                  go_wp2
                  go_roundw
                  case rel => exact ⟨j + 1, by omega, by go_num, ⟨hsj.out.1, fun i hi => by
                    by_cases e : i = j
                    · rw [e]; exact hne.out
                    · exact hsj.out.2 i (by omega)⟩, by (repeat (first | exact Below.refl _ _ | assumption | refine bchain (by assumption) ?_ | refine balloc ?_ _ | apply Below.drew | apply below_drewN | (refine Below.alloc ?_ (by (try simp) <;> omega) _) | (refine Below.setCell ?_ (by (try simp) <;> omega) _)))⟩
                  case measure => simp [intOf]; omega
                · have hq : ∀ W, (Op.equalIn 10000 70 (.agg #[.int .i64 x, .int .i64 y]) (.agg #[.int .i64 x', .int .i64 y'])).run Tryd.prog W = .ok false W := fun W => by
                    rw [eqFr]
                    have : (x == x' && y == y') = false := by
                      rw [Bool.eq_false_iff]
                      intro h
                      simp at h
                      exact he h
                    rw [this]
                  obtain rfl : B = false := hBf.out (fun c => he (by have h := c.2.2.1 k j (by have := hn.out; omega) hjl; rw [hxy, hxy'] at h; cases h; exact ⟨rfl, rfl⟩))
                  clear he hxy hxy' hBt hBf
                  go_wp2
                  go_region_held3 (fun W => W.cell? ⟨b2, off2 + j * 2, none⟩ = some (.int .i64 x) ∧ W.cell? ⟨b2, off2 + j * 2 + 1, none⟩ = some (.int .i64 y) ∧ W.cell? ⟨b, off + j, none⟩ = some (.slice (some ⟨b3, off3, none⟩) l c3) ∧ W.cell? ⟨b3, off3 + k * 2, none⟩ = some (.int .i64 x') ∧ W.cell? ⟨b3, off3 + k * 2 + 1, none⟩ = some (.int .i64 y'))
                    (exact ⟨e0, e1, s1, e2, e3⟩) (fail)
                  go_wp2
                  go_ret
                  exact ⟨rfl, by (repeat (first | exact Below.refl _ _ | assumption | refine bchain (by assumption) ?_ | refine balloc ?_ _ | apply Below.drew | apply below_drewN | (refine Below.alloc ?_ (by (try simp) <;> omega) _) | (refine Below.setCell ?_ (by (try simp) <;> omega) _)))⟩
              · have hd := decide_eq_false (show ¬ ((j : Int) < (k : Int)) by omega)
                obtain rfl : j = k := by omega
                have hsn : Sym m (j + 1) 0 := ⟨fun a b h1 h2 => by
                  by_cases e : a = j
                  · subst e; exact hsj.2 b h2
                  · exact hsj.1 a b (by omega) h2, fun b h => by omega⟩
                replace hsn := Lib.hid hsn
                clear hsj
                go_wp2
                go_roundw
                case rel => exact ⟨j + 1, by omega, by go_num, hsn.out, by (repeat (first | exact Below.refl _ _ | assumption | refine bchain (by assumption) ?_ | refine balloc ?_ _ | apply Below.drew | apply below_drewN | (refine Below.alloc ?_ (by (try simp) <;> omega) _) | (refine Below.setCell ?_ (by (try simp) <;> omega) _)))⟩
                case measure => simp [intOf]; omega
          · have hd := decide_eq_false (show ¬ ((k : Int) < (l : Int)) by omega)
            obtain rfl : l = k := by omega
            obtain rfl : B = true := hBt.out ⟨by have := hn.out; omega, by rw [← hn.out]; exact hsq.out, by rw [← hn.out]; exact hsy⟩
            clear hsy hBt hBf
            go_wp2
            go_ret
            exact ⟨rfl, hB2⟩
  · have hd8 : decide ((8 : Int) < (l : Int)) = true := decide_eq_true (by omega)
    obtain rfl : B = false := hBf.out (fun c => h8 (by rw [hn.out]; exact c.1))
    clear hBt hBf
    go_enter Tryd.func31, Tryd.ntmps31
    go_wp2
    go_ret
    exact ⟨rfl, by (repeat (first | exact Below.refl _ _ | assumption | refine bchain (by assumption) ?_ | refine balloc ?_ _ | apply Below.drew | apply below_drewN | (refine Below.alloc ?_ (by (try simp) <;> omega) _) | (refine Below.setCell ?_ (by (try simp) <;> omega) _)))⟩
end
end Go.Proofs.YtiedombphcdpbaaDoor.Fr
/-
  WHICH MATRICES ARE VALID: the model's contract.
-/
namespace Go.Proofs.YtiedombphcdpbaaDoor.Fr
open Go.RowKit
set_option maxRecDepth 100000

/-- the place at a, b is valid, and the same as its mirror -/
def Pl (m : List (List (Int × Int))) (a b : Nat) : Prop := VP (gAt (rAt m a) b) ∧ gAt (rAt m a) b = gAt (rAt m b) a
theorem VM.pl {m : List (List (Int × Int))} (h : VM m) {a b : Nat} (ha : a < m.length) (hb : b < m.length) : Pl m a b := by
  refine ⟨(h.2.1 a ha).2 b (by rw [(h.2.1 a ha).1]; exact hb), ?_⟩
  rcases Nat.lt_trichotomy a b with c | c | c
  · exact (h.2.2.1 b a hb c).symm
  · rw [c]
  · exact h.2.2.1 a b ha c
/-- a world whose old blocks are as they were -/
structure BW (w : World) where
  W : World
  h : Below w.heap.size w W
instance (w : World) : Nonempty (BW w) := ⟨⟨w, Below.refl _ _⟩⟩
/-- A REGION THAT READS, WITH CALLEES THAT MAKE NEW BLOCKS ALONE: one walk in the text's order. -/
theorem wp_region_below {P : Program} {id : Nat} {Q : Exit → Act → World → Prop} {a : Act} {w : World} {l : List Oper} (hm : P.follows .mixedOrders = true) (hB : Region.lexB .any l.toArray = true)
    (h : wpQuiet P l.toArray (fun w' => ∃ p : BW w, w' = p.W) (fun a' => ∀ w', (∃ p : BW w, w' = p.W) → Q .normal a' w') l a) : (Code.region id l.toArray true).wp P Q a w :=
  wp_region_quiet (C := fun w' => ∃ p : BW w, w' = p.W) hm hB ⟨⟨_, (Below.refl _ w).drew⟩, rfl⟩ (by simpa using h)
theorem bw_of {P : Program} {f : FuncId} {args : Array Value} {w : World} {p : BW w} {v : Value} (h : Calls P f args p.W fun e w' => e = .returned v ∧ Below p.W.heap.size p.W w') : Calls P f args p.W fun e w' => e = .returned v ∧ ∃ q : BW w, w' = q.W :=
  h.mono fun _ w' ⟨he, hb⟩ => ⟨he, ⟨w', p.h.trans (hb.mono p.h.size)⟩, rfl⟩
theorem bw_cell {w : World} {B o : Nat} {v : Value} (hz : B < w.heap.size) (hc : w.cell? ⟨B, o, none⟩ = some v) (p : BW w) : p.W.cell? ⟨B, o, none⟩ = some v := old_cell hz hc p.h
section
variable (w : World)
set_option maxHeartbeats 4000000 in
theorem svm_any (v : Value) (m : List (List (Int × Int))) (hS : SlM w v m) (hm : m.length ≤ 1048576) (hr : ∀ i, i < m.length → (rAt m i).length ≤ 1048576) (B : Bool) (hBt : VM m → B = true) (hBf : ¬ VM m → B = false) :
    Calls Tryd.prog 28 #[v] w fun r w' => r = .returned (.bool B) ∧ Below w.heap.size w w' := by
  obtain ⟨a, cap, rfl, hR⟩ := hS.rows
  clear hS
  replace hBt := Lib.hid hBt
  replace hBf := Lib.hid hBf
  obtain ⟨l, hn⟩ : ∃ l, l = m.length := ⟨_, rfl⟩
  rw [← hn] at hm hr ⊢
  replace hR := Lib.hid hR
  replace hr := Lib.hid hr
  replace hn := Lib.hid hn
  by_cases h8 : l ≤ 8
  · have hd8 : decide ((8 : Int) < (l : Int)) = false := decide_eq_false (by omega)
    go_enter Tryd.func28, Tryd.ntmps28
    go_wp2
    go_loopw [3] (fun i wr => ∃ k : Nat, k ≤ l ∧ i = .int .i64 k ∧ (∀ j, j < k → (rAt m j).length = l) ∧ Below w.heap.size w wr) (fun i _ => l - (intOf i).toNat)
    case atStart => exact ⟨0, by omega, rfl, fun j hj => by omega, by (repeat (first | exact Below.refl _ _ | assumption | refine bchain (by assumption) ?_ | refine balloc ?_ _ | apply Below.drew | apply below_drewN | (refine Below.alloc ?_ (by (try simp) <;> omega) _) | (refine Below.setCell ?_ (by (try simp) <;> omega) _)))⟩
    case round =>
      obtain ⟨k, hk, rfl, hsq, hB⟩ := hrel
      by_cases hlt : k < l
      · obtain ⟨b, off, rfl, hb, u, hu, hSu⟩ := hR.out k (by have := hn.out; omega)
        have s0 : wr.cell? ⟨b, off + k, none⟩ = some u := (hB.cell (p := ⟨b, _, none⟩) hb).trans hu
        have hrk := hr.out k hlt
        obtain ⟨a2, c2, rfl, _⟩ := hSu
        obtain ⟨l2, hl2⟩ : ∃ l2, (rAt m k).length = l2 := ⟨_, rfl⟩
        have hkn : (k : Int) < (l : Int) := by omega
        rw [hl2] at s0 hrk
        clear hu
        replace hsq := Lib.hid hsq
        by_cases hlr : l2 = l
        · subst hlr
          have hnx := Lib.hid (show ∀ j, j < k + 1 → (rAt m j).length = l2 from fun j hj => by
            by_cases e : j = k
            · rw [e]; exact hl2
            · exact hsq.out j (by omega))
          clear hl2
          go_wp2
          go_roundw
          case rel => exact ⟨k + 1, by omega, by go_num, hnx.out, by (repeat (first | exact Below.refl _ _ | assumption | refine bchain (by assumption) ?_ | refine balloc ?_ _ | apply Below.drew | apply below_drewN | (refine Below.alloc ?_ (by (try simp) <;> omega) _) | (refine Below.setCell ?_ (by (try simp) <;> omega) _)))⟩
          case measure => simp [intOf]; omega
        · obtain rfl : B = false := hBf.out (fun c => hlr (by rw [← hl2, (c.2.1 k (by have := hn.out; omega)).1, hn.out]))
          have hne2 : ((l2 : Int) != (l : Int)) = true := by simp; omega
          clear hBt hBf hl2 hlr
          go_wp2
          go_ret
          exact ⟨rfl, by (repeat (first | exact Below.refl _ _ | assumption | refine bchain (by assumption) ?_ | refine balloc ?_ _ | apply Below.drew | apply below_drewN | (refine Below.alloc ?_ (by (try simp) <;> omega) _) | (refine Below.setCell ?_ (by (try simp) <;> omega) _)))⟩
      · have hd := decide_eq_false (show ¬ ((k : Int) < (l : Int)) by omega)
        obtain rfl : l = k := by omega
        replace hsq := Lib.hid hsq
        go_wp2
        go_loopw [4, 5] (fun i _ wr2 => ∃ k : Nat, k ≤ l ∧ i = .int .i64 k ∧ (∀ a b, a < k → b < l → Pl m a b) ∧ Below w.heap.size w wr2) (fun i _ _ => l - (intOf i).toNat)
        case atStart => exact ⟨0, by omega, rfl, fun a b h => by omega, by (repeat (first | exact Below.refl _ _ | assumption | refine bchain (by assumption) ?_ | refine balloc ?_ _ | apply Below.drew | apply below_drewN | (refine Below.alloc ?_ (by (try simp) <;> omega) _) | (refine Below.setCell ?_ (by (try simp) <;> omega) _)))⟩
        case round =>
          obtain ⟨k, hk2, rfl, hsy, hB2⟩ := hrel
          clear hlt hd hk
          by_cases hlt : k < l
          · obtain ⟨b, off, rfl, hb, u, hu, hSu⟩ := hR.out k (by have := hn.out; omega)
            have hlk : (rAt m k).length = l := hsq.out k hlt
            obtain ⟨a2, c2, rfl, hu1, hu2, hu3⟩ := hSu
            obtain ⟨b2, off2, rfl, hb2, hg⟩ := hu3 (by intro c; rw [c] at hlk; simp at hlk; omega)
            rw [hlk] at hu1 hu
            have hg2 := Lib.hid (fun i (hi : i < l) => hg i (by rw [hlk]; exact hi))
            have hkn : (k : Int) < (l : Int) := by omega
            have hkn0 : (0 : Int) ≤ (k : Int) := by omega
            clear hg hu3
            replace hu := Lib.hid hu
            replace hsy := Lib.hid hsy
            replace hlk := Lib.hid hlk
            go_wp2
            go_loopw [5] (fun i wr3 => ∃ j : Nat, j ≤ l ∧ i = .int .i64 j ∧ (∀ b, b < j → Pl m k b) ∧ Below w.heap.size w wr3) (fun i _ => l - (intOf i).toNat)
            case atStart => exact ⟨0, by omega, rfl, fun b h => by omega, by (repeat (first | exact Below.refl _ _ | assumption | refine bchain (by assumption) ?_ | refine balloc ?_ _ | apply Below.drew | apply below_drewN | (refine Below.alloc ?_ (by (try simp) <;> omega) _) | (refine Below.setCell ?_ (by (try simp) <;> omega) _)))⟩
            case round =>
              obtain ⟨j, hj, rfl, hsj, hB3⟩ := hrel
              by_cases hjl : j < l
              · obtain ⟨b', off', e', hb', u', hu', hSu'⟩ := hR.out j (by have := hn.out; omega)
                cases e'
                have s0 : wr.cell? ⟨b, off + k, none⟩ = some (.slice (some ⟨b2, off2, none⟩) l c2) := (hB3.cell (p := ⟨b, _, none⟩) hb).trans hu.out
                have s1 : wr.cell? ⟨b, off + j, none⟩ = some u' := (hB3.cell (p := ⟨b, _, none⟩) hb).trans hu'
                have hlj : (rAt m j).length = l := hsq.out j (by omega)
                obtain ⟨a3, c3, rfl, hv1, hv2, hv3⟩ := hSu'
                obtain ⟨b3, off3, rfl, hb3, hg'⟩ := hv3 (by intro c; rw [c] at hlj; simp at hlj; omega)
                rw [hlj] at hv1 s1
                have hgk := hg' k (by rw [hlj]; omega)
                have hgj := hg2.out j (by omega)
                obtain ⟨x, y, hxy⟩ : ∃ x y, gAt (rAt m k) j = (x, y) := ⟨_, _, rfl⟩
                obtain ⟨x', y', hxy'⟩ : ∃ x y, gAt (rAt m j) k = (x, y) := ⟨_, _, rfl⟩
                have e0 : wr.cell? ⟨b2, off2 + j * 2, none⟩ = some (.int .i64 x) := by rw [hB3.cell (p := ⟨b2, _, none⟩) hb2, hgj.1, hxy]
                have e1 : wr.cell? ⟨b2, off2 + j * 2 + 1, none⟩ = some (.int .i64 y) := by rw [hB3.cell (p := ⟨b2, _, none⟩) hb2, hgj.2, hxy]
                have e2 : wr.cell? ⟨b3, off3 + k * 2, none⟩ = some (.int .i64 x') := by rw [hB3.cell (p := ⟨b3, _, none⟩) hb3, hgk.1, hxy']
                have e3 : wr.cell? ⟨b3, off3 + k * 2 + 1, none⟩ = some (.int .i64 y') := by rw [hB3.cell (p := ⟨b3, _, none⟩) hb3, hgk.2, hxy']
                have zb : b < wr.heap.size := Nat.lt_of_lt_of_le hb hB3.size
                have zb2 : b2 < wr.heap.size := Nat.lt_of_lt_of_le hb2 hB3.size
                have zb3 : b3 < wr.heap.size := Nat.lt_of_lt_of_le hb3 hB3.size
                have hjn2 : (j : Int) < (l : Int) := by omega
                have hjn0 : (0 : Int) ≤ (j : Int) := by omega
                have hC := Lib.hid (fun W => ok_any W x y)
                clear hg' hgk hgj hu' hv3
                replace hsj := Lib.hid hsj
                replace hlj := Lib.hid hlj
                by_cases hok : VF x y
                · rw [decide_eq_true hok] at hC
                  by_cases he : x = x' ∧ y = y'
                  · obtain ⟨rfl, rfl⟩ := he
                    have hq : ∀ W, (Op.equalIn 10000 70 (.agg #[.int .i64 x, .int .i64 y]) (.agg #[.int .i64 x, .int .i64 y])).run Tryd.prog W = .ok true W := fun W => by rw [eqFr]; simp
                    have hne := Lib.hid (show Pl m k j from ⟨by rw [hxy]; exact hok, hxy.trans hxy'.symm⟩)
                    clear hxy hxy' hok
                    go_wp2
                    go_region_held3 (fun W => W.cell? ⟨b, off + k, none⟩ = some (.slice (some ⟨b2, off2, none⟩) l c2) ∧ W.cell? ⟨b2, off2 + j * 2, none⟩ = some (.int .i64 x) ∧ W.cell? ⟨b2, off2 + j * 2 + 1, none⟩ = some (.int .i64 y) ∧ W.cell? ⟨b, off + j, none⟩ = some (.slice (some ⟨b3, off3, none⟩) l c3) ∧ W.cell? ⟨b3, off3 + k * 2, none⟩ = some (.int .i64 x) ∧ W.cell? ⟨b3, off3 + k * 2 + 1, none⟩ = some (.int .i64 y))
                      (exact ⟨old_cell zb s0 (by (repeat (first | exact Below.refl _ _ | assumption | refine bchain (by assumption) ?_ | refine balloc ?_ _ | apply Below.drew | apply below_drewN | (refine Below.alloc ?_ (by (try simp) <;> omega) _) | (refine Below.setCell ?_ (by (try simp) <;> omega) _)))), old_cell zb2 e0 (by (repeat (first | exact Below.refl _ _ | assumption | refine bchain (by assumption) ?_ | refine balloc ?_ _ | apply Below.drew | apply below_drewN | (refine Below.alloc ?_ (by (try simp) <;> omega) _) | (refine Below.setCell ?_ (by (try simp) <;> omega) _)))), old_cell zb2 e1 (by (repeat (first | exact Below.refl _ _ | assumption | refine bchain (by assumption) ?_ | refine balloc ?_ _ | apply Below.drew | apply below_drewN | (refine Below.alloc ?_ (by (try simp) <;> omega) _) | (refine Below.setCell ?_ (by (try simp) <;> omega) _)))), old_cell zb s1 (by (repeat (first | exact Below.refl _ _ | assumption | refine bchain (by assumption) ?_ | refine balloc ?_ _ | apply Below.drew | apply below_drewN | (refine Below.alloc ?_ (by (try simp) <;> omega) _) | (refine Below.setCell ?_ (by (try simp) <;> omega) _)))), old_cell zb3 e2 (by (repeat (first | exact Below.refl _ _ | assumption | refine bchain (by assumption) ?_ | refine balloc ?_ _ | apply Below.drew | apply below_drewN | (refine Below.alloc ?_ (by (try simp) <;> omega) _) | (refine Below.setCell ?_ (by (try simp) <;> omega) _)))), old_cell zb3 e3 (by (repeat (first | exact Below.refl _ _ | assumption | refine bchain (by assumption) ?_ | refine balloc ?_ _ | apply Below.drew | apply below_drewN | (refine Below.alloc ?_ (by (try simp) <;> omega) _) | (refine Below.setCell ?_ (by (try simp) <;> omega) _))))⟩)
                      (first | (go_at_call 61; refine (hC.out _).mono ?_; rintro r w3 ⟨rfl, hb3⟩))
                    go_wp2
                    go_roundw
                    case rel => exact ⟨j + 1, by omega, by go_num, fun i hi => by
                      by_cases e : i = j
                      · rw [e]; exact hne.out
                      · exact hsj.out i (by omega), by (repeat (first | exact Below.refl _ _ | assumption | refine bchain (by assumption) ?_ | refine balloc ?_ _ | apply Below.drew | apply below_drewN | (refine Below.alloc ?_ (by (try simp) <;> omega) _) | (refine Below.setCell ?_ (by (try simp) <;> omega) _)))⟩
                    case measure => simp [intOf]; omega
                  · have hq : ∀ W, (Op.equalIn 10000 70 (.agg #[.int .i64 x, .int .i64 y]) (.agg #[.int .i64 x', .int .i64 y'])).run Tryd.prog W = .ok false W := fun W => by
                      rw [eqFr]
                      have : (x == x' && y == y') = false := by
                        rw [Bool.eq_false_iff]
                        intro h
                        simp at h
                        exact he h
                      rw [this]
                    obtain rfl : B = false := hBf.out (fun c => he (by have h := (c.pl (a := k) (b := j) (by have := hn.out; omega) (by have := hn.out; omega)).2; rw [hxy, hxy'] at h; cases h; exact ⟨rfl, rfl⟩))
                    clear he hxy hxy' hBt hBf hok
                    go_wp2
                    go_region_held3 (fun W => W.cell? ⟨b, off + k, none⟩ = some (.slice (some ⟨b2, off2, none⟩) l c2) ∧ W.cell? ⟨b2, off2 + j * 2, none⟩ = some (.int .i64 x) ∧ W.cell? ⟨b2, off2 + j * 2 + 1, none⟩ = some (.int .i64 y) ∧ W.cell? ⟨b, off + j, none⟩ = some (.slice (some ⟨b3, off3, none⟩) l c3) ∧ W.cell? ⟨b3, off3 + k * 2, none⟩ = some (.int .i64 x') ∧ W.cell? ⟨b3, off3 + k * 2 + 1, none⟩ = some (.int .i64 y'))
                      (exact ⟨old_cell zb s0 (by (repeat (first | exact Below.refl _ _ | assumption | refine bchain (by assumption) ?_ | refine balloc ?_ _ | apply Below.drew | apply below_drewN | (refine Below.alloc ?_ (by (try simp) <;> omega) _) | (refine Below.setCell ?_ (by (try simp) <;> omega) _)))), old_cell zb2 e0 (by (repeat (first | exact Below.refl _ _ | assumption | refine bchain (by assumption) ?_ | refine balloc ?_ _ | apply Below.drew | apply below_drewN | (refine Below.alloc ?_ (by (try simp) <;> omega) _) | (refine Below.setCell ?_ (by (try simp) <;> omega) _)))), old_cell zb2 e1 (by (repeat (first | exact Below.refl _ _ | assumption | refine bchain (by assumption) ?_ | refine balloc ?_ _ | apply Below.drew | apply below_drewN | (refine Below.alloc ?_ (by (try simp) <;> omega) _) | (refine Below.setCell ?_ (by (try simp) <;> omega) _)))), old_cell zb s1 (by (repeat (first | exact Below.refl _ _ | assumption | refine bchain (by assumption) ?_ | refine balloc ?_ _ | apply Below.drew | apply below_drewN | (refine Below.alloc ?_ (by (try simp) <;> omega) _) | (refine Below.setCell ?_ (by (try simp) <;> omega) _)))), old_cell zb3 e2 (by (repeat (first | exact Below.refl _ _ | assumption | refine bchain (by assumption) ?_ | refine balloc ?_ _ | apply Below.drew | apply below_drewN | (refine Below.alloc ?_ (by (try simp) <;> omega) _) | (refine Below.setCell ?_ (by (try simp) <;> omega) _)))), old_cell zb3 e3 (by (repeat (first | exact Below.refl _ _ | assumption | refine bchain (by assumption) ?_ | refine balloc ?_ _ | apply Below.drew | apply below_drewN | (refine Below.alloc ?_ (by (try simp) <;> omega) _) | (refine Below.setCell ?_ (by (try simp) <;> omega) _))))⟩)
                      (first | (go_at_call 61; refine (hC.out _).mono ?_; rintro r w3 ⟨rfl, hb3⟩))
                    go_wp2
                    go_ret
                    exact ⟨rfl, by (repeat (first | exact Below.refl _ _ | assumption | refine bchain (by assumption) ?_ | refine balloc ?_ _ | apply Below.drew | apply below_drewN | (refine Below.alloc ?_ (by (try simp) <;> omega) _) | (refine Below.setCell ?_ (by (try simp) <;> omega) _)))⟩
                · rw [decide_eq_false hok] at hC
                  obtain rfl : B = false := hBf.out (fun c => hok (by have h := (c.pl (a := k) (b := j) (by have := hn.out; omega) (by have := hn.out; omega)).1; rw [hxy] at h; exact h))
                  clear hxy hxy' hBt hBf hok
                  have q0 := bw_cell zb s0
                  have q1 := bw_cell zb2 e0
                  have q2 := bw_cell zb2 e1
                  clear e2 e3 s1 s0 e0 e1 hu hsy hlk hlj hsj hg2 hR hr
                  go_wp2
                  refine wp_region_below (by kernel_rfl) (by kernel_rfl) ?_
                  iterate 7 (quiet_step (fail))
                  refine wpQuiet_step (fun K hK => ?_)
                  go_simp
                  apply Exists.intro
                  refine ⟨fun p => ?_, hK _ ?_⟩
                  · exact bw_of (w := wr) (p := p) (hC.out p.W)
                  clear hK K
                  iterate 2 (quiet_step (fail))
                  iterate 15 go_big_quiet_skip
                  quiet_step (fail)
                  refine wpQuiet_nil ?_
                  intro _ hw'
                  obtain ⟨⟨W9, hb9⟩, rfl⟩ := hw'
                  go_wp2
                  go_ret
                  exact ⟨rfl, by (repeat (first | exact Below.refl _ _ | assumption | refine bchain (by assumption) ?_ | refine balloc ?_ _ | apply Below.drew | apply below_drewN | (refine Below.alloc ?_ (by (try simp) <;> omega) _) | (refine Below.setCell ?_ (by (try simp) <;> omega) _)))⟩
              · have hd := decide_eq_false (show ¬ ((j : Int) < (l : Int)) by omega)
                obtain rfl : l = j := by omega
                have hsn := Lib.hid (show ∀ a b, a < k + 1 → b < l → Pl m a b from fun a b h1 h2 => by
                  by_cases e : a = k
                  · subst e; exact hsj b h2
                  · exact hsy.out a b (by omega) h2)
                clear hsj
                go_wp2
                go_roundw
                case rel => exact ⟨k + 1, by omega, by go_num, hsn.out, by (repeat (first | exact Below.refl _ _ | assumption | refine bchain (by assumption) ?_ | refine balloc ?_ _ | apply Below.drew | apply below_drewN | (refine Below.alloc ?_ (by (try simp) <;> omega) _) | (refine Below.setCell ?_ (by (try simp) <;> omega) _)))⟩
                case measure => simp [intOf]; omega
          · have hd := decide_eq_false (show ¬ ((k : Int) < (l : Int)) by omega)
            obtain rfl : l = k := by omega
            obtain rfl : B = true := hBt.out ⟨by have := hn.out; omega, fun i hi => ⟨(hsq.out i (by have := hn.out; omega)).trans hn.out, fun j hj => (hsy i j (by have := hn.out; omega) (by have := hsq.out i (by have := hn.out; omega); omega)).1⟩,
              ⟨fun a b h1 h2 => (hsy a b (by have := hn.out; omega) (by have := hn.out; omega)).2, fun b h => by omega⟩⟩
            clear hsy hBt hBf
            go_wp2
            go_ret
            exact ⟨rfl, hB2⟩
  · have hd8 : decide ((8 : Int) < (l : Int)) = true := decide_eq_true (by omega)
    obtain rfl : B = false := hBf.out (fun c => h8 (by rw [hn.out]; exact c.1))
    clear hBt hBf
    go_enter Tryd.func28, Tryd.ntmps28
    go_wp2
    go_ret
    exact ⟨rfl, by (repeat (first | exact Below.refl _ _ | assumption | refine bchain (by assumption) ?_ | refine balloc ?_ _ | apply Below.drew | apply below_drewN | (refine Below.alloc ?_ (by (try simp) <;> omega) _) | (refine Below.setCell ?_ (by (try simp) <;> omega) _)))⟩
end
end Go.Proofs.YtiedombphcdpbaaDoor.Fr
/-
  WHAT COMES IN, OPENED BY SHAPE: an int64, a bool, a laws.Fraction by value; and the closed facts of this seat's program that every row owes.
-/
namespace Go.Proofs.YtiedombphcdpbaaDoor.Fr
open Go.ChangeShapes Go.WideShapes Go.ChangeAt Go.RowKit Go.Joins
set_option maxRecDepth 100000

theorem own : ownKnob Tryd.prog.godebug = none := by kernel_rfl
theorem laid_out : laidOutB Tryd.prog = true := by kernel_rfl
theorem cellsLF : Tryd.prog.cellsOf 120 = 2 := by kernel_rfl

section
variable {H : Type} {enc : TypeId × Value → H}

theorem open_i64 {W : World} {base : Nat} {v : Value} {d : DataW H} {p : List MemPlace} (hv : Value.okWide Tryd.prog W .any base 2 v) (h : DataW.Trod enc Tryd.prog W 0 (fun _ => true) true 2 v d p) :
    ∃ n : Int, v = .int .i64 n ∧ (Lit.int .i64 n).wf = true := by
  obtain ⟨x, rfl, rfl, rfl, wx⟩ := open_int Tryd.underlying2 hv h
  exact ⟨x, rfl, wx⟩

theorem open_frac {W : World} {base : Nat} {v : Value} {d : DataW H} {p : List MemPlace} (hv : Value.okWide Tryd.prog W .any base 120 v) (h : DataW.Trod enc Tryd.prog W 0 (fun _ => true) true 120 v d p) :
    ∃ x y : Int, v = .agg #[.int .i64 x, .int .i64 y] ∧ (Lit.int .i64 x).wf = true ∧ (Lit.int .i64 y).wf = true := by
  obtain ⟨c0, c1, y0, y1, m, rfl, rfl, rfl, hy0, hy1⟩ := open_agg2 Tryd.underlying120 (by kernel_rfl) cellsLF hv h
  obtain ⟨a, e0, rfl, wa⟩ := DataW.trod_int Tryd.underlying2 hy0
  obtain ⟨b, e1, rfl, wb⟩ := DataW.trod_int Tryd.underlying2 hy1
  simp at e0 e1
  subst e0 e1
  exact ⟨a, b, rfl, wa, wb⟩
end
end Go.Proofs.YtiedombphcdpbaaDoor.Fr
/-
  A LIST OF FRACTIONS THAT COMES IN, OPENED TO ITS CELLS.
-/
namespace Go.Proofs.YtiedombphcdpbaaDoor.Fr
open Go.ChangeShapes Go.WideShapes Go.ChangeAt Go.RowKit Go.Deep
set_option maxRecDepth 100000

theorem open_fs_core {H : Type} {enc : TypeId × Value → H} {W : World} {v : Value} {fuel : Nat} {x : DataW H × List MemPlace} (hf : DataW.trod enc Tryd.prog W 0 (fun _ => true) true fuel 55 [v] = some x) :
    ∃ gs : List (Int × Int), SlG W v gs := by
  rcases open_slice_pairs Tryd.underlying55 Tryd.underlying120 cellsLF rfl rfl (by kernel_rfl) (by kernel_rfl) hf with ⟨hcs, hx⟩ | ⟨a, len, cap, m, n, V0, V1, D0, D1, P0, P1, hcs, _, hl, hm, hmm, hx, hi⟩
  · cases hcs
    exact ⟨[], ⟨none, 0, rfl, by simp, by simp, fun c => absurd rfl c⟩⟩
  · cases hcs
    simp only [if_true] at hmm
    have hel : ∀ i, i < len → ∃ x y : Int, W.cell? (a.add (i * 2)) = some (.int .i64 x) ∧ W.cell? (a.add (i * 2 + 1)) = some (.int .i64 y) ∧ (Lit.int .i64 y).wf = true := fun i hi2 => by
      obtain ⟨h0, h1, t0, t1⟩ := hi i (by omega)
      obtain ⟨x, e0, _, _⟩ := DataW.trod_int Tryd.underlying2 t0
      obtain ⟨y, e1, _, wy⟩ := DataW.trod_int Tryd.underlying2 t1
      simp at e0 e1
      exact ⟨x, y, by rw [h0, e0], by rw [h1, e1], wy⟩
    refine ⟨(List.range len).map fun i => ((W.cell? (a.add (i * 2))).elim 0 intOf, (W.cell? (a.add (i * 2 + 1))).elim 0 intOf), ⟨some a, cap, by simp, by simpa using hl, by unfold maxLen at hm; omega, fun hne => ?_⟩⟩
    have hlen : 0 < len := by
      rcases Nat.eq_zero_or_pos len with h0 | h0
      · subst h0; exact absurd rfl hne
      · exact h0
    obtain ⟨b, off, spot⟩ := a
    have hspot : spot = none := by
      obtain ⟨x, y, h0, _, _⟩ := hel 0 hlen
      simpa [Addr.add] using World.cell?_spot h0
    subst hspot
    refine ⟨b, off, rfl, ?_, fun i hi2 => ?_⟩
    · obtain ⟨x, y, h0, _, _⟩ := hel 0 hlen
      exact World.block_lt_of_cell? W _ h0
    · rw [List.length_map, List.length_range] at hi2
      obtain ⟨x, y, h0, h1, _⟩ := hel i hi2
      unfold GCell gAt
      rw [List.getElem?_map, List.getElem?_range hi2]
      simp only [Option.map_some, Option.getD_some, h0, h1, Option.elim_some, intOf]
      rw [add_plain] at h0 h1
      exact ⟨h0, h1⟩
theorem open_fs {H : Type} {enc : TypeId × Value → H} {W : World} {base : Nat} {v : Value} {d : DataW H} {p : List MemPlace} (hv : Value.okWide Tryd.prog W .any base 55 v) (h : DataW.Trod enc Tryd.prog W 0 (fun _ => true) true 55 v d p) :
    ∃ gs : List (Int × Int), SlG W v gs := by
  obtain ⟨a0, len, cap, rfl⟩ := okWide_slice Tryd.underlying55 hv
  obtain ⟨fuel, hf⟩ := h
  simp only [Value.cells] at hf
  exact open_fs_core hf
end Go.Proofs.YtiedombphcdpbaaDoor.Fr
/-
  A LIST OF ROWS THAT COMES IN, OPENED TO ITS CELLS.
-/
namespace Go.Proofs.YtiedombphcdpbaaDoor.Fr
open Go.ChangeShapes Go.WideShapes Go.ChangeAt Go.RowKit Go.Deep
set_option maxRecDepth 100000

theorem open_ms {H : Type} {enc : TypeId × Value → H} {W : World} {base : Nat} {v : Value} {d : DataW H} {p : List MemPlace} (hv : Value.okWide Tryd.prog W .any base 22 v) (h : DataW.Trod enc Tryd.prog W 0 (fun _ => true) true 22 v d p) :
    ∃ m : List (List (Int × Int)), SlM W v m := by
  obtain ⟨a0, len, cap, rfl⟩ := okWide_slice Tryd.underlying22 hv
  obtain ⟨fuel, hf⟩ := h
  simp only [Value.cells] at hf
  rcases open_slice1 Tryd.underlying22 (by kernel_rfl) hf with ⟨hcs, hx⟩ | ⟨a, len', cap', m, n, V, D, Pl, hcs, _, hl, hm, hmm, hx, hi⟩
  · cases hcs
    exact ⟨[], ⟨none, 0, rfl, by simp, by simp, fun c => absurd rfl c⟩⟩
  · cases hcs
    simp only [if_true] at hmm
    have hel : ∀ i, i < len → ∃ r : List (Int × Int), W.cell? (a.add i) = some (V i) ∧ SlG W (V i) r := fun i hi2 => by
      obtain ⟨h0, h1⟩ := hi i (by omega)
      obtain ⟨r, hr⟩ := open_fs_core h1
      exact ⟨r, h0, hr⟩
    obtain ⟨R, hR⟩ := choose_lt (α := List (Int × Int)) (p := fun i r => W.cell? (a.add i) = some (V i) ∧ SlG W (V i) r) hel
    refine ⟨(List.range len).map R, ⟨some a, cap, by simp, by simpa using hl, by unfold maxLen at hm; omega, fun hne => ?_⟩⟩
    have hlen : 0 < len := by
      rcases Nat.eq_zero_or_pos len with h0 | h0
      · subst h0; exact absurd rfl hne
      · exact h0
    obtain ⟨b, off, spot⟩ := a
    have hspot : spot = none := by simpa [Addr.add] using World.cell?_spot (hR 0 hlen).1
    subst hspot
    refine ⟨b, off, rfl, World.block_lt_of_cell? W _ (hR 0 hlen).1, fun i hi2 => ?_⟩
    rw [List.length_map, List.length_range] at hi2
    have h0 := hR i hi2
    unfold Row rAt
    rw [List.getElem?_map, List.getElem?_range hi2]
    rw [add_plain] at h0
    exact ⟨V i, h0.1, h0.2⟩
end Go.Proofs.YtiedombphcdpbaaDoor.Fr
