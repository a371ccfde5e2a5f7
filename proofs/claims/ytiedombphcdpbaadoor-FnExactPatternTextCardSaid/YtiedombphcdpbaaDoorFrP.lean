/-
  Fs, Lim, FOps, FList, FWh, FSum, FOpen, OpenFs, in one text.
-/
import Derived.Test.YtiedombphcdpbaaDoorFrVf
import Derived.Deep.OwnRows
import Derived.Lib.Hide
import Derived.StillTailTactics
import Derived.Defers
import Derived.Recover
import Derived.Laws.Pointers
import Derived.Laws.StructEq
import Derived.Laws.Tables
import Derived.KernelRfl
import Derived.Deep.RegionHeld3
import Derived.Deep.DeepCutAuto
import Derived.Test.YtiedombphcdpbaaDoorRows
import Derived.Test.YtiedombphcdpbaaDoorFrame
import Derived.Lib.SmallJoins
import Derived.OpenShut
import Derived.Deep.SlicePairs
/-
  LISTS OF FRACTIONS: 'SlG w v gs': in the world w the value v is a list that holds the fractions gs. What copies such a list, and what holds two against each other.
-/
namespace Go.Proofs.YtiedombphcdpbaaDoor.Fr
open Go.RowKit
set_option maxRecDepth 100000

def gAt (gs : List (Int × Int)) (i : Nat) : Int × Int := gs[i]?.getD (0, 0)
/-- two cells of a block that hold the graph at i -/
def GCell (w : World) (b off : Nat) (g : Int × Int) (i : Nat) : Prop := w.cell? ⟨b, off + i * 2, none⟩ = some (.int .i64 g.1) ∧ w.cell? ⟨b, off + i * 2 + 1, none⟩ = some (.int .i64 g.2)
def SlG (w : World) (v : Value) (gs : List (Int × Int)) : Prop :=
  ∃ (a : Option Addr) (cap : Nat), v = .slice a gs.length cap ∧ gs.length ≤ cap ∧ cap ≤ 9223372036854775807 ∧
    (gs ≠ [] → ∃ b off, a = some ⟨b, off, none⟩ ∧ b < w.heap.size ∧ ∀ i, i < gs.length → GCell w b off (gAt gs i) i)
theorem SlG.below {w w' : World} {v : Value} {gs : List (Int × Int)} (h : SlG w v gs) (hb : Below w.heap.size w w') : SlG w' v gs := by
  obtain ⟨a, cap, e, h1, h2, h3⟩ := h
  refine ⟨a, cap, e, h1, h2, fun hz => ?_⟩
  obtain ⟨b, off, e2, hlt, hc⟩ := h3 hz
  exact ⟨b, off, e2, Nat.lt_of_lt_of_le hlt hb.size, fun i hi => ⟨(hb.cell (p := ⟨b, _, none⟩) hlt).trans (hc i hi).1, (hb.cell (p := ⟨b, _, none⟩) hlt).trans (hc i hi).2⟩⟩
/-- a block that holds the first k of gs, zeros behind -/
def HalfG (w : World) (B k : Nat) (gs : List (Int × Int)) : Prop := ∀ i, i < gs.length → GCell w B 0 (if i < k then gAt gs i else (0, 0)) i
theorem HalfG.set {w : World} {B k : Nat} {gs : List (Int × Int)} (h : HalfG w B k gs) (hk : k < gs.length) : HalfG ((w.setCell ⟨B, k * 2, none⟩ (.int .i64 (gAt gs k).1)).setCell ⟨B, k * 2 + 1, none⟩ (.int .i64 (gAt gs k).2)) B (k + 1) gs := by
  intro i hi
  have hi2 := h i hi
  unfold GCell at hi2 ⊢
  rw [Nat.zero_add] at hi2 ⊢
  by_cases e : i = k
  · subst e
    rw [if_pos (by omega)]
    exact ⟨(World.cell?_setCell_other _ _ _ _ (by simp)).trans (World.cell?_setCell_same _ _ _ hi2.1), World.cell?_setCell_same _ _ _ ((World.cell?_setCell_other _ _ _ _ (by simp)).trans hi2.2)⟩
  · rw [show (if i < k + 1 then gAt gs i else (0, 0)) = (if i < k then gAt gs i else (0, 0)) by
      by_cases c : i < k
      · rw [if_pos c, if_pos (by omega)]
      · rw [if_neg c, if_neg (by omega)]]
    exact ⟨(World.cell?_setCell_other _ _ _ _ (by simp <;> omega)).trans ((World.cell?_setCell_other _ _ _ _ (by simp <;> omega)).trans hi2.1), (World.cell?_setCell_other _ _ _ _ (by simp <;> omega)).trans ((World.cell?_setCell_other _ _ _ _ (by simp <;> omega)).trans hi2.2)⟩
theorem HalfG.below {w w' : World} {B k : Nat} {gs : List (Int × Int)} (h : HalfG w B k gs) (hb : Below w.heap.size w w') (hB : B < w.heap.size) : HalfG w' B k gs :=
  fun i hi => ⟨(hb.cell (p := ⟨B, _, none⟩) hB).trans (h i hi).1, (hb.cell (p := ⟨B, _, none⟩) hB).trans (h i hi).2⟩
theorem HalfG.done {w : World} {B cap : Nat} {gs : List (Int × Int)} (h : HalfG w B gs.length gs) (hB : B < w.heap.size) (hc : gs.length ≤ cap) (hm : cap ≤ 9223372036854775807) : SlG w (.slice (some ⟨B, 0, none⟩) gs.length cap) gs :=
  ⟨_, _, rfl, hc, hm, fun _ => ⟨B, 0, rfl, hB, fun i hi => by have := h i hi; rw [if_pos hi] at this; exact this⟩⟩
theorem info_graph : (Tryd.prog.info? 70).map (fun i => (i.zero, i.size, i.bytes)) = some (some (.agg #[.int .i64 0, .int .i64 0]), 2, 16) := by kernel_rfl
theorem madeG (w : World) (n B : Nat) (e : TypeId) (gs : List (Int × Int)) (hB : B = w.heap.size) (hn : gs.length = n) : HalfG (w.alloc (.cells (madeCells #[.int .i64 0, .int .i64 0] (n * 2)) e)) B 0 gs := by
  intro i hi
  subst hB
  unfold GCell
  rw [World.cell?_alloc_new, World.cell?_alloc_new, Nat.zero_add, if_neg (by omega)]
  have h1 : i * 2 < n * 2 := by omega
  have h2 : i * 2 + 1 < n * 2 := by omega
  constructor
  · simp [madeCells, h1]
  · simp [madeCells, h2]
section
variable (w : World)
theorem sz_ok (a : Option Addr) (l cap : Nat) (q : Int) (hq : q ≤ 1048576) (hl : (l : Int) ≤ q) :
    Calls Tryd.prog 27 #[.slice a l cap, .int .i64 q] w fun r w' => r = .returned (.int .i64 (q - (l : Int))) ∧ w = w' := by
  go_enter Tryd.func27, Tryd.ntmps27
  go_wp2
  go_ret
  exact ⟨rfl, rfl⟩
theorem sz_long (a : Option Addr) (l cap : Nat) (q : Int) (hq0 : 0 ≤ q) (hq : q ≤ 1048576) (hl : q < (l : Int)) (hm : l ≤ 9223372036854775807) :
    Calls Tryd.prog 27 #[.slice a l cap, .int .i64 q] w fun r w' => r = .returned (.int .i64 (-1)) ∧ w = w' := by
  go_enter Tryd.func27, Tryd.ntmps27
  go_wp2
  go_ret
  exact ⟨rfl, rfl⟩
theorem toGs_empty (a : Option Addr) (cap : Nat) :
    Calls Tryd.prog 30 #[.slice a 0 cap] w fun r w' => (∃ v, r = .returned v ∧ SlG w' v []) ∧ Below w.heap.size w w' := by
  obtain ⟨i0, hi0, hz0, hs0, hb0⟩ := info_parts info_graph
  have hmk : ∀ W : World, (Instr.makeSlice 60 (.int .i64 0) (.int .i64 0)).run Tryd.prog W = .ok (.slice (some ⟨W.heap.size, 0, none⟩) 0 0) (W.alloc (.cells (madeCells #[.int .i64 0, .int .i64 0] (0 * 2)) 70)) := fun W => by
    have hr := run_make (P := Tryd.prog) W 60 70 i0 (.agg #[.int .i64 0, .int .i64 0]) Tryd.underlying60 hi0 hz0 .i64 .i64 ((0 : Nat) : Int) ((0 : Nat) : Int) (by omega) (by omega) (by rw [hb0]; omega) (by omega)
    simp only [Int.toNat_natCast, hs0] at hr
    exact hr
  clear hi0 hz0 hs0 hb0
  go_enter Tryd.func30, Tryd.ntmps30
  go_wp2
  go_loopw [4] (fun i wr => i = .int .i64 0 ∧ Below w.heap.size w wr) (fun _ _ => 0)
  case atStart => exact ⟨rfl, by (repeat (first | exact Below.refl _ _ | assumption | refine bchain (by assumption) ?_ | refine balloc ?_ _ | apply Below.drew | apply below_drewN | (refine Below.alloc ?_ (by (try simp) <;> omega) _) | (refine Below.setCell ?_ (by (try simp) <;> omega) _)))⟩
  case round =>
    obtain ⟨rfl, hb⟩ := hrel
    go_wp2
    go_ret
    exact ⟨⟨_, rfl, _, _, rfl, by simp, by simp, fun c => absurd rfl c⟩, hb⟩
set_option maxHeartbeats 1000000 in
theorem toGs_some (b off cap : Nat) (gs : List (Int × Int)) (h1 : 0 < gs.length) (h2 : gs.length ≤ cap) (hm : gs.length ≤ 1048576) (hb : b < w.heap.size) (hc : ∀ i, i < gs.length → GCell w b off (gAt gs i) i) :
    Calls Tryd.prog 30 #[.slice (some ⟨b, off, none⟩) gs.length cap] w fun r w' => (∃ v, r = .returned v ∧ SlG w' v gs) ∧ Below w.heap.size w w' := by
  obtain ⟨i0, hi0, hz0, hs0, hb0⟩ := info_parts info_graph
  obtain ⟨O, hO⟩ : ∃ O, O = Obj.cells (madeCells #[.int .i64 0, .int .i64 0] (gs.length * 2)) 70 := ⟨_, rfl⟩
  obtain ⟨n, hn⟩ : ∃ n, n = gs.length := ⟨_, rfl⟩
  rw [← hn] at h1 h2 hm hO ⊢
  have hmk : ∀ W : World, (Instr.makeSlice 60 (.int .i64 n) (.int .i64 n)).run Tryd.prog W = .ok (.slice (some ⟨W.heap.size, 0, none⟩) n n) (W.alloc O) := fun W => by
    have hr := run_make (P := Tryd.prog) W 60 70 i0 (.agg #[.int .i64 0, .int .i64 0]) Tryd.underlying60 hi0 hz0 .i64 .i64 (n : Int) (n : Int) (by omega) (by omega) (by rw [hb0]; omega) (by omega)
    simp only [Int.toNat_natCast, hs0] at hr
    rw [hO]
    exact hr
  clear hi0 hz0 hs0 hb0
  replace hO := Lib.hid hO
  replace hn := Lib.hid hn
  replace hc := Lib.hid hc
  go_enter Tryd.func30, Tryd.ntmps30
  go_wp2
  go_loopw [4] (fun i wr => ∃ k : Nat, k ≤ n ∧ i = .int .i64 k ∧ HalfG wr w.heap.size k gs ∧ (∀ o, wr.frozen? ⟨w.heap.size, o, none⟩ = false) ∧ w.heap.size < wr.heap.size ∧ Below w.heap.size w wr) (fun i _ => n - (intOf i).toNat)
  case atStart => exact ⟨0, by omega, rfl, by rw [hO.out]; exact madeG _ _ _ _ _ rfl hn.out.symm, fun o => by rw [hO.out]; simp, by simp, by (repeat (first | exact Below.refl _ _ | assumption | refine bchain (by assumption) ?_ | refine balloc ?_ _ | apply Below.drew | apply below_drewN | (refine Below.alloc ?_ (by (try simp) <;> omega) _) | (refine Below.setCell ?_ (by (try simp) <;> omega) _)))⟩
  case round =>
    obtain ⟨k, hk, rfl, hh, hf, hz, hB⟩ := hrel
    by_cases hlt : k < n
    · have hg := hc.out k (by have := hn.out; omega)
      obtain ⟨x, y, hxy⟩ : ∃ x y, gAt gs k = (x, y) := ⟨_, _, rfl⟩
      have hs0 : wr.cell? ⟨b, off + k * 2, none⟩ = some (.int .i64 x) := by rw [hB.cell (p := ⟨b, _, none⟩) hb, hg.1, hxy]
      have hs1 : wr.cell? ⟨b, off + k * 2 + 1, none⟩ = some (.int .i64 y) := by rw [hB.cell (p := ⟨b, _, none⟩) hb, hg.2, hxy]
      have hset := Lib.hid (fun (W : World) (h : HalfG W w.heap.size k gs) => h.set (k := k) (by have := hn.out; omega))
      rw [hxy] at hset
      clear hg hxy
      replace hh := Lib.hid hh
      replace hf := Lib.hid hf
      go_wp2_with fail
      refine (toF_any _ x y).mono ?_
      rintro r3 w3 ⟨rfl, hb3⟩
      have hh3 := hh.out.below hb3 hz
      have hz3 := Nat.lt_of_lt_of_le hz hb3.size
      have ht := hh3 k (by have := hn.out; omega)
      rw [if_neg (by omega)] at ht
      have t0 : w3.cell? ⟨w.heap.size, k * 2, none⟩ = some (.int .i64 0) := by have := ht.1; rwa [Nat.zero_add] at this
      have t1 : w3.cell? ⟨w.heap.size, k * 2 + 1, none⟩ = some (.int .i64 0) := by have := ht.2; rwa [Nat.zero_add] at this
      have hf3 : ∀ o, w3.frozen? ⟨w.heap.size, o, none⟩ = false := fun o => (hb3.frozen (p := ⟨w.heap.size, o, none⟩) hz).trans (hf.out o)
      have f0 := hf3 (k * 2)
      have f1 := hf3 (k * 2 + 1)
      have hn2 := Lib.hid (hset.out w3 hh3)
      replace hf3 := Lib.hid hf3
      clear hh3 ht
      go_wp2
      go_roundw
      case rel => exact ⟨k + 1, by omega, by go_num, hn2.out, fun o => by simp [hf3.out o], by simp; omega, by (repeat (first | exact Below.refl _ _ | assumption | refine bchain (by assumption) ?_ | refine balloc ?_ _ | apply Below.drew | apply below_drewN | (refine Below.alloc ?_ (by (try simp) <;> omega) _) | (refine Below.setCell ?_ (by (try simp) <;> omega) _)))⟩
      case measure => simp [intOf]; omega
    · have hd := decide_eq_false (show ¬ ((k : Int) < (n : Int)) by omega)
      obtain rfl : k = n := by omega
      replace hh := Lib.hid hh
      replace hf := Lib.hid hf
      go_wp2
      go_ret
      refine ⟨⟨_, rfl, ?_⟩, hB⟩
      have e := hn.out
      subst e
      exact HalfG.done hh.out hz (Nat.le_refl _) (by omega)
theorem toGs_any (v : Value) (gs : List (Int × Int)) (h : SlG w v gs) (hm : gs.length ≤ 1048576) :
    Calls Tryd.prog 30 #[v] w fun r w' => (∃ u, r = .returned u ∧ SlG w' u gs) ∧ Below w.heap.size w w' := by
  obtain ⟨a, cap, rfl, h1, h2, h3⟩ := h
  cases gs with
  | nil => exact toGs_empty w a cap
  | cons z zs =>
    obtain ⟨b, off, rfl, hb, hc⟩ := h3 (by simp)
    exact toGs_some w b off cap (z :: zs) (by simp) h1 hm hb hc
theorem eqGs_empty (a a' : Option Addr) (cap cap' : Nat) :
    Calls Tryd.prog 35 #[.slice a 0 cap, .slice a' 0 cap'] w fun r w' => r = .returned (.bool true) ∧ Below w.heap.size w w' := by
  go_enter Tryd.func35, Tryd.ntmps35
  go_wp2
  go_loopw [5] (fun i wr => i = .int .i64 0 ∧ Below w.heap.size w wr) (fun _ _ => 0)
  case atStart => exact ⟨rfl, by (repeat (first | exact Below.refl _ _ | assumption | refine bchain (by assumption) ?_ | refine balloc ?_ _ | apply Below.drew | apply below_drewN | (refine Below.alloc ?_ (by (try simp) <;> omega) _) | (refine Below.setCell ?_ (by (try simp) <;> omega) _)))⟩
  case round =>
    obtain ⟨rfl, hb⟩ := hrel
    go_wp2
    go_ret
    exact ⟨rfl, hb⟩
set_option maxHeartbeats 1000000 in
theorem eqGs_some (b off cap b' off' cap' : Nat) (gs : List (Int × Int)) (h1 : 0 < gs.length) (hm : gs.length ≤ 1048576) (hb : b < w.heap.size) (hb' : b' < w.heap.size)
    (hc : ∀ i, i < gs.length → GCell w b off (gAt gs i) i) (hc' : ∀ i, i < gs.length → GCell w b' off' (gAt gs i) i) :
    Calls Tryd.prog 35 #[.slice (some ⟨b, off, none⟩) gs.length cap, .slice (some ⟨b', off', none⟩) gs.length cap'] w fun r w' => r = .returned (.bool true) ∧ Below w.heap.size w w' := by
  obtain ⟨n, hn⟩ : ∃ n, n = gs.length := ⟨_, rfl⟩
  rw [← hn] at h1 hm ⊢
  replace hn := Lib.hid hn
  replace hc := Lib.hid hc
  replace hc' := Lib.hid hc'
  go_enter Tryd.func35, Tryd.ntmps35
  go_wp2
  go_loopw [5] (fun i wr => ∃ k : Nat, k ≤ n ∧ i = .int .i64 k ∧ Below w.heap.size w wr) (fun i _ => n - (intOf i).toNat)
  case atStart => exact ⟨0, by omega, rfl, by (repeat (first | exact Below.refl _ _ | assumption | refine bchain (by assumption) ?_ | refine balloc ?_ _ | apply Below.drew | apply below_drewN | (refine Below.alloc ?_ (by (try simp) <;> omega) _) | (refine Below.setCell ?_ (by (try simp) <;> omega) _)))⟩
  case round =>
    obtain ⟨k, hk, rfl, hB⟩ := hrel
    by_cases hlt : k < n
    · have hg := hc.out k (by have := hn.out; omega)
      have hg' := hc'.out k (by have := hn.out; omega)
      obtain ⟨x, y, hxy⟩ : ∃ x y, gAt gs k = (x, y) := ⟨_, _, rfl⟩
      have s0 : wr.cell? ⟨b, off + k * 2, none⟩ = some (.int .i64 x) := by rw [hB.cell (p := ⟨b, _, none⟩) hb, hg.1, hxy]
      have s1 : wr.cell? ⟨b, off + k * 2 + 1, none⟩ = some (.int .i64 y) := by rw [hB.cell (p := ⟨b, _, none⟩) hb, hg.2, hxy]
      have t0 : wr.cell? ⟨b', off' + k * 2, none⟩ = some (.int .i64 x) := by rw [hB.cell (p := ⟨b', _, none⟩) hb', hg'.1, hxy]
      have t1 : wr.cell? ⟨b', off' + k * 2 + 1, none⟩ = some (.int .i64 y) := by rw [hB.cell (p := ⟨b', _, none⟩) hb', hg'.2, hxy]
      have hE := Lib.hid (eqF_any wr.drew x y)
      have hk1 : (k : Int) < (n : Int) := by omega
      clear hg hg' hxy
      go_wp2
      go_still_tail 8, (by kernel_rfl)
      change wpList _ _ _ _ _ wr.drew
      go_wp2_with (go_at_call 67; refine (hE.out).mono ?_; rintro r3 w3 ⟨rfl, hb3⟩)
      go_roundw
      case rel => exact ⟨k + 1, by omega, by go_num, by (repeat (first | exact Below.refl _ _ | assumption | refine bchain (by assumption) ?_ | refine balloc ?_ _ | apply Below.drew | apply below_drewN | (refine Below.alloc ?_ (by (try simp) <;> omega) _) | (refine Below.setCell ?_ (by (try simp) <;> omega) _)))⟩
      case measure => simp [intOf]; omega
    · have hd := decide_eq_false (show ¬ ((k : Int) < (n : Int)) by omega)
      go_wp2
      go_ret
      exact ⟨rfl, hB⟩
theorem eqGs_any (u v : Value) (gs : List (Int × Int)) (h : SlG w u gs) (h' : SlG w v gs) (hm : gs.length ≤ 1048576) :
    Calls Tryd.prog 35 #[u, v] w fun r w' => r = .returned (.bool true) ∧ Below w.heap.size w w' := by
  obtain ⟨a, cap, rfl, h1, h2, h3⟩ := h
  obtain ⟨a', cap', rfl, h1', h2', h3'⟩ := h'
  cases gs with
  | nil => exact eqGs_empty w a a' cap cap'
  | cons z zs =>
    obtain ⟨b, off, rfl, hb, hc⟩ := h3 (by simp)
    obtain ⟨b', off', rfl, hb', hc'⟩ := h3' (by simp)
    exact eqGs_some w b off cap b' off' cap' (z :: zs) (by simp) hm hb hb' hc hc'
end
end Go.Proofs.YtiedombphcdpbaaDoor.Fr
/-
  'limited': what a function that builds something returns, or, if it has thrown that a fraction is too large, ErrLimit.
-/
namespace Go.Proofs.YtiedombphcdpbaaDoor.Fr
open Go.RowKit
set_option maxRecDepth 100000

theorem catch_pan (B : Nat) (x : Value) (older : List PanicEntry) (w : World) (hB : B < w.heap.size) (hc : w.cell? ⟨B, 0, none⟩ = some x) (hz : w.frozen? ⟨B, 0, none⟩ = false) :
    CallsD Tryd.prog 157 #[.pointer (some ⟨B, 0, none⟩)] (.panicking ({ v := .iface 213 (.agg #[]), recovered := false } :: older)) w fun e u' w' =>
      e = .returned (.tuple #[]) ∧ u' = .panicking ({ v := .iface 213 (.agg #[]), recovered := true } :: older) ∧ w' = (w.setCell ⟨B, 0, none⟩ (.int .i64 3)).alloc (.cells #[] 213) := by
  refine callsD_of_wpS Tryd.func157 rfl fun c₀ cs hu => ?_
  apply wpS_seq
  apply wpS_region
  simp [wpOpsS, go_sem, recoverD, hu, Tryd.ntmps157, Exit.thenS]
  have hta : ∀ W : World, (Instr.typeAssert (.iface 213 (.agg #[])) 20 205 true).run Tryd.prog W = .ok (.tuple #[.iface 213 (.agg #[]), .bool true]) W := fun _ => by kernel_rfl
  have hmt : ∀ W : World, (method 327 213 (.agg #[]) "loop.example/g01169/impl.code").run Tryd.prog W = .ok (179, .agg #[]) W := fun _ => by kernel_rfl
  have hc1 : (w.alloc (.cells #[] 213)).cell? ⟨B, 0, none⟩ = some x := (World.cell?_alloc_old _ _ _ (by show B ≠ _; omega)).trans hc
  have hz1 : (w.alloc (.cells #[] 213)).frozen? ⟨B, 0, none⟩ = false := (((Below.refl w.heap.size w).alloc (Nat.le_refl _) _).frozen (p := ⟨B, 0, none⟩) hB).trans hz
  apply wpS_of_wp
  change Code.wp _ _ _ { tmps := #[.pointer (some ⟨B, 0, none⟩), .iface 213 (.agg #[]), undef, undef, .iface 213 (.agg #[]), undef, undef, undef, undef, undef, undef, undef, undef, undef, undef, undef], defers := [] } w
  go_wp2
  simp [bodyPostS, results, Tryd.results157]

theorem catch_idle (B : Nat) (w : World) :
    CallsD Tryd.prog 157 #[.pointer (some ⟨B, 0, none⟩)] .returning w fun e u' w' => e = .returned (.tuple #[]) ∧ u' = .returning ∧ w' = w := by
  refine callsD_of_wpS Tryd.func157 rfl fun c₀ cs hu => ?_
  apply wpS_seq
  apply wpS_region
  simp [wpOpsS, go_sem, recoverD, hu, Tryd.ntmps157, Exit.thenS]
  have hta : ∀ W : World, (Instr.typeAssert .nilIface 20 205 true).run Tryd.prog W = .ok (.tuple #[.nilIface, .bool false]) W := fun _ => by kernel_rfl
  have hne : ∀ W : World, (binOp .neq 20 .nilIface .nilIface).run Tryd.prog W = .ok (.bool false) W := fun _ => by kernel_rfl
  apply wpS_of_wp
  change Code.wp _ _ _ { tmps := #[.pointer (some ⟨B, 0, none⟩), .nilIface, undef, undef, .nilIface, undef, undef, undef, undef, undef, undef, undef, undef, undef, undef, undef], defers := [] } w
  go_wp2
  cases c₀
  simp_all [bodyPostS, results, Tryd.results157]

theorem lim_some (G : FuncId) (caps : Array Value) (eg : ∀ args w, (callFunc G args).run Tryd.prog w = .ok (.enter G args) w) (x : Int × Int) (w : World)
    (hG : ∀ W, Below w.heap.size w W → Calls Tryd.prog G caps W fun r w' => r = .returned (fv x) ∧ Below W.heap.size W w') :
    Calls Tryd.prog 152 #[.func (.func G) #[] caps] w fun r w' => r = .returned (lv (some x)) ∧ Below w.heap.size w w' := by
  replace hG := Lib.hid hG
  have hmf : ∀ (fn : Fn) (first cap : Array Value) (w : World), (Instr.makeFunc fn first cap).run Tryd.prog w = .ok (.func fn first cap) w := fun _ _ _ _ => rfl
  obtain ⟨x1, x2⟩ := x
  go_enter_defers Tryd.func152, Tryd.ntmps152
  go_wp2_with fail
  refine (hG.out _ (by (repeat (first | exact Below.refl _ _ | assumption | refine bchain (by assumption) ?_ | refine balloc ?_ _ | apply Below.drew | apply below_drewN | (refine Below.alloc ?_ (by (try simp) <;> omega) _) | (refine Below.setCell ?_ (by (try simp) <;> omega) _))))).mono ?_
  rintro r1 w1 ⟨rfl, hb1⟩
  obtain ⟨hc1, hz1⟩ := bkeep hb1 w.heap.size (by simp <;> omega)
  obtain ⟨hc2, hz2⟩ := bkeep hb1 (w.heap.size + 1) (by simp)
  have hf1 := bkeepz hb1 w.heap.size (by simp <;> omega)
  have hf2 := bkeepz hb1 (w.heap.size + 1) (by simp)
  unfold fv
  go_wp2
  refine leaves_cons (f := 157) (args := #[.pointer (some ⟨w.heap.size + 1, 0, none⟩)]) (by simp) (by simp [go_sem]) ?_
  refine (catch_idle (w.heap.size + 1) _).mono ?_
  rintro e u' w'' ⟨rfl, rfl, rfl⟩
  have g0 : w1.cell? ⟨w.heap.size, 0, none⟩ = some (.int .i64 0) := (hc1 0).trans (by simp)
  have g1 : w1.cell? ⟨w.heap.size, 1, none⟩ = some (.int .i64 0) := (hc1 1).trans (by simp)
  have g2 : w1.cell? ⟨w.heap.size + 1, 0, none⟩ = some (.int .i64 0) := (hc2 0).trans (by simp)
  have k0 : (w1.setCell ⟨w.heap.size, 0, none⟩ (.int .i64 x1)).cell? ⟨w.heap.size, 0, none⟩ = some (.int .i64 x1) := World.cell?_setCell_same _ _ _ g0
  have k1 : ((w1.setCell ⟨w.heap.size, 0, none⟩ (.int .i64 x1)).setCell ⟨w.heap.size, 1, none⟩ (.int .i64 x2)).cell? ⟨w.heap.size, 1, none⟩ = some (.int .i64 x2) :=
    World.cell?_setCell_same _ _ _ ((World.cell?_setCell_other _ _ _ _ (by simp)).trans g1)
  have k2 : (((w1.setCell ⟨w.heap.size, 0, none⟩ (.int .i64 x1)).setCell ⟨w.heap.size, 1, none⟩ (.int .i64 x2)).setCell ⟨w.heap.size + 1, 0, none⟩ (.int .i64 0)).cell? ⟨w.heap.size + 1, 0, none⟩ = some (.int .i64 0) :=
    World.cell?_setCell_same _ _ _ ((World.cell?_setCell_other _ _ _ _ (by simp)).trans ((World.cell?_setCell_other _ _ _ _ (by simp)).trans g2))
  simp [Leaves, settle, results, Tryd.results152, go_sem, k0, k1, k2]
  exact ⟨rfl, by (repeat (first | exact Below.refl _ _ | assumption | refine bchain (by assumption) ?_ | refine balloc ?_ _ | apply Below.drew | apply below_drewN | (refine Below.alloc ?_ (by (try simp) <;> omega) _) | (refine Below.setCell ?_ (by (try simp) <;> omega) _)))⟩
theorem lim_none (G : FuncId) (caps : Array Value) (eg : ∀ args w, (callFunc G args).run Tryd.prog w = .ok (.enter G args) w) (w : World)
    (hG : ∀ W, Below w.heap.size w W → Calls Tryd.prog G caps W fun r w' => r = tooBig ∧ Below W.heap.size W w') :
    Calls Tryd.prog 152 #[.func (.func G) #[] caps] w fun r w' => r = .returned (lv none) ∧ Below w.heap.size w w' := by
  replace hG := Lib.hid hG
  have hmf : ∀ (fn : Fn) (first cap : Array Value) (w : World), (Instr.makeFunc fn first cap).run Tryd.prog w = .ok (.func fn first cap) w := fun _ _ _ _ => rfl
  go_enter_defers Tryd.func152, Tryd.ntmps152
  go_wp2_with fail
  refine (hG.out _ (by (repeat (first | exact Below.refl _ _ | assumption | refine bchain (by assumption) ?_ | refine balloc ?_ _ | apply Below.drew | apply below_drewN | (refine Below.alloc ?_ (by (try simp) <;> omega) _) | (refine Below.setCell ?_ (by (try simp) <;> omega) _))))).mono ?_
  rintro r1 w1 ⟨rfl, hb1⟩
  obtain ⟨hc1, hz1⟩ := bkeep hb1 w.heap.size (by simp <;> omega)
  obtain ⟨hc2, hz2⟩ := bkeep hb1 (w.heap.size + 1) (by simp)
  have hf1 := bkeepz hb1 w.heap.size (by simp <;> omega)
  have hf2 := bkeepz hb1 (w.heap.size + 1) (by simp)
  have g0 : w1.cell? ⟨w.heap.size, 0, none⟩ = some (.int .i64 0) := (hc1 0).trans (by simp)
  have g1 : w1.cell? ⟨w.heap.size, 1, none⟩ = some (.int .i64 0) := (hc1 1).trans (by simp)
  have g2 : w1.cell? ⟨w.heap.size + 1, 0, none⟩ = some (.int .i64 0) := (hc2 0).trans (by simp)
  have z2 : w1.frozen? ⟨w.heap.size + 1, 0, none⟩ = false := (hf2 0).trans (by simp)
  unfold tooBig
  go_wp2
  refine leaves_cons (f := 157) (args := #[.pointer (some ⟨w.heap.size + 1, 0, none⟩)]) (by simp) (by simp [go_sem]) ?_
  refine (catch_pan (w.heap.size + 1) _ [] _ hz2 g2 z2).mono ?_
  rintro e u' w'' ⟨rfl, rfl, rfl⟩
  have k0 : ((w1.setCell ⟨w.heap.size + 1, 0, none⟩ (.int .i64 3)).alloc (.cells #[] 213)).cell? ⟨w.heap.size, 0, none⟩ = some (.int .i64 0) :=
    (World.cell?_alloc_old _ _ _ (by simp; omega)).trans ((World.cell?_setCell_other _ _ _ _ (by simp)).trans g0)
  have k1 : ((w1.setCell ⟨w.heap.size + 1, 0, none⟩ (.int .i64 3)).alloc (.cells #[] 213)).cell? ⟨w.heap.size, 1, none⟩ = some (.int .i64 0) :=
    (World.cell?_alloc_old _ _ _ (by simp; omega)).trans ((World.cell?_setCell_other _ _ _ _ (by simp)).trans g1)
  have k2 : ((w1.setCell ⟨w.heap.size + 1, 0, none⟩ (.int .i64 3)).alloc (.cells #[] 213)).cell? ⟨w.heap.size + 1, 0, none⟩ = some (.int .i64 3) :=
    (World.cell?_alloc_old _ _ _ (by simp; omega)).trans (World.cell?_setCell_same _ _ _ g2)
  simp [Leaves, settle, results, Tryd.results152, go_sem, k0, k1, k2]
  exact ⟨rfl, by (repeat (first | exact Below.refl _ _ | assumption | refine bchain (by assumption) ?_ | refine balloc ?_ _ | apply Below.drew | apply below_drewN | (refine Below.alloc ?_ (by (try simp) <;> omega) _) | (refine Below.setCell ?_ (by (try simp) <;> omega) _)))⟩
theorem lim_any (G : FuncId) (caps : Array Value) (eg : ∀ args w, (callFunc G args).run Tryd.prog w = .ok (.enter G args) w) (o : Option (Int × Int)) (w : World)
    (hG : ∀ W, Below w.heap.size w W → Calls Tryd.prog G caps W fun r w' => r = qe o ∧ Below W.heap.size W w') :
    Calls Tryd.prog 152 #[.func (.func G) #[] caps] w fun r w' => r = .returned (lv o) ∧ Below w.heap.size w w' := by
  cases o with
  | some x => exact lim_some G caps eg x w hG
  | none => exact lim_none G caps eg w hG
end Go.Proofs.YtiedombphcdpbaaDoor.Fr
/-
  CONTRACTS: sum, difference, product and quotient of two valid fractions: the program's and the model's.
-/
namespace Go.Proofs.YtiedombphcdpbaaDoor.Fr
open Go.RowKit
set_option maxRecDepth 100000

def addF (a b : Int × Int) : Option (Int × Int) := low (a.1 * b.2 + b.1 * a.2) (a.2 * b.2)
def subF (a b : Int × Int) : Option (Int × Int) := low (a.1 * b.2 - b.1 * a.2) (a.2 * b.2)
def mulF (a b : Int × Int) : Option (Int × Int) := low (a.1 * b.1) (a.2 * b.2)
def divF (a b : Int × Int) : Option (Int × Int) := low (a.1 * b.2) (a.2 * b.1)
def VP (a : Int × Int) : Prop := VF a.1 a.2
theorem VP.b1 {a : Int × Int} (h : VP a) : -1000000000 ≤ a.1 ∧ a.1 ≤ 1000000000 := ⟨h.2.2.1, h.2.2.2.1⟩
theorem VP.b2 {a : Int × Int} (h : VP a) : -1000000000 ≤ a.2 ∧ a.2 ≤ 1000000000 := ⟨by have := h.1; omega, h.2.1⟩
theorem VP.pos {a : Int × Int} (h : VP a) : 1 ≤ a.2 := h.1
theorem add_vp {a b x : Int × Int} (ha : VP a) (hb : VP b) (h : addF a b = some x) : VP x := low_vf (by have := mul_pos_b ha.pos hb.pos; omega) h
theorem sub_vp {a b x : Int × Int} (ha : VP a) (hb : VP b) (h : subF a b = some x) : VP x := low_vf (by have := mul_pos_b ha.pos hb.pos; omega) h
theorem mul_vp {a b x : Int × Int} (ha : VP a) (hb : VP b) (h : mulF a b = some x) : VP x := low_vf (by have := mul_pos_b ha.pos hb.pos; omega) h
theorem div_vp {a b x : Int × Int} (ha : VP a) (hb : b.1 ≠ 0) (h : divF a b = some x) : VP x := low_vf (Int.mul_ne_zero (by have := ha.pos; omega) hb) h
section
variable (w : World)

theorem plus_any (a b : Int × Int) (ha : VP a) (hb : VP b) :
    Calls Tryd.prog 158 #[fv a, fv b] w fun r w' => r = qe (addF a b) ∧ Below w.heap.size w w' := by
  have c1 := mul_b ha.b1 hb.b2
  have c2 := mul_b hb.b1 ha.b2
  have c3 := mul_b ha.b2 hb.b2
  have c4 := mul_pos_b ha.pos hb.pos
  unfold addF
  obtain ⟨a1, a2⟩ := a
  obtain ⟨b1, b2⟩ := b
  unfold fv
  dsimp only at *
  obtain ⟨m1, hm1⟩ : ∃ m1 : Int, a1 * b2 = m1 := ⟨_, rfl⟩
  rw [hm1] at c1 ⊢
  obtain ⟨m2, hm2⟩ : ∃ m2 : Int, b1 * a2 = m2 := ⟨_, rfl⟩
  rw [hm2] at c2 ⊢
  obtain ⟨m3, hm3⟩ : ∃ m3 : Int, a2 * b2 = m3 := ⟨_, rfl⟩
  rw [hm3] at c3 c4 ⊢
  have hQ := Lib.hid (fun W => q_any W (m1 + m2) m3 (by omega) (by omega) (by omega))
  obtain ⟨R, hR⟩ : ∃ R, low (m1 + m2) m3 = R := ⟨_, rfl⟩
  rw [hR] at hQ ⊢
  clear hR ha hb
  go_enter Tryd.func158, Tryd.ntmps158
  go_wp2_with fail
  refine (hQ.out _).mono ?_
  rintro r w1 ⟨rfl, hb1⟩
  cases R with
  | none =>
    unfold qe tooBig
    go_wp2
    exact ⟨rfl, rfl, by (repeat (first | exact Below.refl _ _ | assumption | refine bchain (by assumption) ?_ | refine balloc ?_ _ | apply Below.drew | apply below_drewN | (refine Below.alloc ?_ (by (try simp) <;> omega) _) | (refine Below.setCell ?_ (by (try simp) <;> omega) _)))⟩
  | some x =>
    obtain ⟨x1, x2⟩ := x
    obtain ⟨hk1, hz1⟩ := bkeep hb1 (w.heap.size + 1 + 1) (by simp)
    have hf1 := bkeepz hb1 (w.heap.size + 1 + 1) (by simp)
    unfold qe fv
    go_wp2
    have g0 : w1.cell? ⟨w.heap.size + 1 + 1, 0, none⟩ = some (.int .i64 0) := (hk1 0).trans (by simp [go_sem])
    have g1 : w1.cell? ⟨w.heap.size + 1 + 1, 1, none⟩ = some (.int .i64 0) := (hk1 1).trans (by simp [go_sem])
    have h2 := twoCells g0 g1 (.int .i64 x1) (.int .i64 x2)
    exact bodyPost_ret (v := .agg #[.int .i64 x1, .int .i64 x2]) (by simp [results, Tryd.results158, go_sem, h2.1, h2.2]) rfl ⟨rfl, by (repeat (first | exact Below.refl _ _ | assumption | refine bchain (by assumption) ?_ | refine balloc ?_ _ | apply Below.drew | apply below_drewN | (refine Below.alloc ?_ (by (try simp) <;> omega) _) | (refine Below.setCell ?_ (by (try simp) <;> omega) _)))⟩

theorem splus_any (a b : Int × Int) (ha : VP a) (hb : VP b) :
    Calls Tryd.prog 129 #[fv a, fv b] w fun r w' => r = .returned (lv (addF a b)) ∧ Below w.heap.size w w' := by
  have c1 := mul_b ha.b1 hb.b2
  have c2 := mul_b hb.b1 ha.b2
  have c3 := mul_b ha.b2 hb.b2
  have c4 := mul_pos_b ha.pos hb.pos
  unfold addF
  obtain ⟨a1, a2⟩ := a
  obtain ⟨b1, b2⟩ := b
  unfold fv
  dsimp only at *
  obtain ⟨m1, hm1⟩ : ∃ m1 : Int, a1 * b2 = m1 := ⟨_, rfl⟩
  rw [hm1] at c1 ⊢
  obtain ⟨m2, hm2⟩ : ∃ m2 : Int, b1 * a2 = m2 := ⟨_, rfl⟩
  rw [hm2] at c2 ⊢
  obtain ⟨m3, hm3⟩ : ∃ m3 : Int, a2 * b2 = m3 := ⟨_, rfl⟩
  rw [hm3] at c3 c4 ⊢
  have hQ := Lib.hid (fun W => sl_any W (m1 + m2) m3 (by omega) (by omega) (by omega))
  obtain ⟨R, hR⟩ : ∃ R, low (m1 + m2) m3 = R := ⟨_, rfl⟩
  rw [hR] at hQ ⊢
  clear hR ha hb
  go_enter Tryd.func129, Tryd.ntmps129
  go_wp2_with fail
  refine (hQ.out _).mono ?_
  rintro r w1 ⟨rfl, hb1⟩
  obtain ⟨hk1, hz1⟩ := bkeep hb1 (w.heap.size + 1 + 1) (by simp)
  have hf1 := bkeepz hb1 (w.heap.size + 1 + 1) (by simp)
  cases R with
  | none =>
    unfold lv
    go_wp2
    have g0 : w1.cell? ⟨w.heap.size + 1 + 1, 0, none⟩ = some (.int .i64 0) := (hk1 0).trans (by simp [go_sem])
    have g1 : w1.cell? ⟨w.heap.size + 1 + 1, 1, none⟩ = some (.int .i64 0) := (hk1 1).trans (by simp [go_sem])
    have h2 := twoCells g0 g1 (.int .i64 0) (.int .i64 0)
    exact bodyPost_ret (v := .tuple #[.agg #[.int .i64 0, .int .i64 0], .int .i64 3]) (by simp [results, Tryd.results129, go_sem, h2.1, h2.2]) rfl ⟨rfl, by (repeat (first | exact Below.refl _ _ | assumption | refine bchain (by assumption) ?_ | refine balloc ?_ _ | apply Below.drew | apply below_drewN | (refine Below.alloc ?_ (by (try simp) <;> omega) _) | (refine Below.setCell ?_ (by (try simp) <;> omega) _)))⟩
  | some x =>
    obtain ⟨x1, x2⟩ := x
    unfold lv fv
    go_wp2
    have g0 : w1.cell? ⟨w.heap.size + 1 + 1, 0, none⟩ = some (.int .i64 0) := (hk1 0).trans (by simp [go_sem])
    have g1 : w1.cell? ⟨w.heap.size + 1 + 1, 1, none⟩ = some (.int .i64 0) := (hk1 1).trans (by simp [go_sem])
    have h2 := twoCells g0 g1 (.int .i64 x1) (.int .i64 x2)
    exact bodyPost_ret (v := .tuple #[.agg #[.int .i64 x1, .int .i64 x2], .int .i64 0]) (by simp [results, Tryd.results129, go_sem, h2.1, h2.2]) rfl ⟨rfl, by (repeat (first | exact Below.refl _ _ | assumption | refine bchain (by assumption) ?_ | refine balloc ?_ _ | apply Below.drew | apply below_drewN | (refine Below.alloc ?_ (by (try simp) <;> omega) _) | (refine Below.setCell ?_ (by (try simp) <;> omega) _)))⟩

/-- a fraction with the other sign -/
def oppF (a : Int × Int) : Int × Int := (-a.1, a.2)
theorem opp_vp {a : Int × Int} (h : VP a) : VP (oppF a) := ⟨h.1, h.2.1, by have := h.2.2.2.1; simp [oppF]; omega, by have := h.2.2.1; simp [oppF]; omega, by show Int.gcd (-a.1) a.2 = 1; rw [Int.neg_gcd]; exact h.2.2.2.2⟩
theorem sub_opp (a b : Int × Int) : subF a b = addF a (oppF b) := by unfold subF addF oppF; dsimp only; rw [Int.neg_mul, Int.sub_eq_add_neg]
end
end Go.Proofs.YtiedombphcdpbaaDoor.Fr
namespace Go.Proofs.YtiedombphcdpbaaDoor.Fr
open Go.RowKit
set_option maxRecDepth 100000
/-- the list lies in the world, each element where it is read -/
def Lies (w : World) (a : Option Addr) (gs : List (Int × Int)) : Prop := ∀ i, i < gs.length → ∃ b off, a = some ⟨b, off, none⟩ ∧ b < w.heap.size ∧ GCell w b off (gAt gs i) i
theorem SlG.lies {w : World} {v : Value} {gs : List (Int × Int)} (h : SlG w v gs) : ∃ a cap, v = .slice a gs.length cap ∧ Lies w a gs := by
  obtain ⟨a, cap, e, _, _, h3⟩ := h
  refine ⟨a, cap, e, fun i hi => ?_⟩
  obtain ⟨b, off, e2, hlt, hc⟩ := h3 (by intro c; rw [c] at hi; simp at hi)
  exact ⟨b, off, e2, hlt, hc i hi⟩
theorem Lies.below {w w' : World} {a : Option Addr} {gs : List (Int × Int)} (h : Lies w a gs) (hb : Below w.heap.size w w') : Lies w' a gs := fun i hi => by
  obtain ⟨b, off, e, hlt, hc⟩ := h i hi
  exact ⟨b, off, e, Nat.lt_of_lt_of_le hlt hb.size, (hb.cell (p := ⟨b, _, none⟩) hlt).trans hc.1, (hb.cell (p := ⟨b, _, none⟩) hlt).trans hc.2⟩
def AllV (gs : List (Int × Int)) : Prop := ∀ i, i < gs.length → VP (gAt gs i)
theorem not_allV {gs : List (Int × Int)} (h : ¬ AllV gs) : ∃ m, m < gs.length ∧ (∀ k, k < m → VP (gAt gs k)) ∧ ¬ VP (gAt gs m) := by
  have : ∀ m, m ≤ gs.length → (∀ k, k < m → VP (gAt gs k)) ∨ ∃ m', m' < gs.length ∧ (∀ k, k < m' → VP (gAt gs k)) ∧ ¬ VP (gAt gs m') := by
    intro m
    induction m with
    | zero => intro _; exact .inl (fun k hk => by omega)
    | succ m ih =>
      intro hm
      rcases ih (by omega) with h1 | h1
      · by_cases hf : VP (gAt gs m)
        · refine .inl (fun k hk => ?_)
          by_cases e : k = m
          · rw [e]; exact hf
          · exact h1 k (by omega)
        · exact .inr ⟨m, by omega, h1, hf⟩
      · exact .inr h1
  rcases this gs.length (Nat.le_refl _) with h1 | h1
  · exact absurd h1 h
  · exact h1
section
variable (w : World)

theorem av_t (a : Option Addr) (cap : Nat) (gs : List (Int × Int)) (hm : gs.length ≤ 1048576) (hc : Lies w a gs) (hV : AllV gs) :
    Calls Tryd.prog 64 #[.slice a gs.length cap] w fun r w' => r = .returned (.bool true) ∧ Below w.heap.size w w' := by
  obtain ⟨n, hn⟩ : ∃ n, n = gs.length := ⟨_, rfl⟩
  rw [← hn] at hm ⊢
  replace hc := Lib.hid hc
  replace hV := Lib.hid hV
  replace hn := Lib.hid hn
  go_enter Tryd.func64, Tryd.ntmps64
  go_wp2
  go_loopw [4, 7] (fun _ i wr => ∃ k : Nat, k ≤ n ∧ i = .int .i64 k ∧ Below w.heap.size w wr) (fun _ i _ => n - (intOf i).toNat)
  case atStart => exact ⟨0, by omega, rfl, by (repeat (first | exact Below.refl _ _ | assumption | refine bchain (by assumption) ?_ | refine balloc ?_ _ | apply Below.drew | apply below_drewN | (refine Below.alloc ?_ (by (try simp) <;> omega) _) | (refine Below.setCell ?_ (by (try simp) <;> omega) _)))⟩
  case round =>
    obtain ⟨k, hk, rfl, hB⟩ := hrel
    by_cases hlt : k < n
    · obtain ⟨b, off, rfl, hb, hg⟩ := hc.out k (by have := hn.out; omega)
      have hv : VP (gAt gs k) := hV.out k (by first | exact hlt | (have := hn.out; omega))
      obtain ⟨x, y, hxy⟩ : ∃ x y, gAt gs k = (x, y) := ⟨_, _, rfl⟩
      rw [hxy] at hv
      have s0 : wr.cell? ⟨b, off + k * 2, none⟩ = some (.int .i64 x) := by rw [hB.cell (p := ⟨b, _, none⟩) hb, hg.1, hxy]
      have s1 : wr.cell? ⟨b, off + k * 2 + 1, none⟩ = some (.int .i64 y) := by rw [hB.cell (p := ⟨b, _, none⟩) hb, hg.2, hxy]
      have hC := Lib.hid (fun W => vf_any W x y)
      rw [decide_eq_true (show VF x y from hv)] at hC
      have hkn : (k : Int) < (n : Int) := by omega
      clear hg hxy hv
      go_wp2_with fail
      refine (hC.out _).mono ?_
      rintro r3 w3 ⟨rfl, hb3⟩
      go_wp2
      go_roundw
      case rel => exact ⟨k + 1, by omega, by go_num, by (repeat (first | exact Below.refl _ _ | assumption | refine bchain (by assumption) ?_ | refine balloc ?_ _ | apply Below.drew | apply below_drewN | (refine Below.alloc ?_ (by (try simp) <;> omega) _) | (refine Below.setCell ?_ (by (try simp) <;> omega) _)))⟩
      case measure => simp [intOf]; omega
    · have hd := decide_eq_false (show ¬ ((k : Int) < (n : Int)) by omega)
      obtain rfl : k = n := by omega
      go_wp2
      go_ret
      exact ⟨rfl, hB⟩

theorem av_f (a : Option Addr) (cap : Nat) (gs : List (Int × Int)) (hm : gs.length ≤ 1048576) (hc : Lies w a gs) (m : Nat) (hm2 : m < gs.length) (hV : ∀ k, k < m → VP (gAt gs k)) (hbad : ¬ VP (gAt gs m)) :
    Calls Tryd.prog 64 #[.slice a gs.length cap] w fun r w' => r = .returned (.bool false) ∧ Below w.heap.size w w' := by
  obtain ⟨n, hn⟩ : ∃ n, n = gs.length := ⟨_, rfl⟩
  rw [← hn] at hm ⊢
  replace hc := Lib.hid hc
  replace hV := Lib.hid hV
  replace hn := Lib.hid hn
  rw [← hn.out] at hm2
  replace hbad := Lib.hid hbad
  go_enter Tryd.func64, Tryd.ntmps64
  go_wp2
  go_loopw [4, 7] (fun _ i wr => ∃ k : Nat, k ≤ m ∧ i = .int .i64 k ∧ Below w.heap.size w wr) (fun _ i _ => n - (intOf i).toNat)
  case atStart => exact ⟨0, by omega, rfl, by (repeat (first | exact Below.refl _ _ | assumption | refine bchain (by assumption) ?_ | refine balloc ?_ _ | apply Below.drew | apply below_drewN | (refine Below.alloc ?_ (by (try simp) <;> omega) _) | (refine Below.setCell ?_ (by (try simp) <;> omega) _)))⟩
  case round =>
    obtain ⟨k, hk, rfl, hB⟩ := hrel
    by_cases hlt : k < m
    · obtain ⟨b, off, rfl, hb, hg⟩ := hc.out k (by have := hn.out; omega)
      have hv : VP (gAt gs k) := hV.out k (by first | exact hlt | (have := hn.out; omega))
      obtain ⟨x, y, hxy⟩ : ∃ x y, gAt gs k = (x, y) := ⟨_, _, rfl⟩
      rw [hxy] at hv
      have s0 : wr.cell? ⟨b, off + k * 2, none⟩ = some (.int .i64 x) := by rw [hB.cell (p := ⟨b, _, none⟩) hb, hg.1, hxy]
      have s1 : wr.cell? ⟨b, off + k * 2 + 1, none⟩ = some (.int .i64 y) := by rw [hB.cell (p := ⟨b, _, none⟩) hb, hg.2, hxy]
      have hC := Lib.hid (fun W => vf_any W x y)
      rw [decide_eq_true (show VF x y from hv)] at hC
      have hkn : (k : Int) < (n : Int) := by omega
      clear hg hxy hv
      go_wp2_with fail
      refine (hC.out _).mono ?_
      rintro r3 w3 ⟨rfl, hb3⟩
      go_wp2
      go_roundw
      case rel => exact ⟨k + 1, by omega, by go_num, by (repeat (first | exact Below.refl _ _ | assumption | refine bchain (by assumption) ?_ | refine balloc ?_ _ | apply Below.drew | apply below_drewN | (refine Below.alloc ?_ (by (try simp) <;> omega) _) | (refine Below.setCell ?_ (by (try simp) <;> omega) _)))⟩
      case measure => simp [intOf]; omega
    · obtain rfl : k = m := by omega
      obtain ⟨b, off, rfl, hb, hg⟩ := hc.out k (by have := hn.out; omega)
      have hv := hbad.out
      obtain ⟨x, y, hxy⟩ : ∃ x y, gAt gs k = (x, y) := ⟨_, _, rfl⟩
      rw [hxy] at hv
      have s0 : wr.cell? ⟨b, off + k * 2, none⟩ = some (.int .i64 x) := by rw [hB.cell (p := ⟨b, _, none⟩) hb, hg.1, hxy]
      have s1 : wr.cell? ⟨b, off + k * 2 + 1, none⟩ = some (.int .i64 y) := by rw [hB.cell (p := ⟨b, _, none⟩) hb, hg.2, hxy]
      have hC := Lib.hid (fun W => vf_any W x y)
      rw [decide_eq_false (show ¬ VF x y from hv)] at hC
      have hkn : (k : Int) < (n : Int) := by omega
      clear hg hxy hv
      go_wp2_with fail
      refine (hC.out _).mono ?_
      rintro r3 w3 ⟨rfl, hb3⟩
      go_wp2
      go_ret
      exact ⟨rfl, by (repeat (first | exact Below.refl _ _ | assumption | refine bchain (by assumption) ?_ | refine balloc ?_ _ | apply Below.drew | apply below_drewN | (refine Below.alloc ?_ (by (try simp) <;> omega) _) | (refine Below.setCell ?_ (by (try simp) <;> omega) _)))⟩

theorem sv_t (a : Option Addr) (cap : Nat) (gs : List (Int × Int)) (hm : gs.length ≤ 1048576) (hc : Lies w a gs) (hV : AllV gs) (h6 : gs.length ≤ 256) :
    Calls Tryd.prog 92 #[.slice a gs.length cap] w fun r w' => r = .returned (.bool true) ∧ Below w.heap.size w w' := by
  obtain ⟨n, hn⟩ : ∃ n, n = gs.length := ⟨_, rfl⟩
  rw [← hn] at hm ⊢
  replace hc := Lib.hid hc
  replace hV := Lib.hid hV
  replace hn := Lib.hid hn
  rw [← hn.out] at h6
  have hd6 : decide ((n : Int) ≤ 256) = true := decide_eq_true (by omega)
  go_enter Tryd.func92, Tryd.ntmps92
  go_wp2
  go_loopw [3] (fun i wr => ∃ k : Nat, k ≤ n ∧ i = .int .i64 k ∧ Below w.heap.size w wr) (fun i _ => n - (intOf i).toNat)
  case atStart => exact ⟨0, by omega, rfl, by (repeat (first | exact Below.refl _ _ | assumption | refine bchain (by assumption) ?_ | refine balloc ?_ _ | apply Below.drew | apply below_drewN | (refine Below.alloc ?_ (by (try simp) <;> omega) _) | (refine Below.setCell ?_ (by (try simp) <;> omega) _)))⟩
  case round =>
    obtain ⟨k, hk, rfl, hB⟩ := hrel
    by_cases hlt : k < n
    · obtain ⟨b, off, rfl, hb, hg⟩ := hc.out k (by have := hn.out; omega)
      have hv : VP (gAt gs k) := hV.out k (by first | exact hlt | (have := hn.out; omega))
      obtain ⟨x, y, hxy⟩ : ∃ x y, gAt gs k = (x, y) := ⟨_, _, rfl⟩
      rw [hxy] at hv
      have s0 : wr.cell? ⟨b, off + k * 2, none⟩ = some (.int .i64 x) := by rw [hB.cell (p := ⟨b, _, none⟩) hb, hg.1, hxy]
      have s1 : wr.cell? ⟨b, off + k * 2 + 1, none⟩ = some (.int .i64 y) := by rw [hB.cell (p := ⟨b, _, none⟩) hb, hg.2, hxy]
      have hC := Lib.hid (fun W => ok_any W x y)
      rw [decide_eq_true (show VF x y from hv)] at hC
      have hkn : (k : Int) < (n : Int) := by omega
      clear hg hxy hv
      go_wp2_with fail
      refine (hC.out _).mono ?_
      rintro r3 w3 ⟨rfl, hb3⟩
      go_wp2
      go_roundw
      case rel => exact ⟨k + 1, by omega, by go_num, by (repeat (first | exact Below.refl _ _ | assumption | refine bchain (by assumption) ?_ | refine balloc ?_ _ | apply Below.drew | apply below_drewN | (refine Below.alloc ?_ (by (try simp) <;> omega) _) | (refine Below.setCell ?_ (by (try simp) <;> omega) _)))⟩
      case measure => simp [intOf]; omega
    · have hd := decide_eq_false (show ¬ ((k : Int) < (n : Int)) by omega)
      obtain rfl : k = n := by omega
      go_wp2
      go_ret
      exact ⟨rfl, hB⟩

theorem sv_tl (a : Option Addr) (cap : Nat) (gs : List (Int × Int)) (hm : gs.length ≤ 1048576) (hc : Lies w a gs) (hV : AllV gs) (h6 : 256 < gs.length) :
    Calls Tryd.prog 92 #[.slice a gs.length cap] w fun r w' => r = .returned (.bool false) ∧ Below w.heap.size w w' := by
  obtain ⟨n, hn⟩ : ∃ n, n = gs.length := ⟨_, rfl⟩
  rw [← hn] at hm ⊢
  replace hc := Lib.hid hc
  replace hV := Lib.hid hV
  replace hn := Lib.hid hn
  rw [← hn.out] at h6
  have hd6 : decide ((n : Int) ≤ 256) = false := decide_eq_false (by omega)
  go_enter Tryd.func92, Tryd.ntmps92
  go_wp2
  go_loopw [3] (fun i wr => ∃ k : Nat, k ≤ n ∧ i = .int .i64 k ∧ Below w.heap.size w wr) (fun i _ => n - (intOf i).toNat)
  case atStart => exact ⟨0, by omega, rfl, by (repeat (first | exact Below.refl _ _ | assumption | refine bchain (by assumption) ?_ | refine balloc ?_ _ | apply Below.drew | apply below_drewN | (refine Below.alloc ?_ (by (try simp) <;> omega) _) | (refine Below.setCell ?_ (by (try simp) <;> omega) _)))⟩
  case round =>
    obtain ⟨k, hk, rfl, hB⟩ := hrel
    by_cases hlt : k < n
    · obtain ⟨b, off, rfl, hb, hg⟩ := hc.out k (by have := hn.out; omega)
      have hv : VP (gAt gs k) := hV.out k (by first | exact hlt | (have := hn.out; omega))
      obtain ⟨x, y, hxy⟩ : ∃ x y, gAt gs k = (x, y) := ⟨_, _, rfl⟩
      rw [hxy] at hv
      have s0 : wr.cell? ⟨b, off + k * 2, none⟩ = some (.int .i64 x) := by rw [hB.cell (p := ⟨b, _, none⟩) hb, hg.1, hxy]
      have s1 : wr.cell? ⟨b, off + k * 2 + 1, none⟩ = some (.int .i64 y) := by rw [hB.cell (p := ⟨b, _, none⟩) hb, hg.2, hxy]
      have hC := Lib.hid (fun W => ok_any W x y)
      rw [decide_eq_true (show VF x y from hv)] at hC
      have hkn : (k : Int) < (n : Int) := by omega
      clear hg hxy hv
      go_wp2_with fail
      refine (hC.out _).mono ?_
      rintro r3 w3 ⟨rfl, hb3⟩
      go_wp2
      go_roundw
      case rel => exact ⟨k + 1, by omega, by go_num, by (repeat (first | exact Below.refl _ _ | assumption | refine bchain (by assumption) ?_ | refine balloc ?_ _ | apply Below.drew | apply below_drewN | (refine Below.alloc ?_ (by (try simp) <;> omega) _) | (refine Below.setCell ?_ (by (try simp) <;> omega) _)))⟩
      case measure => simp [intOf]; omega
    · have hd := decide_eq_false (show ¬ ((k : Int) < (n : Int)) by omega)
      obtain rfl : k = n := by omega
      go_wp2
      go_ret
      exact ⟨rfl, hB⟩

theorem sv_f (a : Option Addr) (cap : Nat) (gs : List (Int × Int)) (hm : gs.length ≤ 1048576) (hc : Lies w a gs) (m : Nat) (hm2 : m < gs.length) (hV : ∀ k, k < m → VP (gAt gs k)) (hbad : ¬ VP (gAt gs m)) :
    Calls Tryd.prog 92 #[.slice a gs.length cap] w fun r w' => r = .returned (.bool false) ∧ Below w.heap.size w w' := by
  obtain ⟨n, hn⟩ : ∃ n, n = gs.length := ⟨_, rfl⟩
  rw [← hn] at hm ⊢
  replace hc := Lib.hid hc
  replace hV := Lib.hid hV
  replace hn := Lib.hid hn
  rw [← hn.out] at hm2
  replace hbad := Lib.hid hbad
  go_enter Tryd.func92, Tryd.ntmps92
  go_wp2
  go_loopw [3] (fun i wr => ∃ k : Nat, k ≤ m ∧ i = .int .i64 k ∧ Below w.heap.size w wr) (fun i _ => n - (intOf i).toNat)
  case atStart => exact ⟨0, by omega, rfl, by (repeat (first | exact Below.refl _ _ | assumption | refine bchain (by assumption) ?_ | refine balloc ?_ _ | apply Below.drew | apply below_drewN | (refine Below.alloc ?_ (by (try simp) <;> omega) _) | (refine Below.setCell ?_ (by (try simp) <;> omega) _)))⟩
  case round =>
    obtain ⟨k, hk, rfl, hB⟩ := hrel
    by_cases hlt : k < m
    · obtain ⟨b, off, rfl, hb, hg⟩ := hc.out k (by have := hn.out; omega)
      have hv : VP (gAt gs k) := hV.out k (by first | exact hlt | (have := hn.out; omega))
      obtain ⟨x, y, hxy⟩ : ∃ x y, gAt gs k = (x, y) := ⟨_, _, rfl⟩
      rw [hxy] at hv
      have s0 : wr.cell? ⟨b, off + k * 2, none⟩ = some (.int .i64 x) := by rw [hB.cell (p := ⟨b, _, none⟩) hb, hg.1, hxy]
      have s1 : wr.cell? ⟨b, off + k * 2 + 1, none⟩ = some (.int .i64 y) := by rw [hB.cell (p := ⟨b, _, none⟩) hb, hg.2, hxy]
      have hC := Lib.hid (fun W => ok_any W x y)
      rw [decide_eq_true (show VF x y from hv)] at hC
      have hkn : (k : Int) < (n : Int) := by omega
      clear hg hxy hv
      go_wp2_with fail
      refine (hC.out _).mono ?_
      rintro r3 w3 ⟨rfl, hb3⟩
      go_wp2
      go_roundw
      case rel => exact ⟨k + 1, by omega, by go_num, by (repeat (first | exact Below.refl _ _ | assumption | refine bchain (by assumption) ?_ | refine balloc ?_ _ | apply Below.drew | apply below_drewN | (refine Below.alloc ?_ (by (try simp) <;> omega) _) | (refine Below.setCell ?_ (by (try simp) <;> omega) _)))⟩
      case measure => simp [intOf]; omega
    · obtain rfl : k = m := by omega
      obtain ⟨b, off, rfl, hb, hg⟩ := hc.out k (by have := hn.out; omega)
      have hv := hbad.out
      obtain ⟨x, y, hxy⟩ : ∃ x y, gAt gs k = (x, y) := ⟨_, _, rfl⟩
      rw [hxy] at hv
      have s0 : wr.cell? ⟨b, off + k * 2, none⟩ = some (.int .i64 x) := by rw [hB.cell (p := ⟨b, _, none⟩) hb, hg.1, hxy]
      have s1 : wr.cell? ⟨b, off + k * 2 + 1, none⟩ = some (.int .i64 y) := by rw [hB.cell (p := ⟨b, _, none⟩) hb, hg.2, hxy]
      have hC := Lib.hid (fun W => ok_any W x y)
      rw [decide_eq_false (show ¬ VF x y from hv)] at hC
      have hkn : (k : Int) < (n : Int) := by omega
      clear hg hxy hv
      go_wp2_with fail
      refine (hC.out _).mono ?_
      rintro r3 w3 ⟨rfl, hb3⟩
      go_wp2
      go_ret
      exact ⟨rfl, by (repeat (first | exact Below.refl _ _ | assumption | refine bchain (by assumption) ?_ | refine balloc ?_ _ | apply Below.drew | apply below_drewN | (refine Below.alloc ?_ (by (try simp) <;> omega) _) | (refine Below.setCell ?_ (by (try simp) <;> omega) _)))⟩

/-- a list is valid: it is not too long, and all of its fractions are -/
def Vl (gs : List (Int × Int)) : Prop := gs.length ≤ 256 ∧ AllV gs
theorem ivl_t (v : Value) (gs : List (Int × Int)) (hS : SlG w v gs) (hV : Vl gs) :
    Calls Tryd.prog 151 #[v] w fun r w' => r = .returned (.bool true) ∧ Below w.heap.size w w' := by
  obtain ⟨a, cap, rfl, hL⟩ := hS.lies
  have hC := Lib.hid (av_t w a cap gs (by have := hV.1; omega) hL hV.2)
  have h6 := hV.1
  obtain ⟨l, hl⟩ : ∃ l, gs.length = l := ⟨_, rfl⟩
  rw [hl] at hC h6 ⊢
  have hd : decide ((l : Int) ≤ 256) = true := decide_eq_true (by omega)
  clear hl hS hV
  go_enter Tryd.func151, Tryd.ntmps151
  go_wp2_with fail
  refine (hC.out).mono ?_
  rintro r2 w2 ⟨rfl, hb2⟩
  go_wp2
  go_ret
  exact ⟨rfl, by (repeat (first | exact Below.refl _ _ | assumption | refine bchain (by assumption) ?_ | refine balloc ?_ _ | apply Below.drew | apply below_drewN | (refine Below.alloc ?_ (by (try simp) <;> omega) _) | (refine Below.setCell ?_ (by (try simp) <;> omega) _)))⟩
theorem ivl_f (v : Value) (gs : List (Int × Int)) (hS : SlG w v gs) (hm : gs.length ≤ 1048576) (hV : ¬ Vl gs) :
    Calls Tryd.prog 151 #[v] w fun r w' => r = .returned (.bool false) ∧ Below w.heap.size w w' := by
  obtain ⟨a, cap, rfl, hL⟩ := hS.lies
  by_cases h6 : gs.length ≤ 256
  · obtain ⟨m, h1, h2, h3⟩ := not_allV (fun h => hV ⟨h6, h⟩)
    have hC := Lib.hid (av_f w a cap gs hm hL m h1 h2 h3)
    obtain ⟨l, hl⟩ : ∃ l, gs.length = l := ⟨_, rfl⟩
    rw [hl] at hC h6 ⊢
    have hd : decide ((l : Int) ≤ 256) = true := decide_eq_true (by omega)
    clear hl hS hV h1 h2 h3
    go_enter Tryd.func151, Tryd.ntmps151
    go_wp2_with fail
    refine (hC.out).mono ?_
    rintro r2 w2 ⟨rfl, hb2⟩
    go_wp2
    go_ret
    exact ⟨rfl, by (repeat (first | exact Below.refl _ _ | assumption | refine bchain (by assumption) ?_ | refine balloc ?_ _ | apply Below.drew | apply below_drewN | (refine Below.alloc ?_ (by (try simp) <;> omega) _) | (refine Below.setCell ?_ (by (try simp) <;> omega) _)))⟩
  · obtain ⟨l, hl⟩ : ∃ l, gs.length = l := ⟨_, rfl⟩
    rw [hl] at h6 ⊢
    have hd : decide ((l : Int) ≤ 256) = false := decide_eq_false (by omega)
    clear hl hS hV
    go_enter Tryd.func151, Tryd.ntmps151
    go_wp2
    go_ret
    exact ⟨rfl, by (repeat (first | exact Below.refl _ _ | assumption | refine bchain (by assumption) ?_ | refine balloc ?_ _ | apply Below.drew | apply below_drewN | (refine Below.alloc ?_ (by (try simp) <;> omega) _) | (refine Below.setCell ?_ (by (try simp) <;> omega) _)))⟩
theorem svl_t (v : Value) (gs : List (Int × Int)) (hS : SlG w v gs) (hV : Vl gs) :
    Calls Tryd.prog 92 #[v] w fun r w' => r = .returned (.bool true) ∧ Below w.heap.size w w' := by
  obtain ⟨a, cap, rfl, hL⟩ := hS.lies
  exact sv_t w a cap gs (by have := hV.1; omega) hL hV.2 hV.1
theorem svl_f (v : Value) (gs : List (Int × Int)) (hS : SlG w v gs) (hm : gs.length ≤ 1048576) (hV : ¬ Vl gs) :
    Calls Tryd.prog 92 #[v] w fun r w' => r = .returned (.bool false) ∧ Below w.heap.size w w' := by
  obtain ⟨a, cap, rfl, hL⟩ := hS.lies
  by_cases hA : AllV gs
  · exact sv_tl w a cap gs hm hL hA (Nat.lt_of_not_le fun h => hV ⟨h, hA⟩)
  · obtain ⟨m, h1, h2, h3⟩ := not_allV hA
    exact sv_f w a cap gs hm hL m h1 h2 h3
end
end Go.Proofs.YtiedombphcdpbaaDoor.Fr
/-
  SMALL CONTRACTS: whole numbers as fractions, the program's and the model's; two fractions held against each other.
-/
namespace Go.Proofs.YtiedombphcdpbaaDoor.Fr
open Go.RowKit
set_option maxRecDepth 100000
theorem eqFr (W : World) (n m e f : Int) : (Op.equalIn 10000 70 (.agg #[.int .i64 n, .int .i64 e]) (.agg #[.int .i64 m, .int .i64 f])).run Tryd.prog W = .ok (n == m && e == f) W := by
  have u3 := Tryd.underlying2
  have hS : Tryd.prog.underlying 70 = some (.struct (Tryd.prog.fieldsOf 70)) := by kernel_rfl
  have hp : Tryd.prog.stoodInHeld 70 = false := by kernel_rfl
  rw [show (10000 : Nat) = 9999 + 1 from rfl, run_equalIn_agg W 9999 70 _ _ hS hp]
  simp only [Program.fieldsOf, Tryd.underlying70]
  go_simp
  by_cases h1 : n = m <;> by_cases h2 : e = f <;> simp [h1, h2]
/-- a zero value and a code -/
def cv (c : Int) : Value := .tuple #[.agg #[.int .i64 0, .int .i64 0], .int .i64 c]
theorem qe_form (o : Option (Int × Int)) : (∃ x y : Int, qe o = .returned (.agg #[.int .i64 x, .int .i64 y])) ∨ qe o = tooBig := by
  cases o with
  | none => exact .inr rfl
  | some x => exact .inl ⟨_, _, rfl⟩
section
variable (w : World)
theorem whole_any (n : Int) :
    Calls Tryd.prog 79 #[.int .i64 n] w fun r w' => r = .returned (.agg #[.int .i64 n, .int .i64 1]) ∧ Below w.heap.size w w' := by
  go_enter Tryd.func79, Tryd.ntmps79
  go_wp2
  exact bodyPost_ret (v := .agg #[.int .i64 n, .int .i64 1]) (by simp [results, Tryd.results79, go_sem]) rfl ⟨rfl, by (repeat (first | exact Below.refl _ _ | assumption | refine bchain (by assumption) ?_ | refine balloc ?_ _ | apply Below.drew | apply below_drewN | (refine Below.alloc ?_ (by (try simp) <;> omega) _) | (refine Below.setCell ?_ (by (try simp) <;> omega) _)))⟩
theorem zero_any :
    Calls Tryd.prog 128 #[] w fun r w' => r = .returned (.agg #[.int .i64 0, .int .i64 1]) ∧ Below w.heap.size w w' := by
  go_enter Tryd.func128, Tryd.ntmps128
  go_wp2
  exact bodyPost_ret (v := .agg #[.int .i64 0, .int .i64 1]) (by simp [results, Tryd.results128, go_sem]) rfl ⟨rfl, by (repeat (first | exact Below.refl _ _ | assumption | refine bchain (by assumption) ?_ | refine balloc ?_ _ | apply Below.drew | apply below_drewN | (refine Below.alloc ?_ (by (try simp) <;> omega) _) | (refine Below.setCell ?_ (by (try simp) <;> omega) _)))⟩
theorem one_any (n : Int) :
    Calls Tryd.prog 94 #[.int .i64 n] w fun r w' => r = .returned (.agg #[.int .i64 n, .int .i64 1]) ∧ Below w.heap.size w w' := by
  go_enter Tryd.func94, Tryd.ntmps94
  go_wp2
  exact bodyPost_ret (v := .agg #[.int .i64 n, .int .i64 1]) (by simp [results, Tryd.results94, go_sem]) rfl ⟨rfl, by (repeat (first | exact Below.refl _ _ | assumption | refine bchain (by assumption) ?_ | refine balloc ?_ _ | apply Below.drew | apply below_drewN | (refine Below.alloc ?_ (by (try simp) <;> omega) _) | (refine Below.setCell ?_ (by (try simp) <;> omega) _)))⟩
end
end Go.Proofs.YtiedombphcdpbaaDoor.Fr
/-
  THE SUM OF A LIST OF VALID FRACTIONS: the program's and the model's contracts.
-/
namespace Go.Proofs.YtiedombphcdpbaaDoor.Fr
open Go.RowKit
set_option maxRecDepth 100000

def sumTo (fs : List (Int × Int)) : Nat → Option (Int × Int) | 0 => some (0, 1) | k + 1 => (sumTo fs k).bind fun s => addF s (gAt fs k)
theorem sumTo_none {fs : List (Int × Int)} {k : Nat} (h : sumTo fs k = none) : ∀ n, k ≤ n → sumTo fs n = none := by
  intro n hn
  induction n with
  | zero => obtain rfl : k = 0 := by omega
            exact h
  | succ n ih =>
    by_cases e : k = n + 1
    · rw [← e]; exact h
    · rw [sumTo, ih (by omega)]; rfl
theorem vp01 : VP (0, 1) := by unfold VP VF; decide
theorem sumTo_vp {fs : List (Int × Int)} (hV : AllV fs) : ∀ k s, k ≤ fs.length → sumTo fs k = some s → VP s
  | 0, s, _, h => by cases h; exact vp01
  | k + 1, s, hk, h => by
    rw [sumTo] at h
    cases hs : sumTo fs k with
    | none => rw [hs] at h; cases h
    | some t => rw [hs] at h; exact add_vp (sumTo_vp hV k t (by omega) hs) (hV k (by omega)) h
/-- the block that holds the sum so far -/
def SumAt (w W : World) (S : Nat) (s : Int × Int) : Prop :=
  W.cell? ⟨S, 0, none⟩ = some (.int .i64 s.1) ∧ W.cell? ⟨S, 1, none⟩ = some (.int .i64 s.2) ∧ (∀ o, W.frozen? ⟨S, o, none⟩ = false) ∧ S < W.heap.size ∧
  W.cell? ⟨w.heap.size, 0, none⟩ = some (.int .i64 0) ∧ W.cell? ⟨w.heap.size, 1, none⟩ = some (.int .i64 0) ∧ (∀ o, W.frozen? ⟨w.heap.size, o, none⟩ = false) ∧ w.heap.size < S ∧ Below w.heap.size w W
theorem SumAt.below {w W W1 : World} {S : Nat} {s : Int × Int} (h : SumAt w W S s) (hb : Below W.heap.size W W1) : SumAt w W1 S s := by
  obtain ⟨h0, h1, h2, h3, h4, h5, h6, h7, h8⟩ := h
  have hs := hb.size
  exact ⟨(keepAll hb _ _ h3).trans h0, (keepAll hb _ _ h3).trans h1, fun o => (keepFz hb _ _ h3).trans (h2 o), by omega, (keepAll hb _ _ (by omega)).trans h4, (keepAll hb _ _ (by omega)).trans h5, fun o => (keepFz hb _ _ (by omega)).trans (h6 o), h7, h8.trans (hb.mono h8.size)⟩
/-- .. and a new sum is stored -/
theorem SumAt.store {w W : World} {S : Nat} {s : Int × Int} (h : SumAt w W S s) (x : Int × Int) : SumAt w ((W.setCell ⟨S, 0, none⟩ (.int .i64 x.1)).setCell ⟨S, 1, none⟩ (.int .i64 x.2)) S x := by
  obtain ⟨h0, h1, h2, h3, h4, h5, h6, h7, h8⟩ := h
  have ht := twoCells h0 h1 (.int .i64 x.1) (.int .i64 x.2)
  refine ⟨ht.1, ht.2, fun o => by simp [h2], by simp; exact h3, ?_, ?_, fun o => by simp [h6], h7, ?_⟩
  · exact (World.cell?_setCell_other _ _ _ _ (by simp <;> omega)).trans ((World.cell?_setCell_other _ _ _ _ (by simp <;> omega)).trans h4)
  · exact (World.cell?_setCell_other _ _ _ _ (by simp <;> omega)).trans ((World.cell?_setCell_other _ _ _ _ (by simp <;> omega)).trans h5)
  · exact (h8.setCell (by simp <;> omega) _).setCell (by simp <;> omega) _
section
variable (w : World)
set_option maxHeartbeats 1000000 in
theorem isum_any (a : Option Addr) (cap : Nat) (fs : List (Int × Int)) (hm : fs.length ≤ 1048576) (hc : Lies w a fs) (hV : AllV fs) :
    Calls Tryd.prog 154 #[.slice a fs.length cap] w fun r w' => r = qe (sumTo fs fs.length) ∧ Below w.heap.size w w' := by
  have hP := Lib.hid (fun W k s (hk : k < fs.length) (hs : sumTo fs k = some s) => plus_any W s (gAt fs k) (sumTo_vp hV k s (by omega) hs) (hV k hk))
  have hW := Lib.hid (fun W => whole_any W 0)
  obtain ⟨n, hn⟩ : ∃ n, n = fs.length := ⟨_, rfl⟩
  rw [← hn] at hm hP ⊢
  replace hc := Lib.hid hc
  replace hn := Lib.hid hn
  clear hV
  go_enter Tryd.func154, Tryd.ntmps154
  go_wp2_with fail
  refine (hW.out _).mono ?_
  rintro r1 w1 ⟨rfl, hb1⟩
  have hA : SumAt w (w1.alloc (.cells #[.int .i64 0, .int .i64 1] 70)) w1.heap.size (0, 1) := by
    have hs := hb1.size
    simp at hs
    refine ⟨by simp [go_sem], by simp [go_sem], fun o => by simp, by simp, ?_, ?_, ?_, by omega, by (repeat (first | exact Below.refl _ _ | assumption | refine bchain (by assumption) ?_ | refine balloc ?_ _ | apply Below.drew | apply below_drewN | (refine Below.alloc ?_ (by (try simp) <;> omega) _) | (refine Below.setCell ?_ (by (try simp) <;> omega) _)))⟩
    · exact (World.cell?_alloc_lt _ _ _ (by show w.heap.size < _; omega)).trans ((keepAll hb1 _ _ (by simp)).trans (by simp [go_sem]))
    · exact (World.cell?_alloc_lt _ _ _ (by show w.heap.size < _; omega)).trans ((keepAll hb1 _ _ (by simp)).trans (by simp [go_sem]))
    · intro o
      have h1 := keepFz hb1 w.heap.size o (by simp)
      have h2 := keepFz (balloc (Below.refl _ w1) (.cells #[.int .i64 0, .int .i64 1] 70)) w.heap.size o (by omega)
      exact h2.trans (h1.trans (by simp))
  replace hA := Lib.hid hA
  go_wp2
  go_loopw [5, 9] (fun _ i wr => ∃ (k : Nat) (s : Int × Int), k ≤ n ∧ i = .int .i64 k ∧ sumTo fs k = some s ∧ SumAt w wr w1.heap.size s) (fun _ i _ => n - (intOf i).toNat)
  case atStart => exact ⟨0, (0, 1), by omega, rfl, rfl, hA.out⟩
  case round =>
    obtain ⟨k, s, hk, rfl, hs, hS⟩ := hrel
    clear hA hb1
    by_cases hlt : k < n
    · obtain ⟨b, off, rfl, hb, hg⟩ := hc.out k (by have := hn.out; omega)
      have hC := Lib.hid (fun W => hP.out W k s hlt hs)
      have hN : ∀ x, addF s (gAt fs k) = x → sumTo fs (k + 1) = x := fun x hx => by rw [sumTo, hs]; exact hx
      obtain ⟨x, y, hxy⟩ : ∃ x y, gAt fs k = (x, y) := ⟨_, _, rfl⟩
      have hB := hS.2.2.2.2.2.2.2.2
      have s0 : wr.cell? ⟨b, off + k * 2, none⟩ = some (.int .i64 x) := by rw [hB.cell (p := ⟨b, _, none⟩) hb, hg.1, hxy]
      have s1 : wr.cell? ⟨b, off + k * 2 + 1, none⟩ = some (.int .i64 y) := by rw [hB.cell (p := ⟨b, _, none⟩) hb, hg.2, hxy]
      obtain ⟨o, ho⟩ : ∃ o, addF s (gAt fs k) = o := ⟨_, rfl⟩
      have hN2 := hN o ho
      rw [ho] at hC
      rw [hxy] at hC
      obtain ⟨p, q⟩ := s
      have t0 : ∀ O, (wr.alloc O).cell? ⟨w1.heap.size, 0, none⟩ = some (.int .i64 p) := fun O => (World.cell?_alloc_lt _ _ _ hS.2.2.2.1).trans hS.1
      have t1 : ∀ O, (wr.alloc O).cell? ⟨w1.heap.size, 1, none⟩ = some (.int .i64 q) := fun O => (World.cell?_alloc_lt _ _ _ hS.2.2.2.1).trans hS.2.1
      unfold fv at hC
      dsimp only at hC
      have hkn : (k : Int) < (n : Int) := by omega
      replace hS := Lib.hid hS
      clear hN hxy hg ho hs hB
      go_wp2_with fail
      refine (hC.out _).mono ?_
      rintro r3 w3 ⟨rfl, hb3⟩
      have hS3 := (hS.out.below (balloc (Below.refl _ wr) (.cells #[.int .i64 x, .int .i64 y] 70))).below hb3
      cases o with
      | none =>
        unfold qe tooBig
        go_wp2
        exact ⟨rfl, by rw [sumTo_none hN2 n (by omega)]; rfl, hS3.2.2.2.2.2.2.2.2⟩
      | some z =>
        obtain ⟨z1, z2⟩ := z
        have g0 := hS3.1
        have g1 := hS3.2.1
        have g2 := hS3.2.2.1
        have hst := Lib.hid (hS3.store (z1, z2))
        dsimp only at g0 g1
        replace hS3 := Lib.hid hS3
        unfold qe fv
        go_wp2
        go_roundw
        case rel => exact ⟨k + 1, (z1, z2), by omega, by go_num, hN2, hst.out⟩
        case measure => simp [intOf]; omega
    · have hd := decide_eq_false (show ¬ ((k : Int) < (n : Int)) by omega)
      obtain rfl : k = n := by omega
      obtain ⟨p, q⟩ := s
      obtain ⟨h0, h1, h2, h3, h4, h5, h6, h7, h8⟩ := hS
      dsimp only at h0 h1
      have ht := twoCells h4 h5 (.int .i64 p) (.int .i64 q)
      go_wp2
      rw [hs]
      exact bodyPost_ret (v := .agg #[.int .i64 p, .int .i64 q]) (by simp [results, Tryd.results154, go_sem, ht.1, ht.2]) rfl ⟨rfl, by (repeat (first | exact Below.refl _ _ | assumption | refine bchain (by assumption) ?_ | refine balloc ?_ _ | apply Below.drew | apply below_drewN | (refine Below.alloc ?_ (by (try simp) <;> omega) _) | (refine Below.setCell ?_ (by (try simp) <;> omega) _)))⟩

/-- the closure that carries the sum out -/
theorem sumClo_any (a : Option Addr) (cap : Nat) (fs : List (Int × Int)) (B : Nat) (hB : w.cell? ⟨B, 0, none⟩ = some (.slice a fs.length cap)) (hm : fs.length ≤ 1048576) (hc : Lies w a fs) (hV : AllV fs) :
    Calls Tryd.prog 153 #[.pointer (some ⟨B, 0, none⟩)] w fun r w' => r = qe (sumTo fs fs.length) ∧ Below w.heap.size w w' := by
  have hQ := Lib.hid (fun W (hW : Lies W a fs) => isum_any W a cap fs hm hW hV)
  have e0 := World.block_lt_of_cell? w _ hB
  dsimp only at e0
  have l0 : ∀ O, (w.alloc O).cell? ⟨B, 0, none⟩ = some (.slice a fs.length cap) := fun O => (World.cell?_alloc_lt _ _ _ e0).trans hB
  replace hc := Lib.hid hc
  clear hB hV
  obtain ⟨o, ho⟩ : ∃ o, sumTo fs fs.length = o := ⟨_, rfl⟩
  rw [ho] at hQ ⊢
  clear ho
  obtain ⟨l, hl⟩ : ∃ l, fs.length = l := ⟨_, rfl⟩
  rw [hl] at hQ l0
  clear hl hm
  go_enter Tryd.func153, Tryd.ntmps153
  go_wp2_with fail
  refine (hQ.out _ (hc.out.below (balloc (Below.refl _ w) _))).mono ?_
  rintro r1 w1 ⟨rfl, hb1⟩
  rcases qe_form o with ⟨x, y, hq⟩ | hq
  · rw [hq]
    obtain ⟨hk1, hz1⟩ := bkeep hb1 w.heap.size (by simp)
    have hf1 := bkeepz hb1 w.heap.size (by simp)
    have g0 : w1.cell? ⟨w.heap.size, 0, none⟩ = some (.int .i64 0) := (hk1 0).trans (by simp [go_sem])
    have g1 : w1.cell? ⟨w.heap.size, 1, none⟩ = some (.int .i64 0) := (hk1 1).trans (by simp [go_sem])
    have h2 := twoCells g0 g1 (.int .i64 x) (.int .i64 y)
    go_wp2
    exact bodyPost_ret (v := .agg #[.int .i64 x, .int .i64 y]) (by simp [results, Tryd.results153, go_sem, h2.1, h2.2]) rfl ⟨hq.symm, by (repeat (first | exact Below.refl _ _ | assumption | refine bchain (by assumption) ?_ | refine balloc ?_ _ | apply Below.drew | apply below_drewN | (refine Below.alloc ?_ (by (try simp) <;> omega) _) | (refine Below.setCell ?_ (by (try simp) <;> omega) _)))⟩
  · rw [hq]
    unfold tooBig
    go_wp2
    exact ⟨rfl, hq.symm, by (repeat (first | exact Below.refl _ _ | assumption | refine bchain (by assumption) ?_ | refine balloc ?_ _ | apply Below.drew | apply below_drewN | (refine Below.alloc ?_ (by (try simp) <;> omega) _) | (refine Below.setCell ?_ (by (try simp) <;> omega) _)))⟩
theorem isf_bad (v : Value) (fs : List (Int × Int)) (hS : SlG w v fs) (hm : fs.length ≤ 1048576) (hV : ¬ Vl fs) :
    Calls Tryd.prog 132 #[v] w fun r w' => r = .returned (cv 1) ∧ Below w.heap.size w w' := by
  have hC := Lib.hid (fun W (hW : SlG W v fs) => ivl_f W v fs hW hm hV)
  obtain ⟨a, cap, rfl, _⟩ := id hS
  replace hS := Lib.hid hS
  obtain ⟨l, hl⟩ : ∃ l, fs.length = l := ⟨_, rfl⟩
  rw [hl] at hS hC ⊢
  clear hm hV
  unfold cv
  go_enter Tryd.func132, Tryd.ntmps132
  go_wp2_with fail
  refine (hC.out _ (hS.out.below (by (repeat (first | exact Below.refl _ _ | assumption | refine bchain (by assumption) ?_ | refine balloc ?_ _ | apply Below.drew | apply below_drewN | (refine Below.alloc ?_ (by (try simp) <;> omega) _) | (refine Below.setCell ?_ (by (try simp) <;> omega) _)))))).mono ?_
  rintro r1 w1 ⟨rfl, hb1⟩
  obtain ⟨hk1, hz1⟩ := bkeep hb1 (w.heap.size + 1) (by (try simp) <;> omega)
  have hf1 := bkeepz hb1 (w.heap.size + 1) (by (try simp) <;> omega)
  have g0 : w1.cell? ⟨w.heap.size + 1, 0, none⟩ = some (.int .i64 0) := (hk1 0).trans (by simp [go_sem])
  have g1 : w1.cell? ⟨w.heap.size + 1, 1, none⟩ = some (.int .i64 0) := (hk1 1).trans (by simp [go_sem])
  have h2 := twoCells g0 g1 (.int .i64 0) (.int .i64 0)
  go_wp2
  exact bodyPost_ret (v := .tuple #[.agg #[.int .i64 0, .int .i64 0], .int .i64 1]) (by simp [results, Tryd.results132, go_sem, h2.1, h2.2]) rfl ⟨rfl, by (repeat (first | exact Below.refl _ _ | assumption | refine bchain (by assumption) ?_ | refine balloc ?_ _ | apply Below.drew | apply below_drewN | (refine Below.alloc ?_ (by (try simp) <;> omega) _) | (refine Below.setCell ?_ (by (try simp) <;> omega) _)))⟩
theorem isf_ok (v : Value) (fs : List (Int × Int)) (hS : SlG w v fs) (hV : Vl fs) :
    Calls Tryd.prog 132 #[v] w fun r w' => r = .returned (lv (sumTo fs fs.length)) ∧ Below w.heap.size w w' := by
  have hm : fs.length ≤ 1048576 := by have := hV.1; omega
  have hC := Lib.hid (fun W (hW : SlG W v fs) => ivl_t W v fs hW hV)
  obtain ⟨a, cap, rfl, hLi⟩ := hS.lies
  have hL := Lib.hid (fun W B (hO : W.cell? ⟨B, 0, none⟩ = some (.slice a fs.length cap)) (hW : Lies W a fs) =>
      lim_any 153 #[.pointer (some ⟨B, 0, none⟩)] (fun _ _ => by kernel_rfl) (sumTo fs fs.length) W (fun W' hb' =>
        sumClo_any W' a cap fs B ((hb'.cell (World.block_lt_of_cell? W _ hO)).trans hO) hm (hW.below hb') hV.2))
  have hmf : ∀ (fn : Fn) (first cap : Array Value) (w : World), (Instr.makeFunc fn first cap).run Tryd.prog w = .ok (.func fn first cap) w := fun _ _ _ _ => rfl
  replace hS := Lib.hid hS
  replace hLi := Lib.hid hLi
  obtain ⟨r1, r2, c, hl⟩ := lv_form (sumTo fs fs.length)
  rw [hl] at hL ⊢
  obtain ⟨l, hl2⟩ : ∃ l, fs.length = l := ⟨_, rfl⟩
  rw [hl2] at hS hC hL ⊢
  clear hl hl2 hm hV
  go_enter Tryd.func132, Tryd.ntmps132
  go_wp2_with fail
  refine (hC.out _ (hS.out.below (by (repeat (first | exact Below.refl _ _ | assumption | refine bchain (by assumption) ?_ | refine balloc ?_ _ | apply Below.drew | apply below_drewN | (refine Below.alloc ?_ (by (try simp) <;> omega) _) | (refine Below.setCell ?_ (by (try simp) <;> omega) _)))))).mono ?_
  rintro r1 w1 ⟨rfl, hb1⟩
  obtain ⟨hk0, hz0⟩ := bkeep hb1 w.heap.size (by (try simp) <;> omega)
  obtain ⟨hk1, hz1⟩ := bkeep hb1 (w.heap.size + 1) (by (try simp) <;> omega)
  have hf1 := bkeepz hb1 (w.heap.size + 1) (by (try simp) <;> omega)
  go_wp2_with fail
  refine (hL.out _ _ ((hk0 0).trans (by simp [go_sem])) (hLi.out.below (by (repeat (first | exact Below.refl _ _ | assumption | refine bchain (by assumption) ?_ | refine balloc ?_ _ | apply Below.drew | apply below_drewN | (refine Below.alloc ?_ (by (try simp) <;> omega) _) | (refine Below.setCell ?_ (by (try simp) <;> omega) _)))))).mono ?_
  rintro r3 w3 ⟨rfl, hb3⟩
  obtain ⟨hk3, hz3⟩ := bkeep hb3 (w.heap.size + 1) hz1
  have hf3 := bkeepz hb3 (w.heap.size + 1) hz1
  have g0 : w3.cell? ⟨w.heap.size + 1, 0, none⟩ = some (.int .i64 0) := (hk3 0).trans ((hk1 0).trans (by simp [go_sem]))
  have g1 : w3.cell? ⟨w.heap.size + 1, 1, none⟩ = some (.int .i64 0) := (hk3 1).trans ((hk1 1).trans (by simp [go_sem]))
  have h2 := twoCells g0 g1 (.int .i64 r1) (.int .i64 r2)
  go_wp2
  exact bodyPost_ret (v := .tuple #[.agg #[.int .i64 r1, .int .i64 r2], .int .i64 c]) (by simp [results, Tryd.results132, go_sem, h2.1, h2.2]) rfl ⟨rfl, by (repeat (first | exact Below.refl _ _ | assumption | refine bchain (by assumption) ?_ | refine balloc ?_ _ | apply Below.drew | apply below_drewN | (refine Below.alloc ?_ (by (try simp) <;> omega) _) | (refine Below.setCell ?_ (by (try simp) <;> omega) _)))⟩
theorem ssf_bad (v : Value) (fs : List (Int × Int)) (hS : SlG w v fs) (hm : fs.length ≤ 1048576) (hV : ¬ Vl fs) :
    Calls Tryd.prog 93 #[v] w fun r w' => r = .returned (cv 1) ∧ Below w.heap.size w w' := by
  have hC := Lib.hid (fun W (hW : SlG W v fs) => svl_f W v fs hW hm hV)
  obtain ⟨a, cap, rfl, _⟩ := id hS
  replace hS := Lib.hid hS
  obtain ⟨l, hl⟩ : ∃ l, fs.length = l := ⟨_, rfl⟩
  rw [hl] at hS hC ⊢
  clear hm hV
  unfold cv
  go_enter Tryd.func93, Tryd.ntmps93
  go_wp2_with fail
  refine (hC.out _ (hS.out.below (by (repeat (first | exact Below.refl _ _ | assumption | refine bchain (by assumption) ?_ | refine balloc ?_ _ | apply Below.drew | apply below_drewN | (refine Below.alloc ?_ (by (try simp) <;> omega) _) | (refine Below.setCell ?_ (by (try simp) <;> omega) _)))))).mono ?_
  rintro r1 w1 ⟨rfl, hb1⟩
  obtain ⟨hk1, hz1⟩ := bkeep hb1 w.heap.size (by (try simp) <;> omega)
  have hf1 := bkeepz hb1 w.heap.size (by (try simp) <;> omega)
  have g0 : w1.cell? ⟨w.heap.size, 0, none⟩ = some (.int .i64 0) := (hk1 0).trans (by simp [go_sem])
  have g1 : w1.cell? ⟨w.heap.size, 1, none⟩ = some (.int .i64 0) := (hk1 1).trans (by simp [go_sem])
  have h2 := twoCells g0 g1 (.int .i64 0) (.int .i64 0)
  go_wp2
  exact bodyPost_ret (v := .tuple #[.agg #[.int .i64 0, .int .i64 0], .int .i64 1]) (by simp [results, Tryd.results93, go_sem, h2.1, h2.2]) rfl ⟨rfl, by (repeat (first | exact Below.refl _ _ | assumption | refine bchain (by assumption) ?_ | refine balloc ?_ _ | apply Below.drew | apply below_drewN | (refine Below.alloc ?_ (by (try simp) <;> omega) _) | (refine Below.setCell ?_ (by (try simp) <;> omega) _)))⟩
set_option maxHeartbeats 2000000 in
theorem ssf_ok (v : Value) (fs : List (Int × Int)) (hSl : SlG w v fs) (hV : Vl fs) :
    Calls Tryd.prog 93 #[v] w fun r w' => r = .returned (lv (sumTo fs fs.length)) ∧ Below w.heap.size w w' := by
  have hm : fs.length ≤ 1048576 := by have := hV.1; omega
  have hCv := Lib.hid (fun W (hW : SlG W v fs) => svl_t W v fs hW hV)
  have hP := Lib.hid (fun W k s (hk : k < fs.length) (hs : sumTo fs k = some s) => splus_any W s (gAt fs k) (sumTo_vp hV.2 k s (by omega) hs) (hV.2 k hk))
  have hW := Lib.hid (fun W => zero_any W)
  obtain ⟨a, cap, rfl, hc⟩ := hSl.lies
  replace hSl := Lib.hid hSl
  obtain ⟨n, hn⟩ : ∃ n, n = fs.length := ⟨_, rfl⟩
  rw [← hn] at hm hP hCv hSl ⊢
  replace hc := Lib.hid hc
  replace hn := Lib.hid hn
  clear hV
  go_enter Tryd.func93, Tryd.ntmps93
  go_wp2_with fail
  refine (hCv.out _ (hSl.out.below (by (repeat (first | exact Below.refl _ _ | assumption | refine bchain (by assumption) ?_ | refine balloc ?_ _ | apply Below.drew | apply below_drewN | (refine Below.alloc ?_ (by (try simp) <;> omega) _) | (refine Below.setCell ?_ (by (try simp) <;> omega) _)))))).mono ?_
  rintro r0 w0 ⟨rfl, hb0⟩
  go_wp2_with fail
  refine (hW.out _).mono ?_
  rintro r1 w1 ⟨rfl, hb1⟩
  have hA : SumAt w (w1.alloc (.cells #[.int .i64 0, .int .i64 1] 70)) w1.heap.size (0, 1) := by
    have hs0 := hb0.size
    have hs := hb1.size
    simp at hs0 hs
    refine ⟨by simp [go_sem], by simp [go_sem], fun o => by simp, by simp, ?_, ?_, ?_, by omega, by (repeat (first | exact Below.refl _ _ | assumption | refine bchain (by assumption) ?_ | refine balloc ?_ _ | apply Below.drew | apply below_drewN | (refine Below.alloc ?_ (by (try simp) <;> omega) _) | (refine Below.setCell ?_ (by (try simp) <;> omega) _)))⟩
    · exact (World.cell?_alloc_lt _ _ _ (by show w.heap.size < _; omega)).trans ((keepAll hb1 _ _ (by omega)).trans ((keepAll hb0 _ _ (by simp)).trans (by simp [go_sem])))
    · exact (World.cell?_alloc_lt _ _ _ (by show w.heap.size < _; omega)).trans ((keepAll hb1 _ _ (by omega)).trans ((keepAll hb0 _ _ (by simp)).trans (by simp [go_sem])))
    · intro o
      have h0 := keepFz hb0 w.heap.size o (by simp)
      have h1 := keepFz hb1 w.heap.size o (by omega)
      have h2 := keepFz (balloc (Below.refl _ w1) (.cells #[.int .i64 0, .int .i64 1] 70)) w.heap.size o (by omega)
      exact h2.trans (h1.trans (h0.trans (by simp)))
  replace hA := Lib.hid hA
  go_wp2
  go_loopw [5, 6, 7] (fun i _ _ wr => ∃ (k : Nat) (s : Int × Int), k ≤ n ∧ i = .int .i64 k ∧ sumTo fs k = some s ∧ SumAt w wr w1.heap.size s) (fun i _ _ _ => n - (intOf i).toNat)
  case atStart => exact ⟨0, (0, 1), by omega, rfl, rfl, hA.out⟩
  case round =>
    obtain ⟨k, s, hk, rfl, hs, hS⟩ := hrel
    clear hA hb1 hb0
    by_cases hlt : k < n
    · obtain ⟨b, off, rfl, hb, hg⟩ := hc.out k (by have := hn.out; omega)
      have hC := Lib.hid (fun W => hP.out W k s hlt hs)
      have hN : ∀ x, addF s (gAt fs k) = x → sumTo fs (k + 1) = x := fun x hx => by rw [sumTo, hs]; exact hx
      obtain ⟨x, y, hxy⟩ : ∃ x y, gAt fs k = (x, y) := ⟨_, _, rfl⟩
      have hB := hS.2.2.2.2.2.2.2.2
      have hsz := hS.2.2.2.1
      have s0 : wr.cell? ⟨b, off + k * 2, none⟩ = some (.int .i64 x) := by rw [hB.cell (p := ⟨b, _, none⟩) hb, hg.1, hxy]
      have s1 : wr.cell? ⟨b, off + k * 2 + 1, none⟩ = some (.int .i64 y) := by rw [hB.cell (p := ⟨b, _, none⟩) hb, hg.2, hxy]
      have hbw : b < wr.heap.size := Nat.lt_of_lt_of_le hb hB.size
      obtain ⟨o, ho⟩ : ∃ o, addF s (gAt fs k) = o := ⟨_, rfl⟩
      have hN2 := hN o ho
      rw [ho] at hC
      rw [hxy] at hC
      obtain ⟨p, q⟩ := s
      have t0 := hS.1
      have t1 := hS.2.1
      unfold fv at hC
      dsimp only at hC t0 t1
      have hkn : (k : Int) < (n : Int) := by omega
      have hkn0 : (0 : Int) ≤ (k : Int) := by omega
      obtain ⟨r1, r2, c, hl⟩ := lv_form o
      rw [hl] at hC
      replace hl := Lib.hid hl
      replace hS := Lib.hid hS
      clear hN hxy hg ho hs hB
      have hA0 : ∀ (c : Array Value) (t : TypeId) (i : Nat), (wr.drew.alloc (.cells c t)).cell? ⟨wr.heap.size, i, none⟩ = c[i]? := fun c t i => World.cell?_alloc_new wr.drew c t i
      have hF0 : ∀ (c : Array Value) (t : TypeId) (i : Nat), (wr.drew.alloc (.cells c t)).frozen? ⟨wr.heap.size, i, none⟩ = false := fun c t i => by
        have := (show ∀ W : World, (W.alloc (.cells c t)).frozen? ⟨W.heap.size, i, none⟩ = false from fun W => by simp) wr.drew
        exact this
      go_upto_region 7 with fail
      go_cut [6, 7] from 13 to 32 (fun s6 s7 wx => ∃ D : Nat, s6 = .pointer (some ⟨D, 0, none⟩) ∧ s7 = .int .i64 c ∧ wr.heap.size ≤ D ∧ D < wx.heap.size ∧ wx.cell? ⟨D, 0, none⟩ = some (.int .i64 r1) ∧ wx.cell? ⟨D, 1, none⟩ = some (.int .i64 r2) ∧ Below wr.heap.size wr wx)
      case first =>
        go_region_held3 (fun W => W.cell? ⟨w1.heap.size, 0, none⟩ = some (.int .i64 p) ∧ W.cell? ⟨w1.heap.size, 1, none⟩ = some (.int .i64 q) ∧ W.cell? ⟨b, off + k * 2, none⟩ = some (.int .i64 x) ∧ W.cell? ⟨b, off + k * 2 + 1, none⟩ = some (.int .i64 y))
          (exact ⟨old_cell hsz t0 (by (repeat (first | exact Below.refl _ _ | assumption | refine bchain (by assumption) ?_ | refine balloc ?_ _ | apply Below.drew | apply below_drewN | (refine Below.alloc ?_ (by (try simp) <;> omega) _) | (refine Below.setCell ?_ (by (try simp) <;> omega) _)))), old_cell hsz t1 (by (repeat (first | exact Below.refl _ _ | assumption | refine bchain (by assumption) ?_ | refine balloc ?_ _ | apply Below.drew | apply below_drewN | (refine Below.alloc ?_ (by (try simp) <;> omega) _) | (refine Below.setCell ?_ (by (try simp) <;> omega) _)))), old_cell hbw s0 (by (repeat (first | exact Below.refl _ _ | assumption | refine bchain (by assumption) ?_ | refine balloc ?_ _ | apply Below.drew | apply below_drewN | (refine Below.alloc ?_ (by (try simp) <;> omega) _) | (refine Below.setCell ?_ (by (try simp) <;> omega) _)))), old_cell hbw s1 (by (repeat (first | exact Below.refl _ _ | assumption | refine bchain (by assumption) ?_ | refine balloc ?_ _ | apply Below.drew | apply below_drewN | (refine Below.alloc ?_ (by (try simp) <;> omega) _) | (refine Below.setCell ?_ (by (try simp) <;> omega) _))))⟩)
          (first | (go_at_call 129; refine (hC.out _).mono ?_; rintro r w3 ⟨rfl, hb3⟩; have hk3 := keepAll hb3; have hf3 := keepFz hb3; have hz3 := keepLt hb3; have hs3 := hb3.size; try (simp at hs3); try (rw [Nat.add_one_le_iff] at hs3)))
        all_goals (go_wp2_with fail; go_meet; exact ⟨_, rfl, rfl, by (try simp) <;> omega, by (try simp) <;> omega, by first | (simp; done) | exact (twoCells (a := .int .i64 0) (b := .int .i64 0) (by simp [*]) (by simp [*]) _ _).1, by first | (simp; done) | exact (twoCells (a := .int .i64 0) (b := .int .i64 0) (by simp [*]) (by simp [*]) _ _).2, by (repeat (first | exact Below.refl _ _ | assumption | refine bchain (by assumption) ?_ | refine balloc ?_ _ | apply Below.drew | apply below_drewN | (refine Below.alloc ?_ (by (try simp) <;> omega) _) | (refine Below.setCell ?_ (by (try simp) <;> omega) _)))⟩)
      case rest =>
        obtain ⟨D, rfl, rfl, hD0, hD1, d0, d1, hBr⟩ := hcut
        have hS2 := hS.out.below hBr
        cases o with
        | none =>
          have hl2 := hl.out
          unfold lv at hl2
          simp only [Value.tuple.injEq, Array.mk.injEq, List.cons.injEq, Value.agg.injEq, Value.int.injEq, true_and, and_true] at hl2
          obtain ⟨⟨rfl, rfl⟩, rfl⟩ := hl2
          obtain ⟨h0, h1, h2, h3, h4, h5, h6, h7, h8⟩ := hS2
          have ht := twoCells h4 h5 (.int .i64 0) (.int .i64 0)
          go_wp2
          rw [sumTo_none hN2 n (by omega)]
          exact bodyPost_ret (v := .tuple #[.agg #[.int .i64 0, .int .i64 0], .int .i64 3]) (by simp [results, Tryd.results93, go_sem, ht.1, ht.2]) rfl ⟨rfl, by (repeat (first | exact Below.refl _ _ | assumption | refine bchain (by assumption) ?_ | refine balloc ?_ _ | apply Below.drew | apply below_drewN | (refine Below.alloc ?_ (by (try simp) <;> omega) _) | (refine Below.setCell ?_ (by (try simp) <;> omega) _)))⟩
        | some z =>
          obtain ⟨z1, z2⟩ := z
          have hl2 := hl.out
          unfold lv fv at hl2
          simp only [Value.tuple.injEq, Array.mk.injEq, List.cons.injEq, Value.agg.injEq, Value.int.injEq, true_and, and_true] at hl2
          obtain ⟨⟨rfl, rfl⟩, rfl⟩ := hl2
          have g0 := hS2.1
          have g1 := hS2.2.1
          have g2 := hS2.2.2.1
          have hst := Lib.hid (hS2.store (z1, z2))
          dsimp only at g0 g1
          clear hS2 hl
          go_wp2
          go_roundw
          case rel => exact ⟨k + 1, (z1, z2), by omega, by go_num, hN2, hst.out⟩
          case measure => simp [intOf]; omega
    · have hd := decide_eq_false (show ¬ ((k : Int) < (n : Int)) by omega)
      obtain rfl : k = n := by omega
      obtain ⟨p, q⟩ := s
      obtain ⟨h0, h1, h2, h3, h4, h5, h6, h7, h8⟩ := hS
      dsimp only at h0 h1
      have ht := twoCells h4 h5 (.int .i64 p) (.int .i64 q)
      go_wp2
      rw [hs]
      exact bodyPost_ret (v := .tuple #[.agg #[.int .i64 p, .int .i64 q], .int .i64 0]) (by simp [results, Tryd.results93, go_sem, ht.1, ht.2]) rfl ⟨rfl, by (repeat (first | exact Below.refl _ _ | assumption | refine bchain (by assumption) ?_ | refine balloc ?_ _ | apply Below.drew | apply below_drewN | (refine Below.alloc ?_ (by (try simp) <;> omega) _) | (refine Below.setCell ?_ (by (try simp) <;> omega) _)))⟩
theorem sum_both (fs : List (Int × Int)) (hm : fs.length ≤ 1048576) : ∃ (x y c : Int),
    (∀ W v, SlG W v fs → Calls Tryd.prog 93 #[v] W fun r w' => r = .returned (.tuple #[.agg #[.int .i64 x, .int .i64 y], .int .i64 c]) ∧ Below W.heap.size W w') ∧
    (∀ W v, SlG W v fs → Calls Tryd.prog 132 #[v] W fun r w' => r = .returned (.tuple #[.agg #[.int .i64 x, .int .i64 y], .int .i64 c]) ∧ Below W.heap.size W w') := by
  by_cases hV : Vl fs
  · have h1 := fun W v (h : SlG W v fs) => ssf_ok W v fs h hV
    have h2 := fun W v (h : SlG W v fs) => isf_ok W v fs h hV
    obtain ⟨r1, r2, c, hl⟩ := lv_form (sumTo fs fs.length)
    rw [hl] at h1 h2
    exact ⟨r1, r2, c, h1, h2⟩
  · exact ⟨0, 0, 1, fun W v h => ssf_bad W v fs h hm hV, fun W v h => isf_bad W v fs h hm hV⟩
end
end Go.Proofs.YtiedombphcdpbaaDoor.Fr
/-
  WHAT COMES IN, OPENED BY SHAPE: an int64, a bool, a laws.Fraction by value; and the closed facts of this seat's program that every row owes.
-/
namespace Go.Proofs.YtiedombphcdpbaaDoor.Fr
open Go.ChangeShapes Go.WideShapes Go.ChangeAt Go.RowKit Go.Joins
set_option maxRecDepth 100000

theorem own : ownKnob Tryd.prog.godebug = none := by kernel_rfl
theorem laid_out : laidOutB Tryd.prog = true := by kernel_rfl
theorem cellsLF : Tryd.prog.cellsOf 120 = 2 := by kernel_rfl

section
variable {H : Type} {enc : TypeId × Value → H}

theorem open_i64 {W : World} {base : Nat} {v : Value} {d : DataW H} {p : List MemPlace} (hv : Value.okWide Tryd.prog W .any base 2 v) (h : DataW.Trod enc Tryd.prog W 0 (fun _ => true) true 2 v d p) :
    ∃ n : Int, v = .int .i64 n ∧ (Lit.int .i64 n).wf = true := by
  obtain ⟨x, rfl, rfl, rfl, wx⟩ := open_int Tryd.underlying2 hv h
  exact ⟨x, rfl, wx⟩

theorem open_frac {W : World} {base : Nat} {v : Value} {d : DataW H} {p : List MemPlace} (hv : Value.okWide Tryd.prog W .any base 120 v) (h : DataW.Trod enc Tryd.prog W 0 (fun _ => true) true 120 v d p) :
    ∃ x y : Int, v = .agg #[.int .i64 x, .int .i64 y] ∧ (Lit.int .i64 x).wf = true ∧ (Lit.int .i64 y).wf = true := by
  obtain ⟨c0, c1, y0, y1, m, rfl, rfl, rfl, hy0, hy1⟩ := open_agg2 Tryd.underlying120 (by kernel_rfl) cellsLF hv h
  obtain ⟨a, e0, rfl, wa⟩ := DataW.trod_int Tryd.underlying2 hy0
  obtain ⟨b, e1, rfl, wb⟩ := DataW.trod_int Tryd.underlying2 hy1
  simp at e0 e1
  subst e0 e1
  exact ⟨a, b, rfl, wa, wb⟩
end
end Go.Proofs.YtiedombphcdpbaaDoor.Fr
/-
  A LIST OF FRACTIONS THAT COMES IN, OPENED TO ITS CELLS.
-/
namespace Go.Proofs.YtiedombphcdpbaaDoor.Fr
open Go.ChangeShapes Go.WideShapes Go.ChangeAt Go.RowKit Go.Deep
set_option maxRecDepth 100000

theorem open_fs_core {H : Type} {enc : TypeId × Value → H} {W : World} {v : Value} {fuel : Nat} {x : DataW H × List MemPlace} (hf : DataW.trod enc Tryd.prog W 0 (fun _ => true) true fuel 55 [v] = some x) :
    ∃ gs : List (Int × Int), SlG W v gs := by
  rcases open_slice_pairs Tryd.underlying55 Tryd.underlying120 cellsLF rfl rfl (by kernel_rfl) (by kernel_rfl) hf with ⟨hcs, hx⟩ | ⟨a, len, cap, m, n, V0, V1, D0, D1, P0, P1, hcs, _, hl, hm, hmm, hx, hi⟩
  · cases hcs
    exact ⟨[], ⟨none, 0, rfl, by simp, by simp, fun c => absurd rfl c⟩⟩
  · cases hcs
    simp only [if_true] at hmm
    have hel : ∀ i, i < len → ∃ x y : Int, W.cell? (a.add (i * 2)) = some (.int .i64 x) ∧ W.cell? (a.add (i * 2 + 1)) = some (.int .i64 y) ∧ (Lit.int .i64 y).wf = true := fun i hi2 => by
      obtain ⟨h0, h1, t0, t1⟩ := hi i (by omega)
      obtain ⟨x, e0, _, _⟩ := DataW.trod_int Tryd.underlying2 t0
      obtain ⟨y, e1, _, wy⟩ := DataW.trod_int Tryd.underlying2 t1
      simp at e0 e1
      exact ⟨x, y, by rw [h0, e0], by rw [h1, e1], wy⟩
    refine ⟨(List.range len).map fun i => ((W.cell? (a.add (i * 2))).elim 0 intOf, (W.cell? (a.add (i * 2 + 1))).elim 0 intOf), ⟨some a, cap, by simp, by simpa using hl, by unfold maxLen at hm; omega, fun hne => ?_⟩⟩
    have hlen : 0 < len := by
      rcases Nat.eq_zero_or_pos len with h0 | h0
      · subst h0; exact absurd rfl hne
      · exact h0
    obtain ⟨b, off, spot⟩ := a
    have hspot : spot = none := by
      obtain ⟨x, y, h0, _, _⟩ := hel 0 hlen
      simpa [Addr.add] using World.cell?_spot h0
    subst hspot
    refine ⟨b, off, rfl, ?_, fun i hi2 => ?_⟩
    · obtain ⟨x, y, h0, _, _⟩ := hel 0 hlen
      exact World.block_lt_of_cell? W _ h0
    · rw [List.length_map, List.length_range] at hi2
      obtain ⟨x, y, h0, h1, _⟩ := hel i hi2
      unfold GCell gAt
      rw [List.getElem?_map, List.getElem?_range hi2]
      simp only [Option.map_some, Option.getD_some, h0, h1, Option.elim_some, intOf]
      rw [add_plain] at h0 h1
      exact ⟨h0, h1⟩
theorem open_fs {H : Type} {enc : TypeId × Value → H} {W : World} {base : Nat} {v : Value} {d : DataW H} {p : List MemPlace} (hv : Value.okWide Tryd.prog W .any base 55 v) (h : DataW.Trod enc Tryd.prog W 0 (fun _ => true) true 55 v d p) :
    ∃ gs : List (Int × Int), SlG W v gs := by
  obtain ⟨a0, len, cap, rfl⟩ := okWide_slice Tryd.underlying55 hv
  obtain ⟨fuel, hf⟩ := h
  simp only [Value.cells] at hf
  exact open_fs_core hf
end Go.Proofs.YtiedombphcdpbaaDoor.Fr
