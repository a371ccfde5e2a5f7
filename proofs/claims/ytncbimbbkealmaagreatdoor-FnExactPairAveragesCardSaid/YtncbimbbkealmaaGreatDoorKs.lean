/-
  LISTS OF FLAGS: 'SlK w v gs': in the world w the value v is a list that holds the flags gs (labels, vertices, edges). What copies such a list, and what holds two against each other.
-/
import Derived.Test.YtncbimbbkealmaaGreatDoorKVal
import Derived.Deep.OwnRows
import Derived.Lib.Hide
import Derived.StillTailTactics
namespace Go.Proofs.YtncbimbbkealmaaGreatDoor
open Go.RowKit
set_option maxRecDepth 100000

def kAt (gs : List (Int × Int × Int)) (i : Nat) : Int × Int × Int := gs[i]?.getD (0, 0, 0)
/-- three cells of a block that hold the flag at i -/
def KCell (w : World) (b off : Nat) (g : Int × Int × Int) (i : Nat) : Prop := w.cell? ⟨b, off + i * 3, none⟩ = some (.int .i64 g.1) ∧ w.cell? ⟨b, off + i * 3 + 1, none⟩ = some (.int .i64 g.2.1) ∧ w.cell? ⟨b, off + i * 3 + 2, none⟩ = some (.int .u32 g.2.2)
def SlK (w : World) (v : Value) (gs : List (Int × Int × Int)) : Prop :=
  ∃ (a : Option Addr) (cap : Nat), v = .slice a gs.length cap ∧ gs.length ≤ cap ∧ cap ≤ 9223372036854775807 ∧
    (gs ≠ [] → ∃ b off, a = some ⟨b, off, none⟩ ∧ b < w.heap.size ∧ ∀ i, i < gs.length → KCell w b off (kAt gs i) i)
theorem SlK.below {w w' : World} {v : Value} {gs : List (Int × Int × Int)} (h : SlK w v gs) (hb : Below w.heap.size w w') : SlK w' v gs := by
  obtain ⟨a, cap, e, h1, h2, h3⟩ := h
  refine ⟨a, cap, e, h1, h2, fun hz => ?_⟩
  obtain ⟨b, off, e2, hlt, hc⟩ := h3 hz
  exact ⟨b, off, e2, Nat.lt_of_lt_of_le hlt hb.size, fun i hi => ⟨(hb.cell (p := ⟨b, _, none⟩) hlt).trans (hc i hi).1, (hb.cell (p := ⟨b, _, none⟩) hlt).trans (hc i hi).2.1, (hb.cell (p := ⟨b, _, none⟩) hlt).trans (hc i hi).2.2⟩⟩
/-- a block that holds the first k of gs, zeros behind -/
def HalfK (w : World) (B k : Nat) (gs : List (Int × Int × Int)) : Prop := ∀ i, i < gs.length → KCell w B 0 (if i < k then kAt gs i else (0, 0, 0)) i
theorem HalfK.set {w : World} {B k : Nat} {gs : List (Int × Int × Int)} (h : HalfK w B k gs) (hk : k < gs.length) : HalfK (((w.setCell ⟨B, k * 3, none⟩ (.int .i64 (kAt gs k).1)).setCell ⟨B, k * 3 + 1, none⟩ (.int .i64 (kAt gs k).2.1)).setCell ⟨B, k * 3 + 2, none⟩ (.int .u32 (kAt gs k).2.2)) B (k + 1) gs := by
  intro i hi
  have hi2 := h i hi
  unfold KCell at hi2 ⊢
  rw [Nat.zero_add] at hi2 ⊢
  by_cases e : i = k
  · subst e
    rw [if_pos (by omega)]
    exact ⟨(World.cell?_setCell_other _ _ _ _ (by simp)).trans ((World.cell?_setCell_other _ _ _ _ (by simp)).trans (World.cell?_setCell_same _ _ _ hi2.1)),
      (World.cell?_setCell_other _ _ _ _ (by simp)).trans (World.cell?_setCell_same _ _ _ ((World.cell?_setCell_other _ _ _ _ (by simp)).trans hi2.2.1)),
      World.cell?_setCell_same _ _ _ ((World.cell?_setCell_other _ _ _ _ (by simp)).trans ((World.cell?_setCell_other _ _ _ _ (by simp)).trans hi2.2.2))⟩
  · rw [show (if i < k + 1 then kAt gs i else (0, 0, 0)) = (if i < k then kAt gs i else (0, 0, 0)) by
      by_cases c : i < k
      · rw [if_pos c, if_pos (by omega)]
      · rw [if_neg c, if_neg (by omega)]]
    exact ⟨(World.cell?_setCell_other _ _ _ _ (by simp <;> omega)).trans ((World.cell?_setCell_other _ _ _ _ (by simp <;> omega)).trans ((World.cell?_setCell_other _ _ _ _ (by simp <;> omega)).trans hi2.1)),
      (World.cell?_setCell_other _ _ _ _ (by simp <;> omega)).trans ((World.cell?_setCell_other _ _ _ _ (by simp <;> omega)).trans ((World.cell?_setCell_other _ _ _ _ (by simp <;> omega)).trans hi2.2.1)),
      (World.cell?_setCell_other _ _ _ _ (by simp <;> omega)).trans ((World.cell?_setCell_other _ _ _ _ (by simp <;> omega)).trans ((World.cell?_setCell_other _ _ _ _ (by simp <;> omega)).trans hi2.2.2))⟩
theorem HalfK.below {w w' : World} {B k : Nat} {gs : List (Int × Int × Int)} (h : HalfK w B k gs) (hb : Below w.heap.size w w') (hB : B < w.heap.size) : HalfK w' B k gs :=
  fun i hi => ⟨(hb.cell (p := ⟨B, _, none⟩) hB).trans (h i hi).1, (hb.cell (p := ⟨B, _, none⟩) hB).trans (h i hi).2.1, (hb.cell (p := ⟨B, _, none⟩) hB).trans (h i hi).2.2⟩
theorem HalfK.done {w : World} {B cap : Nat} {gs : List (Int × Int × Int)} (h : HalfK w B gs.length gs) (hB : B < w.heap.size) (hc : gs.length ≤ cap) (hm : cap ≤ 9223372036854775807) : SlK w (.slice (some ⟨B, 0, none⟩) gs.length cap) gs :=
  ⟨_, _, rfl, hc, hm, fun _ => ⟨B, 0, rfl, hB, fun i hi => by have := h i hi; rw [if_pos hi] at this; exact this⟩⟩
theorem info_flagK : (Tryz.prog.info? 43).map (fun i => (i.zero, i.size, i.bytes)) = some (some (.agg #[.int .i64 0, .int .i64 0, .int .u32 0]), 3, 24) := by kernel_rfl
theorem madeK (w : World) (n B : Nat) (e : TypeId) (gs : List (Int × Int × Int)) (hB : B = w.heap.size) (hn : gs.length = n) : HalfK (w.alloc (.cells (madeCells #[.int .i64 0, .int .i64 0, .int .u32 0] (n * 3)) e)) B 0 gs := by
  intro i hi
  subst hB
  unfold KCell
  rw [World.cell?_alloc_new, World.cell?_alloc_new, World.cell?_alloc_new, Nat.zero_add, if_neg (by omega)]
  have h1 : i * 3 < n * 3 := by omega
  have h2 : i * 3 + 1 < n * 3 := by omega
  have h3 : i * 3 + 2 < n * 3 := by omega
  have m1 : i * 3 % 3 = 0 := by omega
  have m2 : (i * 3 + 1) % 3 = 1 := by omega
  have m3 : (i * 3 + 2) % 3 = 2 := by omega
  refine ⟨?_, ?_, ?_⟩
  · simp [madeCells, h1, m1]
  · simp [madeCells, h2, m2]
  · simp [madeCells, h3, m3]
section
variable (w : World)
theorem szk_ok (a : Option Addr) (l cap : Nat) (hl : l ≤ 1048576) :
    Calls Tryz.prog 4 #[.slice a l cap, .int .i64 1048576] w fun r w' => r = .returned (.int .i64 (1048576 - (l : Int))) ∧ w = w' := by
  go_enter Tryz.func4, Tryz.ntmps4
  go_wp2
  go_ret
  exact ⟨rfl, rfl⟩
theorem szk_long (a : Option Addr) (l cap : Nat) (hl : 1048576 < l) (hm : l ≤ 9223372036854775807) :
    Calls Tryz.prog 4 #[.slice a l cap, .int .i64 1048576] w fun r w' => r = .returned (.int .i64 (-1)) ∧ w = w' := by
  go_enter Tryz.func4, Tryz.ntmps4
  go_wp2
  go_ret
  exact ⟨rfl, rfl⟩
theorem toKs_empty (a : Option Addr) (cap : Nat) :
    Calls Tryz.prog 6 #[.slice a 0 cap] w fun r w' => (∃ v, r = .returned v ∧ SlK w' v []) ∧ Below w.heap.size w w' := by
  obtain ⟨i0, hi0, hz0, hs0, hb0⟩ := info_parts info_flagK
  have hmk : ∀ W : World, (Instr.makeSlice 30 (.int .i64 0) (.int .i64 0)).run Tryz.prog W = .ok (.slice (some ⟨W.heap.size, 0, none⟩) 0 0) (W.alloc (.cells (madeCells #[.int .i64 0, .int .i64 0, .int .u32 0] (0 * 3)) 43)) := fun W => by
    have hr := run_make (P := Tryz.prog) W 30 43 i0 (.agg #[.int .i64 0, .int .i64 0, .int .u32 0]) Tryz.underlying30 hi0 hz0 .i64 .i64 ((0 : Nat) : Int) ((0 : Nat) : Int) (by omega) (by omega) (by rw [hb0]; omega) (by omega)
    simp only [Int.toNat_natCast, hs0] at hr
    exact hr
  clear hi0 hz0 hs0 hb0
  go_enter Tryz.func6, Tryz.ntmps6
  go_wp2
  go_loopw [4] (fun i wr => i = .int .i64 0 ∧ Below w.heap.size w wr) (fun _ _ => 0)
  case atStart => exact ⟨rfl, by (repeat (first | exact Below.refl _ _ | assumption | refine bchain (by assumption) ?_ | refine balloc ?_ _ | apply Below.drew | apply below_drewN | (refine Below.alloc ?_ (by (try simp) <;> omega) _) | (refine Below.setCell ?_ (by (try simp) <;> omega) _)))⟩
  case round =>
    obtain ⟨rfl, hb⟩ := hrel
    go_wp2
    go_ret
    exact ⟨⟨_, rfl, _, _, rfl, by simp, by simp, fun c => absurd rfl c⟩, hb⟩
set_option maxHeartbeats 1000000 in
theorem toKs_some (b off cap : Nat) (gs : List (Int × Int × Int)) (h1 : 0 < gs.length) (h2 : gs.length ≤ cap) (hm : gs.length ≤ 1048576) (hb : b < w.heap.size) (hc : ∀ i, i < gs.length → KCell w b off (kAt gs i) i) :
    Calls Tryz.prog 6 #[.slice (some ⟨b, off, none⟩) gs.length cap] w fun r w' => (∃ v, r = .returned v ∧ SlK w' v gs) ∧ Below w.heap.size w w' := by
  obtain ⟨i0, hi0, hz0, hs0, hb0⟩ := info_parts info_flagK
  obtain ⟨O, hO⟩ : ∃ O, O = Obj.cells (madeCells #[.int .i64 0, .int .i64 0, .int .u32 0] (gs.length * 3)) 43 := ⟨_, rfl⟩
  obtain ⟨n, hn⟩ : ∃ n, n = gs.length := ⟨_, rfl⟩
  rw [← hn] at h1 h2 hm hO ⊢
  have hmk : ∀ W : World, (Instr.makeSlice 30 (.int .i64 n) (.int .i64 n)).run Tryz.prog W = .ok (.slice (some ⟨W.heap.size, 0, none⟩) n n) (W.alloc O) := fun W => by
    have hr := run_make (P := Tryz.prog) W 30 43 i0 (.agg #[.int .i64 0, .int .i64 0, .int .u32 0]) Tryz.underlying30 hi0 hz0 .i64 .i64 (n : Int) (n : Int) (by omega) (by omega) (by rw [hb0]; omega) (by omega)
    simp only [Int.toNat_natCast, hs0] at hr
    rw [hO]
    exact hr
  clear hi0 hz0 hs0 hb0
  replace hO := Lib.hid hO
  replace hn := Lib.hid hn
  replace hc := Lib.hid hc
  go_enter Tryz.func6, Tryz.ntmps6
  go_wp2
  go_loopw [4] (fun i wr => ∃ k : Nat, k ≤ n ∧ i = .int .i64 k ∧ HalfK wr w.heap.size k gs ∧ (∀ o, wr.frozen? ⟨w.heap.size, o, none⟩ = false) ∧ w.heap.size < wr.heap.size ∧ Below w.heap.size w wr) (fun i _ => n - (intOf i).toNat)
  case atStart => exact ⟨0, by omega, rfl, by rw [hO.out]; exact madeK _ _ _ _ _ rfl hn.out.symm, fun o => by rw [hO.out]; simp, by simp, by (repeat (first | exact Below.refl _ _ | assumption | refine bchain (by assumption) ?_ | refine balloc ?_ _ | apply Below.drew | apply below_drewN | (refine Below.alloc ?_ (by (try simp) <;> omega) _) | (refine Below.setCell ?_ (by (try simp) <;> omega) _)))⟩
  case round =>
    obtain ⟨k, hk, rfl, hh, hf, hz, hB⟩ := hrel
    by_cases hlt : k < n
    · have hg := hc.out k (by have := hn.out; omega)
      obtain ⟨x, y, z, hxy⟩ : ∃ x y z, kAt gs k = (x, y, z) := ⟨_, _, _, rfl⟩
      have hs0 : wr.cell? ⟨b, off + k * 3, none⟩ = some (.int .i64 x) := by rw [hB.cell (p := ⟨b, _, none⟩) hb, hg.1, hxy]
      have hs1 : wr.cell? ⟨b, off + k * 3 + 1, none⟩ = some (.int .i64 y) := by rw [hB.cell (p := ⟨b, _, none⟩) hb, hg.2.1, hxy]
      have hs2 : wr.cell? ⟨b, off + k * 3 + 2, none⟩ = some (.int .u32 z) := by rw [hB.cell (p := ⟨b, _, none⟩) hb, hg.2.2, hxy]
      have hset := Lib.hid (fun (W : World) (h : HalfK W w.heap.size k gs) => h.set (k := k) (by have := hn.out; omega))
      rw [hxy] at hset
      clear hg hxy
      replace hh := Lib.hid hh
      replace hf := Lib.hid hf
      go_wp2_with fail
      refine (toFlag_any _ x y z).mono ?_
      rintro r3 w3 ⟨rfl, hb3⟩
      have hh3 := hh.out.below hb3 hz
      have hz3 := Nat.lt_of_lt_of_le hz hb3.size
      have ht := hh3 k (by have := hn.out; omega)
      rw [if_neg (by omega)] at ht
      have t0 : w3.cell? ⟨w.heap.size, k * 3, none⟩ = some (.int .i64 0) := by have := ht.1; rwa [Nat.zero_add] at this
      have t1 : w3.cell? ⟨w.heap.size, k * 3 + 1, none⟩ = some (.int .i64 0) := by have := ht.2.1; rwa [Nat.zero_add] at this
      have t2 : w3.cell? ⟨w.heap.size, k * 3 + 2, none⟩ = some (.int .u32 0) := by have := ht.2.2; rwa [Nat.zero_add] at this
      have hf3 : ∀ o, w3.frozen? ⟨w.heap.size, o, none⟩ = false := fun o => (hb3.frozen (p := ⟨w.heap.size, o, none⟩) hz).trans (hf.out o)
      have f0 := hf3 (k * 3)
      have f1 := hf3 (k * 3 + 1)
      have f2 := hf3 (k * 3 + 2)
      have hn2 := Lib.hid (hset.out w3 hh3)
      replace hf3 := Lib.hid hf3
      clear hh3 ht
      go_wp2
      go_roundw
      case rel => exact ⟨k + 1, by omega, by go_num, hn2.out, fun o => by simp [hf3.out o], by simp; omega, by (repeat (first | exact Below.refl _ _ | assumption | refine bchain (by assumption) ?_ | refine balloc ?_ _ | apply Below.drew | apply below_drewN | (refine Below.alloc ?_ (by (try simp) <;> omega) _) | (refine Below.setCell ?_ (by (try simp) <;> omega) _)))⟩
      case measure => simp [intOf]; omega
    · have hd := decide_eq_false (show ¬ ((k : Int) < (n : Int)) by omega)
      obtain rfl : k = n := by omega
      replace hh := Lib.hid hh
      replace hf := Lib.hid hf
      go_wp2
      go_ret
      refine ⟨⟨_, rfl, ?_⟩, hB⟩
      have e := hn.out
      subst e
      exact HalfK.done hh.out hz (Nat.le_refl _) (by omega)
theorem toKs_any (v : Value) (gs : List (Int × Int × Int)) (h : SlK w v gs) (hm : gs.length ≤ 1048576) :
    Calls Tryz.prog 6 #[v] w fun r w' => (∃ u, r = .returned u ∧ SlK w' u gs) ∧ Below w.heap.size w w' := by
  obtain ⟨a, cap, rfl, h1, h2, h3⟩ := h
  cases gs with
  | nil => exact toKs_empty w a cap
  | cons z zs =>
    obtain ⟨b, off, rfl, hb, hc⟩ := h3 (by simp)
    exact toKs_some w b off cap (z :: zs) (by simp) h1 hm hb hc
theorem eqKs_empty (a a' : Option Addr) (cap cap' : Nat) :
    Calls Tryz.prog 10 #[.slice a 0 cap, .slice a' 0 cap'] w fun r w' => r = .returned (.bool true) ∧ Below w.heap.size w w' := by
  go_enter Tryz.func10, Tryz.ntmps10
  go_wp2
  go_loopw [5] (fun i wr => i = .int .i64 0 ∧ Below w.heap.size w wr) (fun _ _ => 0)
  case atStart => exact ⟨rfl, by (repeat (first | exact Below.refl _ _ | assumption | refine bchain (by assumption) ?_ | refine balloc ?_ _ | apply Below.drew | apply below_drewN | (refine Below.alloc ?_ (by (try simp) <;> omega) _) | (refine Below.setCell ?_ (by (try simp) <;> omega) _)))⟩
  case round =>
    obtain ⟨rfl, hb⟩ := hrel
    go_wp2
    go_ret
    exact ⟨rfl, hb⟩
set_option maxHeartbeats 1000000 in
theorem eqKs_some (b off cap b' off' cap' : Nat) (gs : List (Int × Int × Int)) (h1 : 0 < gs.length) (hm : gs.length ≤ 1048576) (hb : b < w.heap.size) (hb' : b' < w.heap.size)
    (hc : ∀ i, i < gs.length → KCell w b off (kAt gs i) i) (hc' : ∀ i, i < gs.length → KCell w b' off' (kAt gs i) i) :
    Calls Tryz.prog 10 #[.slice (some ⟨b, off, none⟩) gs.length cap, .slice (some ⟨b', off', none⟩) gs.length cap'] w fun r w' => r = .returned (.bool true) ∧ Below w.heap.size w w' := by
  obtain ⟨n, hn⟩ : ∃ n, n = gs.length := ⟨_, rfl⟩
  rw [← hn] at h1 hm ⊢
  replace hn := Lib.hid hn
  replace hc := Lib.hid hc
  replace hc' := Lib.hid hc'
  go_enter Tryz.func10, Tryz.ntmps10
  go_wp2
  go_loopw [5] (fun i wr => ∃ k : Nat, k ≤ n ∧ i = .int .i64 k ∧ Below w.heap.size w wr) (fun i _ => n - (intOf i).toNat)
  case atStart => exact ⟨0, by omega, rfl, by (repeat (first | exact Below.refl _ _ | assumption | refine bchain (by assumption) ?_ | refine balloc ?_ _ | apply Below.drew | apply below_drewN | (refine Below.alloc ?_ (by (try simp) <;> omega) _) | (refine Below.setCell ?_ (by (try simp) <;> omega) _)))⟩
  case round =>
    obtain ⟨k, hk, rfl, hB⟩ := hrel
    by_cases hlt : k < n
    · have hg := hc.out k (by have := hn.out; omega)
      have hg' := hc'.out k (by have := hn.out; omega)
      obtain ⟨x, y, z, hxy⟩ : ∃ x y z, kAt gs k = (x, y, z) := ⟨_, _, _, rfl⟩
      have s0 : wr.cell? ⟨b, off + k * 3, none⟩ = some (.int .i64 x) := by rw [hB.cell (p := ⟨b, _, none⟩) hb, hg.1, hxy]
      have s1 : wr.cell? ⟨b, off + k * 3 + 1, none⟩ = some (.int .i64 y) := by rw [hB.cell (p := ⟨b, _, none⟩) hb, hg.2.1, hxy]
      have s2 : wr.cell? ⟨b, off + k * 3 + 2, none⟩ = some (.int .u32 z) := by rw [hB.cell (p := ⟨b, _, none⟩) hb, hg.2.2, hxy]
      have t0 : wr.cell? ⟨b', off' + k * 3, none⟩ = some (.int .i64 x) := by rw [hB.cell (p := ⟨b', _, none⟩) hb', hg'.1, hxy]
      have t1 : wr.cell? ⟨b', off' + k * 3 + 1, none⟩ = some (.int .i64 y) := by rw [hB.cell (p := ⟨b', _, none⟩) hb', hg'.2.1, hxy]
      have t2 : wr.cell? ⟨b', off' + k * 3 + 2, none⟩ = some (.int .u32 z) := by rw [hB.cell (p := ⟨b', _, none⟩) hb', hg'.2.2, hxy]
      have hE := Lib.hid (eqFlag_any wr.drew x y z)
      have hk1 : (k : Int) < (n : Int) := by omega
      clear hg hg' hxy
      go_wp2
      go_still_tail 8, (by kernel_rfl)
      change wpList _ _ _ _ _ wr.drew
      go_wp2_with (go_at_call 27; refine (hE.out).mono ?_; rintro r3 w3 ⟨rfl, hb3⟩)
      go_roundw
      case rel => exact ⟨k + 1, by omega, by go_num, by (repeat (first | exact Below.refl _ _ | assumption | refine bchain (by assumption) ?_ | refine balloc ?_ _ | apply Below.drew | apply below_drewN | (refine Below.alloc ?_ (by (try simp) <;> omega) _) | (refine Below.setCell ?_ (by (try simp) <;> omega) _)))⟩
      case measure => simp [intOf]; omega
    · have hd := decide_eq_false (show ¬ ((k : Int) < (n : Int)) by omega)
      go_wp2
      go_ret
      exact ⟨rfl, hB⟩
theorem eqKs_any (u v : Value) (gs : List (Int × Int × Int)) (h : SlK w u gs) (h' : SlK w v gs) (hm : gs.length ≤ 1048576) :
    Calls Tryz.prog 10 #[u, v] w fun r w' => r = .returned (.bool true) ∧ Below w.heap.size w w' := by
  obtain ⟨a, cap, rfl, h1, h2, h3⟩ := h
  obtain ⟨a', cap', rfl, h1', h2', h3'⟩ := h'
  cases gs with
  | nil => exact eqKs_empty w a a' cap cap'
  | cons z zs =>
    obtain ⟨b, off, rfl, hb, hc⟩ := h3 (by simp)
    obtain ⟨b', off', rfl, hb', hc'⟩ := h3' (by simp)
    exact eqKs_some w b off cap b' off' cap' (z :: zs) (by simp) hm hb hb' hc hc'
end
end Go.Proofs.YtncbimbbkealmaaGreatDoor
