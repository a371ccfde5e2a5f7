/-
  Ks, KAv, Bk, Ct, KFm, KFc, Bc, Vb, Cl, in one text.
-/
import Derived.Test.YtiedombphcdpbaaDoorKVal
import Derived.Deep.OwnRows
import Derived.Lib.Hide
import Derived.StillTailTactics
import Derived.Test.YtiedombphcdpbaaDoorFrM
import Derived.Test.YtiedombphcdpbaaDoorKOpen
import Derived.Deep.SlicePairs
import Derived.Test.YtiedombphcdpbaaDoorBw
import Derived.Deep.Slices
import Derived.Test.YtiedombphcdpbaaDoorKSmall
import Derived.Test.YtiedombphcdpbaaDoorKEq
/-
  LISTS OF FLAGS: 'SlK w v gs': in the world w the value v is a list that holds the flags gs (labels, vertices, edges). What copies such a list, and what holds two against each other.
-/
namespace Go.Proofs.YtiedombphcdpbaaDoor
open Go.RowKit
set_option maxRecDepth 100000

def kAt (gs : List (Int × Int × Int)) (i : Nat) : Int × Int × Int := gs[i]?.getD (0, 0, 0)
/-- three cells of a block that hold the flag at i -/
def KCell (w : World) (b off : Nat) (g : Int × Int × Int) (i : Nat) : Prop := w.cell? ⟨b, off + i * 3, none⟩ = some (.int .i64 g.1) ∧ w.cell? ⟨b, off + i * 3 + 1, none⟩ = some (.int .i64 g.2.1) ∧ w.cell? ⟨b, off + i * 3 + 2, none⟩ = some (.int .u32 g.2.2)
def SlK (w : World) (v : Value) (gs : List (Int × Int × Int)) : Prop :=
  ∃ (a : Option Addr) (cap : Nat), v = .slice a gs.length cap ∧ gs.length ≤ cap ∧ cap ≤ 9223372036854775807 ∧
    (gs ≠ [] → ∃ b off, a = some ⟨b, off, none⟩ ∧ b < w.heap.size ∧ ∀ i, i < gs.length → KCell w b off (kAt gs i) i)
theorem SlK.below {w w' : World} {v : Value} {gs : List (Int × Int × Int)} (h : SlK w v gs) (hb : Below w.heap.size w w') : SlK w' v gs := by
  obtain ⟨a, cap, e, h1, h2, h3⟩ := h
  refine ⟨a, cap, e, h1, h2, fun hz => ?_⟩
  obtain ⟨b, off, e2, hlt, hc⟩ := h3 hz
  exact ⟨b, off, e2, Nat.lt_of_lt_of_le hlt hb.size, fun i hi => ⟨(hb.cell (p := ⟨b, _, none⟩) hlt).trans (hc i hi).1, (hb.cell (p := ⟨b, _, none⟩) hlt).trans (hc i hi).2.1, (hb.cell (p := ⟨b, _, none⟩) hlt).trans (hc i hi).2.2⟩⟩
/-- a block that holds the first k of gs, zeros behind -/
def HalfK (w : World) (B k : Nat) (gs : List (Int × Int × Int)) : Prop := ∀ i, i < gs.length → KCell w B 0 (if i < k then kAt gs i else (0, 0, 0)) i
theorem HalfK.set {w : World} {B k : Nat} {gs : List (Int × Int × Int)} (h : HalfK w B k gs) (hk : k < gs.length) : HalfK (((w.setCell ⟨B, k * 3, none⟩ (.int .i64 (kAt gs k).1)).setCell ⟨B, k * 3 + 1, none⟩ (.int .i64 (kAt gs k).2.1)).setCell ⟨B, k * 3 + 2, none⟩ (.int .u32 (kAt gs k).2.2)) B (k + 1) gs := by
  intro i hi
  have hi2 := h i hi
  unfold KCell at hi2 ⊢
  rw [Nat.zero_add] at hi2 ⊢
  by_cases e : i = k
  · subst e
    rw [if_pos (by omega)]
    exact ⟨(World.cell?_setCell_other _ _ _ _ (by simp)).trans ((World.cell?_setCell_other _ _ _ _ (by simp)).trans (World.cell?_setCell_same _ _ _ hi2.1)),
      (World.cell?_setCell_other _ _ _ _ (by simp)).trans (World.cell?_setCell_same _ _ _ ((World.cell?_setCell_other _ _ _ _ (by simp)).trans hi2.2.1)),
      World.cell?_setCell_same _ _ _ ((World.cell?_setCell_other _ _ _ _ (by simp)).trans ((World.cell?_setCell_other _ _ _ _ (by simp)).trans hi2.2.2))⟩
  · rw [show (if i < k + 1 then kAt gs i else (0, 0, 0)) = (if i < k then kAt gs i else (0, 0, 0)) by
      by_cases c : i < k
      · rw [if_pos c, if_pos (by omega)]
      · rw [if_neg c, if_neg (by omega)]]
    exact ⟨(World.cell?_setCell_other _ _ _ _ (by simp <;> omega)).trans ((World.cell?_setCell_other _ _ _ _ (by simp <;> omega)).trans ((World.cell?_setCell_other _ _ _ _ (by simp <;> omega)).trans hi2.1)),
      (World.cell?_setCell_other _ _ _ _ (by simp <;> omega)).trans ((World.cell?_setCell_other _ _ _ _ (by simp <;> omega)).trans ((World.cell?_setCell_other _ _ _ _ (by simp <;> omega)).trans hi2.2.1)),
      (World.cell?_setCell_other _ _ _ _ (by simp <;> omega)).trans ((World.cell?_setCell_other _ _ _ _ (by simp <;> omega)).trans ((World.cell?_setCell_other _ _ _ _ (by simp <;> omega)).trans hi2.2.2))⟩
theorem HalfK.below {w w' : World} {B k : Nat} {gs : List (Int × Int × Int)} (h : HalfK w B k gs) (hb : Below w.heap.size w w') (hB : B < w.heap.size) : HalfK w' B k gs :=
  fun i hi => ⟨(hb.cell (p := ⟨B, _, none⟩) hB).trans (h i hi).1, (hb.cell (p := ⟨B, _, none⟩) hB).trans (h i hi).2.1, (hb.cell (p := ⟨B, _, none⟩) hB).trans (h i hi).2.2⟩
theorem HalfK.done {w : World} {B cap : Nat} {gs : List (Int × Int × Int)} (h : HalfK w B gs.length gs) (hB : B < w.heap.size) (hc : gs.length ≤ cap) (hm : cap ≤ 9223372036854775807) : SlK w (.slice (some ⟨B, 0, none⟩) gs.length cap) gs :=
  ⟨_, _, rfl, hc, hm, fun _ => ⟨B, 0, rfl, hB, fun i hi => by have := h i hi; rw [if_pos hi] at this; exact this⟩⟩
theorem info_flagK : (Tryd.prog.info? 92).map (fun i => (i.zero, i.size, i.bytes)) = some (some (.agg #[.int .i64 0, .int .i64 0, .int .u32 0]), 3, 24) := by kernel_rfl
theorem madeK (w : World) (n B : Nat) (e : TypeId) (gs : List (Int × Int × Int)) (hB : B = w.heap.size) (hn : gs.length = n) : HalfK (w.alloc (.cells (madeCells #[.int .i64 0, .int .i64 0, .int .u32 0] (n * 3)) e)) B 0 gs := by
  intro i hi
  subst hB
  unfold KCell
  rw [World.cell?_alloc_new, World.cell?_alloc_new, World.cell?_alloc_new, Nat.zero_add, if_neg (by omega)]
  have h1 : i * 3 < n * 3 := by omega
  have h2 : i * 3 + 1 < n * 3 := by omega
  have h3 : i * 3 + 2 < n * 3 := by omega
  have m1 : i * 3 % 3 = 0 := by omega
  have m2 : (i * 3 + 1) % 3 = 1 := by omega
  have m3 : (i * 3 + 2) % 3 = 2 := by omega
  refine ⟨?_, ?_, ?_⟩
  · simp [madeCells, h1, m1]
  · simp [madeCells, h2, m2]
  · simp [madeCells, h3, m3]
section
variable (w : World)
theorem szk_ok (a : Option Addr) (l cap : Nat) (hl : l ≤ 1048576) :
    Calls Tryd.prog 122 #[.slice a l cap, .int .i64 1048576] w fun r w' => r = .returned (.int .i64 (1048576 - (l : Int))) ∧ w = w' := by
  go_enter Tryd.func122, Tryd.ntmps122
  go_wp2
  go_ret
  exact ⟨rfl, rfl⟩
theorem szk_long (a : Option Addr) (l cap : Nat) (hl : 1048576 < l) (hm : l ≤ 9223372036854775807) :
    Calls Tryd.prog 122 #[.slice a l cap, .int .i64 1048576] w fun r w' => r = .returned (.int .i64 (-1)) ∧ w = w' := by
  go_enter Tryd.func122, Tryd.ntmps122
  go_wp2
  go_ret
  exact ⟨rfl, rfl⟩
theorem toKs_empty (a : Option Addr) (cap : Nat) :
    Calls Tryd.prog 124 #[.slice a 0 cap] w fun r w' => (∃ v, r = .returned v ∧ SlK w' v []) ∧ Below w.heap.size w w' := by
  obtain ⟨i0, hi0, hz0, hs0, hb0⟩ := info_parts info_flagK
  have hmk : ∀ W : World, (Instr.makeSlice 105 (.int .i64 0) (.int .i64 0)).run Tryd.prog W = .ok (.slice (some ⟨W.heap.size, 0, none⟩) 0 0) (W.alloc (.cells (madeCells #[.int .i64 0, .int .i64 0, .int .u32 0] (0 * 3)) 92)) := fun W => by
    have hr := run_make (P := Tryd.prog) W 105 92 i0 (.agg #[.int .i64 0, .int .i64 0, .int .u32 0]) Tryd.underlying105 hi0 hz0 .i64 .i64 ((0 : Nat) : Int) ((0 : Nat) : Int) (by omega) (by omega) (by rw [hb0]; omega) (by omega)
    simp only [Int.toNat_natCast, hs0] at hr
    exact hr
  clear hi0 hz0 hs0 hb0
  go_enter Tryd.func124, Tryd.ntmps124
  go_wp2
  go_loopw [4] (fun i wr => i = .int .i64 0 ∧ Below w.heap.size w wr) (fun _ _ => 0)
  case atStart => exact ⟨rfl, by (repeat (first | exact Below.refl _ _ | assumption | refine bchain (by assumption) ?_ | refine balloc ?_ _ | apply Below.drew | apply below_drewN | (refine Below.alloc ?_ (by (try simp) <;> omega) _) | (refine Below.setCell ?_ (by (try simp) <;> omega) _)))⟩
  case round =>
    obtain ⟨rfl, hb⟩ := hrel
    go_wp2
    go_ret
    exact ⟨⟨_, rfl, _, _, rfl, by simp, by simp, fun c => absurd rfl c⟩, hb⟩
set_option maxHeartbeats 1000000 in
theorem toKs_some (b off cap : Nat) (gs : List (Int × Int × Int)) (h1 : 0 < gs.length) (h2 : gs.length ≤ cap) (hm : gs.length ≤ 1048576) (hb : b < w.heap.size) (hc : ∀ i, i < gs.length → KCell w b off (kAt gs i) i) :
    Calls Tryd.prog 124 #[.slice (some ⟨b, off, none⟩) gs.length cap] w fun r w' => (∃ v, r = .returned v ∧ SlK w' v gs) ∧ Below w.heap.size w w' := by
  obtain ⟨i0, hi0, hz0, hs0, hb0⟩ := info_parts info_flagK
  obtain ⟨O, hO⟩ : ∃ O, O = Obj.cells (madeCells #[.int .i64 0, .int .i64 0, .int .u32 0] (gs.length * 3)) 92 := ⟨_, rfl⟩
  obtain ⟨n, hn⟩ : ∃ n, n = gs.length := ⟨_, rfl⟩
  rw [← hn] at h1 h2 hm hO ⊢
  have hmk : ∀ W : World, (Instr.makeSlice 105 (.int .i64 n) (.int .i64 n)).run Tryd.prog W = .ok (.slice (some ⟨W.heap.size, 0, none⟩) n n) (W.alloc O) := fun W => by
    have hr := run_make (P := Tryd.prog) W 105 92 i0 (.agg #[.int .i64 0, .int .i64 0, .int .u32 0]) Tryd.underlying105 hi0 hz0 .i64 .i64 (n : Int) (n : Int) (by omega) (by omega) (by rw [hb0]; omega) (by omega)
    simp only [Int.toNat_natCast, hs0] at hr
    rw [hO]
    exact hr
  clear hi0 hz0 hs0 hb0
  replace hO := Lib.hid hO
  replace hn := Lib.hid hn
  replace hc := Lib.hid hc
  go_enter Tryd.func124, Tryd.ntmps124
  go_wp2
  go_loopw [4] (fun i wr => ∃ k : Nat, k ≤ n ∧ i = .int .i64 k ∧ HalfK wr w.heap.size k gs ∧ (∀ o, wr.frozen? ⟨w.heap.size, o, none⟩ = false) ∧ w.heap.size < wr.heap.size ∧ Below w.heap.size w wr) (fun i _ => n - (intOf i).toNat)
  case atStart => exact ⟨0, by omega, rfl, by rw [hO.out]; exact madeK _ _ _ _ _ rfl hn.out.symm, fun o => by rw [hO.out]; simp, by simp, by (repeat (first | exact Below.refl _ _ | assumption | refine bchain (by assumption) ?_ | refine balloc ?_ _ | apply Below.drew | apply below_drewN | (refine Below.alloc ?_ (by (try simp) <;> omega) _) | (refine Below.setCell ?_ (by (try simp) <;> omega) _)))⟩
  case round =>
    obtain ⟨k, hk, rfl, hh, hf, hz, hB⟩ := hrel
    by_cases hlt : k < n
    · have hg := hc.out k (by have := hn.out; omega)
      obtain ⟨x, y, z, hxy⟩ : ∃ x y z, kAt gs k = (x, y, z) := ⟨_, _, _, rfl⟩
      have hs0 : wr.cell? ⟨b, off + k * 3, none⟩ = some (.int .i64 x) := by rw [hB.cell (p := ⟨b, _, none⟩) hb, hg.1, hxy]
      have hs1 : wr.cell? ⟨b, off + k * 3 + 1, none⟩ = some (.int .i64 y) := by rw [hB.cell (p := ⟨b, _, none⟩) hb, hg.2.1, hxy]
      have hs2 : wr.cell? ⟨b, off + k * 3 + 2, none⟩ = some (.int .u32 z) := by rw [hB.cell (p := ⟨b, _, none⟩) hb, hg.2.2, hxy]
      have hset := Lib.hid (fun (W : World) (h : HalfK W w.heap.size k gs) => h.set (k := k) (by have := hn.out; omega))
      rw [hxy] at hset
      clear hg hxy
      replace hh := Lib.hid hh
      replace hf := Lib.hid hf
      go_wp2_with fail
      refine (toFlag_any _ x y z).mono ?_
      rintro r3 w3 ⟨rfl, hb3⟩
      have hh3 := hh.out.below hb3 hz
      have hz3 := Nat.lt_of_lt_of_le hz hb3.size
      have ht := hh3 k (by have := hn.out; omega)
      rw [if_neg (by omega)] at ht
      have t0 : w3.cell? ⟨w.heap.size, k * 3, none⟩ = some (.int .i64 0) := by have := ht.1; rwa [Nat.zero_add] at this
      have t1 : w3.cell? ⟨w.heap.size, k * 3 + 1, none⟩ = some (.int .i64 0) := by have := ht.2.1; rwa [Nat.zero_add] at this
      have t2 : w3.cell? ⟨w.heap.size, k * 3 + 2, none⟩ = some (.int .u32 0) := by have := ht.2.2; rwa [Nat.zero_add] at this
      have hf3 : ∀ o, w3.frozen? ⟨w.heap.size, o, none⟩ = false := fun o => (hb3.frozen (p := ⟨w.heap.size, o, none⟩) hz).trans (hf.out o)
      have f0 := hf3 (k * 3)
      have f1 := hf3 (k * 3 + 1)
      have f2 := hf3 (k * 3 + 2)
      have hn2 := Lib.hid (hset.out w3 hh3)
      replace hf3 := Lib.hid hf3
      clear hh3 ht
      go_wp2
      go_roundw
      case rel => exact ⟨k + 1, by omega, by go_num, hn2.out, fun o => by simp [hf3.out o], by simp; omega, by (repeat (first | exact Below.refl _ _ | assumption | refine bchain (by assumption) ?_ | refine balloc ?_ _ | apply Below.drew | apply below_drewN | (refine Below.alloc ?_ (by (try simp) <;> omega) _) | (refine Below.setCell ?_ (by (try simp) <;> omega) _)))⟩
      case measure => simp [intOf]; omega
    · have hd := decide_eq_false (show ¬ ((k : Int) < (n : Int)) by omega)
      obtain rfl : k = n := by omega
      replace hh := Lib.hid hh
      replace hf := Lib.hid hf
      go_wp2
      go_ret
      refine ⟨⟨_, rfl, ?_⟩, hB⟩
      have e := hn.out
      subst e
      exact HalfK.done hh.out hz (Nat.le_refl _) (by omega)
theorem toKs_any (v : Value) (gs : List (Int × Int × Int)) (h : SlK w v gs) (hm : gs.length ≤ 1048576) :
    Calls Tryd.prog 124 #[v] w fun r w' => (∃ u, r = .returned u ∧ SlK w' u gs) ∧ Below w.heap.size w w' := by
  obtain ⟨a, cap, rfl, h1, h2, h3⟩ := h
  cases gs with
  | nil => exact toKs_empty w a cap
  | cons z zs =>
    obtain ⟨b, off, rfl, hb, hc⟩ := h3 (by simp)
    exact toKs_some w b off cap (z :: zs) (by simp) h1 hm hb hc
theorem eqKs_empty (a a' : Option Addr) (cap cap' : Nat) :
    Calls Tryd.prog 127 #[.slice a 0 cap, .slice a' 0 cap'] w fun r w' => r = .returned (.bool true) ∧ Below w.heap.size w w' := by
  go_enter Tryd.func127, Tryd.ntmps127
  go_wp2
  go_loopw [5] (fun i wr => i = .int .i64 0 ∧ Below w.heap.size w wr) (fun _ _ => 0)
  case atStart => exact ⟨rfl, by (repeat (first | exact Below.refl _ _ | assumption | refine bchain (by assumption) ?_ | refine balloc ?_ _ | apply Below.drew | apply below_drewN | (refine Below.alloc ?_ (by (try simp) <;> omega) _) | (refine Below.setCell ?_ (by (try simp) <;> omega) _)))⟩
  case round =>
    obtain ⟨rfl, hb⟩ := hrel
    go_wp2
    go_ret
    exact ⟨rfl, hb⟩
set_option maxHeartbeats 1000000 in
theorem eqKs_some (b off cap b' off' cap' : Nat) (gs : List (Int × Int × Int)) (h1 : 0 < gs.length) (hm : gs.length ≤ 1048576) (hb : b < w.heap.size) (hb' : b' < w.heap.size)
    (hc : ∀ i, i < gs.length → KCell w b off (kAt gs i) i) (hc' : ∀ i, i < gs.length → KCell w b' off' (kAt gs i) i) :
    Calls Tryd.prog 127 #[.slice (some ⟨b, off, none⟩) gs.length cap, .slice (some ⟨b', off', none⟩) gs.length cap'] w fun r w' => r = .returned (.bool true) ∧ Below w.heap.size w w' := by
  obtain ⟨n, hn⟩ : ∃ n, n = gs.length := ⟨_, rfl⟩
  rw [← hn] at h1 hm ⊢
  replace hn := Lib.hid hn
  replace hc := Lib.hid hc
  replace hc' := Lib.hid hc'
  go_enter Tryd.func127, Tryd.ntmps127
  go_wp2
  go_loopw [5] (fun i wr => ∃ k : Nat, k ≤ n ∧ i = .int .i64 k ∧ Below w.heap.size w wr) (fun i _ => n - (intOf i).toNat)
  case atStart => exact ⟨0, by omega, rfl, by (repeat (first | exact Below.refl _ _ | assumption | refine bchain (by assumption) ?_ | refine balloc ?_ _ | apply Below.drew | apply below_drewN | (refine Below.alloc ?_ (by (try simp) <;> omega) _) | (refine Below.setCell ?_ (by (try simp) <;> omega) _)))⟩
  case round =>
    obtain ⟨k, hk, rfl, hB⟩ := hrel
    by_cases hlt : k < n
    · have hg := hc.out k (by have := hn.out; omega)
      have hg' := hc'.out k (by have := hn.out; omega)
      obtain ⟨x, y, z, hxy⟩ : ∃ x y z, kAt gs k = (x, y, z) := ⟨_, _, _, rfl⟩
      have s0 : wr.cell? ⟨b, off + k * 3, none⟩ = some (.int .i64 x) := by rw [hB.cell (p := ⟨b, _, none⟩) hb, hg.1, hxy]
      have s1 : wr.cell? ⟨b, off + k * 3 + 1, none⟩ = some (.int .i64 y) := by rw [hB.cell (p := ⟨b, _, none⟩) hb, hg.2.1, hxy]
      have s2 : wr.cell? ⟨b, off + k * 3 + 2, none⟩ = some (.int .u32 z) := by rw [hB.cell (p := ⟨b, _, none⟩) hb, hg.2.2, hxy]
      have t0 : wr.cell? ⟨b', off' + k * 3, none⟩ = some (.int .i64 x) := by rw [hB.cell (p := ⟨b', _, none⟩) hb', hg'.1, hxy]
      have t1 : wr.cell? ⟨b', off' + k * 3 + 1, none⟩ = some (.int .i64 y) := by rw [hB.cell (p := ⟨b', _, none⟩) hb', hg'.2.1, hxy]
      have t2 : wr.cell? ⟨b', off' + k * 3 + 2, none⟩ = some (.int .u32 z) := by rw [hB.cell (p := ⟨b', _, none⟩) hb', hg'.2.2, hxy]
      have hE := Lib.hid (eqFlag_any wr.drew x y z)
      have hk1 : (k : Int) < (n : Int) := by omega
      clear hg hg' hxy
      go_wp2
      go_still_tail 8, (by kernel_rfl)
      change wpList _ _ _ _ _ wr.drew
      go_wp2_with (go_at_call 121; refine (hE.out).mono ?_; rintro r3 w3 ⟨rfl, hb3⟩)
      go_roundw
      case rel => exact ⟨k + 1, by omega, by go_num, by (repeat (first | exact Below.refl _ _ | assumption | refine bchain (by assumption) ?_ | refine balloc ?_ _ | apply Below.drew | apply below_drewN | (refine Below.alloc ?_ (by (try simp) <;> omega) _) | (refine Below.setCell ?_ (by (try simp) <;> omega) _)))⟩
      case measure => simp [intOf]; omega
    · have hd := decide_eq_false (show ¬ ((k : Int) < (n : Int)) by omega)
      go_wp2
      go_ret
      exact ⟨rfl, hB⟩
theorem eqKs_any (u v : Value) (gs : List (Int × Int × Int)) (h : SlK w u gs) (h' : SlK w v gs) (hm : gs.length ≤ 1048576) :
    Calls Tryd.prog 127 #[u, v] w fun r w' => r = .returned (.bool true) ∧ Below w.heap.size w w' := by
  obtain ⟨a, cap, rfl, h1, h2, h3⟩ := h
  obtain ⟨a', cap', rfl, h1', h2', h3'⟩ := h'
  cases gs with
  | nil => exact eqKs_empty w a a' cap cap'
  | cons z zs =>
    obtain ⟨b, off, rfl, hb, hc⟩ := h3 (by simp)
    obtain ⟨b', off', rfl, hb', hc'⟩ := h3' (by simp)
    exact eqKs_some w b off cap b' off' cap' (z :: zs) (by simp) hm hb hb' hc hc'
end
end Go.Proofs.YtiedombphcdpbaaDoor
/-
  LISTS OF FLAGS: which are valid: the program's word.
-/
namespace Go.Proofs.YtiedombphcdpbaaDoor
open Go.RowKit
set_option maxRecDepth 100000

def LiesK (w : World) (a : Option Addr) (gs : List (Int × Int × Int)) : Prop := ∀ i, i < gs.length → ∃ b off, a = some ⟨b, off, none⟩ ∧ b < w.heap.size ∧ KCell w b off (kAt gs i) i
theorem SlK.lies {w : World} {v : Value} {gs : List (Int × Int × Int)} (h : SlK w v gs) : ∃ a cap, v = .slice a gs.length cap ∧ LiesK w a gs := by
  obtain ⟨a, cap, e, _, _, h3⟩ := h
  refine ⟨a, cap, e, fun i hi => ?_⟩
  obtain ⟨b, off, e2, hlt, hc⟩ := h3 (by intro c; rw [c] at hi; simp at hi)
  exact ⟨b, off, e2, hlt, hc i hi⟩
theorem LiesK.below {w w' : World} {a : Option Addr} {gs : List (Int × Int × Int)} (h : LiesK w a gs) (hb : Below w.heap.size w w') : LiesK w' a gs := fun i hi => by
  obtain ⟨b, off, e, hlt, hc⟩ := h i hi
  exact ⟨b, off, e, Nat.lt_of_lt_of_le hlt hb.size, (hb.cell (p := ⟨b, _, none⟩) hlt).trans hc.1, (hb.cell (p := ⟨b, _, none⟩) hlt).trans hc.2.1, (hb.cell (p := ⟨b, _, none⟩) hlt).trans hc.2.2⟩
def KV (gs : List (Int × Int × Int)) (i : Nat) : Prop := VK (kAt gs i).1 (kAt gs i).2.1 (kAt gs i).2.2
def AllK (gs : List (Int × Int × Int)) : Prop := ∀ i, i < gs.length → KV gs i
def BdK (gs : List (Int × Int × Int)) : Prop := ∀ i, i < gs.length → 0 ≤ (kAt gs i).2.2 ∧ (kAt gs i).2.2 < 4294967296
theorem not_allK {gs : List (Int × Int × Int)} (h : ¬ AllK gs) : ∃ m, m < gs.length ∧ (∀ k, k < m → KV gs k) ∧ ¬ KV gs m := by
  have : ∀ m, m ≤ gs.length → (∀ k, k < m → KV gs k) ∨ ∃ m', m' < gs.length ∧ (∀ k, k < m' → KV gs k) ∧ ¬ KV gs m' := by
    intro m
    induction m with
    | zero => intro _; exact .inl (fun k hk => by omega)
    | succ m ih =>
      intro hm
      rcases ih (by omega) with h1 | h1
      · by_cases hf : KV gs m
        · refine .inl (fun k hk => ?_)
          by_cases e : k = m
          · rw [e]; exact hf
          · exact h1 k (by omega)
        · exact .inr ⟨m, by omega, h1, hf⟩
      · exact .inr h1
  rcases this gs.length (Nat.le_refl _) with h1 | h1
  · exact absurd h1 h
  · exact h1
/-- a valid flag of a list, in natural numbers -/
theorem kv_nat {gs : List (Int × Int × Int)} {i : Nat} (h : KV gs i) : ∃ x y z : Nat, kAt gs i = ((x : Int), (y : Int), (z : Int)) ∧ VK x y z := by
  unfold KV at h
  refine ⟨(kAt gs i).1.toNat, (kAt gs i).2.1.toNat, (kAt gs i).2.2.toNat, ?_, ?_⟩
  · have h1 := h.2.1; have h2 := h.1.1; have h3 := h.1.2.2.1
    apply Prod.ext
    · show (kAt gs i).1 = (((kAt gs i).1.toNat : Nat) : Int); omega
    · apply Prod.ext
      · show (kAt gs i).2.1 = (((kAt gs i).2.1.toNat : Nat) : Int); omega
      · show (kAt gs i).2.2 = (((kAt gs i).2.2.toNat : Nat) : Int); omega
  · have h1 := h.2.1; have h2 := h.1.1; have h3 := h.1.2.2.1
    rw [show (((kAt gs i).1.toNat : Nat) : Int) = (kAt gs i).1 by omega, show (((kAt gs i).2.1.toNat : Nat) : Int) = (kAt gs i).2.1 by omega, show (((kAt gs i).2.2.toNat : Nat) : Int) = (kAt gs i).2.2 by omega]
    exact h
section
variable (w : World)
theorem avk_t (a : Option Addr) (cap : Nat) (gs : List (Int × Int × Int)) (hm : gs.length ≤ 1048576) (hc : LiesK w a gs) (hV : AllK gs) :
    Calls Tryd.prog 125 #[.slice a gs.length cap] w fun r w' => r = .returned (.bool true) ∧ Below w.heap.size w w' := by
  obtain ⟨n, hn⟩ : ∃ n, n = gs.length := ⟨_, rfl⟩
  rw [← hn] at hm ⊢
  replace hc := Lib.hid hc
  replace hV := Lib.hid hV
  replace hn := Lib.hid hn
  go_enter Tryd.func125, Tryd.ntmps125
  go_wp2
  go_loopw [4, 7] (fun _ i wr => ∃ k : Nat, k ≤ n ∧ i = .int .i64 k ∧ Below w.heap.size w wr) (fun _ i _ => n - (intOf i).toNat)
  case atStart => exact ⟨0, by omega, rfl, by (repeat (first | exact Below.refl _ _ | assumption | refine bchain (by assumption) ?_ | refine balloc ?_ _ | apply Below.drew | apply below_drewN | (refine Below.alloc ?_ (by (try simp) <;> omega) _) | (refine Below.setCell ?_ (by (try simp) <;> omega) _)))⟩
  case round =>
    obtain ⟨k, hk, rfl, hB⟩ := hrel
    by_cases hlt : k < n
    · obtain ⟨b, off, rfl, hb, hg⟩ := hc.out k (by have := hn.out; omega)
      have hv : KV gs k := hV.out k (by have := hn.out; omega)
      unfold KV at hv
      obtain ⟨x, y, z, hxy⟩ : ∃ x y z, kAt gs k = (x, y, z) := ⟨_, _, _, rfl⟩
      rw [hxy] at hv
      have s0 : wr.cell? ⟨b, off + k * 3, none⟩ = some (.int .i64 x) := by rw [hB.cell (p := ⟨b, _, none⟩) hb, hg.1, hxy]
      have s1 : wr.cell? ⟨b, off + k * 3 + 1, none⟩ = some (.int .i64 y) := by rw [hB.cell (p := ⟨b, _, none⟩) hb, hg.2.1, hxy]
      have s2 : wr.cell? ⟨b, off + k * 3 + 2, none⟩ = some (.int .u32 z) := by rw [hB.cell (p := ⟨b, _, none⟩) hb, hg.2.2, hxy]
      have hC := Lib.hid (fun W => ivk_t W x y z hv)
      have hkn : (k : Int) < (n : Int) := by omega
      clear hg hxy hv
      go_wp2_with fail
      refine (hC.out _).mono ?_
      rintro r3 w3 ⟨rfl, hb3⟩
      go_wp2
      go_roundw
      case rel => exact ⟨k + 1, by omega, by go_num, by (repeat (first | exact Below.refl _ _ | assumption | refine bchain (by assumption) ?_ | refine balloc ?_ _ | apply Below.drew | apply below_drewN | (refine Below.alloc ?_ (by (try simp) <;> omega) _) | (refine Below.setCell ?_ (by (try simp) <;> omega) _)))⟩
      case measure => simp [intOf]; omega
    · have hd := decide_eq_false (show ¬ ((k : Int) < (n : Int)) by omega)
      go_wp2
      go_ret
      exact ⟨rfl, hB⟩
theorem avk_f (a : Option Addr) (cap : Nat) (gs : List (Int × Int × Int)) (hm : gs.length ≤ 1048576) (hc : LiesK w a gs) (hbd : BdK gs) (m : Nat) (hm2 : m < gs.length) (hV : ∀ k, k < m → KV gs k) (hbad : ¬ KV gs m) :
    Calls Tryd.prog 125 #[.slice a gs.length cap] w fun r w' => r = .returned (.bool false) ∧ Below w.heap.size w w' := by
  obtain ⟨n, hn⟩ : ∃ n, n = gs.length := ⟨_, rfl⟩
  rw [← hn] at hm hm2 ⊢
  replace hc := Lib.hid hc
  replace hV := Lib.hid hV
  replace hbd := Lib.hid hbd
  replace hn := Lib.hid hn
  replace hbad := Lib.hid hbad
  go_enter Tryd.func125, Tryd.ntmps125
  go_wp2
  go_loopw [4, 7] (fun _ i wr => ∃ k : Nat, k ≤ m ∧ i = .int .i64 k ∧ Below w.heap.size w wr) (fun _ i _ => n - (intOf i).toNat)
  case atStart => exact ⟨0, by omega, rfl, by (repeat (first | exact Below.refl _ _ | assumption | refine bchain (by assumption) ?_ | refine balloc ?_ _ | apply Below.drew | apply below_drewN | (refine Below.alloc ?_ (by (try simp) <;> omega) _) | (refine Below.setCell ?_ (by (try simp) <;> omega) _)))⟩
  case round =>
    obtain ⟨k, hk, rfl, hB⟩ := hrel
    obtain ⟨b, off, rfl, hb, hg⟩ := hc.out k (by have := hn.out; omega)
    obtain ⟨x, y, z, hxy⟩ : ∃ x y z, kAt gs k = (x, y, z) := ⟨_, _, _, rfl⟩
    have s0 : wr.cell? ⟨b, off + k * 3, none⟩ = some (.int .i64 x) := by rw [hB.cell (p := ⟨b, _, none⟩) hb, hg.1, hxy]
    have s1 : wr.cell? ⟨b, off + k * 3 + 1, none⟩ = some (.int .i64 y) := by rw [hB.cell (p := ⟨b, _, none⟩) hb, hg.2.1, hxy]
    have s2 : wr.cell? ⟨b, off + k * 3 + 2, none⟩ = some (.int .u32 z) := by rw [hB.cell (p := ⟨b, _, none⟩) hb, hg.2.2, hxy]
    have hkn : (k : Int) < (n : Int) := by omega
    by_cases hlt : k < m
    · have hv : KV gs k := hV.out k hlt
      unfold KV at hv
      rw [hxy] at hv
      have hC := Lib.hid (fun W => ivk_t W x y z hv)
      clear hg hxy hv
      go_wp2_with fail
      refine (hC.out _).mono ?_
      rintro r3 w3 ⟨rfl, hb3⟩
      go_wp2
      go_roundw
      case rel => exact ⟨k + 1, by omega, by go_num, by (repeat (first | exact Below.refl _ _ | assumption | refine bchain (by assumption) ?_ | refine balloc ?_ _ | apply Below.drew | apply below_drewN | (refine Below.alloc ?_ (by (try simp) <;> omega) _) | (refine Below.setCell ?_ (by (try simp) <;> omega) _)))⟩
      case measure => simp [intOf]; omega
    · obtain rfl : k = m := by omega
      have hv := hbad.out
      have hbk := hbd.out k (by have := hn.out; omega)
      unfold KV at hv
      rw [hxy] at hv hbk
      have hC := Lib.hid (fun W => ivk_f W x y z hbk.2 hbk.1 hv)
      clear hg hxy hv hbk
      go_wp2_with fail
      refine (hC.out _).mono ?_
      rintro r3 w3 ⟨rfl, hb3⟩
      go_wp2
      go_ret
      exact ⟨rfl, by (repeat (first | exact Below.refl _ _ | assumption | refine bchain (by assumption) ?_ | refine balloc ?_ _ | apply Below.drew | apply below_drewN | (refine Below.alloc ?_ (by (try simp) <;> omega) _) | (refine Below.setCell ?_ (by (try simp) <;> omega) _)))⟩
end
end Go.Proofs.YtiedombphcdpbaaDoor
/-
  BLOCKS: opened to their cells, counted, copied, held against each other.
-/
namespace Go.Proofs.YtiedombphcdpbaaDoor.Fr
open Go.ChangeShapes Go.WideShapes Go.ChangeAt Go.RowKit Go.Deep
set_option maxRecDepth 100000
/-- a list of rows whose cells lie in a block that an older world does not have -/
def NewM (w0 : World) (u : Value) (m : List (List (Int × Int))) : Prop := ∀ a l c, u = .slice a l c → m ≠ [] → ∀ b off, a = some ⟨b, off, none⟩ → w0.heap.size ≤ b
theorem newM_here {w : World} {m : List (List (Int × Int))} {l c : Nat} : NewM w (.slice (some ⟨w.heap.size, 0, none⟩) l c) m := fun _ _ _ e _ b off h => by
  cases e
  cases h
  exact Nat.le_refl _
theorem NewM.mono {w0 w1 : World} {u : Value} {m : List (List (Int × Int))} (h : NewM w1 u m) (hz : w0.heap.size ≤ w1.heap.size) : NewM w0 u m := fun a l c e hm b off hb => Nat.le_trans hz (h a l c e hm b off hb)
theorem SlM.setCell {w0 w : World} {u : Value} {m : List (List (Int × Int))} {B o : Nat} {x : Value} {a0 : Option Addr} {l0 c0 : Nat} (h : SlM w u m) (hn : NewM w0 u m) (hB : B < w0.heap.size) (hc0 : w.cell? ⟨B, o, none⟩ = some (.slice a0 l0 c0)) : SlM (w.setCell ⟨B, o, none⟩ x) u m := by
  obtain ⟨a, cap, e, h1, h2, h3⟩ := h
  refine ⟨a, cap, e, h1, h2, fun hz => ?_⟩
  obtain ⟨b, off, e2, hlt, hc⟩ := h3 hz
  have hb := hn a _ cap e hz b off e2
  refine ⟨b, off, e2, by simpa using hlt, fun i hi => ?_⟩
  obtain ⟨r, hr, hS⟩ := hc i hi
  exact ⟨r, (World.cell?_setCell_other _ _ _ _ (by simp <;> omega)).trans hr, hS.setCell hc0⟩
theorem open_msR {H : Type} {enc : TypeId × Value → H} {W : World} {fuel : Nat} {v : Value} {x : DataW H × List MemPlace} (hf : DataW.trod enc Tryd.prog W 0 (fun _ => true) true fuel 22 [v] = some x) :
    ∃ m : List (List (Int × Int)), SlM W v m := by
  rcases open_slice1 Tryd.underlying22 (by kernel_rfl) hf with ⟨hcs, hx⟩ | ⟨a, len', cap', m, n, V, D, Pl, hcs, _, hl, hm, hmm, hx, hi⟩
  · cases hcs
    exact ⟨[], ⟨none, 0, rfl, by simp, by simp, fun c => absurd rfl c⟩⟩
  · cases hcs
    simp only [if_true] at hmm
    have hel : ∀ i, i < len' → ∃ r : List (Int × Int), W.cell? (a.add i) = some (V i) ∧ SlG W (V i) r := fun i hi2 => by
      obtain ⟨h0, h1⟩ := hi i (by omega)
      obtain ⟨r, hr⟩ := open_fs_core h1
      exact ⟨r, h0, hr⟩
    obtain ⟨R, hR⟩ := choose_lt (α := List (Int × Int)) (p := fun i r => W.cell? (a.add i) = some (V i) ∧ SlG W (V i) r) hel
    refine ⟨(List.range len').map R, ⟨some a, cap', by simp, by simpa using hl, by unfold maxLen at hm; omega, fun hne => ?_⟩⟩
    have hlen : 0 < len' := by
      rcases Nat.eq_zero_or_pos len' with h0 | h0
      · subst h0; exact absurd rfl hne
      · exact h0
    obtain ⟨b, off, spot⟩ := a
    have hspot : spot = none := by simpa [Addr.add] using World.cell?_spot (hR 0 hlen).1
    subst hspot
    refine ⟨b, off, rfl, World.block_lt_of_cell? W _ (hR 0 hlen).1, fun i hi2 => ?_⟩
    rw [List.length_map, List.length_range] at hi2
    have h0 := hR i hi2
    unfold Row rAt
    rw [List.getElem?_map, List.getElem?_range hi2]
    rw [add_plain] at h0
    exact ⟨V i, h0.1, h0.2⟩
section
variable (w : World)
theorem toMn_empty (a : Option Addr) (cap : Nat) :
    Calls Tryd.prog 9 #[.slice a 0 cap] w fun r w' => (∃ v, r = .returned v ∧ SlM w' v [] ∧ NewM w v []) ∧ Below w.heap.size w w' := by
  obtain ⟨i0, hi0, hz0, hs0, hb0⟩ := info_parts info_row
  have hmk : ∀ W : World, (Instr.makeSlice 25 (.int .i64 0) (.int .i64 0)).run Tryd.prog W = .ok (.slice (some ⟨W.heap.size, 0, none⟩) 0 0) (W.alloc (.cells (madeCells #[.slice none 0 0] (0 * 1)) 60)) := fun W => by
    have hr := run_make (P := Tryd.prog) W 25 60 i0 (.slice none 0 0) Tryd.underlying25 hi0 hz0 .i64 .i64 ((0 : Nat) : Int) ((0 : Nat) : Int) (by omega) (by omega) (by rw [hb0]; omega) (by omega)
    simp only [Int.toNat_natCast, hs0] at hr
    exact hr
  clear hi0 hz0 hs0 hb0
  go_enter Tryd.func9, Tryd.ntmps9
  go_wp2
  go_loopw [4] (fun i wr => i = .int .i64 0 ∧ Below w.heap.size w wr) (fun _ _ => 0)
  case atStart => exact ⟨rfl, by (repeat (first | exact Below.refl _ _ | assumption | refine bchain (by assumption) ?_ | refine balloc ?_ _ | apply Below.drew | apply below_drewN | (refine Below.alloc ?_ (by (try simp) <;> omega) _) | (refine Below.setCell ?_ (by (try simp) <;> omega) _)))⟩
  case round =>
    obtain ⟨rfl, hb⟩ := hrel
    go_wp2
    go_ret
    exact ⟨⟨_, rfl, ⟨_, _, rfl, by simp, by simp, fun c => absurd rfl c⟩, fun _ _ _ _ c => absurd rfl c⟩, hb⟩
set_option maxHeartbeats 1000000 in
theorem toMn_some (b off cap : Nat) (m : List (List (Int × Int))) (h1 : 0 < m.length) (h2 : m.length ≤ cap) (hm : m.length ≤ 1048576) (hr : ∀ i, i < m.length → (rAt m i).length ≤ 1048576) (hb : b < w.heap.size) (hc : ∀ i, i < m.length → Row w b off (rAt m i) i) :
    Calls Tryd.prog 9 #[.slice (some ⟨b, off, none⟩) m.length cap] w fun r w' => (∃ v, r = .returned v ∧ SlM w' v m ∧ NewM w v m) ∧ Below w.heap.size w w' := by
  obtain ⟨i0, hi0, hz0, hs0, hb0⟩ := info_parts info_row
  obtain ⟨O, hO⟩ : ∃ O, O = Obj.cells (madeCells #[.slice none 0 0] (m.length * 1)) 60 := ⟨_, rfl⟩
  obtain ⟨n, hn⟩ : ∃ n, n = m.length := ⟨_, rfl⟩
  rw [← hn] at h1 h2 hm hO hr ⊢
  have hmk : ∀ W : World, (Instr.makeSlice 25 (.int .i64 n) (.int .i64 n)).run Tryd.prog W = .ok (.slice (some ⟨W.heap.size, 0, none⟩) n n) (W.alloc O) := fun W => by
    have hr := run_make (P := Tryd.prog) W 25 60 i0 (.slice none 0 0) Tryd.underlying25 hi0 hz0 .i64 .i64 (n : Int) (n : Int) (by omega) (by omega) (by rw [hb0]; omega) (by omega)
    simp only [Int.toNat_natCast, hs0] at hr
    rw [hO]
    exact hr
  clear hi0 hz0 hs0 hb0
  replace hO := Lib.hid hO
  replace hn := Lib.hid hn
  replace hc := Lib.hid hc
  replace hr := Lib.hid hr
  go_enter Tryd.func9, Tryd.ntmps9
  go_wp2
  go_loopw [4] (fun i wr => ∃ k : Nat, k ≤ n ∧ i = .int .i64 k ∧ HalfM wr w.heap.size k m ∧ (∀ o, wr.frozen? ⟨w.heap.size, o, none⟩ = false) ∧ w.heap.size < wr.heap.size ∧ Below w.heap.size w wr) (fun i _ => n - (intOf i).toNat)
  case atStart => exact ⟨0, by omega, rfl, by rw [hO.out]; exact madeM _ _ _ _ _ rfl hn.out.symm, fun o => by rw [hO.out]; simp, by simp, by (repeat (first | exact Below.refl _ _ | assumption | refine bchain (by assumption) ?_ | refine balloc ?_ _ | apply Below.drew | apply below_drewN | (refine Below.alloc ?_ (by (try simp) <;> omega) _) | (refine Below.setCell ?_ (by (try simp) <;> omega) _)))⟩
  case round =>
    obtain ⟨k, hk, rfl, hh, hf, hz, hB⟩ := hrel
    by_cases hlt : k < n
    · obtain ⟨u, hu, hSu⟩ := hc.out k (by have := hn.out; omega)
      have s0 : wr.cell? ⟨b, off + k, none⟩ = some u := (hB.cell (p := ⟨b, _, none⟩) hb).trans hu
      have hT := Lib.hid (toGs_any wr u (rAt m k) (hSu.below hB) (hr.out k hlt))
      have hset := Lib.hid (fun (W : World) (v : Value) (h : HalfM W w.heap.size k m) (hv : SlG W v (rAt m k)) => h.set (k := k) (by have := hn.out; omega) hv)
      obtain ⟨a2, c2, rfl, _⟩ := hSu
      obtain ⟨l, hl2⟩ : ∃ l, (rAt m k).length = l := ⟨_, rfl⟩
      rw [hl2] at hT s0
      clear hu hl2
      replace hh := Lib.hid hh
      replace hf := Lib.hid hf
      go_wp2_with fail
      refine hT.out.mono ?_
      rintro r3 w3 ⟨⟨v3, rfl, hv3⟩, hb3⟩
      have hh3 := hh.out.below hb3 hz
      have hz3 := Nat.lt_of_lt_of_le hz hb3.size
      have ht := hh3 k (by have := hn.out; omega)
      rw [if_neg (by omega)] at ht
      have hf3 : ∀ o, w3.frozen? ⟨w.heap.size, o, none⟩ = false := fun o => (hb3.frozen (p := ⟨w.heap.size, o, none⟩) hz).trans (hf.out o)
      have f0 := hf3 k
      have hn2 := Lib.hid (hset.out w3 v3 hh3 hv3)
      replace hf3 := Lib.hid hf3
      obtain ⟨a4, c4, rfl, _⟩ := hv3
      clear hh3
      go_wp2
      go_roundw
      case rel => exact ⟨k + 1, by omega, by go_num, hn2.out, fun o => by simp [hf3.out o], by simp; omega, by (repeat (first | exact Below.refl _ _ | assumption | refine bchain (by assumption) ?_ | refine balloc ?_ _ | apply Below.drew | apply below_drewN | (refine Below.alloc ?_ (by (try simp) <;> omega) _) | (refine Below.setCell ?_ (by (try simp) <;> omega) _)))⟩
      case measure => simp [intOf]; omega
    · have hd := decide_eq_false (show ¬ ((k : Int) < (n : Int)) by omega)
      obtain rfl : k = n := by omega
      replace hh := Lib.hid hh
      replace hf := Lib.hid hf
      go_wp2
      go_ret
      refine ⟨⟨_, rfl, ?_, newM_here⟩, hB⟩
      have e := hn.out
      subst e
      exact HalfM.done hh.out hz (Nat.le_refl _) (by omega)
theorem toMn_any (v : Value) (m : List (List (Int × Int))) (h : SlM w v m) (hm : m.length ≤ 1048576) (hr : ∀ i, i < m.length → (rAt m i).length ≤ 1048576) :
    Calls Tryd.prog 9 #[v] w fun r w' => (∃ u, r = .returned u ∧ SlM w' u m ∧ NewM w u m) ∧ Below w.heap.size w w' := by
  obtain ⟨a, cap, rfl, h1, h2, h3⟩ := h
  cases m with
  | nil => exact toMn_empty w a cap
  | cons z zs =>
    obtain ⟨b, off, rfl, hb, hc⟩ := h3 (by simp)
    exact toMn_some w b off cap (z :: zs) (by simp) h1 hm hr hb hc
end
end Go.Proofs.YtiedombphcdpbaaDoor.Fr
namespace Go.Proofs.YtiedombphcdpbaaDoor
open Go.ChangeShapes Go.WideShapes Go.ChangeAt Go.RowKit Go.Deep
set_option maxRecDepth 100000
theorem SlK.setCell {w : World} {u : Value} {r : List (Int × Int × Int)} {B o : Nat} {x : Value} {a0 : Option Addr} {l0 c0 : Nat} (h : SlK w u r) (hc0 : w.cell? ⟨B, o, none⟩ = some (.slice a0 l0 c0)) : SlK (w.setCell ⟨B, o, none⟩ x) u r := by
  obtain ⟨a, cap, e, h1, h2, h3⟩ := h
  refine ⟨a, cap, e, h1, h2, fun hz => ?_⟩
  obtain ⟨b, off, e2, hlt, hc⟩ := h3 hz
  refine ⟨b, off, e2, by simpa using hlt, fun i hi => ?_⟩
  have hi2 := hc i hi
  have hne : ∀ j (v : Value), v.ownBlock = none → w.cell? ⟨b, j, none⟩ = some v → (∀ a l c, v ≠ .slice a l c) → (w.setCell ⟨B, o, none⟩ x).cell? ⟨b, j, none⟩ = some v := fun j v _ hj hv => by
    refine (World.cell?_setCell_other _ _ _ _ ?_).trans hj
    intro he
    rw [← he, hc0] at hj
    cases hj
    exact hv _ _ _ rfl
  exact ⟨hne _ _ rfl hi2.1 (fun _ _ _ h => by cases h), hne _ _ rfl hi2.2.1 (fun _ _ _ h => by cases h), hne _ _ rfl hi2.2.2 (fun _ _ _ h => by cases h)⟩
theorem open_ksR {H : Type} {enc : TypeId × Value → H} {W : World} {fuel : Nat} {v : Value} {x : DataW H × List MemPlace} (hf : DataW.trod enc Tryd.prog W 0 (fun _ => true) true fuel 140 [v] = some x) :
    ∃ gs : List (Int × Int × Int), SlK W v gs ∧ BdK gs := by
  rcases open_slice Tryd.underlying140 hf with ⟨hcs, hx⟩ | ⟨a, len', cap', m, n, D, Pl, hcs, _, hl, hm, hmm, hx, hi⟩
  · cases hcs
    exact ⟨[], ⟨none, 0, rfl, by simp, by simp, fun c => absurd rfl c⟩, fun i hi => by simp at hi⟩
  · cases hcs
    simp only [if_true] at hmm
    have hel : ∀ i, i < len' → ∃ x y z : Int, W.cell? (a.add (i * 3)) = some (.int .i64 x) ∧ W.cell? (a.add (i * 3 + 1)) = some (.int .i64 y) ∧ W.cell? (a.add (i * 3 + 2)) = some (.int .u32 z) ∧ (Lit.int .u32 z).wf = true := fun i hi2 => by
      obtain ⟨cs', h1, h2⟩ := hi i (by omega)
      rw [cellsLK] at h1
      obtain ⟨_, hlen, hcell⟩ := World.cells?_some h1
      match cs', hlen with
      | [v0, v1, v2], _ =>
        have e0 := hcell 0 (by omega)
        have e1 := hcell 1 (by omega)
        have e2 := hcell 2 (by omega)
        rw [add_add] at e0 e1 e2
        obtain ⟨y0, y1, n1, _, _, t0, t1⟩ := trod_struct2 Tryd.underlying131 h2
        obtain ⟨z0, z1, n2, _, _, g0, g1⟩ := trod_struct2 Tryd.underlying31 t1
        simp only [cellsKI, cellsKU, cellsLG] at t0 g0 g1
        obtain ⟨x, c0, _, _⟩ := DataW.trod_int Tryd.underlying2 t0
        obtain ⟨y, c1, _, _⟩ := DataW.trod_int Tryd.underlying2 g0
        obtain ⟨z, c2, _, wz⟩ := DataW.trod_int Tryd.underlying29 g1
        simp at c0 c1 c2
        subst c0 c1 c2
        exact ⟨x, y, z, by simpa using e0, by simpa using e1, by simpa using e2, wz⟩
    refine ⟨(List.range len').map fun i => ((W.cell? (a.add (i * 3))).elim 0 intOf, (W.cell? (a.add (i * 3 + 1))).elim 0 intOf, (W.cell? (a.add (i * 3 + 2))).elim 0 intOf), ⟨some a, cap', by simp, by simpa using hl, by unfold maxLen at hm; omega, fun hne => ?_⟩, fun i hi2 => ?_⟩
    · have hlen : 0 < len' := by
        rcases Nat.eq_zero_or_pos len' with h0 | h0
        · subst h0; exact absurd rfl hne
        · exact h0
      obtain ⟨b, off, spot⟩ := a
      have hspot : spot = none := by
        obtain ⟨x, y, z, h0, _⟩ := hel 0 hlen
        simpa [Addr.add] using World.cell?_spot h0
      subst hspot
      refine ⟨b, off, rfl, ?_, fun i hi2 => ?_⟩
      · obtain ⟨x, y, z, h0, _⟩ := hel 0 hlen
        exact World.block_lt_of_cell? W _ h0
      · rw [List.length_map, List.length_range] at hi2
        obtain ⟨x, y, z, h0, h1, h2, _⟩ := hel i hi2
        unfold KCell kAt
        rw [List.getElem?_map, List.getElem?_range hi2]
        simp only [Option.map_some, Option.getD_some, h0, h1, h2, Option.elim_some, intOf]
        rw [add_plain] at h0 h1 h2
        exact ⟨h0, h1, h2⟩
    · rw [List.length_map, List.length_range] at hi2
      obtain ⟨x, y, z, h0, h1, h2, wz⟩ := hel i hi2
      unfold kAt
      rw [List.getElem?_map, List.getElem?_range hi2]
      simp only [Option.map_some, Option.getD_some, h2, Option.elim_some, intOf]
      have := bounds_u32 wz
      exact ⟨this.1, by omega⟩
/-- a block as numbers -/
structure BM where
  ks : List (Int × Int × Int)
  m : List (List (Int × Int))
def BkS (w : World) (v : Value) (Y : BM) : Prop := ∃ z u, v = .agg #[z, u] ∧ SlK w z Y.ks ∧ Fr.SlM w u Y.m
theorem BkS.below {w w' : World} {v : Value} {Y : BM} (h : BkS w v Y) (hb : Below w.heap.size w w') : BkS w' v Y := by
  obtain ⟨z, u, e, h1, h2⟩ := h
  exact ⟨z, u, e, h1.below hb, h2.below hb⟩
/-- a block's box -/
structure BB (W : World) (B : Nat) (z u : Value) : Prop where
  lt : B < W.heap.size
  c0 : W.cell? ⟨B, 0, none⟩ = some z
  c1 : W.cell? ⟨B, 1, none⟩ = some u
  fz : ∀ o, W.frozen? ⟨B, o, none⟩ = false
theorem BB.below {W W' : World} {B : Nat} {z u : Value} (h : BB W B z u) (hb : Below W.heap.size W W') : BB W' B z u :=
  ⟨Nat.lt_of_lt_of_le h.lt hb.size, (hb.cell (p := ⟨B, 0, none⟩) h.lt).trans h.c0, (hb.cell (p := ⟨B, 1, none⟩) h.lt).trans h.c1, fun o => (hb.frozen (p := ⟨B, o, none⟩) h.lt).trans (h.fz o)⟩
theorem BB.made (W : World) (z u : Value) (t : TypeId) : BB (W.alloc (.cells #[z, u] t)) W.heap.size z u :=
  ⟨by simp, by rw [World.cell?_alloc_new]; rfl, by rw [World.cell?_alloc_new]; rfl, fun o => by simp⟩
theorem BB.other {W : World} {B : Nat} {z u : Value} (h : BB W B z u) {a : Addr} (v : Value) (hp : a.block ≠ B) : BB (W.setCell a v) B z u := by
  have hs : (W.setCell a v).heap[B]? = W.heap[B]? := Below.heap_setCell _ _ _ _ (by omega)
  exact ⟨by simpa using h.lt, (World.cell?_of_block (a := ⟨B, 0, none⟩) hs).trans h.c0, (World.cell?_of_block (a := ⟨B, 1, none⟩) hs).trans h.c1, fun o => by simp [h.fz o]⟩
theorem BB.put0 {W : World} {B : Nat} {z u : Value} (h : BB W B z u) (z' : Value) : BB (W.setCell ⟨B, 0, none⟩ z') B z' u :=
  ⟨by simpa using h.lt, World.cell?_setCell_same _ _ _ h.c0, (World.cell?_setCell_other _ _ _ _ (by simp)).trans h.c1, fun o => by simp [h.fz o]⟩
theorem BB.put1 {W : World} {B : Nat} {z u : Value} (h : BB W B z u) (u' : Value) : BB (W.setCell ⟨B, 1, none⟩ u') B z u' :=
  ⟨by simpa using h.lt, (World.cell?_setCell_other _ _ _ _ (by simp)).trans h.c0, World.cell?_setCell_same _ _ _ h.c1, fun o => by simp [h.fz o]⟩
theorem cellsLB : Tryd.prog.cellsOf 142 = 2 := by kernel_rfl
theorem cellsLKs : Tryd.prog.cellsOf 140 = 1 := by kernel_rfl
theorem cellsLMs : Tryd.prog.cellsOf 22 = 1 := by kernel_rfl
theorem open_blockR {H : Type} {enc : TypeId × Value → H} {W : World} {fuel : Nat} {v0 v1 : Value} {x : DataW H × List MemPlace} (hf : DataW.trod enc Tryd.prog W 0 (fun _ => true) true fuel 142 [v0, v1] = some x) :
    ∃ Y : BM, BkS W (.agg #[v0, v1]) Y ∧ BdK Y.ks := by
  obtain ⟨y0, y1, n, _, _, h0, h1⟩ := trod_struct2 Tryd.underlying142 hf
  simp only [cellsLKs, cellsLMs] at h0 h1
  obtain ⟨ks, hks, hb⟩ := open_ksR (v := v0) (by simpa using h0)
  obtain ⟨m, hm⟩ := Fr.open_msR (v := v1) (by simpa using h1)
  exact ⟨⟨ks, m⟩, ⟨v0, v1, rfl, hks, hm⟩, hb⟩
theorem open_block {H : Type} {enc : TypeId × Value → H} {W : World} {base : Nat} {v : Value} {d : DataW H} {p : List MemPlace} (hv : Value.okWide Tryd.prog W .any base 142 v) (h : DataW.Trod enc Tryd.prog W 0 (fun _ => true) true 142 v d p) :
    ∃ Y : BM, BkS W v Y ∧ BdK Y.ks := by
  obtain ⟨cs, rfl, hsz⟩ := okWide_struct Tryd.underlying142 hv
  obtain ⟨fuel, hf⟩ := h
  rw [cellsLB] at hsz
  obtain ⟨l⟩ := cs
  match l, hsz with
  | [v0, v1], _ => exact open_blockR (by simpa [Value.cells] using hf)
section
variable (w : World)
theorem szk_left (a : Option Addr) (l cap : Nat) (q : Int) (hq : q ≤ 1048576) (hl : (l : Int) ≤ q) :
    Calls Tryd.prog 122 #[.slice a l cap, .int .i64 q] w fun r w' => r = .returned (.int .i64 (q - (l : Int))) ∧ w = w' := by
  go_enter Tryd.func122, Tryd.ntmps122
  go_wp2
  go_ret
  exact ⟨rfl, rfl⟩
theorem szk_over (a : Option Addr) (l cap : Nat) (q : Int) (h0 : 0 ≤ q) (hq : q ≤ 1048576) (hl : q < (l : Int)) (hm : l ≤ 9223372036854775807) :
    Calls Tryd.prog 122 #[.slice a l cap, .int .i64 q] w fun r w' => r = .returned (.int .i64 (-1)) ∧ w = w' := by
  go_enter Tryd.func122, Tryd.ntmps122
  go_wp2
  go_ret
  exact ⟨rfl, rfl⟩
theorem szB_ok (v : Value) (Y : BM) (h : BkS w v Y) (q0 : Int) (h0 : 0 ≤ q0) (hq : q0 ≤ 1048576) (hl : (Y.ks.length : Int) + ((Y.m.length : Int) + (Fr.tot Y.m Y.m.length : Nat)) ≤ q0) :
    Calls Tryd.prog 83 #[v, .int .i64 q0] w fun r w' => r = .returned (.int .i64 (q0 - (Y.ks.length : Int) - (Y.m.length : Int) - (Fr.tot Y.m Y.m.length : Nat))) ∧ Below w.heap.size w w' := by
  obtain ⟨ks, m⟩ := Y
  obtain ⟨z, u, rfl, hz, hu⟩ := h
  dsimp only at *
  have hD := Lib.hid (fun W (hb : Below w.heap.size w W) => Fr.szM_ok W u m (hu.below hb) (q0 - (ks.length : Int)) (by omega) (by omega))
  obtain ⟨a, cap, rfl, g1, g2, _⟩ := hz
  obtain ⟨au, cu, rfl, _⟩ := hu
  obtain ⟨T, hT⟩ : ∃ T, Fr.tot m m.length = T := ⟨_, rfl⟩
  rw [hT] at hl hD ⊢
  obtain ⟨l1, hl1⟩ : ∃ l, ks.length = l := ⟨_, rfl⟩
  obtain ⟨l2, hl2⟩ : ∃ l, m.length = l := ⟨_, rfl⟩
  rw [hl1, hl2] at hl hD ⊢
  have hC := Lib.hid (fun W => szk_left W a l1 cap q0 hq (by omega))
  have h1 : 0 ≤ q0 - (l1 : Int) := by omega
  have h2 : 0 ≤ q0 - (l1 : Int) - (l2 : Int) - (T : Int) := by omega
  obtain ⟨q1, hq1⟩ : ∃ q1 : Int, q0 - (l1 : Int) = q1 := ⟨_, rfl⟩
  rw [hq1] at hC hD h1 h2 ⊢
  obtain ⟨q2, hq2⟩ : ∃ q2 : Int, q1 - (l2 : Int) - (T : Int) = q2 := ⟨_, rfl⟩
  rw [hq2] at hD h2 ⊢
  clear hl hq1 hq2 hl1 hl2 g1 g2 hq hT
  obtain ⟨W0, hW0⟩ : ∃ W0, W0 = w.alloc (.cells #[.slice a l1 cap, .slice au l2 cu] 142) := ⟨_, rfl⟩
  have hb0 : Below w.heap.size w W0 := by rw [hW0]; (repeat (first | exact Below.refl _ _ | assumption | refine bchain (by assumption) ?_ | refine balloc ?_ _ | apply Below.drew | apply below_drewN | (refine Below.alloc ?_ (by (try simp) <;> omega) _) | (refine Below.setCell ?_ (by (try simp) <;> omega) _)))
  have k0 : BB W0 w.heap.size (.slice a l1 cap) (.slice au l2 cu) := by rw [hW0]; exact BB.made _ _ _ _
  replace hW0 := Lib.hid hW0
  obtain ⟨_, x0, x1, _⟩ := id k0
  go_enter Tryd.func83, Tryd.ntmps83
  go_wp2_with fail
  rw [← hW0.out]
  go_wp2_with fail
  refine (hC.out _).mono ?_
  rintro r1 w1 ⟨rfl, rfl⟩
  go_wp2_with fail
  refine (hD.out _ hb0).mono ?_
  rintro r2 w2 ⟨rfl, hb2⟩
  go_wp2
  go_ret
  exact ⟨rfl, bchain hb2 hb0⟩
theorem szB_bad (v : Value) (Y : BM) (h : BkS w v Y) (q0 : Int) (h0 : 0 ≤ q0) (hq : q0 ≤ 1048576) (hl : ¬ ((Y.ks.length : Int) + ((Y.m.length : Int) + (Fr.tot Y.m Y.m.length : Nat)) ≤ q0)) :
    Calls Tryd.prog 83 #[v, .int .i64 q0] w fun r w' => r = .returned (.int .i64 (-1)) ∧ Below w.heap.size w w' := by
  obtain ⟨ks, m⟩ := Y
  obtain ⟨z, u, rfl, hz, hu⟩ := h
  dsimp only at *
  by_cases c : (ks.length : Int) ≤ q0
  · have hD := Lib.hid (fun W (hb : Below w.heap.size w W) => Fr.szM_long W u m (hu.below hb) (q0 - (ks.length : Int)) (by omega) (by omega) (by omega))
    obtain ⟨a, cap, rfl, g1, g2, _⟩ := hz
    obtain ⟨au, cu, rfl, _⟩ := hu
    have hC := Lib.hid (fun W => szk_left W a ks.length cap q0 hq c)
    have h1 : 0 ≤ q0 - (ks.length : Int) := by omega
    obtain ⟨l1, hl1⟩ : ∃ l, ks.length = l := ⟨_, rfl⟩
    obtain ⟨l2, hl2⟩ : ∃ l, m.length = l := ⟨_, rfl⟩
    rw [hl1] at hC hD h1 ⊢
    rw [hl2]
    obtain ⟨q1, hq1⟩ : ∃ q1 : Int, q0 - (l1 : Int) = q1 := ⟨_, rfl⟩
    rw [hq1] at hC hD h1
    rw [hl2] at hD
    clear hl hq1 hl1 hl2 g1 g2 hq c
    obtain ⟨W0, hW0⟩ : ∃ W0, W0 = w.alloc (.cells #[.slice a l1 cap, .slice au l2 cu] 142) := ⟨_, rfl⟩
    have hb0 : Below w.heap.size w W0 := by rw [hW0]; (repeat (first | exact Below.refl _ _ | assumption | refine bchain (by assumption) ?_ | refine balloc ?_ _ | apply Below.drew | apply below_drewN | (refine Below.alloc ?_ (by (try simp) <;> omega) _) | (refine Below.setCell ?_ (by (try simp) <;> omega) _)))
    have k0 : BB W0 w.heap.size (.slice a l1 cap) (.slice au l2 cu) := by rw [hW0]; exact BB.made _ _ _ _
    replace hW0 := Lib.hid hW0
    obtain ⟨_, x0, x1, _⟩ := id k0
    go_enter Tryd.func83, Tryd.ntmps83
    go_wp2_with fail
    rw [← hW0.out]
    go_wp2_with fail
    refine (hC.out _).mono ?_
    rintro r1 w1 ⟨rfl, rfl⟩
    go_wp2_with fail
    refine (hD.out _ hb0).mono ?_
    rintro r2 w2 ⟨rfl, hb2⟩
    go_wp2
    go_ret
    exact ⟨rfl, bchain hb2 hb0⟩
  · obtain ⟨a, cap, rfl, g1, g2, _⟩ := hz
    obtain ⟨au, cu, rfl, _⟩ := hu
    have hC := Lib.hid (fun W => szk_over W a ks.length cap q0 h0 hq (by omega) (by have : ks.length ≤ cap := g1; omega))
    obtain ⟨l1, hl1⟩ : ∃ l, ks.length = l := ⟨_, rfl⟩
    obtain ⟨l2, hl2⟩ : ∃ l, m.length = l := ⟨_, rfl⟩
    rw [hl1] at hC ⊢
    rw [hl2]
    clear hl hl1 hl2 g1 g2 hq c h0
    obtain ⟨W0, hW0⟩ : ∃ W0, W0 = w.alloc (.cells #[.slice a l1 cap, .slice au l2 cu] 142) := ⟨_, rfl⟩
    have hb0 : Below w.heap.size w W0 := by rw [hW0]; (repeat (first | exact Below.refl _ _ | assumption | refine bchain (by assumption) ?_ | refine balloc ?_ _ | apply Below.drew | apply below_drewN | (refine Below.alloc ?_ (by (try simp) <;> omega) _) | (refine Below.setCell ?_ (by (try simp) <;> omega) _)))
    have k0 : BB W0 w.heap.size (.slice a l1 cap) (.slice au l2 cu) := by rw [hW0]; exact BB.made _ _ _ _
    replace hW0 := Lib.hid hW0
    obtain ⟨_, x0, x1, _⟩ := id k0
    go_enter Tryd.func83, Tryd.ntmps83
    go_wp2_with fail
    rw [← hW0.out]
    go_wp2_with fail
    refine (hC.out _).mono ?_
    rintro r1 w1 ⟨rfl, rfl⟩
    go_wp2
    go_ret
    exact ⟨rfl, hb0⟩
theorem eqB_any (Y : BM) (z u z' u' : Value) (hz : SlK w z Y.ks) (hu : Fr.SlM w u Y.m) (hz' : SlK w z' Y.ks) (hu' : Fr.SlM w u' Y.m) (hm : Y.ks.length ≤ 1048576) (hm2 : Y.m.length ≤ 1048576) (hr : ∀ i, i < Y.m.length → (Fr.rAt Y.m i).length ≤ 1048576) :
    Calls Tryd.prog 90 #[.agg #[z, u], .agg #[z', u']] w fun r w' => r = .returned (.bool true) ∧ Below w.heap.size w w' := by
  obtain ⟨ks, m⟩ := Y
  dsimp only at *
  have hC := Lib.hid (fun W (hb : Below w.heap.size w W) => eqKs_any W z z' ks (hz.below hb) (hz'.below hb) hm)
  have hD := Lib.hid (fun W (hb : Below w.heap.size w W) => Fr.eqMs_any W u u' m (hu.below hb) (hu'.below hb) hm2 hr)
  obtain ⟨a, cap, rfl, _⟩ := hz
  obtain ⟨au, cu, rfl, _⟩ := hu
  obtain ⟨a', cap', rfl, _⟩ := hz'
  obtain ⟨au', cu', rfl, _⟩ := hu'
  obtain ⟨l1, hl1⟩ : ∃ l, ks.length = l := ⟨_, rfl⟩
  obtain ⟨l2, hl2⟩ : ∃ l, m.length = l := ⟨_, rfl⟩
  rw [hl1] at hC ⊢
  rw [hl2] at hD ⊢
  clear hl1 hl2 hm hm2 hr
  obtain ⟨W0, hW0⟩ : ∃ W0, W0 = (w.alloc (.cells #[.slice a l1 cap, .slice au l2 cu] 107)).alloc (.cells #[.slice a' l1 cap', .slice au' l2 cu'] 107) := ⟨_, rfl⟩
  have hb0 : Below w.heap.size w W0 := by rw [hW0]; (repeat (first | exact Below.refl _ _ | assumption | refine bchain (by assumption) ?_ | refine balloc ?_ _ | apply Below.drew | apply below_drewN | (refine Below.alloc ?_ (by (try simp) <;> omega) _) | (refine Below.setCell ?_ (by (try simp) <;> omega) _)))
  have sz : ∀ (W : World) (o : Obj), (W.alloc o).heap.size = W.heap.size + 1 := fun W o => by simp
  have k0 : BB W0 w.heap.size (.slice a l1 cap) (.slice au l2 cu) := by rw [hW0]; exact (BB.made _ _ _ _).below (balloc (Below.refl _ _) _)
  have k1 : BB W0 (w.heap.size + 1) (.slice a' l1 cap') (.slice au' l2 cu') := by rw [hW0, ← sz w (.cells #[.slice a l1 cap, .slice au l2 cu] 107)]; exact BB.made _ _ _ _
  replace hW0 := Lib.hid hW0
  clear sz
  obtain ⟨_, x0, x1, _⟩ := id k0
  obtain ⟨_, y0, y1, _⟩ := id k1
  go_enter Tryd.func90, Tryd.ntmps90
  go_wp2_with fail
  rw [← hW0.out]
  go_wp2_with fail
  refine (hC.out _ hb0).mono ?_
  rintro r1 w1 ⟨rfl, hb1⟩
  replace k0 := k0.below hb1
  replace k1 := k1.below hb1
  replace hb0 := bchain hb1 hb0
  clear hb1 x0 x1 y0 y1
  obtain ⟨_, x0, x1, _⟩ := id k0
  obtain ⟨_, y0, y1, _⟩ := id k1
  go_wp2_with fail
  refine (hD.out _ hb0).mono ?_
  rintro r2 w2 ⟨rfl, hb2⟩
  go_wp2
  go_ret
  exact ⟨rfl, bchain hb2 hb0⟩
set_option maxHeartbeats 2000000 in
theorem toB_any (v : Value) (Y : BM) (h : BkS w v Y) (hm : Y.ks.length ≤ 1048576) (hm2 : Y.m.length ≤ 1048576) (hr : ∀ i, i < Y.m.length → (Fr.rAt Y.m i).length ≤ 1048576) :
    Calls Tryd.prog 87 #[v] w fun r w' => (∃ z u, r = .returned (.agg #[z, u]) ∧ SlK w' z Y.ks ∧ Fr.SlM w' u Y.m ∧ Fr.NewM w u Y.m) ∧ Below w.heap.size w w' := by
  obtain ⟨ks, m⟩ := Y
  obtain ⟨z, u, rfl, hz, hu⟩ := h
  dsimp only at *
  have hC := Lib.hid (fun W (hb : Below w.heap.size w W) => toKs_any W z ks (hz.below hb) hm)
  have hD := Lib.hid (fun W (hb : Below w.heap.size w W) => Fr.toMn_any W u m (hu.below hb) hm2 hr)
  obtain ⟨a, cap, rfl, _⟩ := hz
  obtain ⟨au, cu, rfl, _⟩ := hu
  clear hm hm2 hr
  obtain ⟨l1, hl1⟩ : ∃ l, ks.length = l := ⟨_, rfl⟩
  obtain ⟨l2, hl2⟩ : ∃ l, m.length = l := ⟨_, rfl⟩
  rw [hl1] at hC ⊢
  rw [hl2] at hD ⊢
  replace hl1 := Lib.hid hl1
  replace hl2 := Lib.hid hl2
  obtain ⟨W0, hW0⟩ : ∃ W0, W0 = ((w.alloc (.cells #[.slice a l1 cap, .slice au l2 cu] 142)).alloc (.cells #[.slice none 0 0, .slice none 0 0] 107)).alloc (.cells #[.slice none 0 0, .slice none 0 0] 107) := ⟨_, rfl⟩
  have hb0 : Below w.heap.size w W0 := by rw [hW0]; (repeat (first | exact Below.refl _ _ | assumption | refine bchain (by assumption) ?_ | refine balloc ?_ _ | apply Below.drew | apply below_drewN | (refine Below.alloc ?_ (by (try simp) <;> omega) _) | (refine Below.setCell ?_ (by (try simp) <;> omega) _)))
  have sz : ∀ (W : World) (o : Obj), (W.alloc o).heap.size = W.heap.size + 1 := fun W o => by simp
  have tA : BB W0 w.heap.size (.slice a l1 cap) (.slice au l2 cu) := by rw [hW0]; exact ((BB.made _ _ _ _).below (balloc (Below.refl _ _) _)).below (balloc (Below.refl _ _) _)
  have tR : BB W0 (w.heap.size + 1) (.slice none 0 0) (.slice none 0 0) := by rw [hW0, ← sz w (.cells #[.slice a l1 cap, .slice au l2 cu] 142)]; exact (BB.made _ (.slice none 0 0) _ 107).below (balloc (Below.refl _ _) _)
  have tO : BB W0 (w.heap.size + 1 + 1) (.slice none 0 0) (.slice none 0 0) := by rw [hW0, ← sz w (.cells #[.slice a l1 cap, .slice au l2 cu] 142), ← sz _ (.cells #[.slice none 0 0, .slice none 0 0] 107)]; exact BB.made _ (.slice none 0 0) _ 107
  clear sz
  replace hW0 := Lib.hid hW0
  obtain ⟨_, x0, x1, _⟩ := id tA
  go_enter Tryd.func87, Tryd.ntmps87
  go_wp2_with fail
  rw [← hW0.out]
  go_wp2_with fail
  refine (hC.out _ hb0).mono ?_
  rintro r1 w1 ⟨⟨z1, rfl, hZ⟩, hb1⟩
  obtain ⟨a1, c1, rfl, _⟩ := id hZ
  rw [hl1.out] at hZ ⊢
  replace hZ := Lib.hid hZ
  replace tA := tA.below hb1
  replace tR := tR.below hb1
  replace tO := tO.below hb1
  replace hb0 := bchain hb1 hb0
  clear hb1 x0 x1
  obtain ⟨_, x0, x1, _⟩ := id tA
  obtain ⟨_, y0, y1, fO⟩ := id tO
  obtain ⟨W4, hW4⟩ : ∃ W4, W4 = w1.setCell ⟨w.heap.size + 1 + 1, 0, none⟩ (.slice a1 l1 c1) := ⟨_, rfl⟩
  have uR : BB W4 (w.heap.size + 1) (.slice none 0 0) (.slice none 0 0) := by rw [hW4]; exact tR.other _ (by show w.heap.size + 1 + 1 ≠ w.heap.size + 1; omega)
  have uO : BB W4 (w.heap.size + 1 + 1) (.slice a1 l1 c1) (.slice none 0 0) := by rw [hW4]; exact tO.put0 _
  have ub : Below w.heap.size w W4 := by rw [hW4]; exact hb0.setCell (p := ⟨w.heap.size + 1 + 1, 0, none⟩) (by show w.heap.size ≤ w.heap.size + 1 + 1; omega) _
  have uZ : Hid (SlK W4 (.slice a1 l1 c1) ks) := by rw [hW4]; exact hZ.out.setCell y0
  replace hW4 := Lib.hid hW4
  clear hZ tA tR tO hb0
  go_wp2_with fail
  rw [← hW4.out]
  refine (hD.out _ ub).mono ?_
  rintro r2 w2 ⟨⟨u2, rfl, hU, hN⟩, hb2⟩
  obtain ⟨a2, c2, rfl, _⟩ := id hU
  rw [hl2.out] at hU hN ⊢
  have hzO2 : w.heap.size + 1 + 1 < W4.heap.size := uO.lt
  have hzR2 : w.heap.size + 1 < W4.heap.size := uR.lt
  have hw4 : w.heap.size ≤ W4.heap.size := ub.size
  replace hU := Lib.hid hU
  replace hN := Lib.hid hN
  replace uZ := Lib.hid (uZ.out.below hb2)
  replace uR := uR.below hb2
  replace uO := uO.below hb2
  replace ub := bchain hb2 ub
  clear hb2 hW4 x0 x1 y0 y1 fO
  obtain ⟨_, x0, x1, fR⟩ := id uR
  obtain ⟨_, y0, y1, fO⟩ := id uO
  obtain ⟨W5, hW5⟩ : ∃ W5, W5 = w2.setCell ⟨w.heap.size + 1 + 1, 1, none⟩ (.slice a2 l2 c2) := ⟨_, rfl⟩
  have vR : BB W5 (w.heap.size + 1) (.slice none 0 0) (.slice none 0 0) := by rw [hW5]; exact uR.other _ (by show w.heap.size + 1 + 1 ≠ w.heap.size + 1; omega)
  have vb : Below w.heap.size w W5 := by rw [hW5]; exact ub.setCell (p := ⟨w.heap.size + 1 + 1, 1, none⟩) (by show w.heap.size ≤ w.heap.size + 1 + 1; omega) _
  have vZ : Hid (SlK W5 (.slice a1 l1 c1) ks) := by rw [hW5]; exact uZ.out.setCell y1
  have vU : Hid (Fr.SlM W5 (.slice a2 l2 c2) m) := by rw [hW5]; exact hU.out.setCell hN.out hzO2 y1
  have v1 := vR.put0 (.slice a1 l1 c1)
  have jF := v1.put1 (.slice a2 l2 c2)
  have jBB := (vb.setCell (p := ⟨w.heap.size + 1, 0, none⟩) (by show w.heap.size ≤ w.heap.size + 1; omega) (.slice a1 l1 c1)).setCell (p := ⟨w.heap.size + 1, 1, none⟩) (by show w.heap.size ≤ w.heap.size + 1; omega) (.slice a2 l2 c2)
  have jZ := Lib.hid ((vZ.out.setCell vR.c0 (x := .slice a1 l1 c1)).setCell v1.c1 (x := .slice a2 l2 c2))
  have jU := Lib.hid ((vU.out.setCell hN.out hzR2 vR.c0 (x := .slice a1 l1 c1)).setCell hN.out hzR2 v1.c1 (x := .slice a2 l2 c2))
  clear uR uO ub uZ hU vR vb vZ vU v1
  go_wp2
  rw [← hW5]
  obtain ⟨WW, hWW⟩ : ∃ WW, WW = (W5.setCell ⟨w.heap.size + 1, 0, none⟩ (.slice a1 l1 c1)).setCell ⟨w.heap.size + 1, 1, none⟩ (.slice a2 l2 c2) := ⟨_, rfl⟩
  rw [← hWW] at jF jBB jZ jU ⊢
  clear hWW hW5
  obtain ⟨_, v0, v1, _⟩ := jF
  exact bodyPost_ret (v := .agg #[.slice a1 l1 c1, .slice a2 l2 c2]) (by simp [results, Tryd.results87, go_sem, v0, v1]) rfl ⟨⟨_, _, rfl, jZ.out, jU.out, hN.out.mono hw4⟩, jBB⟩
end
end Go.Proofs.YtiedombphcdpbaaDoor
/-
  LISTS OF BLOCKS, CERTIFICATES: opened to their cells, counted, copied, held against each other.
-/
namespace Go.Proofs.YtiedombphcdpbaaDoor
open Go.ChangeShapes Go.WideShapes Go.ChangeAt Go.RowKit Go.Deep
set_option maxRecDepth 100000
attribute [local go_sem] Oper.semAt_some
instance : Inhabited BM := ⟨⟨[], []⟩⟩
def bAt (bs : List BM) (i : Nat) : BM := bs[i]?.getD ⟨[], []⟩
def wtB (Y : BM) : Nat := Y.ks.length + (Y.m.length + Fr.tot Y.m Y.m.length)
def totB (bs : List BM) : Nat → Nat | 0 => 0 | k + 1 => totB bs k + wtB (bAt bs k)
theorem totB_mono (bs : List BM) {k n : Nat} (h : k ≤ n) : totB bs k ≤ totB bs n := by
  induction n with
  | zero => obtain rfl : k = 0 := by omega
            exact Nat.le_refl _
  | succ n ih =>
    by_cases e : k = n + 1
    · rw [e]; exact Nat.le_refl _
    · have := ih (by omega)
      rw [totB]
      omega
theorem wtB_le (bs : List BM) {k n : Nat} (h : k < n) : wtB (bAt bs k) ≤ totB bs n := by
  have := totB_mono bs (show k + 1 ≤ n from h)
  rw [totB] at this
  omega
def BRow (w : World) (b off : Nat) (Y : BM) (i : Nat) : Prop := ∃ z u, w.cell? ⟨b, off + i * 2, none⟩ = some z ∧ w.cell? ⟨b, off + i * 2 + 1, none⟩ = some u ∧ SlK w z Y.ks ∧ Fr.SlM w u Y.m
theorem BRow.below {w w' : World} {b off : Nat} {Y : BM} {i : Nat} (h : BRow w b off Y i) (hb : Below w.heap.size w w') : BRow w' b off Y i := by
  obtain ⟨z, u, h0, h1, h2, h3⟩ := h
  have hlt : b < w.heap.size := World.block_lt_of_cell? w _ h0
  exact ⟨z, u, (hb.cell (p := ⟨b, _, none⟩) hlt).trans h0, (hb.cell (p := ⟨b, _, none⟩) hlt).trans h1, h2.below hb, h3.below hb⟩
def SlB (w : World) (v : Value) (bs : List BM) : Prop :=
  ∃ (a : Option Addr) (cap : Nat), v = .slice a bs.length cap ∧ bs.length ≤ cap ∧ cap ≤ 9223372036854775807 ∧
    (bs ≠ [] → ∃ b off, a = some ⟨b, off, none⟩ ∧ b < w.heap.size ∧ ∀ i, i < bs.length → BRow w b off (bAt bs i) i)
theorem SlB.below {w w' : World} {v : Value} {bs : List BM} (h : SlB w v bs) (hb : Below w.heap.size w w') : SlB w' v bs := by
  obtain ⟨a, cap, e, h1, h2, h3⟩ := h
  refine ⟨a, cap, e, h1, h2, fun hz => ?_⟩
  obtain ⟨b, off, e2, hlt, hc⟩ := h3 hz
  exact ⟨b, off, e2, Nat.lt_of_lt_of_le hlt hb.size, fun i hi => (hc i hi).below hb⟩
theorem SlB.rows {w : World} {v : Value} {bs : List BM} (h : SlB w v bs) : ∃ a cap, v = .slice a bs.length cap ∧ bs.length ≤ cap ∧ cap ≤ 9223372036854775807 ∧ Hid (0 < bs.length → ∃ b off, a = some ⟨b, off, none⟩ ∧ b < w.heap.size ∧ ∀ i, i < bs.length → BRow w b off (bAt bs i) i) := by
  obtain ⟨a, cap, e, h1, h2, h3⟩ := h
  exact ⟨a, cap, e, h1, h2, fun h => h3 (List.length_pos_iff.1 h)⟩
def BdB (bs : List BM) : Prop := ∀ i, i < bs.length → BdK (bAt bs i).ks
/-- a block of a list, its matrix's cells in a block from N on -/
def NewN (N : Nat) (u : Value) (m : List (List (Int × Int))) : Prop := ∀ a l c, u = .slice a l c → m ≠ [] → ∀ b off, a = some ⟨b, off, none⟩ → N ≤ b
theorem Fr.SlM.setN {N : Nat} {w : World} {u : Value} {m : List (List (Int × Int))} {B o : Nat} {x : Value} {a0 : Option Addr} {l0 c0 : Nat} (h : Fr.SlM w u m) (hn : NewN N u m) (hB : B < N) (hc0 : w.cell? ⟨B, o, none⟩ = some (.slice a0 l0 c0)) : Fr.SlM (w.setCell ⟨B, o, none⟩ x) u m := by
  obtain ⟨a, cap, e, h1, h2, h3⟩ := h
  refine ⟨a, cap, e, h1, h2, fun hz => ?_⟩
  obtain ⟨b, off, e2, hlt, hc⟩ := h3 hz
  have hb := hn a _ cap e hz b off e2
  refine ⟨b, off, e2, by simpa using hlt, fun i hi => ?_⟩
  obtain ⟨r, hr, hS⟩ := hc i hi
  exact ⟨r, (World.cell?_setCell_other _ _ _ _ (by simp <;> omega)).trans hr, hS.setCell hc0⟩
/-- a number is stored into a cell ahead of one that holds a list -/
theorem SlK.set0 {w : World} {v : Value} {r : List (Int × Int × Int)} {B : Nat} {x : Value} {a0 : Option Addr} {l0 c0 : Nat} (h : SlK w v r) (hc1 : w.cell? ⟨B, 1, none⟩ = some (.slice a0 l0 c0)) : SlK (w.setCell ⟨B, 0, none⟩ x) v r := by
  obtain ⟨a, cap, e, h1, h2, h3⟩ := h
  refine ⟨a, cap, e, h1, h2, fun hz => ?_⟩
  obtain ⟨b, off, e2, hlt, hc⟩ := h3 hz
  refine ⟨b, off, e2, by simpa using hlt, fun i hi => ?_⟩
  have hi2 := hc i hi
  have hne : ¬ (b = B ∧ off + i * 3 = 0) := fun h => by
    have h1 := hi2.2.1
    rw [h.1, show off + i * 3 + 1 = 1 by omega, hc1] at h1
    cases h1
  exact ⟨(World.cell?_setCell_other _ _ _ _ (by simp <;> omega)).trans hi2.1, (World.cell?_setCell_other _ _ _ _ (by simp <;> omega)).trans hi2.2.1, (World.cell?_setCell_other _ _ _ _ (by simp <;> omega)).trans hi2.2.2⟩
theorem Fr.SlG.set0 {w : World} {v : Value} {r : List (Int × Int)} {B : Nat} {x : Value} {a0 : Option Addr} {l0 c0 : Nat} (h : Fr.SlG w v r) (hc1 : w.cell? ⟨B, 1, none⟩ = some (.slice a0 l0 c0)) : Fr.SlG (w.setCell ⟨B, 0, none⟩ x) v r := by
  obtain ⟨a, cap, e, h1, h2, h3⟩ := h
  refine ⟨a, cap, e, h1, h2, fun hz => ?_⟩
  obtain ⟨b, off, e2, hlt, hc⟩ := h3 hz
  refine ⟨b, off, e2, by simpa using hlt, fun i hi => ?_⟩
  have hi2 := hc i hi
  have hne : ¬ (b = B ∧ off + i * 2 = 0) := fun h => by
    have h1 := hi2.2
    rw [h.1, show off + i * 2 + 1 = 1 by omega, hc1] at h1
    cases h1
  exact ⟨(World.cell?_setCell_other _ _ _ _ (by simp <;> omega)).trans hi2.1, (World.cell?_setCell_other _ _ _ _ (by simp <;> omega)).trans hi2.2⟩
theorem Fr.SlM.set0 {N : Nat} {w : World} {u : Value} {m : List (List (Int × Int))} {B : Nat} {x : Value} {a0 : Option Addr} {l0 c0 : Nat} (h : Fr.SlM w u m) (hn : NewN N u m) (hB : B < N) (hc1 : w.cell? ⟨B, 1, none⟩ = some (.slice a0 l0 c0)) : Fr.SlM (w.setCell ⟨B, 0, none⟩ x) u m := by
  obtain ⟨a, cap, e, h1, h2, h3⟩ := h
  refine ⟨a, cap, e, h1, h2, fun hz => ?_⟩
  obtain ⟨b, off, e2, hlt, hc⟩ := h3 hz
  have hb := hn a _ cap e hz b off e2
  refine ⟨b, off, e2, by simpa using hlt, fun i hi => ?_⟩
  obtain ⟨r, hr, hS⟩ := hc i hi
  exact ⟨r, (World.cell?_setCell_other _ _ _ _ (by simp <;> omega)).trans hr, hS.set0 hc1⟩
def BRowN (N : Nat) (w : World) (b off : Nat) (Y : BM) (i : Nat) : Prop := ∃ z u, w.cell? ⟨b, off + i * 2, none⟩ = some z ∧ w.cell? ⟨b, off + i * 2 + 1, none⟩ = some u ∧ SlK w z Y.ks ∧ Fr.SlM w u Y.m ∧ NewN N u Y.m
theorem BRowN.row {N : Nat} {w : World} {b off : Nat} {Y : BM} {i : Nat} (h : BRowN N w b off Y i) : BRow w b off Y i := by
  obtain ⟨z, u, h0, h1, h2, h3, _⟩ := h
  exact ⟨z, u, h0, h1, h2, h3⟩
theorem BRowN.below {N : Nat} {w w' : World} {b off : Nat} {Y : BM} {i : Nat} (h : BRowN N w b off Y i) (hb : Below w.heap.size w w') : BRowN N w' b off Y i := by
  obtain ⟨z, u, h0, h1, h2, h3, h4⟩ := h
  have hlt : b < w.heap.size := World.block_lt_of_cell? w _ h0
  exact ⟨z, u, (hb.cell (p := ⟨b, _, none⟩) hlt).trans h0, (hb.cell (p := ⟨b, _, none⟩) hlt).trans h1, h2.below hb, h3.below hb, h4⟩
theorem BRowN.setS {N : Nat} {w : World} {b off : Nat} {Y : BM} {i : Nat} (h : BRowN N w b off Y i) {B o : Nat} {x : Value} {a0 : Option Addr} {l0 c0 : Nat} (hB : B < N) (hc0 : w.cell? ⟨B, o, none⟩ = some (.slice a0 l0 c0)) (hne : ¬ (b = B ∧ (off + i * 2 = o ∨ off + i * 2 + 1 = o))) : BRowN N (w.setCell ⟨B, o, none⟩ x) b off Y i := by
  obtain ⟨z, u, h0, h1, h2, h3, h4⟩ := h
  exact ⟨z, u, (World.cell?_setCell_other _ _ _ _ (by simp <;> omega)).trans h0, (World.cell?_setCell_other _ _ _ _ (by simp <;> omega)).trans h1, h2.setCell hc0, h3.setN h4 hB hc0, h4⟩
theorem BRowN.set0 {N : Nat} {w : World} {b off : Nat} {Y : BM} {i : Nat} (h : BRowN N w b off Y i) {B : Nat} {x : Value} {a0 : Option Addr} {l0 c0 : Nat} (hB : B < N) (hc1 : w.cell? ⟨B, 1, none⟩ = some (.slice a0 l0 c0)) (hne : b ≠ B) : BRowN N (w.setCell ⟨B, 0, none⟩ x) b off Y i := by
  obtain ⟨z, u, h0, h1, h2, h3, h4⟩ := h
  exact ⟨z, u, (World.cell?_setCell_other _ _ _ _ (by simp <;> omega)).trans h0, (World.cell?_setCell_other _ _ _ _ (by simp <;> omega)).trans h1, h2.set0 hc1, h3.set0 h4 hB hc1, h4⟩
/-- a list of blocks in memory from N on -/
def OwnB (N : Nat) (w : World) (v : Value) (bs : List BM) : Prop :=
  ∃ (a : Option Addr) (cap : Nat), v = .slice a bs.length cap ∧ bs.length ≤ cap ∧ cap ≤ 9223372036854775807 ∧
    (bs ≠ [] → ∃ b off, a = some ⟨b, off, none⟩ ∧ N ≤ b ∧ b < w.heap.size ∧ ∀ i, i < bs.length → BRowN N w b off (bAt bs i) i)
theorem OwnB.sl {N : Nat} {w : World} {v : Value} {bs : List BM} (h : OwnB N w v bs) : SlB w v bs := by
  obtain ⟨a, cap, e, h1, h2, h3⟩ := h
  refine ⟨a, cap, e, h1, h2, fun hz => ?_⟩
  obtain ⟨b, off, e2, _, hlt, hc⟩ := h3 hz
  exact ⟨b, off, e2, hlt, fun i hi => (hc i hi).row⟩
theorem OwnB.below {N : Nat} {w w' : World} {v : Value} {bs : List BM} (h : OwnB N w v bs) (hb : Below w.heap.size w w') : OwnB N w' v bs := by
  obtain ⟨a, cap, e, h1, h2, h3⟩ := h
  refine ⟨a, cap, e, h1, h2, fun hz => ?_⟩
  obtain ⟨b, off, e2, hn, hlt, hc⟩ := h3 hz
  exact ⟨b, off, e2, hn, Nat.lt_of_lt_of_le hlt hb.size, fun i hi => (hc i hi).below hb⟩
theorem OwnB.setS {N : Nat} {w : World} {v : Value} {bs : List BM} (h : OwnB N w v bs) {B o : Nat} {x : Value} {a0 : Option Addr} {l0 c0 : Nat} (hB : B < N) (hc0 : w.cell? ⟨B, o, none⟩ = some (.slice a0 l0 c0)) : OwnB N (w.setCell ⟨B, o, none⟩ x) v bs := by
  obtain ⟨a, cap, e, h1, h2, h3⟩ := h
  refine ⟨a, cap, e, h1, h2, fun hz => ?_⟩
  obtain ⟨b, off, e2, hn, hlt, hc⟩ := h3 hz
  exact ⟨b, off, e2, hn, by simpa using hlt, fun i hi => (hc i hi).setS hB hc0 (by omega)⟩
theorem OwnB.set0 {N : Nat} {w : World} {v : Value} {bs : List BM} (h : OwnB N w v bs) {B : Nat} {x : Value} {a0 : Option Addr} {l0 c0 : Nat} (hB : B < N) (hc1 : w.cell? ⟨B, 1, none⟩ = some (.slice a0 l0 c0)) : OwnB N (w.setCell ⟨B, 0, none⟩ x) v bs := by
  obtain ⟨a, cap, e, h1, h2, h3⟩ := h
  refine ⟨a, cap, e, h1, h2, fun hz => ?_⟩
  obtain ⟨b, off, e2, hn, hlt, hc⟩ := h3 hz
  exact ⟨b, off, e2, hn, by simpa using hlt, fun i hi => (hc i hi).set0 hB hc1 (by omega)⟩
/-- a block that holds the first k of bs, nothing behind -/
def HalfB (w : World) (B k : Nat) (bs : List BM) : Prop := ∀ i, i < bs.length → if i < k then BRowN (B + 1) w B 0 (bAt bs i) i else (w.cell? ⟨B, i * 2, none⟩ = some (.slice none 0 0) ∧ w.cell? ⟨B, i * 2 + 1, none⟩ = some (.slice none 0 0))
theorem HalfB.below {w w' : World} {B k : Nat} {bs : List BM} (h : HalfB w B k bs) (hb : Below w.heap.size w w') (hB : B < w.heap.size) : HalfB w' B k bs := by
  intro i hi
  have := h i hi
  split
  · rename_i c
    rw [if_pos c] at this
    exact this.below hb
  · rename_i c
    rw [if_neg c] at this
    exact ⟨(hb.cell (p := ⟨B, _, none⟩) hB).trans this.1, (hb.cell (p := ⟨B, _, none⟩) hB).trans this.2⟩
theorem HalfB.set {w : World} {B k : Nat} {bs : List BM} {z u : Value} (h : HalfB w B k bs) (hk : k < bs.length) (hz : SlK w z (bAt bs k).ks) (hu : Fr.SlM w u (bAt bs k).m) (hn : NewN (B + 1) u (bAt bs k).m) :
    HalfB ((w.setCell ⟨B, k * 2, none⟩ z).setCell ⟨B, k * 2 + 1, none⟩ u) B (k + 1) bs := by
  have hck := h k hk
  rw [if_neg (by omega)] at hck
  have hc1 : (w.setCell ⟨B, k * 2, none⟩ z).cell? ⟨B, k * 2 + 1, none⟩ = some (.slice none 0 0) := (World.cell?_setCell_other _ _ _ _ (by simp)).trans hck.2
  intro i hi
  have hi2 := h i hi
  by_cases e : i = k
  · subst e
    rw [if_pos (by omega)]
    refine ⟨z, u, ?_, ?_, (hz.setCell hck.1).setCell hc1, (hu.setN hn (by omega) hck.1).setN hn (by omega) hc1, hn⟩
    · rw [Nat.zero_add]
      exact (World.cell?_setCell_other _ _ _ _ (by simp)).trans (World.cell?_setCell_same _ _ _ hck.1)
    · rw [Nat.zero_add]
      exact World.cell?_setCell_same _ _ _ hc1
  · by_cases c : i < k
    · rw [if_pos c] at hi2
      rw [if_pos (by omega)]
      exact (hi2.setS (by omega) hck.1 (by omega)).setS (by omega) hc1 (by omega)
    · rw [if_neg c] at hi2
      rw [if_neg (by omega)]
      exact ⟨(World.cell?_setCell_other _ _ _ _ (by simp <;> omega)).trans ((World.cell?_setCell_other _ _ _ _ (by simp <;> omega)).trans hi2.1), (World.cell?_setCell_other _ _ _ _ (by simp <;> omega)).trans ((World.cell?_setCell_other _ _ _ _ (by simp <;> omega)).trans hi2.2)⟩
theorem info_block : (Tryd.prog.info? 107).map (fun i => (i.zero, i.size, i.bytes)) = some (some (.agg #[.slice none 0 0, .slice none 0 0]), 2, 48) := by kernel_rfl
theorem madeB (w : World) (n B : Nat) (e : TypeId) (bs : List BM) (hB : B = w.heap.size) (hn : bs.length = n) : HalfB (w.alloc (.cells (madeCells #[.slice none 0 0, .slice none 0 0] (n * 2)) e)) B 0 bs := by
  intro i hi
  subst hB
  rw [World.cell?_alloc_new, World.cell?_alloc_new, if_neg (by omega)]
  have h1 : i * 2 < n * 2 := by omega
  have h2 : i * 2 + 1 < n * 2 := by omega
  have m1 : i * 2 % 2 = 0 := by omega
  have m2 : (i * 2 + 1) % 2 = 1 := by omega
  refine ⟨?_, ?_⟩
  · simp [madeCells, h1, m1]
  · simp [madeCells, h2, m2]
theorem open_bsR {H : Type} {enc : TypeId × Value → H} {W : World} {fuel : Nat} {v : Value} {x : DataW H × List MemPlace} (hf : DataW.trod enc Tryd.prog W 0 (fun _ => true) true fuel 44 [v] = some x) :
    ∃ bs : List BM, SlB W v bs ∧ BdB bs := by
  rcases open_slice Tryd.underlying44 hf with ⟨hcs, hx⟩ | ⟨a, len', cap', m, n, D, Pl, hcs, _, hl, hm, hmm, hx, hi⟩
  · cases hcs
    exact ⟨[], ⟨none, 0, rfl, by simp, by simp, fun c => absurd rfl c⟩, fun i hi => by simp at hi⟩
  · cases hcs
    simp only [if_true] at hmm
    have hel : ∀ i, i < len' → ∃ Y : BM, ∃ z u : Value, W.cell? (a.add (i * 2)) = some z ∧ W.cell? (a.add (i * 2 + 1)) = some u ∧ SlK W z Y.ks ∧ Fr.SlM W u Y.m ∧ BdK Y.ks := fun i hi2 => by
      obtain ⟨cs', h1, h2⟩ := hi i (by omega)
      rw [cellsLB] at h1
      obtain ⟨_, hlen, hcell⟩ := World.cells?_some h1
      match cs', hlen with
      | [v0, v1], _ =>
        have e0 := hcell 0 (by omega)
        have e1 := hcell 1 (by omega)
        rw [add_add] at e0 e1
        obtain ⟨Y, ⟨z, u, e, hz, hu⟩, hb⟩ := open_blockR (v0 := v0) (v1 := v1) h2
        simp at e
        obtain ⟨rfl, rfl⟩ := e
        exact ⟨Y, v0, v1, by simpa using e0, by simpa using e1, hz, hu, hb⟩
    obtain ⟨R, hR⟩ := choose_lt (α := BM) (p := fun i Y => ∃ z u : Value, W.cell? (a.add (i * 2)) = some z ∧ W.cell? (a.add (i * 2 + 1)) = some u ∧ SlK W z Y.ks ∧ Fr.SlM W u Y.m ∧ BdK Y.ks) hel
    refine ⟨(List.range len').map R, ⟨some a, cap', by simp, by simpa using hl, by unfold maxLen at hm; omega, fun hne => ?_⟩, fun i hi2 => ?_⟩
    · have hlen : 0 < len' := by
        rcases Nat.eq_zero_or_pos len' with h0 | h0
        · subst h0; exact absurd rfl hne
        · exact h0
      obtain ⟨b, off, spot⟩ := a
      have hspot : spot = none := by
        obtain ⟨z, u, h0, _⟩ := hR 0 hlen
        simpa [Addr.add] using World.cell?_spot h0
      subst hspot
      refine ⟨b, off, rfl, ?_, fun i hi2 => ?_⟩
      · obtain ⟨z, u, h0, _⟩ := hR 0 hlen
        exact World.block_lt_of_cell? W _ h0
      · rw [List.length_map, List.length_range] at hi2
        obtain ⟨z, u, h0, h1, h2, h3, _⟩ := hR i hi2
        unfold BRow bAt
        rw [List.getElem?_map, List.getElem?_range hi2]
        rw [add_plain] at h0 h1
        exact ⟨z, u, h0, h1, h2, h3⟩
    · rw [List.length_map, List.length_range] at hi2
      obtain ⟨z, u, _, _, _, _, h4⟩ := hR i hi2
      unfold bAt
      rw [List.getElem?_map, List.getElem?_range hi2]
      exact h4
/-- a certificate as numbers -/
structure CM where
  s : Int
  bs : List BM
def CtS (w : World) (v : Value) (Y : CM) : Prop := ∃ u, v = .agg #[.int .i64 Y.s, u] ∧ SlB w u Y.bs
theorem CtS.below {w w' : World} {v : Value} {Y : CM} (h : CtS w v Y) (hb : Below w.heap.size w w') : CtS w' v Y := by
  obtain ⟨u, e, h1⟩ := h
  exact ⟨u, e, h1.below hb⟩
theorem cellsLC : Tryd.prog.cellsOf 46 = 2 := by kernel_rfl
theorem cellsLBs : Tryd.prog.cellsOf 44 = 1 := by kernel_rfl
theorem open_cert {H : Type} {enc : TypeId × Value → H} {W : World} {base : Nat} {v : Value} {d : DataW H} {p : List MemPlace} (hv : Value.okWide Tryd.prog W .any base 46 v) (h : DataW.Trod enc Tryd.prog W 0 (fun _ => true) true 46 v d p) :
    ∃ Y : CM, CtS W v Y ∧ BdB Y.bs := by
  obtain ⟨cs, rfl, hsz⟩ := okWide_struct Tryd.underlying46 hv
  obtain ⟨fuel, hf⟩ := h
  rw [cellsLC] at hsz
  obtain ⟨l⟩ := cs
  match l, hsz with
  | [v0, v1], _ =>
    obtain ⟨y0, y1, n, _, _, h0, h1⟩ := trod_struct2 Tryd.underlying46 hf
    simp only [Value.cells, cellsKI, cellsLBs] at h0 h1
    obtain ⟨s, e0, _, _⟩ := DataW.trod_int Tryd.underlying2 h0
    simp at e0
    subst e0
    obtain ⟨bs, hbs, hb⟩ := open_bsR (v := v1) (by simpa using h1)
    exact ⟨⟨s, bs⟩, ⟨v1, rfl, hbs⟩, hb⟩
section
variable (w : World)
theorem szBS_ok (v : Value) (bs : List BM) (hS : SlB w v bs) (q : Int) (hq0 : 0 ≤ q) (hq : q ≤ 1048576) (hl : (bs.length : Int) + (totB bs bs.length : Nat) ≤ q) :
    Calls Tryd.prog 46 #[v, .int .i64 q] w fun r w' => r = .returned (.int .i64 (q - (bs.length : Int) - (totB bs bs.length : Nat))) ∧ Below w.heap.size w w' := by
  obtain ⟨a, cap, rfl, h1, h2, h3⟩ := hS.rows
  clear hS
  obtain ⟨n, hn⟩ : ∃ n, n = bs.length := ⟨_, rfl⟩
  rw [← hn] at hl h1 ⊢
  have h3' : Hid (0 < n → ∃ b off, a = some ⟨b, off, none⟩ ∧ b < w.heap.size ∧ ∀ i, i < n → BRow w b off (bAt bs i) i) := by rw [hn]; exact h3.out
  clear h3
  replace hn := Lib.hid hn
  go_enter Tryd.func46, Tryd.ntmps46
  go_wp2
  go_loopw [1, 5] (fun x i wr => ∃ k : Nat, k ≤ n ∧ i = .int .i64 k ∧ x = .int .i64 (q - (n : Int) - (totB bs k : Nat)) ∧ Below w.heap.size w wr) (fun _ i _ => n - (intOf i).toNat)
  case atStart => exact ⟨0, by omega, rfl, by simp [totB], by (repeat (first | exact Below.refl _ _ | assumption | refine bchain (by assumption) ?_ | refine balloc ?_ _ | apply Below.drew | apply below_drewN | (refine Below.alloc ?_ (by (try simp) <;> omega) _) | (refine Below.setCell ?_ (by (try simp) <;> omega) _)))⟩
  case round =>
    obtain ⟨k, hk, rfl, rfl, hB⟩ := hrel
    have ht := totB_mono bs hk
    by_cases hlt : k < n
    · obtain ⟨b, off, rfl, hb, hg⟩ := h3'.out (by omega)
      obtain ⟨z, u, hz, hu, hSz, hSu⟩ := hg k hlt
      have ht2 := totB_mono bs (show k + 1 ≤ n from hlt)
      have e1 : (q - (n : Int) - (totB bs k : Nat)) - ((bAt bs k).ks.length : Int) - ((bAt bs k).m.length : Int) - (Fr.tot (bAt bs k).m (bAt bs k).m.length : Nat) = q - (n : Int) - (totB bs (k + 1) : Nat) := by rw [totB]; unfold wtB; push_cast; omega
      have hw : ((bAt bs k).ks.length : Int) + (((bAt bs k).m.length : Int) + (Fr.tot (bAt bs k).m (bAt bs k).m.length : Nat)) ≤ q - (n : Int) - (totB bs k : Nat) := by
        have : totB bs (k + 1) = totB bs k + ((bAt bs k).ks.length + ((bAt bs k).m.length + Fr.tot (bAt bs k).m (bAt bs k).m.length)) := by rw [totB]; rfl
        omega
      have g0 : 0 ≤ q - (n : Int) - (totB bs (k + 1) : Nat) := by omega
      have hC := Lib.hid (fun W (hb : Below w.heap.size w W) => szB_ok W (.agg #[z, u]) (bAt bs k) ⟨z, u, rfl, hSz.below hb, hSu.below hb⟩ (q - (n : Int) - (totB bs k : Nat)) (by omega) (by omega) hw)
      rw [e1] at hC
      have s0 : wr.cell? ⟨b, off + k * 2, none⟩ = some z := (hB.cell (p := ⟨b, _, none⟩) hb).trans hz
      have s1 : wr.cell? ⟨b, off + k * 2 + 1, none⟩ = some u := (hB.cell (p := ⟨b, _, none⟩) hb).trans hu
      obtain ⟨a2, c2, rfl, _⟩ := hSz
      obtain ⟨a3, c3, rfl, _⟩ := hSu
      obtain ⟨m1, hm1⟩ : ∃ l, (bAt bs k).ks.length = l := ⟨_, rfl⟩
      obtain ⟨m2, hm2⟩ : ∃ l, (bAt bs k).m.length = l := ⟨_, rfl⟩
      rw [hm1] at hC s0
      rw [hm2] at hC s1
      obtain ⟨y, hy⟩ : ∃ y, q - (n : Int) - (totB bs (k + 1) : Nat) = y := ⟨_, rfl⟩
      rw [hy] at hC g0
      obtain ⟨x, hx⟩ : ∃ x, q - (n : Int) - (totB bs k : Nat) = x := ⟨_, rfl⟩
      rw [hx] at hC ⊢
      have hkn : (k : Int) < (n : Int) := by omega
      clear hg hz hu e1 ht ht2 hx hw hm1 hm2
      go_wp2_with fail
      refine (hC.out _ hB).mono ?_
      rintro r3 w3 ⟨rfl, hb3⟩
      go_wp2
      go_roundw
      case rel => exact ⟨k + 1, by omega, by go_num, by rw [hy], bchain hb3 hB⟩
      case measure => simp [intOf]; omega
    · have hd := decide_eq_false (show ¬ ((k : Int) < (n : Int)) by omega)
      obtain rfl : k = n := by omega
      go_wp2
      go_ret
      exact ⟨rfl, hB⟩
theorem szBS_bad (v : Value) (bs : List BM) (hS : SlB w v bs) (q : Int) (hq0 : 0 ≤ q) (hq : q ≤ 1048576) (hl : q < (bs.length : Int) + (totB bs bs.length : Nat)) :
    Calls Tryd.prog 46 #[v, .int .i64 q] w fun r w' => r = .returned (.int .i64 (-1)) ∧ Below w.heap.size w w' := by
  obtain ⟨a, cap, rfl, h1, h2, h3⟩ := hS.rows
  clear hS
  obtain ⟨n, hn⟩ : ∃ n, n = bs.length := ⟨_, rfl⟩
  rw [← hn] at hl h1 ⊢
  have h3' : Hid (0 < n → ∃ b off, a = some ⟨b, off, none⟩ ∧ b < w.heap.size ∧ ∀ i, i < n → BRow w b off (bAt bs i) i) := by rw [hn]; exact h3.out
  clear h3
  replace hn := Lib.hid hn
  by_cases hnq : (n : Int) ≤ q
  · have g1 : 0 ≤ q - (n : Int) := by omega
    go_enter Tryd.func46, Tryd.ntmps46
    go_wp2
    go_loopw [1, 5] (fun x i wr => ∃ k : Nat, k ≤ n ∧ i = .int .i64 k ∧ x = .int .i64 (q - (n : Int) - (totB bs k : Nat)) ∧ (totB bs k : Int) ≤ q - (n : Int) ∧ Below w.heap.size w wr) (fun _ i _ => n - (intOf i).toNat)
    case atStart => exact ⟨0, by omega, rfl, by simp [totB], by simp [totB]; omega, by (repeat (first | exact Below.refl _ _ | assumption | refine bchain (by assumption) ?_ | refine balloc ?_ _ | apply Below.drew | apply below_drewN | (refine Below.alloc ?_ (by (try simp) <;> omega) _) | (refine Below.setCell ?_ (by (try simp) <;> omega) _)))⟩
    case round =>
      obtain ⟨k, hk, rfl, rfl, hfit, hB⟩ := hrel
      have hlt : k < n := by
        by_cases c : k = n
        · subst c; omega
        · omega
      obtain ⟨b, off, rfl, hb, hg⟩ := h3'.out (by omega)
      obtain ⟨z, u, hz, hu, hSz, hSu⟩ := hg k hlt
      have s0 : wr.cell? ⟨b, off + k * 2, none⟩ = some z := (hB.cell (p := ⟨b, _, none⟩) hb).trans hz
      have s1 : wr.cell? ⟨b, off + k * 2 + 1, none⟩ = some u := (hB.cell (p := ⟨b, _, none⟩) hb).trans hu
      have hkn : (k : Int) < (n : Int) := by omega
      have et : totB bs (k + 1) = totB bs k + ((bAt bs k).ks.length + ((bAt bs k).m.length + Fr.tot (bAt bs k).m (bAt bs k).m.length)) := by rw [totB]; rfl
      by_cases hw : ((bAt bs k).ks.length : Int) + (((bAt bs k).m.length : Int) + (Fr.tot (bAt bs k).m (bAt bs k).m.length : Nat)) ≤ q - (n : Int) - (totB bs k : Nat)
      · have e1 : (q - (n : Int) - (totB bs k : Nat)) - ((bAt bs k).ks.length : Int) - ((bAt bs k).m.length : Int) - (Fr.tot (bAt bs k).m (bAt bs k).m.length : Nat) = q - (n : Int) - (totB bs (k + 1) : Nat) := by omega
        have g0 : 0 ≤ q - (n : Int) - (totB bs (k + 1) : Nat) := by omega
        have hC := Lib.hid (fun W (hb : Below w.heap.size w W) => szB_ok W (.agg #[z, u]) (bAt bs k) ⟨z, u, rfl, hSz.below hb, hSu.below hb⟩ (q - (n : Int) - (totB bs k : Nat)) (by omega) (by omega) hw)
        rw [e1] at hC
        obtain ⟨a2, c2, rfl, _⟩ := hSz
        obtain ⟨a3, c3, rfl, _⟩ := hSu
        obtain ⟨m1, hm1⟩ : ∃ l, (bAt bs k).ks.length = l := ⟨_, rfl⟩
        obtain ⟨m2, hm2⟩ : ∃ l, (bAt bs k).m.length = l := ⟨_, rfl⟩
        rw [hm1] at hC s0
        rw [hm2] at hC s1
        obtain ⟨y, hy⟩ : ∃ y, q - (n : Int) - (totB bs (k + 1) : Nat) = y := ⟨_, rfl⟩
        have hy2 : ((totB bs (k + 1) : Nat) : Int) ≤ q - (n : Int) := by omega
        rw [hy] at hC g0
        obtain ⟨x, hx⟩ : ∃ x, q - (n : Int) - (totB bs k : Nat) = x := ⟨_, rfl⟩
        rw [hx] at hC ⊢
        clear hg hz hu e1 hx hw et hfit hm1 hm2
        go_wp2_with fail
        refine (hC.out _ hB).mono ?_
        rintro r3 w3 ⟨rfl, hb3⟩
        go_wp2
        go_roundw
        case rel => exact ⟨k + 1, by omega, by go_num, by rw [hy], hy2, bchain hb3 hB⟩
        case measure => simp [intOf]; omega
      · have hC := Lib.hid (fun W (hb : Below w.heap.size w W) => szB_bad W (.agg #[z, u]) (bAt bs k) ⟨z, u, rfl, hSz.below hb, hSu.below hb⟩ (q - (n : Int) - (totB bs k : Nat)) (by omega) (by omega) hw)
        obtain ⟨a2, c2, rfl, _⟩ := hSz
        obtain ⟨a3, c3, rfl, _⟩ := hSu
        obtain ⟨m1, hm1⟩ : ∃ l, (bAt bs k).ks.length = l := ⟨_, rfl⟩
        obtain ⟨m2, hm2⟩ : ∃ l, (bAt bs k).m.length = l := ⟨_, rfl⟩
        rw [hm1] at hC s0
        rw [hm2] at hC s1
        obtain ⟨x, hx⟩ : ∃ x, q - (n : Int) - (totB bs k : Nat) = x := ⟨_, rfl⟩
        rw [hx] at hC ⊢
        clear hg hz hu hx hw et hfit hm1 hm2
        go_wp2_with fail
        refine (hC.out _ hB).mono ?_
        rintro r3 w3 ⟨rfl, hb3⟩
        go_wp2
        go_ret
        exact ⟨rfl, bchain hb3 hB⟩
  · have hw : IntKind.i64.wrap (q - (n : Int)) = q - (n : Int) := IntWalk.i64_in _ ⟨by omega, by omega⟩
    obtain ⟨y, hy⟩ : ∃ y, q - (n : Int) = y := ⟨_, rfl⟩
    have hd : decide (y < 0) = true := decide_eq_true (by omega)
    rw [hy] at hw
    clear h3' hl hnq hn
    go_enter Tryd.func46, Tryd.ntmps46
    go_wp2
    go_ret
    exact ⟨rfl, by (repeat (first | exact Below.refl _ _ | assumption | refine bchain (by assumption) ?_ | refine balloc ?_ _ | apply Below.drew | apply below_drewN | (refine Below.alloc ?_ (by (try simp) <;> omega) _) | (refine Below.setCell ?_ (by (try simp) <;> omega) _)))⟩
theorem toBS_empty (a : Option Addr) (cap : Nat) :
    Calls Tryd.prog 49 #[.slice a 0 cap] w fun r w' => (∃ v, r = .returned v ∧ OwnB w.heap.size w' v []) ∧ Below w.heap.size w w' := by
  obtain ⟨i0, hi0, hz0, hs0, hb0⟩ := info_parts info_block
  have hmk : ∀ W : World, (Instr.makeSlice 49 (.int .i64 0) (.int .i64 0)).run Tryd.prog W = .ok (.slice (some ⟨W.heap.size, 0, none⟩) 0 0) (W.alloc (.cells (madeCells #[.slice none 0 0, .slice none 0 0] (0 * 2)) 107)) := fun W => by
    have hr := run_make (P := Tryd.prog) W 49 107 i0 (.agg #[.slice none 0 0, .slice none 0 0]) Tryd.underlying49 hi0 hz0 .i64 .i64 ((0 : Nat) : Int) ((0 : Nat) : Int) (by omega) (by omega) (by rw [hb0]; omega) (by omega)
    simp only [Int.toNat_natCast, hs0] at hr
    exact hr
  clear hi0 hz0 hs0 hb0
  go_enter Tryd.func49, Tryd.ntmps49
  go_wp2
  go_loopw [4] (fun i wr => i = .int .i64 0 ∧ Below w.heap.size w wr) (fun _ _ => 0)
  case atStart => exact ⟨rfl, by (repeat (first | exact Below.refl _ _ | assumption | refine bchain (by assumption) ?_ | refine balloc ?_ _ | apply Below.drew | apply below_drewN | (refine Below.alloc ?_ (by (try simp) <;> omega) _) | (refine Below.setCell ?_ (by (try simp) <;> omega) _)))⟩
  case round =>
    obtain ⟨rfl, hb⟩ := hrel
    go_wp2
    go_ret
    exact ⟨⟨_, rfl, _, _, rfl, by simp, by simp, fun c => absurd rfl c⟩, hb⟩
set_option maxHeartbeats 2000000 in
theorem toBS_some (b off cap : Nat) (bs : List BM) (h1 : 0 < bs.length) (h2 : bs.length ≤ cap) (hm : bs.length + totB bs bs.length ≤ 1048576) (hb : b < w.heap.size) (hc : ∀ i, i < bs.length → BRow w b off (bAt bs i) i) :
    Calls Tryd.prog 49 #[.slice (some ⟨b, off, none⟩) bs.length cap] w fun r w' => (∃ v, r = .returned v ∧ OwnB w.heap.size w' v bs) ∧ Below w.heap.size w w' := by
  obtain ⟨i0, hi0, hz0, hs0, hb0⟩ := info_parts info_block
  have hwt := Lib.hid (fun i (hi : i < bs.length) => wtB_le bs hi)
  obtain ⟨O, hO⟩ : ∃ O, O = Obj.cells (madeCells #[.slice none 0 0, .slice none 0 0] (bs.length * 2)) 107 := ⟨_, rfl⟩
  obtain ⟨n, hn⟩ : ∃ n, n = bs.length := ⟨_, rfl⟩
  rw [← hn] at h1 h2 hm hO hwt ⊢
  have hmk : ∀ W : World, (Instr.makeSlice 49 (.int .i64 n) (.int .i64 n)).run Tryd.prog W = .ok (.slice (some ⟨W.heap.size, 0, none⟩) n n) (W.alloc O) := fun W => by
    have hr := run_make (P := Tryd.prog) W 49 107 i0 (.agg #[.slice none 0 0, .slice none 0 0]) Tryd.underlying49 hi0 hz0 .i64 .i64 (n : Int) (n : Int) (by omega) (by omega) (by rw [hb0]; omega) (by omega)
    simp only [Int.toNat_natCast, hs0] at hr
    rw [hO]
    exact hr
  clear hi0 hz0 hs0 hb0
  replace hO := Lib.hid hO
  replace hn := Lib.hid hn
  replace hc := Lib.hid hc
  go_enter Tryd.func49, Tryd.ntmps49
  go_wp2
  go_loopw [4] (fun i wr => ∃ k : Nat, k ≤ n ∧ i = .int .i64 k ∧ HalfB wr w.heap.size k bs ∧ (∀ o, wr.frozen? ⟨w.heap.size, o, none⟩ = false) ∧ w.heap.size < wr.heap.size ∧ Below w.heap.size w wr) (fun i _ => n - (intOf i).toNat)
  case atStart => exact ⟨0, by omega, rfl, by rw [hO.out]; exact madeB _ _ _ _ _ rfl hn.out.symm, fun o => by rw [hO.out]; simp, by simp, by (repeat (first | exact Below.refl _ _ | assumption | refine bchain (by assumption) ?_ | refine balloc ?_ _ | apply Below.drew | apply below_drewN | (refine Below.alloc ?_ (by (try simp) <;> omega) _) | (refine Below.setCell ?_ (by (try simp) <;> omega) _)))⟩
  case round =>
    obtain ⟨k, hk, rfl, hh, hf, hz, hB⟩ := hrel
    by_cases hlt : k < n
    · obtain ⟨z, u, hzc, huc, hSz, hSu⟩ := hc.out k (by have := hn.out; omega)
      have s0 : wr.cell? ⟨b, off + k * 2, none⟩ = some z := (hB.cell (p := ⟨b, _, none⟩) hb).trans hzc
      have s1 : wr.cell? ⟨b, off + k * 2 + 1, none⟩ = some u := (hB.cell (p := ⟨b, _, none⟩) hb).trans huc
      have hw := hwt.out k hlt
      unfold wtB at hw
      have hT := Lib.hid (toB_any wr (.agg #[z, u]) (bAt bs k) ⟨z, u, rfl, hSz.below hB, hSu.below hB⟩ (by omega) (by omega) (fun i hi => by have := Fr.row_le (bAt bs k).m hi; omega))
      have hset := Lib.hid (fun (W : World) (z u : Value) (h : HalfB W w.heap.size k bs) (h1 : SlK W z (bAt bs k).ks) (h2 : Fr.SlM W u (bAt bs k).m) (h3 : NewN (w.heap.size + 1) u (bAt bs k).m) => h.set (k := k) (by have := hn.out; omega) h1 h2 h3)
      obtain ⟨a2, c2, rfl, _⟩ := hSz
      obtain ⟨a3, c3, rfl, _⟩ := hSu
      obtain ⟨m1, hm1⟩ : ∃ l, (bAt bs k).ks.length = l := ⟨_, rfl⟩
      obtain ⟨m2, hm2⟩ : ∃ l, (bAt bs k).m.length = l := ⟨_, rfl⟩
      rw [hm1, hm2] at hT
      rw [hm1] at s0
      rw [hm2] at s1
      clear hzc huc hw hm1 hm2
      replace hh := Lib.hid hh
      replace hf := Lib.hid hf
      go_wp2_with fail
      refine hT.out.mono ?_
      rintro r3 w3 ⟨⟨z3, u3, rfl, hz3v, hu3v, hnew⟩, hb3⟩
      have hh3 := hh.out.below hb3 hz
      have hz3 := Nat.lt_of_lt_of_le hz hb3.size
      have ht := hh3 k (by have := hn.out; omega)
      rw [if_neg (by omega)] at ht
      obtain ⟨ht0, ht1⟩ := ht
      have hf3 : ∀ o, w3.frozen? ⟨w.heap.size, o, none⟩ = false := fun o => (hb3.frozen (p := ⟨w.heap.size, o, none⟩) hz).trans (hf.out o)
      have f0 := hf3 (k * 2)
      have f1 := hf3 (k * 2 + 1)
      have hn2 := Lib.hid (hset.out w3 z3 u3 hh3 hz3v hu3v (fun a l c e hm b off hb => Nat.le_trans hz (hnew a l c e hm b off hb)))
      replace hf3 := Lib.hid hf3
      obtain ⟨a4, c4, rfl, _⟩ := hz3v
      obtain ⟨a5, c5, rfl, _⟩ := hu3v
      clear hh3 hnew
      go_wp2
      go_roundw
      case rel => exact ⟨k + 1, by omega, by go_num, hn2.out, fun o => by simp [hf3.out o], by simp; omega, by (repeat (first | exact Below.refl _ _ | assumption | refine bchain (by assumption) ?_ | refine balloc ?_ _ | apply Below.drew | apply below_drewN | (refine Below.alloc ?_ (by (try simp) <;> omega) _) | (refine Below.setCell ?_ (by (try simp) <;> omega) _)))⟩
      case measure => simp [intOf]; omega
    · have hd := decide_eq_false (show ¬ ((k : Int) < (n : Int)) by omega)
      obtain rfl : k = n := by omega
      replace hh := Lib.hid hh
      replace hf := Lib.hid hf
      go_wp2
      go_ret
      refine ⟨⟨_, rfl, ?_⟩, hB⟩
      have e := hn.out
      subst e
      refine ⟨_, _, rfl, Nat.le_refl _, by omega, fun _ => ⟨w.heap.size, 0, rfl, Nat.le_refl _, hz, fun i hi => ?_⟩⟩
      have := hh.out i hi
      rw [if_pos hi] at this
      obtain ⟨z, u, g0, g1, g2, g3, g4⟩ := this
      exact ⟨z, u, g0, g1, g2, g3, fun a l c e hm b off hb => Nat.le_trans (Nat.le_succ _) (g4 a l c e hm b off hb)⟩
theorem toBS_any (v : Value) (bs : List BM) (h : SlB w v bs) (hm : bs.length + totB bs bs.length ≤ 1048576) :
    Calls Tryd.prog 49 #[v] w fun r w' => (∃ u, r = .returned u ∧ OwnB w.heap.size w' u bs) ∧ Below w.heap.size w w' := by
  obtain ⟨a, cap, rfl, h1, h2, h3⟩ := h
  cases bs with
  | nil => exact toBS_empty w a cap
  | cons z zs =>
    obtain ⟨b, off, rfl, hb, hc⟩ := h3 (by simp)
    exact toBS_some w b off cap (z :: zs) (by simp) h1 hm hb hc
set_option maxHeartbeats 2000000 in
theorem eqBS_any (u v : Value) (bs : List BM) (h : SlB w u bs) (h' : SlB w v bs) (hm : bs.length + totB bs bs.length ≤ 1048576) :
    Calls Tryd.prog 54 #[u, v] w fun r w' => r = .returned (.bool true) ∧ Below w.heap.size w w' := by
  obtain ⟨a, cap, rfl, h1, h2, h3⟩ := h.rows
  obtain ⟨a', cap', rfl, h1', h2', h3'⟩ := h'.rows
  clear h h'
  have hwt := Lib.hid (fun i (hi : i < bs.length) => wtB_le bs hi)
  obtain ⟨n, hn⟩ : ∃ n, bs.length = n := ⟨_, rfl⟩
  rw [hn] at hm h1 h1' h3 h3' hwt ⊢
  clear hn
  go_enter Tryd.func54, Tryd.ntmps54
  go_wp2
  go_loopw [5] (fun i wr => ∃ k : Nat, k ≤ n ∧ i = .int .i64 k ∧ Below w.heap.size w wr) (fun i _ => n - (intOf i).toNat)
  case atStart => exact ⟨0, by omega, rfl, by (repeat (first | exact Below.refl _ _ | assumption | refine bchain (by assumption) ?_ | refine balloc ?_ _ | apply Below.drew | apply below_drewN | (refine Below.alloc ?_ (by (try simp) <;> omega) _) | (refine Below.setCell ?_ (by (try simp) <;> omega) _)))⟩
  case round =>
    obtain ⟨k, hk, rfl, hB⟩ := hrel
    by_cases hlt : k < n
    · obtain ⟨b, off, rfl, hb, hg⟩ := h3.out (by omega)
      obtain ⟨b', off', rfl, hb', hg'⟩ := h3'.out (by omega)
      obtain ⟨z, u, hzc, huc, hSz, hSu⟩ := hg k hlt
      obtain ⟨z', u', hzc', huc', hSz', hSu'⟩ := hg' k hlt
      have hw := hwt.out k hlt
      unfold wtB at hw
      have hE := Lib.hid (fun W (hb : Below wr.heap.size wr W) => eqB_any W (bAt bs k) z u z' u' ((hSz.below hB).below hb) ((hSu.below hB).below hb) ((hSz'.below hB).below hb) ((hSu'.below hB).below hb) (by omega) (by omega) (fun i hi => by have := Fr.row_le (bAt bs k).m hi; omega))
      have hbz : b < wr.heap.size := by have := hB.size; omega
      have hbz' : b' < wr.heap.size := by have := hB.size; omega
      have q0 := bw_cell hbz ((hB.cell (p := ⟨b, _, none⟩) hb).trans hzc)
      have q1 := bw_cell hbz ((hB.cell (p := ⟨b, _, none⟩) hb).trans huc)
      have p0 := bw_cell hbz' ((hB.cell (p := ⟨b', _, none⟩) hb').trans hzc')
      have p1 := bw_cell hbz' ((hB.cell (p := ⟨b', _, none⟩) hb').trans huc')
      obtain ⟨a2, c2, rfl, _⟩ := hSz
      obtain ⟨a3, c3, rfl, _⟩ := hSu
      obtain ⟨a4, c4, rfl, _⟩ := hSz'
      obtain ⟨a5, c5, rfl, _⟩ := hSu'
      obtain ⟨m1, hm1⟩ : ∃ l, (bAt bs k).ks.length = l := ⟨_, rfl⟩
      obtain ⟨m2, hm2⟩ : ∃ l, (bAt bs k).m.length = l := ⟨_, rfl⟩
      rw [hm1, hm2] at hE
      simp only [hm1] at q0 p0
      simp only [hm2] at q1 p1
      have hkn : (k : Int) < (n : Int) := by omega
      have hk0 : (0 : Int) ≤ (k : Int) := by omega
      clear hzc huc hzc' huc' hw hg hg' hm1 hm2
      go_wp2_with fail
      refine wp_region_below (by kernel_rfl) (by kernel_rfl) ?_
      iterate 8 (quiet_step (fail))
      refine wpQuiet_step (fun K hK => ?_)
      go_simp
      apply Exists.intro
      refine ⟨fun p => ?_, hK _ ?_⟩
      · exact bw_of (w := wr) (p := p) (hE.out p.W p.h)
      clear hK K
      iterate 1 (quiet_step (fail))
      refine wpQuiet_nil ?_
      intro w3 hw'
      obtain ⟨⟨wx, hb_w3⟩, rfl⟩ := hw'
      go_wp2
      go_roundw
      case rel => exact ⟨k + 1, by omega, by go_num, hB.trans (hb_w3.mono hB.size)⟩
      case measure => simp [intOf]; omega
    · have hd := decide_eq_false (show ¬ ((k : Int) < (n : Int)) by omega)
      go_wp2
      go_ret
      exact ⟨rfl, hB⟩
end
end Go.Proofs.YtiedombphcdpbaaDoor
/-
  FAMILIES OF FLAGS (one type, one size): the program's words and the model's.
-/
namespace Go.Proofs.YtiedombphcdpbaaDoor
open Go.RowKit
set_option maxRecDepth 100000
def tyK (gs : List (Int × Int × Int)) (i : Nat) : Int × Nat := ((kAt gs i).1, onL (kAt gs i).2.2.toNat (List.range (kAt gs i).1.toNat))
def SameT (gs : List (Int × Int × Int)) (m : Nat) : Prop := ∀ i, i < m → tyK gs i = tyK gs 0
def SameN (gs : List (Int × Int × Int)) (m : Nat) : Prop := ∀ i, i < m → (kAt gs i).2.1 = (kAt gs 0).2.1
/-- a family of flags -/
def FamK (gs : List (Int × Int × Int)) : Prop := AllK gs ∧ gs.length ≤ 8 ∧ 0 < gs.length ∧ SameT gs gs.length ∧ SameN gs gs.length
section
variable (w : World)
theorem isz2_any (k n e : Int) :
    Calls Tryd.prog 113 #[.agg #[.int .i64 k, .int .i64 n, .int .u32 e]] w fun r w' => r = .returned (.int .i64 n) ∧ Below w.heap.size w w' := by
  go_enter Tryd.func113, Tryd.ntmps113
  go_wp2
  go_ret
  exact ⟨rfl, by (repeat (first | exact Below.refl _ _ | assumption | refine bchain (by assumption) ?_ | refine balloc ?_ _ | apply Below.drew | apply below_drewN | (refine Below.alloc ?_ (by (try simp) <;> omega) _) | (refine Below.setCell ?_ (by (try simp) <;> omega) _)))⟩
set_option maxHeartbeats 2000000 in
theorem sft_any (a : Option Addr) (cap : Nat) (gs : List (Int × Int × Int)) (hl : gs.length ≤ 8) (h0 : 0 < gs.length) (hc : LiesK w a gs) (hV : AllK gs) (B : Bool) (hB0 : B = true ↔ SameT gs gs.length) :
    Calls Tryd.prog 148 #[.slice a gs.length cap, .func (.func 112) #[] #[]] w fun r w' => r = .returned (.bool B) ∧ Below w.heap.size w w' := by
  obtain ⟨b, off, rfl, hb, hg0⟩ := hc 0 h0
  have hg : Hid (∀ i, i < gs.length → KCell w b off (kAt gs i) i) := fun i hi => by
    obtain ⟨b', off', e, _, h⟩ := hc i hi
    cases e
    exact h
  obtain ⟨x0, y0, z0, hq0, hv0⟩ := kv_nat (hV 0 h0)
  have hKV := Lib.hid (fun i (hi : i < gs.length) => kv_nat (hV i hi))
  rw [hq0] at hg0
  unfold KCell at hg0
  rw [Nat.zero_mul, Nat.add_zero] at hg0
  have hT0 := Lib.hid (fun W => ity_any W x0 y0 z0 hv0)
  have ht0 : Hid (tyK gs 0 = ((x0 : Int), onL z0 (List.range x0))) := by show _ = _; unfold tyK; rw [hq0]; simp
  obtain ⟨u0, hu0⟩ : ∃ u, onL z0 (List.range x0) = u := ⟨_, rfl⟩
  rw [hu0] at hT0 ht0
  replace hB0 := Lib.hid hB0
  obtain ⟨n, hn⟩ : ∃ n, gs.length = n := ⟨_, rfl⟩
  rw [hn] at hl h0 hg hKV hB0 ⊢
  clear hc hV hn hu0 hv0 hq0
  go_enter Tryd.func148, Tryd.ntmps148
  go_wp2
  go_loopw [6, 9] (fun _ i wr => ∃ k : Nat, k ≤ n ∧ i = .int .i64 k ∧ Hid (SameT gs k) ∧ Below w.heap.size w wr) (fun _ i _ => n - (intOf i).toNat)
  case atStart => exact ⟨0, by omega, rfl, fun j hj => by omega, by (repeat (first | exact Below.refl _ _ | assumption | refine bchain (by assumption) ?_ | refine balloc ?_ _ | apply Below.drew | apply below_drewN | (refine Below.alloc ?_ (by (try simp) <;> omega) _) | (refine Below.setCell ?_ (by (try simp) <;> omega) _)))⟩
  case round =>
    obtain ⟨k, hk, rfl, hs, hB⟩ := hrel
    by_cases hlt : k < n
    · obtain ⟨x, y, z, hxy, hv⟩ := hKV.out k hlt
      have hgk := hg.out k hlt
      rw [hxy] at hgk
      have s0 : wr.cell? ⟨b, off + k * 3, none⟩ = some (.int .i64 x) := by rw [hB.cell (p := ⟨b, _, none⟩) hb, hgk.1]
      have s1 : wr.cell? ⟨b, off + k * 3 + 1, none⟩ = some (.int .i64 y) := by rw [hB.cell (p := ⟨b, _, none⟩) hb, hgk.2.1]
      have s2 : wr.cell? ⟨b, off + k * 3 + 2, none⟩ = some (.int .u32 z) := by rw [hB.cell (p := ⟨b, _, none⟩) hb, hgk.2.2]
      have hT := Lib.hid (fun W => ity_any W x y z hv)
      have ht : Hid (tyK gs k = ((x : Int), onL z (List.range x))) := by show _ = _; unfold tyK; rw [hxy]; simp
      obtain ⟨u, hu⟩ : ∃ u, onL z (List.range x) = u := ⟨_, rfl⟩
      rw [hu] at hT ht
      obtain ⟨W1, hW1⟩ : ∃ W1, W1 = wr.alloc (.cells #[.int .i64 x, .int .i64 y, .int .u32 z] 92) := ⟨_, rfl⟩
      have hBW : Below wr.heap.size wr W1 := by rw [hW1]; (repeat (first | exact Below.refl _ _ | assumption | refine bchain (by assumption) ?_ | refine balloc ?_ _ | apply Below.drew | apply below_drewN | (refine Below.alloc ?_ (by (try simp) <;> omega) _) | (refine Below.setCell ?_ (by (try simp) <;> omega) _)))
      have fb : FC W1 wr.heap.size x y z := by rw [hW1]; exact FC.made _ _ _ _ _
      replace hW1 := Lib.hid hW1
      have hbz : b < W1.heap.size := by have := hB.size; have := hBW.size; omega
      have hBB := hB.trans (hBW.mono hB.size)
      have q0 := bw_cell fb.lt fb.c0
      have q1 := bw_cell fb.lt fb.c1
      have q2 := bw_cell fb.lt fb.c2
      have p0 := bw_cell hbz ((hBB.cell (p := ⟨b, _, none⟩) hb).trans hg0.1)
      have p1 := bw_cell hbz ((hBB.cell (p := ⟨b, _, none⟩) hb).trans hg0.2.1)
      have p2 := bw_cell hbz ((hBB.cell (p := ⟨b, _, none⟩) hb).trans hg0.2.2)
      have hkl : (k : Int) < (n : Int) := by omega
      have hk0 : (0 : Int) ≤ (k : Int) := by omega
      have hn0 : (0 : Int) < (n : Int) := by omega
      clear hgk hu hxy hv
      by_cases he : tyK gs k = tyK gs 0
      · have hq : ∀ W, (Op.equalIn 10000 37 (.agg #[.int .i64 (x : Int), .int .u32 (u : Int)]) (.agg #[.int .i64 (x0 : Int), .int .u32 (u0 : Int)])).run Tryd.prog W = .ok true W := fun W => by
          rw [eqGrK]
          rw [ht.out, ht0.out] at he
          injection he with h1 h2
          subst h2
          rw [h1]
          simp
        have hs2 : Hid (SameT gs (k + 1)) := fun j hj => by
          by_cases e : j = k
          · rw [e]; exact he
          · exact hs.out j (by omega)
        clear he hs ht
        go_wp2_with fail
        rw [← hW1.out]
        refine wp_region_below (by kernel_rfl) (by kernel_rfl) ?_
        iterate 2 (quiet_step (fail))
        refine wpQuiet_step (fun K hK => ?_)
        go_simp
        apply Exists.intro
        refine ⟨fun p => ?_, hK _ ?_⟩
        · exact bw_of (w := W1) (p := p) (hT.out p.W)
        clear hK K
        iterate 4 (quiet_step (fail))
        refine wpQuiet_step (fun K hK => ?_)
        go_simp
        apply Exists.intro
        refine ⟨fun p => ?_, hK _ ?_⟩
        · exact bw_of (w := W1) (p := p) (hT0.out p.W)
        clear hK K
        iterate 1 (quiet_step (fail))
        refine wpQuiet_nil ?_
        intro w3 hw'
        obtain ⟨⟨wx, hb_w3⟩, rfl⟩ := hw'
        go_wp2
        go_roundw
        case rel => exact ⟨k + 1, by omega, by go_num, hs2, hB.trans ((hBW.trans (hb_w3.mono hBW.size)).mono hB.size)⟩
        case measure => simp [intOf]; omega
      · have hq : ∀ W, (Op.equalIn 10000 37 (.agg #[.int .i64 (x : Int), .int .u32 (u : Int)]) (.agg #[.int .i64 (x0 : Int), .int .u32 (u0 : Int)])).run Tryd.prog W = .ok false W := fun W => by
          rw [eqGrK]
          rw [ht.out, ht0.out] at he
          have : ((x : Int) == (x0 : Int) && (u : Int) == (u0 : Int)) = false := by
            rw [Bool.eq_false_iff]
            intro h
            simp at h
            obtain ⟨h1, h2⟩ := h
            exact he (by rw [show x = x0 by omega, show u = u0 by omega])
          rw [this]
        obtain rfl : B = false := by
          rw [Bool.eq_false_iff]
          intro c
          exact he (hB0.out.1 c k hlt)
        clear he hs ht hB0
        go_wp2_with fail
        rw [← hW1.out]
        refine wp_region_below (by kernel_rfl) (by kernel_rfl) ?_
        iterate 2 (quiet_step (fail))
        refine wpQuiet_step (fun K hK => ?_)
        go_simp
        apply Exists.intro
        refine ⟨fun p => ?_, hK _ ?_⟩
        · exact bw_of (w := W1) (p := p) (hT.out p.W)
        clear hK K
        iterate 4 (quiet_step (fail))
        refine wpQuiet_step (fun K hK => ?_)
        go_simp
        apply Exists.intro
        refine ⟨fun p => ?_, hK _ ?_⟩
        · exact bw_of (w := W1) (p := p) (hT0.out p.W)
        clear hK K
        iterate 1 (quiet_step (fail))
        refine wpQuiet_nil ?_
        intro w3 hw'
        obtain ⟨⟨wx, hb_w3⟩, rfl⟩ := hw'
        go_wp2
        go_ret
        exact ⟨rfl, hB.trans ((hBW.trans (hb_w3.mono hBW.size)).mono hB.size)⟩
    · obtain rfl : k = n := by omega
      have hd := decide_eq_false (show ¬ ((k : Int) < (k : Int)) by omega)
      obtain rfl : B = true := hB0.out.2 hs.out
      go_wp2
      go_ret
      exact ⟨rfl, hB⟩
set_option maxHeartbeats 2000000 in
theorem sfn_any (a : Option Addr) (cap : Nat) (gs : List (Int × Int × Int)) (hl : gs.length ≤ 8) (h0 : 0 < gs.length) (hc : LiesK w a gs) (B : Bool) (hB0 : B = true ↔ SameN gs gs.length) :
    Calls Tryd.prog 149 #[.slice a gs.length cap, .func (.func 113) #[] #[]] w fun r w' => r = .returned (.bool B) ∧ Below w.heap.size w w' := by
  obtain ⟨b, off, rfl, hb, hg0⟩ := hc 0 h0
  have hg : Hid (∀ i, i < gs.length → KCell w b off (kAt gs i) i) := fun i hi => by
    obtain ⟨b', off', e, _, h⟩ := hc i hi
    cases e
    exact h
  obtain ⟨x0, y0, z0, hq0⟩ : ∃ x y z, kAt gs 0 = (x, y, z) := ⟨_, _, _, rfl⟩
  rw [hq0] at hg0
  unfold KCell at hg0
  rw [Nat.zero_mul, Nat.add_zero] at hg0
  have hT0 := Lib.hid (fun W => isz2_any W x0 y0 z0)
  replace hq0 := Lib.hid hq0
  replace hB0 := Lib.hid hB0
  obtain ⟨n, hn⟩ : ∃ n, gs.length = n := ⟨_, rfl⟩
  rw [hn] at hl h0 hg hB0 ⊢
  clear hc hn
  go_enter Tryd.func149, Tryd.ntmps149
  go_wp2
  go_loopw [6, 9] (fun _ i wr => ∃ k : Nat, k ≤ n ∧ i = .int .i64 k ∧ Hid (SameN gs k) ∧ Below w.heap.size w wr) (fun _ i _ => n - (intOf i).toNat)
  case atStart => exact ⟨0, by omega, rfl, fun j hj => by omega, by (repeat (first | exact Below.refl _ _ | assumption | refine bchain (by assumption) ?_ | refine balloc ?_ _ | apply Below.drew | apply below_drewN | (refine Below.alloc ?_ (by (try simp) <;> omega) _) | (refine Below.setCell ?_ (by (try simp) <;> omega) _)))⟩
  case round =>
    obtain ⟨k, hk, rfl, hs, hB⟩ := hrel
    by_cases hlt : k < n
    · obtain ⟨x, y, z, hxy⟩ : ∃ x y z, kAt gs k = (x, y, z) := ⟨_, _, _, rfl⟩
      have hgk := hg.out k hlt
      rw [hxy] at hgk
      have s0 : wr.cell? ⟨b, off + k * 3, none⟩ = some (.int .i64 x) := by rw [hB.cell (p := ⟨b, _, none⟩) hb, hgk.1]
      have s1 : wr.cell? ⟨b, off + k * 3 + 1, none⟩ = some (.int .i64 y) := by rw [hB.cell (p := ⟨b, _, none⟩) hb, hgk.2.1]
      have s2 : wr.cell? ⟨b, off + k * 3 + 2, none⟩ = some (.int .u32 z) := by rw [hB.cell (p := ⟨b, _, none⟩) hb, hgk.2.2]
      have hT := Lib.hid (fun W => isz2_any W x y z)
      have hyk : Hid ((kAt gs k).2.1 = y) := by show _ = _; rw [hxy]
      have hy0 : Hid ((kAt gs 0).2.1 = y0) := by show _ = _; rw [hq0.out]
      obtain ⟨W1, hW1⟩ : ∃ W1, W1 = wr.alloc (.cells #[.int .i64 x, .int .i64 y, .int .u32 z] 92) := ⟨_, rfl⟩
      have hBW : Below wr.heap.size wr W1 := by rw [hW1]; (repeat (first | exact Below.refl _ _ | assumption | refine bchain (by assumption) ?_ | refine balloc ?_ _ | apply Below.drew | apply below_drewN | (refine Below.alloc ?_ (by (try simp) <;> omega) _) | (refine Below.setCell ?_ (by (try simp) <;> omega) _)))
      have fb : FC W1 wr.heap.size x y z := by rw [hW1]; exact FC.made _ _ _ _ _
      replace hW1 := Lib.hid hW1
      have hbz : b < W1.heap.size := by have := hB.size; have := hBW.size; omega
      have hBB := hB.trans (hBW.mono hB.size)
      have q0 := bw_cell fb.lt fb.c0
      have q1 := bw_cell fb.lt fb.c1
      have q2 := bw_cell fb.lt fb.c2
      have p0 := bw_cell hbz ((hBB.cell (p := ⟨b, _, none⟩) hb).trans hg0.1)
      have p1 := bw_cell hbz ((hBB.cell (p := ⟨b, _, none⟩) hb).trans hg0.2.1)
      have p2 := bw_cell hbz ((hBB.cell (p := ⟨b, _, none⟩) hb).trans hg0.2.2)
      have hkl : (k : Int) < (n : Int) := by omega
      have hk0 : (0 : Int) ≤ (k : Int) := by omega
      have hn0 : (0 : Int) < (n : Int) := by omega
      clear hgk hxy
      by_cases he : y = y0
      · have hq : (y != y0) = false := by simp [he]
        have hs2 : Hid (SameN gs (k + 1)) := fun j hj => by
          by_cases e : j = k
          · rw [e, hyk.out, hy0.out]; exact he
          · exact hs.out j (by omega)
        clear he hs hyk
        go_wp2_with fail
        rw [← hW1.out]
        refine wp_region_below (by kernel_rfl) (by kernel_rfl) ?_
        iterate 2 (quiet_step (fail))
        refine wpQuiet_step (fun K hK => ?_)
        go_simp
        apply Exists.intro
        refine ⟨fun p => ?_, hK _ ?_⟩
        · exact bw_of (w := W1) (p := p) (hT.out p.W)
        clear hK K
        iterate 4 (quiet_step (fail))
        refine wpQuiet_step (fun K hK => ?_)
        go_simp
        apply Exists.intro
        refine ⟨fun p => ?_, hK _ ?_⟩
        · exact bw_of (w := W1) (p := p) (hT0.out p.W)
        clear hK K
        iterate 1 (quiet_step (fail))
        refine wpQuiet_nil ?_
        intro w3 hw'
        obtain ⟨⟨wx, hb_w3⟩, rfl⟩ := hw'
        go_wp2
        go_roundw
        case rel => exact ⟨k + 1, by omega, by go_num, hs2, hB.trans ((hBW.trans (hb_w3.mono hBW.size)).mono hB.size)⟩
        case measure => simp [intOf]; omega
      · have hq : (y != y0) = true := by simp [he]
        obtain rfl : B = false := by
          rw [Bool.eq_false_iff]
          intro c
          have := hB0.out.1 c k hlt
          rw [hyk.out, hy0.out] at this
          exact he this
        clear he hs hyk hB0
        go_wp2_with fail
        rw [← hW1.out]
        refine wp_region_below (by kernel_rfl) (by kernel_rfl) ?_
        iterate 2 (quiet_step (fail))
        refine wpQuiet_step (fun K hK => ?_)
        go_simp
        apply Exists.intro
        refine ⟨fun p => ?_, hK _ ?_⟩
        · exact bw_of (w := W1) (p := p) (hT.out p.W)
        clear hK K
        iterate 4 (quiet_step (fail))
        refine wpQuiet_step (fun K hK => ?_)
        go_simp
        apply Exists.intro
        refine ⟨fun p => ?_, hK _ ?_⟩
        · exact bw_of (w := W1) (p := p) (hT0.out p.W)
        clear hK K
        iterate 1 (quiet_step (fail))
        refine wpQuiet_nil ?_
        intro w3 hw'
        obtain ⟨⟨wx, hb_w3⟩, rfl⟩ := hw'
        go_wp2
        go_ret
        exact ⟨rfl, hB.trans ((hBW.trans (hb_w3.mono hBW.size)).mono hB.size)⟩
    · obtain rfl : k = n := by omega
      have hd := decide_eq_false (show ¬ ((k : Int) < (k : Int)) by omega)
      obtain rfl : B = true := hB0.out.2 hs.out
      go_wp2
      go_ret
      exact ⟨rfl, hB⟩
end
end Go.Proofs.YtiedombphcdpbaaDoor
/-
  FAMILIES OF FLAGS: the program's code of pairs, and the model's code of a family.
-/
namespace Go.Proofs.YtiedombphcdpbaaDoor
open Go.RowKit
set_option maxRecDepth 100000
attribute [local go_sem] Oper.semAt_some
section
variable (w : World)
set_option maxHeartbeats 1000000 in
theorem icp_any (gs : List (Int × Int × Int)) (hm : gs.length ≤ 1048576) (hV : AllK gs) :
    ∃ c : Int, (c = 0 ↔ FamK gs) ∧ ∀ (w : World) (a : Option Addr) (cap : Nat), LiesK w a gs → Calls Tryd.prog 126 #[.slice a gs.length cap] w fun r w' => r = .returned (.int .i64 c) ∧ Below w.heap.size w w' := by
  by_cases h8 : gs.length ≤ 8
  · by_cases h0 : 0 < gs.length
    · obtain ⟨B1, hB1⟩ : ∃ B : Bool, (B = true ↔ SameT gs gs.length) := ⟨@decide (SameT gs gs.length) (Classical.propDecidable _), by simp⟩
      obtain ⟨B2, hB2⟩ : ∃ B : Bool, (B = true ↔ SameN gs gs.length) := ⟨@decide (SameN gs gs.length) (Classical.propDecidable _), by simp⟩
      refine ⟨if B1 && B2 then 0 else 4, ?_, fun w a cap hc => ?_⟩
      · unfold FamK
        cases hb1 : B1 with
        | false =>
          simp
          intro _ _ _ hs
          have := hB1.2 hs
          rw [hb1] at this
          cases this
        | true =>
          cases hb2 : B2 with
          | false =>
            simp
            intro _ _ _ _ hs
            have := hB2.2 hs
            rw [hb2] at this
            cases this
          | true =>
            simp
            exact ⟨hV, h8, h0, hB1.1 hb1, hB2.1 hb2⟩
      have h1 := Lib.hid (fun W (hb : Below w.heap.size w W) => sft_any W a cap gs h8 h0 (hc.below hb) hV B1 hB1)
      have h2 := Lib.hid (fun W (hb : Below w.heap.size w W) => sfn_any W a cap gs h8 h0 (hc.below hb) B2 hB2)
      obtain ⟨n, hn⟩ : ∃ n, gs.length = n := ⟨_, rfl⟩
      rw [hn] at h8 h0 h1 h2 ⊢
      clear hn hB1 hB2 hc hV hm
      have hd8 := decide_eq_false (show ¬ (8 : Int) < (n : Int) by omega)
      have hd0 : ((n : Int) == 0) = false := by simp; omega
      cases B1 with
      | false =>
        go_enter Tryd.func126, Tryd.ntmps126
        go_wp2_with fail
        refine (h1.out _ (by (repeat (first | exact Below.refl _ _ | assumption | refine bchain (by assumption) ?_ | refine balloc ?_ _ | apply Below.drew | apply below_drewN | (refine Below.alloc ?_ (by (try simp) <;> omega) _) | (refine Below.setCell ?_ (by (try simp) <;> omega) _))))).mono ?_
        rintro r1 w1 ⟨rfl, hb1⟩
        go_wp2
        go_ret
        exact ⟨rfl, by (repeat (first | exact Below.refl _ _ | assumption | refine bchain (by assumption) ?_ | refine balloc ?_ _ | apply Below.drew | apply below_drewN | (refine Below.alloc ?_ (by (try simp) <;> omega) _) | (refine Below.setCell ?_ (by (try simp) <;> omega) _)))⟩
      | true =>
        cases B2 with
        | false =>
          go_enter Tryd.func126, Tryd.ntmps126
          go_wp2_with fail
          refine (h1.out _ (by (repeat (first | exact Below.refl _ _ | assumption | refine bchain (by assumption) ?_ | refine balloc ?_ _ | apply Below.drew | apply below_drewN | (refine Below.alloc ?_ (by (try simp) <;> omega) _) | (refine Below.setCell ?_ (by (try simp) <;> omega) _))))).mono ?_
          rintro r1 w1 ⟨rfl, hb1⟩
          go_wp2_with fail
          refine (h2.out _ (by (repeat (first | exact Below.refl _ _ | assumption | refine bchain (by assumption) ?_ | refine balloc ?_ _ | apply Below.drew | apply below_drewN | (refine Below.alloc ?_ (by (try simp) <;> omega) _) | (refine Below.setCell ?_ (by (try simp) <;> omega) _))))).mono ?_
          rintro r2 w2 ⟨rfl, hb2⟩
          go_wp2
          go_ret
          exact ⟨rfl, by (repeat (first | exact Below.refl _ _ | assumption | refine bchain (by assumption) ?_ | refine balloc ?_ _ | apply Below.drew | apply below_drewN | (refine Below.alloc ?_ (by (try simp) <;> omega) _) | (refine Below.setCell ?_ (by (try simp) <;> omega) _)))⟩
        | true =>
          go_enter Tryd.func126, Tryd.ntmps126
          go_wp2_with fail
          refine (h1.out _ (by (repeat (first | exact Below.refl _ _ | assumption | refine bchain (by assumption) ?_ | refine balloc ?_ _ | apply Below.drew | apply below_drewN | (refine Below.alloc ?_ (by (try simp) <;> omega) _) | (refine Below.setCell ?_ (by (try simp) <;> omega) _))))).mono ?_
          rintro r1 w1 ⟨rfl, hb1⟩
          go_wp2_with fail
          refine (h2.out _ (by (repeat (first | exact Below.refl _ _ | assumption | refine bchain (by assumption) ?_ | refine balloc ?_ _ | apply Below.drew | apply below_drewN | (refine Below.alloc ?_ (by (try simp) <;> omega) _) | (refine Below.setCell ?_ (by (try simp) <;> omega) _))))).mono ?_
          rintro r2 w2 ⟨rfl, hb2⟩
          go_wp2
          go_ret
          exact ⟨rfl, by (repeat (first | exact Below.refl _ _ | assumption | refine bchain (by assumption) ?_ | refine balloc ?_ _ | apply Below.drew | apply below_drewN | (refine Below.alloc ?_ (by (try simp) <;> omega) _) | (refine Below.setCell ?_ (by (try simp) <;> omega) _)))⟩
    · refine ⟨4, ⟨fun c => by omega, fun c => absurd c.2.2.1 h0⟩, fun w a cap hc => ?_⟩
      rw [show gs.length = 0 by omega]
      clear hc hV hm h8 h0
      go_enter Tryd.func126, Tryd.ntmps126
      go_wp2
      go_ret
      exact ⟨rfl, by (repeat (first | exact Below.refl _ _ | assumption | refine bchain (by assumption) ?_ | refine balloc ?_ _ | apply Below.drew | apply below_drewN | (refine Below.alloc ?_ (by (try simp) <;> omega) _) | (refine Below.setCell ?_ (by (try simp) <;> omega) _)))⟩
  · refine ⟨3, ⟨fun c => by omega, fun c => absurd c.2.1 h8⟩, fun w a cap hc => ?_⟩
    obtain ⟨n, hn⟩ : ∃ n, gs.length = n := ⟨_, rfl⟩
    rw [hn] at h8 hm ⊢
    have hd8 := decide_eq_true (show (8 : Int) < (n : Int) by omega)
    clear hn hc hV
    go_enter Tryd.func126, Tryd.ntmps126
    go_wp2
    go_ret
    exact ⟨rfl, by (repeat (first | exact Below.refl _ _ | assumption | refine bchain (by assumption) ?_ | refine balloc ?_ _ | apply Below.drew | apply below_drewN | (refine Below.alloc ?_ (by (try simp) <;> omega) _) | (refine Below.setCell ?_ (by (try simp) <;> omega) _)))⟩
set_option maxHeartbeats 1000000 in
theorem sfam_bad (a : Option Addr) (cap : Nat) (gs : List (Int × Int × Int)) (hm : gs.length ≤ 1048576) (hc : LiesK w a gs) (hbd : BdK gs) (m : Nat) (hm2 : m < gs.length) (hV : ∀ k, k < m → KV gs k) (hbad : ¬ KV gs m) :
    Calls Tryd.prog 147 #[.slice a gs.length cap] w fun r w' => r = .returned (.int .i64 1) ∧ Below w.heap.size w w' := by
  obtain ⟨n, hn⟩ : ∃ n, n = gs.length := ⟨_, rfl⟩
  rw [← hn] at hm hm2 ⊢
  replace hc := Lib.hid hc
  replace hV := Lib.hid hV
  replace hbd := Lib.hid hbd
  replace hn := Lib.hid hn
  replace hbad := Lib.hid hbad
  go_enter Tryd.func147, Tryd.ntmps147
  go_wp2
  go_loopw [3] (fun i wr => ∃ k : Nat, k ≤ m ∧ i = .int .i64 k ∧ Below w.heap.size w wr) (fun i _ => n - (intOf i).toNat)
  case atStart => exact ⟨0, by omega, rfl, by (repeat (first | exact Below.refl _ _ | assumption | refine bchain (by assumption) ?_ | refine balloc ?_ _ | apply Below.drew | apply below_drewN | (refine Below.alloc ?_ (by (try simp) <;> omega) _) | (refine Below.setCell ?_ (by (try simp) <;> omega) _)))⟩
  case round =>
    obtain ⟨k, hk, rfl, hB⟩ := hrel
    obtain ⟨b, off, rfl, hb, hg⟩ := hc.out k (by have := hn.out; omega)
    obtain ⟨x, y, z, hxy⟩ : ∃ x y z, kAt gs k = (x, y, z) := ⟨_, _, _, rfl⟩
    have s0 : wr.cell? ⟨b, off + k * 3, none⟩ = some (.int .i64 x) := by rw [hB.cell (p := ⟨b, _, none⟩) hb, hg.1, hxy]
    have s1 : wr.cell? ⟨b, off + k * 3 + 1, none⟩ = some (.int .i64 y) := by rw [hB.cell (p := ⟨b, _, none⟩) hb, hg.2.1, hxy]
    have s2 : wr.cell? ⟨b, off + k * 3 + 2, none⟩ = some (.int .u32 z) := by rw [hB.cell (p := ⟨b, _, none⟩) hb, hg.2.2, hxy]
    have hkn : (k : Int) < (n : Int) := by omega
    have hk0 : (0 : Int) ≤ (k : Int) := by omega
    by_cases hlt : k < m
    · have hv : KV gs k := hV.out k hlt
      unfold KV at hv
      rw [hxy] at hv
      have hC := Lib.hid (fun W => sok_t W x y z hv)
      clear hg hxy hv
      go_wp2_with fail
      refine (hC.out _).mono ?_
      rintro r3 w3 ⟨rfl, hb3⟩
      go_wp2
      go_roundw
      case rel => exact ⟨k + 1, by omega, by go_num, by (repeat (first | exact Below.refl _ _ | assumption | refine bchain (by assumption) ?_ | refine balloc ?_ _ | apply Below.drew | apply below_drewN | (refine Below.alloc ?_ (by (try simp) <;> omega) _) | (refine Below.setCell ?_ (by (try simp) <;> omega) _)))⟩
      case measure => simp [intOf]; omega
    · obtain rfl : k = m := by omega
      have hv := hbad.out
      have hbk := hbd.out k (by have := hn.out; omega)
      unfold KV at hv
      rw [hxy] at hv hbk
      have hC := Lib.hid (fun W => sok_f W x y z hbk.2 hbk.1 hv)
      clear hg hxy hv hbk
      go_wp2_with fail
      refine (hC.out _).mono ?_
      rintro r3 w3 ⟨rfl, hb3⟩
      go_wp2
      go_ret
      exact ⟨rfl, by (repeat (first | exact Below.refl _ _ | assumption | refine bchain (by assumption) ?_ | refine balloc ?_ _ | apply Below.drew | apply below_drewN | (refine Below.alloc ?_ (by (try simp) <;> omega) _) | (refine Below.setCell ?_ (by (try simp) <;> omega) _)))⟩
set_option maxHeartbeats 4000000 in
theorem sfam_any (gs : List (Int × Int × Int)) (hm : gs.length ≤ 1048576) (hV : AllK gs) :
    ∃ c : Int, (c = 0 ↔ FamK gs) ∧ ∀ (w : World) (a : Option Addr) (cap : Nat), LiesK w a gs → Calls Tryd.prog 147 #[.slice a gs.length cap] w fun r w' => r = .returned (.int .i64 c) ∧ Below w.heap.size w w' := by
  obtain ⟨B, hB0⟩ : ∃ B : Bool, (B = true ↔ (SameT gs gs.length ∧ SameN gs gs.length)) := ⟨@decide (SameT gs gs.length ∧ SameN gs gs.length) (Classical.propDecidable _), by simp⟩
  by_cases h8 : gs.length ≤ 8
  · refine ⟨if 0 < gs.length ∧ B = true then 0 else 4, ?_, fun w a cap hc => ?_⟩
    · unfold FamK
      by_cases h0 : 0 < gs.length
      · cases hb : B with
        | false =>
          simp
          intro _ _ _ h1 h2
          have := hB0.2 ⟨h1, h2⟩
          rw [hb] at this
          cases this
        | true =>
          rw [if_pos ⟨h0, rfl⟩]
          have := hB0.1 hb
          exact ⟨fun _ => ⟨hV, h8, h0, this.1, this.2⟩, fun _ => rfl⟩
      · rw [if_neg (fun h => h0 h.1)]
        exact ⟨fun c => by omega, fun c => absurd c.2.2.1 h0⟩
    obtain ⟨n, hn⟩ : ∃ n, n = gs.length := ⟨_, rfl⟩
    replace hB0 := Lib.hid hB0
    rw [← hn] at hm h8 ⊢
    replace hc := Lib.hid hc
    replace hV := Lib.hid hV
    replace hn := Lib.hid hn
    have hd8 := decide_eq_false (show ¬ (8 : Int) < (n : Int) by omega)
    by_cases h0 : 0 < n
    · have hd0 : ((n : Int) == 0) = false := by simp; omega
      rw [show (if 0 < n ∧ B = true then (0 : Int) else 4) = (if B = true then 0 else 4) by simp [h0]]
      go_enter Tryd.func147, Tryd.ntmps147
      go_wp2
      go_loopw [3] (fun i wr => ∃ k : Nat, k ≤ n ∧ i = .int .i64 k ∧ Below w.heap.size w wr) (fun i _ => n - (intOf i).toNat)
      case atStart => exact ⟨0, by omega, rfl, by (repeat (first | exact Below.refl _ _ | assumption | refine bchain (by assumption) ?_ | refine balloc ?_ _ | apply Below.drew | apply below_drewN | (refine Below.alloc ?_ (by (try simp) <;> omega) _) | (refine Below.setCell ?_ (by (try simp) <;> omega) _)))⟩
      case round =>
        obtain ⟨k, hk, rfl, hB⟩ := hrel
        by_cases hlt : k < n
        · obtain ⟨b, off, rfl, hb, hg⟩ := hc.out k (by have := hn.out; omega)
          have hv : KV gs k := hV.out k (by have := hn.out; omega)
          unfold KV at hv
          obtain ⟨x, y, z, hxy⟩ : ∃ x y z, kAt gs k = (x, y, z) := ⟨_, _, _, rfl⟩
          rw [hxy] at hv
          have s0 : wr.cell? ⟨b, off + k * 3, none⟩ = some (.int .i64 x) := by rw [hB.cell (p := ⟨b, _, none⟩) hb, hg.1, hxy]
          have s1 : wr.cell? ⟨b, off + k * 3 + 1, none⟩ = some (.int .i64 y) := by rw [hB.cell (p := ⟨b, _, none⟩) hb, hg.2.1, hxy]
          have s2 : wr.cell? ⟨b, off + k * 3 + 2, none⟩ = some (.int .u32 z) := by rw [hB.cell (p := ⟨b, _, none⟩) hb, hg.2.2, hxy]
          have hC := Lib.hid (fun W => sok_t W x y z hv)
          have hkn : (k : Int) < (n : Int) := by omega
          have hk0 : (0 : Int) ≤ (k : Int) := by omega
          clear hg hxy hv
          go_wp2_with fail
          refine (hC.out _).mono ?_
          rintro r3 w3 ⟨rfl, hb3⟩
          go_wp2
          go_roundw
          case rel => exact ⟨k + 1, by omega, by go_num, by (repeat (first | exact Below.refl _ _ | assumption | refine bchain (by assumption) ?_ | refine balloc ?_ _ | apply Below.drew | apply below_drewN | (refine Below.alloc ?_ (by (try simp) <;> omega) _) | (refine Below.setCell ?_ (by (try simp) <;> omega) _)))⟩
          case measure => simp [intOf]; omega
        · obtain rfl : k = n := by omega
          have hd := decide_eq_false (show ¬ ((k : Int) < (k : Int)) by omega)
          rename World => V
          clear hd
          obtain ⟨b, off, rfl, hb, hg0⟩ := hc.out 0 (by have := hn.out; omega)
          have hg : Hid (∀ i, i < k → KCell w b off (kAt gs i) i) := fun i hi => by
            obtain ⟨b', off', e, _, h⟩ := hc.out i (by have := hn.out; omega)
            cases e
            exact h
          obtain ⟨x0, y0, z0, hq0, hv0⟩ := kv_nat (hV.out 0 (by have := hn.out; omega))
          have hKV := Lib.hid (fun i (hi : i < k) => kv_nat (hV.out i (by have := hn.out; omega)))
          rw [hq0] at hg0
          unfold KCell at hg0
          rw [Nat.zero_mul, Nat.add_zero] at hg0
          have hT0 := Lib.hid (fun W => sty_any W x0 y0 z0 hv0)
          have ht0 : Hid (tyK gs 0 = ((x0 : Int), onL z0 (List.range x0))) := by show _ = _; unfold tyK; rw [hq0]; simp
          have hy0 : Hid ((kAt gs 0).2.1 = (y0 : Int)) := by show _ = _; rw [hq0]
          obtain ⟨u0, hu0⟩ : ∃ u, onL z0 (List.range x0) = u := ⟨_, rfl⟩
          rw [hu0] at hT0 ht0
          clear hc hV hu0 hv0 hq0
          go_wp2
          go_loopw [4] (fun i wr => ∃ j : Nat, 1 ≤ j ∧ j ≤ k ∧ i = .int .i64 j ∧ Hid (SameT gs j ∧ SameN gs j) ∧ Below w.heap.size w wr) (fun i _ => k - (intOf i).toNat)
          case atStart => exact ⟨1, by omega, by omega, rfl, ⟨fun i hi => by rw [show i = 0 by omega], fun i hi => by rw [show i = 0 by omega]⟩, hB⟩
          case round =>
            clear hB
            obtain ⟨j, hj1, hj, rfl, hs, hB⟩ := hrel
            by_cases hlt2 : j < k
            · obtain ⟨x, y, z, hxy, hv⟩ := hKV.out j hlt2
              have hgk := hg.out j hlt2
              rw [hxy] at hgk
              have hbz : b < wr.heap.size := by have := hB.size; omega
              have q0 := bw_cell hbz ((hB.cell (p := ⟨b, _, none⟩) hb).trans hgk.1)
              have q1 := bw_cell hbz ((hB.cell (p := ⟨b, _, none⟩) hb).trans hgk.2.1)
              have q2 := bw_cell hbz ((hB.cell (p := ⟨b, _, none⟩) hb).trans hgk.2.2)
              have p0 := bw_cell hbz ((hB.cell (p := ⟨b, _, none⟩) hb).trans hg0.1)
              have p1 := bw_cell hbz ((hB.cell (p := ⟨b, _, none⟩) hb).trans hg0.2.1)
              have p2 := bw_cell hbz ((hB.cell (p := ⟨b, _, none⟩) hb).trans hg0.2.2)
              have hT := Lib.hid (fun W => sty_any W x y z hv)
              have ht : Hid (tyK gs j = ((x : Int), onL z (List.range x))) := by show _ = _; unfold tyK; rw [hxy]; simp
              have hyj : Hid ((kAt gs j).2.1 = (y : Int)) := by show _ = _; rw [hxy]
              obtain ⟨u, hu⟩ : ∃ u, onL z (List.range x) = u := ⟨_, rfl⟩
              rw [hu] at hT ht
              have hkl : (j : Int) < (k : Int) := by omega
              have hj0 : (0 : Int) ≤ (j : Int) := by omega
              have hn0 : (0 : Int) < (k : Int) := by omega
              clear hgk hu hxy hv
              by_cases he : tyK gs j = tyK gs 0
              · have hq : ∀ W, (Op.equalIn 10000 37 (.agg #[.int .i64 (x : Int), .int .u32 (u : Int)]) (.agg #[.int .i64 (x0 : Int), .int .u32 (u0 : Int)])).run Tryd.prog W = .ok true W := fun W => by
                  rw [eqGrK]
                  have he2 := he
                  rw [ht.out, ht0.out] at he2
                  injection he2 with h1 h2
                  subst h2
                  rw [h1]
                  simp
                by_cases hy : (y : Int) = (y0 : Int)
                · have hyq : ((y : Int) != (y0 : Int)) = false := by simp; omega
                  have hs2 : Hid (SameT gs (j + 1) ∧ SameN gs (j + 1)) := ⟨fun i hi => by
                    by_cases e : i = j
                    · rw [e]; exact he
                    · exact hs.out.1 i (by omega), fun i hi => by
                    by_cases e : i = j
                    · rw [e, hyj.out, hy0.out]; exact hy
                    · exact hs.out.2 i (by omega)⟩
                  clear he hs ht hy hyj
                  go_wp2_with fail
                  refine wp_region_below (by kernel_rfl) (by kernel_rfl) ?_
                  iterate 4 (quiet_step (fail))
                  refine wpQuiet_step (fun K hK => ?_)
                  go_simp
                  apply Exists.intro
                  refine ⟨fun p => ?_, hK _ ?_⟩
                  · exact bw_of (w := wr) (p := p) (hT.out p.W)
                  clear hK K
                  iterate 3 (quiet_step (fail))
                  refine wpQuiet_step (fun K hK => ?_)
                  go_simp
                  apply Exists.intro
                  refine ⟨fun p => ?_, hK _ ?_⟩
                  · exact bw_of (w := wr) (p := p) (hT0.out p.W)
                  clear hK K
                  iterate 2 (quiet_step (fail))
                  iterate 12 (quiet_step (fail))
                  iterate 1 (quiet_step (fail))
                  refine wpQuiet_nil ?_
                  intro w3 hw'
                  obtain ⟨⟨wx, hb_w3⟩, rfl⟩ := hw'
                  go_wp2
                  go_roundw
                  case rel => exact ⟨j + 1, by omega, by omega, by go_num, hs2, hB.trans (hb_w3.mono hB.size)⟩
                  case measure => simp [intOf]; omega
                · have hyq : ((y : Int) != (y0 : Int)) = true := by simp; omega
                  obtain rfl : B = false := by
                    rw [Bool.eq_false_iff]
                    intro c
                    have h := (hB0.out.1 c).2 j (by have := hn.out; omega)
                    rw [hyj.out, hy0.out] at h
                    exact hy h
                  clear he hs ht hy hyj hB0
                  go_wp2_with fail
                  refine wp_region_below (by kernel_rfl) (by kernel_rfl) ?_
                  iterate 4 (quiet_step (fail))
                  refine wpQuiet_step (fun K hK => ?_)
                  go_simp
                  apply Exists.intro
                  refine ⟨fun p => ?_, hK _ ?_⟩
                  · exact bw_of (w := wr) (p := p) (hT.out p.W)
                  clear hK K
                  iterate 3 (quiet_step (fail))
                  refine wpQuiet_step (fun K hK => ?_)
                  go_simp
                  apply Exists.intro
                  refine ⟨fun p => ?_, hK _ ?_⟩
                  · exact bw_of (w := wr) (p := p) (hT0.out p.W)
                  clear hK K
                  iterate 2 (quiet_step (fail))
                  iterate 12 (quiet_step (fail))
                  iterate 1 (quiet_step (fail))
                  refine wpQuiet_nil ?_
                  intro w3 hw'
                  obtain ⟨⟨wx, hb_w3⟩, rfl⟩ := hw'
                  go_wp2
                  go_ret
                  exact ⟨rfl, hB.trans (hb_w3.mono hB.size)⟩
              · have hq : ∀ W, (Op.equalIn 10000 37 (.agg #[.int .i64 (x : Int), .int .u32 (u : Int)]) (.agg #[.int .i64 (x0 : Int), .int .u32 (u0 : Int)])).run Tryd.prog W = .ok false W := fun W => by
                  rw [eqGrK]
                  have he2 := he
                  rw [ht.out, ht0.out] at he2
                  have : ((x : Int) == (x0 : Int) && (u : Int) == (u0 : Int)) = false := by
                    rw [Bool.eq_false_iff]
                    intro h
                    simp at h
                    obtain ⟨h1, h2⟩ := h
                    exact he2 (by rw [show x = x0 by omega, show u = u0 by omega])
                  rw [this]
                obtain rfl : B = false := by
                  rw [Bool.eq_false_iff]
                  intro c
                  exact he ((hB0.out.1 c).1 j (by have := hn.out; omega))
                clear he hs ht hyj hB0
                go_wp2_with fail
                refine wp_region_below (by kernel_rfl) (by kernel_rfl) ?_
                iterate 4 (quiet_step (fail))
                refine wpQuiet_step (fun K hK => ?_)
                go_simp
                apply Exists.intro
                refine ⟨fun p => ?_, hK _ ?_⟩
                · exact bw_of (w := wr) (p := p) (hT.out p.W)
                clear hK K
                iterate 3 (quiet_step (fail))
                refine wpQuiet_step (fun K hK => ?_)
                go_simp
                apply Exists.intro
                refine ⟨fun p => ?_, hK _ ?_⟩
                · exact bw_of (w := wr) (p := p) (hT0.out p.W)
                clear hK K
                iterate 2 (quiet_step (fail))
                iterate 12 go_big_quiet_skip
                iterate 1 (quiet_step (fail))
                refine wpQuiet_nil ?_
                intro w3 hw'
                obtain ⟨⟨wx, hb_w3⟩, rfl⟩ := hw'
                go_wp2
                go_ret
                exact ⟨rfl, hB.trans (hb_w3.mono hB.size)⟩
            · obtain rfl : j = k := by omega
              have hd := decide_eq_false (show ¬ ((j : Int) < (j : Int)) by omega)
              obtain rfl : B = true := hB0.out.2 (by rw [← hn.out]; exact hs.out)
              go_wp2
              go_ret
              exact ⟨rfl, hB⟩
    · obtain rfl : n = 0 := by omega
      rw [show (if 0 < 0 ∧ B = true then (0 : Int) else 4) = 4 by simp]
      go_enter Tryd.func147, Tryd.ntmps147
      go_wp2
      go_loopw [3] (fun i wr => i = .int .i64 0 ∧ Below w.heap.size w wr) (fun _ _ => 0)
      case atStart => exact ⟨rfl, by (repeat (first | exact Below.refl _ _ | assumption | refine bchain (by assumption) ?_ | refine balloc ?_ _ | apply Below.drew | apply below_drewN | (refine Below.alloc ?_ (by (try simp) <;> omega) _) | (refine Below.setCell ?_ (by (try simp) <;> omega) _)))⟩
      case round =>
        obtain ⟨rfl, hB⟩ := hrel
        go_wp2
        go_ret
        exact ⟨rfl, hB⟩
  · refine ⟨3, ⟨fun c => by omega, fun c => absurd c.2.1 h8⟩, fun w a cap hc => ?_⟩
    obtain ⟨n, hn⟩ : ∃ n, n = gs.length := ⟨_, rfl⟩
    rw [← hn] at hm h8 ⊢
    replace hc := Lib.hid hc
    replace hV := Lib.hid hV
    replace hn := Lib.hid hn
    have hd8 := decide_eq_true (show (8 : Int) < (n : Int) by omega)
    clear hB0
    go_enter Tryd.func147, Tryd.ntmps147
    go_wp2
    go_loopw [3] (fun i wr => ∃ k : Nat, k ≤ n ∧ i = .int .i64 k ∧ Below w.heap.size w wr) (fun i _ => n - (intOf i).toNat)
    case atStart => exact ⟨0, by omega, rfl, by (repeat (first | exact Below.refl _ _ | assumption | refine bchain (by assumption) ?_ | refine balloc ?_ _ | apply Below.drew | apply below_drewN | (refine Below.alloc ?_ (by (try simp) <;> omega) _) | (refine Below.setCell ?_ (by (try simp) <;> omega) _)))⟩
    case round =>
      obtain ⟨k, hk, rfl, hB⟩ := hrel
      by_cases hlt : k < n
      · obtain ⟨b, off, rfl, hb, hg⟩ := hc.out k (by have := hn.out; omega)
        have hv : KV gs k := hV.out k (by have := hn.out; omega)
        unfold KV at hv
        obtain ⟨x, y, z, hxy⟩ : ∃ x y z, kAt gs k = (x, y, z) := ⟨_, _, _, rfl⟩
        rw [hxy] at hv
        have s0 : wr.cell? ⟨b, off + k * 3, none⟩ = some (.int .i64 x) := by rw [hB.cell (p := ⟨b, _, none⟩) hb, hg.1, hxy]
        have s1 : wr.cell? ⟨b, off + k * 3 + 1, none⟩ = some (.int .i64 y) := by rw [hB.cell (p := ⟨b, _, none⟩) hb, hg.2.1, hxy]
        have s2 : wr.cell? ⟨b, off + k * 3 + 2, none⟩ = some (.int .u32 z) := by rw [hB.cell (p := ⟨b, _, none⟩) hb, hg.2.2, hxy]
        have hC := Lib.hid (fun W => sok_t W x y z hv)
        have hkn : (k : Int) < (n : Int) := by omega
        have hk0 : (0 : Int) ≤ (k : Int) := by omega
        clear hg hxy hv
        go_wp2_with fail
        refine (hC.out _).mono ?_
        rintro r3 w3 ⟨rfl, hb3⟩
        go_wp2
        go_roundw
        case rel => exact ⟨k + 1, by omega, by go_num, by (repeat (first | exact Below.refl _ _ | assumption | refine bchain (by assumption) ?_ | refine balloc ?_ _ | apply Below.drew | apply below_drewN | (refine Below.alloc ?_ (by (try simp) <;> omega) _) | (refine Below.setCell ?_ (by (try simp) <;> omega) _)))⟩
        case measure => simp [intOf]; omega
      · obtain rfl : k = n := by omega
        have hd := decide_eq_false (show ¬ ((k : Int) < (k : Int)) by omega)
        go_wp2
        go_ret
        exact ⟨rfl, hB⟩
end
end Go.Proofs.YtiedombphcdpbaaDoor
/-
  WHICH BLOCKS ARE VALID: the program's word and the model's.
-/
namespace Go.Proofs.YtiedombphcdpbaaDoor
open Go.RowKit
set_option maxRecDepth 100000
attribute [local go_sem] Oper.semAt_some
def VB (Y : BM) : Prop := FamK Y.ks ∧ Fr.VM Y.m ∧ Y.m.length = Y.ks.length
section
variable (w : World)
set_option maxHeartbeats 1000000 in
theorem ivb_any (Y : BM) (z u : Value) (hz : SlK w z Y.ks) (hu : Fr.SlM w u Y.m) (hbd : BdK Y.ks) (hm : Y.ks.length ≤ 1048576) (hm2 : Y.m.length ≤ 1048576) (hr : ∀ i, i < Y.m.length → (Fr.rAt Y.m i).length ≤ 1048576) (B : Bool) (hB : B = true ↔ VB Y) :
    Calls Tryd.prog 88 #[.agg #[z, u]] w fun r w' => r = .returned (.bool B) ∧ Below w.heap.size w w' := by
  unfold VB at hB
  obtain ⟨ks, m⟩ := Y
  dsimp only at *
  obtain ⟨BM, hBM⟩ : ∃ B : Bool, (B = true ↔ Fr.VM m) := ⟨@decide (Fr.VM m) (Classical.propDecidable _), by simp⟩
  have hM := Lib.hid (fun W (hb : Below w.heap.size w W) => Fr.ivm_any W u m (hu.below hb) hm2 hr BM hBM.2 (fun h => by rw [Bool.eq_false_iff]; exact fun c => h (hBM.1 c)))
  obtain ⟨a, cap, rfl, hl⟩ := hz.lies
  obtain ⟨au, cu, rfl, _⟩ := hu
  by_cases h1 : AllK ks
  · obtain ⟨c, hc, hP⟩ := icp_any ks hm h1
    have hA := Lib.hid (fun W (hb : Below w.heap.size w W) => avk_t W a cap ks hm (hl.below hb) h1)
    replace hP := Lib.hid (fun W (hb : Below w.heap.size w W) => hP W a cap (hl.below hb))
    rw [← hc, ← hBM] at hB
    obtain ⟨l1, hl1⟩ : ∃ l, ks.length = l := ⟨_, rfl⟩
    obtain ⟨l2, hl2⟩ : ∃ l, m.length = l := ⟨_, rfl⟩
    rw [hl1] at hA hP hB ⊢
    rw [hl2] at hM hB ⊢
    clear hz hl hbd hm hm2 hr h1 hl1 hl2 hBM hc
    obtain ⟨W0, hW0⟩ : ∃ W0, W0 = w.alloc (.cells #[.slice a l1 cap, .slice au l2 cu] 107) := ⟨_, rfl⟩
    have hb0 : Below w.heap.size w W0 := by rw [hW0]; (repeat (first | exact Below.refl _ _ | assumption | refine bchain (by assumption) ?_ | refine balloc ?_ _ | apply Below.drew | apply below_drewN | (refine Below.alloc ?_ (by (try simp) <;> omega) _) | (refine Below.setCell ?_ (by (try simp) <;> omega) _)))
    have k0 : BB W0 w.heap.size (.slice a l1 cap) (.slice au l2 cu) := by rw [hW0]; exact BB.made _ _ _ _
    replace hW0 := Lib.hid hW0
    obtain ⟨_, x0, x1, _⟩ := id k0
    by_cases h2 : c = 0
    · subst h2
      cases BM with
      | true =>
        have hd : ((l2 : Int) == (l1 : Int)) = B := by
          rw [Bool.eq_iff_iff, hB]
          simp
          omega
        clear hB
        go_enter Tryd.func88, Tryd.ntmps88
        go_wp2_with fail
        rw [← hW0.out]
        go_wp2_with fail
        refine (hA.out _ hb0).mono ?_
        rintro r1 w1 ⟨rfl, hb1⟩
        replace k0 := k0.below hb1
        replace hb0 := bchain hb1 hb0
        clear hb1 x0 x1
        obtain ⟨_, x0, x1, _⟩ := id k0
        go_wp2_with fail
        refine (hP.out _ hb0).mono ?_
        rintro r2 w2 ⟨rfl, hb2⟩
        replace k0 := k0.below hb2
        replace hb0 := bchain hb2 hb0
        clear hb2 x0 x1
        obtain ⟨_, x0, x1, _⟩ := id k0
        go_wp2_with fail
        refine (hM.out _ hb0).mono ?_
        rintro r3 w3 ⟨rfl, hb3⟩
        replace k0 := k0.below hb3
        replace hb0 := bchain hb3 hb0
        clear hb3 x0 x1
        obtain ⟨_, x0, x1, _⟩ := id k0
        go_wp2
        go_ret
        exact ⟨rfl, hb0⟩
      | false =>
        obtain rfl : B = false := by
          rw [Bool.eq_false_iff]; intro c; have := (hB.1 c).2.1; cases this
        clear hB
        go_enter Tryd.func88, Tryd.ntmps88
        go_wp2_with fail
        rw [← hW0.out]
        go_wp2_with fail
        refine (hA.out _ hb0).mono ?_
        rintro r1 w1 ⟨rfl, hb1⟩
        replace k0 := k0.below hb1
        replace hb0 := bchain hb1 hb0
        clear hb1 x0 x1
        obtain ⟨_, x0, x1, _⟩ := id k0
        go_wp2_with fail
        refine (hP.out _ hb0).mono ?_
        rintro r2 w2 ⟨rfl, hb2⟩
        replace k0 := k0.below hb2
        replace hb0 := bchain hb2 hb0
        clear hb2 x0 x1
        obtain ⟨_, x0, x1, _⟩ := id k0
        go_wp2_with fail
        refine (hM.out _ hb0).mono ?_
        rintro r3 w3 ⟨rfl, hb3⟩
        go_wp2
        go_ret
        exact ⟨rfl, bchain hb3 hb0⟩
    · obtain rfl : B = false := by
        rw [Bool.eq_false_iff]; intro c; exact h2 (hB.1 c).1
      have d1 : (c == 0) = false := by simpa using h2
      clear hB h2
      go_enter Tryd.func88, Tryd.ntmps88
      go_wp2_with fail
      rw [← hW0.out]
      go_wp2_with fail
      refine (hA.out _ hb0).mono ?_
      rintro r1 w1 ⟨rfl, hb1⟩
      replace k0 := k0.below hb1
      replace hb0 := bchain hb1 hb0
      clear hb1 x0 x1
      obtain ⟨_, x0, x1, _⟩ := id k0
      go_wp2_with fail
      refine (hP.out _ hb0).mono ?_
      rintro r2 w2 ⟨rfl, hb2⟩
      go_wp2
      go_ret
      exact ⟨rfl, bchain hb2 hb0⟩
  · obtain ⟨j, j1, j2, j3⟩ := not_allK h1
    have hA := Lib.hid (fun W (hb : Below w.heap.size w W) => avk_f W a cap ks hm (hl.below hb) hbd j j1 j2 j3)
    obtain rfl : B = false := by
      rw [Bool.eq_false_iff]; intro c; exact h1 (hB.1 c).1.1
    obtain ⟨l1, hl1⟩ : ∃ l, ks.length = l := ⟨_, rfl⟩
    obtain ⟨l2, hl2⟩ : ∃ l, m.length = l := ⟨_, rfl⟩
    rw [hl1] at hA ⊢
    rw [hl2]
    clear hz hl hbd hm hm2 hr h1 hl1 hl2 hBM hB hM j1 j2 j3
    obtain ⟨W0, hW0⟩ : ∃ W0, W0 = w.alloc (.cells #[.slice a l1 cap, .slice au l2 cu] 107) := ⟨_, rfl⟩
    have hb0 : Below w.heap.size w W0 := by rw [hW0]; (repeat (first | exact Below.refl _ _ | assumption | refine bchain (by assumption) ?_ | refine balloc ?_ _ | apply Below.drew | apply below_drewN | (refine Below.alloc ?_ (by (try simp) <;> omega) _) | (refine Below.setCell ?_ (by (try simp) <;> omega) _)))
    have k0 : BB W0 w.heap.size (.slice a l1 cap) (.slice au l2 cu) := by rw [hW0]; exact BB.made _ _ _ _
    replace hW0 := Lib.hid hW0
    obtain ⟨_, x0, x1, _⟩ := id k0
    go_enter Tryd.func88, Tryd.ntmps88
    go_wp2_with fail
    rw [← hW0.out]
    go_wp2_with fail
    refine (hA.out _ hb0).mono ?_
    rintro r1 w1 ⟨rfl, hb1⟩
    go_wp2
    go_ret
    exact ⟨rfl, bchain hb1 hb0⟩
/-- a block's cells, from the cell o on -/
structure BC (W : World) (B o : Nat) (z u : Value) : Prop where
  lt : B < W.heap.size
  c0 : W.cell? ⟨B, o, none⟩ = some z
  c1 : W.cell? ⟨B, o + 1, none⟩ = some u
theorem BC.below {W W' : World} {B o : Nat} {z u : Value} (h : BC W B o z u) (hb : Below W.heap.size W W') : BC W' B o z u :=
  ⟨Nat.lt_of_lt_of_le h.lt hb.size, (hb.cell (p := ⟨B, o, none⟩) h.lt).trans h.c0, (hb.cell (p := ⟨B, o + 1, none⟩) h.lt).trans h.c1⟩
set_option maxHeartbeats 2000000 in
theorem s6b_any (Y : BM) (z u : Value) (G o : Nat) (k0 : BC w G o z u) (hz : SlK w z Y.ks) (hu : Fr.SlM w u Y.m) (hbd : BdK Y.ks) (hm : Y.ks.length ≤ 1048576) (hm2 : Y.m.length ≤ 1048576) (hr : ∀ i, i < Y.m.length → (Fr.rAt Y.m i).length ≤ 1048576) (B : Bool) (hB : B = true ↔ VB Y) :
    Calls Tryd.prog 123 #[.pointer (some ⟨G, o, none⟩)] w fun r w' => r = .returned (.bool B) ∧ Below w.heap.size w w' := by
  unfold VB at hB
  obtain ⟨ks, m⟩ := Y
  dsimp only at *
  obtain ⟨BM, hBM⟩ : ∃ B : Bool, (B = true ↔ Fr.VM m) := ⟨@decide (Fr.VM m) (Classical.propDecidable _), by simp⟩
  have hM := Lib.hid (fun W (hb : Below w.heap.size w W) => Fr.svm_any W u m (hu.below hb) hm2 hr BM hBM.2 (fun h => by rw [Bool.eq_false_iff]; exact fun c => h (hBM.1 c)))
  obtain ⟨a, cap, rfl, hl⟩ := hz.lies
  obtain ⟨au, cu, rfl, _⟩ := hu
  have hfam : ∃ c : Int, (c = 0 ↔ FamK ks) ∧ Hid (∀ W, Below w.heap.size w W → Calls Tryd.prog 147 #[.slice a ks.length cap] W fun r w' => r = .returned (.int .i64 c) ∧ Below W.heap.size W w') := by
    by_cases h1 : AllK ks
    · obtain ⟨c, hc, hP⟩ := sfam_any ks hm h1
      exact ⟨c, hc, fun W hb => hP W a cap (hl.below hb)⟩
    · obtain ⟨j, j1, j2, j3⟩ := not_allK h1
      exact ⟨1, ⟨fun c => by omega, fun c => absurd c.1 h1⟩, fun W hb => sfam_bad W a cap ks hm (hl.below hb) hbd j j1 j2 j3⟩
  obtain ⟨c, hc, hP⟩ := hfam
  rw [← hc, ← hBM] at hB
  obtain ⟨l1, hl1⟩ : ∃ l, ks.length = l := ⟨_, rfl⟩
  obtain ⟨l2, hl2⟩ : ∃ l, m.length = l := ⟨_, rfl⟩
  rw [hl1] at hP hB k0
  rw [hl2] at hM hB k0
  clear hz hl hbd hm hm2 hr hl1 hl2 hBM hc
  have q0 := bw_cell k0.lt k0.c0
  have q1 := bw_cell k0.lt k0.c1
  clear k0
  by_cases h2 : c = 0
  · subst h2
    cases BM with
    | true =>
      have hd : ((l2 : Int) == (l1 : Int)) = B := by
        rw [Bool.eq_iff_iff, hB]
        simp
        omega
      clear hB
      go_enter Tryd.func123, Tryd.ntmps123
      go_wp2
      refine wp_region_below (by kernel_rfl) (by kernel_rfl) ?_
      iterate 4 (quiet_step (fail))
      refine wpQuiet_step (fun K hK => ?_)
      go_simp
      apply Exists.intro
      refine ⟨fun p => ?_, hK _ ?_⟩
      · exact bw_of (w := w) (p := p) (hP.out p.W p.h)
      clear hK K
      iterate 2 (quiet_step (fail))
      iterate 4 (quiet_step (fail))
      refine wpQuiet_step (fun K hK => ?_)
      go_simp
      apply Exists.intro
      refine ⟨fun p => ?_, hK _ ?_⟩
      · exact bw_of (w := w) (p := p) (hM.out p.W p.h)
      clear hK K
      iterate 2 (quiet_step (fail))
      iterate 11 (quiet_step (fail))
      iterate 1 (quiet_step (fail))
      iterate 1 (quiet_step (fail))
      refine wpQuiet_nil ?_
      intro w3 hw'
      obtain ⟨⟨wx, hb_w3⟩, rfl⟩ := hw'
      go_wp2
      go_ret
      exact ⟨rfl, hb_w3⟩
    | false =>
      obtain rfl : B = false := by
        rw [Bool.eq_false_iff]; intro c; have := (hB.1 c).2.1; cases this
      clear hB
      go_enter Tryd.func123, Tryd.ntmps123
      go_wp2
      refine wp_region_below (by kernel_rfl) (by kernel_rfl) ?_
      iterate 4 (quiet_step (fail))
      refine wpQuiet_step (fun K hK => ?_)
      go_simp
      apply Exists.intro
      refine ⟨fun p => ?_, hK _ ?_⟩
      · exact bw_of (w := w) (p := p) (hP.out p.W p.h)
      clear hK K
      iterate 2 (quiet_step (fail))
      iterate 4 (quiet_step (fail))
      refine wpQuiet_step (fun K hK => ?_)
      go_simp
      apply Exists.intro
      refine ⟨fun p => ?_, hK _ ?_⟩
      · exact bw_of (w := w) (p := p) (hM.out p.W p.h)
      clear hK K
      iterate 2 (quiet_step (fail))
      iterate 11 go_big_quiet_skip
      iterate 1 (quiet_step (fail))
      iterate 1 (quiet_step (fail))
      refine wpQuiet_nil ?_
      intro w3 hw'
      obtain ⟨⟨wx, hb_w3⟩, rfl⟩ := hw'
      go_wp2
      go_ret
      exact ⟨rfl, hb_w3⟩
  · obtain rfl : B = false := by
      rw [Bool.eq_false_iff]; intro c; exact h2 (hB.1 c).1
    have d1 : (c == 0) = false := by simpa using h2
    clear hB h2
    go_enter Tryd.func123, Tryd.ntmps123
    go_wp2
    refine wp_region_below (by kernel_rfl) (by kernel_rfl) ?_
    iterate 4 (quiet_step (fail))
    refine wpQuiet_step (fun K hK => ?_)
    go_simp
    apply Exists.intro
    refine ⟨fun p => ?_, hK _ ?_⟩
    · exact bw_of (w := w) (p := p) (hP.out p.W p.h)
    clear hK K
    iterate 2 (quiet_step (fail))
    iterate 5 go_big_quiet_skip
    iterate 2 (quiet_step (fail))
    iterate 11 go_big_quiet_skip
    iterate 1 (quiet_step (fail))
    iterate 1 (quiet_step (fail))
    refine wpQuiet_nil ?_
    intro w3 hw'
    obtain ⟨⟨wx, hb_w3⟩, rfl⟩ := hw'
    go_wp2
    go_ret
    exact ⟨rfl, hb_w3⟩
end
end Go.Proofs.YtiedombphcdpbaaDoor
namespace Go.Proofs.YtiedombphcdpbaaDoor
open Go.RowKit
set_option maxRecDepth 100000
attribute [local go_sem] Oper.semAt_some
def AllB (bs : List BM) : Prop := ∀ i, i < bs.length → VB (bAt bs i)
section
variable (w : World)
set_option maxHeartbeats 2000000 in
theorem iab_any (v : Value) (bs : List BM) (hS : SlB w v bs) (hbd : BdB bs) (hm : bs.length + totB bs bs.length ≤ 1048576) (B : Bool) (hB0 : B = true ↔ (bs.length ≤ 6 ∧ AllB bs)) :
    Calls Tryd.prog 51 #[v] w fun r w' => r = .returned (.bool B) ∧ Below w.heap.size w w' := by
  obtain ⟨a, cap, rfl, h1, h2, h3⟩ := hS.rows
  clear hS
  have hwt := Lib.hid (fun i (hi : i < bs.length) => wtB_le bs hi)
  replace hbd := Lib.hid hbd
  obtain ⟨n, hn⟩ : ∃ n, bs.length = n := ⟨_, rfl⟩
  rw [hn] at hm h1 h3 hwt hB0 ⊢
  replace hB0 := Lib.hid hB0
  replace hn := Lib.hid hn
  by_cases h6 : n ≤ 6
  · have hd6 := decide_eq_false (show ¬ (6 : Int) < (n : Int) by omega)
    go_enter Tryd.func51, Tryd.ntmps51
    go_wp2
    go_loopw [4, 10] (fun _ i wr => ∃ k : Nat, k ≤ n ∧ i = .int .i64 k ∧ Hid (∀ j, j < k → VB (bAt bs j)) ∧ Below w.heap.size w wr) (fun _ i _ => n - (intOf i).toNat)
    case atStart => exact ⟨0, by omega, rfl, fun j hj => by omega, by (repeat (first | exact Below.refl _ _ | assumption | refine bchain (by assumption) ?_ | refine balloc ?_ _ | apply Below.drew | apply below_drewN | (refine Below.alloc ?_ (by (try simp) <;> omega) _) | (refine Below.setCell ?_ (by (try simp) <;> omega) _)))⟩
    case round =>
      obtain ⟨k, hk, rfl, hok, hB⟩ := hrel
      by_cases hlt : k < n
      · skip
        obtain ⟨b, off, rfl, hb, hg⟩ := h3.out (by omega)
        obtain ⟨z, u, hzc, huc, hSz, hSu⟩ := hg k hlt
        have hw := hwt.out k hlt
        unfold wtB at hw
        obtain ⟨BE, hBE⟩ : ∃ B : Bool, (B = true ↔ VB (bAt bs k)) := ⟨@decide (VB (bAt bs k)) (Classical.propDecidable _), by simp⟩
        have hE := Lib.hid (fun W (hb : Below wr.heap.size wr W) => ivb_any W (bAt bs k) z u ((hSz.below hB).below hb) ((hSu.below hB).below hb) (hbd.out k (by have := hn.out; omega)) (by omega) (by omega) (fun i hi => by have := Fr.row_le (bAt bs k).m hi; omega) BE hBE)
        have s0 : wr.cell? ⟨b, off + k * 2, none⟩ = some z := (hB.cell (p := ⟨b, _, none⟩) hb).trans hzc
        have s1 : wr.cell? ⟨b, off + k * 2 + 1, none⟩ = some u := (hB.cell (p := ⟨b, _, none⟩) hb).trans huc
        obtain ⟨a2, c2, rfl, _⟩ := hSz
        obtain ⟨a3, c3, rfl, _⟩ := hSu
        obtain ⟨m1, hm1⟩ : ∃ l, (bAt bs k).ks.length = l := ⟨_, rfl⟩
        obtain ⟨m2, hm2⟩ : ∃ l, (bAt bs k).m.length = l := ⟨_, rfl⟩
        rw [hm1, hm2] at hE
        rw [hm1] at s0
        rw [hm2] at s1
        have hkn : (k : Int) < (n : Int) := by omega
        have hk0 : (0 : Int) ≤ (k : Int) := by omega
        clear hzc huc hw hg hm1 hm2
        replace hBE := Lib.hid hBE
        cases BE with
        | true =>
          have hok2 : Hid (∀ j, j < k + 1 → VB (bAt bs j)) := fun j hj => by
            by_cases e : j = k
            · rw [e]; exact hBE.out.1 rfl
            · exact hok.out j (by omega)
          go_wp2_with fail
          refine (hE.out _ (by (repeat (first | exact Below.refl _ _ | assumption | refine bchain (by assumption) ?_ | refine balloc ?_ _ | apply Below.drew | apply below_drewN | (refine Below.alloc ?_ (by (try simp) <;> omega) _) | (refine Below.setCell ?_ (by (try simp) <;> omega) _))))).mono ?_
          rintro r3 w3 ⟨rfl, hb3⟩
          go_wp2
          go_roundw
          case rel => exact ⟨k + 1, by omega, by go_num, hok2, by (repeat (first | exact Below.refl _ _ | assumption | refine bchain (by assumption) ?_ | refine balloc ?_ _ | apply Below.drew | apply below_drewN | (refine Below.alloc ?_ (by (try simp) <;> omega) _) | (refine Below.setCell ?_ (by (try simp) <;> omega) _)))⟩
          case measure => simp [intOf]; omega
        | false =>
          obtain rfl : B = false := by
            rw [Bool.eq_false_iff]
            intro c
            have := hBE.out.2 ((hB0.out.1 c).2 k (by have := hn.out; omega))
            cases this
          clear hB0 hBE
          go_wp2_with fail
          refine (hE.out _ (by (repeat (first | exact Below.refl _ _ | assumption | refine bchain (by assumption) ?_ | refine balloc ?_ _ | apply Below.drew | apply below_drewN | (refine Below.alloc ?_ (by (try simp) <;> omega) _) | (refine Below.setCell ?_ (by (try simp) <;> omega) _))))).mono ?_
          rintro r3 w3 ⟨rfl, hb3⟩
          go_wp2
          go_ret
          exact ⟨rfl, by (repeat (first | exact Below.refl _ _ | assumption | refine bchain (by assumption) ?_ | refine balloc ?_ _ | apply Below.drew | apply below_drewN | (refine Below.alloc ?_ (by (try simp) <;> omega) _) | (refine Below.setCell ?_ (by (try simp) <;> omega) _)))⟩
      · obtain rfl : k = n := by omega
        have hd := decide_eq_false (show ¬ ((k : Int) < (k : Int)) by omega)
        obtain rfl : B = true := hB0.out.2 ⟨h6, fun i hi => hok.out i (by have := hn.out; omega)⟩
        go_wp2
        go_ret
        exact ⟨rfl, hB⟩
  · obtain rfl : B = false := by
      rw [Bool.eq_false_iff]; intro c; exact h6 (hB0.out.1 c).1
    have hd6 := decide_eq_true (show (6 : Int) < (n : Int) by omega)
    clear hB0 h3 hwt hn
    go_enter Tryd.func51, Tryd.ntmps51
    go_wp2
    go_ret
    exact ⟨rfl, by (repeat (first | exact Below.refl _ _ | assumption | refine bchain (by assumption) ?_ | refine balloc ?_ _ | apply Below.drew | apply below_drewN | (refine Below.alloc ?_ (by (try simp) <;> omega) _) | (refine Below.setCell ?_ (by (try simp) <;> omega) _)))⟩
set_option maxHeartbeats 2000000 in
theorem sab_any (v : Value) (bs : List BM) (hS : SlB w v bs) (hbd : BdB bs) (hm : bs.length + totB bs bs.length ≤ 1048576) (B : Bool) (hB0 : B = true ↔ (bs.length ≤ 6 ∧ AllB bs)) :
    Calls Tryd.prog 84 #[v] w fun r w' => r = .returned (.bool B) ∧ Below w.heap.size w w' := by
  obtain ⟨a, cap, rfl, h1, h2, h3⟩ := hS.rows
  clear hS
  have hwt := Lib.hid (fun i (hi : i < bs.length) => wtB_le bs hi)
  replace hbd := Lib.hid hbd
  obtain ⟨n, hn⟩ : ∃ n, bs.length = n := ⟨_, rfl⟩
  rw [hn] at hm h1 h3 hwt hB0 ⊢
  replace hB0 := Lib.hid hB0
  replace hn := Lib.hid hn
  go_enter Tryd.func84, Tryd.ntmps84
  go_wp2
  go_loopw [3] (fun i wr => ∃ k : Nat, k ≤ n ∧ i = .int .i64 k ∧ Hid (∀ j, j < k → VB (bAt bs j)) ∧ Below w.heap.size w wr) (fun i _ => n - (intOf i).toNat)
  case atStart => exact ⟨0, by omega, rfl, fun j hj => by omega, by (repeat (first | exact Below.refl _ _ | assumption | refine bchain (by assumption) ?_ | refine balloc ?_ _ | apply Below.drew | apply below_drewN | (refine Below.alloc ?_ (by (try simp) <;> omega) _) | (refine Below.setCell ?_ (by (try simp) <;> omega) _)))⟩
  case round =>
    obtain ⟨k, hk, rfl, hok, hB⟩ := hrel
    by_cases hlt : k < n
    · skip
      obtain ⟨b, off, rfl, hb, hg⟩ := h3.out (by omega)
      obtain ⟨z, u, hzc, huc, hSz, hSu⟩ := hg k hlt
      have hw := hwt.out k hlt
      unfold wtB at hw
      obtain ⟨BE, hBE⟩ : ∃ B : Bool, (B = true ↔ VB (bAt bs k)) := ⟨@decide (VB (bAt bs k)) (Classical.propDecidable _), by simp⟩
      have hbz : b < wr.heap.size := by have := hB.size; omega
      have hE := Lib.hid (fun W (hb2 : Below wr.heap.size wr W) => s6b_any W (bAt bs k) z u b (off + k * 2) (BC.below (W := wr) ⟨hbz, (hB.cell (p := ⟨b, _, none⟩) hb).trans hzc, (hB.cell (p := ⟨b, off + k * 2 + 1, none⟩) hb).trans huc⟩ hb2) ((hSz.below hB).below hb2) ((hSu.below hB).below hb2) (hbd.out k (by have := hn.out; omega)) (by omega) (by omega) (fun i hi => by have := Fr.row_le (bAt bs k).m hi; omega) BE hBE)
      have hkn : (k : Int) < (n : Int) := by omega
      have hk0 : (0 : Int) ≤ (k : Int) := by omega
      clear hzc huc hw hg hSz hSu
      replace hBE := Lib.hid hBE
      cases BE with
      | true =>
        have hok2 : Hid (∀ j, j < k + 1 → VB (bAt bs j)) := fun j hj => by
          by_cases e : j = k
          · rw [e]; exact hBE.out.1 rfl
          · exact hok.out j (by omega)
        go_wp2_with fail
        refine (hE.out _ (by (repeat (first | exact Below.refl _ _ | assumption | refine bchain (by assumption) ?_ | refine balloc ?_ _ | apply Below.drew | apply below_drewN | (refine Below.alloc ?_ (by (try simp) <;> omega) _) | (refine Below.setCell ?_ (by (try simp) <;> omega) _))))).mono ?_
        rintro r3 w3 ⟨rfl, hb3⟩
        go_wp2
        go_roundw
        case rel => exact ⟨k + 1, by omega, by go_num, hok2, by (repeat (first | exact Below.refl _ _ | assumption | refine bchain (by assumption) ?_ | refine balloc ?_ _ | apply Below.drew | apply below_drewN | (refine Below.alloc ?_ (by (try simp) <;> omega) _) | (refine Below.setCell ?_ (by (try simp) <;> omega) _)))⟩
        case measure => simp [intOf]; omega
      | false =>
        obtain rfl : B = false := by
          rw [Bool.eq_false_iff]
          intro c
          have := hBE.out.2 ((hB0.out.1 c).2 k (by have := hn.out; omega))
          cases this
        clear hB0 hBE
        go_wp2_with fail
        refine (hE.out _ (by (repeat (first | exact Below.refl _ _ | assumption | refine bchain (by assumption) ?_ | refine balloc ?_ _ | apply Below.drew | apply below_drewN | (refine Below.alloc ?_ (by (try simp) <;> omega) _) | (refine Below.setCell ?_ (by (try simp) <;> omega) _))))).mono ?_
        rintro r3 w3 ⟨rfl, hb3⟩
        go_wp2
        go_ret
        exact ⟨rfl, by (repeat (first | exact Below.refl _ _ | assumption | refine bchain (by assumption) ?_ | refine balloc ?_ _ | apply Below.drew | apply below_drewN | (refine Below.alloc ?_ (by (try simp) <;> omega) _) | (refine Below.setCell ?_ (by (try simp) <;> omega) _)))⟩
    · obtain rfl : k = n := by omega
      have hd := decide_eq_false (show ¬ ((k : Int) < (k : Int)) by omega)
      have hd6 : decide ((k : Int) ≤ 6) = B := by
        rw [Bool.eq_iff_iff, decide_eq_true_iff, hB0.out]
        exact ⟨fun h => ⟨by omega, fun i hi => hok.out i (by have := hn.out; omega)⟩, fun h => by omega⟩
      go_wp2
      go_ret
      exact ⟨rfl, hB⟩
end
end Go.Proofs.YtiedombphcdpbaaDoor
/-
  CERTIFICATES: counted, copied, held against each other.
-/
namespace Go.Proofs.YtiedombphcdpbaaDoor
open Go.RowKit
set_option maxRecDepth 100000
def tC (Y : CM) : Nat := Y.bs.length + totB Y.bs Y.bs.length
theorem OwnB.mono {N N' : Nat} {w : World} {v : Value} {bs : List BM} (h : OwnB N w v bs) (hz : N' ≤ N) : OwnB N' w v bs := by
  obtain ⟨a, cap, e, h1, h2, h3⟩ := h
  refine ⟨a, cap, e, h1, h2, fun hzz => ?_⟩
  obtain ⟨b, off, e2, hn, hlt, hc⟩ := h3 hzz
  refine ⟨b, off, e2, by omega, hlt, fun i hi => ?_⟩
  obtain ⟨z, u, g0, g1, g2, g3, g4⟩ := hc i hi
  exact ⟨z, u, g0, g1, g2, g3, fun a l c e hm b off hb => Nat.le_trans hz (g4 a l c e hm b off hb)⟩
/-- a certificate's box -/
structure CB (W : World) (B : Nat) (s : Int) (u : Value) : Prop where
  lt : B < W.heap.size
  c0 : W.cell? ⟨B, 0, none⟩ = some (.int .i64 s)
  c1 : W.cell? ⟨B, 1, none⟩ = some u
  fz : ∀ o, W.frozen? ⟨B, o, none⟩ = false
theorem CB.below {W W' : World} {B : Nat} {s : Int} {u : Value} (h : CB W B s u) (hb : Below W.heap.size W W') : CB W' B s u :=
  ⟨Nat.lt_of_lt_of_le h.lt hb.size, (hb.cell (p := ⟨B, 0, none⟩) h.lt).trans h.c0, (hb.cell (p := ⟨B, 1, none⟩) h.lt).trans h.c1, fun o => (hb.frozen (p := ⟨B, o, none⟩) h.lt).trans (h.fz o)⟩
theorem CB.made (W : World) (s : Int) (u : Value) (t : TypeId) : CB (W.alloc (.cells #[.int .i64 s, u] t)) W.heap.size s u :=
  ⟨by simp, by rw [World.cell?_alloc_new]; rfl, by rw [World.cell?_alloc_new]; rfl, fun o => by simp⟩
theorem CB.other {W : World} {B : Nat} {s : Int} {u : Value} (h : CB W B s u) {a : Addr} (v : Value) (hp : a.block ≠ B) : CB (W.setCell a v) B s u := by
  have hs : (W.setCell a v).heap[B]? = W.heap[B]? := Below.heap_setCell _ _ _ _ (by omega)
  exact ⟨by simpa using h.lt, (World.cell?_of_block (a := ⟨B, 0, none⟩) hs).trans h.c0, (World.cell?_of_block (a := ⟨B, 1, none⟩) hs).trans h.c1, fun o => by simp [h.fz o]⟩
theorem CB.put0 {W : World} {B : Nat} {s : Int} {u : Value} (h : CB W B s u) (s' : Int) : CB (W.setCell ⟨B, 0, none⟩ (.int .i64 s')) B s' u :=
  ⟨by simpa using h.lt, World.cell?_setCell_same _ _ _ h.c0, (World.cell?_setCell_other _ _ _ _ (by simp)).trans h.c1, fun o => by simp [h.fz o]⟩
theorem CB.put1 {W : World} {B : Nat} {s : Int} {u : Value} (h : CB W B s u) (u' : Value) : CB (W.setCell ⟨B, 1, none⟩ u') B s u' :=
  ⟨by simpa using h.lt, (World.cell?_setCell_other _ _ _ _ (by simp)).trans h.c0, World.cell?_setCell_same _ _ _ h.c1, fun o => by simp [h.fz o]⟩
section
variable (w : World)
theorem szC_ok (v : Value) (Y : CM) (h : CtS w v Y) (q : Int) (h0 : 0 ≤ q) (hq : q ≤ 1048576) (hl : (tC Y : Int) ≤ q) :
    Calls Tryd.prog 17 #[v, .int .i64 q] w fun r w' => r = .returned (.int .i64 (q - (tC Y : Int))) ∧ Below w.heap.size w w' := by
  obtain ⟨s, bs⟩ := Y
  obtain ⟨u, rfl, hu⟩ := h
  unfold tC at hl
  dsimp only at *
  have hC := Lib.hid (fun W (hb : Below w.heap.size w W) => szBS_ok W u bs (hu.below hb) q h0 hq (by omega))
  obtain ⟨a, cap, rfl, _⟩ := hu
  unfold tC
  dsimp only
  rw [show q - ((bs.length + totB bs bs.length : Nat) : Int) = q - (bs.length : Int) - (totB bs bs.length : Nat) by push_cast; omega]
  have h2 : 0 ≤ q - (bs.length : Int) - (totB bs bs.length : Nat) := by omega
  obtain ⟨q2, hq2⟩ : ∃ q2, q - (bs.length : Int) - (totB bs bs.length : Nat) = q2 := ⟨_, rfl⟩
  rw [hq2] at hC h2 ⊢
  clear hq2
  obtain ⟨l, hl1⟩ : ∃ l, bs.length = l := ⟨_, rfl⟩
  rw [hl1] at hC ⊢
  clear hl hl1
  obtain ⟨W0, hW0⟩ : ∃ W0, W0 = w.alloc (.cells #[.int .i64 s, .slice a l cap] 46) := ⟨_, rfl⟩
  have hb0 : Below w.heap.size w W0 := by rw [hW0]; (repeat (first | exact Below.refl _ _ | assumption | refine bchain (by assumption) ?_ | refine balloc ?_ _ | apply Below.drew | apply below_drewN | (refine Below.alloc ?_ (by (try simp) <;> omega) _) | (refine Below.setCell ?_ (by (try simp) <;> omega) _)))
  have k0 : CB W0 w.heap.size s (.slice a l cap) := by rw [hW0]; exact CB.made _ _ _ _
  replace hW0 := Lib.hid hW0
  obtain ⟨_, x0, x1, _⟩ := id k0
  go_enter Tryd.func17, Tryd.ntmps17
  go_wp2_with fail
  rw [← hW0.out]
  go_wp2_with fail
  refine (hC.out _ hb0).mono ?_
  rintro r1 w1 ⟨rfl, hb1⟩
  go_wp2
  go_ret
  exact ⟨rfl, bchain hb1 hb0⟩
theorem szC_bad (v : Value) (Y : CM) (h : CtS w v Y) (q : Int) (h0 : 0 ≤ q) (hq : q ≤ 1048576) (hl : ¬ ((tC Y : Int) ≤ q)) :
    Calls Tryd.prog 17 #[v, .int .i64 q] w fun r w' => r = .returned (.int .i64 (-1)) ∧ Below w.heap.size w w' := by
  obtain ⟨s, bs⟩ := Y
  obtain ⟨u, rfl, hu⟩ := h
  unfold tC at hl
  dsimp only at *
  have hC := Lib.hid (fun W (hb : Below w.heap.size w W) => szBS_bad W u bs (hu.below hb) q h0 hq (by omega))
  obtain ⟨a, cap, rfl, _⟩ := hu
  obtain ⟨l, hl1⟩ : ∃ l, bs.length = l := ⟨_, rfl⟩
  rw [hl1] at hC ⊢
  clear hl hl1
  obtain ⟨W0, hW0⟩ : ∃ W0, W0 = w.alloc (.cells #[.int .i64 s, .slice a l cap] 46) := ⟨_, rfl⟩
  have hb0 : Below w.heap.size w W0 := by rw [hW0]; (repeat (first | exact Below.refl _ _ | assumption | refine bchain (by assumption) ?_ | refine balloc ?_ _ | apply Below.drew | apply below_drewN | (refine Below.alloc ?_ (by (try simp) <;> omega) _) | (refine Below.setCell ?_ (by (try simp) <;> omega) _)))
  have k0 : CB W0 w.heap.size s (.slice a l cap) := by rw [hW0]; exact CB.made _ _ _ _
  replace hW0 := Lib.hid hW0
  obtain ⟨_, x0, x1, _⟩ := id k0
  go_enter Tryd.func17, Tryd.ntmps17
  go_wp2_with fail
  rw [← hW0.out]
  go_wp2_with fail
  refine (hC.out _ hb0).mono ?_
  rintro r1 w1 ⟨rfl, hb1⟩
  go_wp2
  go_ret
  exact ⟨rfl, bchain hb1 hb0⟩
theorem eqC_any (Y : CM) (u u' : Value) (hu : SlB w u Y.bs) (hu' : SlB w u' Y.bs) (hm : tC Y ≤ 1048576) :
    Calls Tryd.prog 21 #[.agg #[.int .i64 Y.s, u], .agg #[.int .i64 Y.s, u']] w fun r w' => r = .returned (.bool true) ∧ Below w.heap.size w w' := by
  obtain ⟨s, bs⟩ := Y
  unfold tC at hm
  dsimp only at *
  have hC := Lib.hid (fun W (hb : Below w.heap.size w W) => eqBS_any W u u' bs (hu.below hb) (hu'.below hb) hm)
  obtain ⟨a, cap, rfl, _⟩ := hu
  obtain ⟨a', cap', rfl, _⟩ := hu'
  obtain ⟨l, hl1⟩ : ∃ l, bs.length = l := ⟨_, rfl⟩
  rw [hl1] at hC ⊢
  clear hm hl1
  obtain ⟨W0, hW0⟩ : ∃ W0, W0 = (w.alloc (.cells #[.int .i64 s, .slice a l cap] 51)).alloc (.cells #[.int .i64 s, .slice a' l cap'] 51) := ⟨_, rfl⟩
  have hb0 : Below w.heap.size w W0 := by rw [hW0]; (repeat (first | exact Below.refl _ _ | assumption | refine bchain (by assumption) ?_ | refine balloc ?_ _ | apply Below.drew | apply below_drewN | (refine Below.alloc ?_ (by (try simp) <;> omega) _) | (refine Below.setCell ?_ (by (try simp) <;> omega) _)))
  have sz : ∀ (W : World) (o : Obj), (W.alloc o).heap.size = W.heap.size + 1 := fun W o => by simp
  have k0 : CB W0 w.heap.size s (.slice a l cap) := by rw [hW0]; exact (CB.made _ _ _ _).below (balloc (Below.refl _ _) _)
  have k1 : CB W0 (w.heap.size + 1) s (.slice a' l cap') := by rw [hW0, ← sz w (.cells #[.int .i64 s, .slice a l cap] 51)]; exact CB.made _ _ _ _
  replace hW0 := Lib.hid hW0
  clear sz
  obtain ⟨_, x0, x1, _⟩ := id k0
  obtain ⟨_, y0, y1, _⟩ := id k1
  go_enter Tryd.func21, Tryd.ntmps21
  go_wp2_with fail
  rw [← hW0.out]
  go_wp2_with fail
  refine (hC.out _ hb0).mono ?_
  rintro r1 w1 ⟨rfl, hb1⟩
  go_wp2
  go_ret
  exact ⟨rfl, bchain hb1 hb0⟩
set_option maxHeartbeats 2000000 in
theorem toC_any (v : Value) (Y : CM) (h : CtS w v Y) (hm : tC Y ≤ 1048576) :
    Calls Tryd.prog 19 #[v] w fun r w' => (∃ u, r = .returned (.agg #[.int .i64 Y.s, u]) ∧ OwnB w.heap.size w' u Y.bs) ∧ Below w.heap.size w w' := by
  obtain ⟨s, bs⟩ := Y
  obtain ⟨u, rfl, hu⟩ := h
  unfold tC at hm
  dsimp only at *
  have hD := Lib.hid (fun W (hb : Below w.heap.size w W) => toBS_any W u bs (hu.below hb) hm)
  obtain ⟨a, cap, rfl, _⟩ := hu
  clear hm
  obtain ⟨l, hl⟩ : ∃ l, bs.length = l := ⟨_, rfl⟩
  rw [hl] at hD ⊢
  replace hl := Lib.hid hl
  obtain ⟨W4, hW4⟩ : ∃ W4, W4 = ((w.alloc (.cells #[.int .i64 s, .slice a l cap] 46)).alloc (.cells #[.int .i64 0, .slice none 0 0] 51)).alloc (.cells #[.int .i64 s, .slice none 0 0] 51) := ⟨_, rfl⟩
  have ub : Below w.heap.size w W4 := by rw [hW4]; (repeat (first | exact Below.refl _ _ | assumption | refine bchain (by assumption) ?_ | refine balloc ?_ _ | apply Below.drew | apply below_drewN | (refine Below.alloc ?_ (by (try simp) <;> omega) _) | (refine Below.setCell ?_ (by (try simp) <;> omega) _)))
  have sz : ∀ (W : World) (o : Obj), (W.alloc o).heap.size = W.heap.size + 1 := fun W o => by simp
  have uA : CB W4 w.heap.size s (.slice a l cap) := by rw [hW4]; exact ((CB.made _ _ _ _).below (balloc (Below.refl _ _) _)).below (balloc (Below.refl _ _) _)
  have uR : CB W4 (w.heap.size + 1) 0 (.slice none 0 0) := by rw [hW4, ← sz w (.cells #[.int .i64 s, .slice a l cap] 46)]; exact (CB.made _ 0 _ 51).below (balloc (Below.refl _ _) _)
  have uO : CB W4 (w.heap.size + 1 + 1) s (.slice none 0 0) := by rw [hW4, ← sz w (.cells #[.int .i64 s, .slice a l cap] 46), ← sz _ (.cells #[.int .i64 0, .slice none 0 0] 51)]; exact CB.made _ s _ 51
  clear sz
  replace hW4 := Lib.hid hW4
  go_enter Tryd.func19, Tryd.ntmps19
  go_wp2_with fail
  rw [← hW4.out]
  refine (hD.out _ ub).mono ?_
  rintro r2 w2 ⟨⟨u2, rfl, hU⟩, hb2⟩
  obtain ⟨a2, c2, rfl, _⟩ := id hU
  rw [hl.out] at hU ⊢
  have hzO2 : w.heap.size + 1 + 1 < W4.heap.size := uO.lt
  have hzR2 : w.heap.size + 1 < W4.heap.size := uR.lt
  have hw4 : w.heap.size ≤ W4.heap.size := ub.size
  replace hU := Lib.hid hU
  replace uR := uR.below hb2
  replace uO := uO.below hb2
  replace ub := bchain hb2 ub
  clear hb2 hW4 uA
  obtain ⟨_, x0, x1, fR⟩ := id uR
  obtain ⟨_, y0, y1, fO⟩ := id uO
  obtain ⟨W5, hW5⟩ : ∃ W5, W5 = w2.setCell ⟨w.heap.size + 1 + 1, 1, none⟩ (.slice a2 l c2) := ⟨_, rfl⟩
  have vR : CB W5 (w.heap.size + 1) 0 (.slice none 0 0) := by rw [hW5]; exact uR.other _ (by show w.heap.size + 1 + 1 ≠ w.heap.size + 1; omega)
  have vb : Below w.heap.size w W5 := by rw [hW5]; exact ub.setCell (p := ⟨w.heap.size + 1 + 1, 1, none⟩) (by show w.heap.size ≤ w.heap.size + 1 + 1; omega) _
  have vU : Hid (OwnB W4.heap.size W5 (.slice a2 l c2) bs) := by rw [hW5]; exact hU.out.setS hzO2 y1
  have v1 := vR.put0 s
  have jF := v1.put1 (.slice a2 l c2)
  have jBB := (vb.setCell (p := ⟨w.heap.size + 1, 0, none⟩) (by show w.heap.size ≤ w.heap.size + 1; omega) (.int .i64 s)).setCell (p := ⟨w.heap.size + 1, 1, none⟩) (by show w.heap.size ≤ w.heap.size + 1; omega) (.slice a2 l c2)
  have jU := Lib.hid (OwnB.setS (OwnB.set0 vU.out hzR2 vR.c1 (x := .int .i64 s)) hzR2 v1.c1 (x := .slice a2 l c2))
  clear uR uO ub hU vR vb vU v1
  go_wp2
  rw [← hW5]
  obtain ⟨WW, hWW⟩ : ∃ WW, WW = (W5.setCell ⟨w.heap.size + 1, 0, none⟩ (.int .i64 s)).setCell ⟨w.heap.size + 1, 1, none⟩ (.slice a2 l c2) := ⟨_, rfl⟩
  rw [← hWW] at jF jBB jU ⊢
  clear hWW hW5
  obtain ⟨_, v0, v1, _⟩ := jF
  exact bodyPost_ret (v := .agg #[.int .i64 s, .slice a2 l c2]) (by simp [results, Tryd.results19, go_sem, v0, v1]) rfl ⟨⟨_, rfl, OwnB.mono jU.out hw4⟩, jBB⟩
end
end Go.Proofs.YtiedombphcdpbaaDoor
