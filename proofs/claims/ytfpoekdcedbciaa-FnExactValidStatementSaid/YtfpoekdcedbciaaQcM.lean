/-
  Gs, Free, OpenGs, GMk, Gown, Gto, Qt, Ql, STv, Forb, Qc, in one text.
-/
import Derived.Test.YtfpoekdcedbciaaValid
import Derived.Test.YtfpoekdcedbciaaMade
import Derived.Deep.OwnRows
import Derived.Lib.Hide
import Derived.StillTailTactics
import Derived.Test.YtfpoekdcedbciaaSPart
import Derived.Test.YtfpoekdcedbciaaOpen
import Derived.Deep.SlicePairs
import Derived.Test.YtfpoekdcedbciaaSv
import Derived.Test.YtfpoekdcedbciaaKOwn
import Derived.Deep.DeepCutAuto
import Derived.Test.YtfpoekdcedbciaaOpenTs
import Derived.Test.YtfpoekdcedbciaaSTown
import Derived.Test.YtfpoekdcedbciaaFrVf
import Derived.Test.YtfpoekdcedbciaaSTvalidS
import Derived.Test.YtfpoekdcedbciaaQv
/-
  LISTS OF GRAPHS: 'SlG w v gs': in the world w the value v is a list that holds the graphs gs. What copies such a list, and what holds two against each other.
-/
namespace Go.Proofs.Ytfpoekdcedbciaa
open Go.RowKit
set_option maxRecDepth 100000

def gAt (gs : List (Int × Int)) (i : Nat) : Int × Int := gs[i]?.getD (0, 0)
/-- two cells of a block that hold the graph at i -/
def GCell (w : World) (b off : Nat) (g : Int × Int) (i : Nat) : Prop := w.cell? ⟨b, off + i * 2, none⟩ = some (.int .i64 g.1) ∧ w.cell? ⟨b, off + i * 2 + 1, none⟩ = some (.int .u32 g.2)
def SlG (w : World) (v : Value) (gs : List (Int × Int)) : Prop :=
  ∃ (a : Option Addr) (cap : Nat), v = .slice a gs.length cap ∧ gs.length ≤ cap ∧ cap ≤ 9223372036854775807 ∧
    (gs ≠ [] → ∃ b off, a = some ⟨b, off, none⟩ ∧ b < w.heap.size ∧ ∀ i, i < gs.length → GCell w b off (gAt gs i) i)
theorem SlG.below {w w' : World} {v : Value} {gs : List (Int × Int)} (h : SlG w v gs) (hb : Below w.heap.size w w') : SlG w' v gs := by
  obtain ⟨a, cap, e, h1, h2, h3⟩ := h
  refine ⟨a, cap, e, h1, h2, fun hz => ?_⟩
  obtain ⟨b, off, e2, hlt, hc⟩ := h3 hz
  exact ⟨b, off, e2, Nat.lt_of_lt_of_le hlt hb.size, fun i hi => ⟨(hb.cell (p := ⟨b, _, none⟩) hlt).trans (hc i hi).1, (hb.cell (p := ⟨b, _, none⟩) hlt).trans (hc i hi).2⟩⟩
/-- a block that holds the first k of gs, zeros behind -/
def HalfG (w : World) (B k : Nat) (gs : List (Int × Int)) : Prop := ∀ i, i < gs.length → GCell w B 0 (if i < k then gAt gs i else (0, 0)) i
theorem HalfG.set {w : World} {B k : Nat} {gs : List (Int × Int)} (h : HalfG w B k gs) (hk : k < gs.length) : HalfG ((w.setCell ⟨B, k * 2, none⟩ (.int .i64 (gAt gs k).1)).setCell ⟨B, k * 2 + 1, none⟩ (.int .u32 (gAt gs k).2)) B (k + 1) gs := by
  intro i hi
  have hi2 := h i hi
  unfold GCell at hi2 ⊢
  rw [Nat.zero_add] at hi2 ⊢
  by_cases e : i = k
  · subst e
    rw [if_pos (by omega)]
    exact ⟨(World.cell?_setCell_other _ _ _ _ (by simp)).trans (World.cell?_setCell_same _ _ _ hi2.1), World.cell?_setCell_same _ _ _ ((World.cell?_setCell_other _ _ _ _ (by simp)).trans hi2.2)⟩
  · rw [show (if i < k + 1 then gAt gs i else (0, 0)) = (if i < k then gAt gs i else (0, 0)) by
      by_cases c : i < k
      · rw [if_pos c, if_pos (by omega)]
      · rw [if_neg c, if_neg (by omega)]]
    exact ⟨(World.cell?_setCell_other _ _ _ _ (by simp <;> omega)).trans ((World.cell?_setCell_other _ _ _ _ (by simp <;> omega)).trans hi2.1), (World.cell?_setCell_other _ _ _ _ (by simp <;> omega)).trans ((World.cell?_setCell_other _ _ _ _ (by simp <;> omega)).trans hi2.2)⟩
theorem HalfG.below {w w' : World} {B k : Nat} {gs : List (Int × Int)} (h : HalfG w B k gs) (hb : Below w.heap.size w w') (hB : B < w.heap.size) : HalfG w' B k gs :=
  fun i hi => ⟨(hb.cell (p := ⟨B, _, none⟩) hB).trans (h i hi).1, (hb.cell (p := ⟨B, _, none⟩) hB).trans (h i hi).2⟩
theorem HalfG.done {w : World} {B cap : Nat} {gs : List (Int × Int)} (h : HalfG w B gs.length gs) (hB : B < w.heap.size) (hc : gs.length ≤ cap) (hm : cap ≤ 9223372036854775807) : SlG w (.slice (some ⟨B, 0, none⟩) gs.length cap) gs :=
  ⟨_, _, rfl, hc, hm, fun _ => ⟨B, 0, rfl, hB, fun i hi => by have := h i hi; rw [if_pos hi] at this; exact this⟩⟩
theorem info_graph : (Try.prog.info? 36).map (fun i => (i.zero, i.size, i.bytes)) = some (some (.agg #[.int .i64 0, .int .u32 0]), 2, 16) := by kernel_rfl
theorem madeG (w : World) (n B : Nat) (e : TypeId) (gs : List (Int × Int)) (hB : B = w.heap.size) (hn : gs.length = n) : HalfG (w.alloc (.cells (madeCells #[.int .i64 0, .int .u32 0] (n * 2)) e)) B 0 gs := by
  intro i hi
  subst hB
  unfold GCell
  rw [World.cell?_alloc_new, World.cell?_alloc_new, Nat.zero_add, if_neg (by omega)]
  have h1 : i * 2 < n * 2 := by omega
  have h2 : i * 2 + 1 < n * 2 := by omega
  constructor
  · simp [madeCells, h1]
  · simp [madeCells, h2]
section
variable (w : World)
theorem sz_ok (a : Option Addr) (l cap : Nat) (hl : l ≤ 1048576) :
    Calls Try.prog 29 #[.slice a l cap, .int .i64 1048576] w fun r w' => r = .returned (.int .i64 (1048576 - (l : Int))) ∧ w = w' := by
  go_enter Try.func29, Try.ntmps29
  go_wp2
  go_ret
  exact ⟨rfl, rfl⟩
theorem sz_long (a : Option Addr) (l cap : Nat) (hl : 1048576 < l) (hm : l ≤ 9223372036854775807) :
    Calls Try.prog 29 #[.slice a l cap, .int .i64 1048576] w fun r w' => r = .returned (.int .i64 (-1)) ∧ w = w' := by
  go_enter Try.func29, Try.ntmps29
  go_wp2
  go_ret
  exact ⟨rfl, rfl⟩
theorem toGs_empty (a : Option Addr) (cap : Nat) :
    Calls Try.prog 32 #[.slice a 0 cap] w fun r w' => (∃ v, r = .returned v ∧ SlG w' v []) ∧ Below w.heap.size w w' := by
  obtain ⟨i0, hi0, hz0, hs0, hb0⟩ := info_parts info_graph
  have hmk : ∀ W : World, (Instr.makeSlice 35 (.int .i64 0) (.int .i64 0)).run Try.prog W = .ok (.slice (some ⟨W.heap.size, 0, none⟩) 0 0) (W.alloc (.cells (madeCells #[.int .i64 0, .int .u32 0] (0 * 2)) 36)) := fun W => by
    have hr := run_make (P := Try.prog) W 35 36 i0 (.agg #[.int .i64 0, .int .u32 0]) Try.underlying35 hi0 hz0 .i64 .i64 ((0 : Nat) : Int) ((0 : Nat) : Int) (by omega) (by omega) (by rw [hb0]; omega) (by omega)
    simp only [Int.toNat_natCast, hs0] at hr
    exact hr
  clear hi0 hz0 hs0 hb0
  go_enter Try.func32, Try.ntmps32
  go_wp2
  go_loopw [4] (fun i wr => i = .int .i64 0 ∧ Below w.heap.size w wr) (fun _ _ => 0)
  case atStart => exact ⟨rfl, by (repeat (first | exact Below.refl _ _ | assumption | refine bchain (by assumption) ?_ | refine balloc ?_ _ | apply Below.drew | apply below_drewN | (refine Below.alloc ?_ (by (try simp) <;> omega) _) | (refine Below.setCell ?_ (by (try simp) <;> omega) _)))⟩
  case round =>
    obtain ⟨rfl, hb⟩ := hrel
    go_wp2
    go_ret
    exact ⟨⟨_, rfl, _, _, rfl, by simp, by simp, fun c => absurd rfl c⟩, hb⟩
set_option maxHeartbeats 1000000 in
theorem toGs_some (b off cap : Nat) (gs : List (Int × Int)) (h1 : 0 < gs.length) (h2 : gs.length ≤ cap) (hm : gs.length ≤ 1048576) (hb : b < w.heap.size) (hc : ∀ i, i < gs.length → GCell w b off (gAt gs i) i) :
    Calls Try.prog 32 #[.slice (some ⟨b, off, none⟩) gs.length cap] w fun r w' => (∃ v, r = .returned v ∧ SlG w' v gs) ∧ Below w.heap.size w w' := by
  obtain ⟨i0, hi0, hz0, hs0, hb0⟩ := info_parts info_graph
  obtain ⟨O, hO⟩ : ∃ O, O = Obj.cells (madeCells #[.int .i64 0, .int .u32 0] (gs.length * 2)) 36 := ⟨_, rfl⟩
  obtain ⟨n, hn⟩ : ∃ n, n = gs.length := ⟨_, rfl⟩
  rw [← hn] at h1 h2 hm hO ⊢
  have hmk : ∀ W : World, (Instr.makeSlice 35 (.int .i64 n) (.int .i64 n)).run Try.prog W = .ok (.slice (some ⟨W.heap.size, 0, none⟩) n n) (W.alloc O) := fun W => by
    have hr := run_make (P := Try.prog) W 35 36 i0 (.agg #[.int .i64 0, .int .u32 0]) Try.underlying35 hi0 hz0 .i64 .i64 (n : Int) (n : Int) (by omega) (by omega) (by rw [hb0]; omega) (by omega)
    simp only [Int.toNat_natCast, hs0] at hr
    rw [hO]
    exact hr
  clear hi0 hz0 hs0 hb0
  replace hO := Lib.hid hO
  replace hn := Lib.hid hn
  replace hc := Lib.hid hc
  go_enter Try.func32, Try.ntmps32
  go_wp2
  go_loopw [4] (fun i wr => ∃ k : Nat, k ≤ n ∧ i = .int .i64 k ∧ HalfG wr w.heap.size k gs ∧ (∀ o, wr.frozen? ⟨w.heap.size, o, none⟩ = false) ∧ w.heap.size < wr.heap.size ∧ Below w.heap.size w wr) (fun i _ => n - (intOf i).toNat)
  case atStart => exact ⟨0, by omega, rfl, by rw [hO.out]; exact madeG _ _ _ _ _ rfl hn.out.symm, fun o => by rw [hO.out]; simp, by simp, by (repeat (first | exact Below.refl _ _ | assumption | refine bchain (by assumption) ?_ | refine balloc ?_ _ | apply Below.drew | apply below_drewN | (refine Below.alloc ?_ (by (try simp) <;> omega) _) | (refine Below.setCell ?_ (by (try simp) <;> omega) _)))⟩
  case round =>
    obtain ⟨k, hk, rfl, hh, hf, hz, hB⟩ := hrel
    by_cases hlt : k < n
    · have hg := hc.out k (by have := hn.out; omega)
      obtain ⟨x, y, hxy⟩ : ∃ x y, gAt gs k = (x, y) := ⟨_, _, rfl⟩
      have hs0 : wr.cell? ⟨b, off + k * 2, none⟩ = some (.int .i64 x) := by rw [hB.cell (p := ⟨b, _, none⟩) hb, hg.1, hxy]
      have hs1 : wr.cell? ⟨b, off + k * 2 + 1, none⟩ = some (.int .u32 y) := by rw [hB.cell (p := ⟨b, _, none⟩) hb, hg.2, hxy]
      have hset := Lib.hid (fun (W : World) (h : HalfG W w.heap.size k gs) => h.set (k := k) (by have := hn.out; omega))
      rw [hxy] at hset
      clear hg hxy
      replace hh := Lib.hid hh
      replace hf := Lib.hid hf
      go_wp2_with fail
      refine (toGraph_any _ x y).mono ?_
      rintro r3 w3 ⟨rfl, hb3⟩
      have hh3 := hh.out.below hb3 hz
      have hz3 := Nat.lt_of_lt_of_le hz hb3.size
      have ht := hh3 k (by have := hn.out; omega)
      rw [if_neg (by omega)] at ht
      have t0 : w3.cell? ⟨w.heap.size, k * 2, none⟩ = some (.int .i64 0) := by have := ht.1; rwa [Nat.zero_add] at this
      have t1 : w3.cell? ⟨w.heap.size, k * 2 + 1, none⟩ = some (.int .u32 0) := by have := ht.2; rwa [Nat.zero_add] at this
      have hf3 : ∀ o, w3.frozen? ⟨w.heap.size, o, none⟩ = false := fun o => (hb3.frozen (p := ⟨w.heap.size, o, none⟩) hz).trans (hf.out o)
      have f0 := hf3 (k * 2)
      have f1 := hf3 (k * 2 + 1)
      have hn2 := Lib.hid (hset.out w3 hh3)
      replace hf3 := Lib.hid hf3
      clear hh3 ht
      go_wp2
      go_roundw
      case rel => exact ⟨k + 1, by omega, by go_num, hn2.out, fun o => by simp [hf3.out o], by simp; omega, by (repeat (first | exact Below.refl _ _ | assumption | refine bchain (by assumption) ?_ | refine balloc ?_ _ | apply Below.drew | apply below_drewN | (refine Below.alloc ?_ (by (try simp) <;> omega) _) | (refine Below.setCell ?_ (by (try simp) <;> omega) _)))⟩
      case measure => simp [intOf]; omega
    · have hd := decide_eq_false (show ¬ ((k : Int) < (n : Int)) by omega)
      obtain rfl : k = n := by omega
      replace hh := Lib.hid hh
      replace hf := Lib.hid hf
      go_wp2
      go_ret
      refine ⟨⟨_, rfl, ?_⟩, hB⟩
      have e := hn.out
      subst e
      exact HalfG.done hh.out hz (Nat.le_refl _) (by omega)
theorem toGs_any (v : Value) (gs : List (Int × Int)) (h : SlG w v gs) (hm : gs.length ≤ 1048576) :
    Calls Try.prog 32 #[v] w fun r w' => (∃ u, r = .returned u ∧ SlG w' u gs) ∧ Below w.heap.size w w' := by
  obtain ⟨a, cap, rfl, h1, h2, h3⟩ := h
  cases gs with
  | nil => exact toGs_empty w a cap
  | cons z zs =>
    obtain ⟨b, off, rfl, hb, hc⟩ := h3 (by simp)
    exact toGs_some w b off cap (z :: zs) (by simp) h1 hm hb hc
theorem eqGs_empty (a a' : Option Addr) (cap cap' : Nat) :
    Calls Try.prog 37 #[.slice a 0 cap, .slice a' 0 cap'] w fun r w' => r = .returned (.bool true) ∧ Below w.heap.size w w' := by
  go_enter Try.func37, Try.ntmps37
  go_wp2
  go_loopw [5] (fun i wr => i = .int .i64 0 ∧ Below w.heap.size w wr) (fun _ _ => 0)
  case atStart => exact ⟨rfl, by (repeat (first | exact Below.refl _ _ | assumption | refine bchain (by assumption) ?_ | refine balloc ?_ _ | apply Below.drew | apply below_drewN | (refine Below.alloc ?_ (by (try simp) <;> omega) _) | (refine Below.setCell ?_ (by (try simp) <;> omega) _)))⟩
  case round =>
    obtain ⟨rfl, hb⟩ := hrel
    go_wp2
    go_ret
    exact ⟨rfl, hb⟩
set_option maxHeartbeats 1000000 in
theorem eqGs_some (b off cap b' off' cap' : Nat) (gs : List (Int × Int)) (h1 : 0 < gs.length) (hm : gs.length ≤ 1048576) (hb : b < w.heap.size) (hb' : b' < w.heap.size)
    (hc : ∀ i, i < gs.length → GCell w b off (gAt gs i) i) (hc' : ∀ i, i < gs.length → GCell w b' off' (gAt gs i) i) :
    Calls Try.prog 37 #[.slice (some ⟨b, off, none⟩) gs.length cap, .slice (some ⟨b', off', none⟩) gs.length cap'] w fun r w' => r = .returned (.bool true) ∧ Below w.heap.size w w' := by
  obtain ⟨n, hn⟩ : ∃ n, n = gs.length := ⟨_, rfl⟩
  rw [← hn] at h1 hm ⊢
  replace hn := Lib.hid hn
  replace hc := Lib.hid hc
  replace hc' := Lib.hid hc'
  go_enter Try.func37, Try.ntmps37
  go_wp2
  go_loopw [5] (fun i wr => ∃ k : Nat, k ≤ n ∧ i = .int .i64 k ∧ Below w.heap.size w wr) (fun i _ => n - (intOf i).toNat)
  case atStart => exact ⟨0, by omega, rfl, by (repeat (first | exact Below.refl _ _ | assumption | refine bchain (by assumption) ?_ | refine balloc ?_ _ | apply Below.drew | apply below_drewN | (refine Below.alloc ?_ (by (try simp) <;> omega) _) | (refine Below.setCell ?_ (by (try simp) <;> omega) _)))⟩
  case round =>
    obtain ⟨k, hk, rfl, hB⟩ := hrel
    by_cases hlt : k < n
    · have hg := hc.out k (by have := hn.out; omega)
      have hg' := hc'.out k (by have := hn.out; omega)
      obtain ⟨x, y, hxy⟩ : ∃ x y, gAt gs k = (x, y) := ⟨_, _, rfl⟩
      have s0 : wr.cell? ⟨b, off + k * 2, none⟩ = some (.int .i64 x) := by rw [hB.cell (p := ⟨b, _, none⟩) hb, hg.1, hxy]
      have s1 : wr.cell? ⟨b, off + k * 2 + 1, none⟩ = some (.int .u32 y) := by rw [hB.cell (p := ⟨b, _, none⟩) hb, hg.2, hxy]
      have t0 : wr.cell? ⟨b', off' + k * 2, none⟩ = some (.int .i64 x) := by rw [hB.cell (p := ⟨b', _, none⟩) hb', hg'.1, hxy]
      have t1 : wr.cell? ⟨b', off' + k * 2 + 1, none⟩ = some (.int .u32 y) := by rw [hB.cell (p := ⟨b', _, none⟩) hb', hg'.2, hxy]
      have hE := Lib.hid (eqGraph_any wr.drew x y)
      have hk1 : (k : Int) < (n : Int) := by omega
      clear hg hg' hxy
      go_wp2
      go_still_tail 8, (by kernel_rfl)
      change wpList _ _ _ _ _ wr.drew
      go_wp2_with (go_at_call 96; refine (hE.out).mono ?_; rintro r3 w3 ⟨rfl, hb3⟩)
      go_roundw
      case rel => exact ⟨k + 1, by omega, by go_num, by (repeat (first | exact Below.refl _ _ | assumption | refine bchain (by assumption) ?_ | refine balloc ?_ _ | apply Below.drew | apply below_drewN | (refine Below.alloc ?_ (by (try simp) <;> omega) _) | (refine Below.setCell ?_ (by (try simp) <;> omega) _)))⟩
      case measure => simp [intOf]; omega
    · have hd := decide_eq_false (show ¬ ((k : Int) < (n : Int)) by omega)
      go_wp2
      go_ret
      exact ⟨rfl, hB⟩
theorem eqGs_any (u v : Value) (gs : List (Int × Int)) (h : SlG w u gs) (h' : SlG w v gs) (hm : gs.length ≤ 1048576) :
    Calls Try.prog 37 #[u, v] w fun r w' => r = .returned (.bool true) ∧ Below w.heap.size w w' := by
  obtain ⟨a, cap, rfl, h1, h2, h3⟩ := h
  obtain ⟨a', cap', rfl, h1', h2', h3'⟩ := h'
  cases gs with
  | nil => exact eqGs_empty w a a' cap cap'
  | cons z zs =>
    obtain ⟨b, off, rfl, hb, hc⟩ := h3 (by simp)
    obtain ⟨b', off', rfl, hb', hc'⟩ := h3' (by simp)
    exact eqGs_some w b off cap b' off' cap' (z :: zs) (by simp) hm hb hb' hc hc'
end
end Go.Proofs.Ytfpoekdcedbciaa
/-
  LISTS OF FORBIDDEN PARTS; IsFree: the program's and the model's contracts.
-/
namespace Go.Proofs.Ytfpoekdcedbciaa
open Go.RowKit
set_option maxRecDepth 100000

/-- the list lies in the world, each element where it is read -/
def Lies (w : World) (a : Option Addr) (gs : List (Int × Int)) : Prop := ∀ i, i < gs.length → ∃ b off, a = some ⟨b, off, none⟩ ∧ b < w.heap.size ∧ GCell w b off (gAt gs i) i
theorem SlG.lies {w : World} {v : Value} {gs : List (Int × Int)} (h : SlG w v gs) : ∃ a cap, v = .slice a gs.length cap ∧ Lies w a gs := by
  obtain ⟨a, cap, e, _, _, h3⟩ := h
  refine ⟨a, cap, e, fun i hi => ?_⟩
  obtain ⟨b, off, e2, hlt, hc⟩ := h3 (by intro c; rw [c] at hi; simp at hi)
  exact ⟨b, off, e2, hlt, hc i hi⟩
theorem Lies.below {w w' : World} {a : Option Addr} {gs : List (Int × Int)} (h : Lies w a gs) (hb : Below w.heap.size w w') : Lies w' a gs := fun i hi => by
  obtain ⟨b, off, e, hlt, hc⟩ := h i hi
  exact ⟨b, off, e, Nat.lt_of_lt_of_le hlt hb.size, (hb.cell (p := ⟨b, _, none⟩) hlt).trans hc.1, (hb.cell (p := ⟨b, _, none⟩) hlt).trans hc.2⟩
def GV (gs : List (Int × Int)) (i : Nat) : Prop := VG (gAt gs i).1 (gAt gs i).2
def AllV (gs : List (Int × Int)) : Prop := ∀ i, i < gs.length → GV gs i
def Bd (gs : List (Int × Int)) : Prop := ∀ i, i < gs.length → 0 ≤ (gAt gs i).2 ∧ (gAt gs i).2 < 4294967296
theorem not_allV {gs : List (Int × Int)} (h : ¬ AllV gs) : ∃ m, m < gs.length ∧ (∀ k, k < m → GV gs k) ∧ ¬ GV gs m := by
  have : ∀ m, m ≤ gs.length → (∀ k, k < m → GV gs k) ∨ ∃ m', m' < gs.length ∧ (∀ k, k < m' → GV gs k) ∧ ¬ GV gs m' := by
    intro m
    induction m with
    | zero => intro _; exact .inl (fun k hk => by omega)
    | succ m ih =>
      intro hm
      rcases ih (by omega) with h1 | h1
      · by_cases hf : GV gs m
        · refine .inl (fun k hk => ?_)
          by_cases e : k = m
          · rw [e]; exact hf
          · exact h1 k (by omega)
        · exact .inr ⟨m, by omega, h1, hf⟩
      · exact .inr h1
  rcases this gs.length (Nat.le_refl _) with h1 | h1
  · exact absurd h1 h
  · exact h1
def hasB (n e : Nat) (gs : List (Int × Int)) (i : Nat) : Bool := partB n e (gAt gs i).1.toNat (gAt gs i).2.toNat
def freeB (n e : Nat) (gs : List (Int × Int)) : Bool := (List.range gs.length).all fun i => !hasB n e gs i
def NoneTo (n e : Nat) (gs : List (Int × Int)) (k : Nat) : Prop := ∀ i, i < k → hasB n e gs i = false
theorem freeB_t {n e : Nat} {gs : List (Int × Int)} (h : NoneTo n e gs gs.length) : freeB n e gs = true := by
  unfold freeB
  rw [List.all_eq_true]
  intro i hi
  rw [h i (by simpa using hi)]
  rfl
theorem freeB_f {n e : Nat} {gs : List (Int × Int)} {i : Nat} (hi : i < gs.length) (h : hasB n e gs i = true) : freeB n e gs = false := by
  rw [Bool.eq_false_iff]
  intro c
  unfold freeB at c
  have := List.all_eq_true.1 c i (by simpa using hi)
  rw [h] at this
  cases this
section
variable (w : World)

theorem av_t (a : Option Addr) (cap : Nat) (gs : List (Int × Int)) (hm : gs.length ≤ 1048576) (hc : Lies w a gs) (hbd : Bd gs) (hV : AllV gs) :
    Calls Try.prog 119 #[.slice a gs.length cap] w fun r w' => r = .returned (.bool true) ∧ Below w.heap.size w w' := by
  obtain ⟨n, hn⟩ : ∃ n, n = gs.length := ⟨_, rfl⟩
  rw [← hn] at hm ⊢
  try rw [← hn] at h6
  try rw [← hn] at hm2
  replace hc := Lib.hid hc
  replace hV := Lib.hid hV
  replace hbd := Lib.hid hbd
  replace hn := Lib.hid hn
  go_enter Try.func119, Try.ntmps119
  go_wp2
  go_loopw [4, 7] (fun _ i wr => ∃ k : Nat, k ≤ n ∧ i = .int .i64 k ∧ Below w.heap.size w wr) (fun _ i _ => n - (intOf i).toNat)
  case atStart => exact ⟨0, by omega, rfl, by (repeat (first | exact Below.refl _ _ | assumption | refine bchain (by assumption) ?_ | refine balloc ?_ _ | apply Below.drew | apply below_drewN | (refine Below.alloc ?_ (by (try simp) <;> omega) _) | (refine Below.setCell ?_ (by (try simp) <;> omega) _)))⟩
  case round =>
    obtain ⟨k, hk, rfl, hB⟩ := hrel
    by_cases hlt : k < n
    · obtain ⟨b, off, rfl, hb, hg⟩ := hc.out k (by have := hn.out; omega)
      have hv : GV gs k := hV.out k (by first | exact hlt | (have := hn.out; omega))
      unfold GV at hv
      obtain ⟨x, y, hxy⟩ : ∃ x y, gAt gs k = (x, y) := ⟨_, _, rfl⟩
      rw [hxy] at hv
      have s0 : wr.cell? ⟨b, off + k * 2, none⟩ = some (.int .i64 x) := by rw [hB.cell (p := ⟨b, _, none⟩) hb, hg.1, hxy]
      have s1 : wr.cell? ⟨b, off + k * 2 + 1, none⟩ = some (.int .u32 y) := by rw [hB.cell (p := ⟨b, _, none⟩) hb, hg.2, hxy]
      have hC := Lib.hid (fun W => valid_t W x y hv)
      have hkn : (k : Int) < (n : Int) := by omega
      clear hg hxy hv
      go_wp2_with fail
      refine (hC.out _).mono ?_
      rintro r3 w3 ⟨rfl, hb3⟩
      go_wp2
      go_roundw
      case rel => exact ⟨k + 1, by omega, by go_num, by (repeat (first | exact Below.refl _ _ | assumption | refine bchain (by assumption) ?_ | refine balloc ?_ _ | apply Below.drew | apply below_drewN | (refine Below.alloc ?_ (by (try simp) <;> omega) _) | (refine Below.setCell ?_ (by (try simp) <;> omega) _)))⟩
      case measure => simp [intOf]; omega
    · have hd := decide_eq_false (show ¬ ((k : Int) < (n : Int)) by omega)
      go_wp2
      go_ret
      exact ⟨rfl, hB⟩

theorem av_f (a : Option Addr) (cap : Nat) (gs : List (Int × Int)) (hm : gs.length ≤ 1048576) (hc : Lies w a gs) (hbd : Bd gs) (m : Nat) (hm2 : m < gs.length) (hV : ∀ k, k < m → GV gs k) (hbad : ¬ GV gs m) :
    Calls Try.prog 119 #[.slice a gs.length cap] w fun r w' => r = .returned (.bool false) ∧ Below w.heap.size w w' := by
  obtain ⟨n, hn⟩ : ∃ n, n = gs.length := ⟨_, rfl⟩
  rw [← hn] at hm ⊢
  try rw [← hn] at h6
  try rw [← hn] at hm2
  replace hc := Lib.hid hc
  replace hV := Lib.hid hV
  replace hbd := Lib.hid hbd
  replace hn := Lib.hid hn
  replace hbad := Lib.hid hbad
  go_enter Try.func119, Try.ntmps119
  go_wp2
  go_loopw [4, 7] (fun _ i wr => ∃ k : Nat, k ≤ m ∧ i = .int .i64 k ∧ Below w.heap.size w wr) (fun _ i _ => n - (intOf i).toNat)
  case atStart => exact ⟨0, by omega, rfl, by (repeat (first | exact Below.refl _ _ | assumption | refine bchain (by assumption) ?_ | refine balloc ?_ _ | apply Below.drew | apply below_drewN | (refine Below.alloc ?_ (by (try simp) <;> omega) _) | (refine Below.setCell ?_ (by (try simp) <;> omega) _)))⟩
  case round =>
    obtain ⟨k, hk, rfl, hB⟩ := hrel
    by_cases hlt : k < m
    · obtain ⟨b, off, rfl, hb, hg⟩ := hc.out k (by have := hn.out; omega)
      have hv : GV gs k := hV.out k (by first | exact hlt | (have := hn.out; omega))
      unfold GV at hv
      obtain ⟨x, y, hxy⟩ : ∃ x y, gAt gs k = (x, y) := ⟨_, _, rfl⟩
      rw [hxy] at hv
      have s0 : wr.cell? ⟨b, off + k * 2, none⟩ = some (.int .i64 x) := by rw [hB.cell (p := ⟨b, _, none⟩) hb, hg.1, hxy]
      have s1 : wr.cell? ⟨b, off + k * 2 + 1, none⟩ = some (.int .u32 y) := by rw [hB.cell (p := ⟨b, _, none⟩) hb, hg.2, hxy]
      have hC := Lib.hid (fun W => valid_t W x y hv)
      have hkn : (k : Int) < (n : Int) := by omega
      clear hg hxy hv
      go_wp2_with fail
      refine (hC.out _).mono ?_
      rintro r3 w3 ⟨rfl, hb3⟩
      go_wp2
      go_roundw
      case rel => exact ⟨k + 1, by omega, by go_num, by (repeat (first | exact Below.refl _ _ | assumption | refine bchain (by assumption) ?_ | refine balloc ?_ _ | apply Below.drew | apply below_drewN | (refine Below.alloc ?_ (by (try simp) <;> omega) _) | (refine Below.setCell ?_ (by (try simp) <;> omega) _)))⟩
      case measure => simp [intOf]; omega
    · obtain rfl : k = m := by omega
      obtain ⟨b, off, rfl, hb, hg⟩ := hc.out k (by have := hn.out; omega)
      have hv := hbad.out
      have hbk := hbd.out k (by have := hn.out; omega)
      unfold GV at hv
      obtain ⟨x, y, hxy⟩ : ∃ x y, gAt gs k = (x, y) := ⟨_, _, rfl⟩
      rw [hxy] at hv hbk
      have s0 : wr.cell? ⟨b, off + k * 2, none⟩ = some (.int .i64 x) := by rw [hB.cell (p := ⟨b, _, none⟩) hb, hg.1, hxy]
      have s1 : wr.cell? ⟨b, off + k * 2 + 1, none⟩ = some (.int .u32 y) := by rw [hB.cell (p := ⟨b, _, none⟩) hb, hg.2, hxy]
      have hC := Lib.hid (fun W => valid_f W x y hbk.2 hbk.1 hv)
      have hkn : (k : Int) < (n : Int) := by omega
      clear hg hxy hv hbk
      go_wp2_with fail
      refine (hC.out _).mono ?_
      rintro r3 w3 ⟨rfl, hb3⟩
      go_wp2
      go_ret
      exact ⟨rfl, by (repeat (first | exact Below.refl _ _ | assumption | refine bchain (by assumption) ?_ | refine balloc ?_ _ | apply Below.drew | apply below_drewN | (refine Below.alloc ?_ (by (try simp) <;> omega) _) | (refine Below.setCell ?_ (by (try simp) <;> omega) _)))⟩

theorem sf_ok (a : Option Addr) (cap : Nat) (gs : List (Int × Int)) (_hm : gs.length ≤ 1048576) (hc : Lies w a gs) (hbd : Bd gs) (hV : AllV gs) (h6 : gs.length ≤ 6) :
    Calls Try.prog 85 #[.slice a gs.length cap] w fun r w' => r = .returned (.int .i64 0) ∧ Below w.heap.size w w' := by
  obtain ⟨n, hn⟩ : ∃ n, n = gs.length := ⟨_, rfl⟩
  rw [← hn] at h6 ⊢
  try rw [← hn] at h6
  try rw [← hn] at hm2
  replace hc := Lib.hid hc
  replace hV := Lib.hid hV
  replace hbd := Lib.hid hbd
  replace hn := Lib.hid hn
  go_enter Try.func85, Try.ntmps85
  go_wp2
  go_loopw [3] (fun i wr => ∃ k : Nat, k ≤ n ∧ i = .int .i64 k ∧ Below w.heap.size w wr) (fun i _ => n - (intOf i).toNat)
  case atStart => exact ⟨0, by omega, rfl, by (repeat (first | exact Below.refl _ _ | assumption | refine bchain (by assumption) ?_ | refine balloc ?_ _ | apply Below.drew | apply below_drewN | (refine Below.alloc ?_ (by (try simp) <;> omega) _) | (refine Below.setCell ?_ (by (try simp) <;> omega) _)))⟩
  case round =>
    obtain ⟨k, hk, rfl, hB⟩ := hrel
    by_cases hlt : k < n
    · obtain ⟨b, off, rfl, hb, hg⟩ := hc.out k (by have := hn.out; omega)
      have hv : GV gs k := hV.out k (by first | exact hlt | (have := hn.out; omega))
      unfold GV at hv
      obtain ⟨x, y, hxy⟩ : ∃ x y, gAt gs k = (x, y) := ⟨_, _, rfl⟩
      rw [hxy] at hv
      have s0 : wr.cell? ⟨b, off + k * 2, none⟩ = some (.int .i64 x) := by rw [hB.cell (p := ⟨b, _, none⟩) hb, hg.1, hxy]
      have s1 : wr.cell? ⟨b, off + k * 2 + 1, none⟩ = some (.int .u32 y) := by rw [hB.cell (p := ⟨b, _, none⟩) hb, hg.2, hxy]
      have hC := Lib.hid (fun W => ok_t W x y hv)
      have hkn : (k : Int) < (n : Int) := by omega
      clear hg hxy hv
      go_wp2_with fail
      refine (hC.out _).mono ?_
      rintro r3 w3 ⟨rfl, hb3⟩
      go_wp2
      go_roundw
      case rel => exact ⟨k + 1, by omega, by go_num, by (repeat (first | exact Below.refl _ _ | assumption | refine bchain (by assumption) ?_ | refine balloc ?_ _ | apply Below.drew | apply below_drewN | (refine Below.alloc ?_ (by (try simp) <;> omega) _) | (refine Below.setCell ?_ (by (try simp) <;> omega) _)))⟩
      case measure => simp [intOf]; omega
    · have hd := decide_eq_false (show ¬ ((k : Int) < (n : Int)) by omega)
      go_wp2
      go_ret
      exact ⟨rfl, hB⟩

theorem sf_long (a : Option Addr) (cap : Nat) (gs : List (Int × Int)) (hm : gs.length ≤ 1048576) (hc : Lies w a gs) (hbd : Bd gs) (hV : AllV gs) (h6 : 6 < gs.length) :
    Calls Try.prog 85 #[.slice a gs.length cap] w fun r w' => r = .returned (.int .i64 3) ∧ Below w.heap.size w w' := by
  obtain ⟨n, hn⟩ : ∃ n, n = gs.length := ⟨_, rfl⟩
  rw [← hn] at hm ⊢
  try rw [← hn] at h6
  try rw [← hn] at hm2
  replace hc := Lib.hid hc
  replace hV := Lib.hid hV
  replace hbd := Lib.hid hbd
  replace hn := Lib.hid hn
  go_enter Try.func85, Try.ntmps85
  go_wp2
  go_loopw [3] (fun i wr => ∃ k : Nat, k ≤ n ∧ i = .int .i64 k ∧ Below w.heap.size w wr) (fun i _ => n - (intOf i).toNat)
  case atStart => exact ⟨0, by omega, rfl, by (repeat (first | exact Below.refl _ _ | assumption | refine bchain (by assumption) ?_ | refine balloc ?_ _ | apply Below.drew | apply below_drewN | (refine Below.alloc ?_ (by (try simp) <;> omega) _) | (refine Below.setCell ?_ (by (try simp) <;> omega) _)))⟩
  case round =>
    obtain ⟨k, hk, rfl, hB⟩ := hrel
    by_cases hlt : k < n
    · obtain ⟨b, off, rfl, hb, hg⟩ := hc.out k (by have := hn.out; omega)
      have hv : GV gs k := hV.out k (by first | exact hlt | (have := hn.out; omega))
      unfold GV at hv
      obtain ⟨x, y, hxy⟩ : ∃ x y, gAt gs k = (x, y) := ⟨_, _, rfl⟩
      rw [hxy] at hv
      have s0 : wr.cell? ⟨b, off + k * 2, none⟩ = some (.int .i64 x) := by rw [hB.cell (p := ⟨b, _, none⟩) hb, hg.1, hxy]
      have s1 : wr.cell? ⟨b, off + k * 2 + 1, none⟩ = some (.int .u32 y) := by rw [hB.cell (p := ⟨b, _, none⟩) hb, hg.2, hxy]
      have hC := Lib.hid (fun W => ok_t W x y hv)
      have hkn : (k : Int) < (n : Int) := by omega
      clear hg hxy hv
      go_wp2_with fail
      refine (hC.out _).mono ?_
      rintro r3 w3 ⟨rfl, hb3⟩
      go_wp2
      go_roundw
      case rel => exact ⟨k + 1, by omega, by go_num, by (repeat (first | exact Below.refl _ _ | assumption | refine bchain (by assumption) ?_ | refine balloc ?_ _ | apply Below.drew | apply below_drewN | (refine Below.alloc ?_ (by (try simp) <;> omega) _) | (refine Below.setCell ?_ (by (try simp) <;> omega) _)))⟩
      case measure => simp [intOf]; omega
    · have hd := decide_eq_false (show ¬ ((k : Int) < (n : Int)) by omega)
      go_wp2
      go_ret
      exact ⟨rfl, hB⟩

theorem sf_f (a : Option Addr) (cap : Nat) (gs : List (Int × Int)) (hm : gs.length ≤ 1048576) (hc : Lies w a gs) (hbd : Bd gs) (m : Nat) (hm2 : m < gs.length) (hV : ∀ k, k < m → GV gs k) (hbad : ¬ GV gs m) :
    Calls Try.prog 85 #[.slice a gs.length cap] w fun r w' => r = .returned (.int .i64 1) ∧ Below w.heap.size w w' := by
  obtain ⟨n, hn⟩ : ∃ n, n = gs.length := ⟨_, rfl⟩
  rw [← hn] at hm ⊢
  try rw [← hn] at h6
  try rw [← hn] at hm2
  replace hc := Lib.hid hc
  replace hV := Lib.hid hV
  replace hbd := Lib.hid hbd
  replace hn := Lib.hid hn
  replace hbad := Lib.hid hbad
  go_enter Try.func85, Try.ntmps85
  go_wp2
  go_loopw [3] (fun i wr => ∃ k : Nat, k ≤ m ∧ i = .int .i64 k ∧ Below w.heap.size w wr) (fun i _ => n - (intOf i).toNat)
  case atStart => exact ⟨0, by omega, rfl, by (repeat (first | exact Below.refl _ _ | assumption | refine bchain (by assumption) ?_ | refine balloc ?_ _ | apply Below.drew | apply below_drewN | (refine Below.alloc ?_ (by (try simp) <;> omega) _) | (refine Below.setCell ?_ (by (try simp) <;> omega) _)))⟩
  case round =>
    obtain ⟨k, hk, rfl, hB⟩ := hrel
    by_cases hlt : k < m
    · obtain ⟨b, off, rfl, hb, hg⟩ := hc.out k (by have := hn.out; omega)
      have hv : GV gs k := hV.out k (by first | exact hlt | (have := hn.out; omega))
      unfold GV at hv
      obtain ⟨x, y, hxy⟩ : ∃ x y, gAt gs k = (x, y) := ⟨_, _, rfl⟩
      rw [hxy] at hv
      have s0 : wr.cell? ⟨b, off + k * 2, none⟩ = some (.int .i64 x) := by rw [hB.cell (p := ⟨b, _, none⟩) hb, hg.1, hxy]
      have s1 : wr.cell? ⟨b, off + k * 2 + 1, none⟩ = some (.int .u32 y) := by rw [hB.cell (p := ⟨b, _, none⟩) hb, hg.2, hxy]
      have hC := Lib.hid (fun W => ok_t W x y hv)
      have hkn : (k : Int) < (n : Int) := by omega
      clear hg hxy hv
      go_wp2_with fail
      refine (hC.out _).mono ?_
      rintro r3 w3 ⟨rfl, hb3⟩
      go_wp2
      go_roundw
      case rel => exact ⟨k + 1, by omega, by go_num, by (repeat (first | exact Below.refl _ _ | assumption | refine bchain (by assumption) ?_ | refine balloc ?_ _ | apply Below.drew | apply below_drewN | (refine Below.alloc ?_ (by (try simp) <;> omega) _) | (refine Below.setCell ?_ (by (try simp) <;> omega) _)))⟩
      case measure => simp [intOf]; omega
    · obtain rfl : k = m := by omega
      obtain ⟨b, off, rfl, hb, hg⟩ := hc.out k (by have := hn.out; omega)
      have hv := hbad.out
      have hbk := hbd.out k (by have := hn.out; omega)
      unfold GV at hv
      obtain ⟨x, y, hxy⟩ : ∃ x y, gAt gs k = (x, y) := ⟨_, _, rfl⟩
      rw [hxy] at hv hbk
      have s0 : wr.cell? ⟨b, off + k * 2, none⟩ = some (.int .i64 x) := by rw [hB.cell (p := ⟨b, _, none⟩) hb, hg.1, hxy]
      have s1 : wr.cell? ⟨b, off + k * 2 + 1, none⟩ = some (.int .u32 y) := by rw [hB.cell (p := ⟨b, _, none⟩) hb, hg.2, hxy]
      have hC := Lib.hid (fun W => ok_f W x y hbk.2 hbk.1 hv)
      have hkn : (k : Int) < (n : Int) := by omega
      clear hg hxy hv hbk
      go_wp2_with fail
      refine (hC.out _).mono ?_
      rintro r3 w3 ⟨rfl, hb3⟩
      go_wp2
      go_ret
      exact ⟨rfl, by (repeat (first | exact Below.refl _ _ | assumption | refine bchain (by assumption) ?_ | refine balloc ?_ _ | apply Below.drew | apply below_drewN | (refine Below.alloc ?_ (by (try simp) <;> omega) _) | (refine Below.setCell ?_ (by (try simp) <;> omega) _)))⟩

theorem cf_ok (a : Option Addr) (cap : Nat) (gs : List (Int × Int)) (hm : gs.length ≤ 1048576) (hc : Lies w a gs) (hbd : Bd gs) (hV : AllV gs) (h6 : gs.length ≤ 6) :
    Calls Try.prog 63 #[.slice a gs.length cap] w fun r w' => r = .returned (.int .i64 0) ∧ Below w.heap.size w w' := by
  have hC : Hid _ := Lib.hid (av_t w a cap gs hm hc hbd hV)
  clear hV hc hbd
  obtain ⟨n, hn⟩ : ∃ n, n = gs.length := ⟨_, rfl⟩
  rw [← hn] at hm hC ⊢
  try rw [← hn] at h6
  clear hn
  go_enter Try.func63, Try.ntmps63
  go_wp2_with fail
  refine (hC.out).mono ?_
  rintro r1 w1 ⟨rfl, hb1⟩
  go_wp2
  go_ret
  exact ⟨rfl, hb1⟩

theorem cf_long (a : Option Addr) (cap : Nat) (gs : List (Int × Int)) (hm : gs.length ≤ 1048576) (hc : Lies w a gs) (hbd : Bd gs) (hV : AllV gs) (h6 : 6 < gs.length) :
    Calls Try.prog 63 #[.slice a gs.length cap] w fun r w' => r = .returned (.int .i64 3) ∧ Below w.heap.size w w' := by
  have hC : Hid _ := Lib.hid (av_t w a cap gs hm hc hbd hV)
  clear hV hc hbd
  obtain ⟨n, hn⟩ : ∃ n, n = gs.length := ⟨_, rfl⟩
  rw [← hn] at hm hC ⊢
  try rw [← hn] at h6
  clear hn
  go_enter Try.func63, Try.ntmps63
  go_wp2_with fail
  refine (hC.out).mono ?_
  rintro r1 w1 ⟨rfl, hb1⟩
  go_wp2
  go_ret
  exact ⟨rfl, hb1⟩

theorem cf_f (a : Option Addr) (cap : Nat) (gs : List (Int × Int)) (hm : gs.length ≤ 1048576) (hc : Lies w a gs) (hbd : Bd gs) (m : Nat) (hm2 : m < gs.length) (hV : ∀ k, k < m → GV gs k) (hbad : ¬ GV gs m) :
    Calls Try.prog 63 #[.slice a gs.length cap] w fun r w' => r = .returned (.int .i64 1) ∧ Below w.heap.size w w' := by
  have hC : Hid _ := Lib.hid (av_f w a cap gs hm hc hbd m hm2 hV hbad)
  clear hV hc hbd
  obtain ⟨n, hn⟩ : ∃ n, n = gs.length := ⟨_, rfl⟩
  rw [← hn] at hm hC ⊢
  try rw [← hn] at h6
  clear hn
  go_enter Try.func63, Try.ntmps63
  go_wp2_with fail
  refine (hC.out).mono ?_
  rintro r1 w1 ⟨rfl, hb1⟩
  go_wp2
  go_ret
  exact ⟨rfl, hb1⟩

set_option maxHeartbeats 1000000 in
theorem ifree_any (n e : Nat) (h : VG n e) (a : Option Addr) (cap : Nat) (gs : List (Int × Int)) (hm : gs.length ≤ 1048576) (hc : Lies w a gs) (hV : AllV gs) :
    Calls Try.prog 147 #[.agg #[.int .i64 n, .int .u32 e], .slice a gs.length cap] w fun r w' => r = .returned (.bool (freeB n e gs)) ∧ Below w.heap.size w w' := by
  obtain ⟨l, hl⟩ : ∃ l, l = gs.length := ⟨_, rfl⟩
  rw [← hl] at hm ⊢
  replace hc := Lib.hid hc
  replace hV := Lib.hid hV
  replace hl := Lib.hid hl
  have hbx := Lib.hid (show (w.alloc (.cells #[.int .i64 (n : Int), .int .u32 (e : Int)] 36)).cell? ⟨w.heap.size, 0, none⟩ = some (.int .i64 n) ∧ (w.alloc (.cells #[.int .i64 (n : Int), .int .u32 (e : Int)] 36)).cell? ⟨w.heap.size, 1, none⟩ = some (.int .u32 e) from ⟨by rw [cNew _ _ _ _ _ rfl]; rfl, by rw [cNew _ _ _ _ _ rfl]; rfl⟩)
  go_enter Try.func147, Try.ntmps147
  go_wp2
  go_loopw [6, 9] (fun _ i wr => ∃ k : Nat, k ≤ l ∧ i = .int .i64 k ∧ Hid (NoneTo n e gs k) ∧ wr.cell? ⟨w.heap.size, 0, none⟩ = some (.int .i64 n) ∧ wr.cell? ⟨w.heap.size, 1, none⟩ = some (.int .u32 e) ∧ w.heap.size < wr.heap.size ∧ Below w.heap.size w wr) (fun _ i _ => l - (intOf i).toNat)
  case atStart => exact ⟨0, by omega, rfl, fun i hi => by omega, hbx.out.1, hbx.out.2, by simp, by (repeat (first | exact Below.refl _ _ | assumption | refine bchain (by assumption) ?_ | refine balloc ?_ _ | apply Below.drew | apply below_drewN | (refine Below.alloc ?_ (by (try simp) <;> omega) _) | (refine Below.setCell ?_ (by (try simp) <;> omega) _)))⟩
  case round =>
    obtain ⟨k, hk, rfl, hno, c0, c1, hz, hB⟩ := hrel
    by_cases hlt : k < l
    · obtain ⟨b, off, rfl, hb, hg⟩ := hc.out k (by have := hl.out; omega)
      have hv := hV.out k (by have := hl.out; omega)
      unfold GV at hv
      have hh : ∃ x y : Nat, gAt gs k = ((x : Int), (y : Int)) ∧ VG x y ∧ hasB n e gs k = partB n e x y := by
        refine ⟨(gAt gs k).1.toNat, (gAt gs k).2.toNat, ?_, ?_, rfl⟩
        · have h1 := hv.1; have h2 := hv.2.2.1
          apply Prod.ext
          · show (gAt gs k).1 = _; omega
          · show (gAt gs k).2 = _; omega
        · have h1 := hv.1; have h2 := hv.2.2.1
          rw [show (((gAt gs k).1.toNat : Nat) : Int) = (gAt gs k).1 by omega, show (((gAt gs k).2.toNat : Nat) : Int) = (gAt gs k).2 by omega]
          exact hv
      obtain ⟨x, y, hxy, hvg, hp⟩ := hh
      have s0 : wr.cell? ⟨b, off + k * 2, none⟩ = some (.int .i64 x) := by rw [hB.cell (p := ⟨b, _, none⟩) hb, hg.1, hxy]
      have s1 : wr.cell? ⟨b, off + k * 2 + 1, none⟩ = some (.int .u32 y) := by rw [hB.cell (p := ⟨b, _, none⟩) hb, hg.2, hxy]
      have hC := Lib.hid (fun W => part_any W n e x y h hvg)
      have hkn : (k : Int) < (l : Int) := by omega
      obtain ⟨bb, hbb⟩ : ∃ bb, partB n e x y = bb := ⟨_, rfl⟩
      rw [hbb] at hC hp
      clear hg hxy hv hbb
      cases bb
      · have hno2 : Hid (NoneTo n e gs (k + 1)) := fun i hi => by
          by_cases c : i = k
          · subst c; exact hp
          · exact hno.out i (by omega)
        clear hno hp
        go_wp2_with fail
        refine (hC.out _).mono ?_
        rintro r3 w3 ⟨rfl, hb3⟩
        obtain ⟨hc3, hz3⟩ := bkeep hb3 w.heap.size (by (try simp) <;> omega)
        have e0 : w3.cell? ⟨w.heap.size, 0, none⟩ = some (.int .i64 n) := by rw [hc3]; rw [cOld _ _ _ _ hz]; exact c0
        have e1 : w3.cell? ⟨w.heap.size, 1, none⟩ = some (.int .u32 e) := by rw [hc3]; rw [cOld _ _ _ _ hz]; exact c1
        go_wp2
        go_roundw
        case rel => exact ⟨k + 1, by omega, by go_num, hno2, e0, e1, hz3, by (repeat (first | exact Below.refl _ _ | assumption | refine bchain (by assumption) ?_ | refine balloc ?_ _ | apply Below.drew | apply below_drewN | (refine Below.alloc ?_ (by (try simp) <;> omega) _) | (refine Below.setCell ?_ (by (try simp) <;> omega) _)))⟩
        case measure => simp [intOf]; omega
      · have hff := Lib.hid (freeB_f (i := k) (by have := hl.out; omega) hp)
        clear hno hp
        go_wp2_with fail
        refine (hC.out _).mono ?_
        rintro r3 w3 ⟨rfl, hb3⟩
        go_wp2
        go_ret
        exact ⟨by rw [hff.out]; rfl, by (repeat (first | exact Below.refl _ _ | assumption | refine bchain (by assumption) ?_ | refine balloc ?_ _ | apply Below.drew | apply below_drewN | (refine Below.alloc ?_ (by (try simp) <;> omega) _) | (refine Below.setCell ?_ (by (try simp) <;> omega) _)))⟩
    · have hd := decide_eq_false (show ¬ ((k : Int) < (l : Int)) by omega)
      obtain rfl : k = l := by omega
      have hff := Lib.hid (freeB_t (n := n) (e := e) (gs := gs) (by rw [← hl.out]; exact hno.out))
      clear hno
      go_wp2
      go_ret
      exact ⟨by rw [hff.out]; rfl, hB⟩

set_option maxHeartbeats 1000000 in
theorem sfree_any (n e : Nat) (h : VG n e) (a : Option Addr) (cap : Nat) (gs : List (Int × Int)) (hm : gs.length ≤ 1048576) (hc : Lies w a gs) (hV : AllV gs) :
    Calls Try.prog 186 #[.agg #[.int .i64 n, .int .u32 e], .slice a gs.length cap] w fun r w' => r = .returned (.bool (freeB n e gs)) ∧ Below w.heap.size w w' := by
  obtain ⟨l, hl⟩ : ∃ l, l = gs.length := ⟨_, rfl⟩
  rw [← hl] at hm ⊢
  replace hc := Lib.hid hc
  replace hV := Lib.hid hV
  replace hl := Lib.hid hl
  have hbx := Lib.hid (show (w.alloc (.cells #[.int .i64 (n : Int), .int .u32 (e : Int)] 36)).cell? ⟨w.heap.size, 0, none⟩ = some (.int .i64 n) ∧ (w.alloc (.cells #[.int .i64 (n : Int), .int .u32 (e : Int)] 36)).cell? ⟨w.heap.size, 1, none⟩ = some (.int .u32 e) from ⟨by rw [cNew _ _ _ _ _ rfl]; rfl, by rw [cNew _ _ _ _ _ rfl]; rfl⟩)
  go_enter Try.func186, Try.ntmps186
  go_wp2
  go_loopw [5] (fun i wr => ∃ k : Nat, k ≤ l ∧ i = .int .i64 k ∧ Hid (NoneTo n e gs k) ∧ wr.cell? ⟨w.heap.size, 0, none⟩ = some (.int .i64 n) ∧ wr.cell? ⟨w.heap.size, 1, none⟩ = some (.int .u32 e) ∧ w.heap.size < wr.heap.size ∧ Below w.heap.size w wr) (fun i _ => l - (intOf i).toNat)
  case atStart => exact ⟨0, by omega, rfl, fun i hi => by omega, hbx.out.1, hbx.out.2, by simp, by (repeat (first | exact Below.refl _ _ | assumption | refine bchain (by assumption) ?_ | refine balloc ?_ _ | apply Below.drew | apply below_drewN | (refine Below.alloc ?_ (by (try simp) <;> omega) _) | (refine Below.setCell ?_ (by (try simp) <;> omega) _)))⟩
  case round =>
    obtain ⟨k, hk, rfl, hno, c0, c1, hz, hB⟩ := hrel
    by_cases hlt : k < l
    · obtain ⟨b, off, rfl, hb, hg⟩ := hc.out k (by have := hl.out; omega)
      have hv := hV.out k (by have := hl.out; omega)
      unfold GV at hv
      have hh : ∃ x y : Nat, gAt gs k = ((x : Int), (y : Int)) ∧ VG x y ∧ hasB n e gs k = partB n e x y := by
        refine ⟨(gAt gs k).1.toNat, (gAt gs k).2.toNat, ?_, ?_, rfl⟩
        · have h1 := hv.1; have h2 := hv.2.2.1
          apply Prod.ext
          · show (gAt gs k).1 = _; omega
          · show (gAt gs k).2 = _; omega
        · have h1 := hv.1; have h2 := hv.2.2.1
          rw [show (((gAt gs k).1.toNat : Nat) : Int) = (gAt gs k).1 by omega, show (((gAt gs k).2.toNat : Nat) : Int) = (gAt gs k).2 by omega]
          exact hv
      obtain ⟨x, y, hxy, hvg, hp⟩ := hh
      have s0 : wr.cell? ⟨b, off + k * 2, none⟩ = some (.int .i64 x) := by rw [hB.cell (p := ⟨b, _, none⟩) hb, hg.1, hxy]
      have s1 : wr.cell? ⟨b, off + k * 2 + 1, none⟩ = some (.int .u32 y) := by rw [hB.cell (p := ⟨b, _, none⟩) hb, hg.2, hxy]
      have hC := Lib.hid (fun W => spart_any W n e x y h hvg)
      have hkn : (k : Int) < (l : Int) := by omega
      obtain ⟨bb, hbb⟩ : ∃ bb, partB n e x y = bb := ⟨_, rfl⟩
      rw [hbb] at hC hp
      clear hg hxy hv hbb
      cases bb
      · have hno2 : Hid (NoneTo n e gs (k + 1)) := fun i hi => by
          by_cases c : i = k
          · subst c; exact hp
          · exact hno.out i (by omega)
        clear hno hp
        go_wp2
        go_still_tail 5, (by kernel_rfl)
        change wpList _ _ _ _ _ wr.drew
        go_wp2_with fail
        refine (hC.out _).mono ?_
        rintro r3 w3 ⟨rfl, hb3⟩
        obtain ⟨hc3, hz3⟩ := bkeep hb3 w.heap.size (by (try simp) <;> omega)
        have e0 : w3.cell? ⟨w.heap.size, 0, none⟩ = some (.int .i64 n) := by rw [hc3]; exact c0
        have e1 : w3.cell? ⟨w.heap.size, 1, none⟩ = some (.int .u32 e) := by rw [hc3]; exact c1
        go_wp2
        go_roundw
        case rel => exact ⟨k + 1, by omega, by go_num, hno2, e0, e1, hz3, by (repeat (first | exact Below.refl _ _ | assumption | refine bchain (by assumption) ?_ | refine balloc ?_ _ | apply Below.drew | apply below_drewN | (refine Below.alloc ?_ (by (try simp) <;> omega) _) | (refine Below.setCell ?_ (by (try simp) <;> omega) _)))⟩
        case measure => simp [intOf]; omega
      · have hff := Lib.hid (freeB_f (i := k) (by have := hl.out; omega) hp)
        clear hno hp
        go_wp2
        go_still_tail 5, (by kernel_rfl)
        change wpList _ _ _ _ _ wr.drew
        go_wp2_with fail
        refine (hC.out _).mono ?_
        rintro r3 w3 ⟨rfl, hb3⟩
        go_wp2
        go_ret
        exact ⟨by rw [hff.out]; rfl, by (repeat (first | exact Below.refl _ _ | assumption | refine bchain (by assumption) ?_ | refine balloc ?_ _ | apply Below.drew | apply below_drewN | (refine Below.alloc ?_ (by (try simp) <;> omega) _) | (refine Below.setCell ?_ (by (try simp) <;> omega) _)))⟩
    · have hd := decide_eq_false (show ¬ ((k : Int) < (l : Int)) by omega)
      obtain rfl : k = l := by omega
      have hff := Lib.hid (freeB_t (n := n) (e := e) (gs := gs) (by rw [← hl.out]; exact hno.out))
      clear hno
      go_wp2
      go_ret
      exact ⟨by rw [hff.out]; rfl, hB⟩
end
end Go.Proofs.Ytfpoekdcedbciaa
/-
  A LIST OF GRAPHS THAT COMES IN, OPENED TO ITS CELLS.
-/
namespace Go.Proofs.Ytfpoekdcedbciaa
open Go.ChangeShapes Go.WideShapes Go.ChangeAt Go.RowKit Go.Deep
set_option maxRecDepth 100000

theorem open_gs {H : Type} {enc : TypeId × Value → H} {W : World} {base : Nat} {v : Value} {d : DataW H} {p : List MemPlace} (hv : Value.okWide Try.prog W .any base 22 v) (h : DataW.Trod enc Try.prog W 0 (fun _ => true) true 22 v d p) :
    ∃ gs : List (Int × Int), SlG W v gs ∧ Bd gs := by
  obtain ⟨a0, len, cap, rfl⟩ := okWide_slice Try.underlying22 hv
  obtain ⟨fuel, hf⟩ := h
  rcases open_slice_pairs Try.underlying22 Try.underlying25 cellsLG rfl rfl (by kernel_rfl) (by kernel_rfl) hf with ⟨hcs, hx⟩ | ⟨a, len', cap', m, n, V0, V1, D0, D1, P0, P1, hcs, _, hl, hm, hmm, hx, hi⟩
  · simp only [Value.cells] at hcs
    cases hcs
    exact ⟨[], ⟨none, 0, rfl, by simp, by simp, fun c => absurd rfl c⟩, fun i hi => by simp at hi⟩
  · simp only [Value.cells] at hcs
    cases hcs
    simp only [if_true] at hmm
    have hel : ∀ i, i < len → ∃ x y : Int, W.cell? (a.add (i * 2)) = some (.int .i64 x) ∧ W.cell? (a.add (i * 2 + 1)) = some (.int .u32 y) ∧ (Lit.int .u32 y).wf = true := fun i hi2 => by
      obtain ⟨h0, h1, t0, t1⟩ := hi i (by omega)
      obtain ⟨x, e0, _, _⟩ := DataW.trod_int Try.underlying2 t0
      obtain ⟨y, e1, _, wy⟩ := DataW.trod_int Try.underlying23 t1
      simp at e0 e1
      exact ⟨x, y, by rw [h0, e0], by rw [h1, e1], wy⟩
    refine ⟨(List.range len).map fun i => ((W.cell? (a.add (i * 2))).elim 0 intOf, (W.cell? (a.add (i * 2 + 1))).elim 0 intOf), ⟨some a, cap, by simp, by simpa using hl, by unfold maxLen at hm; omega, fun hne => ?_⟩, fun i hi2 => ?_⟩
    · have hlen : 0 < len := by
        rcases Nat.eq_zero_or_pos len with h0 | h0
        · subst h0; exact absurd rfl hne
        · exact h0
      obtain ⟨b, off, spot⟩ := a
      have hspot : spot = none := by
        obtain ⟨x, y, h0, _, _⟩ := hel 0 hlen
        simpa [Addr.add] using World.cell?_spot h0
      subst hspot
      refine ⟨b, off, rfl, ?_, fun i hi2 => ?_⟩
      · obtain ⟨x, y, h0, _, _⟩ := hel 0 hlen
        exact World.block_lt_of_cell? W _ h0
      · rw [List.length_map, List.length_range] at hi2
        obtain ⟨x, y, h0, h1, _⟩ := hel i hi2
        unfold GCell gAt
        rw [List.getElem?_map, List.getElem?_range hi2]
        simp only [Option.map_some, Option.getD_some, h0, h1, Option.elim_some, intOf]
        rw [add_plain] at h0 h1
        exact ⟨h0, h1⟩
    · rw [List.length_map, List.length_range] at hi2
      obtain ⟨x, y, h0, h1, wy⟩ := hel i hi2
      unfold gAt
      rw [List.getElem?_map, List.getElem?_range hi2]
      simp only [Option.map_some, Option.getD_some, h1, Option.elim_some, intOf]
      have := bounds_u32 wy
      exact ⟨this.1, by omega⟩
end Go.Proofs.Ytfpoekdcedbciaa
/-
  LISTS OF GRAPHS IN A BLOCK OF THEIR OWN: what writes marks into such a list, and what asks for them.
-/
namespace Go.Proofs.Ytfpoekdcedbciaa
open Go.RowKit
set_option maxRecDepth 100000
section
variable (w : World)
end
end Go.Proofs.Ytfpoekdcedbciaa
namespace Go.Proofs.Ytfpoekdcedbciaa
open Go.RowKit
/-- graphs as cells -/
def gsC (gs : List (Int × Int)) : List Value := gs.flatMap fun g => [.int .i64 g.1, .int .u32 g.2]
theorem gsC_snoc (gs : List (Int × Int)) (g : Int × Int) : gsC (gs ++ [g]) = gsC gs ++ [.int .i64 g.1, .int .u32 g.2] := by simp [gsC]
theorem gsC_length (gs : List (Int × Int)) : (gsC gs).length = gs.length * 2 := by
  induction gs with
  | nil => rfl
  | cons g gs ih => simp only [gsC, List.flatMap_cons, List.length_append, List.length_cons, List.length_nil] at ih ⊢; omega
theorem gsC_get : ∀ (gs : List (Int × Int)) (i : Nat), i < gs.length → (gsC gs)[i * 2]? = some (.int .i64 (gAt gs i).1) ∧ (gsC gs)[i * 2 + 1]? = some (.int .u32 (gAt gs i).2) := by
  intro gs
  induction gs with
  | nil => intro i hi; simp at hi
  | cons g gs ih =>
    intro i hi
    have e : gsC (g :: gs) = .int .i64 g.1 :: .int .u32 g.2 :: gsC gs := rfl
    rw [e]
    cases i with
    | zero => exact ⟨rfl, rfl⟩
    | succ i =>
      have := ih i (by simpa using hi)
      rw [show (i + 1) * 2 = i * 2 + 1 + 1 by omega, List.getElem?_cons_succ, List.getElem?_cons_succ, show i * 2 + 1 + 1 + 1 = (i * 2 + 1) + 1 + 1 by omega, List.getElem?_cons_succ, List.getElem?_cons_succ]
      exact this
/-- in the world w the value v is a list of the graphs gs, in memory that w0 did not have -/
def OwnG (w0 w : World) (v : Value) (gs : List (Int × Int)) : Prop := OwnV w0 w v gs.length 2 (fun c => (gsC gs)[c]?.getD undef)
theorem OwnG.below {w0 w w' : World} {v : Value} {gs : List (Int × Int)} (h : OwnG w0 w v gs) (hb : Below w.heap.size w w') : OwnG w0 w' v gs := OwnV.below h hb
theorem OwnG.mono {w0 w1 w : World} {v : Value} {gs : List (Int × Int)} (h : OwnG w1 w v gs) (hz : w0.heap.size ≤ w1.heap.size) : OwnG w0 w v gs := OwnV.mono h hz
theorem OwnG.sl {w0 w : World} {v : Value} {gs : List (Int × Int)} (h : OwnG w0 w v gs) : SlG w v gs := by
  obtain ⟨a, cap, rfl, h1, h2, h3⟩ := h
  refine ⟨a, cap, rfl, h1, h2, fun hne => ?_⟩
  obtain ⟨B, rfl, _, hB, hc, _⟩ := h3 (List.length_pos_iff.2 hne)
  refine ⟨B, 0, rfl, hB, fun i hi => ?_⟩
  obtain ⟨g0, g1⟩ := gsC_get gs i hi
  have c0 : w.cell? ⟨B, i * 2, none⟩ = some ((gsC gs)[i * 2]?.getD undef) := hc (i * 2) (by omega)
  have c1 : w.cell? ⟨B, i * 2 + 1, none⟩ = some ((gsC gs)[i * 2 + 1]?.getD undef) := hc (i * 2 + 1) (by omega)
  rw [g0] at c0
  rw [g1] at c1
  unfold GCell
  rw [Nat.zero_add]
  exact ⟨c0, c1⟩
theorem ownG_of_row {w0 w : World} {base : Nat} {e : TypeId} {v : Value} {gs : List (Int × Int)} (h : w.ownsRow base e 2 v gs.length (gsC gs)) (hb : w0.heap.size ≤ base) : OwnG w0 w v gs := ownV_of_row h hb
theorem ownG_nil {w0 w : World} : OwnG w0 w (.slice none 0 0) [] := ownV_nil
/-- a copy of the laws' own may be marked -/
theorem info_graphG : True := trivial
end Go.Proofs.Ytfpoekdcedbciaa
/-
  A LIST OF GRAPHS OF THE LAWS' OWN, COPIED: the copy is new memory.
-/
namespace Go.Proofs.Ytfpoekdcedbciaa
open Go.RowKit
set_option maxRecDepth 100000

theorem ownG_zero2 (w0 w : World) (a : Option Addr) : OwnG w0 w (.slice a 0 0) [] := ⟨a, 0, rfl, by simp, by simp, fun c => absurd c (by simp)⟩
theorem cv_of_cells {w : World} {B : Nat} {gs : List (Int × Int)} (h : ∀ i, i < gs.length → GCell w B 0 (gAt gs i) i) : CV w B (gs.length * 2) (fun c => (gsC gs)[c]?.getD undef) := fun i hi => by
  obtain ⟨q, hq⟩ : ∃ q, q = i / 2 := ⟨_, rfl⟩
  have hql : q < gs.length := by omega
  have hc := h q hql
  unfold GCell at hc
  rw [Nat.zero_add] at hc
  obtain ⟨g0, g1⟩ := gsC_get gs q hql
  have hcase : i = q * 2 ∨ i = q * 2 + 1 := by omega
  rcases hcase with rfl | rfl
  · show _ = some ((gsC gs)[q * 2]?.getD undef)
    rw [g0]
    exact hc.1
  · show _ = some ((gsC gs)[q * 2 + 1]?.getD undef)
    rw [g1]
    exact hc.2
section
variable (w : World)
theorem toGo_empty (a : Option Addr) (cap : Nat) :
    Calls Try.prog 32 #[.slice a 0 cap] w fun r w' => (∃ v, r = .returned v ∧ OwnG w w' v []) ∧ Below w.heap.size w w' := by
  obtain ⟨i0, hi0, hz0, hs0, hb0⟩ := info_parts info_graph
  have hmk : ∀ W : World, (Instr.makeSlice 35 (.int .i64 0) (.int .i64 0)).run Try.prog W = .ok (.slice (some ⟨W.heap.size, 0, none⟩) 0 0) (W.alloc (.cells (madeCells #[.int .i64 0, .int .u32 0] (0 * 2)) 36)) := fun W => by
    have hr := run_make (P := Try.prog) W 35 36 i0 (.agg #[.int .i64 0, .int .u32 0]) Try.underlying35 hi0 hz0 .i64 .i64 ((0 : Nat) : Int) ((0 : Nat) : Int) (by omega) (by omega) (by rw [hb0]; omega) (by omega)
    simp only [Int.toNat_natCast, hs0] at hr
    exact hr
  clear hi0 hz0 hs0 hb0
  go_enter Try.func32, Try.ntmps32
  go_wp2
  go_loopw [4] (fun i wr => i = .int .i64 0 ∧ Below w.heap.size w wr) (fun _ _ => 0)
  case atStart => exact ⟨rfl, by (repeat (first | exact Below.refl _ _ | assumption | refine bchain (by assumption) ?_ | refine balloc ?_ _ | apply Below.drew | apply below_drewN | (refine Below.alloc ?_ (by (try simp) <;> omega) _) | (refine Below.setCell ?_ (by (try simp) <;> omega) _)))⟩
  case round =>
    obtain ⟨rfl, hb⟩ := hrel
    go_wp2
    go_ret
    exact ⟨⟨_, rfl, ownG_zero2 _ _ _⟩, hb⟩
set_option maxHeartbeats 1000000 in
theorem toGo_some (b off cap : Nat) (gs : List (Int × Int)) (h1 : 0 < gs.length) (h2 : gs.length ≤ cap) (hm : gs.length ≤ 1048576) (hb : b < w.heap.size) (hc : ∀ i, i < gs.length → GCell w b off (gAt gs i) i) :
    Calls Try.prog 32 #[.slice (some ⟨b, off, none⟩) gs.length cap] w fun r w' => (∃ v, r = .returned v ∧ OwnG w w' v gs) ∧ Below w.heap.size w w' := by
  obtain ⟨i0, hi0, hz0, hs0, hb0⟩ := info_parts info_graph
  obtain ⟨O, hO⟩ : ∃ O, O = Obj.cells (madeCells #[.int .i64 0, .int .u32 0] (gs.length * 2)) 36 := ⟨_, rfl⟩
  obtain ⟨n, hn⟩ : ∃ n, n = gs.length := ⟨_, rfl⟩
  rw [← hn] at h1 h2 hm hO ⊢
  have hmk : ∀ W : World, (Instr.makeSlice 35 (.int .i64 n) (.int .i64 n)).run Try.prog W = .ok (.slice (some ⟨W.heap.size, 0, none⟩) n n) (W.alloc O) := fun W => by
    have hr := run_make (P := Try.prog) W 35 36 i0 (.agg #[.int .i64 0, .int .u32 0]) Try.underlying35 hi0 hz0 .i64 .i64 (n : Int) (n : Int) (by omega) (by omega) (by rw [hb0]; omega) (by omega)
    simp only [Int.toNat_natCast, hs0] at hr
    rw [hO]
    exact hr
  clear hi0 hz0 hs0 hb0
  replace hO := Lib.hid hO
  replace hn := Lib.hid hn
  replace hc := Lib.hid hc
  go_enter Try.func32, Try.ntmps32
  go_wp2
  go_loopw [4] (fun i wr => ∃ k : Nat, k ≤ n ∧ i = .int .i64 k ∧ HalfG wr w.heap.size k gs ∧ (∀ o, wr.frozen? ⟨w.heap.size, o, none⟩ = false) ∧ w.heap.size < wr.heap.size ∧ Below w.heap.size w wr) (fun i _ => n - (intOf i).toNat)
  case atStart => exact ⟨0, by omega, rfl, by rw [hO.out]; exact madeG _ _ _ _ _ rfl hn.out.symm, fun o => by rw [hO.out]; simp, by simp, by (repeat (first | exact Below.refl _ _ | assumption | refine bchain (by assumption) ?_ | refine balloc ?_ _ | apply Below.drew | apply below_drewN | (refine Below.alloc ?_ (by (try simp) <;> omega) _) | (refine Below.setCell ?_ (by (try simp) <;> omega) _)))⟩
  case round =>
    obtain ⟨k, hk, rfl, hh, hf, hz, hB⟩ := hrel
    by_cases hlt : k < n
    · have hg := hc.out k (by have := hn.out; omega)
      obtain ⟨x, y, hxy⟩ : ∃ x y, gAt gs k = (x, y) := ⟨_, _, rfl⟩
      have hs0 : wr.cell? ⟨b, off + k * 2, none⟩ = some (.int .i64 x) := by rw [hB.cell (p := ⟨b, _, none⟩) hb, hg.1, hxy]
      have hs1 : wr.cell? ⟨b, off + k * 2 + 1, none⟩ = some (.int .u32 y) := by rw [hB.cell (p := ⟨b, _, none⟩) hb, hg.2, hxy]
      have hset := Lib.hid (fun (W : World) (h : HalfG W w.heap.size k gs) => h.set (k := k) (by have := hn.out; omega))
      rw [hxy] at hset
      clear hg hxy
      replace hh := Lib.hid hh
      replace hf := Lib.hid hf
      go_wp2_with fail
      refine (toGraph_any _ x y).mono ?_
      rintro r3 w3 ⟨rfl, hb3⟩
      have hh3 := hh.out.below hb3 hz
      have hz3 := Nat.lt_of_lt_of_le hz hb3.size
      have ht := hh3 k (by have := hn.out; omega)
      rw [if_neg (by omega)] at ht
      have t0 : w3.cell? ⟨w.heap.size, k * 2, none⟩ = some (.int .i64 0) := by have := ht.1; rwa [Nat.zero_add] at this
      have t1 : w3.cell? ⟨w.heap.size, k * 2 + 1, none⟩ = some (.int .u32 0) := by have := ht.2; rwa [Nat.zero_add] at this
      have hf3 : ∀ o, w3.frozen? ⟨w.heap.size, o, none⟩ = false := fun o => (hb3.frozen (p := ⟨w.heap.size, o, none⟩) hz).trans (hf.out o)
      have f0 := hf3 (k * 2)
      have f1 := hf3 (k * 2 + 1)
      have hn2 := Lib.hid (hset.out w3 hh3)
      replace hf3 := Lib.hid hf3
      clear hh3 ht
      go_wp2
      go_roundw
      case rel => exact ⟨k + 1, by omega, by go_num, hn2.out, fun o => by simp [hf3.out o], by simp; omega, by (repeat (first | exact Below.refl _ _ | assumption | refine bchain (by assumption) ?_ | refine balloc ?_ _ | apply Below.drew | apply below_drewN | (refine Below.alloc ?_ (by (try simp) <;> omega) _) | (refine Below.setCell ?_ (by (try simp) <;> omega) _)))⟩
      case measure => simp [intOf]; omega
    · have hd := decide_eq_false (show ¬ ((k : Int) < (n : Int)) by omega)
      obtain rfl : k = n := by omega
      replace hh := Lib.hid hh
      replace hf := Lib.hid hf
      go_wp2
      go_ret
      refine ⟨⟨_, rfl, ?_⟩, hB⟩
      have e := hn.out
      subst e
      exact ⟨_, _, rfl, Nat.le_refl _, by omega, fun _ => ⟨w.heap.size, rfl, Nat.le_refl _, hz, cv_of_cells (fun i hi => by have := hh.out i hi; rw [if_pos hi] at this; exact this), hf.out⟩⟩
theorem toGo_any (v : Value) (gs : List (Int × Int)) (h : SlG w v gs) (hm : gs.length ≤ 1048576) :
    Calls Try.prog 32 #[v] w fun r w' => (∃ u, r = .returned u ∧ OwnG w w' u gs) ∧ Below w.heap.size w w' := by
  obtain ⟨a, cap, rfl, h1, h2, h3⟩ := h
  cases gs with
  | nil => exact toGo_empty w a cap
  | cons z zs =>
    obtain ⟨b, off, rfl, hb, hc⟩ := h3 (by simp)
    exact toGo_some w b off cap (z :: zs) (by simp) h1 hm hb hc
end
end Go.Proofs.Ytfpoekdcedbciaa
/-
  STATEMENTS: opened to their cells, counted.
-/
namespace Go.Proofs.Ytfpoekdcedbciaa
open Go.ChangeShapes Go.WideShapes Go.ChangeAt Go.RowKit Go.Deep
set_option maxRecDepth 100000

/-- a statement as numbers -/
structure QM where
  gs : List (Int × Int)
  X : SM
  p : Int
  q : Int
def BdQ (Y : QM) : Prop := BdS Y.X ∧ Bd Y.gs
def StS (w : World) (v : Value) (Y : QM) : Prop := ∃ z u, v = .agg #[z, .int .i64 Y.X.n, .int .u32 Y.X.e, .int .i64 Y.X.s, u, .int .i64 Y.p, .int .i64 Y.q] ∧ SlG w z Y.gs ∧ SlT w u Y.X.ts
theorem StS.below {w w' : World} {v : Value} {Y : QM} (h : StS w v Y) (hb : Below w.heap.size w w') : StS w' v Y := by
  obtain ⟨z, u, e, h1, h2⟩ := h
  exact ⟨z, u, e, h1.below hb, h2.below hb⟩
/-- a statement's box -/
structure QB (W : World) (B : Nat) (z : Value) (n e s : Int) (u : Value) (p q : Int) : Prop where
  lt : B < W.heap.size
  c0 : W.cell? ⟨B, 0, none⟩ = some z
  c1 : W.cell? ⟨B, 1, none⟩ = some (.int .i64 n)
  c2 : W.cell? ⟨B, 2, none⟩ = some (.int .u32 e)
  c3 : W.cell? ⟨B, 3, none⟩ = some (.int .i64 s)
  c4 : W.cell? ⟨B, 4, none⟩ = some u
  c5 : W.cell? ⟨B, 5, none⟩ = some (.int .i64 p)
  c6 : W.cell? ⟨B, 6, none⟩ = some (.int .i64 q)
  fz : ∀ o, W.frozen? ⟨B, o, none⟩ = false
theorem QB.below {W W' : World} {B : Nat} {z : Value} {n e s : Int} {u : Value} {p q : Int} (h : QB W B z n e s u p q) (hb : Below W.heap.size W W') : QB W' B z n e s u p q :=
  ⟨Nat.lt_of_lt_of_le h.lt hb.size, (hb.cell (p := ⟨B, 0, none⟩) h.lt).trans h.c0, (hb.cell (p := ⟨B, 1, none⟩) h.lt).trans h.c1, (hb.cell (p := ⟨B, 2, none⟩) h.lt).trans h.c2, (hb.cell (p := ⟨B, 3, none⟩) h.lt).trans h.c3, (hb.cell (p := ⟨B, 4, none⟩) h.lt).trans h.c4, (hb.cell (p := ⟨B, 5, none⟩) h.lt).trans h.c5, (hb.cell (p := ⟨B, 6, none⟩) h.lt).trans h.c6, fun o => (hb.frozen (p := ⟨B, o, none⟩) h.lt).trans (h.fz o)⟩
theorem QB.made (W : World) (z : Value) (n e s : Int) (u : Value) (p q : Int) (t : TypeId) : QB (W.alloc (.cells #[z, .int .i64 n, .int .u32 e, .int .i64 s, u, .int .i64 p, .int .i64 q] t)) W.heap.size z n e s u p q :=
  ⟨by simp, by rw [World.cell?_alloc_new]; rfl, by rw [World.cell?_alloc_new]; rfl, by rw [World.cell?_alloc_new]; rfl, by rw [World.cell?_alloc_new]; rfl, by rw [World.cell?_alloc_new]; rfl, by rw [World.cell?_alloc_new]; rfl, by rw [World.cell?_alloc_new]; rfl, fun o => by simp⟩
theorem QB.other {W : World} {B : Nat} {z : Value} {n e s : Int} {u : Value} {p q : Int} (h : QB W B z n e s u p q) {a : Addr} (v : Value) (hp : a.block ≠ B) : QB (W.setCell a v) B z n e s u p q := by
  have hs : (W.setCell a v).heap[B]? = W.heap[B]? := Below.heap_setCell _ _ _ _ (by omega)
  exact ⟨by simpa using h.lt, (World.cell?_of_block (a := ⟨B, 0, none⟩) hs).trans h.c0, (World.cell?_of_block (a := ⟨B, 1, none⟩) hs).trans h.c1, (World.cell?_of_block (a := ⟨B, 2, none⟩) hs).trans h.c2, (World.cell?_of_block (a := ⟨B, 3, none⟩) hs).trans h.c3, (World.cell?_of_block (a := ⟨B, 4, none⟩) hs).trans h.c4, (World.cell?_of_block (a := ⟨B, 5, none⟩) hs).trans h.c5, (World.cell?_of_block (a := ⟨B, 6, none⟩) hs).trans h.c6, fun o => by simp [h.fz o]⟩
theorem cellsLQ : Try.prog.cellsOf 32 = 7 := by kernel_rfl
theorem cellsLGs : Try.prog.cellsOf 22 = 1 := by kernel_rfl
theorem open_gsR {H : Type} {enc : TypeId × Value → H} {W : World} {fuel : Nat} {v : Value} {x : DataW H × List MemPlace} (hf : DataW.trod enc Try.prog W 0 (fun _ => true) true fuel 22 [v] = some x) :
    ∃ gs : List (Int × Int), SlG W v gs ∧ Bd gs := by
  rcases open_slice_pairs Try.underlying22 Try.underlying25 cellsLG rfl rfl (by kernel_rfl) (by kernel_rfl) hf with ⟨hcs, hx⟩ | ⟨a, len', cap', m, n, V0, V1, D0, D1, P0, P1, hcs, _, hl, hm, hmm, hx, hi⟩
  · cases hcs
    exact ⟨[], ⟨none, 0, rfl, by simp, by simp, fun c => absurd rfl c⟩, fun i hi => by simp at hi⟩
  · cases hcs
    simp only [if_true] at hmm
    have hel : ∀ i, i < len' → ∃ x y : Int, W.cell? (a.add (i * 2)) = some (.int .i64 x) ∧ W.cell? (a.add (i * 2 + 1)) = some (.int .u32 y) ∧ (Lit.int .u32 y).wf = true := fun i hi2 => by
      obtain ⟨h0, h1, t0, t1⟩ := hi i (by omega)
      obtain ⟨x, e0, _, _⟩ := DataW.trod_int Try.underlying2 t0
      obtain ⟨y, e1, _, wy⟩ := DataW.trod_int Try.underlying23 t1
      simp at e0 e1
      exact ⟨x, y, by rw [h0, e0], by rw [h1, e1], wy⟩
    refine ⟨(List.range len').map fun i => ((W.cell? (a.add (i * 2))).elim 0 intOf, (W.cell? (a.add (i * 2 + 1))).elim 0 intOf), ⟨some a, cap', by simp, by simpa using hl, by unfold maxLen at hm; omega, fun hne => ?_⟩, fun i hi2 => ?_⟩
    · have hlen : 0 < len' := by
        rcases Nat.eq_zero_or_pos len' with h0 | h0
        · subst h0; exact absurd rfl hne
        · exact h0
      obtain ⟨b, off, spot⟩ := a
      have hspot : spot = none := by
        obtain ⟨x, y, h0, _, _⟩ := hel 0 hlen
        simpa [Addr.add] using World.cell?_spot h0
      subst hspot
      refine ⟨b, off, rfl, ?_, fun i hi2 => ?_⟩
      · obtain ⟨x, y, h0, _, _⟩ := hel 0 hlen
        exact World.block_lt_of_cell? W _ h0
      · rw [List.length_map, List.length_range] at hi2
        obtain ⟨x, y, h0, h1, _⟩ := hel i hi2
        unfold GCell gAt
        rw [List.getElem?_map, List.getElem?_range hi2]
        simp only [Option.map_some, Option.getD_some, h0, h1, Option.elim_some, intOf]
        rw [add_plain] at h0 h1
        exact ⟨h0, h1⟩
    · rw [List.length_map, List.length_range] at hi2
      obtain ⟨x, y, h0, h1, wy⟩ := hel i hi2
      unfold gAt
      rw [List.getElem?_map, List.getElem?_range hi2]
      simp only [Option.map_some, Option.getD_some, h1, Option.elim_some, intOf]
      have := bounds_u32 wy
      exact ⟨this.1, by omega⟩
theorem open_lsumR {H : Type} {enc : TypeId × Value → H} {W : World} {fuel : Nat} {v0 v1 v2 v3 : Value} {x : DataW H × List MemPlace} (hf : DataW.trod enc Try.prog W 0 (fun _ => true) true fuel 28 [v0, v1, v2, v3] = some x) :
    ∃ X : SM, SumS W (.agg #[v0, v1, v2, v3]) X ∧ BdS X := by
  obtain ⟨y0, y1, y2, n, _, _, h0, h1, h2⟩ := trod_struct3 Try.underlying28 hf
  obtain ⟨z0, z1, m, _, _, g0, g1⟩ := trod_struct2 Try.underlying25 h0
  simp only [cellsKI, cellsKU, cellsLG, cellsLTs] at h0 h1 h2 g0 g1
  obtain ⟨a, e0, _, _⟩ := DataW.trod_int Try.underlying2 g0
  obtain ⟨b, e1, _, wb⟩ := DataW.trod_int Try.underlying23 g1
  obtain ⟨c, e2, _, _⟩ := DataW.trod_int Try.underlying2 h1
  simp at e0 e1 e2
  subst e0 e1 e2
  obtain ⟨gs, hgs, hbd⟩ := open_ts (v := v3) (by simpa using h2)
  have := bounds_u32 wb
  exact ⟨⟨a, b, c, gs⟩, ⟨v3, rfl, hgs⟩, this.1, by show b < _; omega, hbd⟩
theorem open_stmt {H : Type} {enc : TypeId × Value → H} {W : World} {base : Nat} {v : Value} {d : DataW H} {p : List MemPlace} (hv : Value.okWide Try.prog W .any base 32 v) (h : DataW.Trod enc Try.prog W 0 (fun _ => true) true 32 v d p) :
    ∃ Y : QM, StS W v Y ∧ BdQ Y := by
  obtain ⟨cs, rfl, hsz⟩ := okWide_struct Try.underlying32 hv
  obtain ⟨fuel, hf⟩ := h
  rw [cellsLQ] at hsz
  obtain ⟨l⟩ := cs
  match l, hsz with
  | [v0, v1, v2, v3, v4, v5, v6], _ =>
    obtain ⟨y0, y1, y2, n, _, _, h0, h1, h2⟩ := trod_struct3 Try.underlying32 hf
    obtain ⟨q0, q1, n3, _, _, f0, f1⟩ := trod_struct2 Try.underlying30 h2
    simp only [Value.cells, cellsLGs, cellsLSum, cellsLFr, cellsKI] at h0 h1 h2 f0 f1
    obtain ⟨p, e5, _, _⟩ := DataW.trod_int Try.underlying2 f0
    obtain ⟨q, e6, _, _⟩ := DataW.trod_int Try.underlying2 f1
    simp at e5 e6
    subst e5 e6
    obtain ⟨gs, hgs, hbg⟩ := open_gsR (v := v0) (by simpa using h0)
    obtain ⟨X, ⟨u, e, hu⟩, hbX⟩ := open_lsumR (v0 := v1) (v1 := v2) (v2 := v3) (v3 := v4) (by simpa using h1)
    simp at e
    obtain ⟨rfl, rfl, rfl, rfl⟩ := e
    exact ⟨⟨gs, X, p, q⟩, ⟨v0, _, rfl, hgs, hu⟩, hbX, hbg⟩
section
variable (w : World)
theorem szg_left (a : Option Addr) (l cap : Nat) (q : Int) (hq : q ≤ 1048576) (hl : (l : Int) ≤ q) :
    Calls Try.prog 29 #[.slice a l cap, .int .i64 q] w fun r w' => r = .returned (.int .i64 (q - (l : Int))) ∧ w = w' := by
  go_enter Try.func29, Try.ntmps29
  go_wp2
  go_ret
  exact ⟨rfl, rfl⟩
theorem szg_over (a : Option Addr) (l cap : Nat) (q : Int) (h0 : 0 ≤ q) (hq : q ≤ 1048576) (hl : q < (l : Int)) (hm : l ≤ 9223372036854775807) :
    Calls Try.prog 29 #[.slice a l cap, .int .i64 q] w fun r w' => r = .returned (.int .i64 (-1)) ∧ w = w' := by
  go_enter Try.func29, Try.ntmps29
  go_wp2
  go_ret
  exact ⟨rfl, rfl⟩
theorem szt_left (a : Option Addr) (l cap : Nat) (q : Int) (hq : q ≤ 1048576) (hl : (l : Int) ≤ q) :
    Calls Try.prog 83 #[.slice a l cap, .int .i64 q] w fun r w' => r = .returned (.int .i64 (q - (l : Int))) ∧ w = w' := by
  go_enter Try.func83, Try.ntmps83
  go_wp2
  go_ret
  exact ⟨rfl, rfl⟩
theorem szt_over (a : Option Addr) (l cap : Nat) (q : Int) (h0 : 0 ≤ q) (hq : q ≤ 1048576) (hl : q < (l : Int)) (hm : l ≤ 9223372036854775807) :
    Calls Try.prog 83 #[.slice a l cap, .int .i64 q] w fun r w' => r = .returned (.int .i64 (-1)) ∧ w = w' := by
  go_enter Try.func83, Try.ntmps83
  go_wp2
  go_ret
  exact ⟨rfl, rfl⟩
theorem szs_left (n e s : Int) (a : Option Addr) (l cap : Nat) (q : Int) (hq : q ≤ 1048576) (hl : (l : Int) ≤ q) :
    Calls Try.prog 28 #[.agg #[.int .i64 n, .int .u32 e, .int .i64 s, .slice a l cap], .int .i64 q] w fun r w' => r = .returned (.int .i64 (q - (l : Int))) ∧ Below w.heap.size w w' := by
  have hC := Lib.hid (fun W => szt_left W a l cap q hq hl)
  have hp : 0 ≤ q - (l : Int) := by omega
  obtain ⟨p, hpd⟩ : ∃ p : Int, q - (l : Int) = p := ⟨_, rfl⟩
  rw [hpd] at hC hp ⊢
  clear hl hpd
  go_enter Try.func28, Try.ntmps28
  go_wp2_with (go_at_call 83; refine (hC.out _).mono ?_; rintro r1 w1 ⟨rfl, rfl⟩)
  go_ret
  exact ⟨rfl, by (repeat (first | exact Below.refl _ _ | assumption | refine bchain (by assumption) ?_ | refine balloc ?_ _ | apply Below.drew | apply below_drewN | (refine Below.alloc ?_ (by (try simp) <;> omega) _) | (refine Below.setCell ?_ (by (try simp) <;> omega) _)))⟩
theorem szs_over (n e s : Int) (a : Option Addr) (l cap : Nat) (q : Int) (h0 : 0 ≤ q) (hq : q ≤ 1048576) (hl : q < (l : Int)) (hm : l ≤ 9223372036854775807) :
    Calls Try.prog 28 #[.agg #[.int .i64 n, .int .u32 e, .int .i64 s, .slice a l cap], .int .i64 q] w fun r w' => r = .returned (.int .i64 (-1)) ∧ Below w.heap.size w w' := by
  have hC := Lib.hid (fun W => szt_over W a l cap q h0 hq hl hm)
  clear hl
  go_enter Try.func28, Try.ntmps28
  go_wp2_with (go_at_call 83; refine (hC.out _).mono ?_; rintro r1 w1 ⟨rfl, rfl⟩)
  go_ret
  exact ⟨rfl, by (repeat (first | exact Below.refl _ _ | assumption | refine bchain (by assumption) ?_ | refine balloc ?_ _ | apply Below.drew | apply below_drewN | (refine Below.alloc ?_ (by (try simp) <;> omega) _) | (refine Below.setCell ?_ (by (try simp) <;> omega) _)))⟩
end
end Go.Proofs.Ytfpoekdcedbciaa
/-
  STATEMENTS: counted, copied, held against each other.
-/
namespace Go.Proofs.Ytfpoekdcedbciaa
open Go.RowKit
set_option maxRecDepth 100000
theorem QB.put0 {W : World} {B : Nat} {z : Value} {n e s : Int} {u : Value} {p q : Int} (h : QB W B z n e s u p q) (z' : Value) : QB (W.setCell ⟨B, 0, none⟩ (z')) B z' n e s u p q :=
  ⟨by simpa using h.lt, (World.cell?_setCell_same _ _ _ (h.c0)), ((World.cell?_setCell_other _ _ _ _ (by simp)).trans h.c1), ((World.cell?_setCell_other _ _ _ _ (by simp)).trans h.c2), ((World.cell?_setCell_other _ _ _ _ (by simp)).trans h.c3), ((World.cell?_setCell_other _ _ _ _ (by simp)).trans h.c4), ((World.cell?_setCell_other _ _ _ _ (by simp)).trans h.c5), ((World.cell?_setCell_other _ _ _ _ (by simp)).trans h.c6), fun o => by simp [h.fz o]⟩
theorem QB.put14 {W : World} {B : Nat} {z : Value} {n e s : Int} {u : Value} {p q : Int} (h : QB W B z n e s u p q) (n' : Int) (e' : Int) (s' : Int) (u' : Value) : QB ((((W.setCell ⟨B, 1, none⟩ (.int .i64 n')).setCell ⟨B, 2, none⟩ (.int .u32 e')).setCell ⟨B, 3, none⟩ (.int .i64 s')).setCell ⟨B, 4, none⟩ (u')) B z n' e' s' u' p q :=
  ⟨by simpa using h.lt, ((World.cell?_setCell_other _ _ _ _ (by simp)).trans ((World.cell?_setCell_other _ _ _ _ (by simp)).trans ((World.cell?_setCell_other _ _ _ _ (by simp)).trans ((World.cell?_setCell_other _ _ _ _ (by simp)).trans h.c0)))), ((World.cell?_setCell_other _ _ _ _ (by simp)).trans ((World.cell?_setCell_other _ _ _ _ (by simp)).trans ((World.cell?_setCell_other _ _ _ _ (by simp)).trans (World.cell?_setCell_same _ _ _ (h.c1))))), ((World.cell?_setCell_other _ _ _ _ (by simp)).trans ((World.cell?_setCell_other _ _ _ _ (by simp)).trans (World.cell?_setCell_same _ _ _ (((World.cell?_setCell_other _ _ _ _ (by simp)).trans h.c2))))), ((World.cell?_setCell_other _ _ _ _ (by simp)).trans (World.cell?_setCell_same _ _ _ (((World.cell?_setCell_other _ _ _ _ (by simp)).trans ((World.cell?_setCell_other _ _ _ _ (by simp)).trans h.c3))))), (World.cell?_setCell_same _ _ _ (((World.cell?_setCell_other _ _ _ _ (by simp)).trans ((World.cell?_setCell_other _ _ _ _ (by simp)).trans ((World.cell?_setCell_other _ _ _ _ (by simp)).trans h.c4))))), ((World.cell?_setCell_other _ _ _ _ (by simp)).trans ((World.cell?_setCell_other _ _ _ _ (by simp)).trans ((World.cell?_setCell_other _ _ _ _ (by simp)).trans ((World.cell?_setCell_other _ _ _ _ (by simp)).trans h.c5)))), ((World.cell?_setCell_other _ _ _ _ (by simp)).trans ((World.cell?_setCell_other _ _ _ _ (by simp)).trans ((World.cell?_setCell_other _ _ _ _ (by simp)).trans ((World.cell?_setCell_other _ _ _ _ (by simp)).trans h.c6)))), fun o => by simp [h.fz o]⟩
theorem QB.put56 {W : World} {B : Nat} {z : Value} {n e s : Int} {u : Value} {p q : Int} (h : QB W B z n e s u p q) (p' : Int) (q' : Int) : QB ((W.setCell ⟨B, 5, none⟩ (.int .i64 p')).setCell ⟨B, 6, none⟩ (.int .i64 q')) B z n e s u p' q' :=
  ⟨by simpa using h.lt, ((World.cell?_setCell_other _ _ _ _ (by simp)).trans ((World.cell?_setCell_other _ _ _ _ (by simp)).trans h.c0)), ((World.cell?_setCell_other _ _ _ _ (by simp)).trans ((World.cell?_setCell_other _ _ _ _ (by simp)).trans h.c1)), ((World.cell?_setCell_other _ _ _ _ (by simp)).trans ((World.cell?_setCell_other _ _ _ _ (by simp)).trans h.c2)), ((World.cell?_setCell_other _ _ _ _ (by simp)).trans ((World.cell?_setCell_other _ _ _ _ (by simp)).trans h.c3)), ((World.cell?_setCell_other _ _ _ _ (by simp)).trans ((World.cell?_setCell_other _ _ _ _ (by simp)).trans h.c4)), ((World.cell?_setCell_other _ _ _ _ (by simp)).trans (World.cell?_setCell_same _ _ _ (h.c5))), (World.cell?_setCell_same _ _ _ (((World.cell?_setCell_other _ _ _ _ (by simp)).trans h.c6))), fun o => by simp [h.fz o]⟩
theorem QB.all {W : World} {B : Nat} {z : Value} {n e s : Int} {u : Value} {p q : Int} (h : QB W B z n e s u p q) (z' : Value) (n' : Int) (e' : Int) (s' : Int) (u' : Value) (p' : Int) (q' : Int) : QB (((((((W.setCell ⟨B, 0, none⟩ (z')).setCell ⟨B, 1, none⟩ (.int .i64 n')).setCell ⟨B, 2, none⟩ (.int .u32 e')).setCell ⟨B, 3, none⟩ (.int .i64 s')).setCell ⟨B, 4, none⟩ (u')).setCell ⟨B, 5, none⟩ (.int .i64 p')).setCell ⟨B, 6, none⟩ (.int .i64 q')) B z' n' e' s' u' p' q' :=
  ⟨by simpa using h.lt, ((World.cell?_setCell_other _ _ _ _ (by simp)).trans ((World.cell?_setCell_other _ _ _ _ (by simp)).trans ((World.cell?_setCell_other _ _ _ _ (by simp)).trans ((World.cell?_setCell_other _ _ _ _ (by simp)).trans ((World.cell?_setCell_other _ _ _ _ (by simp)).trans ((World.cell?_setCell_other _ _ _ _ (by simp)).trans (World.cell?_setCell_same _ _ _ (h.c0)))))))), ((World.cell?_setCell_other _ _ _ _ (by simp)).trans ((World.cell?_setCell_other _ _ _ _ (by simp)).trans ((World.cell?_setCell_other _ _ _ _ (by simp)).trans ((World.cell?_setCell_other _ _ _ _ (by simp)).trans ((World.cell?_setCell_other _ _ _ _ (by simp)).trans (World.cell?_setCell_same _ _ _ (((World.cell?_setCell_other _ _ _ _ (by simp)).trans h.c1)))))))), ((World.cell?_setCell_other _ _ _ _ (by simp)).trans ((World.cell?_setCell_other _ _ _ _ (by simp)).trans ((World.cell?_setCell_other _ _ _ _ (by simp)).trans ((World.cell?_setCell_other _ _ _ _ (by simp)).trans (World.cell?_setCell_same _ _ _ (((World.cell?_setCell_other _ _ _ _ (by simp)).trans ((World.cell?_setCell_other _ _ _ _ (by simp)).trans h.c2)))))))), ((World.cell?_setCell_other _ _ _ _ (by simp)).trans ((World.cell?_setCell_other _ _ _ _ (by simp)).trans ((World.cell?_setCell_other _ _ _ _ (by simp)).trans (World.cell?_setCell_same _ _ _ (((World.cell?_setCell_other _ _ _ _ (by simp)).trans ((World.cell?_setCell_other _ _ _ _ (by simp)).trans ((World.cell?_setCell_other _ _ _ _ (by simp)).trans h.c3)))))))), ((World.cell?_setCell_other _ _ _ _ (by simp)).trans ((World.cell?_setCell_other _ _ _ _ (by simp)).trans (World.cell?_setCell_same _ _ _ (((World.cell?_setCell_other _ _ _ _ (by simp)).trans ((World.cell?_setCell_other _ _ _ _ (by simp)).trans ((World.cell?_setCell_other _ _ _ _ (by simp)).trans ((World.cell?_setCell_other _ _ _ _ (by simp)).trans h.c4)))))))), ((World.cell?_setCell_other _ _ _ _ (by simp)).trans (World.cell?_setCell_same _ _ _ (((World.cell?_setCell_other _ _ _ _ (by simp)).trans ((World.cell?_setCell_other _ _ _ _ (by simp)).trans ((World.cell?_setCell_other _ _ _ _ (by simp)).trans ((World.cell?_setCell_other _ _ _ _ (by simp)).trans ((World.cell?_setCell_other _ _ _ _ (by simp)).trans h.c5)))))))), (World.cell?_setCell_same _ _ _ (((World.cell?_setCell_other _ _ _ _ (by simp)).trans ((World.cell?_setCell_other _ _ _ _ (by simp)).trans ((World.cell?_setCell_other _ _ _ _ (by simp)).trans ((World.cell?_setCell_other _ _ _ _ (by simp)).trans ((World.cell?_setCell_other _ _ _ _ (by simp)).trans ((World.cell?_setCell_other _ _ _ _ (by simp)).trans h.c6)))))))), fun o => by simp [h.fz o]⟩

theorem own_far {W5 : World} {B : Nat} (hB : B < W5.heap.size) {l m : Nat} {u : Value} {f : Nat → Value} (A : World) (i : Nat) (v : Value) (h : OwnV W5 A u l m f) : OwnV W5 (A.setCell ⟨B, i, none⟩ v) u l m f :=
  OwnV.chg h (Chg.setCell (Own := fun b => b < W5.heap.size) _ _ _ hB) (fun _ hb => hb)
section
variable (w : World)
theorem szQ_ok (v : Value) (Y : QM) (h : StS w v Y) (q0 : Int) (h0 : 0 ≤ q0) (hq : q0 ≤ 1048576) (hl : (Y.gs.length : Int) + Y.X.ts.length ≤ q0) :
    Calls Try.prog 11 #[v, .int .i64 q0] w fun r w' => r = .returned (.int .i64 (q0 - (Y.gs.length : Int) - (Y.X.ts.length : Int))) ∧ Below w.heap.size w w' := by
  obtain ⟨gs, ⟨n, e, s, ts⟩, p, q⟩ := Y
  obtain ⟨z, u, rfl, ⟨a, cap, rfl, g1, g2, _⟩, ⟨au, cu, rfl, t1, t2, _⟩⟩ := h
  dsimp only at *
  obtain ⟨l1, hl1⟩ : ∃ l, gs.length = l := ⟨_, rfl⟩
  obtain ⟨l2, hl2⟩ : ∃ l, ts.length = l := ⟨_, rfl⟩
  rw [hl1, hl2] at hl ⊢
  have hC := Lib.hid (fun W => szg_left W a l1 cap q0 hq (by omega))
  have hD := Lib.hid (fun W => szs_left W n e s au l2 cu (q0 - (l1 : Int)) (by omega) (by omega))
  have h1 : 0 ≤ q0 - (l1 : Int) := by omega
  have h2 : 0 ≤ q0 - (l1 : Int) - (l2 : Int) := by omega
  obtain ⟨q1, hq1⟩ : ∃ q1 : Int, q0 - (l1 : Int) = q1 := ⟨_, rfl⟩
  rw [hq1] at hC hD h1 h2 ⊢
  obtain ⟨q2, hq2⟩ : ∃ q2 : Int, q1 - (l2 : Int) = q2 := ⟨_, rfl⟩
  rw [hq2] at hD h2 ⊢
  clear hl hq1 hq2 hl1 hl2 g1 g2 t1 t2 hq
  obtain ⟨W0, hW0⟩ : ∃ W0, W0 = w.alloc (.cells #[.slice a l1 cap, .int .i64 n, .int .u32 e, .int .i64 s, .slice au l2 cu, .int .i64 p, .int .i64 q] 32) := ⟨_, rfl⟩
  have hb0 : Below w.heap.size w W0 := by rw [hW0]; (repeat (first | exact Below.refl _ _ | assumption | refine bchain (by assumption) ?_ | refine balloc ?_ _ | apply Below.drew | apply below_drewN | (refine Below.alloc ?_ (by (try simp) <;> omega) _) | (refine Below.setCell ?_ (by (try simp) <;> omega) _)))
  have k0 : QB W0 w.heap.size (.slice a l1 cap) n e s (.slice au l2 cu) p q := by rw [hW0]; exact QB.made _ _ _ _ _ _ _ _ _
  replace hW0 := Lib.hid hW0
  obtain ⟨_, x0, x1, x2, x3, x4, x5, x6, _⟩ := id k0
  go_enter Try.func11, Try.ntmps11
  go_wp2_with fail
  rw [← hW0.out]
  go_wp2_with fail
  refine (hC.out _).mono ?_
  rintro r1 w1 ⟨rfl, rfl⟩
  go_wp2_with fail
  refine (hD.out _).mono ?_
  rintro r2 w2 ⟨rfl, hb2⟩
  go_wp2
  go_ret
  exact ⟨rfl, bchain hb2 hb0⟩
theorem szQ_over1 (v : Value) (Y : QM) (h : StS w v Y) (q0 : Int) (h0 : 0 ≤ q0) (hq : q0 ≤ 1048576) (hl : q0 < (Y.gs.length : Int)) :
    Calls Try.prog 11 #[v, .int .i64 q0] w fun r w' => r = .returned (.int .i64 (-1)) ∧ Below w.heap.size w w' := by
  obtain ⟨gs, ⟨n, e, s, ts⟩, p, q⟩ := Y
  obtain ⟨z, u, rfl, ⟨a, cap, rfl, g1, g2, _⟩, ⟨au, cu, rfl, t1, t2, _⟩⟩ := h
  dsimp only at *
  obtain ⟨l1, hl1⟩ : ∃ l, gs.length = l := ⟨_, rfl⟩
  obtain ⟨l2, hl2⟩ : ∃ l, ts.length = l := ⟨_, rfl⟩
  rw [hl1] at hl g1
  rw [hl1, hl2]
  have hC := Lib.hid (fun W => szg_over W a l1 cap q0 h0 hq hl (by omega))
  clear hl hl1 hl2 g1 g2 t1 t2 hq h0
  obtain ⟨W0, hW0⟩ : ∃ W0, W0 = w.alloc (.cells #[.slice a l1 cap, .int .i64 n, .int .u32 e, .int .i64 s, .slice au l2 cu, .int .i64 p, .int .i64 q] 32) := ⟨_, rfl⟩
  have hb0 : Below w.heap.size w W0 := by rw [hW0]; (repeat (first | exact Below.refl _ _ | assumption | refine bchain (by assumption) ?_ | refine balloc ?_ _ | apply Below.drew | apply below_drewN | (refine Below.alloc ?_ (by (try simp) <;> omega) _) | (refine Below.setCell ?_ (by (try simp) <;> omega) _)))
  have k0 : QB W0 w.heap.size (.slice a l1 cap) n e s (.slice au l2 cu) p q := by rw [hW0]; exact QB.made _ _ _ _ _ _ _ _ _
  replace hW0 := Lib.hid hW0
  obtain ⟨_, x0, x1, x2, x3, x4, x5, x6, _⟩ := id k0
  go_enter Try.func11, Try.ntmps11
  go_wp2_with fail
  rw [← hW0.out]
  go_wp2_with fail
  refine (hC.out _).mono ?_
  rintro r1 w1 ⟨rfl, rfl⟩
  go_wp2
  go_ret
  exact ⟨rfl, hb0⟩
theorem szQ_over2 (v : Value) (Y : QM) (h : StS w v Y) (q0 : Int) (h0 : 0 ≤ q0) (hq : q0 ≤ 1048576) (hl1 : (Y.gs.length : Int) ≤ q0) (hl : q0 - (Y.gs.length : Int) < (Y.X.ts.length : Int)) :
    Calls Try.prog 11 #[v, .int .i64 q0] w fun r w' => r = .returned (.int .i64 (-1)) ∧ Below w.heap.size w w' := by
  obtain ⟨gs, ⟨n, e, s, ts⟩, p, q⟩ := Y
  obtain ⟨z, u, rfl, ⟨a, cap, rfl, g1, g2, _⟩, ⟨au, cu, rfl, t1, t2, _⟩⟩ := h
  dsimp only at *
  obtain ⟨l1, hk1⟩ : ∃ l, gs.length = l := ⟨_, rfl⟩
  obtain ⟨l2, hk2⟩ : ∃ l, ts.length = l := ⟨_, rfl⟩
  rw [hk1] at hl hl1 g1
  rw [hk2] at hl t1
  rw [hk1, hk2]
  have hC := Lib.hid (fun W => szg_left W a l1 cap q0 hq hl1)
  have hD := Lib.hid (fun W => szs_over W n e s au l2 cu (q0 - (l1 : Int)) (by omega) (by omega) hl (by omega))
  have h1 : 0 ≤ q0 - (l1 : Int) := by omega
  obtain ⟨q1, hq1⟩ : ∃ q1 : Int, q0 - (l1 : Int) = q1 := ⟨_, rfl⟩
  rw [hq1] at hC hD h1
  clear hl hl1 hq1 hk1 hk2 g1 g2 t1 t2 hq h0
  obtain ⟨W0, hW0⟩ : ∃ W0, W0 = w.alloc (.cells #[.slice a l1 cap, .int .i64 n, .int .u32 e, .int .i64 s, .slice au l2 cu, .int .i64 p, .int .i64 q] 32) := ⟨_, rfl⟩
  have hb0 : Below w.heap.size w W0 := by rw [hW0]; (repeat (first | exact Below.refl _ _ | assumption | refine bchain (by assumption) ?_ | refine balloc ?_ _ | apply Below.drew | apply below_drewN | (refine Below.alloc ?_ (by (try simp) <;> omega) _) | (refine Below.setCell ?_ (by (try simp) <;> omega) _)))
  have k0 : QB W0 w.heap.size (.slice a l1 cap) n e s (.slice au l2 cu) p q := by rw [hW0]; exact QB.made _ _ _ _ _ _ _ _ _
  replace hW0 := Lib.hid hW0
  obtain ⟨_, x0, x1, x2, x3, x4, x5, x6, _⟩ := id k0
  go_enter Try.func11, Try.ntmps11
  go_wp2_with fail
  rw [← hW0.out]
  go_wp2_with fail
  refine (hC.out _).mono ?_
  rintro r1 w1 ⟨rfl, rfl⟩
  go_wp2_with fail
  refine (hD.out _).mono ?_
  rintro r2 w2 ⟨rfl, hb2⟩
  go_wp2
  go_ret
  exact ⟨rfl, bchain hb2 hb0⟩
theorem szQ_bad (v : Value) (Y : QM) (h : StS w v Y) (q0 : Int) (h0 : 0 ≤ q0) (hq : q0 ≤ 1048576) (hl : ¬ ((Y.gs.length : Int) + Y.X.ts.length ≤ q0)) :
    Calls Try.prog 11 #[v, .int .i64 q0] w fun r w' => r = .returned (.int .i64 (-1)) ∧ Below w.heap.size w w' := by
  by_cases c : q0 < (Y.gs.length : Int)
  · exact szQ_over1 w v Y h q0 h0 hq c
  · exact szQ_over2 w v Y h q0 h0 hq (by omega) (by omega)
theorem eqQ_any (Y : QM) (z u z' u' : Value) (hz : SlG w z Y.gs) (hu : SlT w u Y.X.ts) (hz' : SlG w z' Y.gs) (hu' : SlT w u' Y.X.ts) (hm : Y.gs.length ≤ 1048576) (hm2 : Y.X.ts.length ≤ 1048576) :
    Calls Try.prog 15 #[.agg #[z, .int .i64 Y.X.n, .int .u32 Y.X.e, .int .i64 Y.X.s, u, .int .i64 Y.p, .int .i64 Y.q], .agg #[z', .int .i64 Y.X.n, .int .u32 Y.X.e, .int .i64 Y.X.s, u', .int .i64 Y.p, .int .i64 Y.q]] w fun r w' => r = .returned (.bool true) ∧ Below w.heap.size w w' := by
  have hC := Lib.hid (fun W (hb : Below w.heap.size w W) => eqGs_any W z z' Y.gs (hz.below hb) (hz'.below hb) hm)
  have hD := Lib.hid (fun W (hb : Below w.heap.size w W) => eqS_any W u u' Y.X (hu.below hb) (hu'.below hb) hm2)
  obtain ⟨gs, ⟨n, e, s, ts⟩, p, q⟩ := Y
  have hF := Lib.hid (fun W => Fr.eqF_any W p q)
  obtain ⟨a, cap, rfl, _⟩ := hz
  obtain ⟨au, cu, rfl, _⟩ := hu
  obtain ⟨a', cap', rfl, _⟩ := hz'
  obtain ⟨au', cu', rfl, _⟩ := hu'
  dsimp only at *
  obtain ⟨l1, hl1⟩ : ∃ l, gs.length = l := ⟨_, rfl⟩
  obtain ⟨l2, hl2⟩ : ∃ l, ts.length = l := ⟨_, rfl⟩
  rw [hl1] at hC ⊢
  rw [hl2] at hD ⊢
  clear hl1 hl2 hm hm2
  obtain ⟨W0, hW0⟩ : ∃ W0, W0 = (w.alloc (.cells #[.slice a l1 cap, .int .i64 n, .int .u32 e, .int .i64 s, .slice au l2 cu, .int .i64 p, .int .i64 q] 42)).alloc (.cells #[.slice a' l1 cap', .int .i64 n, .int .u32 e, .int .i64 s, .slice au' l2 cu', .int .i64 p, .int .i64 q] 42) := ⟨_, rfl⟩
  have hb0 : Below w.heap.size w W0 := by rw [hW0]; (repeat (first | exact Below.refl _ _ | assumption | refine bchain (by assumption) ?_ | refine balloc ?_ _ | apply Below.drew | apply below_drewN | (refine Below.alloc ?_ (by (try simp) <;> omega) _) | (refine Below.setCell ?_ (by (try simp) <;> omega) _)))
  have sz : ∀ (W : World) (o : Obj), (W.alloc o).heap.size = W.heap.size + 1 := fun W o => by simp
  have k0 : QB W0 w.heap.size (.slice a l1 cap) n e s (.slice au l2 cu) p q := by rw [hW0]; exact (QB.made _ _ _ _ _ _ _ _ _).below (balloc (Below.refl _ _) _)
  have k1 : QB W0 (w.heap.size + 1) (.slice a' l1 cap') n e s (.slice au' l2 cu') p q := by rw [hW0, ← sz w (.cells #[.slice a l1 cap, .int .i64 n, .int .u32 e, .int .i64 s, .slice au l2 cu, .int .i64 p, .int .i64 q] 42)]; exact QB.made _ _ _ _ _ _ _ _ _
  replace hW0 := Lib.hid hW0
  clear sz
  obtain ⟨_, x0, x1, x2, x3, x4, x5, x6, _⟩ := id k0
  obtain ⟨_, y0, y1, y2, y3, y4, y5, y6, _⟩ := id k1
  go_enter Try.func15, Try.ntmps15
  go_wp2_with fail
  rw [← hW0.out]
  go_wp2_with fail
  refine (hC.out _ hb0).mono ?_
  rintro r1 w1 ⟨rfl, hb1⟩
  replace k0 := k0.below hb1
  replace k1 := k1.below hb1
  replace hb0 := bchain hb1 hb0
  clear hb1 x0 x1 x2 x3 x4 x5 x6 y0 y1 y2 y3 y4 y5 y6
  obtain ⟨_, x0, x1, x2, x3, x4, x5, x6, _⟩ := id k0
  obtain ⟨_, y0, y1, y2, y3, y4, y5, y6, _⟩ := id k1
  go_wp2_with fail
  refine (hD.out _ hb0).mono ?_
  rintro r2 w2 ⟨rfl, hb2⟩
  replace k0 := k0.below hb2
  replace k1 := k1.below hb2
  replace hb0 := bchain hb2 hb0
  clear hb2 x0 x1 x2 x3 x4 x5 x6 y0 y1 y2 y3 y4 y5 y6
  obtain ⟨_, x0, x1, x2, x3, x4, x5, x6, _⟩ := id k0
  obtain ⟨_, y0, y1, y2, y3, y4, y5, y6, _⟩ := id k1
  go_wp2_with fail
  refine (hF.out _).mono ?_
  rintro r3 w3 ⟨rfl, hb3⟩
  go_wp2
  go_ret
  exact ⟨rfl, bchain hb3 hb0⟩
set_option maxHeartbeats 2000000 in
theorem toQ_any (v : Value) (Y : QM) (h : StS w v Y) (hm : Y.gs.length ≤ 1048576) (hm2 : Y.X.ts.length ≤ 1048576) :
    Calls Try.prog 13 #[v] w fun r w' => (∃ z u, r = .returned (.agg #[z, .int .i64 Y.X.n, .int .u32 Y.X.e, .int .i64 Y.X.s, u, .int .i64 Y.p, .int .i64 Y.q]) ∧ OwnG w w' z Y.gs ∧ OwnT w w' u Y.X.ts) ∧ Below w.heap.size w w' := by
  obtain ⟨gs, X, p, q⟩ := Y
  obtain ⟨z, u, rfl, hz, hu⟩ := h
  dsimp only at *
  have hC := Lib.hid (fun W (hb : Below w.heap.size w W) => toGo_any W z gs (hz.below hb) hm)
  have hD := Lib.hid (fun W (hb : Below w.heap.size w W) => toS_any W (.agg #[.int .i64 X.n, .int .u32 X.e, .int .i64 X.s, u]) X ⟨u, rfl, hu.below hb⟩ hm2)
  have hF := Lib.hid (fun W => Fr.toF_any W p q)
  obtain ⟨n, e, s, ts⟩ := X
  obtain ⟨a, cap, rfl, _⟩ := hz
  obtain ⟨au, cu, rfl, _⟩ := hu
  dsimp only at *
  clear hm hm2
  obtain ⟨l1, hl1⟩ : ∃ l, gs.length = l := ⟨_, rfl⟩
  obtain ⟨l2, hl2⟩ : ∃ l, ts.length = l := ⟨_, rfl⟩
  rw [hl1] at hC ⊢
  rw [hl2] at hD ⊢
  replace hl1 := Lib.hid hl1
  replace hl2 := Lib.hid hl2
  obtain ⟨W0, hW0⟩ : ∃ W0, W0 = ((w.alloc (.cells #[.slice a l1 cap, .int .i64 n, .int .u32 e, .int .i64 s, .slice au l2 cu, .int .i64 p, .int .i64 q] 32)).alloc (.cells #[.slice none 0 0, .int .i64 0, .int .u32 0, .int .i64 0, .slice none 0 0, .int .i64 0, .int .i64 0] 42)).alloc (.cells #[.slice none 0 0, .int .i64 0, .int .u32 0, .int .i64 0, .slice none 0 0, .int .i64 0, .int .i64 0] 42) := ⟨_, rfl⟩
  have hb0 : Below w.heap.size w W0 := by rw [hW0]; (repeat (first | exact Below.refl _ _ | assumption | refine bchain (by assumption) ?_ | refine balloc ?_ _ | apply Below.drew | apply below_drewN | (refine Below.alloc ?_ (by (try simp) <;> omega) _) | (refine Below.setCell ?_ (by (try simp) <;> omega) _)))
  have sz : ∀ (W : World) (o : Obj), (W.alloc o).heap.size = W.heap.size + 1 := fun W o => by simp
  have tA : QB W0 w.heap.size (.slice a l1 cap) n e s (.slice au l2 cu) p q := by rw [hW0]; exact ((QB.made _ _ _ _ _ _ _ _ _).below (balloc (Below.refl _ _) _)).below (balloc (Below.refl _ _) _)
  have tR : QB W0 (w.heap.size + 1) (.slice none 0 0) 0 0 0 (.slice none 0 0) 0 0 := by rw [hW0, ← sz w (.cells #[.slice a l1 cap, .int .i64 n, .int .u32 e, .int .i64 s, .slice au l2 cu, .int .i64 p, .int .i64 q] 32)]; exact (QB.made _ (.slice none 0 0) 0 0 0 _ 0 0 42).below (balloc (Below.refl _ _) _)
  have tO : QB W0 (w.heap.size + 1 + 1) (.slice none 0 0) 0 0 0 (.slice none 0 0) 0 0 := by rw [hW0, ← sz w (.cells #[.slice a l1 cap, .int .i64 n, .int .u32 e, .int .i64 s, .slice au l2 cu, .int .i64 p, .int .i64 q] 32), ← sz _ (.cells #[.slice none 0 0, .int .i64 0, .int .u32 0, .int .i64 0, .slice none 0 0, .int .i64 0, .int .i64 0] 42)]; exact QB.made _ (.slice none 0 0) 0 0 0 _ 0 0 42
  clear sz
  replace hW0 := Lib.hid hW0
  have hzO : w.heap.size + 1 + 1 < W0.heap.size := tO.lt
  obtain ⟨_, x0, x1, x2, x3, x4, x5, x6, _⟩ := id tA
  go_enter Try.func13, Try.ntmps13
  go_wp2_with fail
  rw [← hW0.out]
  go_wp2_with fail
  refine (hC.out _ hb0).mono ?_
  rintro r1 w1 ⟨⟨z1, rfl, hZ⟩, hb1⟩
  obtain ⟨a1, c1, rfl, _⟩ := id hZ
  rw [hl1.out] at hZ ⊢
  replace hZ := Lib.hid hZ
  replace tA := tA.below hb1
  replace tR := tR.below hb1
  replace tO := tO.below hb1
  replace hb0 := bchain hb1 hb0
  clear hb1 x0 x1 x2 x3 x4 x5 x6
  obtain ⟨_, x0, x1, x2, x3, x4, x5, x6, _⟩ := id tA
  obtain ⟨_, y0, y1, y2, y3, y4, y5, y6, fO⟩ := id tO
  obtain ⟨W4, hW4⟩ : ∃ W4, W4 = (w1.setCell ⟨w.heap.size + 1 + 1, 0, none⟩ (.slice a1 l1 c1)) := ⟨_, rfl⟩
  have uA : QB W4 w.heap.size (.slice a l1 cap) n e s (.slice au l2 cu) p q := by rw [hW4]; exact (tA.other (a := ⟨w.heap.size + 1 + 1, 0, none⟩) (.slice a1 l1 c1) (by show w.heap.size + 1 + 1 ≠ w.heap.size; omega))
  have uR : QB W4 (w.heap.size + 1) (.slice none 0 0) 0 0 0 (.slice none 0 0) 0 0 := by rw [hW4]; exact (tR.other (a := ⟨w.heap.size + 1 + 1, 0, none⟩) (.slice a1 l1 c1) (by show w.heap.size + 1 + 1 ≠ w.heap.size + 1; omega))
  have uO : QB W4 (w.heap.size + 1 + 1) (.slice a1 l1 c1) 0 0 0 (.slice none 0 0) 0 0 := by rw [hW4]; exact tO.put0 _
  have ub : Below w.heap.size w W4 := by rw [hW4]; exact (hb0.setCell (p := ⟨w.heap.size + 1 + 1, 0, none⟩) (by show w.heap.size ≤ w.heap.size + 1 + 1; omega) (.slice a1 l1 c1))
  have uZ : Hid (OwnG W0 W4 (.slice a1 l1 c1) gs) := by rw [hW4]; exact own_far hzO _ _ _ hZ.out
  replace hW4 := Lib.hid hW4
  clear hZ tA tR tO hb0
  go_wp2_with fail
  rw [← hW4.out]
  refine (hD.out _ ub).mono ?_
  rintro r2 w2 ⟨⟨u2, rfl, hU⟩, hb2⟩
  obtain ⟨a2, c2, rfl, _⟩ := id hU
  rw [hl2.out] at hU ⊢
  have hzO2 : w.heap.size + 1 + 1 < W4.heap.size := uO.lt
  have hw4 : w.heap.size ≤ W4.heap.size := ub.size
  replace hU := Lib.hid hU
  replace uZ := Lib.hid (OwnG.below uZ.out hb2)
  replace uA := uA.below hb2
  replace uR := uR.below hb2
  replace uO := uO.below hb2
  replace ub := bchain hb2 ub
  clear hb2 hW4 x0 x1 x2 x3 x4 x5 x6 y0 y1 y2 y3 y4 y5 y6 fO
  obtain ⟨_, x0, x1, x2, x3, x4, x5, x6, _⟩ := id uA
  obtain ⟨_, y0, y1, y2, y3, y4, y5, y6, fO⟩ := id uO
  obtain ⟨W5, hW5⟩ : ∃ W5, W5 = ((((w2.setCell ⟨w.heap.size + 1 + 1, 1, none⟩ (.int .i64 n)).setCell ⟨w.heap.size + 1 + 1, 2, none⟩ (.int .u32 e)).setCell ⟨w.heap.size + 1 + 1, 3, none⟩ (.int .i64 s)).setCell ⟨w.heap.size + 1 + 1, 4, none⟩ (.slice a2 l2 c2)) := ⟨_, rfl⟩
  have vR : QB W5 (w.heap.size + 1) (.slice none 0 0) 0 0 0 (.slice none 0 0) 0 0 := by rw [hW5]; exact ((((uR.other (a := ⟨w.heap.size + 1 + 1, 1, none⟩) (.int .i64 n) (by show w.heap.size + 1 + 1 ≠ w.heap.size + 1; omega)).other (a := ⟨w.heap.size + 1 + 1, 2, none⟩) (.int .u32 e) (by show w.heap.size + 1 + 1 ≠ w.heap.size + 1; omega)).other (a := ⟨w.heap.size + 1 + 1, 3, none⟩) (.int .i64 s) (by show w.heap.size + 1 + 1 ≠ w.heap.size + 1; omega)).other (a := ⟨w.heap.size + 1 + 1, 4, none⟩) (.slice a2 l2 c2) (by show w.heap.size + 1 + 1 ≠ w.heap.size + 1; omega))
  have vO : QB W5 (w.heap.size + 1 + 1) (.slice a1 l1 c1) n e s (.slice a2 l2 c2) 0 0 := by rw [hW5]; exact uO.put14 n e s _
  have vb : Below w.heap.size w W5 := by rw [hW5]; exact ((((ub.setCell (p := ⟨w.heap.size + 1 + 1, 1, none⟩) (by show w.heap.size ≤ w.heap.size + 1 + 1; omega) (.int .i64 n)).setCell (p := ⟨w.heap.size + 1 + 1, 2, none⟩) (by show w.heap.size ≤ w.heap.size + 1 + 1; omega) (.int .u32 e)).setCell (p := ⟨w.heap.size + 1 + 1, 3, none⟩) (by show w.heap.size ≤ w.heap.size + 1 + 1; omega) (.int .i64 s)).setCell (p := ⟨w.heap.size + 1 + 1, 4, none⟩) (by show w.heap.size ≤ w.heap.size + 1 + 1; omega) (.slice a2 l2 c2))
  have vZ : Hid (OwnG W0 W5 (.slice a1 l1 c1) gs) := by rw [hW5]; exact own_far hzO _ _ _ (own_far hzO _ _ _ (own_far hzO _ _ _ (own_far hzO _ _ _ uZ.out)))
  have vU : Hid (OwnT W4 W5 (.slice a2 l2 c2) ts) := by rw [hW5]; exact own_far hzO2 _ _ _ (own_far hzO2 _ _ _ (own_far hzO2 _ _ _ (own_far hzO2 _ _ _ hU.out)))
  replace hW5 := Lib.hid hW5
  clear hU uZ uA uR uO ub
  go_wp2_with fail
  rw [← hW5.out]
  refine (hF.out _).mono ?_
  rintro r3 w3 ⟨rfl, hb3⟩
  replace vZ := Lib.hid (OwnG.below vZ.out hb3)
  replace vU := Lib.hid (OwnT.below vU.out hb3)
  replace vR := vR.below hb3
  replace vO := vO.below hb3
  replace vb := bchain hb3 vb
  clear hb3 hW5 x0 x1 x2 x3 x4 x5 x6 y0 y1 y2 y3 y4 y5 y6 fO
  obtain ⟨_, y0, y1, y2, y3, y4, y5, y6, fO⟩ := id vO
  obtain ⟨_, x0, x1, x2, x3, x4, x5, x6, fR⟩ := id vR
  obtain ⟨W6, hW6⟩ : ∃ W6, W6 = ((w3.setCell ⟨w.heap.size + 1 + 1, 5, none⟩ (.int .i64 p)).setCell ⟨w.heap.size + 1 + 1, 6, none⟩ (.int .i64 q)) := ⟨_, rfl⟩
  have jR : QB W6 (w.heap.size + 1) (.slice none 0 0) 0 0 0 (.slice none 0 0) 0 0 := by rw [hW6]; exact ((vR.other (a := ⟨w.heap.size + 1 + 1, 5, none⟩) (.int .i64 p) (by show w.heap.size + 1 + 1 ≠ w.heap.size + 1; omega)).other (a := ⟨w.heap.size + 1 + 1, 6, none⟩) (.int .i64 q) (by show w.heap.size + 1 + 1 ≠ w.heap.size + 1; omega))
  have jb : Below w.heap.size w W6 := by rw [hW6]; exact ((vb.setCell (p := ⟨w.heap.size + 1 + 1, 5, none⟩) (by show w.heap.size ≤ w.heap.size + 1 + 1; omega) (.int .i64 p)).setCell (p := ⟨w.heap.size + 1 + 1, 6, none⟩) (by show w.heap.size ≤ w.heap.size + 1 + 1; omega) (.int .i64 q))
  have jZ : Hid (OwnG W0 W6 (.slice a1 l1 c1) gs) := by rw [hW6]; exact own_far hzO _ _ _ (own_far hzO _ _ _ vZ.out)
  have jU : Hid (OwnT W4 W6 (.slice a2 l2 c2) ts) := by rw [hW6]; exact own_far hzO2 _ _ _ (own_far hzO2 _ _ _ vU.out)
  have jF := jR.all (.slice a1 l1 c1) n e s (.slice a2 l2 c2) p q
  have jBB := (((((((jb.setCell (p := ⟨w.heap.size + 1, 0, none⟩) (by show w.heap.size ≤ w.heap.size + 1; omega) (.slice a1 l1 c1)).setCell (p := ⟨w.heap.size + 1, 1, none⟩) (by show w.heap.size ≤ w.heap.size + 1; omega) (.int .i64 n)).setCell (p := ⟨w.heap.size + 1, 2, none⟩) (by show w.heap.size ≤ w.heap.size + 1; omega) (.int .u32 e)).setCell (p := ⟨w.heap.size + 1, 3, none⟩) (by show w.heap.size ≤ w.heap.size + 1; omega) (.int .i64 s)).setCell (p := ⟨w.heap.size + 1, 4, none⟩) (by show w.heap.size ≤ w.heap.size + 1; omega) (.slice a2 l2 c2)).setCell (p := ⟨w.heap.size + 1, 5, none⟩) (by show w.heap.size ≤ w.heap.size + 1; omega) (.int .i64 p)).setCell (p := ⟨w.heap.size + 1, 6, none⟩) (by show w.heap.size ≤ w.heap.size + 1; omega) (.int .i64 q))
  have hzR : w.heap.size + 1 < W0.heap.size := by omega
  have hzR2 : w.heap.size + 1 < W4.heap.size := by omega
  have hw0 : w.heap.size ≤ W0.heap.size := by omega
  clear vR vO vb jR jb vZ vU
  go_wp2
  rw [← hW6]
  obtain ⟨WW, hWW⟩ : ∃ WW, WW = (((((((W6.setCell ⟨w.heap.size + 1, 0, none⟩ (.slice a1 l1 c1)).setCell ⟨w.heap.size + 1, 1, none⟩ (.int .i64 n)).setCell ⟨w.heap.size + 1, 2, none⟩ (.int .u32 e)).setCell ⟨w.heap.size + 1, 3, none⟩ (.int .i64 s)).setCell ⟨w.heap.size + 1, 4, none⟩ (.slice a2 l2 c2)).setCell ⟨w.heap.size + 1, 5, none⟩ (.int .i64 p)).setCell ⟨w.heap.size + 1, 6, none⟩ (.int .i64 q)) := ⟨_, rfl⟩
  have hOZ : OwnG W0 WW (.slice a1 l1 c1) gs := by rw [hWW]; exact own_far hzR _ _ _ (own_far hzR _ _ _ (own_far hzR _ _ _ (own_far hzR _ _ _ (own_far hzR _ _ _ (own_far hzR _ _ _ (own_far hzR _ _ _ jZ.out))))))
  have hOU : OwnT W4 WW (.slice a2 l2 c2) ts := by rw [hWW]; exact own_far hzR2 _ _ _ (own_far hzR2 _ _ _ (own_far hzR2 _ _ _ (own_far hzR2 _ _ _ (own_far hzR2 _ _ _ (own_far hzR2 _ _ _ (own_far hzR2 _ _ _ jU.out))))))
  rw [← hWW] at jF jBB ⊢
  clear hWW hW6
  obtain ⟨_, v0, v1, v2, v3, v4, v5, v6, _⟩ := jF
  exact bodyPost_ret (v := .agg #[.slice a1 l1 c1, .int .i64 n, .int .u32 e, .int .i64 s, .slice a2 l2 c2, .int .i64 p, .int .i64 q]) (by simp [results, Try.results13, go_sem, v0, v1, v2, v3, v4, v5, v6]) rfl ⟨⟨_, _, rfl, OwnG.mono hOZ hw0, OwnT.mono hOU hw4⟩, jBB⟩
end
end Go.Proofs.Ytfpoekdcedbciaa
/-
  Which sums of flags are valid: the program's word and the model's.
-/
namespace Go.Proofs.Ytfpoekdcedbciaa
open Go.RowKit
set_option maxRecDepth 100000
section
variable (w : World)
theorem ivs_any (X : SM) (u : Value) (hS : SlT w u X.ts) (hbd : BdS X) (B : Bool) (hB : B = true ↔ VSum X) :
    Calls Try.prog 64 #[.agg #[.int .i64 X.n, .int .u32 X.e, .int .i64 X.s, u]] w fun r w' => r = .returned (.bool B) ∧ Below w.heap.size w w' := by
  by_cases hv : VG X.n X.e
  · cases hf : frB X.n X.s with
    | false =>
      obtain rfl : B = false := by
        rw [Bool.eq_false_iff]; intro c; have := (hB.1 c).2.1; rw [hf] at this; cases this
      exact ivs_frame w X.n X.e X.s u hv hf
    | true =>
      by_cases hl : X.ts.length ≤ 64
      · exact ivs_ok w X u hS hbd.2.2 hl hv hf B (hB.trans ⟨fun c => c.2.2.2, fun c => ⟨hv, hf, hl, c⟩⟩)
      · obtain rfl : B = false := by
          rw [Bool.eq_false_iff]; intro c; exact hl (hB.1 c).2.2.1
        obtain ⟨a, cap, rfl, h1, h2, _⟩ := hS
        exact ivs_len w X.n X.e X.s a X.ts.length cap (by omega) (by omega) hv hf
  · obtain rfl : B = false := by
      rw [Bool.eq_false_iff]; intro c; exact hv (hB.1 c).1
    exact ivs_type w X.n X.e X.s u hbd.2.1 hbd.1 hv
theorem sv5_any (X : SM) (u : Value) (G : Nat) (c1 : SB w G X.n X.e X.s u) (hS : SlT w u X.ts) (hbd : BdS X) (B : Bool) (hB : B = true ↔ VSum X) :
    Calls Try.prog 84 #[.pointer (some ⟨G, 0, none⟩)] w fun r w' => r = .returned (.bool B) ∧ Below w.heap.size w w' := by
  obtain ⟨a, cap, hu, h1, h2, _⟩ := id hS
  by_cases hv : VG X.n X.e
  · cases hf : frB X.n X.s with
    | false =>
      obtain rfl : B = false := by
        rw [Bool.eq_false_iff]; intro c; have := (hB.1 c).2.1; rw [hf] at this; cases this
      exact sv5_frame w G X.n X.e X.s a _ cap (by rw [← hu]; exact c1) hv hf
    | true =>
      by_cases hl : X.ts.length ≤ 64
      · exact sv5_ok w G X.n X.e X.s X.ts u c1 hS hbd.2.2 hl hv hf B (hB.trans ⟨fun c => c.2.2.2, fun c => ⟨hv, hf, hl, c⟩⟩)
      · obtain rfl : B = false := by
          rw [Bool.eq_false_iff]; intro c; exact hl (hB.1 c).2.2.1
        exact sv5_len w G X.n X.e X.s a X.ts.length cap (by rw [← hu]; exact c1) (by omega) (by omega) hv hf
  · obtain rfl : B = false := by
      rw [Bool.eq_false_iff]; intro c; exact hv (hB.1 c).1
    exact sv5_type w G X.n X.e X.s a _ cap (by rw [← hu]; exact c1) hbd.2.1 hbd.1 hv
end
end Go.Proofs.Ytfpoekdcedbciaa
namespace Go.Proofs.Ytfpoekdcedbciaa
open Go.RowKit
theorem forb_both (gs : List (Int × Int)) (hm : gs.length ≤ 1048576) (hbd : Bd gs) : ∃ c : Int, (c = 0 → AllV gs ∧ gs.length ≤ 6) ∧ 0 ≤ c ∧ c ≤ 8 ∧
    (∀ W a cap, Lies W a gs → Calls Try.prog 63 #[.slice a gs.length cap] W fun r w' => r = .returned (.int .i64 c) ∧ Below W.heap.size W w') ∧
    (∀ W a cap, Lies W a gs → Calls Try.prog 85 #[.slice a gs.length cap] W fun r w' => r = .returned (.int .i64 c) ∧ Below W.heap.size W w') := by
  by_cases hV : AllV gs
  · by_cases h6 : gs.length ≤ 6
    · exact ⟨0, fun _ => ⟨hV, h6⟩, by omega, by omega, fun W a cap hc => cf_ok W a cap gs hm hc hbd hV h6, fun W a cap hc => sf_ok W a cap gs hm hc hbd hV h6⟩
    · exact ⟨3, fun c => by omega, by omega, by omega, fun W a cap hc => cf_long W a cap gs hm hc hbd hV (by omega), fun W a cap hc => sf_long W a cap gs hm hc hbd hV (by omega)⟩
  · obtain ⟨m, h1, h2, h3⟩ := not_allV hV
    exact ⟨1, fun c => by omega, by omega, by omega, fun W a cap hc => cf_f W a cap gs hm hc hbd m h1 h2 h3, fun W a cap hc => sf_f W a cap gs hm hc hbd m h1 h2 h3⟩
/-- a list of graphs that a call returns with a code -/
def RetG (W : World) (L : List (Int × Int)) (c : Int) (r : Ending) (w' : World) : Prop := (∃ u, r = .returned (.tuple #[u, .int .i64 c]) ∧ OwnG W w' u L) ∧ Below W.heap.size W w'
theorem ownG_made {w0 w : World} {B cap : Nat} : OwnG w0 w (.slice (some ⟨B, 0, none⟩) 0 cap) [] → True := fun _ => trivial
theorem ownG_zero (w0 w : World) (a : Option Addr) : OwnG w0 w (.slice a 0 0) [] := ⟨a, 0, rfl, by simp, by simp, fun c => absurd c (by simp)⟩
end Go.Proofs.Ytfpoekdcedbciaa
/-
  WHICH STATEMENTS ARE VALID: the program's word and the model's.
-/
namespace Go.Proofs.Ytfpoekdcedbciaa
open Go.RowKit
set_option maxRecDepth 100000
theorem forb_iff (gs : List (Int × Int)) (hm : gs.length ≤ 1048576) (hbd : Bd gs) : ∃ c : Int, (c = 0 ↔ AllV gs ∧ gs.length ≤ 6) ∧
    (∀ W a cap, Lies W a gs → Calls Try.prog 63 #[.slice a gs.length cap] W fun r w' => r = .returned (.int .i64 c) ∧ Below W.heap.size W w') ∧
    (∀ W a cap, Lies W a gs → Calls Try.prog 85 #[.slice a gs.length cap] W fun r w' => r = .returned (.int .i64 c) ∧ Below W.heap.size W w') := by
  by_cases hV : AllV gs
  · by_cases h6 : gs.length ≤ 6
    · exact ⟨0, ⟨fun _ => ⟨hV, h6⟩, fun _ => rfl⟩, fun W a cap hc => cf_ok W a cap gs hm hc hbd hV h6, fun W a cap hc => sf_ok W a cap gs hm hc hbd hV h6⟩
    · exact ⟨3, ⟨fun c => by omega, fun c => absurd c.2 h6⟩, fun W a cap hc => cf_long W a cap gs hm hc hbd hV (by omega), fun W a cap hc => sf_long W a cap gs hm hc hbd hV (by omega)⟩
  · obtain ⟨m, h1, h2, h3⟩ := not_allV hV
    exact ⟨1, ⟨fun c => by omega, fun c => absurd c.1 hV⟩, fun W a cap hc => cf_f W a cap gs hm hc hbd m h1 h2 h3, fun W a cap hc => sf_f W a cap gs hm hc hbd m h1 h2 h3⟩
/-- which statements are valid -/
def VQ (Y : QM) : Prop := (AllV Y.gs ∧ Y.gs.length ≤ 6) ∧ VSum Y.X ∧ Y.X.n = 0 ∧ Fr.VF Y.p Y.q
theorem QB.sc {W : World} {B : Nat} {z : Value} {n e s : Int} {u : Value} {p q : Int} (h : QB W B z n e s u p q) : SC W B n e s u := ⟨h.lt, h.c1, h.c2, h.c3, h.c4, trivial⟩
section
variable (w : World)
set_option maxHeartbeats 1000000 in
theorem ivq_any (Y : QM) (z u : Value) (hz : SlG w z Y.gs) (hu : SlT w u Y.X.ts) (hbd : BdQ Y) (hm : Y.gs.length ≤ 1048576) (B : Bool) (hB : B = true ↔ VQ Y) :
    Calls Try.prog 14 #[.agg #[z, .int .i64 Y.X.n, .int .u32 Y.X.e, .int .i64 Y.X.s, u, .int .i64 Y.p, .int .i64 Y.q]] w fun r w' => r = .returned (.bool B) ∧ Below w.heap.size w w' := by
  unfold VQ at hB
  obtain ⟨hbS, hbG⟩ := hbd
  obtain ⟨c, hc, hF, _⟩ := forb_iff Y.gs hm hbG
  rw [← hc] at hB
  have hVs := fun B1 hB1 => Lib.hid (fun W (hb : Below w.heap.size w W) => ivs_any W Y.X u (hu.below hb) hbS B1 hB1)
  have hVf := Lib.hid (fun W => Fr.vf_any W Y.p Y.q)
  obtain ⟨gs, X, p, q⟩ := Y
  dsimp only at hz hu hm hB hF hVs hVf ⊢
  obtain ⟨a, cap, rfl, hl⟩ := hz.lies
  have hF1 := Lib.hid (fun W (hb : Below w.heap.size w W) => hF W a cap (hl.below hb))
  obtain ⟨au, cu, rfl, _⟩ := id hu
  obtain ⟨l1, hl1⟩ : ∃ l, gs.length = l := ⟨_, rfl⟩
  obtain ⟨l2, hl2⟩ : ∃ l, X.ts.length = l := ⟨_, rfl⟩
  rw [hl1] at hF1 ⊢
  rw [hl2] at hVs ⊢
  obtain ⟨VS, hVS⟩ : ∃ VS, VSum X = VS := ⟨_, rfl⟩
  obtain ⟨VF, hVF⟩ : ∃ VF, Fr.VF p q = VF := ⟨_, rfl⟩
  rw [hVS, hVF] at hB
  rw [hVS] at hVs
  obtain ⟨n, e, s, ts⟩ := X
  dsimp only at hB hVs ⊢
  clear hc hF hbS hbG hz hu hm hl hl1 hl2 hVS
  obtain ⟨W0, hW0⟩ : ∃ W0, W0 = w.alloc (.cells #[.slice a l1 cap, .int .i64 n, .int .u32 e, .int .i64 s, .slice au l2 cu, .int .i64 p, .int .i64 q] 42) := ⟨_, rfl⟩
  have hb0 : Below w.heap.size w W0 := by rw [hW0]; (repeat (first | exact Below.refl _ _ | assumption | refine bchain (by assumption) ?_ | refine balloc ?_ _ | apply Below.drew | apply below_drewN | (refine Below.alloc ?_ (by (try simp) <;> omega) _) | (refine Below.setCell ?_ (by (try simp) <;> omega) _)))
  have k0 : QB W0 w.heap.size (.slice a l1 cap) n e s (.slice au l2 cu) p q := by rw [hW0]; exact QB.made _ _ _ _ _ _ _ _ _
  replace hW0 := Lib.hid hW0
  obtain ⟨_, x0, x1, x2, x3, x4, x5, x6, _⟩ := id k0
  by_cases h1 : c = 0
  · subst h1
    by_cases h2 : VS
    · have hV := hVs true ⟨fun _ => h2, fun _ => rfl⟩
      by_cases h3 : n = 0
      · subst h3
        have hB2 : decide (Fr.VF p q) = B := by
          rw [Bool.eq_iff_iff, decide_eq_true_iff, hVF, hB]
          exact ⟨fun h => ⟨rfl, h2, rfl, h⟩, fun h => h.2.2.2⟩
        rw [hB2] at hVf
        clear hB hB2 hVs hVF
        go_enter Try.func14, Try.ntmps14
        go_wp2_with fail
        rw [← hW0.out]
        go_wp2_with fail
        refine (hF1.out _ hb0).mono ?_
        rintro r1 w1 ⟨rfl, hb1⟩
        replace k0 := k0.below hb1
        replace hb0 := bchain hb1 hb0
        clear x0 x1 x2 x3 x4 x5 x6 hb1
        obtain ⟨_, x0, x1, x2, x3, x4, x5, x6, _⟩ := id k0
        go_wp2_with fail
        refine (hV.out _ hb0).mono ?_
        rintro r2 w2 ⟨rfl, hb2⟩
        replace k0 := k0.below hb2
        replace hb0 := bchain hb2 hb0
        clear x0 x1 x2 x3 x4 x5 x6 hb2
        obtain ⟨_, x0, x1, x2, x3, x4, x5, x6, _⟩ := id k0
        go_wp2_with fail
        refine (hVf.out _).mono ?_
        rintro r3 w3 ⟨rfl, hb3⟩
        go_wp2
        go_ret
        exact ⟨rfl, bchain hb3 hb0⟩
      · obtain rfl : B = false := by
          rw [Bool.eq_false_iff]; intro c; exact h3 (hB.1 c).2.2.1
        have d3 : (n == 0) = false := by simpa using h3
        clear hB hVs h3 hVF
        go_enter Try.func14, Try.ntmps14
        go_wp2_with fail
        rw [← hW0.out]
        go_wp2_with fail
        refine (hF1.out _ hb0).mono ?_
        rintro r1 w1 ⟨rfl, hb1⟩
        replace k0 := k0.below hb1
        replace hb0 := bchain hb1 hb0
        clear x0 x1 x2 x3 x4 x5 x6 hb1
        obtain ⟨_, x0, x1, x2, x3, x4, x5, x6, _⟩ := id k0
        go_wp2_with fail
        refine (hV.out _ hb0).mono ?_
        rintro r2 w2 ⟨rfl, hb2⟩
        replace k0 := k0.below hb2
        replace hb0 := bchain hb2 hb0
        clear x0 x1 x2 x3 x4 x5 x6 hb2
        obtain ⟨_, x0, x1, x2, x3, x4, x5, x6, _⟩ := id k0
        go_wp2
        go_ret
        exact ⟨rfl, hb0⟩
    · have hV := hVs false ⟨fun c => (by cases c), fun c => absurd c h2⟩
      obtain rfl : B = false := by
        rw [Bool.eq_false_iff]; intro c; exact h2 (hB.1 c).2.1
      clear hB hVs hVF
      go_enter Try.func14, Try.ntmps14
      go_wp2_with fail
      rw [← hW0.out]
      go_wp2_with fail
      refine (hF1.out _ hb0).mono ?_
      rintro r1 w1 ⟨rfl, hb1⟩
      replace k0 := k0.below hb1
      replace hb0 := bchain hb1 hb0
      clear x0 x1 x2 x3 x4 x5 x6 hb1
      obtain ⟨_, x0, x1, x2, x3, x4, x5, x6, _⟩ := id k0
      go_wp2_with fail
      refine (hV.out _ hb0).mono ?_
      rintro r2 w2 ⟨rfl, hb2⟩
      go_wp2
      go_ret
      exact ⟨rfl, bchain hb2 hb0⟩
  · obtain rfl : B = false := by
      rw [Bool.eq_false_iff]; intro c; exact h1 (hB.1 c).1
    have d1 : (c == 0) = false := by simpa using h1
    clear hB hVs h1 hVF
    go_enter Try.func14, Try.ntmps14
    go_wp2_with fail
    rw [← hW0.out]
    go_wp2_with fail
    refine (hF1.out _ hb0).mono ?_
    rintro r1 w1 ⟨rfl, hb1⟩
    go_wp2
    go_ret
    exact ⟨rfl, bchain hb1 hb0⟩
set_option maxHeartbeats 1000000 in
theorem s6q_any (Y : QM) (z u : Value) (G : Nat) (k0 : QB w G z Y.X.n Y.X.e Y.X.s u Y.p Y.q) (hz : SlG w z Y.gs) (hu : SlT w u Y.X.ts) (hbd : BdQ Y) (hm : Y.gs.length ≤ 1048576) (B : Bool) (hB : B = true ↔ VQ Y) :
    Calls Try.prog 62 #[.pointer (some ⟨G, 0, none⟩)] w fun r w' => r = .returned (.bool B) ∧ Below w.heap.size w w' := by
  unfold VQ at hB
  obtain ⟨hbS, hbG⟩ := hbd
  obtain ⟨c, hc, _, hF⟩ := forb_iff Y.gs hm hbG
  rw [← hc] at hB
  have hVs := fun B1 hB1 => Lib.hid (fun W (hb : Below w.heap.size w W) (c1 : SC W G Y.X.n Y.X.e Y.X.s u) => sv6_any W Y.X u G c1 (hu.below hb) hbS B1 hB1)
  have hVf := Lib.hid (fun W => Fr.ok_any W Y.p Y.q)
  obtain ⟨gs, X, p, q⟩ := Y
  dsimp only at hz hu hm hB hF hVs hVf k0 ⊢
  obtain ⟨a, cap, rfl, hl⟩ := hz.lies
  have hF1 := Lib.hid (fun W (hb : Below w.heap.size w W) => hF W a cap (hl.below hb))
  obtain ⟨l1, hl1⟩ : ∃ l, gs.length = l := ⟨_, rfl⟩
  rw [hl1] at hF1 k0
  obtain ⟨VS, hVS⟩ : ∃ VS, VSum X = VS := ⟨_, rfl⟩
  obtain ⟨VF, hVF⟩ : ∃ VF, Fr.VF p q = VF := ⟨_, rfl⟩
  rw [hVS, hVF] at hB
  rw [hVS] at hVs
  obtain ⟨n, e, s, ts⟩ := X
  dsimp only at hB hVs k0
  clear hc hF hbS hbG hz hu hm hl hl1 hVS
  have hb0 : Below w.heap.size w w := Below.refl _ _
  obtain ⟨_, x0, x1, x2, x3, x4, x5, x6, _⟩ := id k0
  by_cases h1 : c = 0
  · subst h1
    by_cases h2 : VS
    · have hV := hVs true ⟨fun _ => h2, fun _ => rfl⟩
      by_cases h3 : n = 0
      · subst h3
        have hB2 : decide (Fr.VF p q) = B := by
          rw [Bool.eq_iff_iff, decide_eq_true_iff, hVF, hB]
          exact ⟨fun h => ⟨rfl, h2, rfl, h⟩, fun h => h.2.2.2⟩
        rw [hB2] at hVf
        clear hB hB2 hVs hVF
        go_enter Try.func62, Try.ntmps62
        go_wp2_with fail
        refine (hF1.out _ hb0).mono ?_
        rintro r1 w1 ⟨rfl, hb1⟩
        replace k0 := k0.below hb1
        replace hb0 := bchain hb1 hb0
        clear x0 x1 x2 x3 x4 x5 x6 hb1
        obtain ⟨_, x0, x1, x2, x3, x4, x5, x6, _⟩ := id k0
        go_wp2_with fail
        refine (hV.out _ hb0 k0.sc).mono ?_
        rintro r2 w2 ⟨rfl, hb2⟩
        replace k0 := k0.below hb2
        replace hb0 := bchain hb2 hb0
        clear x0 x1 x2 x3 x4 x5 x6 hb2
        obtain ⟨_, x0, x1, x2, x3, x4, x5, x6, _⟩ := id k0
        go_wp2_with fail
        refine (hVf.out _).mono ?_
        rintro r3 w3 ⟨rfl, hb3⟩
        go_wp2
        go_ret
        exact ⟨rfl, bchain hb3 hb0⟩
      · obtain rfl : B = false := by
          rw [Bool.eq_false_iff]; intro c; exact h3 (hB.1 c).2.2.1
        have d3 : (n == 0) = false := by simpa using h3
        clear hB hVs h3 hVF
        go_enter Try.func62, Try.ntmps62
        go_wp2_with fail
        refine (hF1.out _ hb0).mono ?_
        rintro r1 w1 ⟨rfl, hb1⟩
        replace k0 := k0.below hb1
        replace hb0 := bchain hb1 hb0
        clear x0 x1 x2 x3 x4 x5 x6 hb1
        obtain ⟨_, x0, x1, x2, x3, x4, x5, x6, _⟩ := id k0
        go_wp2_with fail
        refine (hV.out _ hb0 k0.sc).mono ?_
        rintro r2 w2 ⟨rfl, hb2⟩
        replace k0 := k0.below hb2
        replace hb0 := bchain hb2 hb0
        clear x0 x1 x2 x3 x4 x5 x6 hb2
        obtain ⟨_, x0, x1, x2, x3, x4, x5, x6, _⟩ := id k0
        go_wp2
        go_ret
        exact ⟨rfl, hb0⟩
    · have hV := hVs false ⟨fun c => (by cases c), fun c => absurd c h2⟩
      obtain rfl : B = false := by
        rw [Bool.eq_false_iff]; intro c; exact h2 (hB.1 c).2.1
      clear hB hVs hVF
      go_enter Try.func62, Try.ntmps62
      go_wp2_with fail
      refine (hF1.out _ hb0).mono ?_
      rintro r1 w1 ⟨rfl, hb1⟩
      replace k0 := k0.below hb1
      replace hb0 := bchain hb1 hb0
      clear x0 x1 x2 x3 x4 x5 x6 hb1
      obtain ⟨_, x0, x1, x2, x3, x4, x5, x6, _⟩ := id k0
      go_wp2_with fail
      refine (hV.out _ hb0 k0.sc).mono ?_
      rintro r2 w2 ⟨rfl, hb2⟩
      go_wp2
      go_ret
      exact ⟨rfl, bchain hb2 hb0⟩
  · obtain rfl : B = false := by
      rw [Bool.eq_false_iff]; intro c; exact h1 (hB.1 c).1
    have d1 : (c == 0) = false := by simpa using h1
    clear hB hVs h1 hVF
    go_enter Try.func62, Try.ntmps62
    go_wp2_with fail
    refine (hF1.out _ hb0).mono ?_
    rintro r1 w1 ⟨rfl, hb1⟩
    go_wp2
    go_ret
    exact ⟨rfl, bchain hb1 hb0⟩
theorem svq_any (Y : QM) (z u : Value) (hz : SlG w z Y.gs) (hu : SlT w u Y.X.ts) (hbd : BdQ Y) (hm : Y.gs.length ≤ 1048576) (B : Bool) (hB : B = true ↔ VQ Y) :
    Calls Try.prog 12 #[.agg #[z, .int .i64 Y.X.n, .int .u32 Y.X.e, .int .i64 Y.X.s, u, .int .i64 Y.p, .int .i64 Y.q]] w fun r w' => r = .returned (.bool B) ∧ Below w.heap.size w w' := by
  have hE := Lib.hid (fun W G (hb : Below w.heap.size w W) k0 => s6q_any W Y z u G k0 (hz.below hb) (hu.below hb) hbd hm B hB)
  obtain ⟨a, cap, rfl, _⟩ := hz
  obtain ⟨au, cu, rfl, _⟩ := hu
  obtain ⟨gs, ⟨n, e, s, ts⟩, p, q⟩ := Y
  dsimp only at hE ⊢
  obtain ⟨l1, hl1⟩ : ∃ l, gs.length = l := ⟨_, rfl⟩
  obtain ⟨l2, hl2⟩ : ∃ l, ts.length = l := ⟨_, rfl⟩
  rw [hl1, hl2] at hE ⊢
  clear hl1 hl2 hbd hB hm
  obtain ⟨W0, hW0⟩ : ∃ W0, W0 = w.alloc (.cells #[.slice a l1 cap, .int .i64 n, .int .u32 e, .int .i64 s, .slice au l2 cu, .int .i64 p, .int .i64 q] 42) := ⟨_, rfl⟩
  have hb0 : Below w.heap.size w W0 := by rw [hW0]; (repeat (first | exact Below.refl _ _ | assumption | refine bchain (by assumption) ?_ | refine balloc ?_ _ | apply Below.drew | apply below_drewN | (refine Below.alloc ?_ (by (try simp) <;> omega) _) | (refine Below.setCell ?_ (by (try simp) <;> omega) _)))
  have k0 : QB W0 w.heap.size (.slice a l1 cap) n e s (.slice au l2 cu) p q := by rw [hW0]; exact QB.made _ _ _ _ _ _ _ _ _
  replace hW0 := Lib.hid hW0
  go_enter Try.func12, Try.ntmps12
  go_wp2_with fail
  rw [← hW0.out]
  refine (hE.out _ _ hb0 k0).mono ?_
  rintro r1 w1 ⟨rfl, hb1⟩
  go_wp2
  go_ret
  exact ⟨rfl, bchain hb1 hb0⟩
end
end Go.Proofs.Ytfpoekdcedbciaa
