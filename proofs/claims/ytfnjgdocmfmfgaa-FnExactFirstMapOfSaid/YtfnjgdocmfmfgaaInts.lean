/-
  LISTS OF int64: 'SlI w v zs': in the world w the value v is a list that holds zs. What copies such a list, and what holds two against each other.
-/
import Derived.Test.YtfnjgdocmfmfgaaBase
import Derived.Deep.OwnRows
import Derived.Lib.Hide
namespace Go.Proofs.Ytfnjgdocmfmfgaa
open Go.RowKit
set_option maxRecDepth 100000

/-- v is a list that holds zs -/
def SlI (w : World) (v : Value) (zs : List Int) : Prop :=
  ∃ (a : Option Addr) (cap : Nat), v = .slice a zs.length cap ∧ zs.length ≤ cap ∧ cap ≤ 9223372036854775807 ∧
    (zs ≠ [] → ∃ b off, a = some ⟨b, off, none⟩ ∧ b < w.heap.size ∧ ∀ i, i < zs.length → w.cell? ⟨b, off + i, none⟩ = some (.int .i64 (zs[i]?.getD 0)))

theorem SlI.below {w w' : World} {v : Value} {zs : List Int} (h : SlI w v zs) (hb : Below w.heap.size w w') : SlI w' v zs := by
  obtain ⟨a, cap, e, h1, h2, h3⟩ := h
  refine ⟨a, cap, e, h1, h2, fun hz => ?_⟩
  obtain ⟨b, off, e2, hlt, hc⟩ := h3 hz
  exact ⟨b, off, e2, Nat.lt_of_lt_of_le hlt hb.size, fun i hi => (hb.cell (p := ⟨b, off + i, none⟩) hlt).trans (hc i hi)⟩

/-- a block that holds the first k of zs, zeros behind -/
def Half (w : World) (B k : Nat) (zs : List Int) : Prop := ∀ i, i < zs.length → w.cell? ⟨B, i, none⟩ = some (.int .i64 (if i < k then zs[i]?.getD 0 else 0)) 
theorem Half.set {w : World} {B k : Nat} {zs : List Int} (h : Half w B k zs) (hk : k < zs.length) : Half ((w.setCell ⟨B, k, none⟩ (.int .i64 (zs[k]?.getD 0)))) B (k + 1) zs := by
  intro i hi
  by_cases e : i = k
  · subst e
    rw [World.cell?_setCell_same _ _ _ (h i hi), if_pos (by omega)]
  · rw [World.cell?_setCell_other _ _ _ _ (by simp), h i hi]
    by_cases h2 : i < k
    · rw [if_pos h2, if_pos (by omega)]
    · rw [if_neg h2, if_neg (by omega)]
theorem Half.done {w : World} {B cap : Nat} {zs : List Int} (h : Half w B zs.length zs) (hB : B < w.heap.size) (hc : zs.length ≤ cap) (hm : cap ≤ 9223372036854775807) : SlI w (.slice (some ⟨B, 0, none⟩) zs.length cap) zs :=
  ⟨_, _, rfl, hc, hm, fun _ => ⟨B, 0, rfl, hB, fun i hi => by rw [Nat.zero_add, h i hi, if_pos hi]⟩⟩

theorem info_i64 : (Try.prog.info? 2).map (fun i => (i.zero, i.size, i.bytes)) = some (some (.int .i64 0), 1, 8) := by kernel_rfl

section
variable (w : World)
theorem madeCell (n B : Nat) (e : TypeId) (hB : B = w.heap.size) : ∀ i, i < n → (w.alloc (.cells (madeCells #[.int .i64 0] n) e)).cell? ⟨B, i, none⟩ = some (.int .i64 0) := by
  intro i hi
  subst hB
  rw [World.cell?_alloc_new]
  simp [madeCells, hi, Nat.mod_one]

theorem toI_empty (a : Option Addr) (cap : Nat) :
    Calls Try.prog 30 #[.slice a 0 cap] w fun r w' => (∃ v, r = .returned v ∧ SlI w' v []) ∧ Below w.heap.size w w' := by
  have hmk : ∀ W : World, (Instr.makeSlice 46 (.int .i64 0) (.int .i64 0)).run Try.prog W = .ok (.slice (some ⟨W.heap.size, 0, none⟩) 0 0) (W.alloc (.cells (madeCells #[.int .i64 0] 0) 2)) :=
    run_make_row' (P := Try.prog) 46 2 (.int .i64 0) 8 Try.underlying46 info_i64 rfl .i64 .i64 0 (by omega) (by omega)
  go_enter Try.func30, Try.ntmps30
  go_wp2
  go_loopw [4] (fun i wr => i = .int .i64 0 ∧ Below w.heap.size w wr) (fun _ _ => 0)
  case atStart => exact ⟨rfl, by (repeat (first | exact Below.refl _ _ | assumption | refine bchain (by assumption) ?_ | refine balloc ?_ _ | apply Below.drew | apply below_drewN | (refine Below.alloc ?_ (by (try simp) <;> omega) _) | (refine Below.setCell ?_ (by (try simp) <;> omega) _)))⟩
  case round =>
    obtain ⟨rfl, hb⟩ := hrel
    go_wp2
    go_ret
    exact ⟨⟨_, rfl, _, _, rfl, by simp, by simp, fun c => absurd rfl c⟩, hb⟩

theorem toI_some (b off cap : Nat) (zs : List Int) (h1 : 0 < zs.length) (h2 : zs.length ≤ cap) (_h3 : cap ≤ 9223372036854775807) (hm : zs.length ≤ 1048576) (hb : b < w.heap.size)
    (hc : ∀ i, i < zs.length → w.cell? ⟨b, off + i, none⟩ = some (.int .i64 (zs[i]?.getD 0))) :
    Calls Try.prog 30 #[.slice (some ⟨b, off, none⟩) zs.length cap] w fun r w' => (∃ v, r = .returned v ∧ SlI w' v zs) ∧ Below w.heap.size w w' := by
  have hmk := run_make_row' (P := Try.prog) 46 2 (.int .i64 0) 8 Try.underlying46 info_i64 rfl .i64 .i64 zs.length (by omega) (by omega)
  obtain ⟨O, hO⟩ : ∃ O, O = Obj.cells (madeCells #[.int .i64 0] zs.length) 2 := ⟨_, rfl⟩
  rw [← hO] at hmk
  replace hO := Lib.hid hO
  obtain ⟨n, hn⟩ : ∃ n, n = zs.length := ⟨_, rfl⟩
  rw [← hn] at h1 h2 hm hmk ⊢
  replace hn := Lib.hid hn
  replace hc := Lib.hid hc
  go_enter Try.func30, Try.ntmps30
  go_wp2
  go_loopw [4] (fun i wr => ∃ k : Nat, k ≤ n ∧ i = .int .i64 k ∧ Half wr w.heap.size k zs ∧ (∀ o, wr.frozen? ⟨w.heap.size, o, none⟩ = false) ∧ w.heap.size < wr.heap.size ∧ Below w.heap.size w wr) (fun i _ => n - (intOf i).toNat)
  case atStart => exact ⟨0, by omega, rfl, fun i hi => by rw [hO.out, madeCell _ _ _ _ rfl i hi]; simp, fun o => by rw [hO.out]; simp, by simp, by (repeat (first | exact Below.refl _ _ | assumption | refine bchain (by assumption) ?_ | refine balloc ?_ _ | apply Below.drew | apply below_drewN | (refine Below.alloc ?_ (by (try simp) <;> omega) _) | (refine Below.setCell ?_ (by (try simp) <;> omega) _)))⟩
  case round =>
    obtain ⟨k, hk, rfl, hh, hf, hz, hB⟩ := hrel
    by_cases hlt : k < n
    · have hs : wr.cell? ⟨b, off + k, none⟩ = some (.int .i64 (zs[k]?.getD 0)) := (hB.cell (p := ⟨b, off + k, none⟩) hb).trans (hc.out k (by have := hn.out; omega))
      have ht := hh k (by have := hn.out; omega)
      rw [if_neg (by omega)] at ht
      have hf1 := hf k
      have hn2 := hh.set (k := k) (by have := hn.out; omega)
      replace hn2 := Lib.hid hn2
      replace hh := Lib.hid hh
      replace hf := Lib.hid hf
      obtain ⟨z, hz2⟩ : ∃ z, zs[k]?.getD 0 = z := ⟨_, rfl⟩
      rw [hz2] at hs hn2
      clear hz2
      go_wp2
      go_roundw
      case rel => exact ⟨k + 1, by omega, by go_num, hn2.out, fun o => by simp [hf.out o], by simp; omega, by (repeat (first | exact Below.refl _ _ | assumption | refine bchain (by assumption) ?_ | refine balloc ?_ _ | apply Below.drew | apply below_drewN | (refine Below.alloc ?_ (by (try simp) <;> omega) _) | (refine Below.setCell ?_ (by (try simp) <;> omega) _)))⟩
      case measure => simp [intOf]; omega
    · have hd := decide_eq_false (show ¬ ((k : Int) < (n : Int)) by omega)
      obtain rfl : k = n := by omega
      replace hh := Lib.hid hh
      replace hf := Lib.hid hf
      go_wp2
      go_ret
      refine ⟨⟨_, rfl, ?_⟩, hB⟩
      have e := hn.out
      subst e
      exact Half.done hh.out hz (Nat.le_refl _) (by omega)

/-- a list, copied -/
theorem toI_any (v : Value) (zs : List Int) (h : SlI w v zs) (hm : zs.length ≤ 1048576) :
    Calls Try.prog 30 #[v] w fun r w' => (∃ u, r = .returned u ∧ SlI w' u zs) ∧ Below w.heap.size w w' := by
  obtain ⟨a, cap, rfl, h1, h2, h3⟩ := h
  cases zs with
  | nil => exact toI_empty w a cap
  | cons z zs =>
    obtain ⟨b, off, rfl, hb, hc⟩ := h3 (by simp)
    exact toI_some w b off cap (z :: zs) (by simp) h1 h2 hm hb hc

/-- two lists that hold the same -/
theorem eqI_empty (a a' : Option Addr) (cap cap' : Nat) :
    Calls Try.prog 33 #[.slice a 0 cap, .slice a' 0 cap'] w fun r w' => r = .returned (.bool true) ∧ Below w.heap.size w w' := by
  go_enter Try.func33, Try.ntmps33
  go_wp2
  go_loopw [5] (fun i wr => i = .int .i64 0 ∧ Below w.heap.size w wr) (fun _ _ => 0)
  case atStart => exact ⟨rfl, by (repeat (first | exact Below.refl _ _ | assumption | refine bchain (by assumption) ?_ | refine balloc ?_ _ | apply Below.drew | apply below_drewN | (refine Below.alloc ?_ (by (try simp) <;> omega) _) | (refine Below.setCell ?_ (by (try simp) <;> omega) _)))⟩
  case round =>
    obtain ⟨rfl, hb⟩ := hrel
    go_wp2
    go_ret
    exact ⟨rfl, hb⟩
theorem eqI_some (b off cap b' off' cap' : Nat) (zs : List Int) (h1 : 0 < zs.length) (hm : zs.length ≤ 1048576) (hb : b < w.heap.size) (hb' : b' < w.heap.size)
    (hc : ∀ i, i < zs.length → w.cell? ⟨b, off + i, none⟩ = some (.int .i64 (zs[i]?.getD 0))) (hc' : ∀ i, i < zs.length → w.cell? ⟨b', off' + i, none⟩ = some (.int .i64 (zs[i]?.getD 0))) :
    Calls Try.prog 33 #[.slice (some ⟨b, off, none⟩) zs.length cap, .slice (some ⟨b', off', none⟩) zs.length cap'] w fun r w' => r = .returned (.bool true) ∧ Below w.heap.size w w' := by
  obtain ⟨n, hn⟩ : ∃ n, n = zs.length := ⟨_, rfl⟩
  rw [← hn] at h1 hm ⊢
  replace hn := Lib.hid hn
  replace hc := Lib.hid hc
  replace hc' := Lib.hid hc'
  go_enter Try.func33, Try.ntmps33
  go_wp2
  go_loopw [5] (fun i wr => ∃ k : Nat, k ≤ n ∧ i = .int .i64 k ∧ Below w.heap.size w wr) (fun i _ => n - (intOf i).toNat)
  case atStart => exact ⟨0, by omega, rfl, by (repeat (first | exact Below.refl _ _ | assumption | refine bchain (by assumption) ?_ | refine balloc ?_ _ | apply Below.drew | apply below_drewN | (refine Below.alloc ?_ (by (try simp) <;> omega) _) | (refine Below.setCell ?_ (by (try simp) <;> omega) _)))⟩
  case round =>
    obtain ⟨k, hk, rfl, hB⟩ := hrel
    by_cases hlt : k < n
    · have hs : wr.cell? ⟨b, off + k, none⟩ = some (.int .i64 (zs[k]?.getD 0)) := (hB.cell (p := ⟨b, off + k, none⟩) hb).trans (hc.out k (by have := hn.out; omega))
      have ht : wr.cell? ⟨b', off' + k, none⟩ = some (.int .i64 (zs[k]?.getD 0)) := (hB.cell (p := ⟨b', off' + k, none⟩) hb').trans (hc'.out k (by have := hn.out; omega))
      obtain ⟨z, hz2⟩ : ∃ z, zs[k]?.getD 0 = z := ⟨_, rfl⟩
      rw [hz2] at hs ht
      clear hz2
      go_wp2
      go_quiet (fail)
      go_wp2
      go_roundw
      case rel => exact ⟨k + 1, by omega, by go_num, by (repeat (first | exact Below.refl _ _ | assumption | refine bchain (by assumption) ?_ | refine balloc ?_ _ | apply Below.drew | apply below_drewN | (refine Below.alloc ?_ (by (try simp) <;> omega) _) | (refine Below.setCell ?_ (by (try simp) <;> omega) _)))⟩
      case measure => simp [intOf]; omega
    · have hd := decide_eq_false (show ¬ ((k : Int) < (n : Int)) by omega)
      go_wp2
      go_ret
      exact ⟨rfl, hB⟩
theorem eqI_any (u v : Value) (zs : List Int) (h : SlI w u zs) (h' : SlI w v zs) (hm : zs.length ≤ 1048576) :
    Calls Try.prog 33 #[u, v] w fun r w' => r = .returned (.bool true) ∧ Below w.heap.size w w' := by
  obtain ⟨a, cap, rfl, h1, h2, h3⟩ := h
  obtain ⟨a', cap', rfl, h1', h2', h3'⟩ := h'
  cases zs with
  | nil => exact eqI_empty w a a' cap cap'
  | cons z zs =>
    obtain ⟨b, off, rfl, hb, hc⟩ := h3 (by simp)
    obtain ⟨b', off', rfl, hb', hc'⟩ := h3' (by simp)
    exact eqI_some w b off cap b' off' cap' (z :: zs) (by simp) hm hb hb' hc hc'
end
end Go.Proofs.Ytfnjgdocmfmfgaa
