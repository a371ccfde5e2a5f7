/-
  Sv, KMo, in one text.
-/
import Derived.Test.YtncbimbbkealmaaGreatDoorCfM1
import Derived.Test.YtncbimbbkealmaaGreatDoorBase
import Derived.Test.YtncbimbbkealmaaGreatDoorKs
import Derived.Deep.DeepCutAuto
import Derived.Lib.Hide
/-
  LISTS OF STRUCTS THAT LIE IN A BLOCK OF THEIR OWN: 'OwnV w0 w v l s f': in the world w the value v is a list of l structs of s cells each, in a block that the world w0 did not have; its cells are those of f, and may be written.
-/
namespace Go.Proofs.YtncbimbbkealmaaGreatDoor
open Go.RowKit

/-- N cells of a block, by a function -/
def CV (w : World) (B N : Nat) (f : Nat → Value) : Prop := ∀ i, i < N → w.cell? ⟨B, i, none⟩ = some (f i)
theorem CV.set {w : World} {B l : Nat} {f g : Nat → Value} {k : Nat} {x : Value} (h : CV w B l f) (hk : k < l) (hx : g k = x) (ho : ∀ i, i ≠ k → g i = f i) : CV (w.setCell ⟨B, k, none⟩ x) B l g := by
  intro i hi
  by_cases e : i = k
  · subst e
    rw [World.cell?_setCell_same _ _ _ (h i hi), hx]
  · rw [World.cell?_setCell_other _ _ _ _ (by simp), h i hi, ho i e]
theorem CV.below {w w' : World} {B l : Nat} {f : Nat → Value} (h : CV w B l f) (hb : Below w.heap.size w w') (hB : B < w.heap.size) : CV w' B l f := fun i hi => (hb.cell (p := ⟨B, i, none⟩) hB).trans (h i hi)
theorem CV.congr {w : World} {B l : Nat} {f g : Nat → Value} (h : CV w B l f) (hg : ∀ i, i < l → g i = f i) : CV w B l g := fun i hi => by rw [h i hi, hg i hi]
/-- the first t cells hold the numbers from k on -/
def mkV (s k t : Nat) (f : Nat → Value) (c : Nat) : Value := if c < t then (if c % s = s - 1 then .int .u32 ((k : Int) + (c : Nat)) else .int .i64 ((k : Int) + (c : Nat))) else f c
theorem mkV_zero (s k : Nat) (f : Nat → Value) (c : Nat) : mkV s k 0 f c = f c := by unfold mkV; rw [if_neg (by omega)]
theorem mkV_out {s k t : Nat} {f : Nat → Value} {c : Nat} (h : t ≤ c) : mkV s k t f c = f c := by unfold mkV; rw [if_neg (by omega)]
theorem mkV_old (s k t : Nat) (f : Nat → Value) (c : Nat) (h : c ≠ t) : mkV s k (t + 1) f c = mkV s k t f c := by
  unfold mkV
  by_cases h1 : c < t
  · rw [if_pos h1, if_pos (by omega)]
  · rw [if_neg h1, if_neg (by omega)]
theorem mkV_lo {s k t : Nat} {f : Nat → Value} (h : t % s ≠ s - 1) : mkV s k (t + 1) f t = .int .i64 ((k : Int) + (t : Nat)) := by unfold mkV; rw [if_pos (by omega), if_neg h]
theorem mkV_hi {s k t : Nat} {f : Nat → Value} (h : t % s = s - 1) : mkV s k (t + 1) f t = .int .u32 ((k : Int) + (t : Nat)) := by unfold mkV; rw [if_pos (by omega), if_pos h]
theorem mkV_lo' {s k t N : Nat} {f : Nat → Value} (hN : t < N) (h : t % s ≠ s - 1) : mkV s k N f t = .int .i64 ((k : Int) + (t : Nat)) := by unfold mkV; rw [if_pos hN, if_neg h]
theorem mkV_hi' {s k t N : Nat} {f : Nat → Value} (hN : t < N) (h : t % s = s - 1) : mkV s k N f t = .int .u32 ((k : Int) + (t : Nat)) := by unfold mkV; rw [if_pos hN, if_pos h]
theorem CV.lo {w : World} {B N s k t : Nat} {f : Nat → Value} (h : CV w B N (mkV s k t f)) (ht : t < N) (hs : t % s ≠ s - 1) {x : Int} (hx : x = (k : Int) + (t : Nat)) : CV (w.setCell ⟨B, t, none⟩ (.int .i64 x)) B N (mkV s k (t + 1) f) :=
  h.set ht (by rw [hx]; exact mkV_lo hs) (fun i hi => mkV_old s k t f i hi)
theorem CV.hi {w : World} {B N s k t : Nat} {f : Nat → Value} (h : CV w B N (mkV s k t f)) (ht : t < N) (hs : t % s = s - 1) {x : Int} (hx : x = (k : Int) + (t : Nat)) : CV (w.setCell ⟨B, t, none⟩ (.int .u32 x)) B N (mkV s k (t + 1) f) :=
  h.set ht (by rw [hx]; exact mkV_hi hs) (fun i hi => mkV_old s k t f i hi)
def OwnV (w0 w : World) (v : Value) (l s : Nat) (f : Nat → Value) : Prop :=
  ∃ a cap, v = .slice a l cap ∧ l ≤ cap ∧ cap ≤ 9223372036854775807 ∧ (0 < l → ∃ B, a = some ⟨B, 0, none⟩ ∧ w0.heap.size ≤ B ∧ B < w.heap.size ∧ CV w B (l * s) f ∧ ∀ c, w.frozen? ⟨B, c, none⟩ = false)
theorem OwnV.below {w0 w w' : World} {v : Value} {l s : Nat} {f : Nat → Value} (h : OwnV w0 w v l s f) (hb : Below w.heap.size w w') : OwnV w0 w' v l s f := by
  obtain ⟨a, cap, e, h1, h2, h3⟩ := h
  refine ⟨a, cap, e, h1, h2, fun hl => ?_⟩
  obtain ⟨B, e1, e2, e3, e4, e5⟩ := h3 hl
  exact ⟨B, e1, e2, Nat.lt_of_lt_of_le e3 hb.size, e4.below hb e3, fun c => (hb.frozen (p := ⟨B, c, none⟩) e3).trans (e5 c)⟩
theorem OwnV.mono {w0 w1 w : World} {v : Value} {l s : Nat} {f : Nat → Value} (h : OwnV w1 w v l s f) (hz : w0.heap.size ≤ w1.heap.size) : OwnV w0 w v l s f := by
  obtain ⟨a, cap, e, h1, h2, h3⟩ := h
  refine ⟨a, cap, e, h1, h2, fun hl => ?_⟩
  obtain ⟨B, e1, e2, e3⟩ := h3 hl
  exact ⟨B, e1, by omega, e3⟩
/-- a list that the call itself has built by append -/
theorem ownV_of_row {w0 w : World} {base : Nat} {e : TypeId} {v : Value} {n s : Nat} {xs : List Value} (h : w.ownsRow base e s v n xs) (hb : w0.heap.size ≤ base) : OwnV w0 w v n s (fun c => xs[c]?.getD undef) := by
  obtain ⟨hl, (⟨rfl, h0⟩ | ⟨g, cap, cur, rfl, hg, hh, hn, hc, hs, hx⟩)⟩ := h
  · exact ⟨none, 0, by rw [h0], by omega, by omega, fun c => absurd c (by omega)⟩
  · have hcell : ∀ i, w.cell? ⟨g, i, none⟩ = cur[i]? := fun i => by simp [World.cell?, hh]
    have hm : cap ≤ 9223372036854775807 := by unfold maxLen at hc; omega
    refine ⟨some ⟨g, 0, none⟩, cap, rfl, hn, hm, fun _ => ⟨g, rfl, Nat.le_trans hb hg, (Array.getElem?_eq_some_iff.1 hh).1, fun i hi => ?_, fun o => by simp [World.frozen?, hh]⟩⟩
    have h1 : (cur.toList.take (n * s))[i]? = xs[i]? := by rw [hx]
    rw [List.getElem?_take_of_lt hi] at h1
    rw [hcell]
    have h2 : i < xs.length := by omega
    show cur[i]? = some (xs[i]?.getD undef)
    rw [List.getElem?_eq_getElem h2] at h1 ⊢
    simpa using h1
theorem row_len {w : World} {base : Nat} {e : TypeId} {v : Value} {n s : Nat} {xs : List Value} (h : w.ownsRow base e s v n xs) : xs.length = n * s := h.1
theorem ownsRow_mono {w : World} {base b : Nat} {e : TypeId} {v : Value} {n s : Nat} {xs : List Value} (h : w.ownsRow b e s v n xs) (hb : base ≤ b) : w.ownsRow base e s v n xs := by
  obtain ⟨hl, h | ⟨g, cap, cur, e1, h1, h2⟩⟩ := h
  · exact ⟨hl, .inl h⟩
  · exact ⟨hl, .inr ⟨g, cap, cur, e1, Nat.le_trans hb h1, h2⟩⟩
/-- another list is written -/
theorem OwnV.chg {w0 w w' : World} {v : Value} {l s : Nat} {f : Nat → Value} {Own : Nat → Prop} (h : OwnV w0 w v l s f) (hc : Chg Own w w') (ho : ∀ b, Own b → b < w0.heap.size) : OwnV w0 w' v l s f := by
  obtain ⟨a, cap, e, h1, h2, h3⟩ := h
  refine ⟨a, cap, e, h1, h2, fun hl => ?_⟩
  obtain ⟨B, e1, e2, e3, e4, e5⟩ := h3 hl
  have hs := hc.same B e3 (fun c => by have := ho B c; omega)
  exact ⟨B, e1, e2, Nat.lt_of_lt_of_le e3 hc.size, fun i hi => (World.cell?_of_block (a := ⟨B, i, none⟩) hs).trans (e4 i hi), fun c => (World.frozen?_of_block (a := ⟨B, c, none⟩) hs).trans (e5 c)⟩
theorem Chg.below {w0 w w' : World} {Own : Nat → Prop} (hc : Chg Own w w') (hz : w0.heap.size ≤ w.heap.size) (ho : ∀ b, Own b → w0.heap.size ≤ b) : Below w0.heap.size w w' :=
  ⟨hc.os, hc.tape, hc.output, hc.size, fun k hk => hc.same k (by omega) (fun c => by have := ho k c; omega)⟩
/-- where the list lies -/
theorem OwnV.block {w0 w : World} {v : Value} {l s : Nat} {f : Nat → Value} (h : OwnV w0 w v l s f) (hl : 0 < l) {b : Nat} (hb : Value.ownBlock v = some b) : w0.heap.size ≤ b ∧ b < w.heap.size := by
  obtain ⟨a, cap, rfl, h1, h2, h3⟩ := h
  obtain ⟨B, rfl, e2, e3, _⟩ := h3 hl
  injection hb with hb
  subst hb
  exact ⟨e2, e3⟩
/-- no list -/
theorem ownV_nil {w0 w : World} {s : Nat} {f : Nat → Value} : OwnV w0 w (.slice none 0 0) 0 s f := ⟨none, 0, rfl, by omega, by omega, fun c => absurd c (by omega)⟩
end Go.Proofs.YtncbimbbkealmaaGreatDoor
/-
  LISTS OF FLAGS: what writes marks into one; a copy that the law has made lies in a block of its own. (made by gen_kmo.py of KMk, Ks)
-/
namespace Go.Proofs.YtncbimbbkealmaaGreatDoor
open Go.RowKit
set_option maxRecDepth 100000
section
variable (w : World)
theorem markK_zero (a : Option Addr) (cap : Nat) (k : Nat) :
    Calls Tryz.prog 11 #[.slice a 0 cap, .int .i64 k] w fun r w' => r = .returned (.int .i64 (k : Nat)) ∧ Below w.heap.size w w' := by
  go_enter Tryz.func11, Tryz.ntmps11
  go_wp2
  go_loopw [1, 5] (fun q i wr => q = .int .i64 k ∧ i = .int .i64 0 ∧ Below w.heap.size w wr) (fun _ _ _ => 0)
  case atStart => exact ⟨rfl, rfl, by (repeat (first | exact Below.refl _ _ | assumption | refine bchain (by assumption) ?_ | refine balloc ?_ _ | apply Below.drew | apply below_drewN | (refine Below.alloc ?_ (by (try simp) <;> omega) _) | (refine Below.setCell ?_ (by (try simp) <;> omega) _)))⟩
  case round =>
    obtain ⟨rfl, rfl, hb⟩ := hrel
    go_wp2
    go_ret
    exact ⟨rfl, hb⟩
set_option maxHeartbeats 1000000 in
theorem markK_some (B cap l k : Nat) (f : Nat → Value) (hl : l ≤ 1048576) (hk : k ≤ 1048576) (hc : CV w B (l * 3) f) (hf : ∀ c, w.frozen? ⟨B, c, none⟩ = false) :
    Calls Tryz.prog 11 #[.slice (some ⟨B, 0, none⟩) l cap, .int .i64 k] w fun r w' => r = .returned (.int .i64 ((k : Int) + l * 3)) ∧ Chg (fun b => b = B) w w' ∧ CV w' B (l * 3) (mkV 3 k (l * 3) f) ∧ ∀ c, w'.frozen? ⟨B, c, none⟩ = false := by
  replace hc := Lib.hid hc
  replace hf := Lib.hid hf
  go_enter Tryz.func11, Tryz.ntmps11
  go_wp2
  go_loopw [1, 5] (fun q i wr => ∃ j : Nat, j ≤ l ∧ q = .int .i64 ((k : Int) + j * 3) ∧ i = .int .i64 j ∧ CV wr B (l * 3) (mkV 3 k (j * 3) f) ∧ (∀ c, wr.frozen? ⟨B, c, none⟩ = false) ∧ Chg (fun b => b = B) w wr) (fun _ i _ => l - (intOf i).toNat)
  case atStart => exact ⟨0, by omega, by simp, rfl, hc.out.congr (fun i hi => by rw [Nat.zero_mul]; exact mkV_zero _ _ _ _), hf.out, Chg.of_below (Below.refl _ _)⟩
  case round =>
    obtain ⟨j, hj, rfl, rfl, hC, hF, hb⟩ := hrel
    by_cases hlt : j < l
    · have hn := (((hC.lo (x := (k : Int) + j * 3) (by omega) (by omega) (by push_cast; omega)).lo (x := (k : Int) + j * 3 + 1) (by omega) (by omega) (by push_cast; omega)).hi (x := (k : Int) + j * 3 + 2) (by omega) (by omega) (by push_cast; omega))
      rw [show j * 3 + 2 + 1 = (j + 1) * 3 by omega] at hn
      have c0 := hC (j * 3) (by omega)
      have f0 := hF (j * 3)
      have c1 := hC (j * 3 + 1) (by omega)
      have f1 := hF (j * 3 + 1)
      have c2 := hC (j * 3 + 2) (by omega)
      have f2 := hF (j * 3 + 2)
      rw [mkV_out (by omega)] at c0 c1 c2
      have hF2 : Hid (∀ c, (((wr.setCell ⟨B, j * 3, none⟩ (.int .i64 ((k : Int) + j * 3))).setCell ⟨B, j * 3 + 1, none⟩ (.int .i64 ((k : Int) + j * 3 + 1))).setCell ⟨B, j * 3 + 2, none⟩ (.int .u32 ((k : Int) + j * 3 + 2))).frozen? ⟨B, c, none⟩ = false) := fun c => by simp [hF c]
      have hB2 := Lib.hid (((hb.trans (Chg.setCell (Own := fun b => b = B) _ ⟨B, j * 3, none⟩ (.int .i64 ((k : Int) + j * 3)) rfl)).trans (Chg.setCell (Own := fun b => b = B) _ ⟨B, j * 3 + 1, none⟩ (.int .i64 ((k : Int) + j * 3 + 1)) rfl)).trans (Chg.setCell (Own := fun b => b = B) _ ⟨B, j * 3 + 2, none⟩ (.int .u32 ((k : Int) + j * 3 + 2)) rfl))
      replace hn := Lib.hid hn
      clear hC hF
      obtain ⟨z0, hz0⟩ : ∃ z, f (j * 3) = z := ⟨_, rfl⟩
      rw [hz0] at c0
      obtain ⟨z1, hz1⟩ : ∃ z, f (j * 3 + 1) = z := ⟨_, rfl⟩
      rw [hz1] at c1
      obtain ⟨z2, hz2⟩ : ∃ z, f (j * 3 + 2) = z := ⟨_, rfl⟩
      rw [hz2] at c2
      clear hz0 hz1 hz2
      have hkj : (k : Int) + j * 3 + 2 ≤ 8388608 := by omega
      go_wp2
      go_roundw
      case rel => exact ⟨j + 1, by omega, by go_num, by go_num, hn.out, hF2.out, hB2.out⟩
      case measure => simp [intOf]; omega
    · obtain rfl : j = l := by omega
      have hdd := decide_eq_false (show ¬ ((j : Int) < (j : Int)) by omega)
      replace hC := Lib.hid hC
      replace hF := Lib.hid hF
      go_wp2
      go_ret
      exact ⟨by go_num, hb, hC.out, hF.out⟩
theorem markK_any (w0 : World) (v : Value) (l k : Nat) (f : Nat → Value) (hl : l ≤ 1048576) (hk : k ≤ 1048576) (h : OwnV w0 w v l 3 f) :
    Calls Tryz.prog 11 #[v, .int .i64 k] w fun r w' => r = .returned (.int .i64 ((k : Int) + l * 3)) ∧ Chg (fun b => 0 < l ∧ Value.ownBlock v = some b) w w' ∧ OwnV w0 w' v l 3 (mkV 3 k (l * 3) f) := by
  obtain ⟨a, cap, rfl, h1, h2, h3⟩ := h
  rcases Nat.eq_zero_or_pos l with h0 | h0
  · subst h0
    refine (markK_zero w a cap k).mono fun r w' ⟨hr, hb⟩ => ⟨by rw [hr]; simp, Chg.of_below hb, a, cap, rfl, h1, h2, fun c => absurd c (Nat.lt_irrefl _)⟩
  · obtain ⟨B, rfl, hB0, hB, hc, hf⟩ := h3 h0
    exact (markK_some w B cap l k f hl hk hc hf).mono fun r w' ⟨hr, hb, hc', hf'⟩ => ⟨hr, hb.mono (fun b hb => ⟨h0, by subst hb; rfl⟩), _, cap, rfl, h1, h2, fun _ => ⟨B, rfl, hB0, Nat.lt_of_lt_of_le hB hb.size, hc', hf'⟩⟩
theorem toKo_empty (a : Option Addr) (cap : Nat) :
    Calls Tryz.prog 6 #[.slice a 0 cap] w fun r w' => (∃ v f, r = .returned v ∧ SlK w' v [] ∧ OwnV w w' v 0 3 f) ∧ Below w.heap.size w w' := by
  obtain ⟨i0, hi0, hz0, hs0, hb0⟩ := info_parts info_flagK
  have hmk : ∀ W : World, (Instr.makeSlice 30 (.int .i64 0) (.int .i64 0)).run Tryz.prog W = .ok (.slice (some ⟨W.heap.size, 0, none⟩) 0 0) (W.alloc (.cells (madeCells #[.int .i64 0, .int .i64 0, .int .u32 0] (0 * 3)) 43)) := fun W => by
    have hr := run_make (P := Tryz.prog) W 30 43 i0 (.agg #[.int .i64 0, .int .i64 0, .int .u32 0]) Tryz.underlying30 hi0 hz0 .i64 .i64 ((0 : Nat) : Int) ((0 : Nat) : Int) (by omega) (by omega) (by rw [hb0]; omega) (by omega)
    simp only [Int.toNat_natCast, hs0] at hr
    exact hr
  clear hi0 hz0 hs0 hb0
  go_enter Tryz.func6, Tryz.ntmps6
  go_wp2
  go_loopw [4] (fun i wr => i = .int .i64 0 ∧ Below w.heap.size w wr) (fun _ _ => 0)
  case atStart => exact ⟨rfl, by (repeat (first | exact Below.refl _ _ | assumption | refine bchain (by assumption) ?_ | refine balloc ?_ _ | apply Below.drew | apply below_drewN | (refine Below.alloc ?_ (by (try simp) <;> omega) _) | (refine Below.setCell ?_ (by (try simp) <;> omega) _)))⟩
  case round =>
    obtain ⟨rfl, hb⟩ := hrel
    go_wp2
    go_ret
    exact ⟨⟨_, fun _ => undef, rfl, ⟨_, _, rfl, by simp, by simp, fun c => absurd rfl c⟩, _, _, rfl, by omega, by omega, fun c => absurd c (by omega)⟩, hb⟩
set_option maxHeartbeats 1000000 in
theorem toKo_some (b off cap : Nat) (gs : List (Int × Int × Int)) (h1 : 0 < gs.length) (h2 : gs.length ≤ cap) (hm : gs.length ≤ 1048576) (hb : b < w.heap.size) (hc : ∀ i, i < gs.length → KCell w b off (kAt gs i) i) :
    Calls Tryz.prog 6 #[.slice (some ⟨b, off, none⟩) gs.length cap] w fun r w' => (∃ v f, r = .returned v ∧ SlK w' v gs ∧ OwnV w w' v gs.length 3 f) ∧ Below w.heap.size w w' := by
  obtain ⟨i0, hi0, hz0, hs0, hb0⟩ := info_parts info_flagK
  obtain ⟨O, hO⟩ : ∃ O, O = Obj.cells (madeCells #[.int .i64 0, .int .i64 0, .int .u32 0] (gs.length * 3)) 43 := ⟨_, rfl⟩
  obtain ⟨n, hn⟩ : ∃ n, n = gs.length := ⟨_, rfl⟩
  rw [← hn] at h1 h2 hm hO ⊢
  have hmk : ∀ W : World, (Instr.makeSlice 30 (.int .i64 n) (.int .i64 n)).run Tryz.prog W = .ok (.slice (some ⟨W.heap.size, 0, none⟩) n n) (W.alloc O) := fun W => by
    have hr := run_make (P := Tryz.prog) W 30 43 i0 (.agg #[.int .i64 0, .int .i64 0, .int .u32 0]) Tryz.underlying30 hi0 hz0 .i64 .i64 (n : Int) (n : Int) (by omega) (by omega) (by rw [hb0]; omega) (by omega)
    simp only [Int.toNat_natCast, hs0] at hr
    rw [hO]
    exact hr
  clear hi0 hz0 hs0 hb0
  replace hO := Lib.hid hO
  replace hn := Lib.hid hn
  replace hc := Lib.hid hc
  go_enter Tryz.func6, Tryz.ntmps6
  go_wp2
  go_loopw [4] (fun i wr => ∃ k : Nat, k ≤ n ∧ i = .int .i64 k ∧ HalfK wr w.heap.size k gs ∧ (∀ o, wr.frozen? ⟨w.heap.size, o, none⟩ = false) ∧ w.heap.size < wr.heap.size ∧ Below w.heap.size w wr) (fun i _ => n - (intOf i).toNat)
  case atStart => exact ⟨0, by omega, rfl, by rw [hO.out]; exact madeK _ _ _ _ _ rfl hn.out.symm, fun o => by rw [hO.out]; simp, by simp, by (repeat (first | exact Below.refl _ _ | assumption | refine bchain (by assumption) ?_ | refine balloc ?_ _ | apply Below.drew | apply below_drewN | (refine Below.alloc ?_ (by (try simp) <;> omega) _) | (refine Below.setCell ?_ (by (try simp) <;> omega) _)))⟩
  case round =>
    obtain ⟨k, hk, rfl, hh, hf, hz, hB⟩ := hrel
    by_cases hlt : k < n
    · have hg := hc.out k (by have := hn.out; omega)
      obtain ⟨x, y, z, hxy⟩ : ∃ x y z, kAt gs k = (x, y, z) := ⟨_, _, _, rfl⟩
      have hs0 : wr.cell? ⟨b, off + k * 3, none⟩ = some (.int .i64 x) := by rw [hB.cell (p := ⟨b, _, none⟩) hb, hg.1, hxy]
      have hs1 : wr.cell? ⟨b, off + k * 3 + 1, none⟩ = some (.int .i64 y) := by rw [hB.cell (p := ⟨b, _, none⟩) hb, hg.2.1, hxy]
      have hs2 : wr.cell? ⟨b, off + k * 3 + 2, none⟩ = some (.int .u32 z) := by rw [hB.cell (p := ⟨b, _, none⟩) hb, hg.2.2, hxy]
      have hset := Lib.hid (fun (W : World) (h : HalfK W w.heap.size k gs) => h.set (k := k) (by have := hn.out; omega))
      rw [hxy] at hset
      clear hg hxy
      replace hh := Lib.hid hh
      replace hf := Lib.hid hf
      go_wp2_with fail
      refine (toFlag_any _ x y z).mono ?_
      rintro r3 w3 ⟨rfl, hb3⟩
      have hh3 := hh.out.below hb3 hz
      have hz3 := Nat.lt_of_lt_of_le hz hb3.size
      have ht := hh3 k (by have := hn.out; omega)
      rw [if_neg (by omega)] at ht
      have t0 : w3.cell? ⟨w.heap.size, k * 3, none⟩ = some (.int .i64 0) := by have := ht.1; rwa [Nat.zero_add] at this
      have t1 : w3.cell? ⟨w.heap.size, k * 3 + 1, none⟩ = some (.int .i64 0) := by have := ht.2.1; rwa [Nat.zero_add] at this
      have t2 : w3.cell? ⟨w.heap.size, k * 3 + 2, none⟩ = some (.int .u32 0) := by have := ht.2.2; rwa [Nat.zero_add] at this
      have hf3 : ∀ o, w3.frozen? ⟨w.heap.size, o, none⟩ = false := fun o => (hb3.frozen (p := ⟨w.heap.size, o, none⟩) hz).trans (hf.out o)
      have f0 := hf3 (k * 3)
      have f1 := hf3 (k * 3 + 1)
      have f2 := hf3 (k * 3 + 2)
      have hn2 := Lib.hid (hset.out w3 hh3)
      replace hf3 := Lib.hid hf3
      clear hh3 ht
      go_wp2
      go_roundw
      case rel => exact ⟨k + 1, by omega, by go_num, hn2.out, fun o => by simp [hf3.out o], by simp; omega, by (repeat (first | exact Below.refl _ _ | assumption | refine bchain (by assumption) ?_ | refine balloc ?_ _ | apply Below.drew | apply below_drewN | (refine Below.alloc ?_ (by (try simp) <;> omega) _) | (refine Below.setCell ?_ (by (try simp) <;> omega) _)))⟩
      case measure => simp [intOf]; omega
    · have hd := decide_eq_false (show ¬ ((k : Int) < (n : Int)) by omega)
      obtain rfl : k = n := by omega
      replace hh := Lib.hid hh
      replace hf := Lib.hid hf
      go_wp2
      go_ret
      have e := hn.out
      subst e
      refine ⟨⟨_, fun c => (wr.cell? ⟨w.heap.size, c, none⟩).getD undef, rfl, HalfK.done hh.out hz (Nat.le_refl _) (by omega), _, _, rfl, Nat.le_refl _, by omega, fun _ => ⟨w.heap.size, rfl, Nat.le_refl _, hz, fun c hc => ?_, hf.out⟩⟩, hB⟩
      have hd : c / 3 < gs.length := by omega
      have hq := hh.out (c / 3) hd
      rw [if_pos hd] at hq
      obtain ⟨q0, q1, q2⟩ := hq
      rw [Nat.zero_add] at q0 q1 q2
      have h3 : c = c / 3 * 3 ∨ c = c / 3 * 3 + 1 ∨ c = c / 3 * 3 + 2 := by omega
      rcases h3 with h | h | h
      · rw [h]; show wr.cell? _ = some ((wr.cell? _).getD undef); rw [q0]; rfl
      · rw [h]; show wr.cell? _ = some ((wr.cell? _).getD undef); rw [q1]; rfl
      · rw [h]; show wr.cell? _ = some ((wr.cell? _).getD undef); rw [q2]; rfl
theorem toKo_any (v : Value) (gs : List (Int × Int × Int)) (h : SlK w v gs) (hm : gs.length ≤ 1048576) :
    Calls Tryz.prog 6 #[v] w fun r w' => (∃ v f, r = .returned v ∧ SlK w' v gs ∧ OwnV w w' v gs.length 3 f) ∧ Below w.heap.size w w' := by
  obtain ⟨a, cap, rfl, h1, h2, h3⟩ := h
  cases gs with
  | nil => exact toKo_empty w a cap
  | cons z zs =>
    obtain ⟨b, off, rfl, hb, hc⟩ := h3 (by simp)
    exact toKo_some w b off cap (z :: zs) (by simp) h1 hm hb hc
end
end Go.Proofs.YtncbimbbkealmaaGreatDoor
