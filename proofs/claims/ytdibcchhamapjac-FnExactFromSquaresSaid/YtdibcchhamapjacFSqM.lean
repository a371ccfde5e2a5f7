/-
  A LIST OF THE LAW'S OWN, into which marks are written; SquareMatrix: both sides.
-/
import Derived.Test.YtdibcchhamapjacFSqS
namespace Go.Proofs.Ytdibcchhamapjac
open Go.RowKit
set_option maxRecDepth 100000

theorem twoAt {w : World} {B p q : Nat} {a b : Value} (h0 : w.cell? ⟨B, p, none⟩ = some a) (h1 : w.cell? ⟨B, q, none⟩ = some b) (hne : p ≠ q) (x y : Value) :
    ((w.setCell ⟨B, p, none⟩ x).setCell ⟨B, q, none⟩ y).cell? ⟨B, p, none⟩ = some x ∧ ((w.setCell ⟨B, p, none⟩ x).setCell ⟨B, q, none⟩ y).cell? ⟨B, q, none⟩ = some y :=
  ⟨(World.cell?_setCell_other _ _ _ _ (by intro c; injection c with _ c; exact hne c.symm)).trans (World.cell?_setCell_same _ _ _ h0), World.cell?_setCell_same _ _ _ ((World.cell?_setCell_other _ _ _ _ (by intro c; injection c with _ c; exact hne c)).trans h1)⟩
/-- a list in a block of its own, between b0 and b1 -/
def XO (b0 b1 : Nat) (w : World) (u : Value) (n : Nat) : Prop :=
  (n = 0 ∧ ∃ a cap, u = .slice a 0 cap) ∨
    ∃ B cap, u = .slice (some ⟨B, 0, none⟩) n cap ∧ b0 ≤ B ∧ B < b1 ∧ B < w.heap.size ∧ (∀ t, t < n * 2 → ∃ z : Int, w.cell? ⟨B, t, none⟩ = some (.int .i64 z)) ∧ ∀ c, w.frozen? ⟨B, c, none⟩ = false
theorem XO.below {b0 b1 : Nat} {w w' : World} {u : Value} {n : Nat} (h : XO b0 b1 w u n) (hb : Below w.heap.size w w') : XO b0 b1 w' u n := by
  rcases h with h | ⟨B, cap, e, h1, h2, h3, h4, h5⟩
  · exact .inl h
  · exact .inr ⟨B, cap, e, h1, h2, Nat.lt_of_lt_of_le h3 hb.size, fun t ht => (h4 t ht).elim fun z hz => ⟨z, (hb.cell (p := ⟨B, t, none⟩) h3).trans hz⟩, fun c => (hb.frozen (p := ⟨B, c, none⟩) h3).trans (h5 c)⟩
theorem MR.off {b0 B : Nat} {w w' : World} {u : Value} {n : Nat} {f : Nat → Int} (h : MR b0 w u n f) (hB : B < b0) (hs : w'.heap.size = w.heap.size) (hc : ∀ C i, C ≠ B → w'.cell? ⟨C, i, none⟩ = w.cell? ⟨C, i, none⟩) (hf : ∀ C i, w'.frozen? ⟨C, i, none⟩ = w.frozen? ⟨C, i, none⟩) : MR b0 w' u n f := by
  rcases h with h | ⟨A, D, e, h8, h1, h2, h3, h4, h5, h6, h7⟩
  · exact .inl h
  · exact .inr ⟨A, D, e, h8, h1, h2, by omega, by omega, fun i hi => (hc D i (by omega)).trans (h5 i hi), fun c => (hf D c).trans (h6 c), fun i hi => (hc A i (by omega)).trans (h7 i hi)⟩
section
variable (w : World)
set_option maxHeartbeats 1000000 in
theorem markX_some (b0 : Nat) (B cap l : Nat) (hl : l ≤ 1048576) (h0 : b0 ≤ B) (hc : ∀ t, t < l * 2 → ∃ z : Int, w.cell? ⟨B, t, none⟩ = some (.int .i64 z)) (hf : ∀ c, w.frozen? ⟨B, c, none⟩ = false) :
    Calls Try.prog 29 #[.slice (some ⟨B, 0, none⟩) l cap, .int .i64 1] w fun r w' => r = .returned (.int .i64 ((1 + l * 2 : Nat) : Int)) ∧ Below b0 w w' ∧ w'.heap.size = w.heap.size ∧ (∀ C i, C ≠ B → w'.cell? ⟨C, i, none⟩ = w.cell? ⟨C, i, none⟩) ∧ (∀ C i, w'.frozen? ⟨C, i, none⟩ = w.frozen? ⟨C, i, none⟩) := by
  replace hc := Lib.hid hc
  replace hf := Lib.hid hf
  go_enter Try.func29, Try.ntmps29
  go_wp2
  go_loopw [1, 5] (fun q i wr => ∃ j : Nat, j ≤ l ∧ q = .int .i64 (1 + (j : Int) * 2) ∧ i = .int .i64 j ∧ (∀ t, t < l * 2 → ∃ z : Int, wr.cell? ⟨B, t, none⟩ = some (.int .i64 z)) ∧ (∀ C c, wr.frozen? ⟨C, c, none⟩ = w.frozen? ⟨C, c, none⟩) ∧ (∀ C i, C ≠ B → wr.cell? ⟨C, i, none⟩ = w.cell? ⟨C, i, none⟩) ∧ wr.heap.size = w.heap.size ∧ Below b0 w wr) (fun _ i _ => l - (intOf i).toNat)
  case atStart => exact ⟨0, by omega, by simp, rfl, hc.out, fun _ _ => rfl, fun _ _ _ => rfl, rfl, Below.refl _ _⟩
  case round =>
    obtain ⟨j, hj, rfl, rfl, hC, hF, hO, hz, hb⟩ := hrel
    replace hO := Lib.hid hO
    by_cases hlt : j < l
    · obtain ⟨z0, c0⟩ := hC (j * 2) (by omega)
      obtain ⟨z1, c1⟩ := hC (j * 2 + 1) (by omega)
      have f0 := (hF B (j * 2)).trans (hf.out _)
      have f1 := (hF B (j * 2 + 1)).trans (hf.out _)
      have hn : Hid (∀ t, t < l * 2 → ∃ z : Int, ((wr.setCell ⟨B, j * 2, none⟩ (.int .i64 (1 + (j : Int) * 2))).setCell ⟨B, j * 2 + 1, none⟩ (.int .i64 (1 + (j : Int) * 2 + 1))).cell? ⟨B, t, none⟩ = some (.int .i64 z)) := fun t ht => by
        obtain ⟨z, hz⟩ := hC t ht
        have h2 := twoAt c0 c1 (by omega) (.int .i64 (1 + (j : Int) * 2)) (.int .i64 (1 + (j : Int) * 2 + 1))
        by_cases e1 : t = j * 2 + 1
        · rw [e1]; exact ⟨_, h2.2⟩
        · by_cases e2 : t = j * 2
          · rw [e2]; exact ⟨_, h2.1⟩
          · refine ⟨z, ?_⟩
            rw [World.cell?_setCell_other _ _ _ _ (by intro c; injection c with _ c; exact e1 c.symm), World.cell?_setCell_other _ _ _ _ (by intro c; injection c with _ c; exact e2 c.symm)]
            exact hz
      have hF2 : Hid (∀ C c, ((wr.setCell ⟨B, j * 2, none⟩ (.int .i64 (1 + (j : Int) * 2))).setCell ⟨B, j * 2 + 1, none⟩ (.int .i64 (1 + (j : Int) * 2 + 1))).frozen? ⟨C, c, none⟩ = w.frozen? ⟨C, c, none⟩) := fun C c => by rw [World.frozen?_setCell, World.frozen?_setCell]; exact hF C c
      have hB2 := Lib.hid ((hb.setCell (p := ⟨B, j * 2, none⟩) h0 (.int .i64 (1 + (j : Int) * 2))).setCell (p := ⟨B, j * 2 + 1, none⟩) h0 (.int .i64 (1 + (j : Int) * 2 + 1)))
      have hO2 : Hid (∀ C i, C ≠ B → ((wr.setCell ⟨B, j * 2, none⟩ (.int .i64 (1 + (j : Int) * 2))).setCell ⟨B, j * 2 + 1, none⟩ (.int .i64 (1 + (j : Int) * 2 + 1))).cell? ⟨C, i, none⟩ = w.cell? ⟨C, i, none⟩) := fun C i h => by
        rw [World.cell?_setCell_other _ _ _ _ (by simp), World.cell?_setCell_other _ _ _ _ (by simp)]
        exact hO.out C i h
      clear hC hF hO
      have hkj : 1 + (j : Int) * 2 + 1 ≤ 4194304 := by omega
      go_wp2
      go_roundw
      case rel => exact ⟨j + 1, by omega, by go_num, by go_num, hn.out, hF2.out, hO2.out, by simpa using hz, hB2.out⟩
      case measure => simp [intOf]; omega
    · obtain rfl : j = l := by omega
      have hdd := decide_eq_false (show ¬ ((j : Int) < (j : Int)) by omega)
      replace hC := Lib.hid hC
      replace hF := Lib.hid hF
      go_wp2
      go_ret
      exact ⟨by go_num, hb, hz, hO.out, hF.out⟩
theorem markX_zero (a : Option Addr) (cap : Nat) :
    Calls Try.prog 29 #[.slice a 0 cap, .int .i64 1] w fun r w' => r = .returned (.int .i64 ((1 + 0 * 2 : Nat) : Int)) ∧ w' = w := by
  go_enter Try.func29, Try.ntmps29
  go_wp2
  go_loopw [1, 5] (fun q i wr => q = .int .i64 1 ∧ i = .int .i64 0 ∧ wr = w) (fun _ _ _ => 0)
  case atStart => exact ⟨rfl, rfl, rfl⟩
  case round =>
    obtain ⟨rfl, rfl, rfl⟩ := hrel
    go_wp2
    go_ret
    exact ⟨rfl, rfl⟩
theorem markX_any (b0 b1 : Nat) (u : Value) (n : Nat) (h : XO b0 b1 w u n) (hn : n ≤ 1048576) (hb0 : b0 ≤ w.heap.size) :
    Calls Try.prog 29 #[u, .int .i64 1] w fun r w' => r = .returned (.int .i64 ((1 + n * 2 : Nat) : Int)) ∧ Below b0 w w' ∧ ∀ v m f, MR b1 w v m f → MR b1 w' v m f := by
  rcases h with ⟨rfl, a, cap, rfl⟩ | ⟨B, cap, rfl, h1, h2, h3, h4, h5⟩
  · refine (markX_zero w a cap).mono ?_
    rintro r w' ⟨rfl, rfl⟩
    exact ⟨rfl, (Below.refl _ _).mono hb0, fun _ _ _ h => h⟩
  · refine (markX_some w b0 B cap n hn h1 h4 h5).mono ?_
    rintro r w' ⟨rfl, hb, hz, hO, hF⟩
    exact ⟨rfl, hb, fun _ _ _ h => h.off h2 hz hO hF⟩
theorem toGo_empty (a : Option Addr) (cap : Nat) :
    Calls Try.prog 26 #[.slice a 0 cap] w fun r w' => (∃ v, r = .returned v ∧ SlG w' v [] ∧ XO w.heap.size w'.heap.size w' v 0) ∧ Below w.heap.size w w' := by
  obtain ⟨i0, hi0, hz0, hs0, hb0⟩ := info_parts info_graph
  have hmk : ∀ W : World, (Instr.makeSlice 42 (.int .i64 0) (.int .i64 0)).run Try.prog W = .ok (.slice (some ⟨W.heap.size, 0, none⟩) 0 0) (W.alloc (.cells (madeCells #[.int .i64 0, .int .i64 0] (0 * 2)) 36)) := fun W => by
    have hr := run_make (P := Try.prog) W 42 36 i0 (.agg #[.int .i64 0, .int .i64 0]) Try.underlying42 hi0 hz0 .i64 .i64 ((0 : Nat) : Int) ((0 : Nat) : Int) (by omega) (by omega) (by rw [hb0]; omega) (by omega)
    simp only [Int.toNat_natCast, hs0] at hr
    exact hr
  clear hi0 hz0 hs0 hb0
  go_enter Try.func26, Try.ntmps26
  go_wp2
  go_loopw [4] (fun i wr => i = .int .i64 0 ∧ Below w.heap.size w wr) (fun _ _ => 0)
  case atStart => exact ⟨rfl, by (repeat (first | exact Below.refl _ _ | assumption | refine bchain (by assumption) ?_ | refine balloc ?_ _ | apply Below.drew | apply below_drewN | (refine Below.alloc ?_ (by (try simp) <;> omega) _) | (refine Below.setCell ?_ (by (try simp) <;> omega) _)))⟩
  case round =>
    obtain ⟨rfl, hb⟩ := hrel
    go_wp2
    go_ret
    exact ⟨⟨_, rfl, ⟨_, _, rfl, by simp, by simp, fun c => absurd rfl c⟩, .inl ⟨rfl, _, _, rfl⟩⟩, hb⟩
set_option maxHeartbeats 1000000 in
theorem toGo_some (b off cap : Nat) (gs : List (Int × Int)) (h1 : 0 < gs.length) (h2 : gs.length ≤ cap) (hm : gs.length ≤ 1048576) (hb : b < w.heap.size) (hc : ∀ i, i < gs.length → GCell w b off (gAt gs i) i) :
    Calls Try.prog 26 #[.slice (some ⟨b, off, none⟩) gs.length cap] w fun r w' => (∃ v, r = .returned v ∧ SlG w' v gs ∧ XO w.heap.size w'.heap.size w' v gs.length) ∧ Below w.heap.size w w' := by
  obtain ⟨i0, hi0, hz0, hs0, hb0⟩ := info_parts info_graph
  obtain ⟨O, hO⟩ : ∃ O, O = Obj.cells (madeCells #[.int .i64 0, .int .i64 0] (gs.length * 2)) 36 := ⟨_, rfl⟩
  obtain ⟨n, hn⟩ : ∃ n, n = gs.length := ⟨_, rfl⟩
  rw [← hn] at h1 h2 hm hO ⊢
  have hmk : ∀ W : World, (Instr.makeSlice 42 (.int .i64 n) (.int .i64 n)).run Try.prog W = .ok (.slice (some ⟨W.heap.size, 0, none⟩) n n) (W.alloc O) := fun W => by
    have hr := run_make (P := Try.prog) W 42 36 i0 (.agg #[.int .i64 0, .int .i64 0]) Try.underlying42 hi0 hz0 .i64 .i64 (n : Int) (n : Int) (by omega) (by omega) (by rw [hb0]; omega) (by omega)
    simp only [Int.toNat_natCast, hs0] at hr
    rw [hO]
    exact hr
  clear hi0 hz0 hs0 hb0
  replace hO := Lib.hid hO
  replace hn := Lib.hid hn
  replace hc := Lib.hid hc
  go_enter Try.func26, Try.ntmps26
  go_wp2
  go_loopw [4] (fun i wr => ∃ k : Nat, k ≤ n ∧ i = .int .i64 k ∧ HalfG wr w.heap.size k gs ∧ (∀ o, wr.frozen? ⟨w.heap.size, o, none⟩ = false) ∧ w.heap.size < wr.heap.size ∧ Below w.heap.size w wr) (fun i _ => n - (intOf i).toNat)
  case atStart => exact ⟨0, by omega, rfl, by rw [hO.out]; exact madeG _ _ _ _ _ rfl hn.out.symm, fun o => by rw [hO.out]; simp, by simp, by (repeat (first | exact Below.refl _ _ | assumption | refine bchain (by assumption) ?_ | refine balloc ?_ _ | apply Below.drew | apply below_drewN | (refine Below.alloc ?_ (by (try simp) <;> omega) _) | (refine Below.setCell ?_ (by (try simp) <;> omega) _)))⟩
  case round =>
    obtain ⟨k, hk, rfl, hh, hf, hz, hB⟩ := hrel
    by_cases hlt : k < n
    · have hg := hc.out k (by have := hn.out; omega)
      obtain ⟨x, y, hxy⟩ : ∃ x y, gAt gs k = (x, y) := ⟨_, _, rfl⟩
      have hs0 : wr.cell? ⟨b, off + k * 2, none⟩ = some (.int .i64 x) := by rw [hB.cell (p := ⟨b, _, none⟩) hb, hg.1, hxy]
      have hs1 : wr.cell? ⟨b, off + k * 2 + 1, none⟩ = some (.int .i64 y) := by rw [hB.cell (p := ⟨b, _, none⟩) hb, hg.2, hxy]
      have hset := Lib.hid (fun (W : World) (h : HalfG W w.heap.size k gs) => h.set (k := k) (by have := hn.out; omega))
      rw [hxy] at hset
      clear hg hxy
      replace hh := Lib.hid hh
      replace hf := Lib.hid hf
      go_wp2_with fail
      refine (toF_any _ x y).mono ?_
      rintro r3 w3 ⟨rfl, hb3⟩
      have hh3 := hh.out.below hb3 hz
      have hz3 := Nat.lt_of_lt_of_le hz hb3.size
      have ht := hh3 k (by have := hn.out; omega)
      rw [if_neg (by omega)] at ht
      have t0 : w3.cell? ⟨w.heap.size, k * 2, none⟩ = some (.int .i64 0) := by have := ht.1; rwa [Nat.zero_add] at this
      have t1 : w3.cell? ⟨w.heap.size, k * 2 + 1, none⟩ = some (.int .i64 0) := by have := ht.2; rwa [Nat.zero_add] at this
      have hf3 : ∀ o, w3.frozen? ⟨w.heap.size, o, none⟩ = false := fun o => (hb3.frozen (p := ⟨w.heap.size, o, none⟩) hz).trans (hf.out o)
      have f0 := hf3 (k * 2)
      have f1 := hf3 (k * 2 + 1)
      have hn2 := Lib.hid (hset.out w3 hh3)
      replace hf3 := Lib.hid hf3
      clear hh3 ht
      go_wp2
      go_roundw
      case rel => exact ⟨k + 1, by omega, by go_num, hn2.out, fun o => by simp [hf3.out o], by simp; omega, by (repeat (first | exact Below.refl _ _ | assumption | refine bchain (by assumption) ?_ | refine balloc ?_ _ | apply Below.drew | apply below_drewN | (refine Below.alloc ?_ (by (try simp) <;> omega) _) | (refine Below.setCell ?_ (by (try simp) <;> omega) _)))⟩
      case measure => simp [intOf]; omega
    · have hd := decide_eq_false (show ¬ ((k : Int) < (n : Int)) by omega)
      obtain rfl : k = n := by omega
      replace hh := Lib.hid hh
      replace hf := Lib.hid hf
      go_wp2
      go_ret
      refine ⟨⟨_, rfl, ?_⟩, hB⟩
      have e := hn.out
      subst e
      refine ⟨HalfG.done hh.out hz (Nat.le_refl _) (by omega), .inr ⟨_, _, rfl, Nat.le_refl _, hz, hz, fun t ht => ?_, hf.out⟩⟩
      have h2 := hh.out (t / 2) (by omega)
      unfold GCell at h2
      rw [Nat.zero_add] at h2
      obtain ⟨s, hs⟩ : ∃ s, t / 2 = s := ⟨_, rfl⟩
      rw [hs] at h2
      rcases (show t = s * 2 ∨ t = s * 2 + 1 by omega) with e | e
      · rw [e]; exact ⟨_, h2.1⟩
      · rw [e]; exact ⟨_, h2.2⟩
theorem toGo_any (v : Value) (gs : List (Int × Int)) (h : SlG w v gs) (hm : gs.length ≤ 1048576) :
    Calls Try.prog 26 #[v] w fun r w' => (∃ u, r = .returned u ∧ SlG w' u gs ∧ XO w.heap.size w'.heap.size w' u gs.length) ∧ Below w.heap.size w w' := by
  obtain ⟨a, cap, rfl, h1, h2, h3⟩ := h
  cases gs with
  | nil => exact toGo_empty w a cap
  | cons z zs =>
    obtain ⟨b, off, rfl, hb, hc⟩ := h3 (by simp)
    exact toGo_some w b off cap (z :: zs) (by simp) h1 hm hb hc
theorem sSM_bad (v : Value) (xs : List (Int × Int)) (hS : SlG w v xs) (hm : xs.length ≤ 1048576) (hV : ¬ Vl xs) :
    Calls Try.prog 25 #[v] w fun r w' => (∃ u cap, r = .returned (.tuple #[.slice u 0 cap, .int .i64 1]) ∧ cap ≤ 9223372036854775807) ∧ Below w.heap.size w w' := by
  have hC := Lib.hid (svl_f w v xs hS hm hV)
  clear hm hV hS
  go_enter Try.func25, Try.ntmps25
  go_wp2_with fail
  refine hC.out.mono ?_
  rintro r1 w1 ⟨rfl, hb1⟩
  go_wp2
  go_ret2
  exact ⟨⟨_, _, rfl, by omega⟩, by (repeat (first | exact Below.refl _ _ | assumption | refine bchain (by assumption) ?_ | refine balloc ?_ _ | apply Below.drew | apply below_drewN | (refine Below.alloc ?_ (by (try simp) <;> omega) _) | (refine Below.setCell ?_ (by (try simp) <;> omega) _)))⟩
theorem sSM_rng (v : Value) (xs : List (Int × Int)) (hS : SlG w v xs) (h8 : 8 < xs.length) (hV : Vl xs) :
    Calls Try.prog 25 #[v] w fun r w' => (∃ u cap, r = .returned (.tuple #[.slice u 0 cap, .int .i64 2]) ∧ cap ≤ 9223372036854775807) ∧ Below w.heap.size w w' := by
  have hC := Lib.hid (svl_t w v xs hS hV)
  obtain ⟨a, cap, rfl, _⟩ := hS.lies
  clear hV hS
  obtain ⟨l, hl⟩ : ∃ l, xs.length = l := ⟨_, rfl⟩
  rw [hl] at hC h8 ⊢
  clear hl
  have hd := decide_eq_true (show (l : Int) > 8 by omega)
  go_enter Try.func25, Try.ntmps25
  go_wp2_with fail
  refine hC.out.mono ?_
  rintro r1 w1 ⟨rfl, hb1⟩
  go_wp2
  go_ret2
  exact ⟨⟨_, _, rfl, by omega⟩, by (repeat (first | exact Below.refl _ _ | assumption | refine bchain (by assumption) ?_ | refine balloc ?_ _ | apply Below.drew | apply below_drewN | (refine Below.alloc ?_ (by (try simp) <;> omega) _) | (refine Below.setCell ?_ (by (try simp) <;> omega) _)))⟩
theorem sSM_any (v : Value) (xs : List (Int × Int)) (hS : SlG w v xs) (h8 : xs.length ≤ 8) (hV : Vl xs) :
    Calls Try.prog 25 #[v] w fun r w' => (((∀ i j, i < xs.length → j < xs.length → oS xs i j = true) ∧ ∃ v, r = .returned (.tuple #[v, .int .i64 0]) ∧ MB w.heap.size w' v xs.length (gS xs)) ∨ ((∃ i j, i < xs.length ∧ j < xs.length ∧ oS xs i j = false) ∧ ∃ u cap, r = .returned (.tuple #[.slice u 0 cap, .int .i64 3]) ∧ cap ≤ 9223372036854775807)) ∧ Below w.heap.size w w' := by
  have hC := Lib.hid (svl_t w v xs hS hV)
  obtain ⟨a, cap, rfl, hLi⟩ := hS.lies
  have hL := Lib.hid (fun W (hW : Lies W a xs) => ssq_any W a cap xs h8 hW hV.2)
  replace hLi := Lib.hid hLi
  clear hV hS
  obtain ⟨l, hl⟩ : ∃ l, xs.length = l := ⟨_, rfl⟩
  rw [hl] at hC hL h8 ⊢
  clear hl
  have hd := decide_eq_false (show ¬ (l : Int) > 8 by omega)
  go_enter Try.func25, Try.ntmps25
  go_wp2_with fail
  refine hC.out.mono ?_
  rintro r1 w1 ⟨rfl, hb1⟩
  go_wp2_with fail
  refine (hL.out _ (hLi.out.below (by (repeat (first | exact Below.refl _ _ | assumption | refine bchain (by assumption) ?_ | refine balloc ?_ _ | apply Below.drew | apply below_drewN | (refine Below.alloc ?_ (by (try simp) <;> omega) _) | (refine Below.setCell ?_ (by (try simp) <;> omega) _)))))).mono ?_
  rintro r2 w2 ⟨⟨ho, v2, rfl, hM⟩ | ⟨ho, u, cap2, rfl, hc⟩, hb2⟩
  · have hM2 := Lib.hid (hM.le (b1 := w.heap.size) hb1.size)
    replace ho := Lib.hid ho
    clear hM
    go_wp2
    go_ret2
    exact ⟨.inl ⟨ho.out, _, rfl, hM2.out⟩, by (repeat (first | exact Below.refl _ _ | assumption | refine bchain (by assumption) ?_ | refine balloc ?_ _ | apply Below.drew | apply below_drewN | (refine Below.alloc ?_ (by (try simp) <;> omega) _) | (refine Below.setCell ?_ (by (try simp) <;> omega) _)))⟩
  · replace ho := Lib.hid ho
    go_wp2
    go_ret2
    exact ⟨.inr ⟨ho.out, _, _, rfl, hc⟩, by (repeat (first | exact Below.refl _ _ | assumption | refine bchain (by assumption) ?_ | refine balloc ?_ _ | apply Below.drew | apply below_drewN | (refine Below.alloc ?_ (by (try simp) <;> omega) _) | (refine Below.setCell ?_ (by (try simp) <;> omega) _)))⟩
end
end Go.Proofs.Ytdibcchhamapjac
