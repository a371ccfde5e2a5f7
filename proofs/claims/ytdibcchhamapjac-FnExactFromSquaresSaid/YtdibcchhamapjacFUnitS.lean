/-
  UnitMatrix: the model's contract.
-/
import Derived.Test.YtdibcchhamapjacME
import Derived.Test.YtdibcchhamapjacFUnit
import Derived.Test.YtdibcchhamapjacVfr
import Derived.Deep.RegionWith
namespace Go.Proofs.Ytdibcchhamapjac
open Go.RowKit
set_option maxRecDepth 100000

theorem MB.below {b0 : Nat} {w w' : World} {v : Value} {n : Nat} {h : Nat → Nat → Int × Int} (H : MB b0 w v n h) (hb : Below w.heap.size w w') : MB b0 w' v n h := by
  obtain ⟨a, cap, R, C, e, h1, h2, hR, hC, hA⟩ := H
  refine ⟨a, cap, R, C, e, h1, h2, hR.below hb, hC, fun hn => ?_⟩
  obtain ⟨A, e2, a1, a2, a3, a4⟩ := hA hn
  exact ⟨A, e2, a1, Nat.lt_of_lt_of_le a2 hb.size, a3, fun i hi => (hb.cell (p := ⟨A, i, none⟩) a2).trans (a4 i hi)⟩
theorem MB.congr {b0 : Nat} {w : World} {v : Value} {n : Nat} {g h : Nat → Nat → Int × Int} (H : MB b0 w v n h) (e : ∀ i j, i < n → j < n → g i j = h i j) : MB b0 w v n g := by
  obtain ⟨a, cap, R, C, e1, h1, h2, hR, hC, hA⟩ := H
  refine ⟨a, cap, R, C, e1, h1, h2, fun i hi => ?_, hC, hA⟩
  obtain ⟨r1, r2, cur, r3, r4⟩ := hR i hi
  exact ⟨r1, r2, cur, r3, fun j hj => by rw [e i j hi hj]; exact r4 j hj⟩
theorem MB.le {b0 b1 : Nat} {w : World} {v : Value} {n : Nat} {h : Nat → Nat → Int × Int} (H : MB b0 w v n h) (hb : b1 ≤ b0) : MB b1 w v n h := by
  obtain ⟨a, cap, R, C, e1, h1, h2, hR, hC, hA⟩ := H
  refine ⟨a, cap, R, C, e1, h1, h2, fun i hi => ?_, hC, fun hn => ?_⟩
  · obtain ⟨r1, r2⟩ := hR i hi
    exact ⟨Nat.le_trans hb r1, r2⟩
  · obtain ⟨A, e2, a1, a2⟩ := hA hn
    exact ⟨A, e2, Nat.le_trans hb a1, a2⟩
/-- a matrix of the call's own, with an element: where its rows lie -/
structure MO (b0 : Nat) (w : World) (n : Nat) (h : Nat → Nat → Int × Int) (A cap : Nat) (R C : Nat → Nat) : Prop where
  h1 : n ≤ cap
  h2 : cap ≤ 9223372036854775807
  rb : RB b0 w n n R h
  hc : ∀ i, i < n → n ≤ C i ∧ C i ≤ 9223372036854775807
  a0 : b0 ≤ A
  a1 : A < w.heap.size
  ne : ∀ i, i < n → A ≠ R i
  row : ∀ i, i < n → w.cell? ⟨A, i, none⟩ = some (.slice (some ⟨R i, 0, none⟩) n (C i))
theorem MB.mo {b0 : Nat} {w : World} {v : Value} {n : Nat} {h : Nat → Nat → Int × Int} (H : MB b0 w v n h) (hn : 0 < n) : ∃ A cap R C, v = .slice (some ⟨A, 0, none⟩) n cap ∧ MO b0 w n h A cap R C := by
  obtain ⟨a, cap, R, C, e, h1, h2, hR, hC, hA⟩ := H
  obtain ⟨A, rfl, a1, a2, a3, a4⟩ := hA hn
  exact ⟨A, cap, R, C, e, h1, h2, hR, hC, a1, a2, a3, a4⟩
theorem MO.mb {b0 : Nat} {w : World} {n : Nat} {h : Nat → Nat → Int × Int} {A cap : Nat} {R C : Nat → Nat} (H : MO b0 w n h A cap R C) : MB b0 w (.slice (some ⟨A, 0, none⟩) n cap) n h :=
  ⟨_, cap, R, C, rfl, H.h1, H.h2, H.rb, H.hc, fun _ => ⟨A, rfl, H.a0, H.a1, H.ne, H.row⟩⟩
theorem MO.below {b0 : Nat} {w w' : World} {n : Nat} {h : Nat → Nat → Int × Int} {A cap : Nat} {R C : Nat → Nat} (H : MO b0 w n h A cap R C) (hb : Below w.heap.size w w') : MO b0 w' n h A cap R C :=
  ⟨H.h1, H.h2, H.rb.below hb, H.hc, H.a0, Nat.lt_of_lt_of_le H.a1 hb.size, H.ne, fun i hi => (hb.cell (p := ⟨A, i, none⟩) H.a1).trans (H.row i hi)⟩
theorem MO.set {b0 : Nat} {w : World} {n : Nat} {h : Nat → Nat → Int × Int} {A cap : Nat} {R C : Nat → Nat} (H : MO b0 w n h A cap R C) {i j : Nat} (hi : i < n) (hj : j < n) (x y : Int) :
    MO b0 ((w.setCell ⟨R i, j * 2, none⟩ (.int .i64 x)).setCell ⟨R i, j * 2 + 1, none⟩ (.int .i64 y)) n (fun a b => if a = i ∧ b = j then (x, y) else h a b) A cap R C where
  h1 := H.h1
  h2 := H.h2
  rb := H.rb.set hi hj x y
  hc := H.hc
  a0 := H.a0
  a1 := by have := H.a1; simpa using this
  ne := H.ne
  row := fun q hq => by
    have hne := H.ne i hi
    rw [World.cell?_setCell_other _ _ _ _ (fun t => hne (by injection t with t; exact t.symm)), World.cell?_setCell_other _ _ _ _ (fun t => hne (by injection t with t; exact t.symm))]
    exact H.row q hq
theorem MO.grown {b0 : Nat} {w0 w : World} {n : Nat} {h : Nat → Nat → Int × Int} {A cap : Nat} {R C : Nat → Nat} (H : MO b0 w n h A cap R C) (hb : Below b0 w0 w) {i j : Nat} (hi : i < n) (x y : Value) :
    Below b0 w0 ((w.setCell ⟨R i, j * 2, none⟩ x).setCell ⟨R i, j * 2 + 1, none⟩ y) :=
  (hb.setCell (p := ⟨R i, j * 2, none⟩) (H.rb i hi).1 _).setCell (p := ⟨R i, j * 2 + 1, none⟩) (H.rb i hi).1 _

/-- the first k of the diagonal -/
def gD (k i j : Nat) : Int × Int := (if i = j ∧ i < k then 1 else 0, 1)
theorem gD_zero (i j : Nat) : gD 0 i j = (0, 1) := by unfold gD; rw [if_neg (by omega)]
theorem gD_next (k i j : Nat) : gD (k + 1) i j = if i = k ∧ j = k then (1, 1) else gD k i j := by
  unfold gD
  by_cases c : i = k ∧ j = k
  · rw [if_pos c, if_pos (by omega)]
  · rw [if_neg c]
    by_cases d : i = j ∧ i < k
    · rw [if_pos d, if_pos (by omega)]
    · rw [if_neg d, if_neg (by omega)]
theorem gD_all (n i j : Nat) (hi : i < n) : gD n i j = gU i j := by
  unfold gD gU
  by_cases c : i = j
  · rw [if_pos ⟨c, hi⟩, if_pos c]
  · rw [if_neg (fun t => c t.1), if_neg c]
section
variable (w : World)
set_option maxHeartbeats 2000000 in
theorem sUM_ok (n : Nat) (hn : n ≤ 8) :
    Calls Try.prog 12 #[.int .i64 n] w fun r w' => (∃ v, r = .returned (.tuple #[v, .int .i64 0]) ∧ MB w.heap.size w' v n gU) ∧ Below w.heap.size w w' := by
  have hE := Lib.hid (fun W => sempty_any W n hn)
  go_enter Try.func12, Try.ntmps12
  go_wp2_with (first
    | (go_at_call 41; refine (in_t _ _ _ _ (by omega) (by omega)).mono ?_; rintro r0 w0 ⟨rfl, rfl⟩)
    | (go_at_call 42; refine (hE.out _).mono ?_; rintro r1 w1 ⟨⟨v, rfl, hM⟩, hb1⟩))
  replace hM := Lib.hid hM
  go_wp2_with fail
  obtain ⟨a, cap, _, _, rfl, _⟩ := id hM.out
  go_loopw [5] (fun s wr => ∃ k : Nat, k ≤ n ∧ s = .int .i64 k ∧ Hid (MB w.heap.size wr (.slice a n cap) n (gD k)) ∧ Below w.heap.size w wr) (fun s _ => n - (intOf s).toNat)
  case atStart => exact ⟨0, by omega, rfl, hM.out.congr (fun i j _ _ => gD_zero i j), by (repeat (first | exact Below.refl _ _ | assumption | refine bchain (by assumption) ?_ | refine balloc ?_ _ | apply Below.drew | apply below_drewN | (refine Below.alloc ?_ (by (try simp) <;> omega) _) | (refine Below.setCell ?_ (by (try simp) <;> omega) _)))⟩
  case round =>
    clear hM
    obtain ⟨k, hk, rfl, hM, hb⟩ := hrel
    by_cases hlt : k < n
    · obtain ⟨A, cap', R, C, hv, hO⟩ := hM.out.mo (by omega)
      injection hv with hv1 _ hv2
      subst hv1 hv2
      have c0 := hO.row k hlt
      obtain ⟨d0, d1, df⟩ := hO.rb.cell hlt hlt
      have hA1 := hO.a1
      have hRl := hO.rb.lt hlt
      obtain ⟨hC1, hC2⟩ := hO.hc k hlt
      obtain ⟨z0, hz0⟩ : ∃ z, (gD k k k).1 = z := ⟨_, rfl⟩
      obtain ⟨z1, hz1⟩ : ∃ z, (gD k k k).2 = z := ⟨_, rfl⟩
      rw [hz0] at d0
      rw [hz1] at d1
      obtain ⟨Rk, hRk⟩ : ∃ r, R k = r := ⟨_, rfl⟩
      have hne : A ≠ Rk := by rw [← hRk]; exact hO.ne k hlt
      rw [hRk] at c0 d0 d1 df hRl
      obtain ⟨Ck, hCk⟩ : ∃ r, C k = r := ⟨_, rfl⟩
      rw [hCk] at c0 hC1 hC2
      have df0 := df (k * 2)
      have df1 := df (k * 2 + 1)
      have hfin : ∀ w3, Below wr.heap.size wr w3 → MB w.heap.size ((w3.setCell ⟨Rk, k * 2, none⟩ (.int .i64 1)).setCell ⟨Rk, k * 2 + 1, none⟩ (.int .i64 1)) (.slice (some ⟨A, 0, none⟩) n cap) n (gD (k + 1)) ∧ Below w.heap.size w ((w3.setCell ⟨Rk, k * 2, none⟩ (.int .i64 1)).setCell ⟨Rk, k * 2 + 1, none⟩ (.int .i64 1)) := fun w3 hb3 => by
        have hO3 := hO.below hb3
        have hb03 : Below w.heap.size w w3 := hb.trans (hb3.mono hb.size)
        rw [← hRk]
        exact ⟨((hO3.set hlt hlt 1 1).mb).congr (fun i j _ _ => gD_next k i j), hO3.grown hb03 hlt _ _⟩
      replace hfin := Lib.hid hfin
      clear hO hM df hRk hCk hz0 hz1
      go_wp2
      go_region_with (go_at_call 43; refine (one_any _ 1).mono ?_; rintro r3 w3 ⟨rfl, hb3⟩; obtain ⟨hc3, hz3⟩ := bkeep hb3 A hA1; obtain ⟨hd3, hy3⟩ := bkeep hb3 Rk hRl; have hf3 := bkeepz hb3 Rk hRl)
      all_goals go_wp2
      all_goals obtain ⟨n1, n2⟩ := hfin.out w3 (by (repeat (first | exact Below.refl _ _ | assumption | refine bchain (by assumption) ?_ | refine balloc ?_ _ | apply Below.drew | apply below_drewN | (refine Below.alloc ?_ (by (try simp) <;> omega) _) | (refine Below.setCell ?_ (by (try simp) <;> omega) _))))
      all_goals replace n1 := Lib.hid n1
      all_goals go_roundw
      all_goals first | exact ⟨k + 1, by omega, by go_num, n1.out, n2⟩ | (simp [intOf]; omega)
    · obtain rfl : k = n := by omega
      have hdd := decide_eq_false (show ¬ ((k : Int) < (k : Int)) by omega)
      go_wp2
      go_ret2
      exact ⟨⟨_, rfl, hM.out.congr (fun i j hi _ => (gD_all k i j hi).symm)⟩, hb⟩
theorem sUM_rng (n : Int) (hn : n < 0 ∨ 8 < n) :
    Calls Try.prog 12 #[.int .i64 n] w fun r w' => (∃ u cap, r = .returned (.tuple #[.slice u 0 cap, .int .i64 2]) ∧ cap ≤ 9223372036854775807) ∧ Below w.heap.size w w' := by
  go_enter Try.func12, Try.ntmps12
  go_wp2_with (go_at_call 41; refine (in_f _ _ _ _ hn).mono ?_; rintro r0 w0 ⟨rfl, rfl⟩)
  go_ret2
  exact ⟨⟨_, _, rfl, by omega⟩, by (repeat (first | exact Below.refl _ _ | assumption | refine bchain (by assumption) ?_ | refine balloc ?_ _ | apply Below.drew | apply below_drewN | (refine Below.alloc ?_ (by (try simp) <;> omega) _) | (refine Below.setCell ?_ (by (try simp) <;> omega) _)))⟩
end
end Go.Proofs.Ytdibcchhamapjac
