/-
  FlagDensities: both sides.
-/
import Derived.Test.YtepbekhlpbnpkaaDoorFdl
import Derived.Test.YtepbekhlpbnpkaaDoorDl
import Derived.Deep.RegionHeld3
namespace Go.Proofs.YtepbekhlpbnpkaaDoor
open Go.RowKit Go.Shelf
set_option maxRecDepth 100000
attribute [local go_sem] Oper.semAt_some
/-- the densities of a list of flags -/
def dsOf (k n e n0 : Nat) (L : List (Int × Int × Int)) : List (Int × Int) := L.map fun g => fdF k n e n0 g.2.2.toNat
theorem dsOf_length (k n e n0 : Nat) (L : List (Int × Int × Int)) : (dsOf k n e n0 L).length = L.length := by simp [dsOf]
theorem dsOf_at {k n e n0 E : Nat} {L : List (Int × Int × Int)} {i : Nat} (hi : i < L.length) (h : kAt L i = ((k : Int), (n0 : Int), (E : Int))) : Fr.gAt (dsOf k n e n0 L) i = fdF k n e n0 E := by
  unfold Fr.gAt dsOf
  unfold kAt at h
  rw [List.getElem?_eq_getElem hi] at h
  rw [List.getElem?_map, List.getElem?_eq_getElem hi]
  have h2 : L[i] = ((k : Int), (n0 : Int), (E : Int)) := h
  simp [h2]
theorem dsTake {ds : List (Int × Int)} {i : Nat} (hi : i < ds.length) : ds.take (i + 1) = ds.take i ++ [Fr.gAt ds i] := by
  unfold Fr.gAt
  rw [List.take_add_one, List.getElem?_eq_getElem hi]
  rfl
section
variable (w : World)
theorem ifds_inv (n0 k n e : Int) (he : e < 4294967296) (h0 : 0 ≤ e) (h : ¬ VK k n e) :
    Calls Tryd.prog 29 #[.int .i64 n0, .agg #[.int .i64 k, .int .i64 n, .int .u32 e]] w fun r w' => r = .returned (.tuple #[.slice none 0 0, .int .i64 1]) ∧ Below w.heap.size w w' := by
  have hV := Lib.hid (fun W => ivk_f W k n e he h0 h)
  clear he h0 h
  go_enter Tryd.func29, Tryd.ntmps29
  go_wp2_with fail
  refine (hV.out _).mono ?_
  rintro r3 w3 ⟨rfl, hb3⟩
  go_wp2
  go_ret2
  exact ⟨rfl, by (repeat (first | exact Below.refl _ _ | assumption | refine bchain (by assumption) ?_ | refine balloc ?_ _ | apply Below.drew | apply below_drewN | (refine Below.alloc ?_ (by (try simp) <;> omega) _) | (refine Below.setCell ?_ (by (try simp) <;> omega) _)))⟩
theorem ifds_rng (n0 k n e : Int) (h : VK k n e) (hlt : n < n0) :
    Calls Tryd.prog 29 #[.int .i64 n0, .agg #[.int .i64 k, .int .i64 n, .int .u32 e]] w fun r w' => r = .returned (.tuple #[.slice none 0 0, .int .i64 2]) ∧ Below w.heap.size w w' := by
  have hV := Lib.hid (fun W => ivk_t W k n e h)
  have hZ := Lib.hid (fun W => siz_any W k n e)
  have hF0 := FC.made w k n e 34
  have hd := decide_eq_true hlt
  clear h
  go_enter Tryd.func29, Tryd.ntmps29
  go_wp2_with fail
  refine (hV.out _).mono ?_
  rintro r3 w3 ⟨rfl, hb3⟩
  obtain ⟨f0, f1, f2, f3⟩ := hF0.below hb3
  go_wp2_with fail
  refine (hZ.out _).mono ?_
  rintro r4 w4 ⟨rfl, hb4⟩
  go_wp2
  go_ret2
  exact ⟨rfl, by (repeat (first | exact Below.refl _ _ | assumption | refine bchain (by assumption) ?_ | refine balloc ?_ _ | apply Below.drew | apply below_drewN | (refine Below.alloc ?_ (by (try simp) <;> omega) _) | (refine Below.setCell ?_ (by (try simp) <;> omega) _)))⟩
theorem ifds_code (n0 : Int) (k n e : Nat) (c : Int) (hc : c = 2 ∨ c = 3) (h : VK k n e) (hle : n0 ≤ n) (hA : ∀ W, Calls Tryd.prog 67 #[.agg #[.int .i64 k, .int .u32 (onL e (List.range k) : Nat)], .int .i64 n0, .slice none 0 0] W (RetK W [] c)) :
    Calls Tryd.prog 29 #[.int .i64 n0, .agg #[.int .i64 k, .int .i64 n, .int .u32 e]] w fun r w' => r = .returned (.tuple #[.slice none 0 0, .int .i64 c]) ∧ Below w.heap.size w w' := by
  have hV := Lib.hid (fun W => ivk_t W k n e h)
  have hZ := Lib.hid (fun W => siz_any W k n e)
  have hTy := Lib.hid (fun W => ity_any W k n e h)
  have hF0 := FC.made w k n e 34
  have hd := decide_eq_false (show ¬ ((n : Int) < n0) by omega)
  obtain ⟨t, ht⟩ : ∃ t, onL e (List.range k) = t := ⟨_, rfl⟩
  rw [ht] at hA hTy
  replace hA := Lib.hid hA
  clear h ht
  rcases hc with rfl | rfl
  all_goals
    go_enter Tryd.func29, Tryd.ntmps29
    go_wp2_with fail
    refine (hV.out _).mono ?_
    rintro r3 w3 ⟨rfl, hb3⟩
    have hF3 := hF0.below hb3
    obtain ⟨f0, f1, f2, f3⟩ := id hF3
    go_wp2_with fail
    refine (hZ.out _).mono ?_
    rintro r4 w4 ⟨rfl, hb4⟩
    obtain ⟨g0, g1, g2, g3⟩ := hF3.below hb4
    go_wp2_with fail
    refine (hTy.out _).mono ?_
    rintro r5 w5 ⟨rfl, hb5⟩
    go_wp2_with fail
    refine (hA.out _).mono ?_
    rintro r6 w6 ⟨⟨u, rfl, _⟩, hb6⟩
    go_wp2
    go_ret2
    exact ⟨rfl, by (repeat (first | exact Below.refl _ _ | assumption | refine bchain (by assumption) ?_ | refine balloc ?_ _ | apply Below.drew | apply below_drewN | (refine Below.alloc ?_ (by (try simp) <;> omega) _) | (refine Below.setCell ?_ (by (try simp) <;> omega) _)))⟩
set_option maxHeartbeats 4000000 in
theorem ifds_ok (k n e n0 : Nat) (h : VK k n e) (hle : n0 ≤ n) (hT : TabZ w) (L : List (Int × Int × Int)) (hL : L.length ≤ 64) (hel : ∀ i, i < L.length → ∃ E : Nat, kAt L i = ((k : Int), (n0 : Int), (E : Int)) ∧ VK k n0 E)
    (hA : ∀ W, Calls Tryd.prog 67 #[.agg #[.int .i64 k, .int .u32 (onL e (List.range k) : Nat)], .int .i64 n0, .slice none 0 0] W (RetK W L 0)) :
    Calls Tryd.prog 29 #[.int .i64 n0, .agg #[.int .i64 k, .int .i64 n, .int .u32 e]] w fun r w' => (∃ v, r = .returned (.tuple #[v, .int .i64 0]) ∧ Hid (OwnD w.heap.size w' v (dsOf k n e n0 L))) ∧ Below w.heap.size w w' := by
  have hV := Lib.hid (fun W => ivk_t W k n e h)
  have hZ := Lib.hid (fun W => siz_any W k n e)
  have hTy := Lib.hid (fun W => ity_any W k n e h)
  have hF0 := FC.made w k n e 34
  have hd := decide_eq_false (show ¬ ((n : Int) < (n0 : Int)) by omega)
  have hFd := Lib.hid (fun W (hW : Below w.heap.size w W) (E : Nat) (hE : VK k n0 E) => ifd_any W k n e n0 E h hE hle (hT.below hW))
  obtain ⟨t, ht⟩ : ∃ t, onL e (List.range k) = t := ⟨_, rfl⟩
  rw [ht] at hA hTy
  replace hA := Lib.hid hA
  have hdsl := dsOf_length k n e n0 L
  have hdat := Lib.hid (fun i (hi : i < L.length) (E : Nat) (hE : kAt L i = ((k : Int), (n0 : Int), (E : Int))) => dsOf_at (e := e) (n := n) hi hE)
  obtain ⟨ds, hds⟩ : ∃ ds, dsOf k n e n0 L = ds := ⟨_, rfl⟩
  rw [hds] at hdsl hdat ⊢
  obtain ⟨N, hN⟩ : ∃ N, L.length = N := ⟨_, rfl⟩
  rw [hN] at hL hdsl
  obtain ⟨i0, hi0, hz0, hs0, hb0⟩ := info_parts info_fr3
  have hmk : ∀ A : World, (Instr.makeSlice 47 (.int .i64 (N : Int)) (.int .i64 (N : Int))).run Tryd.prog A = .ok (.slice (some ⟨A.heap.size, 0, none⟩) N N) (A.alloc (.cells (madeCells #[.int .i64 0, .int .i64 0] (N * 2)) 38)) := fun A => by
    have hr := run_make (P := Tryd.prog) A 47 38 i0 (.agg #[.int .i64 0, .int .i64 0]) Tryd.underlying47 hi0 hz0 .i64 .i64 (N : Int) (N : Int) (by omega) (by omega) (by rw [hb0]; omega) (by omega)
    simp only [Int.toNat_natCast, hs0] at hr
    exact hr
  replace hdsl := Lib.hid hdsl
  replace hN := Lib.hid hN
  replace hel := Lib.hid hel
  clear h ht hT hds hi0 hz0 hs0 hb0
  go_enter Tryd.func29, Tryd.ntmps29
  go_wp2_with fail
  refine (hV.out _).mono ?_
  rintro r3 w3 ⟨rfl, hb3⟩
  have hF3 := hF0.below hb3
  obtain ⟨f0, f1, f2, f3⟩ := id hF3
  go_wp2_with fail
  refine (hZ.out _).mono ?_
  rintro r4 w4 ⟨rfl, hb4⟩
  have hF4 := hF3.below hb4
  obtain ⟨g0, g1, g2, g3⟩ := id hF4
  go_wp2_with fail
  refine (hTy.out _).mono ?_
  rintro r5 w5 ⟨rfl, hb5⟩
  have hF5 := hF4.below hb5
  go_wp2_with fail
  refine (hA.out _).mono ?_
  rintro r6 w6 ⟨⟨u, rfl, hO⟩, hb6⟩
  have hF6 := hF5.below hb6
  have hB6 : Below w.heap.size w w6 := by (repeat (first | exact Below.refl _ _ | assumption | refine bchain (by assumption) ?_ | refine balloc ?_ _ | apply Below.drew | apply below_drewN | (refine Below.alloc ?_ (by (try simp) <;> omega) _) | (refine Below.setCell ?_ (by (try simp) <;> omega) _)))
  obtain ⟨a, cap, rfl, hl⟩ := hO.sl.lies
  rw [hN.out]
  replace hl := Lib.hid hl
  clear hF0 hb3 hb4 hb5 hb6 hF3 hF4 hF5 hO f0 f1 f2 f3 g0 g1 g2 g3
  have hmk6 := hmk w6
  clear hmk
  have hz6 : w.heap.size ≤ w6.heap.size := hB6.size
  obtain ⟨O, hO⟩ : ∃ O, O = Obj.cells (madeCells #[.int .i64 0, .int .i64 0] (N * 2)) 38 := ⟨_, rfl⟩
  rw [← hO] at hmk6
  have hh0 : Fr.HalfG (w6.alloc O) w6.heap.size 0 ds := by rw [hO]; exact Fr.madeG w6 N _ _ ds rfl hdsl.out
  have hfr0 : ∀ o, (w6.alloc O).frozen? ⟨w6.heap.size, o, none⟩ = false := fun o => by rw [hO]; simp
  replace hh0 := Lib.hid hh0
  replace hfr0 := Lib.hid hfr0
  replace hO := Lib.hid hO
  have hbA : Below w6.heap.size w6 (w6.alloc O) := balloc (Below.refl _ _) O
  go_wp2
  go_loopw [33] (fun i wr => ∃ j : Nat, j ≤ N ∧ i = .int .i64 j ∧ Hid (Fr.HalfG wr w6.heap.size j ds) ∧ Hid (∀ o, wr.frozen? ⟨w6.heap.size, o, none⟩ = false) ∧ w6.heap.size < wr.heap.size ∧ Below w6.heap.size w6 wr) (fun i _ => N - (intOf i).toNat)
  case atStart => exact ⟨0, by omega, rfl, hh0.out, hfr0.out, by simp, hbA⟩
  case round =>
    obtain ⟨j, hj, rfl, hH, hf, hz, hb⟩ := hrel
    by_cases hlt : j < N
    · have hjL : j < L.length := by rw [hN.out]; exact hlt
      obtain ⟨b, off, rfl, hbl, hg⟩ := hl.out j hjL
      obtain ⟨E, hE, hVE⟩ := hel.out j hjL
      have hd2 := hdat.out j hjL E hE
      rw [hE] at hg
      have s0 := (hb.cell (p := ⟨b, off + j * 3, none⟩) hbl).trans hg.1
      have s1 := (hb.cell (p := ⟨b, off + j * 3 + 1, none⟩) hbl).trans hg.2.1
      have s2 := (hb.cell (p := ⟨b, off + j * 3 + 2, none⟩) hbl).trans hg.2.2
      have hB : Below w.heap.size w wr := hB6.trans (hb.mono hz6)
      have hC := Lib.hid (fun W (hW : Below w.heap.size w W) => hFd.out W hW E hVE)
      have hFr := hF6.below hb
      obtain ⟨g0, g1, g2, g3⟩ := id hFr
      obtain ⟨W1, hW1⟩ : ∃ W1, W1 = wr.alloc (.cells #[.int .i64 (k : Int), .int .i64 (n0 : Int), .int .u32 (E : Int)] 34) := ⟨_, rfl⟩
      have hb1 : Below wr.heap.size wr W1 := by rw [hW1]; (repeat (first | exact Below.refl _ _ | assumption | refine bchain (by assumption) ?_ | refine balloc ?_ _ | apply Below.drew | apply below_drewN | (refine Below.alloc ?_ (by (try simp) <;> omega) _) | (refine Below.setCell ?_ (by (try simp) <;> omega) _)))
      have hjn : (j : Int) < (N : Int) := by omega
      obtain ⟨x, hx⟩ : ∃ x, (fdF k n e n0 E).1 = x := ⟨_, rfl⟩
      obtain ⟨y, hy⟩ : ∃ x, (fdF k n e n0 E).2 = x := ⟨_, rfl⟩
      have hd3 : Fr.gAt ds j = (x, y) := by rw [hd2, ← hx, ← hy]
      rw [hx, hy] at hC
      clear hg hE hVE hd2 hx hy hW1 hb1
      clear W1
      go_wp2_with fail
      refine (hC.out _ (by (repeat (first | exact Below.refl _ _ | assumption | refine bchain (by assumption) ?_ | refine balloc ?_ _ | apply Below.drew | apply below_drewN | (refine Below.alloc ?_ (by (try simp) <;> omega) _) | (refine Below.setCell ?_ (by (try simp) <;> omega) _))))).mono ?_
      rintro r7 w7 ⟨rfl, hb7⟩
      have hbr7 : Below wr.heap.size wr w7 := by (repeat (first | exact Below.refl _ _ | assumption | refine bchain (by assumption) ?_ | refine balloc ?_ _ | apply Below.drew | apply below_drewN | (refine Below.alloc ?_ (by (try simp) <;> omega) _) | (refine Below.setCell ?_ (by (try simp) <;> omega) _)))
      have hH7 := hH.out.below hbr7 hz
      have hz7 : w6.heap.size < w7.heap.size := Nat.lt_of_lt_of_le hz hbr7.size
      have c0 := (hH7 j (by rw [hdsl.out]; exact hlt)).1
      have c1 := (hH7 j (by rw [hdsl.out]; exact hlt)).2
      rw [if_neg (by omega), Nat.zero_add] at c0 c1
      have fz : ∀ o, w7.frozen? ⟨w6.heap.size, o, none⟩ = false := fun o => (hbr7.frozen (p := ⟨w6.heap.size, o, none⟩) hz).trans (hf.out o)
      have e0 := fz (j * 2)
      have e1 := fz (j * 2 + 1)
      have hset := Lib.hid (hH7.set (by rw [hdsl.out]; exact hlt))
      rw [hd3] at hset
      have hf2 : Hid (∀ o, ((w7.setCell ⟨w6.heap.size, j * 2, none⟩ (.int .i64 x)).setCell ⟨w6.heap.size, j * 2 + 1, none⟩ (.int .i64 y)).frozen? ⟨w6.heap.size, o, none⟩ = false) := fun o => by rw [World.frozen?_setCell, World.frozen?_setCell]; exact fz o
      have hb8 : Below w6.heap.size w6 ((w7.setCell ⟨w6.heap.size, j * 2, none⟩ (.int .i64 x)).setCell ⟨w6.heap.size, j * 2 + 1, none⟩ (.int .i64 y)) := ((hb.trans (hbr7.mono hb.size)).setCell (p := ⟨w6.heap.size, j * 2, none⟩) (Nat.le_refl _) _).setCell (p := ⟨w6.heap.size, j * 2 + 1, none⟩) (Nat.le_refl _) _
      replace fz := Lib.hid fz
      clear hH hH7 hf hb7 hbr7 hd3 s0 s1 s2
      go_wp2
      go_roundw
      case rel => exact ⟨j + 1, by omega, by go_num, hset.out, hf2, by (try simp) <;> omega, hb8⟩
      case measure => simp [intOf]; omega
    · obtain rfl : j = N := by omega
      have hdd := decide_eq_false (show ¬ ((j : Int) < (j : Int)) by omega)
      have hfin : Hid (OwnD w.heap.size wr (.slice (some ⟨w6.heap.size, 0, none⟩) j j) ds) := by
        refine .inr ⟨w6.heap.size, j, by rw [hdsl.out], by rw [hdsl.out]; exact Nat.le_refl _, by omega, hz6, hz, hf.out, fun i hi => ?_⟩
        have := hH.out i hi
        rwa [if_pos (by rw [hdsl.out] at hi; exact hi)] at this
      go_wp2
      go_ret2
      exact ⟨⟨_, rfl, hfin⟩, hB6.trans (hb.mono hz6)⟩
theorem sfds_inv (n0 k n e : Int) (he : e < 4294967296) (h0 : 0 ≤ e) (h : ¬ VK k n e) :
    Calls Tryd.prog 28 #[.int .i64 n0, .agg #[.int .i64 k, .int .i64 n, .int .u32 e]] w fun r w' => (∃ v, r = .returned (.tuple #[v, .int .i64 1]) ∧ Fr.SlG w' v []) ∧ Below w.heap.size w w' := by
  have hV := Lib.hid (fun W => sok_f W k n e he h0 h)
  clear he h0 h
  go_enter Tryd.func28, Tryd.ntmps28
  go_wp2_with fail
  refine (hV.out _).mono ?_
  rintro r3 w3 ⟨rfl, hb3⟩
  go_wp2
  go_ret2
  exact ⟨⟨_, rfl, _, _, rfl, by simp, by simp, fun c => absurd rfl c⟩, by (repeat (first | exact Below.refl _ _ | assumption | refine bchain (by assumption) ?_ | refine balloc ?_ _ | apply Below.drew | apply below_drewN | (refine Below.alloc ?_ (by (try simp) <;> omega) _) | (refine Below.setCell ?_ (by (try simp) <;> omega) _)))⟩
theorem sfds_rng (n0 k n e : Int) (h : VK k n e) (hlt : n < n0 ∨ n0 < k) :
    Calls Tryd.prog 28 #[.int .i64 n0, .agg #[.int .i64 k, .int .i64 n, .int .u32 e]] w fun r w' => (∃ v, r = .returned (.tuple #[v, .int .i64 2]) ∧ Fr.SlG w' v []) ∧ Below w.heap.size w w' := by
  have hV := Lib.hid (fun W => sok_t W k n e h)
  have hI := Lib.hid (fun W => in_f W n0 k n (by omega))
  have hF0 := FC.made w k n e 34
  clear h hlt
  go_enter Tryd.func28, Tryd.ntmps28
  go_wp2_with fail
  refine (hV.out _).mono ?_
  rintro r3 w3 ⟨rfl, hb3⟩
  obtain ⟨f0, f1, f2, f3⟩ := hF0.below hb3
  go_wp2_with fail
  refine (hI.out _).mono ?_
  rintro r4 w4 ⟨rfl, rfl⟩
  go_wp2
  go_ret2
  exact ⟨⟨_, rfl, _, _, rfl, by simp, by simp, fun c => absurd rfl c⟩, by (repeat (first | exact Below.refl _ _ | assumption | refine bchain (by assumption) ?_ | refine balloc ?_ _ | apply Below.drew | apply below_drewN | (refine Below.alloc ?_ (by (try simp) <;> omega) _) | (refine Below.setCell ?_ (by (try simp) <;> omega) _)))⟩
theorem sfds_code (n0 : Int) (k n e : Nat) (h : VK k n e) (hle : k ≤ n0 ∧ n0 ≤ n) (hA : ∀ W a, Calls Tryd.prog 65 #[.agg #[.int .i64 k, .int .u32 (onL e (List.range k) : Nat)], .int .i64 n0, .slice a 0 0] W (RetK W [] 3)) :
    Calls Tryd.prog 28 #[.int .i64 n0, .agg #[.int .i64 k, .int .i64 n, .int .u32 e]] w fun r w' => (∃ v, r = .returned (.tuple #[v, .int .i64 3]) ∧ Fr.SlG w' v []) ∧ Below w.heap.size w w' := by
  have hV := Lib.hid (fun W => sok_t W k n e h)
  have hI := Lib.hid (fun W => in_t W n0 k n (by omega) (by omega))
  have hTy := Lib.hid (fun W => sty_any W k n e h)
  have hF0 := FC.made w k n e 34
  obtain ⟨t, ht⟩ : ∃ t, onL e (List.range k) = t := ⟨_, rfl⟩
  rw [ht] at hA hTy
  replace hA := Lib.hid hA
  clear h ht hle
  go_enter Tryd.func28, Tryd.ntmps28
  go_wp2_with fail
  refine (hV.out _).mono ?_
  rintro r3 w3 ⟨rfl, hb3⟩
  have hF3 := hF0.below hb3
  obtain ⟨f0, f1, f2, f3⟩ := id hF3
  go_wp2_with fail
  refine (hI.out _).mono ?_
  rintro r4 w4 ⟨rfl, rfl⟩
  go_wp2_with fail
  refine (hTy.out _).mono ?_
  rintro r5 w5 ⟨rfl, hb5⟩
  go_wp2_with fail
  refine (hA.out _ _).mono ?_
  rintro r6 w6 ⟨⟨u, rfl, _⟩, hb6⟩
  go_wp2
  go_ret2
  exact ⟨⟨_, rfl, _, _, rfl, by simp, by simp, fun c => absurd rfl c⟩, by (repeat (first | exact Below.refl _ _ | assumption | refine bchain (by assumption) ?_ | refine balloc ?_ _ | apply Below.drew | apply below_drewN | (refine Below.alloc ?_ (by (try simp) <;> omega) _) | (refine Below.setCell ?_ (by (try simp) <;> omega) _)))⟩
set_option maxHeartbeats 4000000 in
theorem sfds_ok (k n e n0 : Nat) (h : VK k n e) (hk0 : k ≤ n0) (hle : n0 ≤ n) (L : List (Int × Int × Int)) (hL : L.length ≤ 64) (hel : ∀ i, i < L.length → ∃ E : Nat, kAt L i = ((k : Int), (n0 : Int), (E : Int)) ∧ VK k n0 E)
    (hA : ∀ W a, Calls Tryd.prog 65 #[.agg #[.int .i64 k, .int .u32 (onL e (List.range k) : Nat)], .int .i64 n0, .slice a 0 0] W (RetK W L 0)) :
    Calls Tryd.prog 28 #[.int .i64 n0, .agg #[.int .i64 k, .int .i64 n, .int .u32 e]] w fun r w' => (∃ v, r = .returned (.tuple #[v, .int .i64 0]) ∧ Fr.SlG w' v (dsOf k n e n0 L)) ∧ Below w.heap.size w w' := by
  have hV := Lib.hid (fun W => sok_t W k n e h)
  have hI := Lib.hid (fun W => in_t W n0 k n (by omega) (by omega))
  have hTy := Lib.hid (fun W => sty_any W k n e h)
  have hF0 := FC.made w k n e 34
  have hFd := Lib.hid (fun W (E : Nat) (hE : VK k n0 E) => sfd_any W k n e n0 E h hE hle)
  obtain ⟨t, ht⟩ : ∃ t, onL e (List.range k) = t := ⟨_, rfl⟩
  rw [ht] at hA hTy
  replace hA := Lib.hid hA
  have hdsl := dsOf_length k n e n0 L
  have hdat := Lib.hid (fun i (hi : i < L.length) (E : Nat) (hE : kAt L i = ((k : Int), (n0 : Int), (E : Int))) => dsOf_at (e := e) (n := n) hi hE)
  obtain ⟨ds, hds⟩ : ∃ ds, dsOf k n e n0 L = ds := ⟨_, rfl⟩
  rw [hds] at hdsl hdat ⊢
  obtain ⟨N, hN⟩ : ∃ N, L.length = N := ⟨_, rfl⟩
  rw [hN] at hL hdsl
  obtain ⟨i0, hi, hz0, hz1, hz2⟩ := info_parts info_fr3
  replace hi := Lib.hid hi
  replace hz0 := Lib.hid hz0
  replace hz1 := Lib.hid hz1
  replace hz2 := Lib.hid hz2
  replace hdsl := Lib.hid hdsl
  replace hN := Lib.hid hN
  replace hel := Lib.hid hel
  clear h ht hds hk0
  go_enter Tryd.func28, Tryd.ntmps28
  go_wp2_with fail
  refine (hV.out _).mono ?_
  rintro r3 w3 ⟨rfl, hb3⟩
  have hF3 := hF0.below hb3
  obtain ⟨f0, f1, f2, f3⟩ := id hF3
  go_wp2_with fail
  refine (hI.out _).mono ?_
  rintro r4 w4 ⟨rfl, rfl⟩
  go_wp2_with fail
  refine (hTy.out _).mono ?_
  rintro r5 w5 ⟨rfl, hb5⟩
  have hF5 := hF3.below hb5
  go_wp2_with fail
  refine (hA.out _ _).mono ?_
  rintro r6 w6 ⟨⟨u, rfl, hO⟩, hb6⟩
  have hF6 := (hF5.below (balloc (Below.refl _ _) _)).below hb6
  have hB6 : Below w.heap.size w w6 := by (repeat (first | exact Below.refl _ _ | assumption | refine bchain (by assumption) ?_ | refine balloc ?_ _ | apply Below.drew | apply below_drewN | (refine Below.alloc ?_ (by (try simp) <;> omega) _) | (refine Below.setCell ?_ (by (try simp) <;> omega) _)))
  obtain ⟨a, cap, rfl, hl⟩ := hO.sl.lies
  rw [hN.out]
  replace hl := Lib.hid hl
  clear hF0 hb3 hb5 hb6 hF3 hF5 hO f0 f1 f2 f3
  have hz6 : w.heap.size ≤ w6.heap.size := hB6.size
  go_wp2
  go_loopw [8, 9] (fun v i wr => ∃ j : Nat, j ≤ N ∧ i = .int .i64 j ∧ Hid (wr.ownsRow w6.heap.size 38 2 v j (dsC (ds.take j))) ∧ Below w6.heap.size w6 wr) (fun _ i _ => N - (intOf i).toNat)
  case atStart => exact ⟨0, by omega, rfl, World.ownsRow_made w6 #[] 0 (Nat.le_refl _) (by omega) rfl, by (repeat (first | exact Below.refl _ _ | assumption | refine bchain (by assumption) ?_ | refine balloc ?_ _ | apply Below.drew | apply below_drewN | (refine Below.alloc ?_ (by (try simp) <;> omega) _) | (refine Below.setCell ?_ (by (try simp) <;> omega) _)))⟩
  case round =>
    obtain ⟨j, hj, rfl, hown, hb⟩ := hrel
    by_cases hlt : j < N
    · have hjL : j < L.length := by rw [hN.out]; exact hlt
      obtain ⟨b, off, rfl, hbl, hg⟩ := hl.out j hjL
      obtain ⟨E, hE, hVE⟩ := hel.out j hjL
      have hd2 := hdat.out j hjL E hE
      rw [hE] at hg
      have s0 := (hb.cell (p := ⟨b, off + j * 3, none⟩) hbl).trans hg.1
      have s1 := (hb.cell (p := ⟨b, off + j * 3 + 1, none⟩) hbl).trans hg.2.1
      have s2 := (hb.cell (p := ⟨b, off + j * 3 + 2, none⟩) hbl).trans hg.2.2
      have hbr : b < wr.heap.size := Nat.lt_of_lt_of_le hbl hb.size
      have hC := Lib.hid (fun W => hFd.out W E hVE)
      obtain ⟨g0, g1, g2, g3⟩ := id hF6
      obtain ⟨y0, y1, y2⟩ := id hg
      obtain ⟨_, z1, z2, z3⟩ := hF6.below hb
      have hjn : (j : Int) < (N : Int) := by omega
      obtain ⟨x, hx⟩ : ∃ x, (fdF k n e n0 E).1 = x := ⟨_, rfl⟩
      obtain ⟨y, hy⟩ : ∃ x, (fdF k n e n0 E).2 = x := ⟨_, rfl⟩
      have htk : ds.take (j + 1) = ds.take j ++ [(x, y)] := by rw [dsTake (by rw [hdsl.out]; exact hlt), hd2, ← hx, ← hy]
      rw [hx, hy] at hC
      have hge := hb.size
      obtain ⟨xs, hxs⟩ : ∃ xs, dsC (ds.take j) = xs := ⟨_, rfl⟩
      have hxs2 : Hid (dsC (ds.take (j + 1)) = xs ++ [.int .i64 x, .int .i64 y]) := by
        show _ = _
        rw [htk, dsC_snoc, hxs]
      rw [hxs] at hown
      clear hg hE hVE hd2 hx hy htk hxs
      go_wp2
      go_region_held3 (fun A => A.cell? ⟨b, off + j * 3, none⟩ = some (.int .i64 k) ∧ A.cell? ⟨b, off + j * 3 + 1, none⟩ = some (.int .i64 n0) ∧ A.cell? ⟨b, off + j * 3 + 2, none⟩ = some (.int .u32 E) ∧ A.cell? ⟨w.heap.size, 0, none⟩ = some (.int .i64 k) ∧ A.cell? ⟨w.heap.size, 1, none⟩ = some (.int .i64 n) ∧ A.cell? ⟨w.heap.size, 2, none⟩ = some (.int .u32 e))
        (exact ⟨old_cell hbl y0 (by (repeat (first | exact Below.refl _ _ | assumption | refine bchain (by assumption) ?_ | refine balloc ?_ _ | apply Below.drew | apply below_drewN | (refine Below.alloc ?_ (by (try simp) <;> omega) _) | (refine Below.setCell ?_ (by (try simp) <;> omega) _)))), old_cell hbl y1 (by (repeat (first | exact Below.refl _ _ | assumption | refine bchain (by assumption) ?_ | refine balloc ?_ _ | apply Below.drew | apply below_drewN | (refine Below.alloc ?_ (by (try simp) <;> omega) _) | (refine Below.setCell ?_ (by (try simp) <;> omega) _)))), old_cell hbl y2 (by (repeat (first | exact Below.refl _ _ | assumption | refine bchain (by assumption) ?_ | refine balloc ?_ _ | apply Below.drew | apply below_drewN | (refine Below.alloc ?_ (by (try simp) <;> omega) _) | (refine Below.setCell ?_ (by (try simp) <;> omega) _)))), old_cell g0 g1 (by (repeat (first | exact Below.refl _ _ | assumption | refine bchain (by assumption) ?_ | refine balloc ?_ _ | apply Below.drew | apply below_drewN | (refine Below.alloc ?_ (by (try simp) <;> omega) _) | (refine Below.setCell ?_ (by (try simp) <;> omega) _)))), old_cell g0 g2 (by (repeat (first | exact Below.refl _ _ | assumption | refine bchain (by assumption) ?_ | refine balloc ?_ _ | apply Below.drew | apply below_drewN | (refine Below.alloc ?_ (by (try simp) <;> omega) _) | (refine Below.setCell ?_ (by (try simp) <;> omega) _)))), old_cell g0 g3 (by (repeat (first | exact Below.refl _ _ | assumption | refine bchain (by assumption) ?_ | refine balloc ?_ _ | apply Below.drew | apply below_drewN | (refine Below.alloc ?_ (by (try simp) <;> omega) _) | (refine Below.setCell ?_ (by (try simp) <;> omega) _))))⟩)
        (first
          | (go_at_call 51; refine (hC.out _).mono ?_; rintro r7 w7 ⟨rfl, hb7⟩; have hx7 : Below wr.heap.size wr w7 := (by (repeat (first | exact Below.refl _ _ | assumption | refine bchain (by assumption) ?_ | refine balloc ?_ _ | apply Below.drew | apply below_drewN | (refine Below.alloc ?_ (by (try simp) <;> omega) _) | (refine Below.setCell ?_ (by (try simp) <;> omega) _)))); have hown7 := Lib.hid (row_below hown.out hx7); have hz7 := hx7.size)
          | (refine step_append_own rfl (.tmp 42) (.tmp 49) 47 rfl w6.heap.size 38 i0 (.agg #[.int .i64 0, .int .i64 0]) 2 16 Tryd.underlying47 hi.out hz0.out hz1.out hz2.out rfl (by decide) _ j xs (by simp [Act.eval]) (hown7.out.alloc _) ⟨w7.heap.size, 0, none⟩ 1 1 [.int .i64 x, .int .i64 y] (by simp [Act.eval]) rfl (fun q u hq => by match q, hq with
            | 0, hq => simp at hq; subst hq; rw [show (⟨w7.heap.size, 0, none⟩ : Addr).add 0 = ⟨w7.heap.size, 0, none⟩ from rfl, World.cell?_alloc_new]; rfl
            | 1, hq => simp at hq; subst hq; rw [show (⟨w7.heap.size, 0, none⟩ : Addr).add 1 = ⟨w7.heap.size, 1, none⟩ from rfl, World.cell?_alloc_new]; rfl
            | q + 2, hq => simp at hq) (fun u hu => by simp at hu; rcases hu with rfl | rfl <;> rfl) (by unfold maxLen; omega) (by omega) (by simp; omega) ?_; intro v' w8 hown' hgrow; have hb8 : Below w6.heap.size w6 w8 := (((hb.trans (hx7.mono hge)).alloc (by omega) _).grown hgrow (by simp; omega) (fun q hq => (hown7.out.lt q hq).1))))
      have hown8 : Hid (w8.ownsRow w6.heap.size 38 2 v' (j + 1) (dsC (ds.take (j + 1)))) := by
        show World.ownsRow _ _ _ _ _ _ _
        rw [hxs2.out]
        exact hown'
      clear hown' hgrow hown hown7 hb7 hx7 s0 s1 s2 y0 y1 y2 g0 g1 g2 g3 z1 z2 z3
      go_wp2
      go_roundw
      case rel => exact ⟨j + 1, by omega, by go_num, hown8, hb8⟩
      case measure => simp [intOf]; omega
    · obtain rfl : j = N := by omega
      have hdd := decide_eq_false (show ¬ ((j : Int) < (j : Int)) by omega)
      have hfin : Hid (wr.ownsRow w6.heap.size 38 2 u8 ds.length (dsC ds)) := by
        have := hown.out
        rw [List.take_of_length_le (by rw [hdsl.out]; exact Nat.le_refl _)] at this
        show World.ownsRow _ _ _ _ _ _ _
        rw [hdsl.out]
        exact this
      go_wp2
      go_ret2
      exact ⟨⟨_, rfl, dsl_of_row hfin.out⟩, hB6.trans (hb.mono hz6)⟩
end
end Go.Proofs.YtepbekhlpbnpkaaDoor
