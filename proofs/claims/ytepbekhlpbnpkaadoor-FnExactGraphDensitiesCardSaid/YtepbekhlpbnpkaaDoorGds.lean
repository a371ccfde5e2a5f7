/-
  GraphDensities: both sides.
-/
import Derived.Test.YtepbekhlpbnpkaaDoorGdM
import Derived.Test.YtepbekhlpbnpkaaDoorDl
import Derived.Test.YtepbekhlpbnpkaaDoorFdB
import Derived.Deep.RegionHeld3
namespace Go.Proofs.YtepbekhlpbnpkaaDoor
open Go.RowKit Go.Shelf
set_option maxRecDepth 100000
attribute [local go_sem] Oper.semAt_some
/-- the densities of a list of graphs -/
def dsG (n e n0 : Nat) (L : List (Int × Int)) : List (Int × Int) := L.map fun g => fdF 0 n e n0 g.2.toNat
theorem dsG_length (n e n0 : Nat) (L : List (Int × Int)) : (dsG n e n0 L).length = L.length := by simp [dsG]
theorem dsG_at {n e n0 E : Nat} {L : List (Int × Int)} {i : Nat} (hi : i < L.length) (h : gAt L i = ((n0 : Int), (E : Int))) : Fr.gAt (dsG n e n0 L) i = fdF 0 n e n0 E := by
  unfold Fr.gAt dsG
  unfold gAt at h
  rw [List.getElem?_eq_getElem hi] at h
  rw [List.getElem?_map, List.getElem?_eq_getElem hi]
  have h2 : L[i] = ((n0 : Int), (E : Int)) := h
  simp [h2]
theorem dgTake {ds : List (Int × Int)} {i : Nat} (hi : i < ds.length) : ds.take (i + 1) = ds.take i ++ [Fr.gAt ds i] := by
  unfold Fr.gAt
  rw [List.take_add_one, List.getElem?_eq_getElem hi]
  rfl
theorem lG_el {n : Nat} (hn : n ≤ 5) (i : Nat) (hi : i < (lG n (eMax n)).length) : ∃ E : Nat, gAt (lG n (eMax n)) i = ((n : Int), (E : Int)) ∧ VG n E := by
  have hm := List.getElem_mem hi
  unfold gAt
  rw [List.getElem?_eq_getElem hi]
  unfold lG at hm
  rw [List.mem_map] at hm
  obtain ⟨E, hE, e⟩ := hm
  rw [List.mem_filter, List.mem_range] at hE
  exact ⟨E, e.symm, by omega, by omega, by omega, by have := hE.1; simpa using this⟩
section
variable (w : World)
theorem igds_inv (n0 n e : Int) (he : e < 4294967296) (h0 : 0 ≤ e) (h : ¬ VG n e) :
    Calls Tryd.prog 36 #[.int .i64 n0, .agg #[.int .i64 n, .int .u32 e]] w fun r w' => r = .returned (.tuple #[.slice none 0 0, .int .i64 1]) ∧ Below w.heap.size w w' := by
  have hV := Lib.hid (fun W => valid_f W n e he h0 h)
  clear he h0 h
  go_enter Tryd.func36, Tryd.ntmps36
  go_wp2_with fail
  refine (hV.out _).mono ?_
  rintro r3 w3 ⟨rfl, hb3⟩
  go_wp2
  go_ret2
  exact ⟨rfl, by (repeat (first | exact Below.refl _ _ | assumption | refine bchain (by assumption) ?_ | refine balloc ?_ _ | apply Below.drew | apply below_drewN | (refine Below.alloc ?_ (by (try simp) <;> omega) _) | (refine Below.setCell ?_ (by (try simp) <;> omega) _)))⟩
theorem igds_rng (n0 n e : Int) (h : VG n e) (hlt : n < n0) :
    Calls Tryd.prog 36 #[.int .i64 n0, .agg #[.int .i64 n, .int .u32 e]] w fun r w' => r = .returned (.tuple #[.slice none 0 0, .int .i64 2]) ∧ Below w.heap.size w w' := by
  have hV := Lib.hid (fun W => valid_t W n e h)
  have hF0 := GxB.made w n e 27
  have hd := decide_eq_true hlt
  clear h
  go_enter Tryd.func36, Tryd.ntmps36
  go_wp2_with fail
  refine (hV.out _).mono ?_
  rintro r3 w3 ⟨rfl, hb3⟩
  obtain ⟨f0, f1, f2⟩ := hF0.below hb3
  go_wp2
  go_ret2
  exact ⟨rfl, by (repeat (first | exact Below.refl _ _ | assumption | refine bchain (by assumption) ?_ | refine balloc ?_ _ | apply Below.drew | apply below_drewN | (refine Below.alloc ?_ (by (try simp) <;> omega) _) | (refine Below.setCell ?_ (by (try simp) <;> omega) _)))⟩
theorem igds_low (n0 n e : Int) (h : VG n e) (hlt : n0 < 0) :
    Calls Tryd.prog 36 #[.int .i64 n0, .agg #[.int .i64 n, .int .u32 e]] w fun r w' => r = .returned (.tuple #[.slice none 0 0, .int .i64 2]) ∧ Below w.heap.size w w' := by
  have hV := Lib.hid (fun W => valid_t W n e h)
  have hA := Lib.hid (fun W => iag_rng W n0 (.inl hlt))
  have hF0 := GxB.made w n e 27
  have hd := decide_eq_false (show ¬ (n < n0) by have := h.1; omega)
  clear h
  go_enter Tryd.func36, Tryd.ntmps36
  go_wp2_with fail
  refine (hV.out _).mono ?_
  rintro r3 w3 ⟨rfl, hb3⟩
  obtain ⟨f0, f1, f2⟩ := hF0.below hb3
  go_wp2_with fail
  refine (hA.out _).mono ?_
  rintro r6 w6 ⟨⟨u, rfl, _⟩, hb6⟩
  go_wp2
  go_ret2
  exact ⟨rfl, by (repeat (first | exact Below.refl _ _ | assumption | refine bchain (by assumption) ?_ | refine balloc ?_ _ | apply Below.drew | apply below_drewN | (refine Below.alloc ?_ (by (try simp) <;> omega) _) | (refine Below.setCell ?_ (by (try simp) <;> omega) _)))⟩
set_option maxHeartbeats 4000000 in
theorem igds_ok (n e n0 : Nat) (h : VG n e) (hle : n0 ≤ n) (hT : TabZ w) (L : List (Int × Int)) (hL : L.length ≤ 1024) (hel : ∀ i, i < L.length → ∃ E : Nat, gAt L i = ((n0 : Int), (E : Int)) ∧ VG n0 E)
    (hA : ∀ W, Calls Tryd.prog 77 #[.int .i64 n0] W (RetG W L 0)) :
    Calls Tryd.prog 36 #[.int .i64 n0, .agg #[.int .i64 n, .int .u32 e]] w fun r w' => (∃ v, r = .returned (.tuple #[v, .int .i64 0]) ∧ Hid (OwnD w.heap.size w' v (dsG n e n0 L))) ∧ Below w.heap.size w w' := by
  have hV := Lib.hid (fun W => valid_t W n e h)
  have hF0 := GxB.made w n e 27
  have hd := decide_eq_false (show ¬ ((n : Int) < (n0 : Int)) by omega)
  have hFd := Lib.hid (fun W (hW : Below w.heap.size w W) (E : Nat) (hE : VG n0 E) => igdp_any W n0 E n e h hE hle (hT.below hW))
  replace hA := Lib.hid hA
  have hdsl := dsG_length n e n0 L
  have hdat := Lib.hid (fun i (hi : i < L.length) (E : Nat) (hE : gAt L i = ((n0 : Int), (E : Int))) => dsG_at (e := e) (n := n) hi hE)
  obtain ⟨ds, hds⟩ : ∃ ds, dsG n e n0 L = ds := ⟨_, rfl⟩
  rw [hds] at hdsl hdat ⊢
  obtain ⟨N, hN⟩ : ∃ N, L.length = N := ⟨_, rfl⟩
  rw [hN] at hL hdsl
  obtain ⟨i0, hi0, hz0, hs0, hb0⟩ := info_parts info_fr3
  have hmk : ∀ A : World, (Instr.makeSlice 47 (.int .i64 (N : Int)) (.int .i64 (N : Int))).run Tryd.prog A = .ok (.slice (some ⟨A.heap.size, 0, none⟩) N N) (A.alloc (.cells (madeCells #[.int .i64 0, .int .i64 0] (N * 2)) 38)) := fun A => by
    have hr := run_make (P := Tryd.prog) A 47 38 i0 (.agg #[.int .i64 0, .int .i64 0]) Tryd.underlying47 hi0 hz0 .i64 .i64 (N : Int) (N : Int) (by omega) (by omega) (by rw [hb0]; omega) (by omega)
    simp only [Int.toNat_natCast, hs0] at hr
    exact hr
  replace hdsl := Lib.hid hdsl
  replace hN := Lib.hid hN
  replace hel := Lib.hid hel
  clear h hT hds hi0 hz0 hs0 hb0
  go_enter Tryd.func36, Tryd.ntmps36
  go_wp2_with fail
  refine (hV.out _).mono ?_
  rintro r3 w3 ⟨rfl, hb3⟩
  have hF3 := hF0.below hb3
  obtain ⟨f0, f1, f2⟩ := id hF3
  go_wp2_with fail
  refine (hA.out _).mono ?_
  rintro r6 w6 ⟨⟨u, rfl, hO⟩, hb6⟩
  have hF6 := hF3.below hb6
  have hB6 : Below w.heap.size w w6 := by (repeat (first | exact Below.refl _ _ | assumption | refine bchain (by assumption) ?_ | refine balloc ?_ _ | apply Below.drew | apply below_drewN | (refine Below.alloc ?_ (by (try simp) <;> omega) _) | (refine Below.setCell ?_ (by (try simp) <;> omega) _)))
  obtain ⟨a, cap, rfl, hl⟩ := hO.sl.lies
  rw [hN.out]
  replace hl := Lib.hid hl
  clear hF0 hb3 hb6 hF3 hO f0 f1 f2
  have hmk6 := hmk w6
  clear hmk
  have hz6 : w.heap.size ≤ w6.heap.size := hB6.size
  obtain ⟨O, hO⟩ : ∃ O, O = Obj.cells (madeCells #[.int .i64 0, .int .i64 0] (N * 2)) 38 := ⟨_, rfl⟩
  rw [← hO] at hmk6
  have hh0 : Fr.HalfG (w6.alloc O) w6.heap.size 0 ds := by rw [hO]; exact Fr.madeG w6 N _ _ ds rfl hdsl.out
  have hfr0 : ∀ o, (w6.alloc O).frozen? ⟨w6.heap.size, o, none⟩ = false := fun o => by rw [hO]; simp
  replace hh0 := Lib.hid hh0
  replace hfr0 := Lib.hid hfr0
  replace hO := Lib.hid hO
  have hbA : Below w6.heap.size w6 (w6.alloc O) := balloc (Below.refl _ _) O
  go_wp2
  go_loopw [31] (fun i wr => ∃ j : Nat, j ≤ N ∧ i = .int .i64 j ∧ Hid (Fr.HalfG wr w6.heap.size j ds) ∧ Hid (∀ o, wr.frozen? ⟨w6.heap.size, o, none⟩ = false) ∧ w6.heap.size < wr.heap.size ∧ Below w6.heap.size w6 wr) (fun i _ => N - (intOf i).toNat)
  case atStart => exact ⟨0, by omega, rfl, hh0.out, hfr0.out, by simp, hbA⟩
  case round =>
    obtain ⟨j, hj, rfl, hH, hf, hz, hb⟩ := hrel
    by_cases hlt : j < N
    · have hjL : j < L.length := by rw [hN.out]; exact hlt
      obtain ⟨b, off, rfl, hbl, hg⟩ := hl.out j hjL
      obtain ⟨E, hE, hVE⟩ := hel.out j hjL
      have hd2 := hdat.out j hjL E hE
      rw [hE] at hg
      have s0 := (hb.cell (p := ⟨b, off + j * 2, none⟩) hbl).trans hg.1
      have s1 := (hb.cell (p := ⟨b, off + j * 2 + 1, none⟩) hbl).trans hg.2
      have hB : Below w.heap.size w wr := hB6.trans (hb.mono hz6)
      have hC := Lib.hid (fun W (hW : Below w.heap.size w W) => hFd.out W hW E hVE)
      have hFr := hF6.below hb
      obtain ⟨g0, g1, g2⟩ := id hFr
      have hjn : (j : Int) < (N : Int) := by omega
      obtain ⟨x, hx⟩ : ∃ x, (fdF 0 n e n0 E).1 = x := ⟨_, rfl⟩
      obtain ⟨y, hy⟩ : ∃ x, (fdF 0 n e n0 E).2 = x := ⟨_, rfl⟩
      have hd3 : Fr.gAt ds j = (x, y) := by rw [hd2, ← hx, ← hy]
      rw [hx, hy] at hC
      clear hg hE hVE hd2 hx hy
      go_wp2_with fail
      refine (hC.out _ (by (repeat (first | exact Below.refl _ _ | assumption | refine bchain (by assumption) ?_ | refine balloc ?_ _ | apply Below.drew | apply below_drewN | (refine Below.alloc ?_ (by (try simp) <;> omega) _) | (refine Below.setCell ?_ (by (try simp) <;> omega) _))))).mono ?_
      rintro r7 w7 ⟨rfl, hb7⟩
      have hbr7 : Below wr.heap.size wr w7 := by (repeat (first | exact Below.refl _ _ | assumption | refine bchain (by assumption) ?_ | refine balloc ?_ _ | apply Below.drew | apply below_drewN | (refine Below.alloc ?_ (by (try simp) <;> omega) _) | (refine Below.setCell ?_ (by (try simp) <;> omega) _)))
      have hH7 := hH.out.below hbr7 hz
      have hz7 : w6.heap.size < w7.heap.size := Nat.lt_of_lt_of_le hz hbr7.size
      have c0 := (hH7 j (by rw [hdsl.out]; exact hlt)).1
      have c1 := (hH7 j (by rw [hdsl.out]; exact hlt)).2
      rw [if_neg (by omega), Nat.zero_add] at c0 c1
      have fz : ∀ o, w7.frozen? ⟨w6.heap.size, o, none⟩ = false := fun o => (hbr7.frozen (p := ⟨w6.heap.size, o, none⟩) hz).trans (hf.out o)
      have e0 := fz (j * 2)
      have e1 := fz (j * 2 + 1)
      have hset := Lib.hid (hH7.set (by rw [hdsl.out]; exact hlt))
      rw [hd3] at hset
      have hf2 : Hid (∀ o, ((w7.setCell ⟨w6.heap.size, j * 2, none⟩ (.int .i64 x)).setCell ⟨w6.heap.size, j * 2 + 1, none⟩ (.int .i64 y)).frozen? ⟨w6.heap.size, o, none⟩ = false) := fun o => by rw [World.frozen?_setCell, World.frozen?_setCell]; exact fz o
      have hb8 : Below w6.heap.size w6 ((w7.setCell ⟨w6.heap.size, j * 2, none⟩ (.int .i64 x)).setCell ⟨w6.heap.size, j * 2 + 1, none⟩ (.int .i64 y)) := ((hb.trans (hbr7.mono hb.size)).setCell (p := ⟨w6.heap.size, j * 2, none⟩) (Nat.le_refl _) _).setCell (p := ⟨w6.heap.size, j * 2 + 1, none⟩) (Nat.le_refl _) _
      replace fz := Lib.hid fz
      clear hH hH7 hf hb7 hbr7 hd3 s0 s1
      go_wp2
      go_roundw
      case rel => exact ⟨j + 1, by omega, by go_num, hset.out, hf2, by (try simp) <;> omega, hb8⟩
      case measure => simp [intOf]; omega
    · obtain rfl : j = N := by omega
      have hdd := decide_eq_false (show ¬ ((j : Int) < (j : Int)) by omega)
      have hfin : Hid (OwnD w.heap.size wr (.slice (some ⟨w6.heap.size, 0, none⟩) j j) ds) := by
        refine .inr ⟨w6.heap.size, j, by rw [hdsl.out], by rw [hdsl.out]; exact Nat.le_refl _, by omega, hz6, hz, hf.out, fun i hi => ?_⟩
        have := hH.out i hi
        rwa [if_pos (by rw [hdsl.out] at hi; exact hi)] at this
      go_wp2
      go_ret2
      exact ⟨⟨_, rfl, hfin⟩, hB6.trans (hb.mono hz6)⟩
theorem sgds_inv (n0 n e : Int) (he : e < 4294967296) (h0 : 0 ≤ e) (h : ¬ VG n e) :
    Calls Tryd.prog 35 #[.int .i64 n0, .agg #[.int .i64 n, .int .u32 e]] w fun r w' => (∃ v, r = .returned (.tuple #[v, .int .i64 1]) ∧ Fr.SlG w' v []) ∧ Below w.heap.size w w' := by
  have hV := Lib.hid (fun W => ok_f W n e he h0 h)
  clear he h0 h
  go_enter Tryd.func35, Tryd.ntmps35
  go_wp2_with fail
  refine (hV.out _).mono ?_
  rintro r3 w3 ⟨rfl, hb3⟩
  go_wp2
  go_ret2
  exact ⟨⟨_, rfl, _, _, rfl, by simp, by simp, fun c => absurd rfl c⟩, by (repeat (first | exact Below.refl _ _ | assumption | refine bchain (by assumption) ?_ | refine balloc ?_ _ | apply Below.drew | apply below_drewN | (refine Below.alloc ?_ (by (try simp) <;> omega) _) | (refine Below.setCell ?_ (by (try simp) <;> omega) _)))⟩
theorem sgds_rng (n0 n e : Int) (h : VG n e) (hlt : n < n0 ∨ n0 < 0) :
    Calls Tryd.prog 35 #[.int .i64 n0, .agg #[.int .i64 n, .int .u32 e]] w fun r w' => (∃ v, r = .returned (.tuple #[v, .int .i64 2]) ∧ Fr.SlG w' v []) ∧ Below w.heap.size w w' := by
  have hV := Lib.hid (fun W => ok_t W n e h)
  have hI := Lib.hid (fun W => in_f W n0 0 n (by omega))
  have hF0 := GxB.made w n e 27
  clear h hlt
  go_enter Tryd.func35, Tryd.ntmps35
  go_wp2_with fail
  refine (hV.out _).mono ?_
  rintro r3 w3 ⟨rfl, hb3⟩
  obtain ⟨f0, f1, f2⟩ := hF0.below hb3
  go_wp2_with fail
  refine (hI.out _).mono ?_
  rintro r4 w4 ⟨rfl, rfl⟩
  go_wp2
  go_ret2
  exact ⟨⟨_, rfl, _, _, rfl, by simp, by simp, fun c => absurd rfl c⟩, by (repeat (first | exact Below.refl _ _ | assumption | refine bchain (by assumption) ?_ | refine balloc ?_ _ | apply Below.drew | apply below_drewN | (refine Below.alloc ?_ (by (try simp) <;> omega) _) | (refine Below.setCell ?_ (by (try simp) <;> omega) _)))⟩
set_option maxHeartbeats 4000000 in
theorem sgds_ok (n e n0 : Nat) (h : VG n e) (hle : n0 ≤ n) (L : List (Int × Int)) (hL : L.length ≤ 1024) (hel : ∀ i, i < L.length → ∃ E : Nat, gAt L i = ((n0 : Int), (E : Int)) ∧ VG n0 E)
    (hA : ∀ W, Calls Tryd.prog 76 #[.int .i64 n0] W fun r w' => (∃ u, r = .returned u ∧ OwnG W w' u L) ∧ Below W.heap.size W w') :
    Calls Tryd.prog 35 #[.int .i64 n0, .agg #[.int .i64 n, .int .u32 e]] w fun r w' => (∃ v, r = .returned (.tuple #[v, .int .i64 0]) ∧ Fr.SlG w' v (dsG n e n0 L)) ∧ Below w.heap.size w w' := by
  have hV := Lib.hid (fun W => ok_t W n e h)
  have hI := Lib.hid (fun W => in_t W n0 0 n (by omega) (by omega))
  have hF0 := GxB.made w n e 27
  have hFd := Lib.hid (fun W (E : Nat) (hE : VG n0 E) => (show Calls Tryd.prog 51 #[.agg #[.int .i64 0, .int .i64 n0, .int .u32 E], .agg #[.int .i64 0, .int .i64 n, .int .u32 e]] W fun r w' => r = .returned (.agg #[.int .i64 (fdF 0 n e n0 E).1, .int .i64 (fdF 0 n e n0 E).2]) ∧ Below W.heap.size W w' from sfd_any W 0 n e n0 E (vk_zero h) (vk_zero hE) hle))
  replace hA := Lib.hid hA
  have hdsl := dsG_length n e n0 L
  have hdat := Lib.hid (fun i (hi : i < L.length) (E : Nat) (hE : gAt L i = ((n0 : Int), (E : Int))) => dsG_at (e := e) (n := n) hi hE)
  obtain ⟨ds, hds⟩ : ∃ ds, dsG n e n0 L = ds := ⟨_, rfl⟩
  rw [hds] at hdsl hdat ⊢
  obtain ⟨N, hN⟩ : ∃ N, L.length = N := ⟨_, rfl⟩
  rw [hN] at hL hdsl
  obtain ⟨i0, hi, hz0, hz1, hz2⟩ := info_parts info_fr3
  replace hi := Lib.hid hi
  replace hz0 := Lib.hid hz0
  replace hz1 := Lib.hid hz1
  replace hz2 := Lib.hid hz2
  replace hdsl := Lib.hid hdsl
  replace hN := Lib.hid hN
  replace hel := Lib.hid hel
  clear h hds
  go_enter Tryd.func35, Tryd.ntmps35
  go_wp2_with fail
  refine (hV.out _).mono ?_
  rintro r3 w3 ⟨rfl, hb3⟩
  have hF3 := hF0.below hb3
  obtain ⟨f0, f1, f2⟩ := id hF3
  go_wp2_with fail
  refine (hI.out _).mono ?_
  rintro r4 w4 ⟨rfl, rfl⟩
  go_wp2_with fail
  refine (hA.out _).mono ?_
  rintro r6 w6 ⟨⟨u, rfl, hO⟩, hb6⟩
  have hF6 := hF3.below hb6
  have hB6 : Below w.heap.size w w6 := by (repeat (first | exact Below.refl _ _ | assumption | refine bchain (by assumption) ?_ | refine balloc ?_ _ | apply Below.drew | apply below_drewN | (refine Below.alloc ?_ (by (try simp) <;> omega) _) | (refine Below.setCell ?_ (by (try simp) <;> omega) _)))
  obtain ⟨a, cap, rfl, hl⟩ := hO.sl.lies
  rw [hN.out]
  replace hl := Lib.hid hl
  clear hF0 hb3 hb6 hF3 hO f0 f1 f2
  have hz6 : w.heap.size ≤ w6.heap.size := hB6.size
  go_wp2
  go_loopw [7, 8] (fun v i wr => ∃ j : Nat, j ≤ N ∧ i = .int .i64 j ∧ Hid (wr.ownsRow w6.heap.size 38 2 v j (dsC (ds.take j))) ∧ Below w6.heap.size w6 wr) (fun _ i _ => N - (intOf i).toNat)
  case atStart => exact ⟨0, by omega, rfl, World.ownsRow_made w6 #[] 0 (Nat.le_refl _) (by omega) rfl, by (repeat (first | exact Below.refl _ _ | assumption | refine bchain (by assumption) ?_ | refine balloc ?_ _ | apply Below.drew | apply below_drewN | (refine Below.alloc ?_ (by (try simp) <;> omega) _) | (refine Below.setCell ?_ (by (try simp) <;> omega) _)))⟩
  case round =>
    obtain ⟨j, hj, rfl, hown, hb⟩ := hrel
    by_cases hlt : j < N
    · have hjL : j < L.length := by rw [hN.out]; exact hlt
      obtain ⟨b, off, rfl, hbl, hg⟩ := hl.out j hjL
      obtain ⟨E, hE, hVE⟩ := hel.out j hjL
      have hd2 := hdat.out j hjL E hE
      rw [hE] at hg
      have s0 := (hb.cell (p := ⟨b, off + j * 2, none⟩) hbl).trans hg.1
      have s1 := (hb.cell (p := ⟨b, off + j * 2 + 1, none⟩) hbl).trans hg.2
      have hbr : b < wr.heap.size := Nat.lt_of_lt_of_le hbl hb.size
      have hC := Lib.hid (fun W => hFd.out W E hVE)
      obtain ⟨g0, g1, g2⟩ := id hF6
      obtain ⟨y0, y1⟩ := id hg
      obtain ⟨_, z1, z2⟩ := hF6.below hb
      have hjn : (j : Int) < (N : Int) := by omega
      obtain ⟨x, hx⟩ : ∃ x, (fdF 0 n e n0 E).1 = x := ⟨_, rfl⟩
      obtain ⟨y, hy⟩ : ∃ x, (fdF 0 n e n0 E).2 = x := ⟨_, rfl⟩
      have htk : ds.take (j + 1) = ds.take j ++ [(x, y)] := by rw [dgTake (by rw [hdsl.out]; exact hlt), hd2, ← hx, ← hy]
      rw [hx, hy] at hC
      have hge := hb.size
      obtain ⟨xs, hxs⟩ : ∃ xs, dsC (ds.take j) = xs := ⟨_, rfl⟩
      have hxs2 : Hid (dsC (ds.take (j + 1)) = xs ++ [.int .i64 x, .int .i64 y]) := by
        show _ = _
        rw [htk, dsC_snoc, hxs]
      rw [hxs] at hown
      clear hg hE hVE hd2 hx hy htk hxs
      go_wp2
      go_region_held3 (fun A => A.cell? ⟨b, off + j * 2, none⟩ = some (.int .i64 n0) ∧ A.cell? ⟨b, off + j * 2 + 1, none⟩ = some (.int .u32 E) ∧ A.cell? ⟨w.heap.size, 0, none⟩ = some (.int .i64 n) ∧ A.cell? ⟨w.heap.size, 1, none⟩ = some (.int .u32 e))
        (exact ⟨old_cell hbl y0 (by (repeat (first | exact Below.refl _ _ | assumption | refine bchain (by assumption) ?_ | refine balloc ?_ _ | apply Below.drew | apply below_drewN | (refine Below.alloc ?_ (by (try simp) <;> omega) _) | (refine Below.setCell ?_ (by (try simp) <;> omega) _)))), old_cell hbl y1 (by (repeat (first | exact Below.refl _ _ | assumption | refine bchain (by assumption) ?_ | refine balloc ?_ _ | apply Below.drew | apply below_drewN | (refine Below.alloc ?_ (by (try simp) <;> omega) _) | (refine Below.setCell ?_ (by (try simp) <;> omega) _)))), old_cell g0 g1 (by (repeat (first | exact Below.refl _ _ | assumption | refine bchain (by assumption) ?_ | refine balloc ?_ _ | apply Below.drew | apply below_drewN | (refine Below.alloc ?_ (by (try simp) <;> omega) _) | (refine Below.setCell ?_ (by (try simp) <;> omega) _)))), old_cell g0 g2 (by (repeat (first | exact Below.refl _ _ | assumption | refine bchain (by assumption) ?_ | refine balloc ?_ _ | apply Below.drew | apply below_drewN | (refine Below.alloc ?_ (by (try simp) <;> omega) _) | (refine Below.setCell ?_ (by (try simp) <;> omega) _))))⟩)
        (first
          | (go_at_call 51; refine (hC.out _).mono ?_; rintro r7 w7 ⟨rfl, hb7⟩; have hx7 : Below wr.heap.size wr w7 := (by (repeat (first | exact Below.refl _ _ | assumption | refine bchain (by assumption) ?_ | refine balloc ?_ _ | apply Below.drew | apply below_drewN | (refine Below.alloc ?_ (by (try simp) <;> omega) _) | (refine Below.setCell ?_ (by (try simp) <;> omega) _)))); have hown7 := Lib.hid (row_below hown.out hx7); have hz7 := hx7.size)
          | (refine step_append_own rfl (.tmp 28) (.tmp 37) 47 rfl w6.heap.size 38 i0 (.agg #[.int .i64 0, .int .i64 0]) 2 16 Tryd.underlying47 hi.out hz0.out hz1.out hz2.out rfl (by decide) _ j xs (by simp [Act.eval]) (hown7.out.alloc _) ⟨w7.heap.size, 0, none⟩ 1 1 [.int .i64 x, .int .i64 y] (by simp [Act.eval]) rfl (fun q u hq => by match q, hq with
            | 0, hq => simp at hq; subst hq; rw [show (⟨w7.heap.size, 0, none⟩ : Addr).add 0 = ⟨w7.heap.size, 0, none⟩ from rfl, World.cell?_alloc_new]; rfl
            | 1, hq => simp at hq; subst hq; rw [show (⟨w7.heap.size, 0, none⟩ : Addr).add 1 = ⟨w7.heap.size, 1, none⟩ from rfl, World.cell?_alloc_new]; rfl
            | q + 2, hq => simp at hq) (fun u hu => by simp at hu; rcases hu with rfl | rfl <;> rfl) (by unfold maxLen; omega) (by omega) (by simp; omega) ?_; intro v' w8 hown' hgrow; have hb8 : Below w6.heap.size w6 w8 := (((hb.trans (hx7.mono hge)).alloc (by omega) _).grown hgrow (by simp; omega) (fun q hq => (hown7.out.lt q hq).1))))
      have hown8 : Hid (w8.ownsRow w6.heap.size 38 2 v' (j + 1) (dsC (ds.take (j + 1)))) := by
        show World.ownsRow _ _ _ _ _ _ _
        rw [hxs2.out]
        exact hown'
      clear hown' hgrow hown hown7 hb7 hx7 s0 s1 y0 y1 g0 g1 g2 z1 z2
      go_wp2
      go_roundw
      case rel => exact ⟨j + 1, by omega, by go_num, hown8, hb8⟩
      case measure => simp [intOf]; omega
    · obtain rfl : j = N := by omega
      have hdd := decide_eq_false (show ¬ ((j : Int) < (j : Int)) by omega)
      have hfin : Hid (wr.ownsRow w6.heap.size 38 2 u7 ds.length (dsC ds)) := by
        have := hown.out
        rw [List.take_of_length_le (by rw [hdsl.out]; exact Nat.le_refl _)] at this
        show World.ownsRow _ _ _ _ _ _ _
        rw [hdsl.out]
        exact this
      go_wp2
      go_ret2
      exact ⟨⟨_, rfl, dsl_of_row hfin.out⟩, hB6.trans (hb.mono hz6)⟩
end
theorem gds_both (n0 n e : Int) (he : e < 4294967296) (h0 : 0 ≤ e) : ∃ (ds : List (Int × Int)) (c : Int), ds.length ≤ 1024 ∧
    (∀ W, Calls Tryd.prog 35 #[.int .i64 n0, .agg #[.int .i64 n, .int .u32 e]] W fun r w' => (∃ v, r = .returned (.tuple #[v, .int .i64 c]) ∧ Fr.SlG w' v ds) ∧ Below W.heap.size W w') ∧
    (∀ W, TabZ W → Calls Tryd.prog 36 #[.int .i64 n0, .agg #[.int .i64 n, .int .u32 e]] W fun r w' => (∃ v, r = .returned (.tuple #[v, .int .i64 c]) ∧ Hid (OwnD W.heap.size w' v ds)) ∧ Below W.heap.size W w') := by
  have nilD : ∀ (W w' : World) (r : Ending) (c : Int), r = .returned (.tuple #[.slice none 0 0, .int .i64 c]) ∧ Below W.heap.size W w' → (∃ v, r = .returned (.tuple #[v, .int .i64 c]) ∧ Hid (OwnD W.heap.size w' v [])) ∧ Below W.heap.size W w' := fun W w' r c h => ⟨⟨_, h.1, .inl ⟨rfl, rfl⟩⟩, h.2⟩
  by_cases hv : VG n e
  · by_cases h1 : n < n0
    · exact ⟨[], 2, by simp, fun W => sgds_rng W n0 n e hv (.inl h1), fun W _ => (igds_rng W n0 n e hv h1).mono fun r w' h => nilD W w' r 2 h⟩
    · by_cases h2 : n0 < 0
      · exact ⟨[], 2, by simp, fun W => sgds_rng W n0 n e hv (.inr h2), fun W _ => (igds_low W n0 n e hv h2).mono fun r w' h => nilD W w' r 2 h⟩
      · have hn5 := hv.2.1
        obtain ⟨N, rfl⟩ : ∃ x : Nat, n = x := ⟨n.toNat, by have := hv.1; omega⟩
        obtain ⟨E, rfl⟩ : ∃ x : Nat, e = x := ⟨e.toNat, by omega⟩
        obtain ⟨M, rfl⟩ : ∃ x : Nat, n0 = x := ⟨n0.toNat, by omega⟩
        have hl : (lG M (eMax M)).length ≤ 1024 := Nat.le_trans (lG_len M _) (eMax_le M)
        exact ⟨dsG N E M (lG M (eMax M)), 0, by rw [dsG_length]; exact hl, fun W => sgds_ok W N E M hv (by omega) _ hl (lG_el (by omega)) (fun W => sall_any W M (by omega)), fun W hT => igds_ok W N E M hv (by omega) hT _ hl (lG_el (by omega)) (fun W => iag_ok W M (by omega))⟩
  · exact ⟨[], 1, by simp, fun W => sgds_inv W n0 n e he h0 hv, fun W _ => (igds_inv W n0 n e he h0 hv).mono fun r w' h => nilD W w' r 1 h⟩
end Go.Proofs.YtepbekhlpbnpkaaDoor
