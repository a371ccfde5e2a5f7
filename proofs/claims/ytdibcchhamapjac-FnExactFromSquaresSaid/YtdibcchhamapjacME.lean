/-
  A MATRIX OF THE MODEL'S OWN: rows that lie each in a block of its own; the matrix of zeros.
-/
import Derived.Test.YtdibcchhamapjacFMatO
import Derived.OwnWalk
import Derived.Lib.SmallJoins
namespace Go.Proofs.Ytdibcchhamapjac
open Go.RowKit
set_option maxRecDepth 100000

/-- rows i < k of n fractions each, in blocks of their own -/
def RB (b0 : Nat) (w : World) (n k : Nat) (R : Nat → Nat) (h : Nat → Nat → Int × Int) : Prop :=
  ∀ i, i < k → b0 ≤ R i ∧ (∀ j, j < i → R j < R i) ∧ ∃ cur, w.heap[R i]? = some (.cells cur 36 (0, 0)) ∧ ∀ j, j < n → cur[j * 2]? = some (.int .i64 (h i j).1) ∧ cur[j * 2 + 1]? = some (.int .i64 (h i j).2)
theorem RB.lt {b0 : Nat} {w : World} {n k : Nat} {R : Nat → Nat} {h : Nat → Nat → Int × Int} (H : RB b0 w n k R h) {i : Nat} (hi : i < k) : R i < w.heap.size := by
  obtain ⟨_, _, cur, e, _⟩ := H i hi
  exact (Array.getElem?_eq_some_iff.1 e).1
theorem RB.inj {b0 : Nat} {w : World} {n k : Nat} {R : Nat → Nat} {h : Nat → Nat → Int × Int} (H : RB b0 w n k R h) {i j : Nat} (hi : i < k) (hj : j < k) (e : R i = R j) : i = j := by
  rcases Nat.lt_trichotomy i j with c | c | c
  · have := (H j hj).2.1 i c; omega
  · exact c
  · have := (H i hi).2.1 j c; omega
theorem RB.same {b0 : Nat} {w w' : World} {n k : Nat} {R : Nat → Nat} {h : Nat → Nat → Int × Int} (H : RB b0 w n k R h) (hs : ∀ i, i < k → w'.heap[R i]? = w.heap[R i]?) : RB b0 w' n k R h := fun i hi => by
  obtain ⟨h1, h2, cur, e, h3⟩ := H i hi
  exact ⟨h1, h2, cur, (hs i hi).trans e, h3⟩
theorem RB.below {b0 : Nat} {w w' : World} {n k : Nat} {R : Nat → Nat} {h : Nat → Nat → Int × Int} (H : RB b0 w n k R h) (hb : Below w.heap.size w w') : RB b0 w' n k R h :=
  H.same fun _ hi => hb.block _ (H.lt hi)
theorem RB.cell {b0 : Nat} {w : World} {n k : Nat} {R : Nat → Nat} {h : Nat → Nat → Int × Int} (H : RB b0 w n k R h) {i j : Nat} (hi : i < k) (hj : j < n) :
    w.cell? ⟨R i, j * 2, none⟩ = some (.int .i64 (h i j).1) ∧ w.cell? ⟨R i, j * 2 + 1, none⟩ = some (.int .i64 (h i j).2) ∧ ∀ c, w.frozen? ⟨R i, c, none⟩ = false := by
  obtain ⟨_, _, cur, e, h3⟩ := H i hi
  exact ⟨by simp [World.cell?, e, (h3 j hj).1], by simp [World.cell?, e, (h3 j hj).2], fun c => by simp [World.frozen?, e]⟩
/-- one fraction is written -/
theorem RB.set {b0 : Nat} {w : World} {n k : Nat} {R : Nat → Nat} {h : Nat → Nat → Int × Int} (H : RB b0 w n k R h) {i j : Nat} (hi : i < k) (hj : j < n) (x y : Int) :
    RB b0 ((w.setCell ⟨R i, j * 2, none⟩ (.int .i64 x)).setCell ⟨R i, j * 2 + 1, none⟩ (.int .i64 y)) n k R (fun a b => if a = i ∧ b = j then (x, y) else h a b) := fun a ha => by
  obtain ⟨h1, h2, cur, e, h3⟩ := H a ha
  by_cases c : a = i
  · subst c
    have e1 := Go.Joins.block_setCell e (.int .i64 x) (i := j * 2)
    have e2 := Go.Joins.block_setCell e1 (.int .i64 y) (i := j * 2 + 1)
    refine ⟨h1, h2, _, e2, fun b hb => ?_⟩
    obtain ⟨p, q⟩ := h3 b hb
    obtain ⟨p0, q0⟩ := h3 j hj
    have lp := (Array.getElem?_eq_some_iff.1 p).1
    have lq := (Array.getElem?_eq_some_iff.1 q).1
    by_cases d : b = j
    · subst d
      dsimp only
      rw [if_pos ⟨rfl, rfl⟩]
      constructor
      · rw [Array.getElem?_setIfInBounds_ne (by omega), Array.getElem?_setIfInBounds_self, if_pos lp]
      · rw [Array.getElem?_setIfInBounds_self, Array.size_setIfInBounds, if_pos lq]
    · dsimp only
      rw [if_neg (fun t => d t.2)]
      constructor
      · rw [Array.getElem?_setIfInBounds_ne (by omega), Array.getElem?_setIfInBounds_ne (by omega)]; exact p
      · rw [Array.getElem?_setIfInBounds_ne (by omega), Array.getElem?_setIfInBounds_ne (by omega)]; exact q
  · refine ⟨h1, h2, cur, ?_, fun b hb => by dsimp only; rw [if_neg (fun t => c t.1)]; exact h3 b hb⟩
    have hne : R i ≠ R a := fun t => c (H.inj ha hi t.symm)
    rw [Below.heap_setCell _ _ _ _ (fun t => hne t.symm), Below.heap_setCell _ _ _ _ (fun t => hne t.symm)]
    exact e
/-- a matrix of the call's own: its rows lie in a further block -/
def MB (b0 : Nat) (w : World) (v : Value) (n : Nat) (h : Nat → Nat → Int × Int) : Prop :=
  ∃ (a : Option Addr) (cap : Nat) (R C : Nat → Nat), v = .slice a n cap ∧ n ≤ cap ∧ cap ≤ 9223372036854775807 ∧ RB b0 w n n R h ∧ (∀ i, i < n → n ≤ C i ∧ C i ≤ 9223372036854775807) ∧
    (0 < n → ∃ A, a = some ⟨A, 0, none⟩ ∧ b0 ≤ A ∧ A < w.heap.size ∧ (∀ i, i < n → A ≠ R i) ∧ ∀ i, i < n → w.cell? ⟨A, i, none⟩ = some (.slice (some ⟨R i, 0, none⟩) n (C i)))

/-- the rows as lists -/
def matL (n : Nat) (h : Nat → Nat → Int × Int) : List (List (Int × Int)) := (List.range n).map fun i => (List.range n).map fun j => h i j
theorem matL_length (n : Nat) (h : Nat → Nat → Int × Int) : (matL n h).length = n := by simp [matL]
theorem matL_row {n : Nat} (h : Nat → Nat → Int × Int) {i : Nat} (hi : i < n) : rAt (matL n h) i = (List.range n).map fun j => h i j := by simp [rAt, matL, hi]
theorem row_get {n : Nat} (f : Nat → Int × Int) {j : Nat} (hj : j < n) : gAt ((List.range n).map f) j = f j := by simp [gAt, hj]
theorem matL_rows (n : Nat) (h : Nat → Nat → Int × Int) : ∀ i, i < (matL n h).length → (rAt (matL n h) i).length = n := fun i hi => by
  rw [matL_length] at hi
  rw [matL_row h hi]; simp
theorem matL_congr {n : Nat} {g h : Nat → Nat → Int × Int} (e : ∀ i j, i < n → j < n → g i j = h i j) : matL n g = matL n h := by
  unfold matL
  apply List.map_congr_left
  intro i hi
  apply List.map_congr_left
  intro j hj
  exact e i j (by simpa using hi) (by simpa using hj)
theorem MB.slm {b0 : Nat} {w : World} {v : Value} {n : Nat} {h : Nat → Nat → Int × Int} (H : MB b0 w v n h) : SlM w v (matL n h) := by
  obtain ⟨a, cap, R, C, e, h1, h2, hR, hC, hA⟩ := H
  refine ⟨a, cap, by rw [matL_length]; exact e, by rw [matL_length]; exact h1, h2, fun hz => ?_⟩
  have hn : 0 < n := by
    rcases Nat.eq_zero_or_pos n with c | c
    · subst c; exact absurd rfl hz
    · exact c
  obtain ⟨A, e2, _, hAl, _, hc⟩ := hA hn
  refine ⟨A, 0, e2, hAl, fun i hi => ?_⟩
  rw [matL_length] at hi
  refine ⟨_, by rw [Nat.zero_add]; exact hc i hi, ?_⟩
  rw [matL_row h hi]
  refine ⟨_, C i, by simp, by simpa using (hC i hi).1, (hC i hi).2, fun _ => ⟨R i, 0, rfl, hR.lt hi, fun j hj => ?_⟩⟩
  have hj' : j < n := by simpa using hj
  rw [row_get _ hj']
  have := hR.cell hi hj'
  exact ⟨by rw [Nat.zero_add]; exact this.1, by rw [Nat.zero_add]; exact this.2.1⟩
theorem rowsIn_slm {w : World} {A B n cap : Nat} {g : Nat → Nat → Int × Int} (hn : n ≤ cap) (hm : cap ≤ 9223372036854775807) (hA : A < w.heap.size) (hB : B < w.heap.size) (hr : RowsIn w A B n) (hc : CF w B (n * n * 2) (gv n g)) (hn8 : n ≤ 8) :
    SlM w (.slice (some ⟨A, 0, none⟩) n cap) (matL n g) := by
  refine ⟨_, cap, by rw [matL_length], by rw [matL_length]; exact hn, hm, fun hz => ⟨A, 0, rfl, hA, fun i hi => ?_⟩⟩
  rw [matL_length] at hi
  refine ⟨_, by rw [Nat.zero_add]; exact hr i hi, ?_⟩
  rw [matL_row g hi]
  refine ⟨_, n, by simp, by simp, by omega, fun _ => ⟨B, i * n * 2, rfl, hB, fun j hj => ?_⟩⟩
  have hj' : j < n := by simpa using hj
  rw [row_get _ hj']
  obtain ⟨s1, _⟩ := sq8 hn8 hi
  obtain ⟨g1, g2⟩ := gv_at (i := i) g hj'
  have e1 : i * n * 2 + j * 2 = (i * n + j) * 2 := by omega
  exact ⟨by rw [hc _ (by omega), e1, g1], by rw [hc _ (by omega), e1, g2]⟩

/-- zeros, as cells -/
def zrow (j : Nat) : List Value := (List.range j).flatMap fun _ => [.int .i64 0, .int .i64 1]
theorem zrow_succ (j : Nat) : zrow (j + 1) = zrow j ++ [.int .i64 0, .int .i64 1] := by simp [zrow, List.range_succ, List.flatMap_append]
theorem zrow_get : ∀ n, n ≤ 8 → ∀ j, j < n → (zrow n)[j * 2]? = some (.int .i64 0) ∧ (zrow n)[j * 2 + 1]? = some (.int .i64 1) := by
  intro n hn
  have hc : n = 0 ∨ n = 1 ∨ n = 2 ∨ n = 3 ∨ n = 4 ∨ n = 5 ∨ n = 6 ∨ n = 7 ∨ n = 8 := by omega
  rcases hc with rfl | rfl | rfl | rfl | rfl | rfl | rfl | rfl | rfl <;> intro j hj
  · omega
  all_goals
    have hj2 : j = 0 ∨ j = 1 ∨ j = 2 ∨ j = 3 ∨ j = 4 ∨ j = 5 ∨ j = 6 ∨ j = 7 := by omega
    rcases hj2 with rfl | rfl | rfl | rfl | rfl | rfl | rfl | rfl <;> first | exact ⟨rfl, rfl⟩ | omega
theorem own_ne {w : World} {base size n : Nat} {e : TypeId} {v : Value} {xs : List Value} (h : w.ownsRow base e size v n xs) {g : Nat} {cur : Array Value} {t : TypeId} (hg : w.heap[g]? = some (.cells cur t (0, 0))) (ht : t ≠ e) : some g ≠ Value.ownBlock v := by
  rcases h.2 with ⟨rfl, _⟩ | ⟨g', cap, cur', rfl, _, hh, _⟩
  · intro c; cases c
  · intro c
    injection c with c
    subst c
    rw [hg] at hh
    injection hh with hh
    injection hh with _ c2
    exact ht c2
/-- the rows k that stand, as values -/
def rowVs (n k : Nat) (R C : Nat → Nat) : List Value := (List.range k).map fun i => .slice (some ⟨R i, 0, none⟩) n (C i)
theorem rowVs_snoc (n k : Nat) (R C : Nat → Nat) (g c : Nat) : rowVs n (k + 1) (fun i => if i < k then R i else g) (fun i => if i < k then C i else c) = rowVs n k R C ++ [.slice (some ⟨g, 0, none⟩) n c] := by
  unfold rowVs
  rw [List.range_succ, List.map_append]
  congr 1
  · apply List.map_congr_left
    intro i hi
    have : i < k := by simpa using hi
    simp [this]
  · simp
/-- the model's rows up to k -/
def EB (b0 : Nat) (w : World) (v : Value) (n k : Nat) : Prop :=
  ∃ R C : Nat → Nat, RB b0 w n k R (fun _ _ => (0, 1)) ∧ (∀ i, i < k → n ≤ C i ∧ C i ≤ 9223372036854775807) ∧ w.ownsRow b0 42 1 v k (rowVs n k R C)
theorem EB.done {b0 : Nat} {w : World} {v : Value} {n : Nat} (h : EB b0 w v n n) : MB b0 w v n (fun _ _ => (0, 1)) := by
  obtain ⟨R, C, hR, hC, hO⟩ := h
  have hm : maxLen ≤ 9223372036854775807 := by unfold maxLen; omega
  rcases hO.2 with ⟨rfl, rfl⟩ | ⟨g, cap, cur, rfl, hg, hh, hn, hc, hs, hx⟩
  · exact ⟨none, 0, R, C, rfl, Nat.le_refl _, by omega, hR, hC, fun c => absurd c (Nat.lt_irrefl _)⟩
  · refine ⟨some ⟨g, 0, none⟩, cap, R, C, rfl, hn, by omega, hR, hC, fun _ => ⟨g, rfl, hg, (Array.getElem?_eq_some_iff.1 hh).1, fun i hi e => ?_, fun i hi => ?_⟩⟩
    · obtain ⟨_, _, cur', e', _⟩ := hR i hi
      rw [← e, hh] at e'
      injection e' with e'
      injection e' with _ e2
      exact absurd e2 (by decide)
    · have h1 : (cur.toList.take (n * 1))[i]? = some (.slice (some ⟨R i, 0, none⟩) n (C i)) := by rw [hx]; simp [rowVs, hi]
      rw [List.getElem?_take_of_lt (by omega)] at h1
      simpa [World.cell?, hh] using h1
theorem EB_next {b0 : Nat} {w w2 w4 : World} {v v' : Value} {n k g c : Nat} {R C : Nat → Nat} (hR : RB b0 w n k R (fun _ _ => (0, 1))) (hC : ∀ i, i < k → n ≤ C i ∧ C i ≤ 9223372036854775807) (hown : w.ownsRow b0 42 1 v k (rowVs n k R C))
    (hn : n ≤ 8) (hb0 : b0 ≤ w.heap.size) (hb : Below w.heap.size w w2) (hr : w2.ownsRow w.heap.size 36 2 (.slice (some ⟨g, 0, none⟩) n c) n (zrow n))
    (O : Obj) (hg : (w2.alloc O).grownBy w4 v.ownBlock) (hO : w4.ownsRow b0 42 1 v' (k + 1) (rowVs n k R C ++ [.slice (some ⟨g, 0, none⟩) n c])) : EB b0 w4 v' n (k + 1) := by
  have hm : maxLen ≤ 9223372036854775807 := by unfold maxLen; omega
  have hall : ∀ x, x < w2.heap.size → (w2.alloc O).heap[x]? = w2.heap[x]? := fun x hx => Below.heap_alloc _ _ _ (by omega)
  rcases hr.2 with ⟨hv, _⟩ | ⟨g', cap, cur, hv, hge, hh, hnc, hcm, hs, hx⟩
  · cases hv
  · injection hv with e1 e2 e3
    injection e1 with e1
    injection e1 with e1
    subst e1 e3
    have hgl : g < w2.heap.size := (Array.getElem?_eq_some_iff.1 hh).1
    have hgs : w4.heap[g]? = w2.heap[g]? := (hg.block g (by simp; omega) (fun t => by have := (hown.lt g t.symm).2; omega)).trans (hall g hgl)
    have hRs : ∀ i, i < k → w4.heap[R i]? = w.heap[R i]? := fun i hi => by
      have hl := hR.lt hi
      obtain ⟨_, _, cur', e', _⟩ := hR i hi
      have hl2 : R i < w2.heap.size := Nat.lt_of_lt_of_le hl hb.size
      exact ((hg.block (R i) (by simp; omega) (own_ne hown e' (by decide))).trans (hall _ hl2)).trans (hb.block _ hl)
    refine ⟨fun i => if i < k then R i else g, fun i => if i < k then C i else c, fun i hi => ?_, fun i hi => ?_, by rw [rowVs_snoc]; exact hO⟩
    · by_cases d : i < k
      · obtain ⟨h1, h2, cur', e', h3⟩ := hR i d
        refine ⟨by dsimp only; rw [if_pos d]; exact h1, fun j hj => by dsimp only; rw [if_pos d, if_pos (by omega)]; exact h2 j hj, cur', by dsimp only; rw [if_pos d]; exact (hRs i d).trans e', h3⟩
      · refine ⟨by dsimp only; rw [if_neg d]; omega, fun j hj => by dsimp only; rw [if_neg d, if_pos (by omega)]; have := hR.lt (i := j) (by omega); omega, cur, by dsimp only; rw [if_neg d]; exact hgs.trans hh, fun j hj => ?_⟩
        obtain ⟨z0, z1⟩ := zrow_get n hn j hj
        rw [← hx] at z0 z1
        rw [List.getElem?_take_of_lt (by omega)] at z0 z1
        exact ⟨by simpa using z0, by simpa using z1⟩
    · by_cases d : i < k
      · dsimp only; rw [if_pos d]; exact hC i d
      · dsimp only; rw [if_neg d]; exact ⟨hnc, by omega⟩
section
variable (w : World)
set_option maxHeartbeats 2000000 in
theorem sempty_any (n : Nat) (hn : n ≤ 8) :
    Calls Try.prog 42 #[.int .i64 n] w fun r w' => (∃ v, r = .returned v ∧ MB w.heap.size w' v n (fun _ _ => (0, 1))) ∧ Below w.heap.size w w' := by
  obtain ⟨i0, hi, hz0, hz1, hz2⟩ := info_parts info_graph
  obtain ⟨i1, ki, kz0, kz1, kz2⟩ := info_parts info_row
  replace hi := Lib.hid hi
  replace hz0 := Lib.hid hz0
  replace hz1 := Lib.hid hz1
  replace hz2 := Lib.hid hz2
  replace ki := Lib.hid ki
  replace kz0 := Lib.hid kz0
  replace kz1 := Lib.hid kz1
  replace kz2 := Lib.hid kz2
  go_enter Try.func42, Try.ntmps42
  go_wp2
  go_loopw [3, 4] (fun v s wr => ∃ k : Nat, k ≤ n ∧ s = .int .i64 k ∧ Hid (EB w.heap.size wr v n k) ∧ Below w.heap.size w wr) (fun _ s _ => n - (intOf s).toNat)
  case atStart =>
    refine ⟨0, by omega, rfl, ?_, by (repeat (first | exact Below.refl _ _ | assumption | refine bchain (by assumption) ?_ | refine balloc ?_ _ | apply Below.drew | apply below_drewN | (refine Below.alloc ?_ (by (try simp) <;> omega) _) | (refine Below.setCell ?_ (by (try simp) <;> omega) _)))⟩
    exact ⟨fun _ => 0, fun _ => 0, fun i hi => absurd hi (by omega), fun i hi => absurd hi (by omega), World.ownsRow_made w #[] 0 (Nat.le_refl _) (by omega) rfl⟩
  case round =>
    obtain ⟨k, hk, rfl, hE, hb⟩ := hrel
    by_cases hlt : k < n
    · obtain ⟨wo, rfl⟩ : ∃ wo : World, wo = wr := ⟨_, rfl⟩
      go_wp2
      go_loopw [5, 6] (fun v s wr => ∃ j : Nat, j ≤ n ∧ s = .int .i64 j ∧ Hid (wr.ownsRow wo.heap.size 36 2 v j (zrow j)) ∧ Below wo.heap.size wo wr) (fun _ s _ => n - (intOf s).toNat)
      case atStart => exact ⟨0, by omega, rfl, World.ownsRow_made wo #[] 0 (Nat.le_refl _) (by omega) rfl, by (repeat (first | exact Below.refl _ _ | assumption | refine bchain (by assumption) ?_ | refine balloc ?_ _ | apply Below.drew | apply below_drewN | (refine Below.alloc ?_ (by (try simp) <;> omega) _) | (refine Below.setCell ?_ (by (try simp) <;> omega) _)))⟩
      case round =>
        obtain ⟨j, hj, rfl, hown, hb2⟩ := hrel
        by_cases hjn : j < n
        · have hnx := Lib.hid (zrow_succ j)
          have hge := hb2.size
          go_wp2_with fail
          refine (zero_any _).mono ?_
          rintro r3 w3 ⟨rfl, hb3⟩
          have hown3 := Lib.hid (hown.out.kept (row := none) (w' := w3) ⟨hb3.os, hb3.tape, hb3.output, hb3.size, fun k hk _ => hb3.block k hk⟩ (by cases (Value.ownBlock _) <;> simp))
          have hb23 : Below wo.heap.size wo w3 := hb2.trans (hb3.mono hge)
          have hge3 := hb23.size
          clear hown hb3 hb2
          go_wp2_with (at_builtin; refine wpList_append_own _ rfl _ _ 42 rfl wo.heap.size 36 i0 (.agg #[.int .i64 0, .int .i64 0]) 2 16 Try.underlying42 hi.out hz0.out hz1.out hz2.out rfl (by decide) _ _ _ rfl (hown3.out.alloc _) ⟨w3.heap.size, 0, none⟩ 1 1 [.int .i64 0, .int .i64 1] rfl rfl (fun q u hq => by match q, hq with
              | 0, hq => simp at hq; subst hq; rw [show (⟨w3.heap.size, 0, none⟩ : Addr).add 0 = ⟨w3.heap.size, 0, none⟩ from rfl, World.cell?_alloc_new]; rfl
              | 1, hq => simp at hq; subst hq; rw [show (⟨w3.heap.size, 0, none⟩ : Addr).add 1 = ⟨w3.heap.size, 1, none⟩ from rfl, World.cell?_alloc_new]; rfl
              | q + 2, hq => simp at hq) (fun u hu => by simp at hu; rcases hu with rfl | rfl <;> rfl) (by unfold maxLen; omega) (by omega) (by simp; omega) ?_; intro v' w4 hown' hgrow _)
          have hB4 : Below wo.heap.size wo w4 := (hb23.alloc hge3 _).grown hgrow (by simp; omega) (fun k hk => (hown3.out.lt k hk).1)
          have hown4 : Hid (w4.ownsRow wo.heap.size 36 2 v' (j + 1) (zrow (j + 1))) := by
            show World.ownsRow _ _ _ _ _ _ _
            rw [hnx.out]
            exact hown'
          clear hown' hgrow hown3
          go_wp2
          go_roundw
          case rel => exact ⟨j + 1, by omega, by go_num, hown4, hB4⟩
          case measure => simp [intOf]; omega
        · obtain rfl : j = n := by omega
          have hdd := decide_eq_false (show ¬ ((j : Int) < (j : Int)) by omega)
          obtain ⟨R, C, hR, hC, hO⟩ := hE.out
          obtain ⟨g, c, hv⟩ := Go.Joins.ownsRow_form hown.out (by omega)
          subst hv
          have hkept := Lib.hid (hO.kept (row := none) (w' := wr) ⟨hb2.os, hb2.tape, hb2.output, hb2.size, fun k hk _ => hb2.block k hk⟩ (by cases (Value.ownBlock _) <;> simp))
          replace hR := Lib.hid hR
          replace hC := Lib.hid hC
          replace hO := Lib.hid hO
          have hge := hb.size
          have hge2 := hb2.size
          clear hE
          go_wp2_with (at_builtin; refine wpList_append_own _ rfl _ _ 22 rfl w.heap.size 42 i1 (.slice none 0 0) 1 24 Try.underlying22 ki.out kz0.out kz1.out kz2.out rfl (by decide) _ _ _ rfl (hkept.out.alloc _) ⟨wr.heap.size, 0, none⟩ 1 1 [.slice (some ⟨g, 0, none⟩) j c] rfl rfl (fun q u hq => by cases q with | zero => simp at hq; subst hq; rw [show (⟨wr.heap.size, 0, none⟩ : Addr).add 0 = ⟨wr.heap.size, 0, none⟩ from rfl, World.cell?_alloc_new]; rfl | succ q => simp at hq) (fun u hu => by simp at hu; subst hu; rfl) (by unfold maxLen; omega) (by omega) (by simp; omega) ?_; intro v' w4 hown' hgrow _)
          have hE4 := Lib.hid (EB_next hR.out hC.out hO.out hn (by omega) hb2 hown.out _ hgrow hown')
          have hB4 : Below w.heap.size w w4 := ((hb.trans (hb2.mono hge)).alloc (by omega) _).grown hgrow (by simp; omega) (fun k hk => (hO.out.lt k hk).1)
          clear hown' hgrow hkept hR hC hO hown
          go_wp2
          go_roundw
          case rel => exact ⟨k + 1, by omega, by go_num, hE4.out, hB4⟩
          case measure => simp [intOf]; omega
    · obtain rfl : k = n := by omega
      have hdd := decide_eq_false (show ¬ ((k : Int) < (k : Int)) by omega)
      go_wp2
      go_ret
      exact ⟨⟨_, rfl, hE.out.done⟩, hb⟩
end
end Go.Proofs.Ytdibcchhamapjac
