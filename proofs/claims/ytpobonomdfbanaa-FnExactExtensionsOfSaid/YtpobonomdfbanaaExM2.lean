/-
  KOrder, KLab, KLabd, KSLabd, KSLeast, KFlagOf, KPart, KDiff, in one text.
-/
import Derived.Test.YtpobonomdfbanaaSLeast
import Derived.Test.YtpobonomdfbanaaKVal
import Derived.Test.YtpobonomdfbanaaKTurn
import Derived.Laws.IdiomCopy
import Derived.Lib.BufferMore
import Derived.Test.YtpobonomdfbanaaLeast
import Derived.Test.YtpobonomdfbanaaKLeast
import Derived.Deep.LoopGhost
import Derived.Deep.RegionHeld3
import Derived.Deep.RegionLaw
import Derived.Test.YtpobonomdfbanaaDiff
/-
  THE MODEL'S ORDER OF A FLAG'S VERTICES: the labelled ones as they are, the others in an order of their own.
-/
namespace Go.Proofs.Ytpobonomdfbanaa
open Go.RowKit Go.Shelf
set_option maxRecDepth 100000

/-- the first k vertices, then those of y -/
def ordK (k : Nat) (y : List Nat) : List Nat := List.range k ++ y.map fun v => k + v
def rowK (k : Nat) (y : List Nat) (j : Nat) : List Value := ((List.range k).map fun i => .int .i64 ((i : Nat) : Int)) ++ (List.range j).map fun i => .int .i64 ((k : Int) + (y[i]?.getD 0 : Nat))
theorem rowK_succ (k : Nat) (y : List Nat) (j : Nat) : rowK k y (j + 1) = rowK k y j ++ [.int .i64 ((k : Int) + (y[j]?.getD 0 : Nat))] := by
  simp [rowK, List.range_succ, List.append_assoc]
theorem rowK_zero (k : Nat) (y : List Nat) : rowK k y 0 = (List.range k).map fun i => .int .i64 ((i : Nat) : Int) := by simp [rowK]
theorem rowK_end (k : Nat) (y : List Nat) : rowK k y y.length = (List.range (k + y.length)).map fun i => .int .i64 (lf (ordK k y) i) := by
  apply List.ext_getElem
  · simp [rowK]
  · intro i h1 h2
    simp [rowK] at h1
    rcases Nat.lt_or_ge i k with h | h
    · simp only [rowK, lf, ordK]
      rw [List.getElem_append_left (by simpa using h), List.getElem_map, List.getElem_map, List.getElem_range, List.getElem_range, List.getElem?_append_left (by simpa using h), List.getElem?_range h]
      rfl
    · simp only [rowK, lf, ordK]
      rw [List.getElem_append_right (by simpa using h), List.getElem_map, List.getElem_map, List.getElem_range, List.getElem_range, List.getElem?_append_right (by simpa using h)]
      simp only [List.length_map, List.length_range, List.getElem?_map]
      rw [List.getElem?_eq_getElem (by omega)]
      simp
section
variable (w : World)
set_option maxHeartbeats 1000000 in
theorem first_row (n : Nat) (hn : n ≤ 5) :
    Calls Try.prog 109 #[.int .i64 n] w fun r w' => (∃ v, r = .returned v ∧ Hid (w'.ownsRow w.heap.size 2 1 v n ((List.range n).map fun i => .int .i64 ((i : Nat) : Int)))) ∧ Below w.heap.size w w' := by
  obtain ⟨i0, hi, hz0, hz1, hz2⟩ := info_parts info_i64
  replace hi := Lib.hid hi
  replace hz0 := Lib.hid hz0
  replace hz1 := Lib.hid hz1
  replace hz2 := Lib.hid hz2
  go_enter Try.func109, Try.ntmps109
  go_wp2
  go_loopw [3, 4] (fun v i wr => ∃ j : Nat, j ≤ n ∧ i = .int .i64 j ∧ Hid (wr.ownsRow w.heap.size 2 1 v j ((List.range j).map fun i => .int .i64 ((i : Nat) : Int))) ∧ Below w.heap.size w wr) (fun _ i _ => n - (intOf i).toNat)
  case atStart => exact ⟨0, by omega, rfl, World.ownsRow_made w #[] 0 (Nat.le_refl _) (by omega) rfl, by (repeat (first | exact Below.refl _ _ | assumption | refine bchain (by assumption) ?_ | refine balloc ?_ _ | apply Below.drew | apply below_drewN | (refine Below.alloc ?_ (by (try simp) <;> omega) _) | (refine Below.setCell ?_ (by (try simp) <;> omega) _)))⟩
  case round =>
    obtain ⟨j, hj, rfl, hown, hb⟩ := hrel
    by_cases hlt : j < n
    · have hge := hb.size
      go_wp2_with (at_builtin; refine wpList_append_own _ rfl _ _ 82 rfl w.heap.size 2 i0 (.int .i64 0) 1 8 Try.underlying82 hi.out hz0.out hz1.out hz2.out rfl (by decide) _ _ _ rfl (hown.out.alloc _) ⟨wr.heap.size, 0, none⟩ 1 1 [.int .i64 j] rfl rfl (fun q u hq => by cases q with | zero => simp at hq; subst hq; rw [show (⟨wr.heap.size, 0, none⟩ : Addr).add 0 = ⟨wr.heap.size, 0, none⟩ from rfl, World.cell?_alloc_new]; rfl | succ q => simp at hq) (fun u hu => by simp at hu; subst hu; rfl) (by unfold maxLen; omega) (by omega) (by simp; omega) ?_; intro v' w1 hown' hgrow _)
      have hown2 : Hid (w1.ownsRow w.heap.size 2 1 v' (j + 1) ((List.range (j + 1)).map fun i => .int .i64 ((i : Nat) : Int))) := by
        show w1.ownsRow w.heap.size 2 1 v' (j + 1) _
        rw [List.range_succ, List.map_append]
        exact hown'
      have hb2 : Below w.heap.size w w1 := (hb.alloc hge _).grown hgrow (by simp; omega) (fun k hk => (hown.out.lt k hk).1)
      clear hown' hgrow hown
      go_wp2
      go_roundw
      case rel => exact ⟨j + 1, by omega, by go_num, hown2, hb2⟩
      case measure => simp [intOf]; omega
    · obtain rfl : j = n := by omega
      have hdd := decide_eq_false (show ¬ ((j : Int) < (j : Int)) by omega)
      go_wp2
      go_ret
      exact ⟨⟨_, rfl, hown⟩, hb⟩

set_option maxHeartbeats 2000000 in
theorem order_any (k m : Nat) (y : List Nat) (v : Value) (hS : See y v w) (hy : y.length = m) (hk : k ≤ 5) (hm : m ≤ 5) (hlt5 : ∀ i, i < m → y[i]?.getD 0 ≤ 5) :
    Calls Try.prog 111 #[.int .i64 k, v] w fun r w' => (∃ v, r = .returned v ∧ OwnI w w' v (k + m) (lf (ordK k y))) ∧ Below w.heap.size w w' := by
  obtain ⟨i0, hi, hz0, hz1, hz2⟩ := info_parts info_i64
  obtain ⟨a, cap, rfl, h1, h2, h3⟩ := hS
  rw [zl_length, hy]
  have hc : ∀ i, i < m → ∃ b off, a = some ⟨b, off, none⟩ ∧ b < w.heap.size ∧ w.cell? ⟨b, off + i, none⟩ = some (.int .i64 (y[i]?.getD 0 : Nat)) := fun i him => by
    obtain ⟨b, off, e, hb, hc⟩ := h3 (by intro c; rw [← List.length_eq_zero_iff, zl_length] at c; omega)
    exact ⟨b, off, e, hb, by rw [hc i (by rw [zl_length]; omega), zl_get]⟩
  have hrow := rowK_end k y
  rw [hy] at hrow
  replace hrow := Lib.hid hrow
  replace hc := Lib.hid hc
  replace hi := Lib.hid hi
  replace hz0 := Lib.hid hz0
  replace hz1 := Lib.hid hz1
  replace hz2 := Lib.hid hz2
  replace hlt5 := Lib.hid hlt5
  clear h1 h2 h3 hy
  go_enter Try.func111, Try.ntmps111
  go_wp2_with (go_at_call 109; refine (first_row _ k hk).mono ?_; rintro r1 w1 ⟨⟨v1, rfl, hown0⟩, hb1⟩)
  go_loopw [5, 6] (fun v i wr => ∃ j : Nat, j ≤ m ∧ i = .int .i64 j ∧ Hid (wr.ownsRow w.heap.size 2 1 v (k + j) (rowK k y j)) ∧ Below w.heap.size w wr) (fun _ i _ => m - (intOf i).toNat)
  case atStart => exact ⟨0, by omega, rfl, by rw [rowK_zero]; exact hown0, by (repeat (first | exact Below.refl _ _ | assumption | refine bchain (by assumption) ?_ | refine balloc ?_ _ | apply Below.drew | apply below_drewN | (refine Below.alloc ?_ (by (try simp) <;> omega) _) | (refine Below.setCell ?_ (by (try simp) <;> omega) _)))⟩
  case round =>
    obtain ⟨j, hj, rfl, hown, hb⟩ := hrel
    by_cases hlt : j < m
    · have hge := hb.size
      obtain ⟨b, off, rfl, hbl, hcell⟩ := hc.out j hlt
      have hcw := (hb.cell (p := ⟨b, off + j, none⟩) hbl).trans hcell
      have hyl := hlt5.out j hlt
      have hsc := Lib.hid (rowK_succ k y j)
      obtain ⟨z, hz⟩ : ∃ z : Nat, y[j]?.getD 0 = z := ⟨_, rfl⟩
      rw [hz] at hcw hyl hsc
      clear hz hcell
      go_wp2_with (at_builtin; refine wpList_append_own _ rfl _ _ 82 rfl w.heap.size 2 i0 (.int .i64 0) 1 8 Try.underlying82 hi.out hz0.out hz1.out hz2.out rfl (by decide) _ _ _ rfl (hown.out.alloc _) ⟨wr.heap.size, 0, none⟩ 1 1 [.int .i64 ((k : Int) + z)] rfl rfl (fun q u hq => by cases q with | zero => simp at hq; subst hq; rw [show (⟨wr.heap.size, 0, none⟩ : Addr).add 0 = ⟨wr.heap.size, 0, none⟩ from rfl, World.cell?_alloc_new]; rfl | succ q => simp at hq) (fun u hu => by simp at hu; subst hu; rfl) (by unfold maxLen; omega) (by omega) (by simp; omega) ?_; intro v' w2 hown' hgrow _)
      have hown2 : Hid (w2.ownsRow w.heap.size 2 1 v' (k + (j + 1)) (rowK k y (j + 1))) := by
        show w2.ownsRow w.heap.size 2 1 v' (k + (j + 1)) _
        rw [hsc.out]
        exact hown'
      have hb2 : Below w.heap.size w w2 := (hb.alloc hge _).grown hgrow (by simp; omega) (fun k hk => (hown.out.lt k hk).1)
      clear hown' hgrow hown
      go_wp2
      go_roundw
      case rel => exact ⟨j + 1, by omega, by go_num, hown2, hb2⟩
      case measure => simp [intOf]; omega
    · obtain rfl : j = m := by omega
      have hdd := decide_eq_false (show ¬ ((j : Int) < (j : Int)) by omega)
      go_wp2
      go_ret
      refine ⟨⟨_, rfl, own_of_row (by rw [← hrow.out]; exact hown.out)⟩, hb⟩
end
end Go.Proofs.Ytpobonomdfbanaa
/-
  LABELS OF A GRAPH: the array that keeps them, a clone of a list, and the order of the vertices that begins with them: the program's flag with some labels.
-/
namespace Go.Proofs.Ytpobonomdfbanaa
open Go.RowKit Go.Shelf
set_option maxRecDepth 100000

theorem add_none (b off q : Nat) : (⟨b, off, none⟩ : Addr).add q = ⟨b, off + q, none⟩ := by
  unfold Addr.add
  split
  · next h => subst h; rfl
  · rfl
/-- a list, as cells -/
def rowN (x : List Nat) : List Value := x.map fun v => .int .i64 ((v : Nat) : Int)
theorem rowN_length (x : List Nat) : (rowN x).length = x.length := by simp [rowN]
theorem rowN_snoc (x : List Nat) (v : Nat) : rowN (x ++ [v]) = rowN x ++ [.int .i64 ((v : Nat) : Int)] := by simp [rowN]
theorem rowN_lf (x : List Nat) : rowN x = (List.range x.length).map fun i => .int .i64 (lf x i) := by
  apply List.ext_getElem
  · simp [rowN]
  · intro i h1 h2
    simp [rowN] at h1
    simp [rowN, lf, h1]
theorem rowN_get {x : List Nat} {i : Nat} {u : Value} (h : (rowN x)[i]? = some u) : i < x.length ∧ u = .int .i64 ((x[i]?.getD 0 : Nat) : Int) := by
  unfold rowN at h
  rw [List.getElem?_map] at h
  cases hx : x[i]? with
  | none => rw [hx] at h; cases h
  | some v =>
    rw [hx] at h
    injection h with h
    obtain ⟨h1, _⟩ := List.getElem?_eq_some_iff.1 hx
    exact ⟨h1, by rw [← h]; simp⟩
/-- the vertices before j that are not in x -/
def rest (x : List Nat) (j : Nat) : List Nat := (List.range j).filter fun v => !x.contains v
theorem rest_t {x : List Nat} {j : Nat} (h : x.contains j = true) : rest x (j + 1) = rest x j := by
  unfold rest; rw [List.range_succ, List.filter_append]; simp only [List.filter_cons, List.filter_nil, h]; simp
theorem rest_f {x : List Nat} {j : Nat} (h : x.contains j = false) : rest x (j + 1) = rest x j ++ [j] := by
  unfold rest; rw [List.range_succ, List.filter_append]; simp only [List.filter_cons, List.filter_nil, h]; simp
theorem rest_le (x : List Nat) (j : Nat) : (rest x j).length ≤ j := by
  have := List.length_filter_le (fun v => !x.contains v) (List.range j)
  rw [List.length_range] at this
  exact this
/-- x, then the vertices that are not in x -/
def ordF (n : Nat) (x : List Nat) : List Nat := x ++ rest x n
theorem ordF_ok0 : ∀ n, n ≤ 5 → okList n n (ordF n []) = true := by decide +kernel
theorem ordF_ok1 : ∀ n, n ≤ 5 → ∀ a, a < 5 → okList n 1 [a] = true → okList n n (ordF n [a]) = true := by decide +kernel
theorem ordF_ok2 : ∀ n, n ≤ 5 → ∀ a, a < 5 → ∀ b, b < 5 → okList n 2 [a, b] = true → okList n n (ordF n [a, b]) = true := by decide +kernel
theorem ordF_ok3 : ∀ n, n ≤ 5 → ∀ a, a < 5 → ∀ b, b < 5 → ∀ c, c < 5 → okList n 3 [a, b, c] = true → okList n n (ordF n [a, b, c]) = true := by decide +kernel
theorem ordF_ok {n k : Nat} {x : List Nat} (hn : n ≤ 5) (hk : k ≤ 3) (h : okList n k x = true) : okList n n (ordF n x) = true := by
  have hl := ok_length h
  have hlt := fun i (hi : i < k) => ok_lt h hi
  match x, hl with
  | [], hl => exact ordF_ok0 n hn
  | [a], hl =>
    simp at hl; subst hl
    have h0 := hlt 0 (by omega)
    simp at h0
    exact ordF_ok1 n hn a (by omega) h
  | [a, b], hl =>
    simp at hl; subst hl
    have h0 := hlt 0 (by omega)
    have h1 := hlt 1 (by omega)
    simp at h0 h1
    exact ordF_ok2 n hn a (by omega) b (by omega) h
  | [a, b, c], hl =>
    simp at hl; subst hl
    have h0 := hlt 0 (by omega)
    have h1 := hlt 1 (by omega)
    have h2 := hlt 2 (by omega)
    simp at h0 h1 h2
    exact ordF_ok3 n hn a (by omega) b (by omega) c (by omega) h
  | _ :: _ :: _ :: _ :: _, hl => simp at hl; omega
/-- the array of at most three labels -/
def arr (x : List Nat) : Value := .agg #[.int .i64 ((x[0]?.getD 0 : Nat) : Int), .int .i64 ((x[1]?.getD 0 : Nat) : Int), .int .i64 ((x[2]?.getD 0 : Nat) : Int)]

/-- three numbers, stored over others -/
theorem three {w W : World} {B : Nat} {u0 u1 u2 : Value} (hB : w.heap.size ≤ B) (hb : Below w.heap.size w W) (h0 : W.cell? ⟨B, 0, none⟩ = some u0) (h1 : W.cell? ⟨B, 1, none⟩ = some u1) (h2 : W.cell? ⟨B, 2, none⟩ = some u2) (x y z : Value) :
    (((W.setCell ⟨B, 0, none⟩ x).setCell ⟨B, 1, none⟩ y).setCell ⟨B, 2, none⟩ z).cell? ⟨B, 0, none⟩ = some x ∧ (((W.setCell ⟨B, 0, none⟩ x).setCell ⟨B, 1, none⟩ y).setCell ⟨B, 2, none⟩ z).cell? ⟨B, 1, none⟩ = some y ∧
      (((W.setCell ⟨B, 0, none⟩ x).setCell ⟨B, 1, none⟩ y).setCell ⟨B, 2, none⟩ z).cell? ⟨B, 2, none⟩ = some z ∧ Below w.heap.size w (((W.setCell ⟨B, 0, none⟩ x).setCell ⟨B, 1, none⟩ y).setCell ⟨B, 2, none⟩ z) :=
  ⟨(World.cell?_setCell_other _ _ _ _ (by simp)).trans ((World.cell?_setCell_other _ _ _ _ (by simp)).trans (World.cell?_setCell_same _ _ _ h0)),
    (World.cell?_setCell_other _ _ _ _ (by simp)).trans (World.cell?_setCell_same _ _ _ ((World.cell?_setCell_other _ _ _ _ (by simp)).trans h1)),
    World.cell?_setCell_same _ _ _ ((World.cell?_setCell_other _ _ _ _ (by simp)).trans ((World.cell?_setCell_other _ _ _ _ (by simp)).trans h2)),
    ((hb.setCell (p := ⟨B, 0, none⟩) hB _).setCell (p := ⟨B, 1, none⟩) hB _).setCell (p := ⟨B, 2, none⟩) hB _⟩
section
variable (w : World)
end
end Go.Proofs.Ytpobonomdfbanaa
namespace Go.Proofs.Ytpobonomdfbanaa
open Go.RowKit Go.Shelf
section
variable (w : World)
theorem ordF_end (n : Nat) (x : List Nat) : x ++ rest x n = ordF n x := rfl
theorem row_see {w0 w : World} {v : Value} {l : Nat} {x : List Nat} (h : w.ownsRow w0.heap.size 2 1 v l (rowN x)) (hl : x.length = l) : See x v w := by
  have h' : w.ownsRow w0.heap.size 2 1 v l ((List.range l).map fun i => .int .i64 (lf x i)) := by rw [← hl, ← rowN_lf, hl]; exact h
  exact (own_of_row h').see hl
end
end Go.Proofs.Ytpobonomdfbanaa
namespace Go.Proofs.Ytpobonomdfbanaa
open Go.RowKit Go.Shelf
/-- a list that is not nil -/
def SlS (w : World) (v : Value) (zs : List Int) : Prop := SlI w v zs ∧ ∃ ad cap, v = .slice (some ad) zs.length cap
theorem SlS.below {w w' : World} {v : Value} {zs : List Int} (h : SlS w v zs) (hb : Below w.heap.size w w') : SlS w' v zs := ⟨h.1.below hb, h.2⟩
section
variable (w : World)
theorem samong_any (v : Value) (x : List Nat) (u : Nat) (h : See x v w) (hl : x.length ≤ 1048576) :
    Calls Try.prog 143 #[v, .int .i64 u] w fun e w' => e = .returned (.bool (x.contains u)) ∧ w = w' := by
  obtain ⟨a, cap, rfl, h1, h2, h3⟩ := h
  rw [zl_length]
  cases x with
  | nil => exact among_zero w a cap u
  | cons y ys =>
    obtain ⟨b, off, rfl, hb, hc⟩ := h3 (by simp [zl])
    exact among_some w b off cap u (y :: ys) _ rfl _ rfl hl (fun i hi => by rw [hc i (by rw [zl_length]; exact hi), zl_get])

end
end Go.Proofs.Ytpobonomdfbanaa
namespace Go.Proofs.Ytpobonomdfbanaa
open Go.RowKit Go.Shelf
/-- all old blocks behind a call that only makes new ones: as rules for 'simp' -/
theorem keepAll {W W1 : World} (hb : Below W.heap.size W W1) (b o : Nat) (h : b < W.heap.size) : W1.cell? ⟨b, o, none⟩ = W.cell? ⟨b, o, none⟩ := (bkeep hb b h).1 o
theorem keepFz {W W1 : World} (hb : Below W.heap.size W W1) (b o : Nat) (h : b < W.heap.size) : W1.frozen? ⟨b, o, none⟩ = W.frozen? ⟨b, o, none⟩ := bkeepz hb b h o
theorem keepLt {W W1 : World} (hb : Below W.heap.size W W1) (b : Nat) (h : b < W.heap.size) : b < W1.heap.size := (bkeep hb b h).2
theorem turns_map : ∀ n, n ≤ 5 → ∀ k, k ≤ 3 → k ≤ n → turns n k = (lists (n - k) (n - k)).map (ordK k) := by decide +kernel
theorem PK.put {W : World} {G : Nat} {k n acc : Int} (h : PK W G k n acc) (x : Int) : PK ((W.setCell ⟨G + 2, 1, none⟩ (.int .i64 n)).setCell ⟨G + 2, 2, none⟩ (.int .u32 x)) G k n x where
  r := (h.r.other _ (by show G + 2 ≠ G + 1; omega)).other _ (by show G + 2 ≠ G + 1; omega)
  p := ⟨by have := h.p.lt; simpa using this, (World.cell?_setCell_other _ _ _ _ (by simp)).trans ((World.cell?_setCell_other _ _ _ _ (by simp)).trans h.p.c0), (World.cell?_setCell_other _ _ _ _ (by simp)).trans (World.cell?_setCell_same _ _ _ h.p.c1),
    World.cell?_setCell_same _ _ _ ((World.cell?_setCell_other _ _ _ _ (by simp)).trans h.p.c2)⟩
  fr := fun i => by rw [World.frozen?_setCell, World.frozen?_setCell]; exact h.fr i
  fp := fun i => by rw [World.frozen?_setCell, World.frozen?_setCell]; exact h.fp i

set_option maxHeartbeats 4000000 in
theorem sleastK_any (w : World) (k n e : Nat) (h : VK k n e) :
    Calls Try.prog 54 #[.agg #[.int .i64 k, .int .i64 n, .int .u32 e]] w fun r w' => r = .returned (.agg #[.int .i64 k, .int .i64 n, .int .u32 (leastK n k e : Nat)]) ∧ Below w.heap.size w w' := by
  obtain ⟨he, hn5, hk3, hkn⟩ := h.nums
  obtain ⟨m, hm⟩ : ∃ m, n - k = m := ⟨_, rfl⟩
  have hsub : ((n : Int) - (k : Int)) = (m : Int) := by omega
  go_enter Try.func54, Try.ntmps54
  go_wp2_with fail
  refine (first_any _ m (by omega)).mono ?_
  rintro r1 w1 ⟨⟨v, rfl, hO⟩, hb1⟩
  have hP := PK.begin w k n e k n e 34
  have s1 : ∀ (W : World) (o : Obj), (W.alloc o).heap.size = W.heap.size + 1 := fun W o => by simp
  have hF0 := ((FC.made w k n e 34).below ((Below.refl _ _).alloc (Nat.le_refl _) (.cells #[.int .i64 0, .int .i64 0, .int .u32 0] 34))).below ((Below.refl _ _).alloc (Nat.le_refl _) (.cells #[.int .i64 (k : Int), .int .i64 (n : Int), .int .u32 (e : Int)] 34))
  have hB0 : Below w.heap.size w (((w.alloc (.cells #[.int .i64 (k : Int), .int .i64 (n : Int), .int .u32 (e : Int)] 34)).alloc (.cells #[.int .i64 0, .int .i64 0, .int .u32 0] 34)).alloc (.cells #[.int .i64 (k : Int), .int .i64 (n : Int), .int .u32 (e : Int)] 34)) := by (repeat (first | exact Below.refl _ _ | assumption | refine bchain (by assumption) ?_ | refine balloc ?_ _ | apply Below.drew | apply below_drewN | (refine Below.alloc ?_ (by (try simp) <;> omega) _) | (refine Below.setCell ?_ (by (try simp) <;> omega) _)))
  obtain ⟨G, hG⟩ : ∃ G, w.heap.size = G := ⟨_, rfl⟩
  rw [hG] at hP hB0 hF0
  obtain ⟨w0, hw0⟩ : ∃ w0, w0 = (((w.alloc (.cells #[.int .i64 (k : Int), .int .i64 (n : Int), .int .u32 (e : Int)] 34)).alloc (.cells #[.int .i64 0, .int .i64 0, .int .u32 0] 34)).alloc (.cells #[.int .i64 (k : Int), .int .i64 (n : Int), .int .u32 (e : Int)] 34)) := ⟨_, rfl⟩
  rw [← hw0] at hP hO hb1 hB0 hF0
  have hGz : G + 2 < w0.heap.size := hP.p.lt
  have hP1 := Lib.hid (hP.under hb1 hGz)
  have hF1 := Lib.hid (hF0.below hb1)
  have hB1 := Lib.hid (hB0.trans (hb1.mono (by omega)))
  replace hO := Lib.hid (hO.congr (fun i hi => lf_range m i hi))
  have hlm : (lists m m).length = (lists m m).length := rfl
  have hend0 : minE e ((lists m m).map (ordK k)) = leastK n k e := by unfold leastK; rw [turns_map n hn5 k hk3 hkn, hm]
  have hokm : ∀ y ∈ lists m m, okList n n (ordK k y) = true := fun y hy => turns_ok hn5 hk3 hkn (by rw [turns_map n hn5 k hk3 hkn, hm]; exact List.mem_map_of_mem hy)
  rw [hG]
  clear hw0 hP hb1 hB0 hF0 s1 hlm
  replace hG := Lib.hid hG
  replace hend0 := Lib.hid hend0
  replace hokm := Lib.hid hokm
  have hm5 : m ≤ 5 := by omega
  replace hm := Lib.hid hm
  replace h := Lib.hid h
  obtain ⟨T, hT⟩ : ∃ T : List (List Nat) → World → Prop, T = fun pre W => PK W G k n (minE e (pre.map (ordK k)) : Nat) ∧ FC W G k n e ∧ Below G w W := ⟨_, rfl⟩
  go_wp2_with fail
  go_loopg [5] ((lists m m).length) (fun c s wr => SlHead w0 v m m T c s wr)
  case atStart =>
    have hf := lists_first m hm5 m (Nat.le_refl _)
    refine .inl ⟨0, _, (List.getElem?_eq_some_iff.1 hf).1, by omega, rfl, hf, hO.out, ?_⟩
    rw [hT]
    exact ⟨hP1.out, hF1.out, hB1.out⟩
  case round =>
    rcases hrel with ⟨j, x, hj, hc, rfl, hx, hOx, hTx⟩ | ⟨hc, rfl, hTx⟩
    · have hTx' := hTx
      rw [hT] at hTx'
      obtain ⟨hPx, hFx, hBx⟩ := hTx'
      have hokx := lists_ok hm5 hm5 (x := x) (List.mem_of_getElem? hx)
      have hok := hokm.out x (List.mem_of_getElem? hx)
      have hst := lists_step hm5 (Nat.le_refl _) hj hx
      have hxm := ok_length hokx
      have hOr := Lib.hid (fun W (hW : Below wr.heap.size wr W) => order_any W k m x v ((hOx.below hW).see hxm) hxm (by omega) hm5 (fun i hi => by have := ok_lt hokx hi; omega))
      have hOn := Lib.hid (fun W u (hs : See (ordK k x) u W) => sonL_any W u (ordK k x) n n e hs hn5 (by omega) hok)
      have hol : (ordK k x).length = k + m := by simp [ordK, hxm]
      have hle := minE_le e (((lists m m).take j).map (ordK k))
      have hyl := onL_lt e (ordK k x) (by rw [ok_length hok]; exact hn5)
      have hnx : minE e (((lists m m).take (j + 1)).map (ordK k)) = min (minE e (((lists m m).take j).map (ordK k))) (onL e (ordK k x)) := by rw [take_snoc' hx, List.map_append, List.map_cons, List.map_nil, minE_snoc]
      obtain ⟨y, hy⟩ : ∃ y, onL e (ordK k x) = y := ⟨_, rfl⟩
      obtain ⟨z, hz⟩ : ∃ z, minE e (((lists m m).take j).map (ordK k)) = z := ⟨_, rfl⟩
      rw [hy] at hOn hnx hyl
      rw [hz] at hPx hnx hle
      clear hy hz hTx
      obtain ⟨f0, f1, f2, f3⟩ := id hFx
      obtain ⟨p0, p1, p2, p3⟩ := hPx.p
      have pf1 := hPx.fp 1
      have pf2 := hPx.fp 2
      replace hx := Lib.hid hx
      replace hst := Lib.hid hst
      replace hnx := Lib.hid hnx
      replace hPx := Lib.hid hPx
      replace hFx := Lib.hid hFx
      replace hOx := Lib.hid hOx
      replace hc := Lib.hid hc
      replace hok := Lib.hid hok
      replace hokx := Lib.hid hokx
      replace hol := Lib.hid hol
      replace hxm := Lib.hid hxm
      replace hB1 : Below G w w1 := hB1.out
      go_wp2_with fail
      go_cut [6] from 15 to 38 (fun s6 wx => ∃ A : Nat, s6 = .pointer (some ⟨A, 0, none⟩) ∧ wr.heap.size ≤ A ∧ A < wx.heap.size ∧ wx.cell? ⟨A, 0, none⟩ = some (.int .i64 n) ∧ wx.cell? ⟨A, 1, none⟩ = some (.int .u32 y) ∧ Below wr.heap.size wr wx)
      case first =>
        have hA0 : ∀ (c : Array Value) (t : TypeId) (i : Nat), (wr.drew.alloc (.cells c t)).cell? ⟨wr.heap.size, i, none⟩ = c[i]? := fun c t i => World.cell?_alloc_new wr.drew c t i
        have hF0 : ∀ (c : Array Value) (t : TypeId) (i : Nat), (wr.drew.alloc (.cells c t)).frozen? ⟨wr.heap.size, i, none⟩ = false := fun c t i => by
          have := (show ∀ W : World, (W.alloc (.cells c t)).frozen? ⟨W.heap.size, i, none⟩ = false from fun W => by simp) wr.drew
          exact this
        go_region_held3 (fun A => A.cell? ⟨G, 0, none⟩ = some (.int .i64 k) ∧ A.cell? ⟨G, 1, none⟩ = some (.int .i64 n) ∧ A.cell? ⟨G, 2, none⟩ = some (.int .u32 e))
          (exact ⟨old_cell f0 f1 (by (repeat (first | exact Below.refl _ _ | assumption | refine bchain (by assumption) ?_ | refine balloc ?_ _ | apply Below.drew | apply below_drewN | (refine Below.alloc ?_ (by (try simp) <;> omega) _) | (refine Below.setCell ?_ (by (try simp) <;> omega) _)))), old_cell f0 f2 (by (repeat (first | exact Below.refl _ _ | assumption | refine bchain (by assumption) ?_ | refine balloc ?_ _ | apply Below.drew | apply below_drewN | (refine Below.alloc ?_ (by (try simp) <;> omega) _) | (refine Below.setCell ?_ (by (try simp) <;> omega) _)))), old_cell f0 f3 (by (repeat (first | exact Below.refl _ _ | assumption | refine bchain (by assumption) ?_ | refine balloc ?_ _ | apply Below.drew | apply below_drewN | (refine Below.alloc ?_ (by (try simp) <;> omega) _) | (refine Below.setCell ?_ (by (try simp) <;> omega) _))))⟩)
          (first
          | (go_at_call 111; refine (hOr.out _ (by (repeat (first | exact Below.refl _ _ | assumption | refine bchain (by assumption) ?_ | refine balloc ?_ _ | apply Below.drew | apply below_drewN | (refine Below.alloc ?_ (by (try simp) <;> omega) _) | (refine Below.setCell ?_ (by (try simp) <;> omega) _))))).mono ?_; rintro r3 w3 ⟨⟨u, rfl, hOu⟩, hb3⟩; replace hOu := Lib.hid (hOu.see hol.out); have hk3 := keepAll hb3; have hf3 := keepFz hb3; have hz3 := keepLt hb3; have hs3 := hb3.size; try (simp at hs3); try (rw [Nat.add_one_le_iff] at hs3))
          | (go_at_call 108; refine (hOn.out _ _ (See.below _ _ _ _ hOu.out (by (repeat (first | exact Below.refl _ _ | assumption | refine bchain (by assumption) ?_ | refine balloc ?_ _ | apply Below.drew | apply below_drewN | (refine Below.alloc ?_ (by (try simp) <;> omega) _) | (refine Below.setCell ?_ (by (try simp) <;> omega) _)))))).mono ?_; rintro r4 w4 ⟨rfl, hb4⟩; have hk4 := keepAll hb4; have hf4 := keepFz hb4; have hz4 := keepLt hb4; have hs4 := hb4.size; try (simp at hs4); try (rw [Nat.add_one_le_iff] at hs4)))
        all_goals (go_wp2_with fail; go_meet; exact ⟨_, rfl, by (try simp) <;> omega, by (try simp) <;> omega, by first | (simp; done) | exact (twoCells (a := .int .i64 0) (b := .int .u32 0) (by simp [*]) (by simp [*]) _ _).1, by first | (simp; done) | exact (twoCells (a := .int .i64 0) (b := .int .u32 0) (by simp [*]) (by simp [*]) _ _).2, by (repeat (first | exact Below.refl _ _ | assumption | refine bchain (by assumption) ?_ | refine balloc ?_ _ | apply Below.drew | apply below_drewN | (refine Below.alloc ?_ (by (try simp) <;> omega) _) | (refine Below.setCell ?_ (by (try simp) <;> omega) _)))⟩)
      case rest =>
        obtain ⟨A, rfl, hA, hAl, a0, a1, hbx⟩ := hcut
        have hPw := hPx.out.under hbx p0
        have hFw := hFx.out.below hbx
        have hOw := Lib.hid (hOx.out.below hbx)
        have hBw : Below G w wc := hBx.trans (hbx.mono (by omega))
        clear f0 f1 f2 f3 p0 p1 p2 p3 pf1 pf2 hPx hFx hOx hBx hOr hOn
        obtain ⟨f0, f1, f2, f3⟩ := id hFw
        obtain ⟨p0, p1, p2, p3⟩ := hPw.p
        have pf1 := hPw.fp 1
        have pf2 := hPw.fp 2
        have hend : ∀ (e4 : Ending) (W w4 : World) (f : Nat), NextAt m m w0 v x W e4 w4 → f = minE e (((lists m m).take (j + 1)).map (ordK k)) → PK W G k n f → FC W G k n e → Below G w W →
            ∃ ok : Bool, e4 = .returned (.bool ok) ∧ Hid (∃ c', c' < gk ∧ SlHead w0 v m m T c' (.bool ok) w4) := fun e4 W w4 f hN hf hPW hFW hBW => by
          rcases hN with ⟨x', hy, he4, hyk, hOy, hbN⟩ | ⟨hy, he4, hbN⟩
          · rw [hst.out] at hy
            have hj1 := (List.getElem?_eq_some_iff.1 hy).1
            exact ⟨true, he4, (lists m m).length - (j + 1), by have := hc.out; omega, .inl ⟨j + 1, x', hj1, rfl, rfl, hy, hOy, by rw [hT]; dsimp only; rw [← hf]; exact ⟨hPW.under hbN hGz, hFW.under hbN (by omega), hBW.trans (hbN.mono (by omega))⟩⟩⟩
          · rw [hst.out] at hy
            have hj1 : (lists m m).length ≤ j + 1 := by simpa using hy
            rw [List.take_of_length_le hj1] at hf
            exact ⟨false, he4, 0, by have := hc.out; omega, .inr ⟨rfl, rfl, by rw [hT]; dsimp only; rw [← hf]; exact ⟨hPW.under hbN hGz, hFW.under hbN (by omega), hBW.trans (hbN.mono (by omega))⟩⟩⟩
        replace hend := Lib.hid hend
        replace hPw := Lib.hid hPw
        replace hFw := Lib.hid hFw
        by_cases hlt : y < z
        · have hd : decide ((y : Int) < (z : Int)) = true := by simpa using hlt
          go_wp2_with fail
          refine (next_any _ w0 v m m x ((hOw.out.sets (by omega)).sets (by omega)) hm5 hm5 hokx.out).mono ?_
          rintro r4 w4 hN
          obtain ⟨ok, rfl, hE⟩ := hend.out r4 _ w4 y hN (by rw [hnx.out]; omega) (hPw.out.put y) ((hFw.out.other _ (by show G + 1 + 1 ≠ G; omega)).other _ (by show G + 1 + 1 ≠ G; omega)) (by (repeat (first | exact Below.refl _ _ | assumption | refine bchain (by assumption) ?_ | refine balloc ?_ _ | apply Below.drew | apply below_drewN | (refine Below.alloc ?_ (by (try simp) <;> omega) _) | (refine Below.setCell ?_ (by (try simp) <;> omega) _))))
          clear hN
          go_wp2
          obtain ⟨c', hc1, hc2⟩ := hE.out
          go_roundg c'
          case measure => exact hc1
          case rel => exact hc2
        · have hd : decide ((y : Int) < (z : Int)) = false := by simpa using hlt
          go_wp2_with fail
          refine (next_any _ w0 v m m x hOw.out hm5 hm5 hokx.out).mono ?_
          rintro r4 w4 hN
          obtain ⟨ok, rfl, hE⟩ := hend.out r4 _ w4 z hN (by rw [hnx.out]; omega) hPw.out hFw.out hBw
          clear hN
          go_wp2
          obtain ⟨c', hc1, hc2⟩ := hE.out
          go_roundg c'
          case measure => exact hc1
          case rel => exact hc2
    · obtain ⟨y, hy⟩ : ∃ y : Nat, leastK n k e = y := ⟨_, rfl⟩
      rw [hT] at hTx
      obtain ⟨hPx, hFx, hBx⟩ := hTx
      rw [hend0.out, hy] at hPx
      obtain ⟨p0, p1, p2, p3⟩ := hPx.p
      obtain ⟨r0, r1, r2, r3⟩ := hPx.r
      have pf0 := hPx.fr 0
      have pf1 := hPx.fr 1
      have pf2 := hPx.fr 2
      have hr := hPx.r.put k n y
      have hB3 := ((hBx.setCell (p := ⟨G + 1, 0, none⟩) (by show G ≤ G + 1; omega) (.int .i64 k)).setCell (p := ⟨G + 1, 1, none⟩) (by show G ≤ G + 1; omega) (.int .i64 n)).setCell (p := ⟨G + 1, 2, none⟩) (by show G ≤ G + 1; omega) (.int .u32 y)
      replace hy := Lib.hid hy
      clear hPx hFx hBx
      replace hB1 : Below G w w1 := hB1.out
      go_wp2
      obtain ⟨W3, hW3⟩ : ∃ W3, W3 = ((wr.setCell ⟨G + 1, 0, none⟩ (.int .i64 k)).setCell ⟨G + 1, 1, none⟩ (.int .i64 n)).setCell ⟨G + 1, 2, none⟩ (.int .u32 y) := ⟨_, rfl⟩
      rw [← hW3] at hB3 hr ⊢
      clear hW3 p0 p1 p2 p3 r0 r1 r2 r3 pf0 pf1 pf2
      obtain ⟨_, c0, c1, c2⟩ := hr
      refine bodyPost_ret (v := .agg #[.int .i64 k, .int .i64 n, .int .u32 y]) (by simp [results, Try.results54, go_sem, c0, c1, c2]) rfl ⟨by rw [hy.out], ?_⟩
      rw [hG.out]
      exact hB3
end Go.Proofs.Ytpobonomdfbanaa
/-
  CONTRACTS OF FlagOf AND TurnLabels: the program's and the model's, for every list that is not nil.
-/
namespace Go.Proofs.Ytpobonomdfbanaa
open Go.RowKit
set_option maxRecDepth 100000

theorem pp_ltN (i j : Nat) (hij : i < j) (hj : j ≤ 4) : pp i j < pc (j + 1) := by
  have h2 : j = 1 ∨ j = 2 ∨ j = 3 ∨ j = 4 := by omega
  have h1 : i = 0 ∨ i = 1 ∨ i = 2 ∨ i = 3 := by omega
  rcases h2 with rfl | rfl | rfl | rfl <;> rcases h1 with rfl | rfl | rfl | rfl <;> first | decide | (exfalso; omega)
theorem rowE_ltN (e : Nat) (f : Nat → Nat) (j i : Nat) (hij : i ≤ j) (hj : j ≤ 4) : rowE e f j i < 2 ^ pc (j + 1) := by
  induction i with
  | zero => exact Nat.pow_pos (by omega)
  | succ i ih =>
    refine Nat.or_lt_two_pow (ih (by omega)) ?_
    split
    · exact Nat.pow_lt_pow_right (by omega) (pp_ltN i j (by omega) hj)
    · exact Nat.pow_pos (by omega)
theorem pc_mono (j : Nat) (hj : j ≤ 4) : pc j ≤ pc (j + 1) := by
  have h2 : j = 0 ∨ j = 1 ∨ j = 2 ∨ j = 3 ∨ j = 4 := by omega
  rcases h2 with rfl | rfl | rfl | rfl | rfl <;> decide
theorem onE_ltN (e : Nat) (f : Nat → Nat) (j : Nat) (hj : j ≤ 5) : onE e f j < 2 ^ pc j := by
  induction j with
  | zero => exact Nat.pow_pos (by omega)
  | succ j ih => exact Nat.or_lt_two_pow (Nat.lt_of_lt_of_le (ih (by omega)) (Nat.pow_le_pow_right (by omega) (pc_mono j (by omega)))) (rowE_ltN e f j j (Nat.le_refl _) (by omega))
/-- the graph on a list of all vertices is valid -/
theorem VG_on {n e : Nat} {x : List Nat} (hn : n ≤ 5) (hx : okList n n x = true) : VG n (onL e x : Nat) := by
  have h := onE_ltN e (vx (zl x)) x.length (by rw [ok_length hx]; exact hn)
  rw [ok_length hx, ← eMax_pow n hn] at h
  unfold VG onL
  rw [ok_length hx]
  exact ⟨by omega, by omega, by omega, by simpa using h⟩
/-- different vertices are a list of numbers -/
theorem diff_list {zs : List Int} {n : Nat} (h : Diff zs n) : ∃ x, zs = zl x ∧ okList n zs.length x = true := by
  have hx : zs = zl (zs.map Int.toNat) := by
    apply List.ext_getElem
    · simp [zl]
    · intro i h1 h2
      have := (h i h1).1
      unfold zi at this
      rw [List.getElem?_eq_getElem h1] at this
      simp only [Option.getD_some] at this
      simp [zl, Int.toNat_of_nonneg this]
  refine ⟨_, hx, ?_⟩
  have hg : ∀ i, i < zs.length → (zs.map Int.toNat)[i]?.getD 0 = (zi zs i).toNat := fun i hi => by
    rw [List.getElem?_map]
    unfold zi
    rw [List.getElem?_eq_getElem hi]
    rfl
  simp only [okList, Bool.and_eq_true, beq_iff_eq, List.all_eq_true, List.mem_range, decide_eq_true_eq, bne_iff_ne, List.length_map, true_and]
  intro i hi
  obtain ⟨h1, h2, h3⟩ := h i hi
  refine ⟨by rw [hg i hi]; omega, fun j hj => ?_⟩
  rw [hg i hi, hg j (by omega)]
  have := h3 j hj
  have := (h j (by omega)).1
  omega
theorem ok_wide {n m k : Nat} {x : List Nat} (hnm : m ≤ n) (h : okList m k x = true) : okList n k x = true := by
  simp only [okList, Bool.and_eq_true, beq_iff_eq, List.all_eq_true, List.mem_range, decide_eq_true_eq, bne_iff_ne] at h ⊢
  exact ⟨h.1, fun i hi => ⟨Nat.lt_of_lt_of_le (h.2 i hi).1 hnm, (h.2 i hi).2⟩⟩
section
variable (w : World)
end
end Go.Proofs.Ytpobonomdfbanaa
namespace Go.Proofs.Ytpobonomdfbanaa
open Go.RowKit Go.Shelf
/-- no number is a label -/
def Unl (zs : List Int) (k : Int) : Prop := ∀ i, i < zs.length → k ≤ zi zs i
theorem range_zi (k : Nat) {i : Nat} (h : i < k) : zi (zl (List.range k)) i = (i : Int) := by
  unfold zi
  rw [zl_get, List.getElem?_range h]
  rfl
/-- the labels and the numbers together are different vertices just if the numbers are, and none is a label -/
theorem diff_first {zs : List Int} {k n : Nat} (hkn : k ≤ n) : Diff (zl (List.range k) ++ zs) n ↔ (Unl zs k ∧ Diff zs n) := by
  have hl : (zl (List.range k)).length = k := by rw [zl_length]; simp
  have h1 : ∀ i, i < k → zi (zl (List.range k) ++ zs) i = (i : Int) := fun i hi => by
    unfold zi
    rw [List.getElem?_append_left (by omega)]
    exact range_zi k hi
  have h2 : ∀ i, zi (zl (List.range k) ++ zs) (k + i) = zi zs i := fun i => by
    unfold zi
    rw [List.getElem?_append_right (by omega), hl, Nat.add_sub_cancel_left]
  constructor
  · intro h
    have hz : ∀ i, i < zs.length → Fresh (zl (List.range k) ++ zs) n (k + i) := fun i hi => h (k + i) (by rw [List.length_append]; omega)
    refine ⟨fun i hi => ?_, fun i hi => ?_⟩
    · obtain ⟨a, b, c⟩ := hz i hi
      rw [h2] at a c
      have hx : ¬ zi zs i < k := fun hlt => by
        have := c (zi zs i).toNat (by omega)
        rw [h1 _ (by omega)] at this
        omega
      omega
    · obtain ⟨a, b, c⟩ := hz i hi
      rw [h2] at a b c
      refine ⟨a, b, fun j hj => ?_⟩
      have := c (k + j) (by omega)
      rwa [h2] at this
  · rintro ⟨hu, hd⟩ i hi
    rw [List.length_append, hl] at hi
    by_cases c : i < k
    · refine ⟨by rw [h1 i c]; omega, by rw [h1 i c]; omega, fun j hj => ?_⟩
      rw [h1 i c, h1 j (by omega)]
      omega
    · obtain ⟨q, rfl⟩ : ∃ q, i = k + q := ⟨i - k, by omega⟩
      obtain ⟨a, b, d⟩ := hd q (by omega)
      have hq := hu q (by omega)
      refine ⟨by rw [h2]; exact a, by rw [h2]; exact b, fun j hj => ?_⟩
      rw [h2]
      by_cases e : j < k
      · rw [h1 j e]; omega
      · obtain ⟨p, rfl⟩ : ∃ p, j = k + p := ⟨j - k, by omega⟩
        rw [h2]
        exact d p (by omega)
theorem LMem.setCells {W : World} {B n : Nat} {p : List Nat} (x : List Nat) (h : LMem W B n p) (hl : p.length + x.length ≤ n) : LMem (W.setCells B p.length (rowN x)) B n (p ++ x) := by
  induction x generalizing W p with
  | nil => simpa [rowN, World.setCells] using h
  | cons v x ih =>
    have hp := h.push (by simp at hl; omega) v
    have := ih (p := p ++ [v]) hp (by simp at hl ⊢; omega)
    simpa [rowN, World.setCells, List.append_assoc] using this
theorem setCells_below {b0 : Nat} {w0 W : World} {B : Nat} (h : Below b0 w0 W) (hB : b0 ≤ B) : ∀ (vs : List Value) (o : Nat), Below b0 w0 (W.setCells B o vs)
  | [], _ => h
  | v :: vs, o => setCells_below (h.setCell (p := ⟨B, o, none⟩) hB v) hB vs (o + 1)
section
variable (w : World)
end
end Go.Proofs.Ytpobonomdfbanaa
namespace Go.Proofs.Ytpobonomdfbanaa
open Go.RowKit
section
variable (w : World)
open Classical in
end
end Go.Proofs.Ytpobonomdfbanaa
