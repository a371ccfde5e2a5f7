/-
  LABELS OF A GRAPH: the array that keeps them, a clone of a list, and the order of the vertices that begins with them: the program's flag with some labels.
-/
import Derived.Test.YtncbimbbkealmaaGreatDoorKOrder
import Derived.Test.YtncbimbbkealmaaGreatDoorKVal
import Derived.Test.YtncbimbbkealmaaGreatDoorKTurn
import Derived.Laws.IdiomCopy
import Derived.Lib.BufferMore
namespace Go.Proofs.YtncbimbbkealmaaGreatDoor
open Go.RowKit Go.Shelf
set_option maxRecDepth 100000

theorem add_none (b off q : Nat) : (⟨b, off, none⟩ : Addr).add q = ⟨b, off + q, none⟩ := by
  unfold Addr.add
  split
  · next h => subst h; rfl
  · rfl
/-- a list, as cells -/
def rowN (x : List Nat) : List Value := x.map fun v => .int .i64 ((v : Nat) : Int)
theorem rowN_length (x : List Nat) : (rowN x).length = x.length := by simp [rowN]
theorem rowN_snoc (x : List Nat) (v : Nat) : rowN (x ++ [v]) = rowN x ++ [.int .i64 ((v : Nat) : Int)] := by simp [rowN]
theorem rowN_lf (x : List Nat) : rowN x = (List.range x.length).map fun i => .int .i64 (lf x i) := by
  apply List.ext_getElem
  · simp [rowN]
  · intro i h1 h2
    simp [rowN] at h1
    simp [rowN, lf, h1]
theorem rowN_get {x : List Nat} {i : Nat} {u : Value} (h : (rowN x)[i]? = some u) : i < x.length ∧ u = .int .i64 ((x[i]?.getD 0 : Nat) : Int) := by
  unfold rowN at h
  rw [List.getElem?_map] at h
  cases hx : x[i]? with
  | none => rw [hx] at h; cases h
  | some v =>
    rw [hx] at h
    injection h with h
    obtain ⟨h1, _⟩ := List.getElem?_eq_some_iff.1 hx
    exact ⟨h1, by rw [← h]; simp⟩
/-- the vertices before j that are not in x -/
def rest (x : List Nat) (j : Nat) : List Nat := (List.range j).filter fun v => !x.contains v
theorem rest_t {x : List Nat} {j : Nat} (h : x.contains j = true) : rest x (j + 1) = rest x j := by
  unfold rest; rw [List.range_succ, List.filter_append]; simp only [List.filter_cons, List.filter_nil, h]; simp
theorem rest_f {x : List Nat} {j : Nat} (h : x.contains j = false) : rest x (j + 1) = rest x j ++ [j] := by
  unfold rest; rw [List.range_succ, List.filter_append]; simp only [List.filter_cons, List.filter_nil, h]; simp
theorem rest_le (x : List Nat) (j : Nat) : (rest x j).length ≤ j := by
  have := List.length_filter_le (fun v => !x.contains v) (List.range j)
  rw [List.length_range] at this
  exact this
/-- x, then the vertices that are not in x -/
def ordF (n : Nat) (x : List Nat) : List Nat := x ++ rest x n
theorem ordF_ok0 : ∀ n, n ≤ 5 → okList n n (ordF n []) = true := by decide +kernel
theorem ordF_ok1 : ∀ n, n ≤ 5 → ∀ a, a < 5 → okList n 1 [a] = true → okList n n (ordF n [a]) = true := by decide +kernel
theorem ordF_ok2 : ∀ n, n ≤ 5 → ∀ a, a < 5 → ∀ b, b < 5 → okList n 2 [a, b] = true → okList n n (ordF n [a, b]) = true := by decide +kernel
theorem ordF_ok3 : ∀ n, n ≤ 5 → ∀ a, a < 5 → ∀ b, b < 5 → ∀ c, c < 5 → okList n 3 [a, b, c] = true → okList n n (ordF n [a, b, c]) = true := by decide +kernel
theorem ordF_ok {n k : Nat} {x : List Nat} (hn : n ≤ 5) (hk : k ≤ 3) (h : okList n k x = true) : okList n n (ordF n x) = true := by
  have hl := ok_length h
  have hlt := fun i (hi : i < k) => ok_lt h hi
  match x, hl with
  | [], hl => exact ordF_ok0 n hn
  | [a], hl =>
    simp at hl; subst hl
    have h0 := hlt 0 (by omega)
    simp at h0
    exact ordF_ok1 n hn a (by omega) h
  | [a, b], hl =>
    simp at hl; subst hl
    have h0 := hlt 0 (by omega)
    have h1 := hlt 1 (by omega)
    simp at h0 h1
    exact ordF_ok2 n hn a (by omega) b (by omega) h
  | [a, b, c], hl =>
    simp at hl; subst hl
    have h0 := hlt 0 (by omega)
    have h1 := hlt 1 (by omega)
    have h2 := hlt 2 (by omega)
    simp at h0 h1 h2
    exact ordF_ok3 n hn a (by omega) b (by omega) c (by omega) h
  | _ :: _ :: _ :: _ :: _, hl => simp at hl; omega
/-- the array of at most three labels -/
def arr (x : List Nat) : Value := .agg #[.int .i64 ((x[0]?.getD 0 : Nat) : Int), .int .i64 ((x[1]?.getD 0 : Nat) : Int), .int .i64 ((x[2]?.getD 0 : Nat) : Int)]

/-- three numbers, stored over others -/
theorem three {w W : World} {B : Nat} {u0 u1 u2 : Value} (hB : w.heap.size ≤ B) (hb : Below w.heap.size w W) (h0 : W.cell? ⟨B, 0, none⟩ = some u0) (h1 : W.cell? ⟨B, 1, none⟩ = some u1) (h2 : W.cell? ⟨B, 2, none⟩ = some u2) (x y z : Value) :
    (((W.setCell ⟨B, 0, none⟩ x).setCell ⟨B, 1, none⟩ y).setCell ⟨B, 2, none⟩ z).cell? ⟨B, 0, none⟩ = some x ∧ (((W.setCell ⟨B, 0, none⟩ x).setCell ⟨B, 1, none⟩ y).setCell ⟨B, 2, none⟩ z).cell? ⟨B, 1, none⟩ = some y ∧
      (((W.setCell ⟨B, 0, none⟩ x).setCell ⟨B, 1, none⟩ y).setCell ⟨B, 2, none⟩ z).cell? ⟨B, 2, none⟩ = some z ∧ Below w.heap.size w (((W.setCell ⟨B, 0, none⟩ x).setCell ⟨B, 1, none⟩ y).setCell ⟨B, 2, none⟩ z) :=
  ⟨(World.cell?_setCell_other _ _ _ _ (by simp)).trans ((World.cell?_setCell_other _ _ _ _ (by simp)).trans (World.cell?_setCell_same _ _ _ h0)),
    (World.cell?_setCell_other _ _ _ _ (by simp)).trans (World.cell?_setCell_same _ _ _ ((World.cell?_setCell_other _ _ _ _ (by simp)).trans h1)),
    World.cell?_setCell_same _ _ _ ((World.cell?_setCell_other _ _ _ _ (by simp)).trans ((World.cell?_setCell_other _ _ _ _ (by simp)).trans h2)),
    ((hb.setCell (p := ⟨B, 0, none⟩) hB _).setCell (p := ⟨B, 1, none⟩) hB _).setCell (p := ⟨B, 2, none⟩) hB _⟩
section
variable (w : World)
set_option maxHeartbeats 1000000 in
theorem clone_any (b off cap l : Nat) (x : List Nat) (hx : x.length = l) (hl : l ≤ 5) (hc : ∀ i, i < l → w.cell? ⟨b, off + i, none⟩ = some (.int .i64 ((x[i]?.getD 0 : Nat) : Int))) (hb : l = 0 ∨ b < w.heap.size) :
    Calls Tryz.prog 73 #[.slice (some ⟨b, off, none⟩) l cap] w fun r w' => (∃ u, r = .returned u ∧ Hid (w'.ownsRow w.heap.size 2 1 u l (rowN x))) ∧ Below w.heap.size w w' := by
  obtain ⟨i0, hi, hz0, hz1, hz2⟩ := info_parts info_i64
  have hsrc : ∀ q u, (rowN x)[q]? = some u → (w.alloc (.cells #[] 2)).cell? ((⟨b, off, none⟩ : Addr).add q) = some u := fun q u hq => by
    obtain ⟨h1, h2⟩ := rowN_get hq
    rw [h2, add_none, cOld _ _ _ _ (by omega)]
    exact hc q (by omega)
  replace hsrc := Lib.hid hsrc
  have hnil : ∀ W, (binOp .eql 69 (.slice (some ⟨b, off, none⟩) l cap) (.slice none 0 0)).run Tryz.prog W = .ok (.bool false) W := fun W => Lib.run_eql_slice_some_nil W _ _ _ Tryz.underlying69
  replace hi := Lib.hid hi
  replace hz0 := Lib.hid hz0
  replace hz1 := Lib.hid hz1
  replace hz2 := Lib.hid hz2
  replace hx := Lib.hid hx
  clear hc hb
  go_enter Tryz.func73, Tryz.ntmps73
  go_wp2_with (at_builtin; refine wpList_append_own _ rfl _ _ 69 rfl w.heap.size 2 i0 (.int .i64 0) 1 8 Tryz.underlying69 hi.out hz0.out hz1.out hz2.out rfl (by decide) _ _ _ rfl (World.ownsRow_made w #[] 0 (Nat.le_refl _) (by omega) rfl) ⟨b, off, none⟩ l cap (rowN x) rfl (by rw [rowN_length, hx.out]; omega) hsrc.out (fun u hu => by unfold rowN at hu; simp at hu; obtain ⟨_, _, rfl⟩ := hu; rfl) (by unfold maxLen; omega) (by omega) (by simp) ?_; intro v' w1 hown' hgrow _)
  have hb2 : Below w.heap.size w w1 := ((Below.refl _ w).alloc (Nat.le_refl _) _).grown hgrow (by simp) (fun k hk => by cases hk; exact Nat.le_refl _)
  rw [Nat.zero_add] at hown'
  replace hown' := Lib.hid hown'
  clear hgrow
  go_wp2
  go_ret
  exact ⟨⟨_, rfl, hown'⟩, hb2⟩

set_option maxHeartbeats 1000000 in
theorem lab_any (v : Value) (x : List Nat) (h : See x v w) (hl : x.length ≤ 3) :
    Calls Tryz.prog 72 #[v] w fun r w' => r = .returned (arr x) ∧ Below w.heap.size w w' := by
  obtain ⟨a, cap, rfl, h1, h2, h3⟩ := h
  obtain ⟨i0, hi, hz0, hz1, hz2⟩ := info_parts info_i64
  have hs1 : (Tryz.prog.info? 2).map (·.size) = some 1 := by rw [hi]; simp [hz1]
  have hW : Below w.heap.size w ((w.alloc (.cells #[.int .i64 0, .int .i64 0, .int .i64 0] 85)).alloc (.cells #[.int .i64 0, .int .i64 0, .int .i64 0] 85)) := by (repeat (first | exact Below.refl _ _ | assumption | refine bchain (by assumption) ?_ | refine balloc ?_ _ | apply Below.drew | apply below_drewN | (refine Below.alloc ?_ (by (try simp) <;> omega) _) | (refine Below.setCell ?_ (by (try simp) <;> omega) _)))
  have hz : ((w.alloc (.cells #[.int .i64 0, .int .i64 0, .int .i64 0] 85)).alloc (.cells #[.int .i64 0, .int .i64 0, .int .i64 0] 85)).heap.size = w.heap.size + 2 := by simp
  have hcell : ∀ i, i < 3 → ((w.alloc (.cells #[.int .i64 0, .int .i64 0, .int .i64 0] 85)).alloc (.cells #[.int .i64 0, .int .i64 0, .int .i64 0] 85)).cell? ⟨w.heap.size + 1, i, none⟩ = some (.int .i64 0) := fun i hi => by
    rw [cNew _ _ _ _ _ (by simp)]
    have hc : i = 0 ∨ i = 1 ∨ i = 2 := by omega
    rcases hc with rfl | rfl | rfl <;> rfl
  have hfz : ∀ i, ((w.alloc (.cells #[.int .i64 0, .int .i64 0, .int .i64 0] 85)).alloc (.cells #[.int .i64 0, .int .i64 0, .int .i64 0] 85)).frozen? ⟨w.heap.size + 1, i, none⟩ = false := fun i => by
    rw [fNew _ _ _ _ _ (by simp)]
  obtain ⟨W, hWd⟩ : ∃ W, W = (w.alloc (.cells #[.int .i64 0, .int .i64 0, .int .i64 0] 85)).alloc (.cells #[.int .i64 0, .int .i64 0, .int .i64 0] 85) := ⟨_, rfl⟩
  have hcp : ∀ ty, (Builtin.copy_ #[69, 69] ty #[.slice (some ⟨w.heap.size + 1, 0, none⟩) 3 3, .slice a x.length cap]).run Tryz.prog ((w.alloc (.cells #[.int .i64 0, .int .i64 0, .int .i64 0] 85)).alloc (.cells #[.int .i64 0, .int .i64 0, .int .i64 0] 85)) = .ok (goInt x.length) (W.setCells (w.heap.size + 1) 0 (rowN x)) := fun ty => by
    rw [← hWd]
    cases x with
    | nil =>
      have := run_copy_none (P := Tryz.prog) W 69 69 ty 2 (some ⟨w.heap.size + 1, 0, none⟩) a 3 3 0 cap Tryz.underlying69 hs1 (by rfl)
      simpa [rowN, World.setCells] using this
    | cons y ys =>
      obtain ⟨b, off, rfl, hb, hc⟩ := h3 (by simp [zl])
      have := run_copy_cells (P := Tryz.prog) W 69 69 ty 2 (w.heap.size + 1) 0 3 3 ⟨b, off, none⟩ (y :: ys).length cap (rowN (y :: ys)) Tryz.underlying69 hs1 (by rw [rowN_length]; exact (Nat.min_eq_left hl).symm)
        (fun q u hq => by
          obtain ⟨q1, q2⟩ := rowN_get hq
          rw [q2, add_none, hWd, hW.cell (p := ⟨b, off + q, none⟩) hb, hc q (by rw [zl_length]; exact q1), zl_get])
        (fun q hq => by rw [Nat.zero_add, hWd, hcell q (by rw [rowN_length] at hq; omega)]; rfl) (fun q _ => by rw [hWd]; exact hfz _) (fun u hu => by unfold rowN at hu; rw [List.mem_map] at hu; obtain ⟨_, _, rfl⟩ := hu; rfl)
      rw [rowN_length] at this
      exact this
  clear h1 h2 h3 hi hz0 hz1 hz2 hs1
  have c0 := hcell 0 (by omega)
  have c1 := hcell 1 (by omega)
  have c2 := hcell 2 (by omega)
  have r0 : W.cell? ⟨w.heap.size, 0, none⟩ = some (.int .i64 0) := by rw [hWd, cOld _ _ _ _ (by simp), cNew _ _ _ _ _ rfl]; rfl
  have r1 : W.cell? ⟨w.heap.size, 1, none⟩ = some (.int .i64 0) := by rw [hWd, cOld _ _ _ _ (by simp), cNew _ _ _ _ _ rfl]; rfl
  have r2 : W.cell? ⟨w.heap.size, 2, none⟩ = some (.int .i64 0) := by rw [hWd, cOld _ _ _ _ (by simp), cNew _ _ _ _ _ rfl]; rfl
  have g0 : ∀ i, W.frozen? ⟨w.heap.size, i, none⟩ = false := fun i => by rw [hWd, fOld _ _ _ _ (by simp), fNew _ _ _ _ _ rfl]
  rw [← hWd] at hW hz c0 c1 c2 hfz
  obtain ⟨v, hv⟩ : ∃ v, v = Value.slice a x.length cap := ⟨_, rfl⟩
  rw [zl_length]
  have hg0 := g0 0
  have hg1 := g0 1
  have hg2 := g0 2
  clear hcell g0 hfz
  replace hWd := Lib.hid hWd
  match x, hl with
  | [], _ =>
    simp only [rowN, List.map_nil, World.setCells, List.length_nil] at hcp
    rw [List.length_nil]
    go_enter Tryz.func72, Tryz.ntmps72
    go_wp2
    obtain ⟨d0, d1, d2, hB4⟩ := three (Nat.le_refl _) hW r0 r1 r2 (.int .i64 0) (.int .i64 0) (.int .i64 0)
    obtain ⟨W4, hW4⟩ : ∃ W4, W4 = (((W.setCell ⟨w.heap.size, 0, none⟩ (.int .i64 0)).setCell ⟨w.heap.size, 1, none⟩ (.int .i64 0)).setCell ⟨w.heap.size, 2, none⟩ (.int .i64 0)) := ⟨_, rfl⟩
    rw [← hW4] at d0 d1 d2 hB4 ⊢
    clear hW4 hcp hW r0 r1 r2 c0 c1 c2 hg0 hg1 hg2
    exact bodyPost_ret (v := arr []) (by simp [results, Tryz.results72, go_sem, d0, d1, d2, arr]) rfl ⟨rfl, hB4⟩
  | [y0], _ =>
    simp only [rowN, List.map_cons, List.map_nil, World.setCells, List.length_cons, List.length_nil, Nat.zero_add] at hcp
    simp only [List.length_cons, List.length_nil, Nat.zero_add]
    go_enter Tryz.func72, Tryz.ntmps72
    go_wp2
    obtain ⟨d0, d1, d2, hB4⟩ := three (Nat.le_refl _) (hW.setCell (p := ⟨w.heap.size + 1, 0, none⟩) (by show w.heap.size ≤ w.heap.size + 1; omega) (.int .i64 (y0 : Nat))) ((World.cell?_setCell_other _ _ _ _ (by simp)).trans r0) ((World.cell?_setCell_other _ _ _ _ (by simp)).trans r1) ((World.cell?_setCell_other _ _ _ _ (by simp)).trans r2) (.int .i64 (y0 : Nat)) (.int .i64 0) (.int .i64 0)
    obtain ⟨W4, hW4⟩ : ∃ W4, W4 = ((((W.setCell ⟨w.heap.size + 1, 0, none⟩ (.int .i64 (y0 : Nat))).setCell ⟨w.heap.size, 0, none⟩ (.int .i64 (y0 : Nat))).setCell ⟨w.heap.size, 1, none⟩ (.int .i64 0)).setCell ⟨w.heap.size, 2, none⟩ (.int .i64 0)) := ⟨_, rfl⟩
    rw [← hW4] at d0 d1 d2 hB4 ⊢
    clear hW4 hcp hW r0 r1 r2 c0 c1 c2 hg0 hg1 hg2
    exact bodyPost_ret (v := arr [y0]) (by simp [results, Tryz.results72, go_sem, d0, d1, d2, arr]) rfl ⟨rfl, hB4⟩
  | [y0, y1], _ =>
    simp only [rowN, List.map_cons, List.map_nil, World.setCells, List.length_cons, List.length_nil, Nat.zero_add, Nat.reduceAdd] at hcp
    simp only [List.length_cons, List.length_nil, Nat.zero_add, Nat.reduceAdd]
    go_enter Tryz.func72, Tryz.ntmps72
    go_wp2
    obtain ⟨d0, d1, d2, hB4⟩ := three (Nat.le_refl _) ((hW.setCell (p := ⟨w.heap.size + 1, 0, none⟩) (by show w.heap.size ≤ w.heap.size + 1; omega) (.int .i64 (y0 : Nat))).setCell (p := ⟨w.heap.size + 1, 1, none⟩) (by show w.heap.size ≤ w.heap.size + 1; omega) (.int .i64 (y1 : Nat))) ((World.cell?_setCell_other _ _ _ _ (by simp)).trans ((World.cell?_setCell_other _ _ _ _ (by simp)).trans r0)) ((World.cell?_setCell_other _ _ _ _ (by simp)).trans ((World.cell?_setCell_other _ _ _ _ (by simp)).trans r1)) ((World.cell?_setCell_other _ _ _ _ (by simp)).trans ((World.cell?_setCell_other _ _ _ _ (by simp)).trans r2)) (.int .i64 (y0 : Nat)) (.int .i64 (y1 : Nat)) (.int .i64 0)
    obtain ⟨W4, hW4⟩ : ∃ W4, W4 = (((((W.setCell ⟨w.heap.size + 1, 0, none⟩ (.int .i64 (y0 : Nat))).setCell ⟨w.heap.size + 1, 1, none⟩ (.int .i64 (y1 : Nat))).setCell ⟨w.heap.size, 0, none⟩ (.int .i64 (y0 : Nat))).setCell ⟨w.heap.size, 1, none⟩ (.int .i64 (y1 : Nat))).setCell ⟨w.heap.size, 2, none⟩ (.int .i64 0)) := ⟨_, rfl⟩
    rw [← hW4] at d0 d1 d2 hB4 ⊢
    clear hW4 hcp hW r0 r1 r2 c0 c1 c2 hg0 hg1 hg2
    exact bodyPost_ret (v := arr [y0, y1]) (by simp [results, Tryz.results72, go_sem, d0, d1, d2, arr]) rfl ⟨rfl, hB4⟩
  | [y0, y1, y2], _ =>
    simp only [rowN, List.map_cons, List.map_nil, World.setCells, List.length_cons, List.length_nil, Nat.zero_add, Nat.reduceAdd] at hcp
    simp only [List.length_cons, List.length_nil, Nat.zero_add, Nat.reduceAdd]
    go_enter Tryz.func72, Tryz.ntmps72
    go_wp2
    obtain ⟨d0, d1, d2, hB4⟩ := three (Nat.le_refl _) (((hW.setCell (p := ⟨w.heap.size + 1, 0, none⟩) (by show w.heap.size ≤ w.heap.size + 1; omega) (.int .i64 (y0 : Nat))).setCell (p := ⟨w.heap.size + 1, 1, none⟩) (by show w.heap.size ≤ w.heap.size + 1; omega) (.int .i64 (y1 : Nat))).setCell (p := ⟨w.heap.size + 1, 2, none⟩) (by show w.heap.size ≤ w.heap.size + 1; omega) (.int .i64 (y2 : Nat))) ((World.cell?_setCell_other _ _ _ _ (by simp)).trans ((World.cell?_setCell_other _ _ _ _ (by simp)).trans ((World.cell?_setCell_other _ _ _ _ (by simp)).trans r0))) ((World.cell?_setCell_other _ _ _ _ (by simp)).trans ((World.cell?_setCell_other _ _ _ _ (by simp)).trans ((World.cell?_setCell_other _ _ _ _ (by simp)).trans r1))) ((World.cell?_setCell_other _ _ _ _ (by simp)).trans ((World.cell?_setCell_other _ _ _ _ (by simp)).trans ((World.cell?_setCell_other _ _ _ _ (by simp)).trans r2))) (.int .i64 (y0 : Nat)) (.int .i64 (y1 : Nat)) (.int .i64 (y2 : Nat))
    obtain ⟨W4, hW4⟩ : ∃ W4, W4 = ((((((W.setCell ⟨w.heap.size + 1, 0, none⟩ (.int .i64 (y0 : Nat))).setCell ⟨w.heap.size + 1, 1, none⟩ (.int .i64 (y1 : Nat))).setCell ⟨w.heap.size + 1, 2, none⟩ (.int .i64 (y2 : Nat))).setCell ⟨w.heap.size, 0, none⟩ (.int .i64 (y0 : Nat))).setCell ⟨w.heap.size, 1, none⟩ (.int .i64 (y1 : Nat))).setCell ⟨w.heap.size, 2, none⟩ (.int .i64 (y2 : Nat))) := ⟨_, rfl⟩
    rw [← hW4] at d0 d1 d2 hB4 ⊢
    clear hW4 hcp hW r0 r1 r2 c0 c1 c2 hg0 hg1 hg2
    exact bodyPost_ret (v := arr [y0, y1, y2]) (by simp [results, Tryz.results72, go_sem, d0, d1, d2, arr]) rfl ⟨rfl, hB4⟩
  | _ :: _ :: _ :: _ :: _, hl => exact absurd hl (by simp)
end
end Go.Proofs.YtncbimbbkealmaaGreatDoor
