/-
  A list that is cloned (slices.Clone), as a list of the call's own.
-/
import Derived.Test.YtfnjgdocmfmfgaaCo
import Derived.Test.YtfnjgdocmfmfgaaBl
import Derived.Test.YtfnjgdocmfmfgaaOwnI
import Derived.Laws.IdiomCopy
import Derived.Lib.BufferMore
namespace Go.Proofs.Ytfnjgdocmfmfgaa
open Go.RowKit Go.Shelf
set_option maxRecDepth 100000
theorem addn_none (b off q : Nat) : (⟨b, off, none⟩ : Addr).add q = ⟨b, off + q, none⟩ := by
  unfold Addr.add
  split
  · next h => subst h; rfl
  · rfl
theorem nC_get {x : List Nat} {i : Nat} {u : Value} (h : (nC x)[i]? = some u) : i < x.length ∧ u = .int .i64 ((xn x i : Nat) : Int) := by
  unfold nC at h
  rw [List.getElem?_map] at h
  unfold xn
  cases hx : x[i]? with
  | none => rw [hx] at h; cases h
  | some v =>
    rw [hx] at h
    injection h with h
    obtain ⟨h1, _⟩ := List.getElem?_eq_some_iff.1 hx
    exact ⟨h1, by rw [← h]; simp⟩
theorem cells_of_heap {W : World} {g : Nat} {cur : Array Value} {e : TypeId} (h : W.heap[g]? = some (.cells cur e (0, 0))) : (∀ i, W.cell? ⟨g, i, none⟩ = cur[i]?) ∧ (∀ i, W.frozen? ⟨g, i, none⟩ = false) := by
  constructor
  · intro i; simp [World.cell?, h]
  · intro i; simp [World.frozen?, h]
theorem own_nC {w0 w : World} {e : TypeId} {v : Value} {x : List Nat} {n : Nat} (hx : x.length = n) (h : w.ownsRow w0.heap.size e 1 v n (nC x)) : OwnI w0 w v n fun i => ((xn x i : Nat) : Int) := by
  obtain ⟨hl, (⟨rfl, h0⟩ | ⟨g, cap, cur, rfl, hg, hh, hn, hc, hs, hx2⟩)⟩ := h
  · exact ⟨none, 0, by rw [h0], by omega, by omega, fun c => by omega⟩
  · refine ⟨some ⟨g, 0, none⟩, cap, rfl, hn, by unfold maxLen at hc; omega, fun _ => ⟨g, rfl, hg, (Array.getElem?_eq_some_iff.1 hh).1, fun i hi => ?_, fun o _ => (cells_of_heap hh).2 o⟩⟩
    rw [(cells_of_heap hh).1 i]
    have h1 : (cur.toList.take (n * 1))[i]? = (nC x)[i]? := by rw [hx2]
    rw [List.getElem?_take_of_lt (by omega)] at h1
    have h3 : cur[i]? = (nC x)[i]? := by simpa using h1
    rw [h3]
    have hi2 : i < x.length := by omega
    unfold nC xn
    rw [List.getElem?_map]
    simp [List.getElem?_eq_getElem hi2]
section
variable (w : World)
set_option maxHeartbeats 1000000 in
theorem clone_n (v : Value) (x : List Nat) (n : Nat) (hx : x.length = n) (hS : SeeN x v w) (hn : n ≤ 5) :
    Calls Try.prog 105 #[v] w fun r w' => (∃ u, r = .returned u ∧ Hid (OwnI w w' u n fun i => ((xn x i : Nat) : Int))) ∧ Below w.heap.size w w' := by
  obtain ⟨b, rfl, hb, hc⟩ := hS
  rw [hx] at hc ⊢
  obtain ⟨i0, hi, hz0, hz1, hz2⟩ := info_parts info_i64
  have hsrc : ∀ q u, (nC x)[q]? = some u → (w.alloc (.cells #[] 2)).cell? ((⟨b, 0, none⟩ : Addr).add q) = some u := fun q u hq => by
    obtain ⟨h1, h2⟩ := nC_get hq
    rw [h2, addn_none, cOld _ _ _ _ hb, Nat.zero_add]
    exact hc q (by omega)
  replace hsrc := Lib.hid hsrc
  have hnil : ∀ W, (binOp .eql 46 (.slice (some ⟨b, 0, none⟩) n n) (.slice none 0 0)).run Try.prog W = .ok (.bool false) W := fun W => Lib.run_eql_slice_some_nil W _ _ _ Try.underlying46
  replace hi := Lib.hid hi
  replace hz0 := Lib.hid hz0
  replace hz1 := Lib.hid hz1
  replace hz2 := Lib.hid hz2
  replace hx := Lib.hid hx
  clear hc hb
  go_enter Try.func105, Try.ntmps105
  go_wp2_with (at_builtin; refine wpList_append_own _ rfl _ _ 46 rfl w.heap.size 2 i0 (.int .i64 0) 1 8 Try.underlying46 hi.out hz0.out hz1.out hz2.out rfl (by decide) _ _ _ rfl (World.ownsRow_made w #[] 0 (Nat.le_refl _) (by omega) rfl) ⟨b, 0, none⟩ n n (nC x) rfl (by rw [nC_length, hx.out]; omega) hsrc.out (fun u hu => by unfold nC at hu; simp at hu; obtain ⟨_, _, rfl⟩ := hu; rfl) (by unfold maxLen; omega) (by omega) (by simp) ?_; intro v' w1 hown' hgrow _)
  have hb2 : Below w.heap.size w w1 := ((Below.refl _ w).alloc (Nat.le_refl _) _).grown hgrow (by simp) (fun k hk => by cases hk; exact Nat.le_refl _)
  rw [Nat.zero_add] at hown'
  have hown2 := Lib.hid (own_nC (w0 := w) hx.out hown')
  clear hgrow hown'
  go_wp2
  go_ret
  exact ⟨⟨_, rfl, hown2⟩, hb2⟩
theorem wpt_any (n e : Int) : Calls Try.prog 161 #[.agg #[.int .i64 n, .int .u32 e]] w fun r w' => r = .returned (.int .i64 n) ∧ Below w.heap.size w w' := by
  go_enter Try.func161, Try.ntmps161
  go_wp2
  go_ret
  exact ⟨rfl, by (repeat (first | exact Below.refl _ _ | assumption | refine bchain (by assumption) ?_ | refine balloc ?_ _ | apply Below.drew | apply below_drewN | (refine Below.alloc ?_ (by (try simp) <;> omega) _) | (refine Below.setCell ?_ (by (try simp) <;> omega) _)))⟩
end
end Go.Proofs.Ytfnjgdocmfmfgaa
