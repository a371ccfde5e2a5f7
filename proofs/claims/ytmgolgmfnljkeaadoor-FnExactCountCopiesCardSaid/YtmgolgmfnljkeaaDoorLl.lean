/-
  A CALL'S OWN LIST OF OWN LISTS OF NUMBERS (grown by append): OwnLs.
-/
import Derived.Test.YtmgolgmfnljkeaaDoorVs
namespace Go.Proofs.YtmgolgmfnljkeaaDoor
open Go.RowKit Go.Shelf
set_option maxRecDepth 100000
theorem ll_ne {w : World} {base size n m s2 : Nat} {v u : Value} {xs ys : List Value} (h : w.ownsRow base 64 size v n xs) (h2 : w.ownsRow base 2 s2 u m ys) : u.ownBlock = none ∨ u.ownBlock ≠ v.ownBlock := by
  rcases h2.2 with ⟨rfl, _⟩ | ⟨g2, cap2, cur2, rfl, _, hh2, _⟩
  · exact .inl rfl
  · refine .inr ?_
    rcases h.2 with ⟨rfl, _⟩ | ⟨g', cap, cur', rfl, _, hh, _⟩
    · intro c; cases c
    · intro c
      injection c with c
      subst c
      rw [hh2] at hh
      injection hh with hh
      injection hh with _ c2
      exact absurd c2 (by decide)
def OwnLs (base : Nat) (W : World) (v : Value) (L : List (List Nat)) : Prop :=
  ∃ us : List Value, us.length = L.length ∧ W.ownsRow base 64 1 v L.length us ∧ ∀ i, i < L.length → ∃ u, us[i]? = some u ∧ W.ownsRow base 2 1 u (L[i]?.getD []).length (rowN (L[i]?.getD []))
theorem row_below {base size n : Nat} {e : TypeId} {W W' : World} {v : Value} {xs : List Value} (h : W.ownsRow base e size v n xs) (hb : Below W.heap.size W W') : W'.ownsRow base e size v n xs := by
  refine ⟨h.1, ?_⟩
  rcases h.2 with hn | ⟨g, cap, cur, rfl, a1, a2, a3⟩
  · exact .inl hn
  · exact .inr ⟨g, cap, cur, rfl, a1, (hb.block g (Array.getElem?_eq_some_iff.1 a2).1).trans a2, a3⟩
theorem OwnLs.below {base : Nat} {W W' : World} {v : Value} {L : List (List Nat)} (h : OwnLs base W v L) (hb : Below W.heap.size W W') : OwnLs base W' v L := by
  obtain ⟨us, h1, h2, h3⟩ := h
  exact ⟨us, h1, row_below h2 hb, fun i hi => by obtain ⟨u, e1, e2⟩ := h3 i hi; exact ⟨u, e1, row_below e2 hb⟩⟩
theorem OwnLs.nil (base : Nat) (W : World) : OwnLs base W (.slice none 0 0) [] := ⟨[], rfl, World.ownsRow_nil _ _ _ _, fun i hi => by simp at hi⟩
theorem OwnLs.made (base : Nat) (W : World) (cap : Nat) (hb : base ≤ W.heap.size) (hm : cap = 0) : OwnLs base (W.alloc (.cells #[] 64)) (.slice (some ⟨W.heap.size, 0, none⟩) 0 cap) [] := by
  subst hm
  exact ⟨[], rfl, World.ownsRow_made W #[] 0 hb (by omega) rfl, fun i hi => by simp at hi⟩
/-- behind an append of one list -/
theorem OwnLs.push {base : Nat} {W W' : World} {v v' u : Value} {L : List (List Nat)} {x : List Nat} {us : List Value} (h1 : us.length = L.length) (h2 : W.ownsRow base 64 1 v L.length us)
    (h3 : ∀ i, i < L.length → ∃ u, us[i]? = some u ∧ W.ownsRow base 2 1 u (L[i]?.getD []).length (rowN (L[i]?.getD []))) (hu : W.ownsRow base 2 1 u x.length (rowN x))
    (hown : W'.ownsRow base 64 1 v' (L.length + 1) (us ++ [u])) (hg : W.grownBy W' v.ownBlock) : OwnLs base W' v' (L ++ [x]) := by
  refine ⟨us ++ [u], by simp [h1], by rw [List.length_append]; exact hown, fun i hi => ?_⟩
  rw [List.length_append] at hi
  simp at hi
  by_cases c : i < L.length
  · obtain ⟨y, e1, e2⟩ := h3 i c
    refine ⟨y, by rw [List.getElem?_append_left (by omega)]; exact e1, ?_⟩
    rw [List.getElem?_append_left c]
    exact e2.kept hg (ll_ne h2 e2)
  · obtain rfl : i = L.length := by omega
    refine ⟨u, by rw [← h1, List.getElem?_append_right (Nat.le_refl _)]; simp, ?_⟩
    rw [List.getElem?_append_right (Nat.le_refl _)]
    simp
    exact hu.kept hg (ll_ne h2 hu)
/-- .. read -/
theorem OwnLs.read {base : Nat} {W : World} {v : Value} {L : List (List Nat)} (h : OwnLs base W v L) : ∃ a cap, v = .slice a L.length cap ∧ L.length ≤ cap ∧ cap ≤ maxLen ∧
    ∀ i, i < L.length → ∃ g u, a = some ⟨g, 0, none⟩ ∧ base ≤ g ∧ g < W.heap.size ∧ W.cell? ⟨g, i, none⟩ = some u ∧ See (L[i]?.getD []) u W := by
  obtain ⟨us, h1, h2, h3⟩ := h
  rcases h2.2 with ⟨e0, e1⟩ | ⟨g, cap, cur, rfl, a1, a2, a3, a4, a5, a6⟩
  · exact ⟨none, 0, by rw [e0, e1], by omega, by unfold maxLen; omega, fun i hi => by omega⟩
  · refine ⟨some ⟨g, 0, none⟩, cap, rfl, a3, a4, fun i hi => ?_⟩
    obtain ⟨u, e1, e2⟩ := h3 i hi
    refine ⟨g, u, rfl, a1, (Array.getElem?_eq_some_iff.1 a2).1, ?_, rowN_see e2 rfl⟩
    have h1 : (cur.toList.take (L.length * 1))[i]? = some u := by rw [a6]; exact e1
    rw [List.getElem?_take_of_lt (by omega)] at h1
    simpa [World.cell?, a2] using h1
theorem ll_info : (Tryd.prog.info? 64).map (fun i => (i.zero, i.size, i.bytes)) = some (some (.slice none 0 0), 1, 24) := by kernel_rfl
end Go.Proofs.YtmgolgmfnljkeaaDoor
