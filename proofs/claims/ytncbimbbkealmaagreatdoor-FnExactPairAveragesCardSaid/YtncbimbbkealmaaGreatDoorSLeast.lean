/-
  THE LEAST GRAPH THAT IS ALIKE: the model's contract.
-/
import Derived.Test.YtncbimbbkealmaaGreatDoorFirst
import Derived.Test.YtncbimbbkealmaaGreatDoorLeast
import Derived.Deep.LoopGhost
namespace Go.Proofs.YtncbimbbkealmaaGreatDoor
open Go.RowKit Go.Shelf
set_option maxRecDepth 100000

theorem OwnI.congr {w0 w : World} {v : Value} {l : Nat} {f g : Nat → Int} (h : OwnI w0 w v l f) (hg : ∀ i, i < l → g i = f i) : OwnI w0 w v l g := by
  obtain ⟨a, cap, e, h1, h2, h3⟩ := h
  exact ⟨a, cap, e, h1, h2, fun hz => by obtain ⟨B, e2, h4, h5, h6, h7⟩ := h3 hz; exact ⟨B, e2, h4, h5, h6.congr hg, h7⟩⟩
theorem lst_lf {x : List Nat} {k : Nat} (h : x.length = k) : lst k (lf x) = zl x := by
  apply List.ext_getElem
  · rw [lst_length, zl_length, h]
  · intro i h1 h2
    rw [lst_length] at h1
    simp only [lst, lf, zl, List.getElem_map, List.getElem_range]
    rw [List.getElem?_eq_getElem (by omega)]
    rfl
theorem OwnI.see {w0 w : World} {v : Value} {k : Nat} {x : List Nat} (h : OwnI w0 w v k (lf x)) (hx : x.length = k) : See x v w := by
  have := h.sl
  rw [lst_lf hx] at this
  exact this
theorem lf_range (n i : Nat) (h : i < n) : lf (List.range n) i = (i : Int) := by
  unfold lf
  rw [List.getElem?_range h]
  rfl

/-- a store before the list's block -/
theorem OwnI.sets {w0 w : World} {v : Value} {l : Nat} {f : Nat → Int} (h : OwnI w0 w v l f) {p : Addr} {u : Value} (hp : p.block < w0.heap.size) : OwnI w0 (w.setCell p u) v l f := by
  obtain ⟨a, cap, e, h1, h2, h3⟩ := h
  exact ⟨a, cap, e, h1, h2, fun hz => by
    obtain ⟨B, e2, h4, h5, h6, h7⟩ := h3 hz
    refine ⟨B, e2, h4, by simpa using h5, fun i hi => (World.cell?_setCell_other _ _ _ _ (by rintro rfl; exact absurd hp (by show ¬ B < _; omega))).trans (h6 i hi), fun o ho => by rw [World.frozen?_setCell]; exact h7 o ho⟩⟩
def NextAt (n k : Nat) (w0 : World) (v : Value) (x : List Nat) (w : World) (e : Ending) (w' : World) : Prop :=
  (∃ y, nxt n x = some y ∧ e = .returned (.bool true) ∧ y.length = k ∧ OwnI w0 w' v k (lf y) ∧ Below w0.heap.size w w') ∨ (nxt n x = none ∧ e = .returned (.bool false) ∧ Below w0.heap.size w w')
theorem next_any (w w0 : World) (v : Value) (n k : Nat) (x : List Nat) (h : OwnI w0 w v k (lf x)) (hn : n ≤ 5) (hk : k ≤ 5) (hx : okList n k x = true) :
    Calls Tryz.prog 100 #[v, .int .i64 n] w fun e w' => NextAt n k w0 v x w e w' := by
  obtain ⟨a, cap, rfl, h1, h2, h3⟩ := id h
  have hxk := ok_length hx
  rcases Nat.eq_zero_or_pos k with h0 | h0
  · subst h0
    obtain rfl : x = [] := List.length_eq_zero_iff.1 hxk
    exact (next_zero w a cap n).mono fun e w' ⟨he, hw⟩ => .inr ⟨rfl, he, by subst hw; exact Below.refl _ _⟩
  · obtain ⟨B, rfl, hB0, hB, hc, hf⟩ := h3 h0
    refine (next_some w B cap k n x hxk h0 hk hn h1 h2 (fun i hi => ok_lt hx hi) hc hf).mono fun e w' hp => ?_
    rcases hp with ⟨y, hy, he, hyk, hC, hF, hO⟩ | ⟨hy, he, rfl⟩
    · refine .inl ⟨y, hy, he, hyk, ⟨_, cap, rfl, h1, h2, fun _ => ⟨B, rfl, hB0, Nat.lt_of_lt_of_le hB hO.size, hC, hF⟩⟩, ⟨hO.os, hO.tape, hO.output, hO.size, fun i hi => hO.block i (by omega) (fun e => by injection e; omega)⟩⟩
    · exact .inr ⟨hy, he, Below.refl _ _⟩
theorem sonL_any (w : World) (v : Value) (x : List Nat) (n k e : Nat) (h : See x v w) (hn5 : n ≤ 5) (he : e < 4294967296) (hx : okList n k x = true) :
    Calls Tryz.prog 58 #[.agg #[.int .i64 n, .int .u32 e], v] w fun r w' => r = .returned (.agg #[.int .i64 k, .int .u32 (onL e x : Nat)]) ∧ Below w.heap.size w w' := by
  have := son_any w v (zl x) n e h hn5 he (diff_zl hx)
  rw [zl_length, ok_length hx] at this
  unfold onL
  rw [ok_length hx]
  exact this
theorem P3.put {wr : World} {G : Nat} {n e l acc : Int} (h : P3 wr G n e l acc) (x : Int) : P3 ((wr.setCell ⟨G + 2, 0, none⟩ (.int .i64 l)).setCell ⟨G + 2, 1, none⟩ (.int .u32 x)) G n e l x where
  size := by have := h.size; simpa using this
  g0 := (World.cell?_setCell_other _ _ _ _ (by simp)).trans ((World.cell?_setCell_other _ _ _ _ (by simp)).trans h.g0)
  g1 := (World.cell?_setCell_other _ _ _ _ (by simp)).trans ((World.cell?_setCell_other _ _ _ _ (by simp)).trans h.g1)
  r0 := (World.cell?_setCell_other _ _ _ _ (by simp)).trans ((World.cell?_setCell_other _ _ _ _ (by simp)).trans h.r0)
  r1 := (World.cell?_setCell_other _ _ _ _ (by simp)).trans ((World.cell?_setCell_other _ _ _ _ (by simp)).trans h.r1)
  p0 := (World.cell?_setCell_other _ _ _ _ (by simp)).trans (World.cell?_setCell_same _ _ _ h.p0)
  p1 := World.cell?_setCell_same _ _ _ ((World.cell?_setCell_other _ _ _ _ (by simp)).trans h.p1)
  fr0 := by rw [World.frozen?_setCell, World.frozen?_setCell]; exact h.fr0
  fr1 := by rw [World.frozen?_setCell, World.frozen?_setCell]; exact h.fr1
  fp1 := by rw [World.frozen?_setCell, World.frozen?_setCell]; exact h.fp1

/-- where the model's walk over the lists stands -/
theorem lists_step {n k j : Nat} (hn : n ≤ 5) (hk : k ≤ n) (hj : j < (lists n k).length) {x : List Nat} (hx : (lists n k)[j]? = some x) : nxt n x = (lists n k)[j + 1]? := by
  have := lists_next n hn k hk j hj
  rw [hx] at this
  exact this
theorem take_snoc' {α : Type} {l : List α} {j : Nat} {x : α} (h : l[j]? = some x) : l.take (j + 1) = l.take j ++ [x] := by
  obtain ⟨hj, e⟩ := List.getElem?_eq_some_iff.1 h
  rw [List.take_succ_eq_append_getElem hj, e]
def SlHead (w0 : World) (v : Value) (n k : Nat) (T : List (List Nat) → World → Prop) (c : Nat) (s : Value) (wr : World) : Prop :=
  (∃ j x, j < (lists n k).length ∧ c = (lists n k).length - j ∧ s = .bool true ∧ (lists n k)[j]? = some x ∧ OwnI w0 wr v k (lf x) ∧ T ((lists n k).take j) wr) ∨ (c = 0 ∧ s = .bool false ∧ T (lists n k) wr)

end Go.Proofs.YtncbimbbkealmaaGreatDoor
