/-
  LISTS OF PAIRS OF int64 THAT A CALL MADE: 'OwnA w0 w v ps'; PairsOf: the program's and the model's contracts.
-/
import Derived.Test.YtiedombphcdpbaaDoorDeg
import Derived.RangeFuncBox
import Derived.OwnWalk
import Derived.OwnWalkIn
import Derived.StillTailTactics
namespace Go.Proofs.YtiedombphcdpbaaDoor
open Go.RowKit Go.Shelf
set_option maxRecDepth 100000
attribute [local go_sem] Oper.semAt_some

/-- n cells of a block in pairs, by a function -/
def CA (w : World) (B n : Nat) (f : Nat → Int × Int) : Prop := ∀ i, i < n → w.cell? ⟨B, i * 2, none⟩ = some (.int .i64 (f i).1) ∧ w.cell? ⟨B, i * 2 + 1, none⟩ = some (.int .i64 (f i).2)
theorem CA.below {w w' : World} {B n : Nat} {f : Nat → Int × Int} (h : CA w B n f) (hb : Below w.heap.size w w') (hB : B < w.heap.size) : CA w' B n f :=
  fun i hi => ⟨(hb.cell (p := ⟨B, _, none⟩) hB).trans (h i hi).1, (hb.cell (p := ⟨B, _, none⟩) hB).trans (h i hi).2⟩
theorem CA.congr {w : World} {B n : Nat} {f g : Nat → Int × Int} (h : CA w B n f) (hg : ∀ i, i < n → g i = f i) : CA w B n g := fun i hi => by rw [hg i hi]; exact h i hi
def OwnA (w0 w : World) (v : Value) (n : Nat) (f : Nat → Int × Int) : Prop :=
  ∃ (a : Option Addr) (cap : Nat), v = .slice a n cap ∧ (0 < n → ∃ B, a = some ⟨B, 0, none⟩ ∧ w0.heap.size ≤ B ∧ B < w.heap.size ∧ CA w B n f ∧ ∀ o, w.frozen? ⟨B, o, none⟩ = false)
theorem OwnA.below {w0 w w' : World} {v : Value} {n : Nat} {f : Nat → Int × Int} (h : OwnA w0 w v n f) (hb : Below w.heap.size w w') : OwnA w0 w' v n f := by
  obtain ⟨a, cap, e, h3⟩ := h
  refine ⟨a, cap, e, fun hz => ?_⟩
  obtain ⟨B, e2, h4, h5, h6, h7⟩ := h3 hz
  exact ⟨B, e2, h4, Nat.lt_of_lt_of_le h5 hb.size, h6.below hb h5, fun o => (hb.frozen (p := ⟨B, o, none⟩) h5).trans (h7 o)⟩
def flat (ps : List (Nat × Nat)) : List Value := ps.flatMap fun p => [.int .i64 (p.1 : Int), .int .i64 (p.2 : Int)]
theorem flat_snoc (ps : List (Nat × Nat)) (p : Nat × Nat) : flat (ps ++ [p]) = flat ps ++ [.int .i64 (p.1 : Int), .int .i64 (p.2 : Int)] := by simp [flat]
theorem flat_length (ps : List (Nat × Nat)) : (flat ps).length = ps.length * 2 := by
  induction ps with
  | nil => rfl
  | cons p ps ih => rw [show flat (p :: ps) = [.int .i64 (p.1 : Int), .int .i64 (p.2 : Int)] ++ flat ps from rfl, List.length_append, ih]; simp; omega
def pAt (ps : List (Nat × Nat)) (i : Nat) : Int × Int := (((ps[i]?.getD (0, 0)).1 : Nat), ((ps[i]?.getD (0, 0)).2 : Nat))
theorem flat_get (ps : List (Nat × Nat)) : ∀ i, i < ps.length → (flat ps)[i * 2]? = some (.int .i64 (pAt ps i).1) ∧ (flat ps)[i * 2 + 1]? = some (.int .i64 (pAt ps i).2) := by
  induction ps with
  | nil => intro i hi; simp at hi
  | cons p ps ih =>
    intro i hi
    rw [show flat (p :: ps) = .int .i64 (p.1 : Int) :: .int .i64 (p.2 : Int) :: flat ps from rfl]
    cases i with
    | zero => exact ⟨rfl, rfl⟩
    | succ i =>
      have := ih i (by simpa using hi)
      rw [show (i + 1) * 2 = i * 2 + 1 + 1 by omega]
      simpa [pAt] using this
theorem row_mono {w : World} {base base' : Nat} {e : TypeId} {size : Nat} {v : Value} {n : Nat} {xs : List Value} (h : w.ownsRow base e size v n xs) (hb : base' ≤ base) : w.ownsRow base' e size v n xs := by
  obtain ⟨hl, (h | ⟨g, cap, cur, e1, h1, h2⟩)⟩ := h
  · exact ⟨hl, .inl h⟩
  · exact ⟨hl, .inr ⟨g, cap, cur, e1, Nat.le_trans hb h1, h2⟩⟩
theorem ownA_of_row {w0 w : World} {base : Nat} {e : TypeId} {v : Value} {ps : List (Nat × Nat)} (h : w.ownsRow base e 2 v ps.length (flat ps)) (hb : w0.heap.size ≤ base) : OwnA w0 w v ps.length (pAt ps) := by
  obtain ⟨hl, (⟨rfl, h0⟩ | ⟨g, cap, cur, rfl, hg, hh, hn, hc, hs, hx⟩)⟩ := h
  · exact ⟨none, 0, by rw [h0], fun c => absurd c (by omega)⟩
  · have hcell : ∀ i, w.cell? ⟨g, i, none⟩ = cur[i]? := fun i => by simp [World.cell?, hh]
    have hat : ∀ j u, j < ps.length * 2 → (flat ps)[j]? = some u → cur[j]? = some u := fun j u hj hu => by
      have h1 : (cur.toList.take (ps.length * 2))[j]? = some u := by rw [hx]; exact hu
      rw [List.getElem?_take_of_lt hj] at h1
      simpa using h1
    refine ⟨some ⟨g, 0, none⟩, cap, rfl, fun _ => ⟨g, rfl, Nat.le_trans hb hg, (Array.getElem?_eq_some_iff.1 hh).1, fun i hi => ?_, fun o => by simp [World.frozen?, hh]⟩⟩
    obtain ⟨f0, f1⟩ := flat_get ps i hi
    exact ⟨(hcell _).trans (hat _ _ (by omega) f0), (hcell _).trans (hat _ _ (by omega) f1)⟩

/-- the pairs of all edges -/
def prE (n e : Nat) : List (Nat × Nat) := (prs n).filter fun p => jn e p.1 p.2
theorem prE_len (n e : Nat) (hn : n ≤ 5) : (prE n e).length ≤ 25 := by
  have h1 := List.length_filter_le (fun p : Nat × Nat => jn e p.1 p.2) (prs n)
  have h2 := prs_length n
  have h3 : n * n ≤ 5 * 5 := Nat.mul_le_mul hn hn
  unfold prE
  omega
theorem info_a2 : (Tryd.prog.info? 152).map (fun i => (i.zero, i.size, i.bytes)) = some (some (.agg #[.int .i64 0, .int .i64 0]), 2, 16) := by kernel_rfl

theorem below_putObj' {B : Nat} (A : World) (l : Nat) (o : Obj) (hl : B ≤ l) : Below B A (A.putObj l o) :=
  ⟨rfl, rfl, rfl, by simp [World.putObj], fun k hk => World.putObj_heap_other (by omega)⟩
section
variable (w : World)
end
end Go.Proofs.YtiedombphcdpbaaDoor
