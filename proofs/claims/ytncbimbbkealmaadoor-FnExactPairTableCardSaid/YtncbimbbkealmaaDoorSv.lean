/-
  LISTS OF STRUCTS THAT LIE IN A BLOCK OF THEIR OWN: 'OwnV w0 w v l s f': in the world w the value v is a list of l structs of s cells each, in a block that the world w0 did not have; its cells are those of f, and may be written.
-/
import Derived.Test.YtncbimbbkealmaaDoorCfM1
import Derived.Test.YtncbimbbkealmaaDoorBase
namespace Go.Proofs.YtncbimbbkealmaaDoor
open Go.RowKit

/-- N cells of a block, by a function -/
def CV (w : World) (B N : Nat) (f : Nat → Value) : Prop := ∀ i, i < N → w.cell? ⟨B, i, none⟩ = some (f i)
theorem CV.set {w : World} {B l : Nat} {f g : Nat → Value} {k : Nat} {x : Value} (h : CV w B l f) (hk : k < l) (hx : g k = x) (ho : ∀ i, i ≠ k → g i = f i) : CV (w.setCell ⟨B, k, none⟩ x) B l g := by
  intro i hi
  by_cases e : i = k
  · subst e
    rw [World.cell?_setCell_same _ _ _ (h i hi), hx]
  · rw [World.cell?_setCell_other _ _ _ _ (by simp), h i hi, ho i e]
theorem CV.below {w w' : World} {B l : Nat} {f : Nat → Value} (h : CV w B l f) (hb : Below w.heap.size w w') (hB : B < w.heap.size) : CV w' B l f := fun i hi => (hb.cell (p := ⟨B, i, none⟩) hB).trans (h i hi)
theorem CV.congr {w : World} {B l : Nat} {f g : Nat → Value} (h : CV w B l f) (hg : ∀ i, i < l → g i = f i) : CV w B l g := fun i hi => by rw [h i hi, hg i hi]
/-- the first t cells hold the numbers from k on -/
def mkV (s k t : Nat) (f : Nat → Value) (c : Nat) : Value := if c < t then (if c % s = s - 1 then .int .u32 ((k : Int) + (c : Nat)) else .int .i64 ((k : Int) + (c : Nat))) else f c
theorem mkV_zero (s k : Nat) (f : Nat → Value) (c : Nat) : mkV s k 0 f c = f c := by unfold mkV; rw [if_neg (by omega)]
theorem mkV_out {s k t : Nat} {f : Nat → Value} {c : Nat} (h : t ≤ c) : mkV s k t f c = f c := by unfold mkV; rw [if_neg (by omega)]
theorem mkV_old (s k t : Nat) (f : Nat → Value) (c : Nat) (h : c ≠ t) : mkV s k (t + 1) f c = mkV s k t f c := by
  unfold mkV
  by_cases h1 : c < t
  · rw [if_pos h1, if_pos (by omega)]
  · rw [if_neg h1, if_neg (by omega)]
theorem mkV_lo {s k t : Nat} {f : Nat → Value} (h : t % s ≠ s - 1) : mkV s k (t + 1) f t = .int .i64 ((k : Int) + (t : Nat)) := by unfold mkV; rw [if_pos (by omega), if_neg h]
theorem mkV_hi {s k t : Nat} {f : Nat → Value} (h : t % s = s - 1) : mkV s k (t + 1) f t = .int .u32 ((k : Int) + (t : Nat)) := by unfold mkV; rw [if_pos (by omega), if_pos h]
theorem mkV_lo' {s k t N : Nat} {f : Nat → Value} (hN : t < N) (h : t % s ≠ s - 1) : mkV s k N f t = .int .i64 ((k : Int) + (t : Nat)) := by unfold mkV; rw [if_pos hN, if_neg h]
theorem mkV_hi' {s k t N : Nat} {f : Nat → Value} (hN : t < N) (h : t % s = s - 1) : mkV s k N f t = .int .u32 ((k : Int) + (t : Nat)) := by unfold mkV; rw [if_pos hN, if_pos h]
theorem CV.lo {w : World} {B N s k t : Nat} {f : Nat → Value} (h : CV w B N (mkV s k t f)) (ht : t < N) (hs : t % s ≠ s - 1) {x : Int} (hx : x = (k : Int) + (t : Nat)) : CV (w.setCell ⟨B, t, none⟩ (.int .i64 x)) B N (mkV s k (t + 1) f) :=
  h.set ht (by rw [hx]; exact mkV_lo hs) (fun i hi => mkV_old s k t f i hi)
theorem CV.hi {w : World} {B N s k t : Nat} {f : Nat → Value} (h : CV w B N (mkV s k t f)) (ht : t < N) (hs : t % s = s - 1) {x : Int} (hx : x = (k : Int) + (t : Nat)) : CV (w.setCell ⟨B, t, none⟩ (.int .u32 x)) B N (mkV s k (t + 1) f) :=
  h.set ht (by rw [hx]; exact mkV_hi hs) (fun i hi => mkV_old s k t f i hi)
def OwnV (w0 w : World) (v : Value) (l s : Nat) (f : Nat → Value) : Prop :=
  ∃ a cap, v = .slice a l cap ∧ l ≤ cap ∧ cap ≤ 9223372036854775807 ∧ (0 < l → ∃ B, a = some ⟨B, 0, none⟩ ∧ w0.heap.size ≤ B ∧ B < w.heap.size ∧ CV w B (l * s) f ∧ ∀ c, w.frozen? ⟨B, c, none⟩ = false)
theorem OwnV.below {w0 w w' : World} {v : Value} {l s : Nat} {f : Nat → Value} (h : OwnV w0 w v l s f) (hb : Below w.heap.size w w') : OwnV w0 w' v l s f := by
  obtain ⟨a, cap, e, h1, h2, h3⟩ := h
  refine ⟨a, cap, e, h1, h2, fun hl => ?_⟩
  obtain ⟨B, e1, e2, e3, e4, e5⟩ := h3 hl
  exact ⟨B, e1, e2, Nat.lt_of_lt_of_le e3 hb.size, e4.below hb e3, fun c => (hb.frozen (p := ⟨B, c, none⟩) e3).trans (e5 c)⟩
theorem OwnV.mono {w0 w1 w : World} {v : Value} {l s : Nat} {f : Nat → Value} (h : OwnV w1 w v l s f) (hz : w0.heap.size ≤ w1.heap.size) : OwnV w0 w v l s f := by
  obtain ⟨a, cap, e, h1, h2, h3⟩ := h
  refine ⟨a, cap, e, h1, h2, fun hl => ?_⟩
  obtain ⟨B, e1, e2, e3⟩ := h3 hl
  exact ⟨B, e1, by omega, e3⟩
/-- a list that the call itself has built by append -/
theorem ownV_of_row {w0 w : World} {base : Nat} {e : TypeId} {v : Value} {n s : Nat} {xs : List Value} (h : w.ownsRow base e s v n xs) (hb : w0.heap.size ≤ base) : OwnV w0 w v n s (fun c => xs[c]?.getD undef) := by
  obtain ⟨hl, (⟨rfl, h0⟩ | ⟨g, cap, cur, rfl, hg, hh, hn, hc, hs, hx⟩)⟩ := h
  · exact ⟨none, 0, by rw [h0], by omega, by omega, fun c => absurd c (by omega)⟩
  · have hcell : ∀ i, w.cell? ⟨g, i, none⟩ = cur[i]? := fun i => by simp [World.cell?, hh]
    have hm : cap ≤ 9223372036854775807 := by unfold maxLen at hc; omega
    refine ⟨some ⟨g, 0, none⟩, cap, rfl, hn, hm, fun _ => ⟨g, rfl, Nat.le_trans hb hg, (Array.getElem?_eq_some_iff.1 hh).1, fun i hi => ?_, fun o => by simp [World.frozen?, hh]⟩⟩
    have h1 : (cur.toList.take (n * s))[i]? = xs[i]? := by rw [hx]
    rw [List.getElem?_take_of_lt hi] at h1
    rw [hcell]
    have h2 : i < xs.length := by omega
    show cur[i]? = some (xs[i]?.getD undef)
    rw [List.getElem?_eq_getElem h2] at h1 ⊢
    simpa using h1
theorem row_len {w : World} {base : Nat} {e : TypeId} {v : Value} {n s : Nat} {xs : List Value} (h : w.ownsRow base e s v n xs) : xs.length = n * s := h.1
theorem ownsRow_mono {w : World} {base b : Nat} {e : TypeId} {v : Value} {n s : Nat} {xs : List Value} (h : w.ownsRow b e s v n xs) (hb : base ≤ b) : w.ownsRow base e s v n xs := by
  obtain ⟨hl, h | ⟨g, cap, cur, e1, h1, h2⟩⟩ := h
  · exact ⟨hl, .inl h⟩
  · exact ⟨hl, .inr ⟨g, cap, cur, e1, Nat.le_trans hb h1, h2⟩⟩
/-- another list is written -/
theorem OwnV.chg {w0 w w' : World} {v : Value} {l s : Nat} {f : Nat → Value} {Own : Nat → Prop} (h : OwnV w0 w v l s f) (hc : Chg Own w w') (ho : ∀ b, Own b → b < w0.heap.size) : OwnV w0 w' v l s f := by
  obtain ⟨a, cap, e, h1, h2, h3⟩ := h
  refine ⟨a, cap, e, h1, h2, fun hl => ?_⟩
  obtain ⟨B, e1, e2, e3, e4, e5⟩ := h3 hl
  have hs := hc.same B e3 (fun c => by have := ho B c; omega)
  exact ⟨B, e1, e2, Nat.lt_of_lt_of_le e3 hc.size, fun i hi => (World.cell?_of_block (a := ⟨B, i, none⟩) hs).trans (e4 i hi), fun c => (World.frozen?_of_block (a := ⟨B, c, none⟩) hs).trans (e5 c)⟩
theorem Chg.below {w0 w w' : World} {Own : Nat → Prop} (hc : Chg Own w w') (hz : w0.heap.size ≤ w.heap.size) (ho : ∀ b, Own b → w0.heap.size ≤ b) : Below w0.heap.size w w' :=
  ⟨hc.os, hc.tape, hc.output, hc.size, fun k hk => hc.same k (by omega) (fun c => by have := ho k c; omega)⟩
/-- where the list lies -/
theorem OwnV.block {w0 w : World} {v : Value} {l s : Nat} {f : Nat → Value} (h : OwnV w0 w v l s f) (hl : 0 < l) {b : Nat} (hb : Value.ownBlock v = some b) : w0.heap.size ≤ b ∧ b < w.heap.size := by
  obtain ⟨a, cap, rfl, h1, h2, h3⟩ := h
  obtain ⟨B, rfl, e2, e3, _⟩ := h3 hl
  injection hb with hb
  subst hb
  exact ⟨e2, e3⟩
/-- no list -/
theorem ownV_nil {w0 w : World} {s : Nat} {f : Nat → Value} : OwnV w0 w (.slice none 0 0) 0 s f := ⟨none, 0, rfl, by omega, by omega, fun c => absurd c (by omega)⟩
end Go.Proofs.YtncbimbbkealmaaDoor
