/-
  WHEN A LIST OF VERTICES SHOWS THAT ONE GRAPH IS A PART OF ANOTHER ONE: the program's test and the model's are the same: plain.
-/
import Derived.Test.YtiedombphcdpbaaGreatDoorLists
import Derived.Test.YtiedombphcdpbaaGreatDoorPairs
namespace Go.Proofs.YtiedombphcdpbaaGreatDoor
set_option maxRecDepth 100000

def fits (e f k : Nat) (x : List Nat) : Bool := ((prs k).filter fun p => jn f p.1 p.2).all fun p => jn e (x[p.1]?.getD 0) (x[p.2]?.getD 0)
def partB (n e k f : Nat) : Bool := (lists n k).any (fits e f k)

theorem rowE_bit (e : Nat) (g : Nat → Nat) (j b : Nat) : ∀ i, (rowE e g j i).testBit b = (List.range i).any fun t => jn e (g t) (g j) && decide (pp t j = b)
  | 0 => by simp [rowE]
  | i + 1 => by
    rw [rowE, Nat.testBit_or, rowE_bit e g j b i, List.range_succ, List.any_append]
    congr 1
    cases h : jn e (g i) (g j)
    · simp [h]
    · simp [h, pb, Nat.testBit_two_pow]
theorem onE_bit (e : Nat) (g : Nat → Nat) (b : Nat) : ∀ m, (onE e g m).testBit b = (List.range m).any fun j => (rowE e g j j).testBit b
  | 0 => by simp [onE]
  | m + 1 => by
    rw [onE, Nat.testBit_or, onE_bit e g b m, List.range_succ, List.any_append]
    simp
theorem pp_injB : ((List.range 5).all fun j => (List.range j).all fun i => (List.range 5).all fun j' => (List.range j').all fun i' => pp i j != pp i' j' || (i == i' && j == j')) = true := by decide +kernel
theorem pp_inj (j : Nat) (hj : j ≤ 4) (i : Nat) (hi : i < j) (j' : Nat) (hj' : j' ≤ 4) (i' : Nat) (hi' : i' < j') (h : pp i j = pp i' j') : i = i' ∧ j = j' := by
  have h1 := List.all_eq_true.1 pp_injB j (by simp; omega)
  have h2 := List.all_eq_true.1 h1 i (by simpa using hi)
  have h3 := List.all_eq_true.1 h2 j' (by simp; omega)
  have h4 := List.all_eq_true.1 h3 i' (by simpa using hi')
  simp only [h, bne_self_eq_false, Bool.false_or, Bool.and_eq_true, beq_iff_eq] at h4
  exact h4
theorem onE_at (e : Nat) (g : Nat → Nat) {i j m : Nat} (hij : i < j) (hj : j < m) (hm : m ≤ 5) : (onE e g m).testBit (pp i j) = jn e (g i) (g j) := by
  rw [onE_bit, Bool.eq_iff_iff, List.any_eq_true]
  constructor
  · rintro ⟨j', hj', h⟩
    rw [rowE_bit, List.any_eq_true] at h
    obtain ⟨i', hi', h⟩ := h
    simp only [List.mem_range, Bool.and_eq_true, decide_eq_true_eq] at hi' hj' h
    obtain ⟨rfl, rfl⟩ := pp_inj j (by omega) i hij j' (by omega) i' hi' h.2.symm
    exact h.1
  · intro h
    refine ⟨j, by simpa using hj, ?_⟩
    rw [rowE_bit, List.any_eq_true]
    exact ⟨i, by simpa using hij, by simp [h]⟩
theorem bit_cover : ∀ k, k ≤ 5 → ∀ b, b < pc k → ((prs k).any fun p => pp p.1 p.2 == b) = true := by decide +kernel
theorem prs_lt : ∀ k, k ≤ 5 → ∀ p ∈ prs k, p.1 < p.2 ∧ p.2 < k := by decide +kernel
theorem mem_prsB : ((List.range 6).all fun k => (List.range k).all fun j => (List.range j).all fun i => (prs k).contains (i, j)) = true := by decide +kernel
theorem mem_prs (k : Nat) (hk : k ≤ 5) (j : Nat) (hj : j < k) (i : Nat) (hi : i < j) : (i, j) ∈ prs k := by
  have h1 := List.all_eq_true.1 mem_prsB k (by simp; omega)
  have h2 := List.all_eq_true.1 h1 j (by simpa using hj)
  have h3 := List.all_eq_true.1 h2 i (by simpa using hi)
  simpa using h3

theorem fits_eq {e f k : Nat} {x : List Nat} (hk : k ≤ 5) (hx : x.length = k) (hf : f < eMax k) : (f &&& onL e x == f) = fits e f k x := by
  rw [Bool.eq_iff_iff, beq_iff_eq]
  unfold fits
  rw [List.all_eq_true]
  constructor
  · intro h p hp
    rw [List.mem_filter] at hp
    obtain ⟨h1, h2⟩ := prs_lt k hk p hp.1
    have hb := congrArg (fun t => t.testBit (pp p.1 p.2)) h
    simp only [Nat.testBit_and] at hb
    have hf1 : f.testBit (pp p.1 p.2) = true := hp.2
    rw [hf1, Bool.true_and] at hb
    have := onE_at e (vx (zl x)) h1 (show p.2 < x.length by omega) (by omega)
    rw [show onE e (vx (zl x)) x.length = onL e x from rfl, hb, vx_zl, vx_zl] at this
    exact this.symm
  · intro h
    apply Nat.eq_of_testBit_eq
    intro b
    rw [Nat.testBit_and]
    cases hb : f.testBit b
    · rfl
    · have hlt : b < pc k := by
        rcases Nat.lt_or_ge b (pc k) with c | c
        · exact c
        · have : f.testBit b = false := Nat.testBit_lt_two_pow (Nat.lt_of_lt_of_le (by rw [← eMax_pow k hk]; exact hf) (Nat.pow_le_pow_right (by omega) c))
          rw [this] at hb; cases hb
      obtain ⟨p, hp, he⟩ := List.any_eq_true.1 (bit_cover k hk b hlt)
      rw [beq_iff_eq] at he
      subst he
      obtain ⟨h1, h2⟩ := prs_lt k hk p hp
      have h3 := h p (List.mem_filter.2 ⟨hp, hb⟩)
      have := onE_at e (vx (zl x)) h1 (show p.2 < x.length by omega) (by omega)
      rw [vx_zl, vx_zl, h3] at this
      rw [show onE e (vx (zl x)) x.length = onL e x from rfl] at this
      rw [this]
      rfl
end Go.Proofs.YtiedombphcdpbaaGreatDoor
