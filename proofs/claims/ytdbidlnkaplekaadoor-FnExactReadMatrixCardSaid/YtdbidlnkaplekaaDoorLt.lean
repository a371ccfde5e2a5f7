/-
  THE LINES OF A MATRIX'S TEXT: what both sides read, and that it is one thing.
-/
import Derived.Test.YtdbidlnkaplekaaDoorRwI
import Derived.Test.YtdbidlnkaplekaaDoorFrM
namespace Go.Proofs.YtdbidlnkaplekaaDoor
open Go.RowKit Go.Shelf
set_option maxRecDepth 100000
/-- line by line -/
def LnTx : List (List UInt8) → List (List (Int × Int)) → Prop
  | [], [] => True
  | x :: L, r :: m => RowTx x r ∧ LnTx L m
  | _, _ => False
/-- a line without its newline -/
def RowS (y : List UInt8) (r : List (Int × Int)) : Prop := AllF r ∧ splA 32 [] y = r.map fW
def wAt (ws : List (List UInt8)) (i : Nat) : List UInt8 := ws[i]?.getD []
def mAt (m : List (List (Int × Int))) (i : Nat) : List (Int × Int) := m[i]?.getD []
theorem LnTx.snoc : ∀ {L : List (List UInt8)} {m : List (List (Int × Int))} {x : List UInt8} {r : List (Int × Int)}, LnTx L m → RowTx x r → LnTx (L ++ [x]) (m ++ [r])
  | [], [], _, _, _, h => ⟨h, trivial⟩
  | _ :: _, _ :: _, _, _, h, h2 => ⟨h.1, LnTx.snoc h.2 h2⟩
  | [], _ :: _, _, _, h, _ => h.elim
  | _ :: _, [], _, _, h, _ => h.elim
theorem LnTx.mid : ∀ {pre rest : List (List UInt8)} {m : List (List (Int × Int))} {x : List UInt8}, LnTx (pre ++ x :: rest) m → ∃ r, RowTx x r
  | [], _, _ :: _, _, h => ⟨_, h.1⟩
  | _ :: _, _, _ :: _, _, h => LnTx.mid h.2
  | [], _, [], _, h => h.elim
  | _ :: _, _, [], _, h => h.elim
theorem LnTx.len : ∀ {L : List (List UInt8)} {m : List (List (Int × Int))}, LnTx L m → L.length = m.length
  | [], [], _ => rfl
  | _ :: _, _ :: _, h => by simp [LnTx.len h.2]
  | [], _ :: _, h => h.elim
  | _ :: _, [], h => h.elim
theorem rowTx_at {a : List UInt8} {r : List (Int × Int)} : RowTx (a ++ [10]) r ↔ RowS a r := by
  constructor
  · rintro ⟨h1, y, h2, h3⟩
    obtain rfl := List.append_cancel_right h2
    exact ⟨h1, h3⟩
  · rintro ⟨h1, h2⟩
    exact ⟨h1, a, rfl, h2⟩
theorem fTL_one {p q p' q' : Int} (hv : Fr.VF p q) (hv' : Fr.VF p' q') (h : fTL p q.toNat = fTL p' q'.toNat) : p = p' ∧ q = q' := by
  obtain ⟨n, rfl⟩ : ∃ n : Nat, q = n := ⟨q.toNat, by have := hv.1; omega⟩
  obtain ⟨m, rfl⟩ : ∃ n : Nat, q' = n := ⟨q'.toNat, by have := hv'.1; omega⟩
  have h1 := rd_first hv
  have h2 := rd_first hv'
  rw [show fTL p n = fTL p' m from h] at h1
  have a := h1.1.symm.trans h2.1
  have b := h1.2.symm.trans h2.2
  injection a with a
  injection b with b
  exact ⟨a, b⟩
theorem rowS_one {y : List UInt8} : ∀ {r r' : List (Int × Int)}, AllF r → AllF r' → r.map fW = r'.map fW → r = r'
  | [], [], _, _, _ => rfl
  | [], _ :: _, _, _, h => by simp at h
  | _ :: _, [], _, _, h => by simp at h
  | f :: r, g :: r', h, h', e => by
    simp only [List.map_cons, List.cons.injEq] at e
    obtain ⟨a, b⟩ := fTL_one (h f (by simp)) (h' g (by simp)) e.1
    have hr := rowS_one (y := y) (fun x hx => h x (by simp [hx])) (fun x hx => h' x (by simp [hx])) e.2
    rw [hr]
    congr 1
    exact Prod.ext a b
theorem rowTx_one {x : List UInt8} {r r' : List (Int × Int)} (h : RowTx x r) (h' : RowTx x r') : r = r' := by
  obtain ⟨h1, y, rfl, h2⟩ := h
  obtain ⟨h3, z, h4, h5⟩ := h'
  obtain rfl := List.append_cancel_right h4
  exact rowS_one (y := y) h1 h3 (h2.symm.trans h5)
theorem LnTx.one : ∀ {L : List (List UInt8)} {m m' : List (List (Int × Int))}, LnTx L m → LnTx L m' → m = m'
  | [], [], [], _, _ => rfl
  | _ :: _, _ :: _, _ :: _, h, h' => by rw [rowTx_one h.1 h'.1, LnTx.one h.2 h'.2]
  | [], _ :: _, _, h, _ => h.elim
  | [], [], _ :: _, _, h => h.elim
  | _ :: _, [], _, h, _ => h.elim
  | _ :: _, _ :: _, [], _, h => h.elim
/-- the same by the pieces between newlines -/
def LnI (ws : List (List UInt8)) (m : List (List (Int × Int))) : Prop := m.length + 1 = ws.length ∧ wAt ws (ws.length - 1) = [] ∧ ∀ i, i < m.length → RowS (wAt ws i) (mAt m i)
theorem ln_iff0 : ∀ (k : Nat) (l : List UInt8), l.length ≤ k → ∀ m, LnTx (lnA 10 [] l) m ↔ LnI (splA 10 [] l) m := by
  intro k
  induction k with
  | zero =>
    intro l hl m
    obtain rfl : l = [] := List.length_eq_zero_iff.1 (by omega)
    cases m with
    | nil => exact ⟨fun _ => ⟨rfl, rfl, fun i hi => absurd hi (by simp)⟩, fun _ => trivial⟩
    | cons r m => exact ⟨fun h => h.elim, fun h => by have := h.1; simp [splA] at this⟩
  | succ k ih =>
    intro l hl m
    rcases split_at 10 l with hno | ⟨a, b, rfl, hno⟩
    · rw [lnA_not 10 l [] hno, splA_not 10 l [] hno, List.nil_append]
      by_cases he : l = []
      · subst he
        cases m with
        | nil => exact ⟨fun _ => ⟨rfl, rfl, fun i hi => absurd hi (by simp)⟩, fun _ => trivial⟩
        | cons r m => exact ⟨fun h => h.elim, fun h => by have := h.1; simp at this⟩
      · rw [if_neg he]
        constructor
        · intro h
          cases m with
          | nil => exact h.elim
          | cons r m =>
            obtain ⟨⟨_, y, hy, _⟩, _⟩ := h
            exact absurd rfl (hno 10 (by rw [hy]; simp))
        · intro h
          have := h.2.1
          simp [wAt] at this
          exact absurd this he
    · rw [lnA_at 10 b a [] hno, splA_at 10 b a [] hno, List.nil_append]
      have hne := splA_ne 10 b []
      obtain ⟨S, hS⟩ : ∃ S, splA 10 [] b = S := ⟨_, rfl⟩
      have hI := ih b (by simp at hl; omega)
      rw [hS] at hI hne ⊢
      have hpos : 0 < S.length := List.length_pos_iff.2 hne
      cases m with
      | nil => exact ⟨fun h => h.elim, fun h => by have h1 : 0 + 1 = S.length + 1 := h.1; omega⟩
      | cons r m =>
        have hlast : wAt (a :: S) ((a :: S).length - 1) = wAt S (S.length - 1) := by
          unfold wAt
          rw [show (a :: S).length - 1 = (S.length - 1) + 1 by simp; omega, List.getElem?_cons_succ]
        constructor
        · rintro ⟨h1, h2⟩
          obtain ⟨i1, i2, i3⟩ := (hI m).1 h2
          refine ⟨by simp; omega, hlast.trans i2, fun i hi => ?_⟩
          cases i with
          | zero => exact rowTx_at.1 h1
          | succ i => exact i3 i (by simpa using hi)
        · rintro ⟨i1, i2, i3⟩
          refine ⟨rowTx_at.2 (i3 0 (by simp)), (hI m).2 ⟨by simp at i1; omega, hlast.symm.trans i2, fun i hi => i3 (i + 1) (by simp; omega)⟩⟩
theorem ln_iff (l : List UInt8) (m : List (List (Int × Int))) : LnTx (lnA 10 [] l) m ↔ LnI (splA 10 [] l) m := ln_iff0 l.length l (Nat.le_refl _) m
theorem lnA_cnt : ∀ (l acc : List UInt8), (lnA 10 acc l).length ≤ l.length + acc.length := by
  intro l
  induction l with
  | nil =>
    intro acc
    unfold lnA
    split
    · simp
    · rename_i h
      have := List.length_pos_iff.2 h
      simp
      omega
  | cons c r ih =>
    intro acc
    rw [lnA]
    split
    · have := ih []
      simp at this ⊢
      omega
    · have := ih (acc ++ [c])
      simp at this ⊢
      omega
theorem lnA_len0 (N : Nat) : ∀ (a acc : List UInt8), acc.length + a.length ≤ N → ∀ u ∈ lnA 10 acc a, u.length ≤ N := by
  intro a
  induction a with
  | nil =>
    intro acc h u hu
    unfold lnA at hu
    split at hu
    · simp at hu
    · obtain rfl := List.mem_singleton.1 hu
      simpa using h
  | cons c r ih =>
    intro acc h u hu
    rw [lnA] at hu
    split at hu
    · rcases List.mem_cons.1 hu with rfl | hu
      · simp at h ⊢; omega
      · exact ih [] (by simp at h ⊢; omega) u hu
    · exact ih (acc ++ [c]) (by simp at h ⊢; omega) u hu
theorem splA_cnt2 (x : UInt8) : ∀ (a acc : List UInt8), (splA x acc a).length ≤ a.length + 1 := by
  intro a
  induction a with
  | nil => intro acc; simp [splA]
  | cons c r ih =>
    intro acc
    rw [splA]
    split
    · have := ih []
      simp
      omega
    · have := ih (acc ++ [c])
      simp
      omega
theorem rowTx_len {x : List UInt8} {r : List (Int × Int)} (h : RowTx x r) : r.length ≤ x.length ∧ r ≠ [] := by
  obtain ⟨_, y, rfl, h2⟩ := h
  have h3 := splA_cnt2 32 y []
  rw [h2, List.length_map] at h3
  refine ⟨by simp; omega, fun c => ?_⟩
  subst c
  exact splA_ne 32 y [] h2
theorem LnTx.at : ∀ {L : List (List UInt8)} {m : List (List (Int × Int))}, LnTx L m → ∀ i, i < m.length → ∃ x, x ∈ L ∧ RowTx x (mAt m i)
  | [], [], _, i, hi => absurd hi (by simp)
  | x :: _, _ :: _, h, 0, _ => ⟨x, by simp, h.1⟩
  | _ :: _, _ :: _, h, i + 1, hi => by
    obtain ⟨x, hx, hr⟩ := LnTx.at h.2 i (by simpa using hi)
    exact ⟨x, by simp [hx], hr⟩
  | [], _ :: _, h, _, _ => h.elim
  | _ :: _, [], h, _, _ => h.elim
/-- how large a matrix that is read may be -/
theorem ln_small {l : List UInt8} {m : List (List (Int × Int))} (hl : l.length ≤ 1048576) (h : LnTx (lnA 10 [] l) m) : m.length ≤ 1048576 ∧ ∀ i, i < m.length → (mAt m i).length ≤ 1048576 := by
  have h1 := h.len
  have h2 := lnA_cnt l []
  simp at h2
  refine ⟨by omega, fun i hi => ?_⟩
  obtain ⟨x, hx, hr⟩ := h.at i hi
  have h3 := lnA_len0 l.length l [] (by simp) x hx
  have h4 := (rowTx_len hr).1
  omega
/-- what is read off a text: either it is a valid matrix's, or it is no valid matrix's -/
def RmP (l : List UInt8) (m : List (List (Int × Int))) (c : Int) : Prop := (c = 0 ∧ Fr.VM m ∧ LnTx (lnA 10 [] l) m) ∨ (c = 5 ∧ m = [] ∧ ∀ m', Fr.VM m' → ¬ LnTx (lnA 10 [] l) m')
theorem RmP.one {l : List UInt8} {m m' : List (List (Int × Int))} {c c' : Int} (h : RmP l m c) (h' : RmP l m' c') : m = m' ∧ c = c' := by
  rcases h with ⟨rfl, h1, h2⟩ | ⟨rfl, rfl, h1⟩ <;> rcases h' with ⟨rfl, h3, h4⟩ | ⟨rfl, rfl, h3⟩
  · exact ⟨h2.one h4, rfl⟩
  · exact absurd h2 (h3 _ h1)
  · exact absurd h4 (h1 _ h3)
  · exact ⟨rfl, rfl⟩
end Go.Proofs.YtdbidlnkaplekaaDoor
