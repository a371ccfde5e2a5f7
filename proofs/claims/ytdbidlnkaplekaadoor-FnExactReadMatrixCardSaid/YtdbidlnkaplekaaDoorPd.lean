/-
  DECIMALS READ BACK: what ParseInt and the model's number say of the digits of a number; cutting and splitting a text at a byte.
-/
import Derived.Test.YtdbidlnkaplekaaDoorTx
import Derived.Lib.ParseIntB
import Derived.Lib.ParseIntBCases
import Derived.Lib.IndexMore
namespace Go.Proofs.YtdbidlnkaplekaaDoor
open Go.RowKit
set_option maxRecDepth 100000
/-- the number that the digits spell behind acc -/
def dvL : Nat → List UInt8 → Option Nat
  | acc, [] => some acc
  | acc, c :: r => if 48 ≤ c.toNat ∧ c.toNat ≤ 57 then dvL (acc * 10 + (c.toNat - 48)) r else none
theorem dvL_app : ∀ (a : List UInt8) (acc : Nat) (b : List UInt8), dvL acc (a ++ b) = (dvL acc a).bind fun n => dvL n b := by
  intro a
  induction a with
  | nil => intro acc b; rfl
  | cons c r ih =>
    intro acc b
    show (if _ then _ else _) = Option.bind (if _ then _ else _) _
    split
    · exact ih _ b
    · rfl
theorem dg_toNat {d : Nat} (h : d < 10) : (UInt8.ofNat (48 + d)).toNat = 48 + d := by
  rw [UInt8.toNat_ofNat']
  omega
theorem dvL_dec (n : Nat) : dvL 0 (Lib.decDigits n) = some n := by
  induction n using Nat.strongRecOn with
  | ind n ih =>
    by_cases h : n < 10
    · rw [dd_lt h]
      show (if _ then _ else _) = _
      rw [dg_toNat h, if_pos (by omega)]
      show some _ = _
      congr 1
      omega
    · rw [dd_ge h, dvL_app, ih (n / 10) (by omega)]
      show (if _ then _ else _) = _
      have hm : n % 10 < 10 := Nat.mod_lt _ (by omega)
      rw [dg_toNat hm, if_pos (by omega)]
      show some _ = _
      congr 1
      omega
theorem dvL_le : ∀ (l : List UInt8) (acc n : Nat), dvL acc l = some n → acc ≤ n := by
  intro l
  induction l with
  | nil => intro acc n h; exact Nat.le_of_eq (Option.some.inj h)
  | cons c r ih =>
    intro acc n h
    rw [dvL] at h
    split at h
    · have := ih _ _ h
      omega
    · cases h
theorem dec_ne (n : Nat) : Lib.decDigits n ≠ [] := by
  by_cases h : n < 10
  · rw [dd_lt h]; simp
  · rw [dd_ge h]; simp
theorem dec_dig (n : Nat) : ∀ c ∈ Lib.decDigits n, 48 ≤ c.toNat ∧ c.toNat ≤ 57 := by
  induction n using Nat.strongRecOn with
  | ind n ih =>
    by_cases h : n < 10
    · rw [dd_lt h]
      intro c hc
      obtain rfl := List.mem_singleton.1 hc
      rw [dg_toNat h]; omega
    · rw [dd_ge h]
      intro c hc
      rcases List.mem_append.1 hc with hc | hc
      · exact ih (n / 10) (by omega) c hc
      · obtain rfl := List.mem_singleton.1 hc
        rw [dg_toNat (Nat.mod_lt _ (by omega))]; omega
/-- no zero in front of more digits -/
theorem dec_head (n : Nat) : ∀ c r, Lib.decDigits n = c :: r → r ≠ [] → c.toNat ≠ 48 := by
  induction n using Nat.strongRecOn with
  | ind n ih =>
    intro c r h hr
    by_cases hn : n < 10
    · rw [dd_lt hn] at h
      exact absurd (List.cons.inj h).2.symm hr
    · rw [dd_ge hn] at h
      cases hd : Lib.decDigits (n / 10) with
      | nil => exact absurd hd (dec_ne _)
      | cons c' r' =>
        rw [hd] at h
        obtain ⟨rfl, h2⟩ := List.cons.inj h
        by_cases h3 : r' = []
        · subst h3
          by_cases h4 : n / 10 < 10
          · rw [dd_lt h4] at hd
            obtain ⟨rfl, _⟩ := List.cons.inj hd
            rw [dg_toNat h4]
            omega
          · rw [dd_ge h4] at hd
            have := congrArg List.length hd
            simp at this
            exact absurd (List.length_eq_zero_iff.1 (by simpa using this)) (dec_ne _)
        · exact ih (n / 10) (by omega) _ _ hd h3
theorem uint_of_dv : ∀ (l : List UInt8) (acc n M : Nat), dvL acc l = some n → n ≤ M → n < 1000000000000000000 → Lib.parseUintM M acc l = .ok n := by
  intro l
  induction l with
  | nil => intro acc n M h _ _; obtain rfl := Option.some.inj h; rfl
  | cons c r ih =>
    intro acc n M h hM hn
    rw [dvL] at h
    split at h
    · rename_i hc
      have hle := dvL_le _ _ _ h
      rw [Lib.parseUintM, if_pos hc, if_neg (by omega), if_neg (by omega)]
      exact ih _ _ _ h hM hn
    · cases h
theorem parse_dec (n : Nat) (h : n < 1000000000000000000) : Lib.parseIntB 64 (Lib.decDigits n) = .ok (n : Int) := by
  have h2 := uint_of_dv _ _ _ (2 ^ 64 - 1) (dvL_dec n) (Nat.le_trans (Nat.le_of_lt h) (by decide)) h
  have hd := dec_dig n
  cases hl : Lib.decDigits n with
  | nil => exact absurd hl (dec_ne n)
  | cons c r =>
    rw [hl] at h2 hd
    have hc := hd c (by simp)
    have e1 : (2 : Nat) ^ (64 - 1) = 9223372036854775808 := by decide
    rw [Lib.parseIntB_plain 64 c r (by omega) (by omega)]
    unfold Lib.parseUintB
    rw [if_neg (by simp), h2]
    simp only [Lib.signlessC]
    rw [if_neg (by rw [e1]; omega)]
theorem parse_neg (n : Nat) (h : n < 1000000000000000000) : Lib.parseIntB 64 (45 :: Lib.decDigits n) = .ok (-(n : Int)) := by
  have h2 := uint_of_dv _ _ _ (2 ^ 64 - 1) (dvL_dec n) (Nat.le_trans (Nat.le_of_lt h) (by decide)) h
  have e1 : (2 : Nat) ^ (64 - 1) = 9223372036854775808 := by decide
  rw [Lib.parseIntB_minus]
  unfold Lib.parseUintB
  rw [if_neg (dec_ne n), h2]
  simp only [Lib.signedC]
  rw [if_neg (by rw [e1]; omega)]
theorem parse_itoa (p : Int) (h1 : -1000000000000000000 < p) (h2 : p < 1000000000000000000) : Lib.parseIntB 64 (Lib.itoa p) = .ok p := by
  by_cases c : p < 0
  · obtain ⟨n, rfl⟩ : ∃ n : Nat, p = -(n : Int) := ⟨p.natAbs, by omega⟩
    rw [Lib.itoa_neg n (by omega)]
    exact parse_neg n (by omega)
  · obtain ⟨n, rfl⟩ : ∃ n : Nat, p = (n : Int) := ⟨p.toNat, by omega⟩
    rw [Lib.itoa_nonneg]
    exact parse_dec n (by omega)
theorem itoa_no (p : Int) (x : UInt8) (hx : x.toNat < 45 ∨ (45 < x.toNat ∧ x.toNat < 48)) : ∀ c ∈ Lib.itoa p, c ≠ x := by
  intro c hc e
  subst e
  by_cases h : p < 0
  · obtain ⟨n, rfl⟩ : ∃ n : Nat, p = -(n : Int) := ⟨p.natAbs, by omega⟩
    rw [Lib.itoa_neg n (by omega)] at hc
    rcases List.mem_cons.1 hc with rfl | hc
    · revert hx; decide
    · have := dec_dig n _ hc
      omega
  · obtain ⟨n, rfl⟩ : ∃ n : Nat, p = (n : Int) := ⟨p.toNat, by omega⟩
    rw [Lib.itoa_nonneg] at hc
    have := dec_dig n _ hc
    omega
theorem index_not : ∀ (a : List UInt8) (x : UInt8), (∀ c ∈ a, c ≠ x) → Lib.index a [x] = -1 := by
  intro a x
  induction a with
  | nil => intro _; rfl
  | cons c r ih =>
    intro h
    have h1 : c ≠ x := h c (by simp)
    rw [Lib.index, ih (fun d hd => h d (by simp [hd]))]
    have e1 : (x == c) = false := by simpa using Ne.symm h1
    simp [List.isPrefixOf, e1]
theorem index_at : ∀ (a b : List UInt8) (x : UInt8), (∀ c ∈ a, c ≠ x) → Lib.index (a ++ x :: b) [x] = a.length := by
  intro a b x
  induction a with
  | nil => intro _; rw [List.nil_append, Lib.index]; simp [List.isPrefixOf]
  | cons c r ih =>
    intro h
    have h1 : c ≠ x := h c (by simp)
    rw [List.cons_append, Lib.index, ih (fun d hd => h d (by simp [hd]))]
    have e1 : (x == c) = false := by simpa using Ne.symm h1
    have e2 : ((r.length : Int) == -1) = false := by simp
    simp [List.isPrefixOf, e1, e2]
theorem cut_not (a : List UInt8) (x : UInt8) (h : ∀ c ∈ a, c ≠ x) : Lib.cut a [x] = (a, [], false) := by
  unfold Lib.cut
  rw [index_not a x h, if_neg (by omega)]
theorem cut_at (a b : List UInt8) (x : UInt8) (h : ∀ c ∈ a, c ≠ x) : Lib.cut (a ++ x :: b) [x] = (a, b, true) := by
  unfold Lib.cut
  rw [index_at a b x h, if_pos (by omega)]
  simp
/-- the words between the bytes x, the first one behind acc -/
def splA (x : UInt8) : List UInt8 → List UInt8 → List (List UInt8)
  | acc, [] => [acc]
  | acc, c :: r => if c = x then acc :: splA x [] r else splA x (acc ++ [c]) r
theorem splA_not (x : UInt8) : ∀ (a acc : List UInt8), (∀ c ∈ a, c ≠ x) → splA x acc a = [acc ++ a] := by
  intro a
  induction a with
  | nil => intro acc _; simp [splA]
  | cons c r ih =>
    intro acc h
    rw [splA, if_neg (h c (by simp)), ih _ (fun d hd => h d (by simp [hd]))]
    simp
theorem splA_at (x : UInt8) (b : List UInt8) : ∀ (a acc : List UInt8), (∀ c ∈ a, c ≠ x) → splA x acc (a ++ x :: b) = (acc ++ a) :: splA x [] b := by
  intro a
  induction a with
  | nil => intro acc _; simp [splA]
  | cons c r ih =>
    intro acc h
    rw [List.cons_append, splA, if_neg (h c (by simp)), ih _ (fun d hd => h d (by simp [hd]))]
    simp
theorem splA_ne (x : UInt8) : ∀ (a acc : List UInt8), splA x acc a ≠ [] := by
  intro a
  induction a with
  | nil => intro acc; simp [splA]
  | cons c r ih => intro acc; rw [splA]; split <;> simp [ih]
theorem splA_len0 (x : UInt8) (N : Nat) : ∀ (a acc : List UInt8), acc.length + a.length ≤ N → ∀ u ∈ splA x acc a, u.length ≤ N := by
  intro a
  induction a with
  | nil => intro acc h u hu; obtain rfl := List.mem_singleton.1 hu; simpa using h
  | cons c r ih =>
    intro acc h u hu
    rw [splA] at hu
    simp at h
    split at hu
    · rcases List.mem_cons.1 hu with rfl | hu
      · omega
      · exact ih [] (by simp; omega) u hu
    · exact ih (acc ++ [c]) (by simp; omega) u hu
theorem splA_len {x : UInt8} {N : Nat} {l : List UInt8} (h : l.length ≤ N) : ∀ u ∈ splA x [] l, u.length ≤ N := splA_len0 x N l [] (by simpa using h)
end Go.Proofs.YtdbidlnkaplekaaDoor
