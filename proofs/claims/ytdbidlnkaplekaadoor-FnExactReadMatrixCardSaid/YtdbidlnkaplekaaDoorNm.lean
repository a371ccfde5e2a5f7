/-
  NUMBERS IN TEXTS: the model's l01Number and l02Whole.
-/
import Derived.Test.YtdbidlnkaplekaaDoorPd
namespace Go.Proofs.YtdbidlnkaplekaaDoor
open Go.RowKit
set_option maxRecDepth 100000
attribute [local go_sem] Oper.semAt_some
attribute [-go_sem] run_index_string
/-- what is read: a number and whether it is one; the digits of a small number are read as it -/
def NumR (B : Nat) (l : List UInt8) (n : Nat) (b : Bool) : Prop := n ≤ B ∧ ∀ m, m ≤ B → l = Lib.decDigits m → n = m ∧ b = true
theorem numR_bad {B : Nat} {l : List UInt8} (h : ∀ m, m ≤ B → l ≠ Lib.decDigits m) : NumR B l 0 false := ⟨Nat.zero_le _, fun m hm e => absurd e (h m hm)⟩
theorem dec_len9 {m : Nat} (h : m ≤ 999999999) : (Lib.decDigits m).length ≤ 9 := by
  have : ∀ k m : Nat, m < 10 ^ (k + 1) → (Lib.decDigits m).length ≤ k + 1 := by
    intro k
    induction k with
    | zero => intro m hm; rw [dd_lt (by simpa using hm)]; simp
    | succ k ih =>
      intro m hm
      by_cases h : m < 10
      · rw [dd_lt h]; simp
      · rw [dd_ge h]
        have := ih (m / 10) (by rw [Nat.pow_succ] at hm; omega)
        simp
        omega
  exact this 8 m (by omega)
section
variable (w : World)
set_option maxHeartbeats 2000000 in
theorem snum_any (l : List UInt8) (hl : l.length ≤ 2000000) :
    Calls Tryd.prog 15 #[.string (tx l)] w fun r w' => (∃ (n : Nat) (b : Bool), r = .returned (.tuple #[.int .i64 n, .bool b]) ∧ NumR 999999999 l n b) ∧ Below w.heap.size w w' := by
  have hix : ∀ k (hk : k < l.length), ∀ W : World, (Instr.index 9 (.string (tx l)) (.int .i64 (k : Int))).run Tryd.prog W = .ok (.int .u8 (l[k].toNat : Int)) W := fun k hk W => by
    rw [run_index_string _ _ _ _ _ Tryd.underlying9, dif_pos ⟨by omega, by rw [tx_size]; omega⟩]
    rfl
  have hsz := tx_size l
  replace hix := Lib.hid hix
  obtain ⟨s, hs⟩ : ∃ s, tx l = s := ⟨_, rfl⟩
  rw [hs] at hix hsz ⊢
  clear hs
  by_cases c1 : l.length < 1
  · have d1 := decide_eq_true (show ((l.length : Nat) : Int) < 1 by omega)
    have hR : NumR 999999999 l 0 false := numR_bad fun m _ e => by
      have := List.length_pos_iff.2 (dec_ne m)
      rw [e] at c1
      omega
    clear hix
    replace hR := Lib.hid hR
    go_enter Tryd.func15, Tryd.ntmps15
    go_wp2
    go_ret2
    exact ⟨⟨0, false, rfl, hR.out⟩, by (repeat (first | exact Below.refl _ _ | assumption | refine bchain (by assumption) ?_ | refine balloc ?_ _ | apply Below.drew | apply below_drewN | (refine Below.alloc ?_ (by (try simp) <;> omega) _) | (refine Below.setCell ?_ (by (try simp) <;> omega) _)))⟩
  have d1 := decide_eq_false (show ¬ ((l.length : Nat) : Int) < 1 by omega)
  by_cases c2 : 9 < l.length
  · have d2 := decide_eq_true (show (9 : Int) < ((l.length : Nat) : Int) by omega)
    have hR : NumR 999999999 l 0 false := numR_bad fun m hm e => by
      have := dec_len9 hm
      rw [e] at c2
      omega
    clear hix
    replace hR := Lib.hid hR
    go_enter Tryd.func15, Tryd.ntmps15
    go_wp2
    go_ret2
    exact ⟨⟨0, false, rfl, hR.out⟩, by (repeat (first | exact Below.refl _ _ | assumption | refine bchain (by assumption) ?_ | refine balloc ?_ _ | apply Below.drew | apply below_drewN | (refine Below.alloc ?_ (by (try simp) <;> omega) _) | (refine Below.setCell ?_ (by (try simp) <;> omega) _)))⟩
  have d2 := decide_eq_false (show ¬ (9 : Int) < ((l.length : Nat) : Int) by omega)
  have h0 : 0 < l.length := by omega
  have hx0 : ∀ W : World, (Instr.index 9 (.string s) (.int .i64 0)).run Tryd.prog W = .ok (.int .u8 (l[0].toNat : Int)) W := hix.out 0 h0
  obtain ⟨z, hz⟩ : ∃ z : Nat, l[0].toNat = z := ⟨_, rfl⟩
  rw [hz] at hx0
  by_cases c3 : z = 48 ∧ 1 < l.length
  · have d3 : ((z : Int) == 48) = true := by simp; omega
    have d4 := decide_eq_true (show (1 : Int) < ((l.length : Nat) : Int) by omega)
    have hR : NumR 999999999 l 0 false := numR_bad fun m hm e => by
      subst e
      cases hd : Lib.decDigits m with
      | nil => exact absurd hd (dec_ne m)
      | cons c r =>
        refine dec_head m c r hd (fun hr => ?_) ?_
        · subst hr
          have h9 := c3.2
          rw [hd] at h9
          simp at h9
        · simp only [hd, List.getElem_cons_zero] at hz
          omega
    clear hix hz
    replace hR := Lib.hid hR
    go_enter Tryd.func15, Tryd.ntmps15
    go_wp2
    go_ret2
    exact ⟨⟨0, false, rfl, hR.out⟩, by (repeat (first | exact Below.refl _ _ | assumption | refine bchain (by assumption) ?_ | refine balloc ?_ _ | apply Below.drew | apply below_drewN | (refine Below.alloc ?_ (by (try simp) <;> omega) _) | (refine Below.setCell ?_ (by (try simp) <;> omega) _)))⟩
  have hH := Lib.hid (show z ≠ 48 ∨ ¬ (1 < l.length) by omega)
  have hdv : ∀ k, k ≤ l.length → ∀ n, dvL 0 (l.take k) = some n → (∀ hk : k < l.length, dvL 0 (l.take (k + 1)) = if 48 ≤ l[k].toNat ∧ l[k].toNat ≤ 57 then some (n * 10 + (l[k].toNat - 48)) else none) := fun k _ n hn hk => by
    rw [List.take_add_one, List.getElem?_eq_getElem hk]
    show dvL 0 (l.take k ++ [l[k]]) = _
    rw [dvL_app, hn]
    rfl
  replace hdv := Lib.hid hdv
  have hbad : ∀ k (hk : k < l.length), ¬ (48 ≤ l[k].toNat ∧ l[k].toNat ≤ 57) → NumR 999999999 l 0 false := fun k hk hc => numR_bad fun m _ e => hc (by
    subst e
    exact dec_dig m _ (List.getElem_mem hk))
  replace hbad := Lib.hid hbad
  have hgood : ∀ n, dvL 0 l = some n → n < 10 ^ l.length → NumR 999999999 l n true := fun n hn hb => by
    refine ⟨?_, fun m _ e => ⟨?_, rfl⟩⟩
    · have h1 : 10 ^ l.length ≤ 10 ^ 9 := Nat.pow_le_pow_right (by omega) (by omega)
      have h2 : (10 : Nat) ^ 9 = 1000000000 := by decide
      omega
    · subst e
      rw [dvL_dec] at hn
      exact (Option.some.inj hn).symm
  replace hgood := Lib.hid hgood
  have hk9 : ∀ k, k ≤ l.length → (10 : Nat) ^ k ≤ 1000000000 := fun k hk => by
    have h1 : 10 ^ k ≤ 10 ^ 9 := Nat.pow_le_pow_right (by omega) (by omega)
    have h2 : (10 : Nat) ^ 9 = 1000000000 := by decide
    omega
  replace hk9 := Lib.hid hk9
  have hend : Hid (l.take l.length = l) := List.take_length
  clear hl hz
  have main : (∀ b : Bool, Hid (((z : Int) == 48) = b) → Hid (b = true → decide ((1 : Int) < ((l.length : Nat) : Int)) = false) → Calls Tryd.prog 15 #[.string s] w fun r w' => (∃ (n : Nat) (b : Bool), r = .returned (.tuple #[.int .i64 n, .bool b]) ∧ NumR 999999999 l n b) ∧ Below w.heap.size w w') := by
    intro b e3 e4
    replace e3 := e3.out
    have hl9 : l.length ≤ 9 := by omega
    clear hH c3 c1 c2
    cases b
    all_goals
      try (have e5 := e4.out rfl)
      clear e4
      go_enter Tryd.func15, Tryd.ntmps15
      go_wp2
      clear e3 hx0
      try clear e5
      go_loopw [4, 5] (fun q i wr => ∃ k n : Nat, k ≤ l.length ∧ i = .int .i64 k ∧ q = .int .i64 n ∧ n < 10 ^ k ∧ Hid (dvL 0 (l.take k) = some n) ∧ Below w.heap.size w wr) (fun _ i _ => l.length - (intOf i).toNat)
      case atStart => exact ⟨0, 0, by omega, rfl, rfl, by simp, (show dvL 0 [] = some 0 from rfl), by (repeat (first | exact Below.refl _ _ | assumption | refine bchain (by assumption) ?_ | refine balloc ?_ _ | apply Below.drew | apply below_drewN | (refine Below.alloc ?_ (by (try simp) <;> omega) _) | (refine Below.setCell ?_ (by (try simp) <;> omega) _)))⟩
      case round =>
        obtain ⟨k, n, hk, rfl, rfl, hn, hd, hb⟩ := hrel
        have hkk := hk9.out k hk
        by_cases hlt : k < l.length
        · have hdd := decide_eq_true (show ((k : Int) < ((l.length : Nat) : Int)) by omega)
          have hx := hix.out k hlt
          have hnx := hdv.out k hk n hd.out hlt
          have hbd := hbad.out k hlt
          obtain ⟨c, hc⟩ : ∃ c : Nat, l[k].toNat = c := ⟨_, rfl⟩
          rw [hc] at hx hnx hbd
          have hc256 : c < 256 := by rw [← hc]; exact UInt8.toNat_lt _
          clear hc
          replace hnx := Lib.hid hnx
          replace hbd := Lib.hid hbd
          by_cases ha : c < 48
          · have f1 := decide_eq_true (show ((c : Int) < 48) by omega)
            have hR := Lib.hid (hbd.out (by omega))
            go_wp2
            go_ret2
            exact ⟨⟨0, false, rfl, hR.out⟩, by (repeat (first | exact Below.refl _ _ | assumption | refine bchain (by assumption) ?_ | refine balloc ?_ _ | apply Below.drew | apply below_drewN | (refine Below.alloc ?_ (by (try simp) <;> omega) _) | (refine Below.setCell ?_ (by (try simp) <;> omega) _)))⟩
          have f1 := decide_eq_false (show ¬ ((c : Int) < 48) by omega)
          by_cases hb2 : 57 < c
          · have f2 := decide_eq_true (show ((57 : Int) < (c : Int)) by omega)
            have hR := Lib.hid (hbd.out (by omega))
            go_wp2
            go_ret2
            exact ⟨⟨0, false, rfl, hR.out⟩, by (repeat (first | exact Below.refl _ _ | assumption | refine bchain (by assumption) ?_ | refine balloc ?_ _ | apply Below.drew | apply below_drewN | (refine Below.alloc ?_ (by (try simp) <;> omega) _) | (refine Below.setCell ?_ (by (try simp) <;> omega) _)))⟩
          have f2 := decide_eq_false (show ¬ ((57 : Int) < (c : Int)) by omega)
          have ew1 : IntKind.i64.wrap ((n : Int) * 10) = (n : Int) * 10 := IntWalk.i64_in _ (by omega)
          have ew2 : IntKind.u8.wrap ((c : Int) - 48) = (c : Int) - 48 := by rw [IntKind.wrap_u8]; omega
          have ew3 : IntKind.i64.wrap ((c : Int) - 48) = (c : Int) - 48 := IntWalk.i64_in _ (by omega)
          have ew4 : IntKind.i64.wrap ((n : Int) * 10 + ((c : Int) - 48)) = (n : Int) * 10 + ((c : Int) - 48) := IntWalk.i64_in _ (by omega)
          have hd2 : Hid (dvL 0 (l.take (k + 1)) = some (n * 10 + (c - 48))) := by
            have := hnx.out
            rw [if_pos (by omega)] at this
            exact this
          go_wp2
          go_roundw
          case rel => exact ⟨k + 1, n * 10 + (c - 48), by omega, by go_num, by congr 1; omega, by rw [Nat.pow_succ]; omega, hd2, by (repeat (first | exact Below.refl _ _ | assumption | refine bchain (by assumption) ?_ | refine balloc ?_ _ | apply Below.drew | apply below_drewN | (refine Below.alloc ?_ (by (try simp) <;> omega) _) | (refine Below.setCell ?_ (by (try simp) <;> omega) _)))⟩
          case measure => simp [intOf]; omega
        · have hdd := decide_eq_false (show ¬ ((k : Int) < ((l.length : Nat) : Int)) by omega)
          obtain rfl : k = l.length := by omega
          have hR : Hid (NumR 999999999 l n true) := hgood.out n (by have := hd.out; rwa [hend.out] at this) hn
          go_wp2
          go_ret2
          exact ⟨⟨n, true, rfl, hR.out⟩, by (repeat (first | exact Below.refl _ _ | assumption | refine bchain (by assumption) ?_ | refine balloc ?_ _ | apply Below.drew | apply below_drewN | (refine Below.alloc ?_ (by (try simp) <;> omega) _) | (refine Below.setCell ?_ (by (try simp) <;> omega) _)))⟩
  by_cases c4 : z = 48
  · exact main true (Lib.hid (show ((z : Int) == 48) = true by simp; omega)) (Lib.hid (fun _ => decide_eq_false (by have := hH.out; omega)))
  · exact main false (Lib.hid (show ((z : Int) == 48) = false by simp; omega)) (Lib.hid (fun h => by cases h))
end
end Go.Proofs.YtdbidlnkaplekaaDoor
