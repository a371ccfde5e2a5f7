/-
  NUMBERS IN TEXTS, BOTH DIRECTIONS: the model's l01Number reads just what is a number's digits.
-/
import Derived.Test.YtdbidlnkaplekaaDoorNm
namespace Go.Proofs.YtdbidlnkaplekaaDoor
open Go.RowKit
set_option maxRecDepth 100000
attribute [local go_sem] Oper.semAt_some
attribute [-go_sem] run_index_string
theorem dvL_pos : ∀ (l : List UInt8) (c : UInt8) (n : Nat), c.toNat ≠ 48 → dvL 0 (c :: l) = some n → 0 < n := by
  intro l c n hc h
  rw [dvL] at h
  split at h
  · have := dvL_le _ _ _ h
    omega
  · cases h
/-- digits without a zero in front are the digits of what they spell -/
theorem dv_dec0 : ∀ (k : Nat) (l : List UInt8), l.length = k → 0 < k → (∀ c r, l = c :: r → r ≠ [] → c.toNat ≠ 48) → ∀ n, dvL 0 l = some n → Lib.decDigits n = l := by
  intro k
  induction k with
  | zero => intro l _ h; omega
  | succ k ih =>
    intro l hl _ hz n hn
    obtain ⟨a, c, rfl⟩ : ∃ a c, l = a ++ [c] := ⟨l.dropLast, l.getLast (by intro e; rw [e] at hl; simp at hl), (List.dropLast_concat_getLast _).symm⟩
    rw [dvL_app] at hn
    cases ha : dvL 0 a with
    | none => rw [ha] at hn; cases hn
    | some m =>
      rw [ha] at hn
      have hn2 : dvL m [c] = some n := hn
      rw [dvL] at hn2
      split at hn2
      · rename_i hc
        have hn3 : m * 10 + (c.toNat - 48) = n := Option.some.inj hn2
        have hcc : UInt8.ofNat (48 + (c.toNat - 48)) = c := by rw [show 48 + (c.toNat - 48) = c.toNat by omega]; simp
        by_cases h0 : a = []
        · subst h0
          obtain rfl : 0 = m := Option.some.inj ha
          rw [dd_lt (by omega), List.nil_append, ← hn3, Nat.zero_mul, Nat.zero_add, hcc]
        · have hal : a.length = k := by simpa using hl
          have hk0 : 0 < k := by rw [← hal]; exact List.length_pos_iff.2 h0
          have hza : ∀ c r, a = c :: r → r ≠ [] → c.toNat ≠ 48 := fun d r e hr => hz d (r ++ [c]) (by rw [e]; rfl) (by simp)
          have hd := ih a hal hk0 hza m ha
          have hm : 0 < m := by
            cases e : a with
            | nil => exact absurd e h0
            | cons d r => rw [e] at ha; exact dvL_pos r d m (hz d (r ++ [c]) (by rw [e]; rfl) (by simp)) ha
          rw [dd_ge (by omega), show n / 10 = m by omega, hd, show n % 10 = c.toNat - 48 by omega, hcc]
      · cases hn2
theorem dv_dec {l : List UInt8} (h0 : 0 < l.length) (hz : ∀ c r, l = c :: r → r ≠ [] → c.toNat ≠ 48) {n : Nat} (h : dvL 0 l = some n) : Lib.decDigits n = l := dv_dec0 _ l rfl h0 hz n h
/-- what is read, and that it is a number's digits -/
def NumS (B : Nat) (l : List UInt8) (n : Nat) (b : Bool) : Prop := NumR B l n b ∧ (b = true → l = Lib.decDigits n)
theorem numS_bad {B : Nat} {l : List UInt8} (h : ∀ m, m ≤ B → l ≠ Lib.decDigits m) : NumS B l 0 false := ⟨numR_bad h, fun c => by cases c⟩
section
variable (w : World)
set_option maxHeartbeats 2000000 in
theorem snumS_any (l : List UInt8) (hl : l.length ≤ 2000000) :
    Calls Tryd.prog 15 #[.string (tx l)] w fun r w' => (∃ (n : Nat) (b : Bool), r = .returned (.tuple #[.int .i64 n, .bool b]) ∧ NumS 999999999 l n b) ∧ Below w.heap.size w w' := by
  have hix : ∀ k (hk : k < l.length), ∀ W : World, (Instr.index 9 (.string (tx l)) (.int .i64 (k : Int))).run Tryd.prog W = .ok (.int .u8 (l[k].toNat : Int)) W := fun k hk W => by
    rw [run_index_string _ _ _ _ _ Tryd.underlying9, dif_pos ⟨by omega, by rw [tx_size]; omega⟩]
    rfl
  have hsz := tx_size l
  replace hix := Lib.hid hix
  obtain ⟨s, hs⟩ : ∃ s, tx l = s := ⟨_, rfl⟩
  rw [hs] at hix hsz ⊢
  clear hs
  by_cases c1 : l.length < 1
  · have d1 := decide_eq_true (show ((l.length : Nat) : Int) < 1 by omega)
    have hR : NumS 999999999 l 0 false := numS_bad fun m _ e => by
      have := List.length_pos_iff.2 (dec_ne m)
      rw [e] at c1
      omega
    clear hix
    replace hR := Lib.hid hR
    go_enter Tryd.func15, Tryd.ntmps15
    go_wp2
    go_ret2
    exact ⟨⟨0, false, rfl, hR.out⟩, by (repeat (first | exact Below.refl _ _ | assumption | refine bchain (by assumption) ?_ | refine balloc ?_ _ | apply Below.drew | apply below_drewN | (refine Below.alloc ?_ (by (try simp) <;> omega) _) | (refine Below.setCell ?_ (by (try simp) <;> omega) _)))⟩
  have d1 := decide_eq_false (show ¬ ((l.length : Nat) : Int) < 1 by omega)
  by_cases c2 : 9 < l.length
  · have d2 := decide_eq_true (show (9 : Int) < ((l.length : Nat) : Int) by omega)
    have hR : NumS 999999999 l 0 false := numS_bad fun m hm e => by
      have := dec_len9 hm
      rw [e] at c2
      omega
    clear hix
    replace hR := Lib.hid hR
    go_enter Tryd.func15, Tryd.ntmps15
    go_wp2
    go_ret2
    exact ⟨⟨0, false, rfl, hR.out⟩, by (repeat (first | exact Below.refl _ _ | assumption | refine bchain (by assumption) ?_ | refine balloc ?_ _ | apply Below.drew | apply below_drewN | (refine Below.alloc ?_ (by (try simp) <;> omega) _) | (refine Below.setCell ?_ (by (try simp) <;> omega) _)))⟩
  have d2 := decide_eq_false (show ¬ (9 : Int) < ((l.length : Nat) : Int) by omega)
  have h0 : 0 < l.length := by omega
  have hx0 : ∀ W : World, (Instr.index 9 (.string s) (.int .i64 0)).run Tryd.prog W = .ok (.int .u8 (l[0].toNat : Int)) W := hix.out 0 h0
  obtain ⟨z, hz⟩ : ∃ z : Nat, l[0].toNat = z := ⟨_, rfl⟩
  rw [hz] at hx0
  by_cases c3 : z = 48 ∧ 1 < l.length
  · have d3 : ((z : Int) == 48) = true := by simp; omega
    have d4 := decide_eq_true (show (1 : Int) < ((l.length : Nat) : Int) by omega)
    have hR : NumS 999999999 l 0 false := numS_bad fun m hm e => by
      subst e
      cases hd : Lib.decDigits m with
      | nil => exact absurd hd (dec_ne m)
      | cons c r =>
        refine dec_head m c r hd (fun hr => ?_) ?_
        · subst hr
          have h9 := c3.2
          rw [hd] at h9
          simp at h9
        · simp only [hd, List.getElem_cons_zero] at hz
          omega
    clear hix hz
    replace hR := Lib.hid hR
    go_enter Tryd.func15, Tryd.ntmps15
    go_wp2
    go_ret2
    exact ⟨⟨0, false, rfl, hR.out⟩, by (repeat (first | exact Below.refl _ _ | assumption | refine bchain (by assumption) ?_ | refine balloc ?_ _ | apply Below.drew | apply below_drewN | (refine Below.alloc ?_ (by (try simp) <;> omega) _) | (refine Below.setCell ?_ (by (try simp) <;> omega) _)))⟩
  have hH := Lib.hid (show z ≠ 48 ∨ ¬ (1 < l.length) by omega)
  have hdv : ∀ k, k ≤ l.length → ∀ n, dvL 0 (l.take k) = some n → (∀ hk : k < l.length, dvL 0 (l.take (k + 1)) = if 48 ≤ l[k].toNat ∧ l[k].toNat ≤ 57 then some (n * 10 + (l[k].toNat - 48)) else none) := fun k _ n hn hk => by
    rw [List.take_add_one, List.getElem?_eq_getElem hk]
    show dvL 0 (l.take k ++ [l[k]]) = _
    rw [dvL_app, hn]
    rfl
  replace hdv := Lib.hid hdv
  have hbad : ∀ k (hk : k < l.length), ¬ (48 ≤ l[k].toNat ∧ l[k].toNat ≤ 57) → NumS 999999999 l 0 false := fun k hk hc => numS_bad fun m _ e => hc (by
    subst e
    exact dec_dig m _ (List.getElem_mem hk))
  replace hbad := Lib.hid hbad
  have hzz : ∀ c r, l = c :: r → r ≠ [] → c.toNat ≠ 48 := fun c r e hr => by
    subst e
    have h3 := hH.out
    have h4 := List.length_pos_iff.2 hr
    simp only [List.getElem_cons_zero] at hz
    simp only [List.length_cons] at h3
    omega
  have hgood : ∀ n, dvL 0 l = some n → n < 10 ^ l.length → NumS 999999999 l n true := fun n hn hb => by
    refine ⟨⟨?_, fun m _ e => ⟨?_, rfl⟩⟩, fun _ => (dv_dec (by omega) (fun c r e hr => hzz c r e hr) hn).symm⟩
    · have h1 : 10 ^ l.length ≤ 10 ^ 9 := Nat.pow_le_pow_right (by omega) (by omega)
      have h2 : (10 : Nat) ^ 9 = 1000000000 := by decide
      omega
    · subst e
      rw [dvL_dec] at hn
      exact (Option.some.inj hn).symm
  clear hzz
  replace hgood := Lib.hid hgood
  have hk9 : ∀ k, k ≤ l.length → (10 : Nat) ^ k ≤ 1000000000 := fun k hk => by
    have h1 : 10 ^ k ≤ 10 ^ 9 := Nat.pow_le_pow_right (by omega) (by omega)
    have h2 : (10 : Nat) ^ 9 = 1000000000 := by decide
    omega
  replace hk9 := Lib.hid hk9
  have hend : Hid (l.take l.length = l) := List.take_length
  clear hl hz
  have main : (∀ b : Bool, Hid (((z : Int) == 48) = b) → Hid (b = true → decide ((1 : Int) < ((l.length : Nat) : Int)) = false) → Calls Tryd.prog 15 #[.string s] w fun r w' => (∃ (n : Nat) (b : Bool), r = .returned (.tuple #[.int .i64 n, .bool b]) ∧ NumS 999999999 l n b) ∧ Below w.heap.size w w') := by
    intro b e3 e4
    replace e3 := e3.out
    have hl9 : l.length ≤ 9 := by omega
    clear hH c3 c1 c2
    cases b
    all_goals
      try (have e5 := e4.out rfl)
      clear e4
      go_enter Tryd.func15, Tryd.ntmps15
      go_wp2
      clear e3 hx0
      try clear e5
      go_loopw [4, 5] (fun q i wr => ∃ k n : Nat, k ≤ l.length ∧ i = .int .i64 k ∧ q = .int .i64 n ∧ n < 10 ^ k ∧ Hid (dvL 0 (l.take k) = some n) ∧ Below w.heap.size w wr) (fun _ i _ => l.length - (intOf i).toNat)
      case atStart => exact ⟨0, 0, by omega, rfl, rfl, by simp, (show dvL 0 [] = some 0 from rfl), by (repeat (first | exact Below.refl _ _ | assumption | refine bchain (by assumption) ?_ | refine balloc ?_ _ | apply Below.drew | apply below_drewN | (refine Below.alloc ?_ (by (try simp) <;> omega) _) | (refine Below.setCell ?_ (by (try simp) <;> omega) _)))⟩
      case round =>
        obtain ⟨k, n, hk, rfl, rfl, hn, hd, hb⟩ := hrel
        have hkk := hk9.out k hk
        by_cases hlt : k < l.length
        · have hdd := decide_eq_true (show ((k : Int) < ((l.length : Nat) : Int)) by omega)
          have hx := hix.out k hlt
          have hnx := hdv.out k hk n hd.out hlt
          have hbd := hbad.out k hlt
          obtain ⟨c, hc⟩ : ∃ c : Nat, l[k].toNat = c := ⟨_, rfl⟩
          rw [hc] at hx hnx hbd
          have hc256 : c < 256 := by rw [← hc]; exact UInt8.toNat_lt _
          clear hc
          replace hnx := Lib.hid hnx
          replace hbd := Lib.hid hbd
          by_cases ha : c < 48
          · have f1 := decide_eq_true (show ((c : Int) < 48) by omega)
            have hR := Lib.hid (hbd.out (by omega))
            go_wp2
            go_ret2
            exact ⟨⟨0, false, rfl, hR.out⟩, by (repeat (first | exact Below.refl _ _ | assumption | refine bchain (by assumption) ?_ | refine balloc ?_ _ | apply Below.drew | apply below_drewN | (refine Below.alloc ?_ (by (try simp) <;> omega) _) | (refine Below.setCell ?_ (by (try simp) <;> omega) _)))⟩
          have f1 := decide_eq_false (show ¬ ((c : Int) < 48) by omega)
          by_cases hb2 : 57 < c
          · have f2 := decide_eq_true (show ((57 : Int) < (c : Int)) by omega)
            have hR := Lib.hid (hbd.out (by omega))
            go_wp2
            go_ret2
            exact ⟨⟨0, false, rfl, hR.out⟩, by (repeat (first | exact Below.refl _ _ | assumption | refine bchain (by assumption) ?_ | refine balloc ?_ _ | apply Below.drew | apply below_drewN | (refine Below.alloc ?_ (by (try simp) <;> omega) _) | (refine Below.setCell ?_ (by (try simp) <;> omega) _)))⟩
          have f2 := decide_eq_false (show ¬ ((57 : Int) < (c : Int)) by omega)
          have ew1 : IntKind.i64.wrap ((n : Int) * 10) = (n : Int) * 10 := IntWalk.i64_in _ (by omega)
          have ew2 : IntKind.u8.wrap ((c : Int) - 48) = (c : Int) - 48 := by rw [IntKind.wrap_u8]; omega
          have ew3 : IntKind.i64.wrap ((c : Int) - 48) = (c : Int) - 48 := IntWalk.i64_in _ (by omega)
          have ew4 : IntKind.i64.wrap ((n : Int) * 10 + ((c : Int) - 48)) = (n : Int) * 10 + ((c : Int) - 48) := IntWalk.i64_in _ (by omega)
          have hd2 : Hid (dvL 0 (l.take (k + 1)) = some (n * 10 + (c - 48))) := by
            have := hnx.out
            rw [if_pos (by omega)] at this
            exact this
          go_wp2
          go_roundw
          case rel => exact ⟨k + 1, n * 10 + (c - 48), by omega, by go_num, by congr 1; omega, by rw [Nat.pow_succ]; omega, hd2, by (repeat (first | exact Below.refl _ _ | assumption | refine bchain (by assumption) ?_ | refine balloc ?_ _ | apply Below.drew | apply below_drewN | (refine Below.alloc ?_ (by (try simp) <;> omega) _) | (refine Below.setCell ?_ (by (try simp) <;> omega) _)))⟩
          case measure => simp [intOf]; omega
        · have hdd := decide_eq_false (show ¬ ((k : Int) < ((l.length : Nat) : Int)) by omega)
          obtain rfl : k = l.length := by omega
          have hR : Hid (NumS 999999999 l n true) := hgood.out n (by have := hd.out; rwa [hend.out] at this) hn
          go_wp2
          go_ret2
          exact ⟨⟨n, true, rfl, hR.out⟩, by (repeat (first | exact Below.refl _ _ | assumption | refine bchain (by assumption) ?_ | refine balloc ?_ _ | apply Below.drew | apply below_drewN | (refine Below.alloc ?_ (by (try simp) <;> omega) _) | (refine Below.setCell ?_ (by (try simp) <;> omega) _)))⟩
  by_cases c4 : z = 48
  · exact main true (Lib.hid (show ((z : Int) == 48) = true by simp; omega)) (Lib.hid (fun _ => decide_eq_false (by have := hH.out; omega)))
  · exact main false (Lib.hid (show ((z : Int) == 48) = false by simp; omega)) (Lib.hid (fun h => by cases h))
end
end Go.Proofs.YtdbidlnkaplekaaDoor
