/-
  THE TEXT OF A MATRIX: what it is, and the model's contract.
-/
import Derived.Test.YtiedombphcdpbaaDoorFl
import Derived.Test.YtiedombphcdpbaaDoorFrM
namespace Go.Proofs.YtiedombphcdpbaaDoor
open Go.RowKit
set_option maxRecDepth 100000
attribute [local go_sem] Oper.semAt_some
/-- an entry's text, with the blank ahead of it -/
def eT (m : List (List (Int × Int))) (i j : Nat) : List UInt8 := (if 0 < j then [32] else []) ++ frL (Fr.gAt (Fr.rAt m i) j).1 (Fr.gAt (Fr.rAt m i) j).2.toNat
def rowT (m : List (List (Int × Int))) (i : Nat) : Nat → List UInt8 | 0 => [] | j + 1 => rowT m i j ++ eT m i j
def matT (m : List (List (Int × Int))) : Nat → List UInt8 | 0 => [] | k + 1 => matT m k ++ (rowT m k m.length ++ [10])
theorem vm_nat {m : List (List (Int × Int))} (h : Fr.VM m) {a b : Nat} (ha : a < m.length) (hb : b < m.length) : ∃ (p : Int) (q : Nat), Fr.gAt (Fr.rAt m a) b = (p, (q : Int)) ∧ Fr.VF p q := by
  have h1 := (h.pl ha hb).1
  obtain ⟨p, q, e⟩ : ∃ p q, Fr.gAt (Fr.rAt m a) b = (p, q) := ⟨_, _, rfl⟩
  rw [e] at h1 ⊢
  have h2 : Fr.VF p q := h1
  obtain ⟨n, rfl⟩ : ∃ n : Nat, q = n := ⟨q.toNat, by have := h2.1; omega⟩
  exact ⟨p, n, rfl, h2⟩
theorem eT_len {m : List (List (Int × Int))} (h : Fr.VM m) {a b : Nat} (ha : a < m.length) (hb : b < m.length) : (eT m a b).length ≤ 43 := by
  obtain ⟨p, q, e, hv⟩ := vm_nat h ha hb
  unfold eT
  rw [e]
  have := frL_len hv
  rw [List.length_append]
  have h1 : (if 0 < b then [(32 : UInt8)] else []).length ≤ 1 := by split <;> simp
  simp only [Int.toNat_natCast]
  omega
theorem rowT_len {m : List (List (Int × Int))} (h : Fr.VM m) {a : Nat} (ha : a < m.length) : ∀ j, j ≤ m.length → (rowT m a j).length ≤ 43 * j := by
  intro j
  induction j with
  | zero => intro _; simp [rowT]
  | succ j ih =>
    intro hj
    have h1 := ih (by omega)
    have h2 := eT_len h ha (show j < m.length by omega)
    rw [rowT, List.length_append]
    omega
theorem matT_len {m : List (List (Int × Int))} (h : Fr.VM m) : ∀ k, k ≤ m.length → (matT m k).length ≤ 345 * k := by
  have h8 := h.1
  intro k
  induction k with
  | zero => intro _; simp [matT]
  | succ k ih =>
    intro hk
    have h1 := ih (by omega)
    have h2 := rowT_len h (show k < m.length by omega) m.length (Nat.le_refl _)
    rw [matT]
    simp only [List.length_append, List.length_cons, List.length_nil]
    omega
/-- the sums of texts at an entry -/
theorem run_entry {m : List (List (Int × Int))} (h : Fr.VM m) {i j : Nat} (hi : i < m.length) (hj : j < m.length) (p : Int) (q : Nat) (e : Fr.gAt (Fr.rAt m i) j = (p, (q : Int))) :
    (∀ W : World, (Op.stringOp .add (tx (matT m i ++ rowT m i j)) { data := #[32] }).run Tryd.prog W = .ok (.string (tx (matT m i ++ rowT m i j ++ [32]))) W) ∧
    (0 < j → ∀ W : World, (Op.stringOp .add (tx (matT m i ++ rowT m i j ++ [32])) (fText p q)).run Tryd.prog W = .ok (.string (tx (matT m i ++ rowT m i (j + 1)))) W) ∧
    (¬ 0 < j → ∀ W : World, (Op.stringOp .add (tx (matT m i ++ rowT m i j)) (fText p q)).run Tryd.prog W = .ok (.string (tx (matT m i ++ rowT m i (j + 1)))) W) := by
  have h8 := h.1
  have l1 := matT_len h i (by omega)
  have l2 := rowT_len h hi j (by omega)
  have e1 : ({ data := #[32] } : ByteArray) = tx [32] := rfl
  obtain ⟨p', q', e', hv⟩ := vm_nat h hi hj
  rw [e] at e'
  obtain ⟨rfl, hq⟩ := Prod.mk.inj e'
  obtain rfl : q = q' := by omega
  have l3 := frL_len hv
  refine ⟨fun W => ?_, fun hj0 W => ?_, fun hj0 W => ?_⟩
  · rw [e1, ← tx_app (matT m i ++ rowT m i j) [32]]; exact run_string_add W _ _ (by rw [tx_size, List.length_append]; omega) (by rw [tx_size]; simp)
  · rw [fText_frL, show matT m i ++ rowT m i (j + 1) = (matT m i ++ rowT m i j ++ [32]) ++ frL p q by rw [rowT, eT, if_pos hj0, e]; simp, ← tx_app _ (frL p q)]
    exact run_string_add W _ _ (by rw [tx_size]; simp only [List.length_append, List.length_cons, List.length_nil]; omega) (by rw [tx_size]; omega)
  · rw [fText_frL, show matT m i ++ rowT m i (j + 1) = (matT m i ++ rowT m i j) ++ frL p q by rw [rowT, eT, if_neg hj0, e]; simp, ← tx_app _ (frL p q)]
    exact run_string_add W _ _ (by rw [tx_size]; simp only [List.length_append]; omega) (by rw [tx_size]; omega)
theorem run_row {m : List (List (Int × Int))} (h : Fr.VM m) {i : Nat} (hi : i < m.length) : ∀ W : World, (Op.stringOp .add (tx (matT m i ++ rowT m i m.length)) { data := #[10] }).run Tryd.prog W = .ok (.string (tx (matT m (i + 1)))) W := fun W => by
  have h8 := h.1
  have l1 := matT_len h i (by omega)
  have l2 := rowT_len h hi m.length (Nat.le_refl _)
  have e1 : ({ data := #[10] } : ByteArray) = tx [10] := rfl
  rw [e1, show matT m (i + 1) = (matT m i ++ rowT m i m.length) ++ [10] by rw [matT, List.append_assoc], ← tx_app _ [10]]
  exact run_string_add W _ _ (by rw [tx_size, List.length_append]; omega) (by rw [tx_size]; simp)
section
variable (w : World)
theorem smx_f (v : Value) (m : List (List (Int × Int))) (hS : Fr.SlM w v m) (hm : m.length ≤ 1048576) (hr : ∀ i, i < m.length → (Fr.rAt m i).length ≤ 1048576) (h : ¬ Fr.VM m) :
    Calls Tryd.prog 8 #[v] w fun r w' => r = .returned (.string ⟨#[]⟩) ∧ Below w.heap.size w w' := by
  have hV := Lib.hid (Fr.svm_any w v m hS hm hr false (fun c => absurd c h) (fun _ => rfl))
  clear hS h
  go_enter Tryd.func8, Tryd.ntmps8
  go_wp2_with fail
  refine hV.out.mono ?_
  rintro r1 w1 ⟨rfl, hb1⟩
  go_wp2
  go_ret
  exact ⟨rfl, by (repeat (first | exact Below.refl _ _ | assumption | refine bchain (by assumption) ?_ | refine balloc ?_ _ | apply Below.drew | apply below_drewN | (refine Below.alloc ?_ (by (try simp) <;> omega) _) | (refine Below.setCell ?_ (by (try simp) <;> omega) _)))⟩
set_option maxHeartbeats 2000000 in
theorem smx_t (v : Value) (m : List (List (Int × Int))) (hS : Fr.SlM w v m) (h : Fr.VM m) :
    Calls Tryd.prog 8 #[v] w fun r w' => r = .returned (.string (tx (matT m m.length))) ∧ Below w.heap.size w w' := by
  have h8 := h.1
  have hsq := Lib.hid (fun i (hi : i < m.length) => (h.2.1 i hi).1)
  have hV := Lib.hid (Fr.svm_any w v m hS (by omega) (fun i hi => by rw [hsq.out i hi]; omega) true (fun _ => rfl) (fun c => absurd h c))
  obtain ⟨a, cap, rfl, hR⟩ := hS.rows
  replace hR := Lib.hid hR
  have hF := Lib.hid (fun W p (q : Nat) (hv : Fr.VF p q) => sft_t W p q hv)
  obtain ⟨l, hl⟩ : ∃ l, m.length = l := ⟨_, rfl⟩
  have hE := Lib.hid (fun i j (hi : i < l) (hj : j < l) => show ∃ (p : Int) (q : Nat), Fr.gAt (Fr.rAt m i) j = (p, (q : Int)) ∧ Fr.VF p q from vm_nat h (by omega) (by omega))
  have hX := Lib.hid (fun i j (hi : i < l) (hj : j < l) p q e => run_entry h (i := i) (j := j) (by omega) (by omega) p q e)
  have hY := Lib.hid (fun i (hi : i < l) => run_row h (i := i) (by omega))
  simp only [hl] at h8 hsq hV hR hY ⊢
  replace hl := Lib.hid hl
  clear hS h
  go_enter Tryd.func8, Tryd.ntmps8
  go_wp2_with fail
  refine hV.out.mono ?_
  rintro r1 w1 ⟨rfl, hb1⟩
  go_wp2
  go_loopw [3, 4, 5] (fun s i _ wr => ∃ k : Nat, k ≤ l ∧ i = .int .i64 k ∧ s = .string (tx (matT m k)) ∧ Below w.heap.size w wr) (fun _ i _ _ => l - (intOf i).toNat)
  case atStart => exact ⟨0, by omega, rfl, rfl, hb1⟩
  case round =>
    obtain ⟨k, hk, rfl, rfl, hB⟩ := hrel
    by_cases hlt : k < l
    · have hd := decide_eq_true (show ((k : Int) < (l : Int)) by omega)
      obtain ⟨b, off, rfl, hb, u, hu, hSu⟩ := hR.out k (by have := hl.out; omega)
      have hlk : (Fr.rAt m k).length = l := hsq.out k hlt
      obtain ⟨a2, c2, rfl, hu1, hu2, hu3⟩ := hSu
      obtain ⟨b2, off2, rfl, hb2, hg⟩ := hu3 (by intro c; rw [c] at hlk; simp at hlk; omega)
      rw [hlk] at hu1 hu
      have hg2 := Lib.hid (fun i (hi : i < l) => hg i (by rw [hlk]; exact hi))
      have hkn0 : (0 : Int) ≤ (k : Int) := by omega
      clear hg hu3
      replace hu := Lib.hid hu
      replace hlk := Lib.hid hlk
      obtain ⟨t0, ht0⟩ : ∃ t, tx (matT m k) = t := ⟨_, rfl⟩
      rw [ht0]
      go_wp2
      go_loopw [3, 5] (fun s i wr2 => ∃ j : Nat, j ≤ l ∧ i = .int .i64 j ∧ s = .string (tx (matT m k ++ rowT m k j)) ∧ Below w.heap.size w wr2) (fun _ i _ => l - (intOf i).toNat)
      case atStart => exact ⟨0, by omega, rfl, by rw [show matT m k ++ rowT m k 0 = matT m k by simp [rowT], ht0], by (repeat (first | exact Below.refl _ _ | assumption | refine bchain (by assumption) ?_ | refine balloc ?_ _ | apply Below.drew | apply below_drewN | (refine Below.alloc ?_ (by (try simp) <;> omega) _) | (refine Below.setCell ?_ (by (try simp) <;> omega) _)))⟩
      case round =>
        obtain ⟨j, hj, rfl, rfl, hB2⟩ := hrel
        by_cases hjl : j < l
        · have hdj := decide_eq_true (show ((j : Int) < (l : Int)) by omega)
          obtain ⟨p, q, e, hv⟩ := hE.out k j hlt hjl
          obtain ⟨x1, x2, x3⟩ := hX.out k j hlt hjl p q e
          have hgj := hg2.out j hjl
          rw [e] at hgj
          have s0 := (hB2.cell (p := ⟨b, off + k, none⟩) hb).trans hu.out
          have e0 := (hB2.cell (p := ⟨b2, off2 + j * 2, none⟩) hb2).trans hgj.1
          have e1 := (hB2.cell (p := ⟨b2, off2 + j * 2 + 1, none⟩) hb2).trans hgj.2
          have hF2 := Lib.hid (fun W => hF.out W p q hv)
          obtain ⟨t, ht⟩ : ∃ t, tx (matT m k ++ rowT m k j) = t := ⟨_, rfl⟩
          obtain ⟨t1, ht1⟩ : ∃ t, tx (matT m k ++ rowT m k j ++ [32]) = t := ⟨_, rfl⟩
          obtain ⟨t2, ht2⟩ : ∃ t, tx (matT m k ++ rowT m k (j + 1)) = t := ⟨_, rfl⟩
          obtain ⟨t3, ht3⟩ : ∃ t, fText p q = t := ⟨_, rfl⟩
          rw [ht] at x1 x3
          rw [ht1] at x1 x2
          rw [ht2] at x2 x3
          rw [ht3] at x2 x3 hF2
          rw [ht]
          clear hgj ht ht1 ht3 e hv
          have hj0 : (0 : Int) ≤ (j : Int) := by omega
          by_cases hj1 : 0 < j
          · have d0 := decide_eq_true (show ((0 : Int) < (j : Int)) by omega)
            have x2' := x2 hj1
            clear x2 x3
            go_wp2_with fail
            refine (hF2.out _).mono ?_
            rintro r2 w2 ⟨rfl, hb3⟩
            go_wp2
            go_roundw
            case rel => exact ⟨j + 1, by omega, by go_num, by rw [ht2], by (repeat (first | exact Below.refl _ _ | assumption | refine bchain (by assumption) ?_ | refine balloc ?_ _ | apply Below.drew | apply below_drewN | (refine Below.alloc ?_ (by (try simp) <;> omega) _) | (refine Below.setCell ?_ (by (try simp) <;> omega) _)))⟩
            case measure => simp [intOf]; omega
          · have d0 := decide_eq_false (show ¬ ((0 : Int) < (j : Int)) by omega)
            have x3' := x3 hj1
            clear x2 x3
            go_wp2_with fail
            refine (hF2.out _).mono ?_
            rintro r2 w2 ⟨rfl, hb3⟩
            go_wp2
            go_roundw
            case rel => exact ⟨j + 1, by omega, by go_num, by rw [ht2], by (repeat (first | exact Below.refl _ _ | assumption | refine bchain (by assumption) ?_ | refine balloc ?_ _ | apply Below.drew | apply below_drewN | (refine Below.alloc ?_ (by (try simp) <;> omega) _) | (refine Below.setCell ?_ (by (try simp) <;> omega) _)))⟩
            case measure => simp [intOf]; omega
        · have hd2 := decide_eq_false (show ¬ ((j : Int) < (l : Int)) by omega)
          obtain rfl : j = l := by omega
          have y := hY.out k hlt
          obtain ⟨t, ht⟩ : ∃ t, tx (matT m k ++ rowT m k j) = t := ⟨_, rfl⟩
          obtain ⟨t2, ht2⟩ : ∃ t, tx (matT m (k + 1)) = t := ⟨_, rfl⟩
          rw [ht, ht2] at y
          rw [ht]
          go_wp2
          go_roundw
          case rel => exact ⟨k + 1, by omega, by go_num, by rw [ht2], by (repeat (first | exact Below.refl _ _ | assumption | refine bchain (by assumption) ?_ | refine balloc ?_ _ | apply Below.drew | apply below_drewN | (refine Below.alloc ?_ (by (try simp) <;> omega) _) | (refine Below.setCell ?_ (by (try simp) <;> omega) _)))⟩
          case measure => simp [intOf]; omega
    · have hd := decide_eq_false (show ¬ ((k : Int) < (l : Int)) by omega)
      obtain rfl : k = l := by omega
      obtain ⟨t, ht⟩ : ∃ t, tx (matT m k) = t := ⟨_, rfl⟩
      rw [ht]
      go_wp2
      go_ret
      exact ⟨congrArg (fun t => Ending.returned (Value.string t)) ht.symm, hB⟩
end
end Go.Proofs.YtiedombphcdpbaaDoor
