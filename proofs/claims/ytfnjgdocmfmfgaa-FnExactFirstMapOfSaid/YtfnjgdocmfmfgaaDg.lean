/-
  THE LISTS OF n NUMBERS LESS THAN b IN THEIR ORDER, as digits of their places; how the next one comes about; a list's memory.
-/
import Derived.Test.YtfnjgdocmfmfgaaWn
import Derived.Below
namespace Go.Proofs.Ytfnjgdocmfmfgaa
open Go.RowKit
set_option maxRecDepth 100000

/-- the list at the place k -/
def dg (b : Nat) : Nat → Nat → List Nat | 0, _ => [] | n + 1, k => dg b n (k / b) ++ [k % b]
theorem dg_length (b : Nat) : ∀ n k, (dg b n k).length = n
  | 0, _ => rfl
  | n + 1, k => by simp [dg, dg_length b n]
theorem dg_lt (b : Nat) (hb : 0 < b) : ∀ n k i, i < n → xn (dg b n k) i < b
  | n + 1, k, i, hi => by
    have hl := dg_length b n (k / b)
    unfold xn dg
    by_cases c : i < n
    · rw [List.getElem?_append_left (by omega)]
      exact dg_lt b hb n (k / b) i c
    · rw [List.getElem?_append_right (by omega), show i - (dg b n (k / b)).length = 0 by omega]
      exact Nat.mod_lt _ hb
/-- all of them -/
def allM (b n : Nat) : List (List Nat) := (List.range (b ^ n)).map (dg b n)
/-- those before the place k -/
def preM (b n k : Nat) : List (List Nat) := (List.range k).map (dg b n)
theorem preM_succ (b n k : Nat) : preM b n (k + 1) = preM b n k ++ [dg b n k] := by simp [preM, List.range_succ]
theorem allM_at (b n k : Nat) (h : k < b ^ n) : ∃ rest, allM b n = preM b n k ++ dg b n k :: rest := by
  obtain ⟨m, hm⟩ : ∃ m, b ^ n = k + 1 + m := ⟨b ^ n - (k + 1), by omega⟩
  refine ⟨((List.range m).map (k + 1 + ·)).map (dg b n), ?_⟩
  unfold allM
  rw [hm, List.range_add, List.map_append]
  show preM b n (k + 1) ++ _ = _
  rw [preM_succ]
  simp
/-- the list while it carries: m digits of q, then zeros -/
def st (b n m q : Nat) : List Nat := dg b m q ++ List.replicate (n - m) 0
theorem st_full (b n q : Nat) : st b n n q = dg b n q := by simp [st]
theorem st_length (b n m q : Nat) (h : m ≤ n) : (st b n m q).length = n := by simp [st, dg_length]; omega
theorem st_at (b n m q : Nat) : xn (st b n (m + 1) q) m = q % b := by
  have hl := dg_length b m (q / b)
  unfold xn st dg
  rw [List.getElem?_append_left (by simp [hl]), List.getElem?_append_right (by omega), show m - (dg b m (q / b)).length = 0 by omega]
  rfl
theorem st_set (b n m q v : Nat) : (st b n (m + 1) q).set m v = dg b m (q / b) ++ [v] ++ List.replicate (n - (m + 1)) 0 := by
  have hl := dg_length b m (q / b)
  unfold st
  rw [dg, List.set_append_left _ _ (by simp [hl]), List.set_append_right _ _ (by omega), hl, Nat.sub_self]
  rfl
theorem st_zero (b n m q : Nat) (h : m < n) : (st b n (m + 1) q).set m 0 = st b n m (q / b) := by
  rw [st_set, st, show n - m = n - (m + 1) + 1 by omega, List.replicate_succ, List.append_assoc]
  rfl
theorem st_inc (b n m q : Nat) (hlt : q % b + 1 < b) : (st b n (m + 1) q).set m (q % b + 1) = st b n (m + 1) (q + 1) := by
  have h1 : (q + 1) / b = q / b ∧ (q + 1) % b = q % b + 1 := by
    have h0 := Nat.div_add_mod q b
    have hb : 0 < b := by omega
    have e : q + 1 = q % b + 1 + b * (q / b) := by omega
    rw [e, Nat.add_mul_div_left _ _ hb, Nat.add_mul_mod_self_left, Nat.div_eq_of_lt hlt, Nat.mod_eq_of_lt hlt, Nat.zero_add]
    exact ⟨rfl, rfl⟩
  rw [st_set, st, dg, h1.1, h1.2]
theorem st_num (b : Nat) (hb : 0 < b) (n m q : Nat) (h : m ≤ n) : dg b n (q * b ^ (n - m)) = st b n m q := by
  induction n with
  | zero =>
    obtain rfl : m = 0 := by omega
    simp [st, dg]
  | succ n ih =>
    by_cases e : m = n + 1
    · subst e
      rw [Nat.sub_self, Nat.pow_zero, Nat.mul_one, st_full]
    · have hm : m ≤ n := by omega
      have ih := ih hm
      rw [show n + 1 - m = n - m + 1 by omega, Nat.pow_succ, ← Nat.mul_assoc, dg, Nat.mul_div_cancel _ hb, Nat.mul_mod_left, ih, st, st, show n + 1 - m = n - m + 1 by omega, List.replicate_succ', List.append_assoc]
/-- the place of the next list, while it carries -/
structure Carry (b n k m q : Nat) : Prop where
  le : m ≤ n
  lt : q < b ^ m
  eq : (q + 1) * b ^ (n - m) = k + 1
theorem Carry.start {b n k : Nat} (h : k < b ^ n) : Carry b n k n k := ⟨Nat.le_refl _, h, by simp⟩
theorem Carry.down {b n k m q : Nat} (h : Carry b n k (m + 1) q) (hb : 0 < b) (hge : ¬ q % b + 1 < b) : Carry b n k m (q / b) := by
  have h1 := h.le
  have hm : q % b < b := Nat.mod_lt _ hb
  have h0 := Nat.div_add_mod q b
  refine ⟨by omega, ?_, ?_⟩
  · rw [Nat.div_lt_iff_lt_mul hb, ← Nat.pow_succ]
    exact h.lt
  · have e : (q / b + 1) * b = q + 1 := by rw [Nat.add_mul, Nat.mul_comm]; omega
    rw [show n - m = n - (m + 1) + 1 by omega, Nat.pow_succ, Nat.mul_comm (b ^ _) b, ← Nat.mul_assoc, e]
    exact h.eq
theorem Carry.inc {b n k m q : Nat} (h : Carry b n k (m + 1) q) (hlt : q % b + 1 < b) : st b n (m + 1) (q + 1) = dg b n (k + 1) ∧ k + 1 < b ^ n := by
  have hb : 0 < b := by omega
  have h1 := h.le
  refine ⟨by rw [← h.eq, st_num b hb n (m + 1) (q + 1) h1], ?_⟩
  have h0 := Nat.div_add_mod q b
  have h2 : q + 1 < b ^ (m + 1) := by
    have hd : q / b < b ^ m := by rw [Nat.div_lt_iff_lt_mul hb, ← Nat.pow_succ]; exact h.lt
    have h3 : (q / b + 1) * b ≤ b ^ m * b := Nat.mul_le_mul_right _ hd
    have h5 : b ^ (m + 1) = b ^ m * b := Nat.pow_succ ..
    rw [Nat.add_mul, Nat.mul_comm (q / b)] at h3
    omega
  rw [← h.eq]
  have h4 : (q + 1) * b ^ (n - (m + 1)) < b ^ (m + 1) * b ^ (n - (m + 1)) := Nat.mul_lt_mul_of_pos_right h2 (Nat.pow_pos hb)
  rw [← Nat.pow_add, show m + 1 + (n - (m + 1)) = n by omega] at h4
  exact h4
theorem Carry.last {b n k q : Nat} (h : Carry b n k 0 q) : b ^ n = k + 1 := by
  have h1 := h.lt
  have h2 := h.eq
  obtain rfl : q = 0 := by rw [Nat.pow_zero] at h1; omega
  simpa using h2

/-- a list's memory -/
structure NM (W : World) (B n : Nat) (x : List Nat) : Prop where
  lt : B < W.heap.size
  val : ∀ i, i < n → W.cell? ⟨B, i, none⟩ = some (.int .i64 ((xn x i : Nat) : Int))
  fz : ∀ i, i < n → W.frozen? ⟨B, i, none⟩ = false
  len : x.length = n
theorem NM.block {W W' : World} {B n : Nat} {x : List Nat} (h : NM W B n x) (hz : W.heap.size ≤ W'.heap.size) (hb : W'.heap[B]? = W.heap[B]?) : NM W' B n x where
  lt := Nat.lt_of_lt_of_le h.lt hz
  val := fun i hi => (World.cell?_of_block (a := ⟨B, i, none⟩) hb).trans (h.val i hi)
  fz := fun i hi => (World.frozen?_of_block (a := ⟨B, i, none⟩) hb).trans (h.fz i hi)
  len := h.len
theorem NM.below {W W' : World} {B n : Nat} {x : List Nat} (h : NM W B n x) (hb : Below W.heap.size W W') : NM W' B n x := h.block hb.size (hb.block _ h.lt)
theorem NM.sl {W : World} {B n : Nat} {x : List Nat} (h : NM W B n x) (hn : n ≤ 9223372036854775807) : SlI W (.slice (some ⟨B, 0, none⟩) n n) (zn x) :=
  ⟨_, n, by rw [zn_length, h.len], by rw [zn_length, h.len]; exact Nat.le_refl _, hn, fun _ => ⟨B, 0, rfl, h.lt, fun i hi => by rw [zn_length, h.len] at hi; rw [Nat.zero_add, h.val i hi, zn_get]; rfl⟩⟩
theorem NM.set {W : World} {B n m : Nat} {x : List Nat} (h : NM W B n x) (hm : m < n) (v : Nat) : NM (W.setCell ⟨B, m, none⟩ (.int .i64 (v : Int))) B n (x.set m v) where
  lt := by simpa using h.lt
  val := fun i hi => by
    by_cases c : i = m
    · subst c
      rw [World.cell?_setCell_same _ _ _ (h.val i hi)]
      unfold xn
      rw [List.getElem?_set_self (by rw [h.len]; exact hm)]
      rfl
    · rw [World.cell?_setCell_other _ _ _ _ (by simp), h.val i hi]
      unfold xn
      rw [List.getElem?_set_ne (Ne.symm c)]
  fz := fun i hi => by rw [World.frozen?_setCell]; exact h.fz i hi
  len := by rw [List.length_set]; exact h.len
end Go.Proofs.Ytfnjgdocmfmfgaa
