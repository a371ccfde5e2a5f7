/-
  BlowUp: the list of parts; the program's contract.
-/
import Derived.Test.YtfnjgdocmfmfgaaWn
import Derived.Test.YtfnjgdocmfmfgaaPe
namespace Go.Proofs.Ytfnjgdocmfmfgaa
open Go.RowKit
set_option maxRecDepth 100000
def sz (ss : List Int) (k : Nat) : Int := ss[k]?.getD 0
/-- so many vertices of each of the first k parts -/
def bl (ss : List Int) : Nat → List Nat | 0 => [] | k + 1 => bl ss k ++ List.replicate (sz ss k).toNat k
theorem bl_succ (ss : List Int) (k : Nat) : (bl ss (k + 1)).length = (bl ss k).length + (sz ss k).toNat := by simp [bl]
theorem bl_mono (ss : List Int) {j k : Nat} (h : j ≤ k) : (bl ss j).length ≤ (bl ss k).length := by
  induction k with
  | zero => obtain rfl : j = 0 := by omega
            exact Nat.le_refl _
  | succ k ih =>
    by_cases e : j = k + 1
    · rw [e]; exact Nat.le_refl _
    · have := ih (by omega)
      rw [bl_succ]
      omega
theorem bl_lt (ss : List Int) : ∀ k q, q < (bl ss k).length → xn (bl ss k) q < k
  | 0, q, h => by simp [bl] at h
  | k + 1, q, h => by
    unfold xn bl
    rw [bl_succ] at h
    by_cases c : q < (bl ss k).length
    · rw [List.getElem?_append_left c]
      have := bl_lt ss k q c
      unfold xn at this
      omega
    · rw [List.getElem?_append_right (by omega), List.getElem?_replicate, if_pos (by omega)]
      show k < k + 1
      omega
/-- are the sizes as they should be -/
def GoodS (ss : List Int) : Prop := (∀ i, i < ss.length → 0 ≤ sz ss i) ∧ (bl ss ss.length).length ≤ 5
/-- numbers as cells -/
def nC (x : List Nat) : List Value := x.map fun v : Nat => .int .i64 (v : Int)
theorem nC_length (x : List Nat) : (nC x).length = x.length := by simp [nC]
theorem nC_snoc (x : List Nat) (v : Nat) : nC (x ++ [v]) = nC x ++ [.int .i64 (v : Int)] := by simp [nC]
theorem rep_snoc (x : List Nat) (m k : Nat) : x ++ List.replicate (m + 1) k = (x ++ List.replicate m k) ++ [k] := by rw [List.replicate_succ', List.append_assoc]
/-- a row of the call's own, as a list of numbers -/
theorem sli_row {w : World} {base : Nat} {v : Value} {x : List Nat} (h : w.ownsRow base 2 1 v x.length (nC x)) : SlI w v (zn x) := by
  obtain ⟨hl, (⟨rfl, h0⟩ | ⟨g, cap, cur, rfl, hg, hh, hn, hc, hs, hx⟩)⟩ := h
  · have : x = [] := List.eq_nil_of_length_eq_zero h0
    subst this
    exact ⟨none, 0, rfl, by simp [zn], by simp, fun c => absurd rfl c⟩
  · refine ⟨some ⟨g, 0, none⟩, cap, by rw [zn_length], by rw [zn_length]; exact hn, by unfold maxLen at hc; omega, fun _ => ⟨g, 0, rfl, (Array.getElem?_eq_some_iff.1 hh).1, fun i hi => ?_⟩⟩
    rw [zn_length] at hi
    have h1 : (cur.toList.take (x.length * 1))[i]? = (nC x)[i]? := by rw [hx]
    rw [List.getElem?_take_of_lt (by omega)] at h1
    rw [Nat.zero_add]
    have h2 : w.cell? ⟨g, i, none⟩ = cur[i]? := by simp [World.cell?, hh]
    rw [h2, zn_get]
    have h3 : cur[i]? = (nC x)[i]? := by simpa using h1
    rw [h3]
    unfold nC
    rw [List.getElem?_map, List.getElem?_eq_getElem hi]
    rfl
/-- a graph and a code are handed back -/
def RetGr (W : World) (n e c : Int) (r : Ending) (w' : World) : Prop := r = .returned (.tuple #[.agg #[.int .i64 n, .int .u32 e], .int .i64 c]) ∧ Below W.heap.size W w'
/-- a graph's box -/
structure GB (W : World) (B : Nat) (n e : Int) : Prop where
  lt : B < W.heap.size
  c0 : W.cell? ⟨B, 0, none⟩ = some (.int .i64 n)
  c1 : W.cell? ⟨B, 1, none⟩ = some (.int .u32 e)
  fz : ∀ o, W.frozen? ⟨B, o, none⟩ = false
theorem GB.below {W W' : World} {B : Nat} {n e : Int} (h : GB W B n e) (hb : Below W.heap.size W W') : GB W' B n e :=
  ⟨Nat.lt_of_lt_of_le h.lt hb.size, (hb.cell (p := ⟨B, 0, none⟩) h.lt).trans h.c0, (hb.cell (p := ⟨B, 1, none⟩) h.lt).trans h.c1, fun o => (hb.frozen (p := ⟨B, o, none⟩) h.lt).trans (h.fz o)⟩
theorem GB.made (W : World) (n e : Int) (t : TypeId) : GB (W.alloc (.cells #[.int .i64 n, .int .u32 e] t)) W.heap.size n e :=
  ⟨by simp, by rw [World.cell?_alloc_new]; rfl, by rw [World.cell?_alloc_new]; rfl, fun o => by simp⟩
section
variable (w : World)
def pre (n e s : Int) (a : Option Addr) (L cap : Nat) : World := (w.alloc (.cells #[.int .i64 n, .int .u32 e, .int .u32 s, .slice a L cap] 33)).alloc (.cells #[.int .i64 0, .int .u32 0] 30)
theorem pre_b (n e s : Int) (a : Option Addr) (L cap : Nat) : Below w.heap.size w (pre w n e s a L cap) ∧ PB (pre w n e s a L cap) w.heap.size n e s (.slice a L cap) ∧ GB (pre w n e s a L cap) (w.heap.size + 1) 0 0 := by
  have hB0 : Below w.heap.size w (pre w n e s a L cap) := by unfold pre; (repeat (first | exact Below.refl _ _ | assumption | refine bchain (by assumption) ?_ | refine balloc ?_ _ | apply Below.drew | apply below_drewN | (refine Below.alloc ?_ (by (try simp) <;> omega) _) | (refine Below.setCell ?_ (by (try simp) <;> omega) _)))
  have sz1 : (w.alloc (.cells #[.int .i64 n, .int .u32 e, .int .u32 s, .slice a L cap] 33)).heap.size = w.heap.size + 1 := by simp
  refine ⟨hB0, ?_, ?_⟩
  · unfold pre; exact (PB.made w _ _ _ _ _).below (balloc (Below.refl _ _) _)
  · unfold pre; rw [← sz1]; exact GB.made _ _ _ _
theorem ibl_bad (n e s : Int) (a : Option Addr) (L cap : Nat) (v : Value) (hV : ∀ W, Below w.heap.size w W → Calls Try.prog 16 #[.agg #[.int .i64 n, .int .u32 e, .int .u32 s, .slice a L cap]] W fun r w' => r = .returned (.bool false) ∧ Below W.heap.size W w') :
    Calls Try.prog 31 #[.agg #[.int .i64 n, .int .u32 e, .int .u32 s, .slice a L cap], v] w (RetGr w 0 0 1) := by
  unfold RetGr
  replace hV := Lib.hid hV
  obtain ⟨hB0, k0, k1⟩ := pre_b w n e s a L cap
  obtain ⟨W0, hW0⟩ : ∃ W0, W0 = pre w n e s a L cap := ⟨_, rfl⟩
  rw [← hW0] at hB0 k0 k1
  unfold pre at hW0
  replace hW0 := Lib.hid hW0
  obtain ⟨_, x0, x1, x2, x3, _⟩ := id k0
  go_enter Try.func31, Try.ntmps31
  go_wp2_with fail
  rw [← hW0.out]
  go_wp2_with fail
  refine (hV.out _ hB0).mono ?_
  rintro r1 w1 ⟨rfl, hb1⟩
  obtain ⟨_, q0, q1, fR⟩ := k1.below hb1
  have hbw := bchain hb1 hB0
  clear x0 x1 x2 x3
  have h2 := twoCells q0 q1 (.int .i64 0) (.int .u32 0)
  go_wp2
  exact bodyPost_ret (v := .tuple #[.agg #[.int .i64 0, .int .u32 0], .int .i64 1]) (by simp [results, Try.results31, go_sem, h2.1, h2.2]) rfl ⟨rfl, by (repeat (first | exact Below.refl _ _ | assumption | refine bchain (by assumption) ?_ | refine balloc ?_ _ | apply Below.drew | apply below_drewN | (refine Below.alloc ?_ (by (try simp) <;> omega) _) | (refine Below.setCell ?_ (by (try simp) <;> omega) _)))⟩
theorem ibl_len (n e s : Int) (a : Option Addr) (L cap : Nat) (a2 : Option Addr) (l2 cap2 : Nat) (hne : ((l2 : Int) != (L : Int)) = true) (hV : ∀ W, Below w.heap.size w W → Calls Try.prog 16 #[.agg #[.int .i64 n, .int .u32 e, .int .u32 s, .slice a L cap]] W fun r w' => r = .returned (.bool true) ∧ Below W.heap.size W w') :
    Calls Try.prog 31 #[.agg #[.int .i64 n, .int .u32 e, .int .u32 s, .slice a L cap], .slice a2 l2 cap2] w (RetGr w 0 0 2) := by
  unfold RetGr
  replace hV := Lib.hid hV
  obtain ⟨hB0, k0, k1⟩ := pre_b w n e s a L cap
  obtain ⟨W0, hW0⟩ : ∃ W0, W0 = pre w n e s a L cap := ⟨_, rfl⟩
  rw [← hW0] at hB0 k0 k1
  unfold pre at hW0
  replace hW0 := Lib.hid hW0
  obtain ⟨_, x0, x1, x2, x3, _⟩ := id k0
  go_enter Try.func31, Try.ntmps31
  go_wp2_with fail
  rw [← hW0.out]
  go_wp2_with fail
  refine (hV.out _ hB0).mono ?_
  rintro r1 w1 ⟨rfl, hb1⟩
  clear x0 x1 x2 x3
  obtain ⟨_, x0, x1, x2, x3, _⟩ := k0.below hb1
  obtain ⟨_, q0, q1, fR⟩ := k1.below hb1
  have hbw := bchain hb1 hB0
  have h2 := twoCells q0 q1 (.int .i64 0) (.int .u32 0)
  go_wp2
  exact bodyPost_ret (v := .tuple #[.agg #[.int .i64 0, .int .u32 0], .int .i64 2]) (by simp [results, Try.results31, go_sem, h2.1, h2.2]) rfl ⟨rfl, by (repeat (first | exact Below.refl _ _ | assumption | refine bchain (by assumption) ?_ | refine balloc ?_ _ | apply Below.drew | apply below_drewN | (refine Below.alloc ?_ (by (try simp) <;> omega) _) | (refine Below.setCell ?_ (by (try simp) <;> omega) _)))⟩
end
end Go.Proofs.Ytfnjgdocmfmfgaa
