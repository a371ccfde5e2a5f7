/-
  SETS OF VERTICES: verticesOf; the iterator setsOf.
-/
import Derived.Test.YtiedombphcdpbaaDoorTz
import Derived.Test.YtiedombphcdpbaaDoorKOrder
import Derived.Test.YtiedombphcdpbaaDoorKSeesC
import Derived.Test.YtiedombphcdpbaaDoorBw
import Derived.BigQuiet
namespace Go.Proofs.YtiedombphcdpbaaDoor
open Go.RowKit Go.Shelf
set_option maxRecDepth 100000
attribute [local go_sem] Oper.semAt_some
/-- numbers, as cells -/
def rowN (x : List Nat) : List Value := x.map fun i => .int .i64 ((i : Nat) : Int)
theorem rowN_snoc (x : List Nat) (v : Nat) : rowN (x ++ [v]) = rowN x ++ [.int .i64 (v : Int)] := by simp [rowN]
theorem rowN_see {w : World} {base : Nat} {v : Value} {n : Nat} {x : List Nat} (h : w.ownsRow base 2 1 v n (rowN x)) (hn : x.length = n) : SlI w v (zl x) := by
  have hm : maxLen ≤ 9223372036854775807 := by unfold maxLen; omega
  rcases h.2 with ⟨rfl, rfl⟩ | ⟨g, cap, cur, rfl, hg, hh, hnc, hc, hs, hx⟩
  · rw [List.length_eq_zero_iff] at hn
    subst hn
    exact ⟨none, 0, rfl, Nat.zero_le _, by omega, fun c => absurd rfl c⟩
  · refine ⟨some ⟨g, 0, none⟩, cap, by rw [zl_length, hn], by rw [zl_length]; omega, by omega, fun _ => ⟨g, 0, rfl, (Array.getElem?_eq_some_iff.1 hh).1, fun i hi => ?_⟩⟩
    rw [zl_length] at hi
    have h1 : (cur.toList.take (n * 1))[i]? = some (.int .i64 ((x[i]?.getD 0 : Nat) : Int)) := by
      rw [hx]
      simp [rowN, hi]
    rw [List.getElem?_take_of_lt (by omega)] at h1
    rw [Nat.zero_add, zl_get]
    simpa [World.cell?, hh] using h1
section
variable (w : World)
set_option maxHeartbeats 1000000 in
theorem verts_any (s : Nat) (hs : s < 32) (hT : TabZ w) :
    Calls Tryd.prog 60 #[.int .u32 s] w fun r w' => (∃ v, r = .returned v ∧ Hid (See (bitsL s) v w')) ∧ Below w.heap.size w w' := by
  obtain ⟨i0, hi, hz0, hz1, hz2⟩ := info_parts info_i64
  replace hi := Lib.hid hi
  replace hz0 := Lib.hid hz0
  replace hz1 := Lib.hid hz1
  replace hz2 := Lib.hid hz2
  replace hT := Lib.hid hT
  go_enter Tryd.func60, Tryd.ntmps60
  go_wp2
  go_loopw [0, 3] (fun c v wr => ∃ (k : Nat) (pre : List Nat), c = .int .u32 k ∧ k < 32 ∧ Hid (pre ++ bitsL k = bitsL s) ∧ Hid (wr.ownsRow w.heap.size 2 1 v pre.length (rowN pre)) ∧ Below w.heap.size w wr) (fun c _ _ => (intOf c).toNat)
  case atStart => exact ⟨s, [], rfl, hs, rfl, World.ownsRow_nil _ _ _ _, Below.refl _ _⟩
  case round =>
    obtain ⟨k, pre, rfl, hk, hpre, hown, hb⟩ := hrel
    by_cases h0 : k = 0
    · subst h0
      have hpre2 : pre = bitsL s := by have := hpre.out; rw [show bitsL 0 = [] from by decide, List.append_nil] at this; exact this
      have hsee := Lib.hid (rowN_see hown.out rfl)
      rw [hpre2] at hsee
      clear hpre hown hpre2
      go_wp2
      go_ret
      exact ⟨⟨_, rfl, hsee⟩, hb⟩
    · have hge := hb.size
      obtain ⟨hst, hlt, h5⟩ := bitsL_step k hk h0
      have hC := Lib.hid (fun W (h : Below wr.heap.size wr W) => tz_any W k hk h0 ((hT.out.below hb).below h))
      have hne : ((k : Int) == 0) = false := by simp; omega
      have hne2 : ((k : Int) != 0) = true := by simp; omega
      have hak := and_key k hk h0
      have hk1 : (1 : Int) ≤ (k : Int) := by omega
      have hpl : pre.length ≤ 5 := by
        have h1 := bitsL_len s hs
        rw [← hpre.out, List.length_append] at h1
        omega
      have hpre2 : Hid ((pre ++ [tzN k]) ++ bitsL (k &&& (k - 1)) = bitsL s) := by
        show _ = _
        rw [← hpre.out, hst, List.append_assoc]
        rfl
      obtain ⟨t, ht⟩ : ∃ t, tzN k = t := ⟨_, rfl⟩
      obtain ⟨k2, hk2⟩ : ∃ k2, k &&& (k - 1) = k2 := ⟨_, rfl⟩
      rw [ht] at hC h5 hpre2
      rw [hk2] at hpre2 hlt hak
      clear hst ht hk2 hpre h0
      have hpl2 : Hid (pre.length ≤ 5) := hpl
      obtain ⟨m, hm⟩ : ∃ m, pre.length = m := ⟨_, rfl⟩
      rw [hm] at hown hpl
      go_wp2_with (first
        | (go_at_call 99; refine (hC.out _ (Below.refl _ _)).mono ?_; rintro r3 w3 ⟨rfl, rfl⟩)
        | (at_builtin; refine wpList_append_own _ rfl _ _ 115 rfl w.heap.size 2 i0 (.int .i64 0) 1 8 Tryd.underlying115 hi.out hz0.out hz1.out hz2.out rfl (by decide) _ _ _ rfl (hown.out.alloc _) ⟨wr.heap.size, 0, none⟩ 1 1 [.int .i64 t] rfl rfl (fun q u hq => by cases q with | zero => simp at hq; subst hq; rw [show (⟨wr.heap.size, 0, none⟩ : Addr).add 0 = ⟨wr.heap.size, 0, none⟩ from rfl, World.cell?_alloc_new]; rfl | succ q => simp at hq) (fun u hu => by simp at hu; subst hu; rfl) (by unfold maxLen; omega) (by omega) (by simp; omega) ?_; intro v' w1 hown' hgrow _))
      have hown2 : Hid (w1.ownsRow w.heap.size 2 1 v' (pre ++ [t]).length (rowN (pre ++ [t]))) := by
        show w1.ownsRow w.heap.size 2 1 v' (pre ++ [t]).length (rowN (pre ++ [t]))
        rw [rowN_snoc, List.length_append, hm]
        exact hown'
      have hb2 : Below w.heap.size w w1 := (hb.alloc hge _).grown hgrow (by simp; omega) (fun k hk => (hown.out.lt k hk).1)
      clear hown' hgrow hown hm
      go_wp2
      go_roundw
      case rel => exact ⟨k2, pre ++ [t], by rfl, by omega, hpre2, hown2, hb2⟩
      case measure => simp [intOf]; omega
end
/-- the sets of k of n vertices -/
def isS (k s : Nat) : Bool := (bitsL s).length == k
def setsTo (k j : Nat) : List (List Nat) := ((List.range j).filter (isS k)).map bitsL
def setsL (n k : Nat) : List (List Nat) := setsTo k (2 ^ n)
theorem setsTo_t {k j : Nat} (h : isS k j = true) : setsTo k (j + 1) = setsTo k j ++ [bitsL j] := by simp [setsTo, List.range_succ, List.filter_append, h]
theorem setsTo_f {k j : Nat} (h : isS k j = false) : setsTo k (j + 1) = setsTo k j := by simp [setsTo, List.range_succ, List.filter_append, h]
theorem setsTo_pre {k N : Nat} : ∀ {j : Nat}, j < N → isS k j = true → ∃ t, setsTo k N = setsTo k j ++ bitsL j :: t := by
  induction N with
  | zero => intro j h; omega
  | succ N ih =>
    intro j h hs
    by_cases e : j = N
    · subst e
      exact ⟨[], setsTo_t hs⟩
    · obtain ⟨t, ht⟩ := ih (by omega) hs
      cases hb : isS k N
      · exact ⟨t, by rw [setsTo_f hb, ht]⟩
      · exact ⟨t ++ [bitsL N], by rw [setsTo_t hb, ht]; simp⟩
theorem two_pow_le {n : Nat} (h : n ≤ 5) : 2 ^ n ≤ 32 := Nat.pow_le_pow_right (n := 2) (by omega) h
theorem yield_bool {e : Ending} {P Q : Prop} (h : (e = .returned (.bool true) ∧ P) ∨ (e = .returned (.bool false) ∧ Q)) : ∃ b, e = .returned (.bool b) ∧ Hid ((b = true → P) ∧ (b = false → Q)) := by
  rcases h with ⟨rfl, h⟩ | ⟨rfl, h⟩
  · exact ⟨true, rfl, fun _ => h, fun c => by cases c⟩
  · exact ⟨false, rfl, (fun c => by cases c), fun _ => h⟩
/-- what the iterator reads of its caller's -/
structure SInv (Bn Bk n k : Nat) (W : World) : Prop where
  n : W.cell? ⟨Bn, 0, none⟩ = some (.int .i64 n)
  k : W.cell? ⟨Bk, 0, none⟩ = some (.int .i64 k)
  t : TabZ W
end Go.Proofs.YtiedombphcdpbaaDoor
