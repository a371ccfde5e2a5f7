/-
  Fmt, Tf, Mx, Pairs, Opp, Deg, Prs, PrsS, GtS, Bd, GtI, Sx, Mxi, Ri, Wr, Smi, StB, in one text.
-/
import Derived.Test.YtiedombphcdpbaaDoorTx
import Derived.Test.YtiedombphcdpbaaDoorSh
import Derived.Test.YtiedombphcdpbaaDoorRows
import Derived.Test.YtiedombphcdpbaaDoorFrameC
import Derived.Stop.LaidErr
import Derived.Test.YtiedombphcdpbaaDoorFrVf
import Derived.Test.YtiedombphcdpbaaDoorFrM
import Derived.Test.YtiedombphcdpbaaDoorPlain
import Derived.RangeFuncNested
import Derived.RangeFuncBound
import Derived.RangeFuncCalls
import Derived.RangeFuncLeaves
import Derived.RangeFuncWrites
import Derived.Shelf.Abstract
import Derived.Shelf.RegionOpen
import Derived.OwnWalkIn
import Derived.TacticsInMore
import Derived.LoopNIn
import Derived.LoopIn
import Derived.Test.YtiedombphcdpbaaDoorMade
import Derived.Test.YtiedombphcdpbaaDoorOwnI
import Derived.RangeFuncBox
import Derived.OwnWalk
import Derived.StillTailTactics
import Derived.Test.YtiedombphcdpbaaDoorBw
import Derived.Test.YtiedombphcdpbaaDoorBase
import Derived.Lib.Hide
import Derived.Lib.Builder
import Derived.Lib.FrozenHead
import Derived.Lib.OthersKept
import Derived.Laws.Externs
import Derived.RangeFuncOwn
import Derived.Test.YtiedombphcdpbaaDoorSTv
import Derived.RegionTactic
import Derived.Deep.RegionWith
import Derived.KernelRfl
/-
  FormatInt AT BASE 10: the table of powers of ten as the row's condition lays it; contracts.
-/
namespace Go.Proofs.YtiedombphcdpbaaDoor
open Go.RowKit
set_option maxRecDepth 100000
attribute [local go_sem] Oper.semAt_some
/-- the table of powers of ten -/
def TabP (W : World) : Prop := Lib.TabIs Tryd.prog W "internal/strconv.uint64pow10" .u64 Lib.pow10Tab
theorem gP : Tryd.prog.globalNamed "internal/strconv.uint64pow10" = some 1 := by kernel_rfl
theorem TabP.below {W W' : World} (h : TabP W) (hb : Below W.heap.size W W') : TabP W' := by
  unfold TabP Lib.TabIs World.var? at h ⊢
  rw [gP] at h ⊢
  simp only [Option.bind_some] at h ⊢
  have hg : 1 < W.heap.size := by
    cases hh : W.heap[1]? with
    | none => rw [hh] at h; cases h
    | some o => exact (Array.getElem?_eq_some_iff.1 hh).1
  rw [hb.block _ hg]; exact h
theorem tabP_of_laid {W : World} {rest : List (String × DataW Unit)} (h : laidMet Tryd.prog (("internal/strconv.uint64pow10", Rows.laid_internal_strconv_uint64pow10) :: rest) W) : TabP W :=
  Lib.tabIs_of_head (zs := Lib.pow10Tab) gP (by kernel_rfl) Tryd.underlying195 Tryd.underlying172 (by kernel_rfl) (by kernel_rfl) h
theorem below_grow (w : World) (q : Nat) (os : Array Obj) : Below w.heap.size w (Sort.grow (w.drewN q) os) :=
  ⟨rfl, rfl, rfl, by simp [Sort.grow], fun i hi => by
    show ((w.drewN q).heap ++ os)[i]? = _
    rw [Array.getElem?_append_left (by show i < w.heap.size; omega)]
    rfl⟩
theorem fmt_any (w : World) (n : Nat) (h : n < 1000000000000000000) (hT : TabP w) :
    Calls Tryd.prog 42 #[.int .i64 n, .int .i64 10] w fun r w' => r = .returned (.string (tx (Lib.decDigits n))) ∧ Below w.heap.size w w' := by
  refine (Tryd.strconv_FormatInt_10 (n : Int) (by omega) (by omega) w hT).mono ?_
  rintro e w' ⟨rfl, k, os, rfl⟩
  rw [Lib.itoa_nonneg]
  exact ⟨rfl, below_grow w k os⟩
theorem fmt_int (w : World) (n : Int) (h : -1000000000000000000 < n) (h2 : n < 1000000000000000000) (hT : TabP w) :
    Calls Tryd.prog 42 #[.int .i64 n, .int .i64 10] w fun r w' => r = .returned (.string (tx (Lib.itoa n))) ∧ Below w.heap.size w w' := by
  refine (Tryd.strconv_FormatInt_10 n (by omega) (by omega) w hT).mono ?_
  rintro e w' ⟨rfl, k, os, rfl⟩
  exact ⟨rfl, below_grow w k os⟩
theorem itoa_len {n : Int} (h : -1000000000000000000 < n) (h2 : n < 1000000000000000000) : (Lib.itoa n).length ≤ 21 := Lib.itoa_length_le n (by omega) (by omega)
end Go.Proofs.YtiedombphcdpbaaDoor
/-
  THE TEXT OF A FRACTION: the program's and the model's contracts.
-/
namespace Go.Proofs.YtiedombphcdpbaaDoor
open Go.RowKit
set_option maxRecDepth 100000
attribute [local go_sem] Oper.semAt_some
def slB : ByteArray := { data := #[47] }
/-- the text of a valid fraction -/
def fText (p : Int) (q : Nat) : ByteArray := if q = 1 then tx (Lib.itoa p) else tx (Lib.itoa p) ++ (slB ++ tx (Lib.decDigits q))
theorem run_sl (q : Nat) (hq : q ≤ 1000000000) (s : ByteArray) (hs : s.size ≤ 100) : (∀ W : World, (Op.stringOp .add slB (tx (Lib.decDigits q))).run Tryd.prog W = .ok (.string (slB ++ tx (Lib.decDigits q))) W) ∧
    (∀ W : World, (Op.stringOp .add s (slB ++ tx (Lib.decDigits q))).run Tryd.prog W = .ok (.string (s ++ (slB ++ tx (Lib.decDigits q)))) W) := by
  have h1 := dd_len (n := q) (by omega)
  have e : slB.size = 1 := rfl
  refine ⟨fun W => run_string_add W _ _ (by omega) (by rw [tx_size]; omega), fun W => run_string_add W _ _ (by omega) (by rw [ByteArray.size_append, tx_size]; omega)⟩
section
variable (w : World)
theorem ift_f (p q : Int) (h : ¬ Fr.VF p q) :
    Calls Tryd.prog 33 #[.agg #[.int .i64 p, .int .i64 q]] w fun r w' => r = .returned (.string ⟨#[]⟩) ∧ Below w.heap.size w w' := by
  have hV := Lib.hid (fun W => Fr.vf_any W p q)
  rw [decide_eq_false h] at hV
  clear h
  go_enter Tryd.func33, Tryd.ntmps33
  go_wp2_with fail
  refine (hV.out _).mono ?_
  rintro r1 w1 ⟨rfl, hb1⟩
  go_wp2
  go_ret
  exact ⟨rfl, by (repeat (first | exact Below.refl _ _ | assumption | refine bchain (by assumption) ?_ | refine balloc ?_ _ | apply Below.drew | apply below_drewN | (refine Below.alloc ?_ (by (try simp) <;> omega) _) | (refine Below.setCell ?_ (by (try simp) <;> omega) _)))⟩
set_option maxHeartbeats 1000000 in
theorem ift_t (p : Int) (q : Nat) (hP : TabP w) (h : Fr.VF p q) :
    Calls Tryd.prog 33 #[.agg #[.int .i64 p, .int .i64 q]] w fun r w' => r = .returned (.string (fText p q)) ∧ Below w.heap.size w w' := by
  have hV := Lib.hid (fun W => Fr.vf_any W p q)
  rw [decide_eq_true h] at hV
  obtain ⟨hq1, hq2, hp1, hp2, _⟩ := h
  have hF := Lib.hid (fun W (h2 : Below w.heap.size w W) => fmt_int W p (by omega) (by omega) (hP.below h2))
  have hG := Lib.hid (fun W (h2 : Below w.heap.size w W) => fmt_any W q (by omega) (hP.below h2))
  obtain ⟨x1, x2⟩ := run_sl q (by omega) (tx (Lib.itoa p)) (by rw [tx_size]; have := itoa_len (n := p) (by omega) (by omega); omega)
  obtain ⟨W0, hW0⟩ : ∃ W0, W0 = w.alloc (.cells #[.int .i64 p, .int .i64 (q : Int)] 70) := ⟨_, rfl⟩
  have hB0 : Below w.heap.size w W0 := by rw [hW0]; (repeat (first | exact Below.refl _ _ | assumption | refine bchain (by assumption) ?_ | refine balloc ?_ _ | apply Below.drew | apply below_drewN | (refine Below.alloc ?_ (by (try simp) <;> omega) _) | (refine Below.setCell ?_ (by (try simp) <;> omega) _)))
  have hz0 : w.heap.size < W0.heap.size := by rw [hW0]; simp
  have hbx : Hid (∀ W, Below W0.heap.size W0 W → W.cell? ⟨w.heap.size, 0, none⟩ = some (.int .i64 p) ∧ W.cell? ⟨w.heap.size, 1, none⟩ = some (.int .i64 (q : Int))) := fun W h => by
    refine ⟨(h.cell (p := ⟨w.heap.size, 0, none⟩) hz0).trans ?_, (h.cell (p := ⟨w.heap.size, 1, none⟩) hz0).trans ?_⟩ <;> (rw [hW0, World.cell?_alloc_new]; rfl)
  replace hW0 := Lib.hid hW0
  obtain ⟨s2, hs2⟩ : ∃ s2, fText p q = s2 := ⟨_, rfl⟩
  rw [hs2]
  unfold fText at hs2
  obtain ⟨A, hA⟩ : ∃ A, tx (Lib.itoa p) = A := ⟨_, rfl⟩
  obtain ⟨B, hB⟩ : ∃ B, tx (Lib.decDigits q) = B := ⟨_, rfl⟩
  rw [hA] at hF x2 hs2
  rw [hB] at hG x1 x2 hs2
  have hsp : slB = { data := #[47] } := rfl
  rw [hsp] at x1 x2 hs2
  clear hA hB hsp hP
  obtain ⟨y0, y1⟩ := hbx.out W0 (Below.refl _ _)
  by_cases c : q = 1
  · rw [if_pos c] at hs2
    subst hs2
    have e3 : ((q : Int) != 1) = false := by simp; omega
    have e4 : ((q : Int) == 1) = true := by simp; omega
    clear c
    go_enter Tryd.func33, Tryd.ntmps33
    go_wp2_with fail
    rw [← hW0.out]
    go_wp2_with fail
    refine (hV.out _).mono ?_
    rintro r1 w1 ⟨rfl, hb1⟩
    clear y0 y1
    obtain ⟨y0, y1⟩ := hbx.out w1 hb1
    go_wp2_with fail
    refine (hF.out _ (bchain hb1 hB0)).mono ?_
    rintro r2 w2 ⟨rfl, hb2⟩
    clear y0 y1
    obtain ⟨y0, y1⟩ := hbx.out w2 (bchain hb2 hb1)
    go_wp2
    go_ret
    exact ⟨rfl, bchain (bchain hb2 hb1) hB0⟩
  · rw [if_neg c] at hs2
    subst hs2
    have e3 : ((q : Int) != 1) = true := by simp; omega
    have e4 : ((q : Int) == 1) = false := by simp; omega
    clear c
    go_enter Tryd.func33, Tryd.ntmps33
    go_wp2_with fail
    rw [← hW0.out]
    go_wp2_with fail
    refine (hV.out _).mono ?_
    rintro r1 w1 ⟨rfl, hb1⟩
    clear y0 y1
    obtain ⟨y0, y1⟩ := hbx.out w1 hb1
    go_wp2_with fail
    refine (hF.out _ (bchain hb1 hB0)).mono ?_
    rintro r2 w2 ⟨rfl, hb2⟩
    clear y0 y1
    have hb3 := bchain hb2 hb1
    obtain ⟨y0, y1⟩ := hbx.out w2 hb3
    go_wp2_with fail
    refine (hG.out _ (bchain hb3 hB0)).mono ?_
    rintro r4 w4 ⟨rfl, hb4⟩
    go_wp2
    go_ret
    exact ⟨rfl, bchain (bchain hb4 hb3) hB0⟩
theorem sabs_any (p : Int) (h : -9223372036854775808 < p) (h2 : p < 9223372036854775808) :
    Calls Tryd.prog 62 #[.int .i64 p] w fun r w' => r = .returned (.int .i64 (p.natAbs : Nat)) ∧ Below w.heap.size w w' := by
  by_cases c : p < 0
  · have e : -p = ((p.natAbs : Nat) : Int) := by omega
    have e2 : IntKind.i64.wrap (-p) = -p := IntWalk.i64_in _ (by omega)
    rw [← e]
    clear e
    go_enter Tryd.func62, Tryd.ntmps62
    go_wp2
    go_ret
    exact ⟨rfl, by (repeat (first | exact Below.refl _ _ | assumption | refine bchain (by assumption) ?_ | refine balloc ?_ _ | apply Below.drew | apply below_drewN | (refine Below.alloc ?_ (by (try simp) <;> omega) _) | (refine Below.setCell ?_ (by (try simp) <;> omega) _)))⟩
  · have e : p = ((p.natAbs : Nat) : Int) := by omega
    obtain ⟨k, hk⟩ : ∃ k : Nat, p = k := ⟨_, e⟩
    subst hk
    have hk2 : ((k : Int).natAbs : Nat) = k := by omega
    rw [hk2]
    clear e hk2
    go_enter Tryd.func62, Tryd.ntmps62
    go_wp2
    go_ret
    exact ⟨rfl, by (repeat (first | exact Below.refl _ _ | assumption | refine bchain (by assumption) ?_ | refine balloc ?_ _ | apply Below.drew | apply below_drewN | (refine Below.alloc ?_ (by (try simp) <;> omega) _) | (refine Below.setCell ?_ (by (try simp) <;> omega) _)))⟩
theorem itoa_abs (p : Int) : Lib.itoa p = if p < 0 then 45 :: Lib.decDigits p.natAbs else Lib.decDigits p.natAbs := by
  unfold Lib.itoa
  by_cases c : p < 0
  · rw [if_pos c, if_pos c]
  · rw [if_neg c, if_neg c]
    congr 1
    omega
theorem sft_f (p q : Int) (h : ¬ Fr.VF p q) :
    Calls Tryd.prog 29 #[.agg #[.int .i64 p, .int .i64 q]] w fun r w' => r = .returned (.string ⟨#[]⟩) ∧ Below w.heap.size w w' := by
  have hV := Lib.hid (fun W => Fr.ok_any W p q)
  rw [decide_eq_false h] at hV
  clear h
  go_enter Tryd.func29, Tryd.ntmps29
  go_wp2_with fail
  refine (hV.out _).mono ?_
  rintro r1 w1 ⟨rfl, hb1⟩
  go_wp2
  go_ret
  exact ⟨rfl, by (repeat (first | exact Below.refl _ _ | assumption | refine bchain (by assumption) ?_ | refine balloc ?_ _ | apply Below.drew | apply below_drewN | (refine Below.alloc ?_ (by (try simp) <;> omega) _) | (refine Below.setCell ?_ (by (try simp) <;> omega) _)))⟩
set_option maxHeartbeats 1000000 in
theorem sft_t (p : Int) (q : Nat) (h : Fr.VF p q) :
    Calls Tryd.prog 29 #[.agg #[.int .i64 p, .int .i64 q]] w fun r w' => r = .returned (.string (fText p q)) ∧ Below w.heap.size w w' := by
  have hV := Lib.hid (fun W => Fr.ok_any W p q)
  rw [decide_eq_true h] at hV
  obtain ⟨hq1, hq2, hp1, hp2, _⟩ := h
  have hab : p.natAbs ≤ 1000000000 := by omega
  have hS := Lib.hid (fun W => sabs_any W p (by omega) (by omega))
  have hF := Lib.hid (fun W => dec_any 10 W p.natAbs (by omega) (by omega))
  have hG := Lib.hid (fun W => dec_any 10 W q (by omega) (by omega))
  obtain ⟨x1, x2⟩ := run_sl q (by omega) (tx (Lib.itoa p)) (by rw [tx_size]; have := itoa_len (n := p) (by omega) (by omega); omega)
  have hmi : ∀ W : World, (Op.stringOp .add { data := #[45] } (tx (Lib.decDigits p.natAbs))).run Tryd.prog W = .ok (.string ({ data := #[45] } ++ tx (Lib.decDigits p.natAbs))) W := fun W =>
    run_string_add W _ _ (by show ((1 : Nat) : Int) ≤ _; omega) (by rw [tx_size]; have := dd_len (n := p.natAbs) (by omega); omega)
  have hit : tx (Lib.itoa p) = if p < 0 then { data := #[45] } ++ tx (Lib.decDigits p.natAbs) else tx (Lib.decDigits p.natAbs) := by
    rw [itoa_abs]
    by_cases c : p < 0
    · rw [if_pos c, if_pos c]
      exact (tx_app [45] _).symm
    · rw [if_neg c, if_neg c]
  obtain ⟨W0, hW0⟩ : ∃ W0, W0 = w.alloc (.cells #[.int .i64 p, .int .i64 (q : Int)] 70) := ⟨_, rfl⟩
  have hB0 : Below w.heap.size w W0 := by rw [hW0]; (repeat (first | exact Below.refl _ _ | assumption | refine bchain (by assumption) ?_ | refine balloc ?_ _ | apply Below.drew | apply below_drewN | (refine Below.alloc ?_ (by (try simp) <;> omega) _) | (refine Below.setCell ?_ (by (try simp) <;> omega) _)))
  have hz0 : w.heap.size < W0.heap.size := by rw [hW0]; simp
  have hbx : Hid (∀ W, Below W0.heap.size W0 W → W.cell? ⟨w.heap.size, 0, none⟩ = some (.int .i64 p) ∧ W.cell? ⟨w.heap.size, 1, none⟩ = some (.int .i64 (q : Int))) := fun W h => by
    refine ⟨(h.cell (p := ⟨w.heap.size, 0, none⟩) hz0).trans ?_, (h.cell (p := ⟨w.heap.size, 1, none⟩) hz0).trans ?_⟩ <;> (rw [hW0, World.cell?_alloc_new]; rfl)
  replace hW0 := Lib.hid hW0
  obtain ⟨s2, hs2⟩ : ∃ s2, fText p q = s2 := ⟨_, rfl⟩
  rw [hs2]
  unfold fText at hs2
  obtain ⟨N, hN⟩ : ∃ N, p.natAbs = N := ⟨_, rfl⟩
  rw [hN] at hS hF hmi hit
  obtain ⟨A, hA⟩ : ∃ A, tx (Lib.itoa p) = A := ⟨_, rfl⟩
  obtain ⟨B, hB⟩ : ∃ B, tx (Lib.decDigits q) = B := ⟨_, rfl⟩
  obtain ⟨D, hD⟩ : ∃ D, tx (Lib.decDigits N) = D := ⟨_, rfl⟩
  rw [hA] at x2 hs2 hit
  rw [hB] at hG x1 x2 hs2
  rw [hD] at hF hmi hit
  have hsp : slB = { data := #[47] } := rfl
  rw [hsp] at x1 x2 hs2
  clear hA hB hsp hD hN hab
  obtain ⟨y0, y1⟩ := hbx.out W0 (Below.refl _ _)
  by_cases hneg : p < 0
  all_goals
    first | rw [if_pos hneg] at hit | rw [if_neg hneg] at hit
    by_cases c : q = 1
  all_goals
    first | rw [if_pos c] at hs2 | rw [if_neg c] at hs2
    subst hs2
    have e3 : ((q : Int) != 1) = !decide (q = 1) := by
      rw [Bool.eq_iff_iff]; simp; omega
  all_goals
    first | rw [decide_eq_true c] at e3 | rw [decide_eq_false c] at e3
    replace c := Lib.hid c
    subst hit
    go_enter Tryd.func29, Tryd.ntmps29
    go_wp2_with fail
    rw [← hW0.out]
    go_wp2_with fail
    refine (hV.out _).mono ?_
    rintro r1 w1 ⟨rfl, hb1⟩
    clear y0 y1
    obtain ⟨y0, y1⟩ := hbx.out w1 hb1
    go_wp2_with fail
    refine (hS.out _).mono ?_
    rintro r2 w2 ⟨rfl, hb2⟩
    have hb3 := bchain hb2 hb1
    clear y0 y1
    obtain ⟨y0, y1⟩ := hbx.out w2 hb3
    go_wp2_with fail
    refine (hF.out _).mono ?_
    rintro r4 w4 ⟨rfl, hb4⟩
    have hb5 := bchain hb4 hb3
    clear y0 y1
    obtain ⟨y0, y1⟩ := hbx.out w4 hb5
    first
      | (go_wp2
         go_ret
         exact ⟨rfl, bchain hb5 hB0⟩)
      | (go_wp2_with fail
         refine (hG.out _).mono ?_
         rintro r6 w6 ⟨rfl, hb6⟩
         go_wp2
         go_ret
         exact ⟨rfl, bchain (bchain hb6 hb5) hB0⟩)
end
end Go.Proofs.YtiedombphcdpbaaDoor
/-
  THE TEXT OF A MATRIX: what it is, and the model's contract.
-/
namespace Go.Proofs.YtiedombphcdpbaaDoor
open Go.RowKit
set_option maxRecDepth 100000
attribute [local go_sem] Oper.semAt_some
/-- the bytes of a fraction's text -/
def frL (p : Int) (q : Nat) : List UInt8 := if q = 1 then Lib.itoa p else Lib.itoa p ++ 47 :: Lib.decDigits q
theorem fText_frL (p : Int) (q : Nat) : fText p q = tx (frL p q) := by
  unfold fText frL
  split
  · rfl
  · show tx _ ++ (tx [47] ++ tx _) = _
    rw [tx_app, tx_app]; rfl
theorem frL_len {p : Int} {q : Nat} (h : Fr.VF p q) : (frL p q).length ≤ 42 := by
  obtain ⟨h1, h2, h3, h4, _⟩ := h
  have a := itoa_len (n := p) (by omega) (by omega)
  have b := dd_len (n := q) (by omega)
  unfold frL
  split
  · omega
  · simp only [List.length_append, List.length_cons]; omega
/-- an entry's text, with the blank ahead of it -/
def eT (m : List (List (Int × Int))) (i j : Nat) : List UInt8 := (if 0 < j then [32] else []) ++ frL (Fr.gAt (Fr.rAt m i) j).1 (Fr.gAt (Fr.rAt m i) j).2.toNat
def rowT (m : List (List (Int × Int))) (i : Nat) : Nat → List UInt8 | 0 => [] | j + 1 => rowT m i j ++ eT m i j
def matT (m : List (List (Int × Int))) : Nat → List UInt8 | 0 => [] | k + 1 => matT m k ++ (rowT m k m.length ++ [10])
theorem vm_nat {m : List (List (Int × Int))} (h : Fr.VM m) {a b : Nat} (ha : a < m.length) (hb : b < m.length) : ∃ (p : Int) (q : Nat), Fr.gAt (Fr.rAt m a) b = (p, (q : Int)) ∧ Fr.VF p q := by
  have h1 := (h.pl ha hb).1
  obtain ⟨p, q, e⟩ : ∃ p q, Fr.gAt (Fr.rAt m a) b = (p, q) := ⟨_, _, rfl⟩
  rw [e] at h1 ⊢
  have h2 : Fr.VF p q := h1
  obtain ⟨n, rfl⟩ : ∃ n : Nat, q = n := ⟨q.toNat, by have := h2.1; omega⟩
  exact ⟨p, n, rfl, h2⟩
theorem eT_len {m : List (List (Int × Int))} (h : Fr.VM m) {a b : Nat} (ha : a < m.length) (hb : b < m.length) : (eT m a b).length ≤ 43 := by
  obtain ⟨p, q, e, hv⟩ := vm_nat h ha hb
  unfold eT
  rw [e]
  have := frL_len hv
  rw [List.length_append]
  have h1 : (if 0 < b then [(32 : UInt8)] else []).length ≤ 1 := by split <;> simp
  simp only [Int.toNat_natCast]
  omega
theorem rowT_len {m : List (List (Int × Int))} (h : Fr.VM m) {a : Nat} (ha : a < m.length) : ∀ j, j ≤ m.length → (rowT m a j).length ≤ 43 * j := by
  intro j
  induction j with
  | zero => intro _; simp [rowT]
  | succ j ih =>
    intro hj
    have h1 := ih (by omega)
    have h2 := eT_len h ha (show j < m.length by omega)
    rw [rowT, List.length_append]
    omega
theorem matT_len {m : List (List (Int × Int))} (h : Fr.VM m) : ∀ k, k ≤ m.length → (matT m k).length ≤ 345 * k := by
  have h8 := h.1
  intro k
  induction k with
  | zero => intro _; simp [matT]
  | succ k ih =>
    intro hk
    have h1 := ih (by omega)
    have h2 := rowT_len h (show k < m.length by omega) m.length (Nat.le_refl _)
    rw [matT]
    simp only [List.length_append, List.length_cons, List.length_nil]
    omega
/-- the sums of texts at an entry -/
theorem run_entry {m : List (List (Int × Int))} (h : Fr.VM m) {i j : Nat} (hi : i < m.length) (hj : j < m.length) (p : Int) (q : Nat) (e : Fr.gAt (Fr.rAt m i) j = (p, (q : Int))) :
    (∀ W : World, (Op.stringOp .add (tx (matT m i ++ rowT m i j)) { data := #[32] }).run Tryd.prog W = .ok (.string (tx (matT m i ++ rowT m i j ++ [32]))) W) ∧
    (0 < j → ∀ W : World, (Op.stringOp .add (tx (matT m i ++ rowT m i j ++ [32])) (fText p q)).run Tryd.prog W = .ok (.string (tx (matT m i ++ rowT m i (j + 1)))) W) ∧
    (¬ 0 < j → ∀ W : World, (Op.stringOp .add (tx (matT m i ++ rowT m i j)) (fText p q)).run Tryd.prog W = .ok (.string (tx (matT m i ++ rowT m i (j + 1)))) W) := by
  have h8 := h.1
  have l1 := matT_len h i (by omega)
  have l2 := rowT_len h hi j (by omega)
  have e1 : ({ data := #[32] } : ByteArray) = tx [32] := rfl
  obtain ⟨p', q', e', hv⟩ := vm_nat h hi hj
  rw [e] at e'
  obtain ⟨rfl, hq⟩ := Prod.mk.inj e'
  obtain rfl : q = q' := by omega
  have l3 := frL_len hv
  refine ⟨fun W => ?_, fun hj0 W => ?_, fun hj0 W => ?_⟩
  · rw [e1, ← tx_app (matT m i ++ rowT m i j) [32]]; exact run_string_add W _ _ (by rw [tx_size, List.length_append]; omega) (by rw [tx_size]; simp)
  · rw [fText_frL, show matT m i ++ rowT m i (j + 1) = (matT m i ++ rowT m i j ++ [32]) ++ frL p q by rw [rowT, eT, if_pos hj0, e]; simp, ← tx_app _ (frL p q)]
    exact run_string_add W _ _ (by rw [tx_size]; simp only [List.length_append, List.length_cons, List.length_nil]; omega) (by rw [tx_size]; omega)
  · rw [fText_frL, show matT m i ++ rowT m i (j + 1) = (matT m i ++ rowT m i j) ++ frL p q by rw [rowT, eT, if_neg hj0, e]; simp, ← tx_app _ (frL p q)]
    exact run_string_add W _ _ (by rw [tx_size]; simp only [List.length_append]; omega) (by rw [tx_size]; omega)
theorem run_row {m : List (List (Int × Int))} (h : Fr.VM m) {i : Nat} (hi : i < m.length) : ∀ W : World, (Op.stringOp .add (tx (matT m i ++ rowT m i m.length)) { data := #[10] }).run Tryd.prog W = .ok (.string (tx (matT m (i + 1)))) W := fun W => by
  have h8 := h.1
  have l1 := matT_len h i (by omega)
  have l2 := rowT_len h hi m.length (Nat.le_refl _)
  have e1 : ({ data := #[10] } : ByteArray) = tx [10] := rfl
  rw [e1, show matT m (i + 1) = (matT m i ++ rowT m i m.length) ++ [10] by rw [matT, List.append_assoc], ← tx_app _ [10]]
  exact run_string_add W _ _ (by rw [tx_size, List.length_append]; omega) (by rw [tx_size]; simp)
section
variable (w : World)
theorem smx_f (v : Value) (m : List (List (Int × Int))) (hS : Fr.SlM w v m) (hm : m.length ≤ 1048576) (hr : ∀ i, i < m.length → (Fr.rAt m i).length ≤ 1048576) (h : ¬ Fr.VM m) :
    Calls Tryd.prog 8 #[v] w fun r w' => r = .returned (.string ⟨#[]⟩) ∧ Below w.heap.size w w' := by
  have hV := Lib.hid (Fr.svm_any w v m hS hm hr false (fun c => absurd c h) (fun _ => rfl))
  clear hS h
  go_enter Tryd.func8, Tryd.ntmps8
  go_wp2_with fail
  refine hV.out.mono ?_
  rintro r1 w1 ⟨rfl, hb1⟩
  go_wp2
  go_ret
  exact ⟨rfl, by (repeat (first | exact Below.refl _ _ | assumption | refine bchain (by assumption) ?_ | refine balloc ?_ _ | apply Below.drew | apply below_drewN | (refine Below.alloc ?_ (by (try simp) <;> omega) _) | (refine Below.setCell ?_ (by (try simp) <;> omega) _)))⟩
set_option maxHeartbeats 2000000 in
theorem smx_t (v : Value) (m : List (List (Int × Int))) (hS : Fr.SlM w v m) (h : Fr.VM m) :
    Calls Tryd.prog 8 #[v] w fun r w' => r = .returned (.string (tx (matT m m.length))) ∧ Below w.heap.size w w' := by
  have h8 := h.1
  have hsq := Lib.hid (fun i (hi : i < m.length) => (h.2.1 i hi).1)
  have hV := Lib.hid (Fr.svm_any w v m hS (by omega) (fun i hi => by rw [hsq.out i hi]; omega) true (fun _ => rfl) (fun c => absurd h c))
  obtain ⟨a, cap, rfl, hR⟩ := hS.rows
  replace hR := Lib.hid hR
  have hF := Lib.hid (fun W p (q : Nat) (hv : Fr.VF p q) => sft_t W p q hv)
  obtain ⟨l, hl⟩ : ∃ l, m.length = l := ⟨_, rfl⟩
  have hE := Lib.hid (fun i j (hi : i < l) (hj : j < l) => show ∃ (p : Int) (q : Nat), Fr.gAt (Fr.rAt m i) j = (p, (q : Int)) ∧ Fr.VF p q from vm_nat h (by omega) (by omega))
  have hX := Lib.hid (fun i j (hi : i < l) (hj : j < l) p q e => run_entry h (i := i) (j := j) (by omega) (by omega) p q e)
  have hY := Lib.hid (fun i (hi : i < l) => run_row h (i := i) (by omega))
  simp only [hl] at h8 hsq hV hR hY ⊢
  replace hl := Lib.hid hl
  clear hS h
  go_enter Tryd.func8, Tryd.ntmps8
  go_wp2_with fail
  refine hV.out.mono ?_
  rintro r1 w1 ⟨rfl, hb1⟩
  go_wp2
  go_loopw [3, 4, 5] (fun s i _ wr => ∃ k : Nat, k ≤ l ∧ i = .int .i64 k ∧ s = .string (tx (matT m k)) ∧ Below w.heap.size w wr) (fun _ i _ _ => l - (intOf i).toNat)
  case atStart => exact ⟨0, by omega, rfl, rfl, hb1⟩
  case round =>
    obtain ⟨k, hk, rfl, rfl, hB⟩ := hrel
    by_cases hlt : k < l
    · have hd := decide_eq_true (show ((k : Int) < (l : Int)) by omega)
      obtain ⟨b, off, rfl, hb, u, hu, hSu⟩ := hR.out k (by have := hl.out; omega)
      have hlk : (Fr.rAt m k).length = l := hsq.out k hlt
      obtain ⟨a2, c2, rfl, hu1, hu2, hu3⟩ := hSu
      obtain ⟨b2, off2, rfl, hb2, hg⟩ := hu3 (by intro c; rw [c] at hlk; simp at hlk; omega)
      rw [hlk] at hu1 hu
      have hg2 := Lib.hid (fun i (hi : i < l) => hg i (by rw [hlk]; exact hi))
      have hkn0 : (0 : Int) ≤ (k : Int) := by omega
      clear hg hu3
      replace hu := Lib.hid hu
      replace hlk := Lib.hid hlk
      obtain ⟨t0, ht0⟩ : ∃ t, tx (matT m k) = t := ⟨_, rfl⟩
      rw [ht0]
      go_wp2
      go_loopw [3, 5] (fun s i wr2 => ∃ j : Nat, j ≤ l ∧ i = .int .i64 j ∧ s = .string (tx (matT m k ++ rowT m k j)) ∧ Below w.heap.size w wr2) (fun _ i _ => l - (intOf i).toNat)
      case atStart => exact ⟨0, by omega, rfl, by rw [show matT m k ++ rowT m k 0 = matT m k by simp [rowT], ht0], by (repeat (first | exact Below.refl _ _ | assumption | refine bchain (by assumption) ?_ | refine balloc ?_ _ | apply Below.drew | apply below_drewN | (refine Below.alloc ?_ (by (try simp) <;> omega) _) | (refine Below.setCell ?_ (by (try simp) <;> omega) _)))⟩
      case round =>
        obtain ⟨j, hj, rfl, rfl, hB2⟩ := hrel
        by_cases hjl : j < l
        · have hdj := decide_eq_true (show ((j : Int) < (l : Int)) by omega)
          obtain ⟨p, q, e, hv⟩ := hE.out k j hlt hjl
          obtain ⟨x1, x2, x3⟩ := hX.out k j hlt hjl p q e
          have hgj := hg2.out j hjl
          rw [e] at hgj
          have s0 := (hB2.cell (p := ⟨b, off + k, none⟩) hb).trans hu.out
          have e0 := (hB2.cell (p := ⟨b2, off2 + j * 2, none⟩) hb2).trans hgj.1
          have e1 := (hB2.cell (p := ⟨b2, off2 + j * 2 + 1, none⟩) hb2).trans hgj.2
          have hF2 := Lib.hid (fun W => hF.out W p q hv)
          obtain ⟨t, ht⟩ : ∃ t, tx (matT m k ++ rowT m k j) = t := ⟨_, rfl⟩
          obtain ⟨t1, ht1⟩ : ∃ t, tx (matT m k ++ rowT m k j ++ [32]) = t := ⟨_, rfl⟩
          obtain ⟨t2, ht2⟩ : ∃ t, tx (matT m k ++ rowT m k (j + 1)) = t := ⟨_, rfl⟩
          obtain ⟨t3, ht3⟩ : ∃ t, fText p q = t := ⟨_, rfl⟩
          rw [ht] at x1 x3
          rw [ht1] at x1 x2
          rw [ht2] at x2 x3
          rw [ht3] at x2 x3 hF2
          rw [ht]
          clear hgj ht ht1 ht3 e hv
          have hj0 : (0 : Int) ≤ (j : Int) := by omega
          by_cases hj1 : 0 < j
          · have d0 := decide_eq_true (show ((0 : Int) < (j : Int)) by omega)
            have x2' := x2 hj1
            clear x2 x3
            go_wp2_with fail
            refine (hF2.out _).mono ?_
            rintro r2 w2 ⟨rfl, hb3⟩
            go_wp2
            go_roundw
            case rel => exact ⟨j + 1, by omega, by go_num, by rw [ht2], by (repeat (first | exact Below.refl _ _ | assumption | refine bchain (by assumption) ?_ | refine balloc ?_ _ | apply Below.drew | apply below_drewN | (refine Below.alloc ?_ (by (try simp) <;> omega) _) | (refine Below.setCell ?_ (by (try simp) <;> omega) _)))⟩
            case measure => simp [intOf]; omega
          · have d0 := decide_eq_false (show ¬ ((0 : Int) < (j : Int)) by omega)
            have x3' := x3 hj1
            clear x2 x3
            go_wp2_with fail
            refine (hF2.out _).mono ?_
            rintro r2 w2 ⟨rfl, hb3⟩
            go_wp2
            go_roundw
            case rel => exact ⟨j + 1, by omega, by go_num, by rw [ht2], by (repeat (first | exact Below.refl _ _ | assumption | refine bchain (by assumption) ?_ | refine balloc ?_ _ | apply Below.drew | apply below_drewN | (refine Below.alloc ?_ (by (try simp) <;> omega) _) | (refine Below.setCell ?_ (by (try simp) <;> omega) _)))⟩
            case measure => simp [intOf]; omega
        · have hd2 := decide_eq_false (show ¬ ((j : Int) < (l : Int)) by omega)
          obtain rfl : j = l := by omega
          have y := hY.out k hlt
          obtain ⟨t, ht⟩ : ∃ t, tx (matT m k ++ rowT m k j) = t := ⟨_, rfl⟩
          obtain ⟨t2, ht2⟩ : ∃ t, tx (matT m (k + 1)) = t := ⟨_, rfl⟩
          rw [ht, ht2] at y
          rw [ht]
          go_wp2
          go_roundw
          case rel => exact ⟨k + 1, by omega, by go_num, by rw [ht2], by (repeat (first | exact Below.refl _ _ | assumption | refine bchain (by assumption) ?_ | refine balloc ?_ _ | apply Below.drew | apply below_drewN | (refine Below.alloc ?_ (by (try simp) <;> omega) _) | (refine Below.setCell ?_ (by (try simp) <;> omega) _)))⟩
          case measure => simp [intOf]; omega
    · have hd := decide_eq_false (show ¬ ((k : Int) < (l : Int)) by omega)
      obtain rfl : k = l := by omega
      obtain ⟨t, ht⟩ : ∃ t, tx (matT m k) = t := ⟨_, rfl⟩
      rw [ht]
      go_wp2
      go_ret
      exact ⟨congrArg (fun t => Ending.returned (Value.string t)) ht.symm, hB⟩
end
end Go.Proofs.YtiedombphcdpbaaDoor
/-
  THE ITERATOR OVER PAIRS OF VERTICES THAT ARE AS A FUNCTION TELLS: its contract; the lists of pairs.
-/
namespace Go.Proofs.YtiedombphcdpbaaDoor
open Go.RowKit Go.Shelf
set_option maxRecDepth 100000

/-- the pairs of vertices before j, the lesser one first, in the order of their bits -/
def prs : Nat → List (Nat × Nat) | 0 => [] | j + 1 => prs j ++ (List.range j).map fun i => (i, j)
/-- .. and then those of j with the vertices before i -/
def prsTo (j i : Nat) : List (Nat × Nat) := prs j ++ (List.range i).map fun i => (i, j)
theorem prsTo_zero (j : Nat) : prsTo j 0 = prs j := by simp [prsTo]
theorem prsTo_end (j : Nat) : prsTo j j = prs (j + 1) := rfl
theorem prsTo_succ (j i : Nat) : prsTo j (i + 1) = prsTo j i ++ [(i, j)] := by simp [prsTo, List.range_succ]
theorem prs_length (j : Nat) : (prs j).length ≤ j * j := by
  induction j with
  | zero => simp [prs]
  | succ j ih =>
    simp only [prs, List.length_append, List.length_map, List.length_range]
    rw [Nat.add_mul, Nat.mul_add]
    omega
theorem prsTo_length (j i : Nat) : (prsTo j i).length ≤ j * j + i := by
  have := prs_length j
  simp only [prsTo, List.length_append, List.length_map, List.length_range]
  omega
/-- two vertices, the lesser one first -/
abbrev Pr (n : Nat) := { p : Nat × Nat // p.1 < p.2 ∧ p.2 < n }
abbrev Pr.encs {n : Nat} (x : Pr n) : Array Value := #[.int .i64 (x.1.1 : Nat), .int .i64 (x.1.2 : Nat)]
def vals {n : Nat} (xs : List (Pr n)) : List (Nat × Nat) := xs.map Subtype.val
theorem vals_snoc {n : Nat} (xs : List (Pr n)) (x : Pr n) : vals (xs ++ [x]) = vals xs ++ [x.1] := by simp [vals]
theorem vals_length {n : Nat} (xs : List (Pr n)) : (vals xs).length = xs.length := by simp [vals]

theorem below_grown {W w' : World} (h : Below W.heap.size W w') : W.grownBy w' none := ⟨h.os, h.tape, h.output, h.size, fun k hk _ => h.block k hk⟩

/-- two blocks lie as they lay -/
def Kp2 (Bg Ba : Nat) (W W' : World) : Prop := W.heap.size ≤ W'.heap.size ∧ W'.heap[Bg]? = W.heap[Bg]? ∧ W'.heap[Ba]? = W.heap[Ba]?
theorem Kp2.refl (Bg Ba : Nat) (W : World) : Kp2 Bg Ba W W := ⟨Nat.le_refl _, rfl, rfl⟩
theorem Kp2.trans {Bg Ba : Nat} {A B C : World} (h : Kp2 Bg Ba A B) (k : Kp2 Bg Ba B C) : Kp2 Bg Ba A C := ⟨Nat.le_trans h.1 k.1, k.2.1.trans h.2.1, k.2.2.trans h.2.2⟩
theorem Kp2.of_below {Bg Ba : Nat} {A B : World} (h : Below A.heap.size A B) (hg : Bg < A.heap.size) (ha : Ba < A.heap.size) : Kp2 Bg Ba A B := ⟨h.size, h.block _ hg, h.block _ ha⟩
theorem Kp2.put {Bg Ba : Nat} {w : World} (hg : Bg < w.heap.size) (ha : Ba < w.heap.size) (W : World) (l : Nat) (o o' : Obj) (hl : w.heap.size ≤ l) (_h : W.heap[l]? = some o) (_ : o.isCells = false) (_ : o.isWalk = false) : Kp2 Bg Ba W (W.putObj l o') :=
  ⟨by simp [World.putObj], World.putObj_heap_other (by omega), World.putObj_heap_other (by omega)⟩
theorem Kp2.set {Bg Ba : Nat} (W : World) (p : Addr) (v : Value) (hg : p.block ≠ Bg) (ha : p.block ≠ Ba) : Kp2 Bg Ba W (W.setCell p v) :=
  ⟨by simp, Below.heap_setCell _ _ _ _ (Ne.symm hg), Below.heap_setCell _ _ _ _ (Ne.symm ha)⟩

set_option maxHeartbeats 1000000 in
theorem pj_stops (k : Nat) (hk : 1 ≤ k) (n e : Nat) (hn : n ≤ 5) (b : Nat → Nat → Bool) (Bg Ba : Nat) (w : World) (hBg : Bg < w.heap.size) (hBa : Ba < w.heap.size)
    (hg0 : w.cell? ⟨Bg, 0, none⟩ = some (.int .i64 n)) (hg1 : w.cell? ⟨Bg, 1, none⟩ = some (.int .u32 e)) (ha : w.cell? ⟨Ba, 0, none⟩ = some (.func (.func 120) #[] #[]))
    (hA : ∀ W i j, i < j → j ≤ 4 → Calls Tryd.prog 120 #[.agg #[.int .i64 n, .int .u32 e], .int .i64 (i : Nat), .int .i64 (j : Nat)] W fun r w' => r = .returned (.bool (b i j)) ∧ Below W.heap.size W w') :
    SeqStopsK Fence.wide k Tryd.prog 145 #[.pointer (some ⟨Bg, 0, none⟩), .pointer (some ⟨Ba, 0, none⟩)] (Pr.encs (n := n)) (Kp2 Bg Ba)
      (fun xs => vals xs = (prs n).filter (fun p => b p.1 p.2)) (fun pre => ∃ i j, i < j ∧ j < n ∧ b i j = true ∧ vals pre = (prsTo j i).filter (fun p => b p.1 p.2) ++ [(i, j)]) 100 w := fun l J Jx W hW hJ hJx hY h0 => by
  refine callsIn_of_wp Tryd.func145 rfl trivial ?_ rfl
  simp only [Tryd.ntmps145, List.size_toArray, List.length_cons, List.length_nil, Nat.reduceAdd, Nat.reduceSub, Array.replicate_succ, Array.replicate_zero, List.push_toArray, List.append_toArray, List.nil_append, List.cons_append]
  have hcg0 : W.cell? ⟨Bg, 0, none⟩ = some (.int .i64 n) := (hW.cell (p := ⟨Bg, 0, none⟩) hBg).trans hg0
  have hJd : ∀ (s : List (Pr n)) (A B : World), J s A → Below A.heap.size A B → J s B := fun s A B h hb => hJ s A B none h (below_grown hb) (fun r e => by cases e)
  replace hJd := Lib.hid hJd
  replace hJ := Lib.hid hJ
  replace hJx := Lib.hid hJx
  replace hY := Lib.hid hY
  replace hA := Lib.hid hA
  gi_wp2
  gi_loopw [4, 8] (fun _ p wr => ∃ j : Nat, j ≤ n ∧ p = .int .i64 j ∧ (∃ pre, vals pre = (prs j).filter (fun p => b p.1 p.2) ∧ J pre wr) ∧ Kp2 Bg Ba W wr) (fun _ p _ => n - (intOf p).toNat)
  case atStart => exact ⟨0, by omega, rfl, ⟨[], rfl, h0⟩, Kp2.refl _ _ _⟩
  case round =>
    obtain ⟨j, hj, rfl, ⟨pre, hp, hJp⟩, hB⟩ := hrel
    by_cases hlt : j < n
    · replace hp := Lib.hid hp
      replace hJp := Lib.hid hJp
      gi_wp2
      obtain ⟨wo, rfl⟩ : ∃ wo : World, wo = wr := ⟨_, rfl⟩
      gi_loopw [5, 12] (fun _ p wr => ∃ i : Nat, i ≤ j ∧ p = .int .i64 i ∧ (∃ pre, vals pre = (prsTo j i).filter (fun p => b p.1 p.2) ∧ J pre wr) ∧ Kp2 Bg Ba W wr) (fun _ p _ => j - (intOf p).toNat)
      case atStart => exact ⟨0, by omega, rfl, ⟨pre, by rw [prsTo_zero]; exact hp.out, hJp.out⟩, hB⟩
      case round =>
        obtain ⟨i, hi, rfl, ⟨pre, hp, hJp⟩, hB2⟩ := hrel
        by_cases hlt2 : i < j
        · have q0 : wr.cell? ⟨Bg, 0, none⟩ = some (.int .i64 n) := (World.cell?_of_block hB2.2.1).trans hcg0
          have q1 : wr.cell? ⟨Bg, 1, none⟩ = some (.int .u32 e) := (World.cell?_of_block hB2.2.1).trans ((hW.cell (p := ⟨Bg, 1, none⟩) hBg).trans hg1)
          have qa : wr.cell? ⟨Ba, 0, none⟩ = some (.func (.func 120) #[] #[]) := (World.cell?_of_block hB2.2.2).trans ((hW.cell (p := ⟨Ba, 0, none⟩) hBa).trans ha)
          have hsz : Bg < wr.heap.size ∧ Ba < wr.heap.size := by have h1 := hW.size; have h2 := hB2.1; omega
          have hC := hA.out wr i j hlt2 (by omega)
          replace hp := Lib.hid hp
          replace hJp := Lib.hid hJp
          have hlt3 : (i : Int) < (j : Int) := by omega
          cases hb : b i j
          · rw [hb] at hC
            replace hC := Lib.hid hC
            have hfil : (prsTo j (i + 1)).filter (fun p => b p.1 p.2) = (prsTo j i).filter (fun p => b p.1 p.2) := by rw [prsTo_succ, List.filter_append]; simp [hb]
            replace hfil := Lib.hid hfil
            clear hb
            gi_wp2_with (refine ⟨trivial, ?_⟩; gi_at_call 120; refine (callsIn_wide.2 hC.out).mono ?_; rintro r3 w3 ⟨rfl, hb3⟩)
            refine ⟨fun _ h => (by cases h), ?_⟩
            gi_wp2
            go_roundw
            case rel => exact ⟨i + 1, by omega, by go_num, ⟨pre, by rw [hfil.out]; exact hp.out, hJd.out _ _ _ hJp.out hb3⟩, hB2.trans (Kp2.of_below hb3 hsz.1 hsz.2)⟩
            case measure => simp [intOf]; omega
          · rw [hb] at hC
            replace hC := Lib.hid hC
            have hfil : (prsTo j (i + 1)).filter (fun p => b p.1 p.2) = (prsTo j i).filter (fun p => b p.1 p.2) ++ [(i, j)] := by rw [prsTo_succ, List.filter_append]; simp [hb]
            replace hfil := Lib.hid hfil
            replace hb := Lib.hid hb
            have hlen : pre.length < 100 := by
              have h1 := vals_length pre
              rw [hp.out] at h1
              have h2 := List.length_filter_le (fun p : Nat × Nat => b p.1 p.2) (prsTo j i)
              have h3 := prsTo_length j i
              have h4 : j * j ≤ 4 * 4 := Nat.mul_le_mul (by omega) (by omega)
              omega
            replace hlen := Lib.hid hlen
            gi_wp2_with (refine ⟨trivial, ?_⟩; gi_at_call 120; refine (callsIn_wide.2 hC.out).mono ?_; rintro r3 w3 ⟨rfl, hb3⟩; obtain ⟨fn, tmps, assign, body, hy, hR⟩ := hY.out pre ⟨(i, j), hlt2, hlt⟩ w3 (hJd.out _ _ _ hJp.out hb3) hlen.out; dsimp only [Pr.encs] at hy)
            refine hR.mono ?_
            rintro r4 w4 (⟨rfl, hJ4, hk4⟩ | ⟨rfl, hJx4⟩)
            · gi_wp2
              go_roundw
              case rel => exact ⟨i + 1, by omega, by go_num, ⟨pre ++ [⟨(i, j), hlt2, hlt⟩], by rw [vals_snoc, hfil.out, hp.out], hJ4⟩, (hB2.trans (Kp2.of_below hb3 hsz.1 hsz.2)).trans hk4⟩
              case measure => simp [intOf]; omega
            · gi_wp2
              refine bodyPost_ret (results_none rfl _ _ _) rfl ?_
              exact ⟨⟨_, rfl⟩, .inr ⟨pre ++ [⟨(i, j), hlt2, hlt⟩], ⟨i, j, hlt2, hlt, hb.out, by rw [vals_snoc, hp.out]⟩, hJx4⟩⟩
        · obtain rfl : i = j := by omega
          rw [prsTo_end] at hp
          replace hp := Lib.hid hp
          replace hJp := Lib.hid hJp
          have hdd := decide_eq_false (show ¬ ((i : Int) < (i : Int)) by omega)
          gi_wp2
          go_roundw
          case rel => exact ⟨i + 1, by omega, by go_num, ⟨pre, hp.out, hJp.out⟩, hB2⟩
          case measure => simp [intOf]; omega
    · obtain rfl : j = n := by omega
      have hdd := decide_eq_false (show ¬ ((j : Int) < (j : Int)) by omega)
      replace hp := Lib.hid hp
      replace hJp := Lib.hid hJp
      gi_wp2
      go_end0
      exact ⟨⟨_, rfl⟩, .inl ⟨pre, hp.out, hJp.out⟩⟩
end Go.Proofs.YtiedombphcdpbaaDoor
namespace Go.Proofs.YtiedombphcdpbaaDoor
open Go.RowKit Go.Shelf
set_option maxRecDepth 100000
attribute [local go_sem] Oper.semAt_some
/-- the bits of some pairs -/
def foldE (ps : List (Nat × Nat)) : Nat := ps.foldl (fun acc p => acc ||| pb p.1 p.2) 0
theorem foldE_snoc (ps : List (Nat × Nat)) (p : Nat × Nat) : foldE (ps ++ [p]) = foldE ps ||| pb p.1 p.2 := by simp [foldE]
theorem foldE_lt {n : Nat} (hn : n ≤ 5) (xs : List (Pr n)) : foldE (vals xs) < 2 ^ 10 := by
  have : ∀ (ys : List (Pr n)) (a : Nat), a < 2 ^ 10 → (vals ys).foldl (fun acc p => acc ||| pb p.1 p.2) a < 2 ^ 10 := by
    intro ys
    induction ys with
    | nil => intro a h; exact h
    | cons y ys ih => intro a h; exact ih _ (Nat.or_lt_two_pow h (pb_lt y.1.1 y.1.2 y.2.1 (by have := y.2.2; omega)))
  exact this xs 0 (by omega)
/-- the bits of the opposite graph -/
def oppE (n e : Nat) : Nat := foldE ((prs n).filter fun p => !jn e p.1 p.2)
theorem oppE_eq : ∀ n, n ≤ 5 → ∀ e, e < eMax n → oppE n e = (eMax n - 1) ^^^ e := by decide +kernel

section
variable (w : World)
/-- the iterator, made: its two boxes -/
def PtMade (w w' : World) (n e : Int) (A : Nat) : Prop := Below w.heap.size w w' ∧ w.heap.size + 2 ≤ w'.heap.size ∧ w'.cell? ⟨w.heap.size, 0, none⟩ = some (.int .i64 n) ∧ w'.cell? ⟨w.heap.size, 1, none⟩ = some (.int .u32 e) ∧ w'.cell? ⟨w.heap.size + 1, 0, none⟩ = some (.func (.func A) #[] #[])
theorem pt_any (n e : Int) (A : Nat) :
    Calls Tryd.prog 119 #[.agg #[.int .i64 n, .int .u32 e], .func (.func A) #[] #[]] w fun r w' => r = .returned (.func (.func 145) #[] #[.pointer (some ⟨w.heap.size, 0, none⟩), .pointer (some ⟨w.heap.size + 1, 0, none⟩)]) ∧ PtMade w w' n e A := by
  go_enter Tryd.func119, Tryd.ntmps119
  go_wp2
  go_ret
  refine ⟨rfl, by (repeat (first | exact Below.refl _ _ | assumption | refine bchain (by assumption) ?_ | refine balloc ?_ _ | apply Below.drew | apply below_drewN | (refine Below.alloc ?_ (by (try simp) <;> omega) _) | (refine Below.setCell ?_ (by (try simp) <;> omega) _))), by simp, ?_, ?_, ?_⟩
  · rw [cOld _ _ _ _ (by simp), cNew _ _ _ _ _ rfl]; rfl
  · rw [cOld _ _ _ _ (by simp), cNew _ _ _ _ _ rfl]; rfl
  · rw [cNew _ _ _ _ _ (by simp)]; rfl

end
end Go.Proofs.YtiedombphcdpbaaDoor
namespace Go.Proofs.YtiedombphcdpbaaDoor
open Go.RowKit Go.Shelf
set_option maxRecDepth 100000
attribute [local go_sem] Oper.semAt_some
theorem cell_lt {W : World} {B o : Nat} {v : Value} (h : W.cell? ⟨B, o, none⟩ = some v) : B < W.heap.size := by
  unfold World.cell? at h
  rcases Nat.lt_or_ge B W.heap.size with h1 | h1
  · exact h1
  · simp [Array.getElem?_eq_none h1] at h
/-- how many of the pairs have the vertex v -/
def degs (ps : List (Nat × Nat)) (v : Nat) : Nat := ps.foldl (fun c p => c + (if v = p.1 then 1 else 0) + (if v = p.2 then 1 else 0)) 0
theorem degs_snoc (ps : List (Nat × Nat)) (p : Nat × Nat) (v : Nat) : degs (ps ++ [p]) v = degs ps v + (if v = p.1 then 1 else 0) + (if v = p.2 then 1 else 0) := by simp [degs]
theorem degs_le (ps : List (Nat × Nat)) (v : Nat) : degs ps v ≤ 2 * ps.length := by
  have : ∀ (qs : List (Nat × Nat)) (a : Nat), qs.foldl (fun c p => c + (if v = p.1 then 1 else 0) + (if v = p.2 then 1 else 0)) a ≤ a + 2 * qs.length := by
    intro qs
    induction qs with
    | nil => intro a; simp
    | cons q qs ih =>
      intro a
      refine Nat.le_trans (ih _) ?_
      simp only [List.length_cons]
      split <;> split <;> omega
  simpa [degs] using this ps 0
/-- how many of the vertices before m are joined to i -/
def cnt (e i : Nat) : Nat → Nat | 0 => 0 | m + 1 => cnt e i m + if i ≠ m ∧ jn e i m = true then 1 else 0
theorem cnt_le (e i m : Nat) : cnt e i m ≤ m := by
  induction m with
  | zero => simp [cnt]
  | succ m ih => simp only [cnt]; split <;> omega
def degE (n e v : Nat) : Nat := degs ((prs n).filter fun p => jn e p.1 p.2) v
theorem degE_eq : ∀ n, n ≤ 5 → ∀ e, e < eMax n → ∀ v, v < n → degE n e v = cnt e v n := by decide +kernel

section
variable (w : World)
theorem sjoined_self (n e i : Nat) :
    Calls Tryd.prog 96 #[.agg #[.int .i64 n, .int .u32 e], .int .i64 i, .int .i64 i] w fun r w' => r = .returned (.bool false) ∧ Below w.heap.size w w' := by
  have hd2 : ((i : Int) != (i : Int)) = false := by simp
  go_enter Tryd.func96, Tryd.ntmps96
  go_wp2
  go_quiet (fail)
  go_wp2
  go_ret
  exact ⟨rfl, by (repeat (first | exact Below.refl _ _ | assumption | refine bchain (by assumption) ?_ | refine balloc ?_ _ | apply Below.drew | apply below_drewN | (refine Below.alloc ?_ (by (try simp) <;> omega) _) | (refine Below.setCell ?_ (by (try simp) <;> omega) _)))⟩

theorem eo_any (n e : Int) :
    Calls Tryd.prog 81 #[.agg #[.int .i64 n, .int .u32 e]] w fun r w' => ∃ Bg, r = .returned (.func (.func 145) #[] #[.pointer (some ⟨Bg, 0, none⟩), .pointer (some ⟨Bg + 1, 0, none⟩)]) ∧
      w.heap.size ≤ Bg ∧ Below w.heap.size w w' ∧ Bg + 2 ≤ w'.heap.size ∧ w'.cell? ⟨Bg, 0, none⟩ = some (.int .i64 n) ∧ w'.cell? ⟨Bg, 1, none⟩ = some (.int .u32 e) ∧ w'.cell? ⟨Bg + 1, 0, none⟩ = some (.func (.func 120) #[] #[]) := by
  go_enter Tryd.func81, Tryd.ntmps81
  go_wp2_with fail
  refine (pt_any _ n e 120).mono ?_
  rintro r1 w1 ⟨rfl, hb1, hz, g0, g1, ga⟩
  have e1 : (w.alloc (.cells #[.int .i64 n, .int .u32 e] 37)).heap.size = w.heap.size + 1 := by simp
  go_wp2
  go_ret
  exact ⟨w.heap.size + 1, rfl, by omega, by (repeat (first | exact Below.refl _ _ | assumption | refine bchain (by assumption) ?_ | refine balloc ?_ _ | apply Below.drew | apply below_drewN | (refine Below.alloc ?_ (by (try simp) <;> omega) _) | (refine Below.setCell ?_ (by (try simp) <;> omega) _))), by omega, by rw [← e1]; exact g0, by rw [← e1]; exact g1, by rw [← e1]; exact ga⟩

end
end Go.Proofs.YtiedombphcdpbaaDoor
namespace Go.Proofs.YtiedombphcdpbaaDoor
open Go.RowKit Go.Shelf
set_option maxRecDepth 100000
attribute [local go_sem] Oper.semAt_some
/-- n cells of a block in pairs, by a function -/
def CA (w : World) (B n : Nat) (f : Nat → Int × Int) : Prop := ∀ i, i < n → w.cell? ⟨B, i * 2, none⟩ = some (.int .i64 (f i).1) ∧ w.cell? ⟨B, i * 2 + 1, none⟩ = some (.int .i64 (f i).2)
theorem CA.below {w w' : World} {B n : Nat} {f : Nat → Int × Int} (h : CA w B n f) (hb : Below w.heap.size w w') (hB : B < w.heap.size) : CA w' B n f :=
  fun i hi => ⟨(hb.cell (p := ⟨B, _, none⟩) hB).trans (h i hi).1, (hb.cell (p := ⟨B, _, none⟩) hB).trans (h i hi).2⟩
theorem CA.congr {w : World} {B n : Nat} {f g : Nat → Int × Int} (h : CA w B n f) (hg : ∀ i, i < n → g i = f i) : CA w B n g := fun i hi => by rw [hg i hi]; exact h i hi
def OwnA (w0 w : World) (v : Value) (n : Nat) (f : Nat → Int × Int) : Prop :=
  ∃ (a : Option Addr) (cap : Nat), v = .slice a n cap ∧ (0 < n → ∃ B, a = some ⟨B, 0, none⟩ ∧ w0.heap.size ≤ B ∧ B < w.heap.size ∧ CA w B n f ∧ ∀ o, w.frozen? ⟨B, o, none⟩ = false)
theorem OwnA.below {w0 w w' : World} {v : Value} {n : Nat} {f : Nat → Int × Int} (h : OwnA w0 w v n f) (hb : Below w.heap.size w w') : OwnA w0 w' v n f := by
  obtain ⟨a, cap, e, h3⟩ := h
  refine ⟨a, cap, e, fun hz => ?_⟩
  obtain ⟨B, e2, h4, h5, h6, h7⟩ := h3 hz
  exact ⟨B, e2, h4, Nat.lt_of_lt_of_le h5 hb.size, h6.below hb h5, fun o => (hb.frozen (p := ⟨B, o, none⟩) h5).trans (h7 o)⟩
def flat (ps : List (Nat × Nat)) : List Value := ps.flatMap fun p => [.int .i64 (p.1 : Int), .int .i64 (p.2 : Int)]
theorem flat_snoc (ps : List (Nat × Nat)) (p : Nat × Nat) : flat (ps ++ [p]) = flat ps ++ [.int .i64 (p.1 : Int), .int .i64 (p.2 : Int)] := by simp [flat]
theorem flat_length (ps : List (Nat × Nat)) : (flat ps).length = ps.length * 2 := by
  induction ps with
  | nil => rfl
  | cons p ps ih => rw [show flat (p :: ps) = [.int .i64 (p.1 : Int), .int .i64 (p.2 : Int)] ++ flat ps from rfl, List.length_append, ih]; simp; omega
def pAt (ps : List (Nat × Nat)) (i : Nat) : Int × Int := (((ps[i]?.getD (0, 0)).1 : Nat), ((ps[i]?.getD (0, 0)).2 : Nat))
theorem flat_get (ps : List (Nat × Nat)) : ∀ i, i < ps.length → (flat ps)[i * 2]? = some (.int .i64 (pAt ps i).1) ∧ (flat ps)[i * 2 + 1]? = some (.int .i64 (pAt ps i).2) := by
  induction ps with
  | nil => intro i hi; simp at hi
  | cons p ps ih =>
    intro i hi
    rw [show flat (p :: ps) = .int .i64 (p.1 : Int) :: .int .i64 (p.2 : Int) :: flat ps from rfl]
    cases i with
    | zero => exact ⟨rfl, rfl⟩
    | succ i =>
      have := ih i (by simpa using hi)
      rw [show (i + 1) * 2 = i * 2 + 1 + 1 by omega]
      simpa [pAt] using this
theorem row_mono {w : World} {base base' : Nat} {e : TypeId} {size : Nat} {v : Value} {n : Nat} {xs : List Value} (h : w.ownsRow base e size v n xs) (hb : base' ≤ base) : w.ownsRow base' e size v n xs := by
  obtain ⟨hl, (h | ⟨g, cap, cur, e1, h1, h2⟩)⟩ := h
  · exact ⟨hl, .inl h⟩
  · exact ⟨hl, .inr ⟨g, cap, cur, e1, Nat.le_trans hb h1, h2⟩⟩
theorem ownA_of_row {w0 w : World} {base : Nat} {e : TypeId} {v : Value} {ps : List (Nat × Nat)} (h : w.ownsRow base e 2 v ps.length (flat ps)) (hb : w0.heap.size ≤ base) : OwnA w0 w v ps.length (pAt ps) := by
  obtain ⟨hl, (⟨rfl, h0⟩ | ⟨g, cap, cur, rfl, hg, hh, hn, hc, hs, hx⟩)⟩ := h
  · exact ⟨none, 0, by rw [h0], fun c => absurd c (by omega)⟩
  · have hcell : ∀ i, w.cell? ⟨g, i, none⟩ = cur[i]? := fun i => by simp [World.cell?, hh]
    have hat : ∀ j u, j < ps.length * 2 → (flat ps)[j]? = some u → cur[j]? = some u := fun j u hj hu => by
      have h1 : (cur.toList.take (ps.length * 2))[j]? = some u := by rw [hx]; exact hu
      rw [List.getElem?_take_of_lt hj] at h1
      simpa using h1
    refine ⟨some ⟨g, 0, none⟩, cap, rfl, fun _ => ⟨g, rfl, Nat.le_trans hb hg, (Array.getElem?_eq_some_iff.1 hh).1, fun i hi => ?_, fun o => by simp [World.frozen?, hh]⟩⟩
    obtain ⟨f0, f1⟩ := flat_get ps i hi
    exact ⟨(hcell _).trans (hat _ _ (by omega) f0), (hcell _).trans (hat _ _ (by omega) f1)⟩

/-- the pairs of all edges -/
def prE (n e : Nat) : List (Nat × Nat) := (prs n).filter fun p => jn e p.1 p.2
theorem prE_len (n e : Nat) (hn : n ≤ 5) : (prE n e).length ≤ 25 := by
  have h1 := List.length_filter_le (fun p : Nat × Nat => jn e p.1 p.2) (prs n)
  have h2 := prs_length n
  have h3 : n * n ≤ 5 * 5 := Nat.mul_le_mul hn hn
  unfold prE
  omega
theorem info_a2 : (Tryd.prog.info? 152).map (fun i => (i.zero, i.size, i.bytes)) = some (some (.agg #[.int .i64 0, .int .i64 0]), 2, 16) := by kernel_rfl

theorem below_putObj' {B : Nat} (A : World) (l : Nat) (o : Obj) (hl : B ≤ l) : Below B A (A.putObj l o) :=
  ⟨rfl, rfl, rfl, by simp [World.putObj], fun k hk => World.putObj_heap_other (by omega)⟩
section
variable (w : World)
end
end Go.Proofs.YtiedombphcdpbaaDoor
namespace Go.Proofs.YtiedombphcdpbaaDoor
open Go.RowKit
set_option maxRecDepth 100000
/-- the pairs before (i, j) that are edges -/
def prT (e j i : Nat) : List (Nat × Nat) := (prsTo j i).filter fun p => jn e p.1 p.2
theorem prT_end (e j : Nat) : prT e j j = prT e (j + 1) 0 := by simp [prT, prsTo, prs]
theorem prT_t {e i j : Nat} (h : jn e i j = true) : prT e j (i + 1) = prT e j i ++ [(i, j)] := by
  unfold prT; rw [prsTo_succ, List.filter_append]; simp [h]
theorem prT_f {e i j : Nat} (h : jn e i j = false) : prT e j (i + 1) = prT e j i := by
  unfold prT; rw [prsTo_succ, List.filter_append]; simp [h]
theorem prT_all (n e : Nat) : prT e n 0 = prE n e := by simp [prT, prE, prsTo_zero]
theorem prT_one (e : Nat) : prT e 1 0 = [] := rfl
theorem prT_len (e j i : Nat) (hj : j ≤ 5) (hi : i ≤ 5) : (prT e j i).length ≤ 30 := by
  have h1 := List.length_filter_le (fun p : Nat × Nat => jn e p.1 p.2) (prsTo j i)
  have h2 := prsTo_length j i
  have h3 : j * j ≤ 5 * 5 := Nat.mul_le_mul hj hj
  unfold prT
  omega
section
variable (w : World)
set_option maxHeartbeats 2000000 in
theorem sprs_any (n e : Nat) (h : VG n e) :
    Calls Tryd.prog 95 #[.agg #[.int .i64 n, .int .u32 e]] w fun r w' => (∃ v, r = .returned v ∧ OwnA w w' v (prE n e).length (pAt (prE n e))) ∧ Below w.heap.size w w' := by
  have he : e < 4294967296 := by have := h.2.2.2; have := eMax_le n; simp at *; omega
  have hn5 : n ≤ 5 := by have := h.2.1; omega
  obtain ⟨i0, hi, hz0, hz1, hz2⟩ := info_parts info_a2
  replace hi := Lib.hid hi
  replace hz0 := Lib.hid hz0
  replace hz1 := Lib.hid hz1
  replace hz2 := Lib.hid hz2
  have hbx := Lib.hid (show (w.alloc (.cells #[.int .i64 (n : Int), .int .u32 (e : Int)] 37)).cell? ⟨w.heap.size, 0, none⟩ = some (.int .i64 n) ∧ (w.alloc (.cells #[.int .i64 (n : Int), .int .u32 (e : Int)] 37)).cell? ⟨w.heap.size, 1, none⟩ = some (.int .u32 e) from ⟨by rw [cNew _ _ _ _ _ rfl]; rfl, by rw [cNew _ _ _ _ _ rfl]; rfl⟩)
  have s1 : ∀ (W : World) (o : Obj), (W.alloc o).heap.size = W.heap.size + 1 := fun W o => by simp
  replace s1 := Lib.hid s1
  go_enter Tryd.func95, Tryd.ntmps95
  go_wp2
  go_loopw [3, 4] (fun v s wr => ∃ j : Nat, 1 ≤ j ∧ (j ≤ n ∨ j = 1) ∧ s = .int .i64 j ∧ Hid (wr.ownsRow (w.heap.size + 1) 152 2 v (prT e j 0).length (flat (prT e j 0))) ∧ wr.cell? ⟨w.heap.size, 0, none⟩ = some (.int .i64 n) ∧ wr.cell? ⟨w.heap.size, 1, none⟩ = some (.int .u32 e) ∧ w.heap.size < wr.heap.size ∧ Below w.heap.size w wr) (fun _ s _ => n - (intOf s).toNat)
  case atStart =>
    refine ⟨1, by omega, .inr rfl, rfl, ?_, (cOld _ _ _ _ (by rw [s1.out]; omega)).trans hbx.out.1, (cOld _ _ _ _ (by rw [s1.out]; omega)).trans hbx.out.2, by rw [s1.out, s1.out]; omega, by (repeat (first | exact Below.refl _ _ | assumption | refine bchain (by assumption) ?_ | refine balloc ?_ _ | apply Below.drew | apply below_drewN | (refine Below.alloc ?_ (by (try simp) <;> omega) _) | (refine Below.setCell ?_ (by (try simp) <;> omega) _)))⟩
    show World.ownsRow _ _ _ _ _ _ _
    rw [prT_one]
    have := World.ownsRow_made (w.alloc (.cells #[.int .i64 (n : Int), .int .u32 (e : Int)] 37)) (base := w.heap.size + 1) (e := 152) (size := 2) #[] 0 (by rw [s1.out]; omega) (by omega) rfl
    rw [s1.out] at this
    exact this
  case round =>
    obtain ⟨j, hj1, hj, rfl, hown, c0, c1, hz, hb⟩ := hrel
    by_cases hlt : j < n
    · go_wp2
      obtain ⟨wo, rfl⟩ : ∃ wo : World, wo = wr := ⟨_, rfl⟩
      go_loopw [3, 5] (fun v s wr => ∃ i : Nat, i ≤ j ∧ s = .int .i64 i ∧ Hid (wr.ownsRow (w.heap.size + 1) 152 2 v (prT e j i).length (flat (prT e j i))) ∧ wr.cell? ⟨w.heap.size, 0, none⟩ = some (.int .i64 n) ∧ wr.cell? ⟨w.heap.size, 1, none⟩ = some (.int .u32 e) ∧ w.heap.size < wr.heap.size ∧ Below w.heap.size w wr) (fun _ s _ => j - (intOf s).toNat)
      case atStart => exact ⟨0, by omega, rfl, hown, c0, c1, hz, hb⟩
      case round =>
        clear c0 c1 hz hb hown
        obtain ⟨i, hi2, rfl, hown, c0, c1, hz, hb⟩ := hrel
        by_cases hlt2 : i < j
        · have hJ := Lib.hid (sjoined_any wr n e i j he (by omega) (by omega) (by omega))
          have hlen := prT_len e j i (by omega) (by omega)
          cases hbb : jn e i j
          · rw [hbb] at hJ
            have hnx := Lib.hid (prT_f hbb)
            clear hbb hlen
            go_wp2_with fail
            refine (hJ.out).mono ?_
            rintro r3 w3 ⟨rfl, hb3⟩
            obtain ⟨hc3_0, hz3_0⟩ := bkeep hb3 (w.heap.size) (by (try simp) <;> omega)
            have hown3 := hown.out.kept (row := none) (w' := w3) ⟨hb3.os, hb3.tape, hb3.output, hb3.size, fun k hk _ => hb3.block k hk⟩ (by cases (Value.ownBlock _) <;> simp)
            rw [← hnx.out] at hown3
            replace hown3 := Lib.hid hown3
            clear hown
            go_wp2
            go_roundw
            case rel => exact ⟨i + 1, by omega, by go_num, hown3, (hc3_0 0).trans c0, (hc3_0 1).trans c1, hz3_0, by (repeat (first | exact Below.refl _ _ | assumption | refine bchain (by assumption) ?_ | refine balloc ?_ _ | apply Below.drew | apply below_drewN | (refine Below.alloc ?_ (by (try simp) <;> omega) _) | (refine Below.setCell ?_ (by (try simp) <;> omega) _)))⟩
            case measure => simp [intOf]; omega
          · rw [hbb] at hJ
            have hnx := Lib.hid (prT_t hbb)
            clear hbb
            have hbd : ∀ W : World, (Instr.build 152 #[(0, .int .i64 (i : Int)), (1, .int .i64 (j : Int))]).run Tryd.prog W = .ok (.agg #[.int .i64 (i : Int), .int .i64 (j : Int)]) W := fun W => run_build W 152 _ _ (by kernel_rfl)
            go_wp2_with fail
            refine (hJ.out).mono ?_
            rintro r3 w3 ⟨rfl, hb3⟩
            obtain ⟨hc3_0, hz3_0⟩ := bkeep hb3 (w.heap.size) (by (try simp) <;> omega)
            have hown3 := Lib.hid (hown.out.kept (row := none) (w' := w3) ⟨hb3.os, hb3.tape, hb3.output, hb3.size, fun k hk _ => hb3.block k hk⟩ (by cases (Value.ownBlock _) <;> simp))
            clear hown
            have e0 := (hc3_0 0).trans c0
            have e1 := (hc3_0 1).trans c1
            have hB3 : Below w.heap.size w w3 := by (repeat (first | exact Below.refl _ _ | assumption | refine bchain (by assumption) ?_ | refine balloc ?_ _ | apply Below.drew | apply below_drewN | (refine Below.alloc ?_ (by (try simp) <;> omega) _) | (refine Below.setCell ?_ (by (try simp) <;> omega) _)))
            clear hc3_0 c0 c1
            go_wp2_with (at_builtin; refine wpList_append_own _ rfl _ _ 150 rfl (w.heap.size + 1) 152 i0 (.agg #[.int .i64 0, .int .i64 0]) 2 16 Tryd.underlying150 hi.out hz0.out hz1.out hz2.out rfl (by decide) _ _ _ rfl (hown3.out.alloc _) ⟨w3.heap.size, 0, none⟩ 1 1 [.int .i64 i, .int .i64 j] rfl rfl (fun q u hq => by match q, hq with
              | 0, hq => simp at hq; subst hq; rw [show (⟨w3.heap.size, 0, none⟩ : Addr).add 0 = ⟨w3.heap.size, 0, none⟩ from rfl, World.cell?_alloc_new]; rfl
              | 1, hq => simp at hq; subst hq; rw [show (⟨w3.heap.size, 0, none⟩ : Addr).add 1 = ⟨w3.heap.size, 1, none⟩ from rfl, World.cell?_alloc_new]; rfl
              | q + 2, hq => simp at hq) (fun u hu => by simp at hu; rcases hu with rfl | rfl <;> rfl) (by unfold maxLen; omega) (by omega) (by simp; omega) ?_; intro v' w4 hown' hgrow _)
            have hne : some w.heap.size ≠ Value.ownBlock _ := fun c => by
              have := (hown3.out.lt _ c.symm).1
              omega
            have f0 := hgrow.cell (a := ⟨w.heap.size, 0, none⟩) ((cOld _ _ _ _ hz3_0).trans e0) hne
            have f1 := hgrow.cell (a := ⟨w.heap.size, 1, none⟩) ((cOld _ _ _ _ hz3_0).trans e1) hne
            have hz4 : w.heap.size < w4.heap.size := by have := hgrow.size; simp at this; omega
            have hB4 : Below w.heap.size w w4 := (balloc hB3 _).grown hgrow (by simp; omega) (fun k hk => by have := (hown3.out.lt k hk).1; omega)
            have hown4 : Hid (w4.ownsRow (w.heap.size + 1) 152 2 v' (prT e j (i + 1)).length (flat (prT e j (i + 1)))) := by
              show World.ownsRow _ _ _ _ _ _ _
              rw [hnx.out, flat_snoc, List.length_append]
              exact hown'
            clear hown' hgrow hown3 hne e0 e1
            go_wp2
            go_roundw
            case rel => exact ⟨i + 1, by omega, by go_num, hown4, f0, f1, hz4, hB4⟩
            case measure => simp [intOf]; omega
        · obtain rfl : i = j := by omega
          have hdd := decide_eq_false (show ¬ ((i : Int) < (i : Int)) by omega)
          have hown3 := hown.out
          rw [prT_end] at hown3
          replace hown3 := Lib.hid hown3
          clear hown
          go_wp2
          go_roundw
          case rel => exact ⟨i + 1, by omega, .inl (by omega), by go_num, hown3, c0, c1, hz, hb⟩
          case measure => simp [intOf]; omega
    · have hdd := decide_eq_false (show ¬ ((j : Int) < (n : Int)) by omega)
      have hp : prT e j 0 = prE n e := by
        rcases hj with hj | hj
        · obtain rfl : j = n := by omega
          exact prT_all j e
        · subst hj
          have hn01 : n = 0 ∨ n = 1 := by omega
          rcases hn01 with rfl | rfl <;> rfl
      have hown2 := hown.out
      rw [hp] at hown2
      have hres := Lib.hid (ownA_of_row (w0 := w) hown2 (by omega))
      clear hown hown2 hp
      go_wp2
      go_ret
      exact ⟨⟨_, rfl, hres.out⟩, hb⟩
end
end Go.Proofs.YtiedombphcdpbaaDoor
namespace Go.Proofs.YtiedombphcdpbaaDoor
open Go.RowKit
set_option maxRecDepth 100000
attribute [local go_sem] Oper.semAt_some
def gHead : List UInt8 := [103, 114, 97, 112, 104, 32]
/-- one pair's text -/
def gPair (p : Nat × Nat) : List UInt8 := 32 :: (Lib.decDigits p.1 ++ (45 :: Lib.decDigits p.2))
/-- the text of a graph with these pairs -/
def gText (n : Nat) (ps : List (Nat × Nat)) : List UInt8 := gHead ++ (Lib.decDigits n ++ ps.flatMap gPair)
theorem gText_nil (n : Nat) : gText n [] = gHead ++ Lib.decDigits n := by simp [gText]
theorem gText_snoc (n : Nat) (ps : List (Nat × Nat)) (p : Nat × Nat) : gText n (ps ++ [p]) = gText n ps ++ gPair p := by simp [gText]
theorem gPair_len {p : Nat × Nat} (h1 : p.1 < 1000000) (h2 : p.2 < 1000000) : (gPair p).length ≤ 42 := by
  have a := dd_len (n := p.1) (by omega)
  have b := dd_len (n := p.2) (by omega)
  simp [gPair]
  omega
theorem gText_len {n : Nat} (hn : n < 1000000) : ∀ {ps : List (Nat × Nat)}, (∀ p ∈ ps, p.1 < 1000000 ∧ p.2 < 1000000) → (gText n ps).length ≤ 26 + 42 * ps.length := by
  intro ps h
  have a := dd_len (n := n) (by omega)
  have k : (ps.flatMap gPair).length ≤ 42 * ps.length := by
    induction ps with
    | nil => simp
    | cons p ps ih =>
      have h1 := gPair_len (h p (by simp)).1 (h p (by simp)).2
      have h2 := ih (fun q hq => h q (by simp [hq]))
      simp only [List.flatMap_cons, List.length_append, List.length_cons]
      omega
  simp only [gText, List.length_append, gHead, List.length_cons, List.length_nil]
  omega
/-- the four sums of a pair's text -/
theorem run_pair (a b : Nat) (ha : a < 1000000) (hb : b < 1000000) (s : List UInt8) (hs : s.length ≤ 2000) :
    (∀ W : World, (Op.stringOp .add { data := #[32] } (tx (Lib.decDigits a))).run Tryd.prog W = .ok (.string (tx (32 :: Lib.decDigits a))) W) ∧
    (∀ W : World, (Op.stringOp .add (tx (32 :: Lib.decDigits a)) { data := #[45] }).run Tryd.prog W = .ok (.string (tx (32 :: (Lib.decDigits a ++ [45])))) W) ∧
    (∀ W : World, (Op.stringOp .add (tx (32 :: (Lib.decDigits a ++ [45]))) (tx (Lib.decDigits b))).run Tryd.prog W = .ok (.string (tx (gPair (a, b)))) W) ∧
    (∀ W : World, (Op.stringOp .add (tx s) (tx (gPair (a, b)))).run Tryd.prog W = .ok (.string (tx (s ++ gPair (a, b)))) W) := by
  have l1 := dd_len (n := a) (by omega)
  have l2 := dd_len (n := b) (by omega)
  have l3 := gPair_len (p := (a, b)) ha hb
  have e1 : ({ data := #[32] } : ByteArray) = tx [32] := rfl
  have e2 : ({ data := #[45] } : ByteArray) = tx [45] := rfl
  have x1 : tx [32] ++ tx (Lib.decDigits a) = tx (32 :: Lib.decDigits a) := tx_app _ _
  have x2 : tx (32 :: Lib.decDigits a) ++ tx [45] = tx (32 :: (Lib.decDigits a ++ [45])) := tx_app _ _
  have x3 : tx (32 :: (Lib.decDigits a ++ [45])) ++ tx (Lib.decDigits b) = tx (gPair (a, b)) := by rw [tx_app]; simp [gPair]
  refine ⟨fun W => ?_, fun W => ?_, fun W => ?_, fun W => ?_⟩
  · rw [e1, ← x1]; exact run_string_add W _ _ (by simp [tx_size]) (by simp [tx_size]; omega)
  · rw [e2, ← x2]; exact run_string_add W _ _ (by simp [tx_size]; omega) (by simp [tx_size])
  · rw [← x3]; exact run_string_add W _ _ (by simp [tx_size]; omega) (by simp [tx_size]; omega)
  · rw [← tx_app]; exact run_string_add W _ _ (by simp [tx_size]; omega) (by simp [tx_size]; omega)
theorem run_head (n : Nat) (hn : n < 1000000) : ∀ W : World, (Op.stringOp .add { data := #[103, 114, 97, 112, 104, 32] } (tx (Lib.decDigits n))).run Tryd.prog W = .ok (.string (tx (gText n []))) W := by
  intro W
  have l1 := dd_len (n := n) (by omega)
  have e1 : ({ data := #[103, 114, 97, 112, 104, 32] } : ByteArray) = tx gHead := rfl
  rw [e1, gText_nil, ← tx_app]
  exact run_string_add W _ _ (by rw [tx_size]; simp [gHead]) (by rw [tx_size]; omega)
section
variable (w : World)
theorem sgt_f (n e : Int) (hn : e < 4294967296) (he0 : 0 ≤ e) (h : ¬ VG n e) :
    Calls Tryd.prog 56 #[.agg #[.int .i64 n, .int .u32 e]] w fun r w' => r = .returned (.string ⟨#[]⟩) ∧ Below w.heap.size w w' := by
  go_enter Tryd.func56, Tryd.ntmps56
  go_wp2_with fail
  refine (ok_f _ n e hn he0 h).mono ?_
  rintro r1 w1 ⟨rfl, hb1⟩
  go_wp2
  go_ret
  exact ⟨rfl, by (repeat (first | exact Below.refl _ _ | assumption | refine bchain (by assumption) ?_ | refine balloc ?_ _ | apply Below.drew | apply below_drewN | (refine Below.alloc ?_ (by (try simp) <;> omega) _) | (refine Below.setCell ?_ (by (try simp) <;> omega) _)))⟩
theorem prs_small : ∀ n, n ≤ 5 → ∀ p ∈ prs n, p.1 < 5 ∧ p.2 < 5 := by decide
theorem prE_small {n e : Nat} (hn : n ≤ 5) : ∀ p ∈ prE n e, p.1 < 5 ∧ p.2 < 5 := fun p hp => prs_small n hn p (List.mem_filter.1 hp).1
set_option maxHeartbeats 2000000 in
theorem sgt_t (n e : Nat) (h : VG n e) :
    Calls Tryd.prog 56 #[.agg #[.int .i64 n, .int .u32 e]] w fun r w' => r = .returned (.string (tx (gText n (prE n e)))) ∧ Below w.heap.size w w' := by
  have hn5 : n ≤ 5 := by have := h.2.1; omega
  have hL := prE_len n e hn5
  have hsm := prE_small (n := n) (e := e) hn5
  have hD := Lib.hid (fun W a (ha : a < 1000000) => dec_any 5 W a (by omega) (by omega))
  have hN := Lib.hid (fun W => dec_any 5 W n (by omega) (by omega))
  have hV := Lib.hid (fun W => ok_t W n e h)
  have hP := Lib.hid (fun W => sprs_any W n e h)
  have hH := run_head n (by omega)
  obtain ⟨ps, hps⟩ : ∃ ps, prE n e = ps := ⟨_, rfl⟩
  rw [hps] at hL hsm hP ⊢
  replace hsm := Lib.hid hsm
  have hR := Lib.hid (fun k (hk : k < ps.length) => run_pair (ps[k]?.getD (0, 0)).1 (ps[k]?.getD (0, 0)).2 (by
      have := (hsm.out (ps[k]?.getD (0, 0)) (by rw [List.getElem?_eq_getElem hk]; exact List.getElem_mem hk)).1; omega) (by
      have := (hsm.out (ps[k]?.getD (0, 0)) (by rw [List.getElem?_eq_getElem hk]; exact List.getElem_mem hk)).2; omega) (gText n (ps.take k)) (by
      have := gText_len (n := n) (by omega) (ps := ps.take k) (fun p hp => by have := hsm.out p (List.mem_of_mem_take hp); omega)
      rw [List.length_take] at this
      omega))
  have hS := Lib.hid (fun k (hk : k < ps.length) => show gText n (ps.take k) ++ gPair ((ps[k]?.getD (0, 0)).1, (ps[k]?.getD (0, 0)).2) = gText n (ps.take (k + 1)) by
      rw [List.take_add_one, ← gText_snoc, List.getElem?_eq_getElem hk]; rfl)
  have hE := Lib.hid (show ps.take ps.length = ps from List.take_length)
  obtain ⟨W0, hW0⟩ : ∃ W0, W0 = w.alloc (.cells #[.int .i64 (n : Int), .int .u32 (e : Int)] 37) := ⟨_, rfl⟩
  have hB0 : Below w.heap.size w W0 := by rw [hW0]; (repeat (first | exact Below.refl _ _ | assumption | refine bchain (by assumption) ?_ | refine balloc ?_ _ | apply Below.drew | apply below_drewN | (refine Below.alloc ?_ (by (try simp) <;> omega) _) | (refine Below.setCell ?_ (by (try simp) <;> omega) _)))
  have hz0 : w.heap.size < W0.heap.size := by rw [hW0]; simp
  have hbx : Hid (∀ W, Below W0.heap.size W0 W → W.cell? ⟨w.heap.size, 0, none⟩ = some (.int .i64 n) ∧ W.cell? ⟨w.heap.size, 1, none⟩ = some (.int .u32 e)) := fun W h => by
    refine ⟨(h.cell (p := ⟨w.heap.size, 0, none⟩) hz0).trans ?_, (h.cell (p := ⟨w.heap.size, 1, none⟩) hz0).trans ?_⟩ <;> (rw [hW0, World.cell?_alloc_new]; rfl)
  replace hW0 := Lib.hid hW0
  clear h hps hn5
  obtain ⟨y0, y1⟩ := hbx.out W0 (Below.refl _ _)
  obtain ⟨T0, hT0⟩ : ∃ T0, tx (gText n []) = T0 := ⟨_, rfl⟩
  rw [hT0] at hH
  obtain ⟨DN, hDN⟩ : ∃ DN, tx (Lib.decDigits n) = DN := ⟨_, rfl⟩
  rw [hDN] at hH hN
  clear hDN
  go_enter Tryd.func56, Tryd.ntmps56
  go_wp2_with fail
  rw [← hW0.out]
  go_wp2_with fail
  refine (hV.out _).mono ?_
  rintro r1 w1 ⟨rfl, hb1⟩
  clear y0 y1
  obtain ⟨y0, y1⟩ := hbx.out w1 hb1
  go_wp2_with fail
  refine (hN.out _).mono ?_
  rintro r2 w2 ⟨rfl, hb2⟩
  have hb3 := bchain hb2 hb1
  clear y0 y1
  obtain ⟨y0, y1⟩ := hbx.out w2 hb3
  go_wp2_with fail
  refine (hP.out _).mono ?_
  rintro r4 w4 ⟨⟨v, rfl, a, cap, rfl, hv⟩, hb4⟩
  have hb5 := bchain hb4 hb3
  clear y0 y1 hb1 hb2 hb3 hH
  replace hv := Lib.hid hv
  go_wp2
  go_loopw [3, 5] (fun s i wr => ∃ k : Nat, k ≤ ps.length ∧ i = .int .i64 k ∧ s = .string (tx (gText n (ps.take k))) ∧ Below w4.heap.size w4 wr) (fun _ i _ => ps.length - (intOf i).toNat)
  case atStart => exact ⟨0, by omega, rfl, by rw [← hT0]; rfl, Below.refl _ _⟩
  case round =>
    obtain ⟨k, hk, rfl, rfl, hbr⟩ := hrel
    by_cases hlt : k < ps.length
    · obtain ⟨B, rfl, hB1, hB2, hca, _⟩ := hv.out (by omega)
      obtain ⟨d0, d1⟩ := hca k hlt
      have hz : B < wr.heap.size := Nat.lt_of_lt_of_le hB2 hbr.size
      have q0 := bw_cell hz ((hbr.cell (p := ⟨B, k * 2, none⟩) hB2).trans d0)
      have q1 := bw_cell hz ((hbr.cell (p := ⟨B, k * 2 + 1, none⟩) hB2).trans d1)
      obtain ⟨x1, x2, x3, x4⟩ := hR.out k hlt
      rw [hS.out k hlt] at x4
      have hp : (ps[k]?.getD (0, 0)).1 < 5 ∧ (ps[k]?.getD (0, 0)).2 < 5 := hsm.out (ps[k]?.getD (0, 0)) (by rw [List.getElem?_eq_getElem hlt]; exact List.getElem_mem hlt)
      simp only [pAt] at q0 q1
      obtain ⟨i, hi⟩ : ∃ i, (ps[k]?.getD (0, 0)).1 = i := ⟨_, rfl⟩
      obtain ⟨j, hj⟩ : ∃ j, (ps[k]?.getD (0, 0)).2 = j := ⟨_, rfl⟩
      rw [hi] at q0 x1 x2 x3 x4 hp
      rw [hj] at q1 x3 x4 hp
      have hDi := Lib.hid (fun W => hD.out W i (by omega))
      have hDj := Lib.hid (fun W => hD.out W j (by omega))
      have hm : ps.length ≤ 25 := hL
      clear hi hj d0 d1 hca
      obtain ⟨t1, ht1⟩ : ∃ t, tx (gText n (ps.take k)) = t := ⟨_, rfl⟩
      obtain ⟨t2, ht2⟩ : ∃ t, tx (gText n (ps.take (k + 1))) = t := ⟨_, rfl⟩
      obtain ⟨t3, ht3⟩ : ∃ t, tx (Lib.decDigits i) = t := ⟨_, rfl⟩
      obtain ⟨t4, ht4⟩ : ∃ t, tx (Lib.decDigits j) = t := ⟨_, rfl⟩
      obtain ⟨t5, ht5⟩ : ∃ t, tx (32 :: Lib.decDigits i) = t := ⟨_, rfl⟩
      obtain ⟨t6, ht6⟩ : ∃ t, tx (32 :: (Lib.decDigits i ++ [45])) = t := ⟨_, rfl⟩
      obtain ⟨t7, ht7⟩ : ∃ t, tx (gPair (i, j)) = t := ⟨_, rfl⟩
      rw [ht1] at x4
      rw [ht2] at x4
      rw [ht3] at x1 hDi
      rw [ht4] at x3 hDj
      rw [ht5] at x1 x2
      rw [ht6] at x2 x3
      rw [ht7] at x3 x4
      rw [ht1]
      clear ht3 ht4 ht5 ht6 ht7
      have hdd := decide_eq_true (show ((k : Int) < (ps.length : Int)) by omega)
      go_wp2
      refine wp_region_below (by kernel_rfl) (by kernel_rfl) ?_
      iterate 6 (quiet_step (fail))
      refine wpQuiet_step (fun K hK => ?_)
      go_simp
      apply Exists.intro
      refine ⟨fun p => ?_, hK _ ?_⟩
      · exact bw_of (w := wr) (p := p) (hDi.out p.W)
      clear hK K
      iterate 2 (quiet_step (fail))
      iterate 5 (quiet_step (fail))
      refine wpQuiet_step (fun K hK => ?_)
      go_simp
      apply Exists.intro
      refine ⟨fun p => ?_, hK _ ?_⟩
      · exact bw_of (w := wr) (p := p) (hDj.out p.W)
      clear hK K
      iterate 2 (quiet_step (fail))
      iterate 1 (quiet_step (fail))
      refine wpQuiet_nil ?_
      intro w6 hw'
      obtain ⟨⟨wx, hb_w6⟩, rfl⟩ := hw'
      go_wp2
      go_roundw
      case rel => exact ⟨k + 1, by omega, by go_num, by rw [ht2], hbr.trans (hb_w6.mono hbr.size)⟩
      case measure => simp [intOf]; omega
    · obtain rfl : k = ps.length := by omega
      have hdd := decide_eq_false (show ¬ ((ps.length : Int) < (ps.length : Int)) by omega)
      rw [hE.out]
      go_wp2
      go_ret
      exact ⟨rfl, bchain (bchain hbr hb5) hB0⟩
end
end Go.Proofs.YtiedombphcdpbaaDoor
/-
  A strings.Builder THAT THE CALL LAID: copyCheck and WriteString (the cut's text refuses one way of copyCheck, so the shelf's own contracts do not lie here; that way is never gone).
-/
namespace Go.Proofs.YtiedombphcdpbaaDoor
open Go.RowKit
set_option maxRecDepth 100000
/-- the builder at block b holds these bytes; what it has laid lies from b on -/
def BdAt (w : World) (b : Nat) (l : List UInt8) : Prop := Lib.IsBuilderF 75 5 b b (Lib.byteCells l) w
theorem bd_size : (Tryd.prog.info? 75).map (·.size) = some 2 := by kernel_rfl
theorem bd_lies : liesAt Tryd.prog Tryd.prog.depth 75 (2 / Tryd.prog.cellsOf 75) 0 75 1 = true := by kernel_rfl
theorem info_u8 : (Tryd.prog.info? 5).map (fun i => (i.zero, i.size, i.bytes)) = some (some (.int .u8 0), 1, 1) := by kernel_rfl
theorem BdAt.alloc {w : World} {b : Nat} {l : List UInt8} (h : BdAt w b l) (o : Obj) : BdAt (w.alloc o) b l := Lib.IsBuilderF.alloc h o
theorem BdAt.fresh (w : World) : BdAt (w.alloc (.cells #[.pointer none, .slice none 0 0] 75)) w.heap.size [] := .of (Lib.fresh_isBuilder _ _ w)
theorem bdF_kept {w w' : World} {b : Nat} {p : Value} {xs : List Value} {row : Option Nat} (h : Lib.BuilderAtF 75 5 b b p xs w) (hg : w.grownBy w' row) (hr : ∀ r, row = some r → ∃ o : Obj, w.heap[r]? = some o ∧ o.isCells = false) : Lib.BuilderAtF 75 5 b b p xs w' := by
  obtain ⟨h1, v, h2, h3, h4⟩ := h
  have hlt : b < w.heap.size := (Array.getElem?_eq_some_iff.1 h2).1
  refine ⟨h1, v, ?_, h3.kept hg (Classical.byContradiction fun hc => ?_), h4⟩
  · rw [hg.block b hlt (fun e => ?_)]
    · exact h2
    · obtain ⟨o, ho, hk⟩ := hr b e.symm
      rw [h2] at ho
      obtain rfl := Option.some.inj ho
      cases hk
  · rw [not_or] at hc
    obtain ⟨g, hv⟩ := Option.ne_none_iff_exists'.1 hc.1
    have e2 : v.ownBlock = row := Classical.byContradiction hc.2
    obtain ⟨o, ho, hk⟩ := hr g (by rw [← e2, hv])
    obtain ⟨c, fz, hc2⟩ := Lib.ownsRowF_kind h3 g hv
    rw [hc2] at ho
    obtain rfl := Option.some.inj ho
    cases hk
theorem BdAt.kept {w w' : World} {b : Nat} {l : List UInt8} {row : Option Nat} (h : BdAt w b l) (hg : w.grownBy w' row) (hr : ∀ r, row = some r → ∃ o : Obj, w.heap[r]? = some o ∧ o.isCells = false) : BdAt w' b l :=
  h.elim (fun x => .inl (bdF_kept x hg hr)) (fun x => .inr (bdF_kept x hg hr))
theorem BdAt.below {w w' : World} {b : Nat} {l : List UInt8} (h : BdAt w b l) (hb : Below w.heap.size w w') : BdAt w' b l :=
  h.kept (row := none) ⟨hb.os, hb.tape, hb.output, hb.size, fun k hk _ => hb.block k hk⟩ (fun _ e => by cases e)
theorem BdAt.lt {w : World} {b : Nat} {l : List UInt8} (h : BdAt w b l) : b < w.heap.size := by
  rcases h with ⟨_, v, h2, _⟩ | ⟨_, v, h2, _⟩ <;> exact (Array.getElem?_eq_some_iff.1 h2).1
section
variable (w : World)
theorem bd_check (b : Nat) (xs : List Value) (h : Lib.IsBuilderF 75 5 b b xs w) :
    Calls Tryd.prog 65 #[.pointer (some ⟨b, 0, none⟩)] w fun e w' => e = .returned (.tuple #[]) ∧ (Lib.BuilderAtF 75 5 b b (.pointer (some ⟨b, 0, none⟩)) xs w' ∧ Below b w w' ∧ Lib.OthersKept 5 (some b) w w') := by
  obtain ⟨j, hj, hjs⟩ := Option.map_eq_some_iff.1 bd_size
  rcases h with h | h
  · have h0 := h.cell0
    have hsh := h.shape
    have hfz := h.frozen0
    go_enter Tryd.func65, Tryd.ntmps65
    go_wp2
    rw [Lib.run_to_unsafe w ⟨b, 0, none⟩ Tryd.underlying72 Tryd.underlying157 hj (by rw [hjs]; decide) hsh (Nat.zero_lt_succ 1)]
    simp only [Result.andThen]
    rw [Oper.upon_value]
    go_wp2
    rw [run_callFunc_extern Tryd.func101 (by kernel_rfl) (by kernel_rfl) (by kernel_rfl) (e := Extern.AbiNoEscape.same) (by kernel_rfl)]
    rw [Lib.run_noEscape]
    simp only [Result.andThen]
    rw [Oper.upon_value]
    go_wp2
    rw [Lib.run_from_unsafe w ⟨b, 0, none⟩ Tryd.underlying157 Tryd.underlying72 hj hsh bd_lies]
    simp only [Result.andThen]
    rw [Oper.upon_value]
    go_wp2
    go_end0
    exact ⟨rfl, h.used _, (Below.refl b w).setCell (p := ⟨b, 0, none⟩) h.1 _, (Lib.OthersKept.refl _ _ w).setCell ⟨b, 0, none⟩ rfl _⟩
  · have h0 := h.cell0
    go_enter Tryd.func65, Tryd.ntmps65
    go_wp2
    rw [Lib.run_neq_ptr_same w _ Tryd.underlying72 hj]
    go_wp2
    go_end0
    exact ⟨rfl, h, Below.refl b _, Lib.OthersKept.refl _ _ _⟩
set_option maxHeartbeats 2000000 in
theorem bd_write (b : Nat) (l s : List UInt8) (h : BdAt w b l) (hl : l.length + s.length ≤ 1000000) :
    Calls Tryd.prog 32 #[.pointer (some ⟨b, 0, none⟩), .string ⟨s.toArray⟩] w fun e w' => e = .returned (.tuple #[.int .i64 s.length, .nilIface]) ∧ BdAt w' b (l ++ s) ∧ Below b w w' ∧ Lib.OthersKept 5 (some b) w w' := by
  obtain ⟨i0, hi, hz0, hz1, hz2⟩ := info_parts info_u8
  have hbw := h.lt
  have hs : (⟨s.toArray⟩ : ByteArray).size = s.length := by simp [ByteArray.size]
  replace h : Lib.IsBuilderF 75 5 b b (Lib.byteCells l) w := h
  go_enter Tryd.func32, Tryd.ntmps32
  go_wp2_with fail
  refine (bd_check _ b _ h).mono ?_
  rintro e w1 ⟨rfl, h1, hb1, hk1⟩
  obtain ⟨hB, v, hbk, hown, hne⟩ := h1
  have c0 : w1.cell? ⟨b, 0, none⟩ = some (.pointer (some ⟨b, 0, none⟩)) := by rw [Lib.cell_of_heap hbk]; rfl
  have c1 : w1.cell? ⟨b, 1, none⟩ = some v := by rw [Lib.cell_of_heap hbk]; rfl
  have hlt : b < w1.heap.size := (Array.getElem?_eq_some_iff.1 hbk).1
  have hln := Lib.byteCells_length l
  go_wp2_with (at_builtin; refine Lib.wpList_append_own_stringF _ rfl _ _ 73 9 rfl b 5 i0 Tryd.underlying73 Tryd.underlying9 hi hz0 hz1 hz2 _ _ _ rfl hown ⟨s.toArray⟩ rfl ?c3 ?c4 ?c5 ?_)
  case c3 => rw [hs, hln]; unfold maxLen; omega
  case c4 => rw [hs, hln]; omega
  case c5 => omega
  intro v' w2 hown' hgrow _
  have hb2 : w2.heap[b]? = some (.cells #[.pointer (some ⟨b, 0, none⟩), v] 75 (0, 0)) := (hgrow.block b hlt (fun e => hne e.symm)).trans hbk
  have d0 : w2.cell? ⟨b, 0, none⟩ = some (.pointer (some ⟨b, 0, none⟩)) := by rw [Lib.cell_of_heap hb2]; rfl
  have d1 : w2.cell? ⟨b, 1, none⟩ = some v := by rw [Lib.cell_of_heap hb2]; rfl
  have f1 : w2.frozen? ⟨b, 1, none⟩ = false := Lib.frozen_of_heap hb2 1
  obtain ⟨ao, n', cap, rfl⟩ : ∃ ao n' cap, v' = .slice ao n' cap := by
    rcases hown'.2 with ⟨hv, _⟩ | ⟨g, cap, cur, fz, hv, _⟩
    · exact ⟨_, _, _, hv⟩
    · exact ⟨_, _, _, hv⟩
  go_wp2
  go_ret2
  refine ⟨rfl, .inr ?_, ?_, (hk1.grown hgrow (Lib.ownsRowF_kind hown)).setCell ⟨b, 1, none⟩ rfl _⟩
  · refine Lib.BuilderAtF.put hB hb2 ?_ (by decide)
    rw [Lib.byteCells_append, List.length_append, show Lib.byteCells s = Lib.strCells ⟨s.toArray⟩ from rfl, Lib.strCells_length, hs, hln]
    exact hown'
  · exact (hb1.grown hgrow (by omega) (fun k hk => (hown.lt k hk).1)).setCell (p := ⟨b, 1, none⟩) hB _
end
end Go.Proofs.YtiedombphcdpbaaDoor
/-
  THE TEXT OF A GRAPH: the program's contract.
-/
namespace Go.Proofs.YtiedombphcdpbaaDoor
open Go.RowKit
set_option maxRecDepth 100000
attribute [local go_sem] Oper.semAt_some
/-- the two boxes that edgesOf lays -/
def EB (W : World) (B : Nat) (n e : Int) : Prop := W.heap[B]? = some (.cells #[.int .i64 n, .int .u32 e] 37) ∧ ∃ T : TypeId, T ≠ 5 ∧ W.heap[B + 1]? = some (.cells #[.func (.func 120) #[] #[]] T)
theorem EB.kept {w w' : World} {B : Nat} {n e : Int} {row : Option Nat} (h : EB w B n e) (hg : w.grownBy w' row) (hr : ∀ r, row = some r → ∃ o : Obj, w.heap[r]? = some o ∧ o.isCells = false) : EB w' B n e := by
  obtain ⟨h1, T, hT, h2⟩ := h
  have k1 : B < w.heap.size := (Array.getElem?_eq_some_iff.1 h1).1
  have k2 : B + 1 < w.heap.size := (Array.getElem?_eq_some_iff.1 h2).1
  refine ⟨(hg.block _ k1 fun c => ?_).trans h1, T, hT, (hg.block _ k2 fun c => ?_).trans h2⟩
  · obtain ⟨o, ho, hk⟩ := hr _ c.symm
    rw [h1] at ho
    obtain rfl := Option.some.inj ho
    cases hk
  · obtain ⟨o, ho, hk⟩ := hr _ c.symm
    rw [h2] at ho
    obtain rfl := Option.some.inj ho
    cases hk
theorem EB.below {w w' : World} {B : Nat} {n e : Int} (h : EB w B n e) (hb : Below w.heap.size w w') : EB w' B n e :=
  h.kept (row := none) (below_grown hb) (fun _ c => by cases c)
theorem EB.others {w w' : World} {B b : Nat} {n e : Int} (h : EB w B n e) (hk : Lib.OthersKept 5 (some b) w w') (h1 : B ≠ b) (h2 : B + 1 ≠ b) : EB w' B n e := by
  obtain ⟨k1, T, hT, k2⟩ := h
  exact ⟨hk _ _ k1 (fun c => h1 (Option.some.inj c)) (fun c fz e => by have := (Obj.cells.inj e).2.1; exact absurd this (by decide)), T, hT, hk _ _ k2 (fun c => h2 (Option.some.inj c)) (fun c fz e => by have := (Obj.cells.inj e).2.1; exact absurd this hT)⟩
theorem EB.kp {w w' : World} {B : Nat} {n e : Int} (h : EB w B n e) (h' : EB w' B n e) (hs : w.heap.size ≤ w'.heap.size) : False ∨ (w.heap.size ≤ w'.heap.size ∧ w'.heap[B]? = w.heap[B]?) := .inr ⟨hs, by rw [h.1, h'.1]⟩
theorem keepsFrom_others {W W' : World} {B b : Nat} {l : List UInt8} (hk : Lib.OthersKept 5 (some b) W W') (hb : BdAt W b l) (hs : W.heap.size ≤ W'.heap.size) : KeepsFrom B W W' := by
  refine ⟨hs, fun k o _ hk' ho => hk k o hk' (fun c => ?_) (fun c fz e => by subst e; cases ho)⟩
  obtain rfl := Option.some.inj c
  rcases hb with ⟨_, v, h2, _⟩ | ⟨_, v, h2, _⟩ <;> (rw [h2] at hk'; obtain rfl := Option.some.inj hk'; cases ho)
theorem keepsFrom_below {W W' : World} {B : Nat} (h : Below W.heap.size W W') : KeepsFrom B W W' := .of_grownBy (below_grown h) (fun _ c => by cases c)
section
variable (w : World)
theorem bd_put (b : Nat) (l s : List UInt8) (h : BdAt w b l) (hl : l.length + s.length ≤ 1000000) :
    Calls Tryd.prog 32 #[.pointer (some ⟨b, 0, none⟩), .string (tx s)] w fun e w' => e = .returned (.tuple #[.int .i64 s.length, .nilIface]) ∧ BdAt w' b (l ++ s) ∧ Below b w w' ∧ Lib.OthersKept 5 (some b) w w' := bd_write w b l s h hl
theorem bd_string (b : Nat) (l : List UInt8) (h : BdAt w b l) :
    Calls Tryd.prog 34 #[.pointer (some ⟨b, 0, none⟩)] w fun e w' => e = .returned (.string (tx l)) ∧ Below b w w' ∧ Lib.OthersKept 5 (some b) w w' :=
  (Tryd.Builder_String_any_k b b l w h (Nat.le_of_lt h.lt)).mono fun _ _ ⟨h1, _, h2, h3⟩ => ⟨h1, h2, h3⟩
theorem eo_obj (n e : Int) :
    Calls Tryd.prog 81 #[.agg #[.int .i64 n, .int .u32 e]] w fun r w' => ∃ Bg, r = .returned (.func (.func 145) #[] #[.pointer (some ⟨Bg, 0, none⟩), .pointer (some ⟨Bg + 1, 0, none⟩)]) ∧
      w.heap.size ≤ Bg ∧ Below w.heap.size w w' ∧ Bg + 2 ≤ w'.heap.size ∧ EB w' Bg n e := by
  have hp : ∀ W, Calls Tryd.prog 119 #[.agg #[.int .i64 n, .int .u32 e], .func (.func 120) #[] #[]] W fun r w' => r = .returned (.func (.func 145) #[] #[.pointer (some ⟨W.heap.size, 0, none⟩), .pointer (some ⟨W.heap.size + 1, 0, none⟩)]) ∧ Below W.heap.size W w' ∧ W.heap.size + 2 ≤ w'.heap.size ∧ EB w' W.heap.size n e := fun w => by
    go_enter Tryd.func119, Tryd.ntmps119
    go_wp2
    go_ret
    have hh : ∀ T : TypeId, ((w.alloc (.cells #[.int .i64 n, .int .u32 e] 37)).alloc (.cells #[.func (.func 120) #[] #[]] T)).heap[w.heap.size + 1]? = some (.cells #[.func (.func 120) #[] #[]] T) := fun T => by
      have := World.alloc_heap_new (w.alloc (.cells #[.int .i64 n, .int .u32 e] 37)) (.cells #[.func (.func 120) #[] #[]] T)
      rwa [World.size_alloc] at this
    refine ⟨rfl, by (repeat (first | exact Below.refl _ _ | assumption | refine bchain (by assumption) ?_ | refine balloc ?_ _ | apply Below.drew | apply below_drewN | (refine Below.alloc ?_ (by (try simp) <;> omega) _) | (refine Below.setCell ?_ (by (try simp) <;> omega) _))), by simp, ?_, ?_⟩
    · rw [Below.heap_alloc _ _ _ (by simp)]; exact World.alloc_heap_new w _
    · exact ⟨_, by decide, hh _⟩
  replace hp := Lib.hid hp
  go_enter Tryd.func81, Tryd.ntmps81
  go_wp2_with fail
  refine (hp.out _).mono ?_
  rintro r1 w1 ⟨rfl, hb1, hz, hE⟩
  have e1 : (w.alloc (.cells #[.int .i64 n, .int .u32 e] 37)).heap.size = w.heap.size + 1 := by simp
  rw [e1] at hE hz
  go_wp2
  go_ret
  exact ⟨w.heap.size + 1, rfl, by omega, by (repeat (first | exact Below.refl _ _ | assumption | refine bchain (by assumption) ?_ | refine balloc ?_ _ | apply Below.drew | apply below_drewN | (refine Below.alloc ?_ (by (try simp) <;> omega) _) | (refine Below.setCell ?_ (by (try simp) <;> omega) _))), by omega, hE⟩
theorem igt_f (n e : Int) (hn : e < 4294967296) (he0 : 0 ≤ e) (h : ¬ VG n e) :
    Calls Tryd.prog 43 #[.agg #[.int .i64 n, .int .u32 e]] w fun r w' => r = .returned (.string ⟨#[]⟩) ∧ Below w.heap.size w w' := by
  go_enter Tryd.func43, Tryd.ntmps43
  go_wp2_with fail
  refine (valid_f _ n e hn he0 h).mono ?_
  rintro r1 w1 ⟨rfl, hb1⟩
  go_wp2
  go_ret
  exact ⟨rfl, by (repeat (first | exact Below.refl _ _ | assumption | refine bchain (by assumption) ?_ | refine balloc ?_ _ | apply Below.drew | apply below_drewN | (refine Below.alloc ?_ (by (try simp) <;> omega) _) | (refine Below.setCell ?_ (by (try simp) <;> omega) _)))⟩
set_option maxHeartbeats 2000000 in
theorem igt_t (n e : Nat) (h : VG n e) (hT : TabP w) :
    Calls Tryd.prog 43 #[.agg #[.int .i64 n, .int .u32 e]] w fun r w' => r = .returned (.string (tx (gText n (prE n e)))) ∧ Below w.heap.size w w' := by
  have he : e < 4294967296 := by have := h.2.2.2; have := eMax_le n; simp at *; omega
  have hn5 : n ≤ 5 := by have := h.2.1; omega
  have hL := prE_len n e hn5
  have hV := Lib.hid (fun W => valid_t W n e h)
  have hF := Lib.hid (fun W (h2 : Below w.heap.size w W) a (ha : a < 1000000) => fmt_any W a (by omega) (hT.below h2))
  have hN := Lib.hid (fun W (h2 : Below w.heap.size w W) => hF.out W h2 n (by omega))
  have hH := run_head n (by omega)
  have hO := Lib.hid (fun W => eo_obj W n e)
  obtain ⟨W0, hW0⟩ : ∃ W0, W0 = w.alloc (.cells #[.int .i64 (n : Int), .int .u32 (e : Int)] 37) := ⟨_, rfl⟩
  have hB0 : Below w.heap.size w W0 := by rw [hW0]; (repeat (first | exact Below.refl _ _ | assumption | refine bchain (by assumption) ?_ | refine balloc ?_ _ | apply Below.drew | apply below_drewN | (refine Below.alloc ?_ (by (try simp) <;> omega) _) | (refine Below.setCell ?_ (by (try simp) <;> omega) _)))
  have hz0 : w.heap.size < W0.heap.size := by rw [hW0]; simp
  have hbx : Hid (∀ W, Below W0.heap.size W0 W → W.cell? ⟨w.heap.size, 0, none⟩ = some (.int .i64 n) ∧ W.cell? ⟨w.heap.size, 1, none⟩ = some (.int .u32 e)) := fun W h => by
    refine ⟨(h.cell (p := ⟨w.heap.size, 0, none⟩) hz0).trans ?_, (h.cell (p := ⟨w.heap.size, 1, none⟩) hz0).trans ?_⟩ <;> (rw [hW0, World.cell?_alloc_new]; rfl)
  replace hW0 := Lib.hid hW0
  obtain ⟨y0, y1⟩ := hbx.out W0 (Below.refl _ _)
  obtain ⟨DN, hDN⟩ : ∃ DN, tx (Lib.decDigits n) = DN := ⟨_, rfl⟩
  rw [hDN] at hH hN
  clear hDN
  replace hT := Lib.hid hT
  refine (callsIn_wide (n := 5)).1 ?_
  refine callsIn_of_wp_marks Tryd.func43 rfl trivial ?_ rfl
  simp only [Tryd.ntmps43, List.size_toArray, List.length_cons, List.length_nil, Nat.reduceAdd, Nat.reduceSub, Array.replicate_succ, Array.replicate_zero, List.push_toArray, List.append_toArray, List.nil_append, List.cons_append]
  gi_wp2_with fail
  rw [← hW0.out]
  gi_wp2_with fail
  refine ⟨trivial, ?_⟩
  gi_at_call 74
  refine (callsIn_wide.2 (hV.out _)).mono ?_
  rintro r1 w1 ⟨rfl, hb1⟩
  clear y0 y1
  obtain ⟨y0, y1⟩ := hbx.out (w1.alloc (.cells #[.pointer none, .slice none 0 0] 75)) (balloc hb1 _)
  gi_wp2_with fail
  refine ⟨trivial, ?_⟩
  gi_at_call 42
  refine (callsIn_wide.2 (hN.out _ (bchain (balloc hb1 _) hB0))).mono ?_
  rintro r2 w2 ⟨rfl, hb2⟩
  have hbd2 := (BdAt.fresh w1).below hb2
  have hb3 : Below W0.heap.size W0 w2 := bchain hb2 (balloc hb1 _)
  have hzb := hb1.size
  have hzc := hb2.size
  rw [World.size_alloc] at hzc
  clear y0 y1 hb1 hb2
  obtain ⟨y0, y1⟩ := hbx.out w2 hb3
  obtain ⟨b, hb⟩ : ∃ b, w1.heap.size = b := ⟨_, rfl⟩
  rw [hb] at hbd2 hzb hzc ⊢
  clear hb
  have hbd2' := Lib.hid hbd2
  clear hbd2
  gi_wp2_with fail
  refine ⟨trivial, ?_⟩
  gi_at_call 32
  refine (callsIn_wide.2 (bd_put _ b [] (gText n []) hbd2'.out (by rw [gText_nil]; have := dd_len (n := n) (by omega); simp [gHead]; omega))).mono ?_
  rintro r3 w3 ⟨rfl, hbd3, hbb3, _⟩
  have hb4 : Below W0.heap.size W0 w3 := hb3.trans (hbb3.mono hzb)
  have hzd := hbb3.size
  clear y0 y1 hb3
  obtain ⟨y0, y1⟩ := hbx.out w3 hb4
  replace hbd3 := Lib.hid (show BdAt w3 b (gText n []) from hbd3)
  gi_wp2_with fail
  refine ⟨trivial, ?_⟩
  gi_at_call 81
  refine (callsIn_wide.2 (hO.out _)).mono ?_
  rintro r4 w4 ⟨Bg, rfl, hBg, hb5, hz4, hE⟩
  have hb6 : Below W0.heap.size W0 w4 := bchain hb5 hb4
  have hbd4 := Lib.hid (hbd3.out.below hb5)
  have hze := hb5.size
  have g0 : w4.cell? ⟨Bg, 0, none⟩ = some (.int .i64 n) := by rw [Lib.cell_of_heap hE.1]; rfl
  have g1 : w4.cell? ⟨Bg, 1, none⟩ = some (.int .u32 e) := by rw [Lib.cell_of_heap hE.1]; rfl
  have ga : w4.cell? ⟨Bg + 1, 0, none⟩ = some (.func (.func 120) #[] #[]) := by
    obtain ⟨_, T, _, h2⟩ := hE
    rw [Lib.cell_of_heap h2]; rfl
  have hbBg : b < Bg := by omega
  clear y0 y1 hb5 hb4 hbd3
  have hPS := pj_stops 4 (by omega) n e hn5 (fun i j => jn e i j) Bg (Bg + 1) w4 (by omega) (by omega) g0 g1 ga (fun W i j hij hj => joined_any W n e i j he (by omega) hj)
  clear g0 g1 ga
  gi_wp2_with fail
  refine wpIn_rangeFunc_ownG rfl (by omega) (gf := 145) (lb := #[.pointer (some ⟨Bg, 0, none⟩), .pointer (some ⟨Bg + 1, 0, none⟩)]) rfl trivial (enters_of Tryd.func145 (by kernel_rfl) rfl)
    hPS
    Kp2.trans (Kp2.put (by omega) (by omega)) (Below.refl _ _) (fun _ => rfl)
    (fun pre W => (BdAt W b (gText n (vals pre)) ∧ EB W Bg n e) ∧ (w4.heap.size ≤ W.heap.size ∧ Below W0.heap.size W0 W))
    (fun _ _ _ => False)
    (OwnFrom.and (fun s W W' row hs hg hr => ⟨hs.1.kept hg (fun r e => (hr r e).2), hs.2.kept hg (fun r e => (hr r e).2)⟩) (OwnFrom.and (fun _ _ _ _ hs hg _ => Nat.le_trans hs hg.size) (ownFrom_below (Nat.le_refl _) hb6.size)))
    (fun _ _ _ _ _ hs _ _ => hs)
    ⟨⟨hbd4.out, hE⟩, Nat.le_refl _, hb6⟩
    (fun x => { tmps := #[.agg #[.int .i64 n, .int .u32 e], .pointer (some ⟨w.heap.size, 0, none⟩), .string { data := #[] }, .pointer (some ⟨b, 0, none⟩), .int .i64 (x.1.1 : Nat), .int .i64 (x.1.2 : Nat), .agg #[.int .i64 n, .int .u32 e], .bool true, .bool false, .pointer (some ⟨w.heap.size, 0, none⟩), .int .i64 n, .string DN, .string (tx (gText n [])), .tuple #[.int .i64 (gText n []).length, .nilIface], .agg #[.int .i64 n, .int .u32 e],
      .func (.func 145) #[] #[.pointer (some ⟨Bg, 0, none⟩), .pointer (some ⟨Bg + 1, 0, none⟩)], .int .i64 (x.1.1 : Nat), .int .i64 (x.1.2 : Nat), undef, undef, undef, undef, undef, undef, undef, undef, undef], defers := [] }) ?assign ?body ?done ?stop
  case assign =>
    intro l x W K hK
    gi_wp2
    exact hK
  case body =>
    rintro l pre ⟨⟨i, j⟩, hij, hj⟩ W ⟨⟨hbd, hEW⟩, hWz, hB⟩ hlen
    dsimp only at hij hj ⊢
    obtain ⟨x1, x2, x3, _⟩ := run_pair i j (by omega) (by omega) [] (by simp)
    have hgl := gText_len (n := n) (by omega) (ps := vals pre) (fun p hp => by
      obtain ⟨q, _, rfl⟩ := List.mem_map.1 hp
      have := q.2
      omega)
    rw [vals_length] at hgl
    have hgp := gPair_len (p := (i, j)) (by show i < _; omega) (by show j < _; omega)
    have hnx : gText n (vals (pre ++ [⟨(i, j), hij, hj⟩])) = gText n (vals pre) ++ gPair (i, j) := by rw [vals_snoc, gText_snoc]
    have hFi := Lib.hid (fun W h => hF.out W h i (by omega))
    have hFj := Lib.hid (fun W h => hF.out W h j (by omega))
    have hnx' := Lib.hid hnx
    have hgl' := Lib.hid (show (gText n (vals pre)).length + (gPair (i, j)).length ≤ 1000000 by omega)
    have hbd' := Lib.hid hbd
    have hEW' := Lib.hid hEW
    have hWz' := Lib.hid hWz
    clear hnx hgl hgp hbd hEW hWz
    gi_wp2_with fail
    refine ⟨trivial, ?_⟩
    gi_at_call 42
    refine (CallsIn.inRound l (callsIn_wide.2 (hFi.out _ (bchain hB hB0)))).mono ?_
    rintro r5 w5 ⟨rfl, hb5⟩
    gi_wp2_with fail
    refine ⟨trivial, ?_⟩
    gi_at_call 42
    refine (CallsIn.inRound l (callsIn_wide.2 (hFj.out _ (bchain (bchain hb5 hB) hB0)))).mono ?_
    rintro r6 w6 ⟨rfl, hb6'⟩
    have hx6 : Below W.heap.size W w6 := bchain hb6' hb5
    gi_wp2_with fail
    refine ⟨trivial, ?_⟩
    gi_at_call 32
    have hbd6 := hbd'.out.below hx6
    have hE6 := hEW'.out.below hx6
    refine (CallsIn.inRound l (callsIn_wide.2 (bd_put _ b _ (gPair (i, j)) hbd6 hgl'.out))).mono ?_
    rintro r7 w7 ⟨rfl, hbd7, hb7, hk7⟩
    have hE7 := hE6.others hk7 (by omega) (by omega)
    gi_wp2
    refine ⟨(keepsFrom_below hx6).trans (keepsFrom_others hk7 hbd6 hb7.size), ⟨Nat.le_trans hx6.size hb7.size, by rw [hE7.1, hEW'.out.1], ?_⟩, ⟨by rw [hnx'.out]; exact hbd7, hE7⟩, Nat.le_trans hWz'.out (Nat.le_trans hx6.size hb7.size), (bchain hx6 hB).trans (hb7.mono hzb)⟩
    have m1 : w6.heap[Bg + 1]? = W.heap[Bg + 1]? := hx6.block _ (by have := hWz'.out; omega)
    obtain ⟨_, T, hT2, h2⟩ := hE6
    rw [← m1, h2]
    exact hk7 _ _ h2 (fun c => by have := Option.some.inj c; omega) (fun c fz e => by have := (Obj.cells.inj e).2.1; exact absurd this hT2)
  case done =>
    rintro D xs W hD hS ⟨⟨hbd, hEW⟩, hWz, hB⟩ hK
    have hx : vals xs = prE n e := hS
    rw [hx] at hbd
    have hDb : D ≠ b := by omega
    have hbd' := Lib.hid hbd
    have hbS := Lib.hid (bd_string W b _ hbd)
    clear hbd hEW
    gi_wp2_with fail
    refine ⟨trivial, ?_⟩
    gi_at_call 34
    refine (callsIn_wide.2 hbS.out).mono ?_
    rintro r8 w8 ⟨rfl, hb8, hk8⟩
    have hK8 : w8.heap[D]? = some (.deferred (some [])) := hk8 _ _ hK (fun c => hDb (Option.some.inj c)) (fun _ _ c => by cases c)
    have hbe := Lib.hid (bchain (hB.trans (hb8.mono hzb)) hB0 |>.trans (below_putObj' w8 D (.deferred none) (B := w.heap.size) (by omega)))
    gi_wp2
    refine ⟨by simp, .inl ⟨_, _, rfl, run_takeDeferred hK8, ?_⟩⟩
    exact ⟨_, results_tmp rfl _ _ _, rfl, hbe.out⟩
  case stop =>
    rintro D c pre W _ _ h _
    exact h.elim
end
end Go.Proofs.YtiedombphcdpbaaDoor
/-
  THE TEXT OF A SUM: what it is, and the model's contract.
-/
namespace Go.Proofs.YtiedombphcdpbaaDoor
open Go.RowKit
set_option maxRecDepth 100000
attribute [local go_sem] Oper.semAt_some
def sHead : List UInt8 := [115, 117, 109, 32]
theorem run_cat (a b : List UInt8) (ha : a.length ≤ 1000000) (hb : b.length ≤ 1000000) : ∀ W : World, (Op.stringOp .add (tx a) (tx b)).run Tryd.prog W = .ok (.string (tx (a ++ b))) W := fun W => by
  rw [← tx_app]
  exact run_string_add W _ _ (by rw [tx_size]; omega) (by rw [tx_size]; omega)
def gT (n e : Int) : List UInt8 := gText n.toNat (prE n.toNat e.toNat)
def sH (X : SM) : List UInt8 := ((sHead ++ Lib.decDigits X.s.toNat) ++ [32] ++ gT X.n X.e) ++ [10]
def tT (g : TE) : List UInt8 := (frL g.p g.q.toNat ++ [32] ++ gT g.n g.e) ++ [10]
def sumT (X : SM) : Nat → List UInt8 | 0 => sH X | k + 1 => sumT X k ++ tT (tAt X.ts k)
theorem gT_len {n e : Int} (h : VG n e) : (gT n e).length ≤ 2000 := by
  obtain ⟨n', rfl⟩ : ∃ k : Nat, n = k := ⟨n.toNat, by have := h.1; omega⟩
  have hn5 : n' ≤ 5 := by have := h.2.1; omega
  have h1 := gText_len (n := n') (by omega) (ps := prE n' e.toNat) (fun p hp => by have := prE_small hn5 p hp; omega)
  have h2 := prE_len n' e.toNat hn5
  unfold gT
  rw [Int.toNat_natCast]
  omega
theorem sgT_any (W : World) {n e : Int} (h : VG n e) : Calls Tryd.prog 56 #[.agg #[.int .i64 n, .int .u32 e]] W fun r w' => r = .returned (.string (tx (gT n e))) ∧ Below W.heap.size W w' := by
  obtain ⟨n', rfl⟩ : ∃ k : Nat, n = k := ⟨n.toNat, by have := h.1; omega⟩
  obtain ⟨e', rfl⟩ : ∃ k : Nat, e = k := ⟨e.toNat, by have := h.2.2.1; omega⟩
  exact sgt_t W n' e' h
theorem igT_any (W : World) {n e : Int} (h : VG n e) (hT : TabP W) : Calls Tryd.prog 43 #[.agg #[.int .i64 n, .int .u32 e]] W fun r w' => r = .returned (.string (tx (gT n e))) ∧ Below W.heap.size W w' := by
  obtain ⟨n', rfl⟩ : ∃ k : Nat, n = k := ⟨n.toNat, by have := h.1; omega⟩
  obtain ⟨e', rfl⟩ : ∃ k : Nat, e = k := ⟨e.toNat, by have := h.2.2.1; omega⟩
  exact igt_t W n' e' h hT
theorem sfT_any (W : World) {p q : Int} (h : Fr.VF p q) : Calls Tryd.prog 29 #[.agg #[.int .i64 p, .int .i64 q]] W fun r w' => r = .returned (.string (tx (frL p q.toNat))) ∧ Below W.heap.size W w' := by
  obtain ⟨q', rfl⟩ : ∃ k : Nat, q = k := ⟨q.toNat, by have := h.1; omega⟩
  rw [Int.toNat_natCast, ← fText_frL]
  exact sft_t W p q' h
theorem ifT_any (W : World) {p q : Int} (h : Fr.VF p q) (hT : TabP W) : Calls Tryd.prog 33 #[.agg #[.int .i64 p, .int .i64 q]] W fun r w' => r = .returned (.string (tx (frL p q.toNat))) ∧ Below W.heap.size W w' := by
  obtain ⟨q', rfl⟩ : ∃ k : Nat, q = k := ⟨q.toNat, by have := h.1; omega⟩
  rw [Int.toNat_natCast, ← fText_frL]
  exact ift_t W p q' hT h
theorem frL_len' {p q : Int} (h : Fr.VF p q) : (frL p q.toNat).length ≤ 42 := by
  obtain ⟨q', rfl⟩ : ∃ k : Nat, q = k := ⟨q.toNat, by have := h.1; omega⟩
  rw [Int.toNat_natCast]
  exact frL_len h
theorem vs_s {X : SM} (h : VSum X) : ∃ s : Nat, X.s = s ∧ s ≤ 5 := by
  have h1 := h.2.1
  unfold frB at h1
  have h2 := of_decide_eq_true h1
  exact ⟨X.s.toNat, by have := h.1.1; omega, by omega⟩
theorem sH_len {X : SM} (h : VSum X) : (sH X).length ≤ 2100 := by
  obtain ⟨s, hs, h5⟩ := vs_s h
  have h1 := gT_len h.1
  have h2 := dd_len (n := s) (by omega)
  unfold sH
  rw [hs, Int.toNat_natCast]
  simp only [List.length_append, List.length_cons, List.length_nil, sHead]
  omega
theorem tT_len {g : TE} (h : VG g.n g.e) (hv : Fr.VF g.p g.q) : (tT g).length ≤ 2100 := by
  have h1 := gT_len h
  have h2 := frL_len' hv
  unfold tT
  simp only [List.length_append, List.length_cons, List.length_nil]
  omega
theorem sumT_len {X : SM} (h : VSum X) : ∀ k, k ≤ X.ts.length → (sumT X k).length ≤ 2100 * (k + 1) := by
  intro k
  induction k with
  | zero => intro _; exact sH_len h
  | succ k ih =>
    intro hk
    have h1 := ih (by omega)
    have ht := h.2.2.2 k (by omega)
    have h2 := tT_len ht.1.1 ht.2.2.2.1
    rw [sumT, List.length_append]
    omega
section
variable (w : World)
set_option maxHeartbeats 4000000 in
theorem slt_any (X : SM) (u : Value) (G : Nat) (hG : SB w G X.n X.e X.s u) (hS : SlT w u X.ts) (h : VSum X) :
    Calls Tryd.prog 38 #[.pointer (some ⟨G, 0, none⟩)] w fun r w' => r = .returned (.string (tx (sumT X X.ts.length))) ∧ Below w.heap.size w w' := by
  obtain ⟨s, hs, hs5⟩ := vs_s h
  have h64 := h.2.2.1
  have hD := Lib.hid (fun W => dec_any 5 W s (by omega) (by omega))
  have hGr := Lib.hid (fun W => sgT_any W h.1)
  have hgl := gT_len h.1
  have hdl := dd_len (n := s) (by omega)
  have x1 := run_cat sHead (Lib.decDigits s) (by simp [sHead]) (by omega)
  have x2 := run_cat (sHead ++ Lib.decDigits s) [32] (by simp [sHead]; omega) (by simp)
  have x3 := run_cat (sHead ++ Lib.decDigits s ++ [32]) (gT X.n X.e) (by simp [sHead]; omega) (by omega)
  have x4 := run_cat (sHead ++ Lib.decDigits s ++ [32] ++ gT X.n X.e) [10] (by simp [sHead]; omega) (by simp)
  rw [show sHead ++ Lib.decDigits s ++ [32] ++ gT X.n X.e ++ [10] = sumT X 0 by show _ = sH X; unfold sH; rw [hs]; rfl] at x4
  obtain ⟨a, cap, rfl, hcap, _, hcell⟩ := hS
  obtain ⟨l, hl⟩ : ∃ l, X.ts.length = l := ⟨_, rfl⟩
  have hT := Lib.hid (fun i (hi : i < l) => h.2.2.2 i (by omega))
  have hlen := Lib.hid (fun k (hk : k ≤ l) => sumT_len h k (by omega))
  have hcell' := Lib.hid (fun i (hi : i < l) => show ∃ b off, a = some ⟨b, off, none⟩ ∧ b < w.heap.size ∧ TCell w b off (tAt X.ts i) i by
    obtain ⟨b, off, e1, e2, e3⟩ := hcell (fun c => by rw [c] at hl; simp at hl; omega)
    exact ⟨b, off, e1, e2, e3 i (by omega)⟩)
  rw [hl] at hG h64 hcap ⊢
  clear hcell
  rw [hs] at hG
  have eS : ({ data := #[115, 117, 109, 32] } : ByteArray) = tx sHead := rfl
  have e32 : ({ data := #[32] } : ByteArray) = tx [32] := rfl
  have e10 : ({ data := #[10] } : ByteArray) = tx [10] := rfl
  go_enter Tryd.func38, Tryd.ntmps38
  rw [eS, e32, e10]
  obtain ⟨t32, ht32⟩ : ∃ t, tx [32] = t := ⟨_, rfl⟩
  obtain ⟨t10, ht10⟩ : ∃ t, tx [10] = t := ⟨_, rfl⟩
  obtain ⟨tS, htS⟩ : ∃ t, tx sHead = t := ⟨_, rfl⟩
  obtain ⟨tD, htD⟩ : ∃ t, tx (Lib.decDigits s) = t := ⟨_, rfl⟩
  obtain ⟨tG, htG⟩ : ∃ t, tx (gT X.n X.e) = t := ⟨_, rfl⟩
  obtain ⟨y1, hy1⟩ : ∃ t, tx (sHead ++ Lib.decDigits s) = t := ⟨_, rfl⟩
  obtain ⟨y2, hy2⟩ : ∃ t, tx (sHead ++ Lib.decDigits s ++ [32]) = t := ⟨_, rfl⟩
  obtain ⟨y3, hy3⟩ : ∃ t, tx (sHead ++ Lib.decDigits s ++ [32] ++ gT X.n X.e) = t := ⟨_, rfl⟩
  obtain ⟨y4, hy4⟩ : ∃ t, tx (sumT X 0) = t := ⟨_, rfl⟩
  rw [htS, htD, hy1] at x1
  rw [hy1, ht32, hy2] at x2
  rw [hy2, htG, hy3] at x3
  rw [hy3, ht10, hy4] at x4
  rw [htD] at hD
  rw [htG] at hGr
  rw [ht32, ht10, htS]
  replace ht32 := Lib.hid ht32
  replace ht10 := Lib.hid ht10
  clear htS htD htG hy1 hy2 hy3 hgl hdl hs h
  have q0 := bw_cell hG.lt hG.c0
  have q1 := bw_cell hG.lt hG.c1
  have q2 := bw_cell hG.lt hG.c2
  have q3 := bw_cell hG.lt hG.c3
  go_wp2_with fail
  refine wp_region_below (by kernel_rfl) (by kernel_rfl) ?_
  iterate 4 (quiet_step (fail))
  refine wpQuiet_step (fun K hK => ?_)
  go_simp
  apply Exists.intro
  refine ⟨fun p => ?_, hK _ ?_⟩
  · exact bw_of (w := w) (p := p) (hD.out p.W)
  clear hK K
  iterate 6 (quiet_step (fail))
  refine wpQuiet_step (fun K hK => ?_)
  go_simp
  apply Exists.intro
  refine ⟨fun p => ?_, hK _ ?_⟩
  · exact bw_of (w := w) (p := p) (hGr.out p.W)
  clear hK K
  iterate 3 (quiet_step (fail))
  refine wpQuiet_nil ?_
  intro w1 hw'
  obtain ⟨⟨wx, hb_w1⟩, rfl⟩ := hw'
  clear x1 x2 x3 x4 q0 q1 q2 q3
  go_wp2
  go_loopw [3, 4] (fun s i wr => ∃ k : Nat, k ≤ l ∧ i = .int .i64 k ∧ s = .string (tx (sumT X k)) ∧ Below w.heap.size w wr) (fun _ i _ => l - (intOf i).toNat)
  case atStart => exact ⟨0, by omega, rfl, by rw [hy4], hb_w1⟩
  case round =>
    obtain ⟨k, hk, rfl, rfl, hB⟩ := hrel
    have hGk := hG.below hB
    obtain ⟨_, c0, c1, c2, c3, _⟩ := id hGk
    by_cases hlt : k < l
    · have hd := decide_eq_true (show ((k : Int) < (l : Int)) by omega)
      obtain ⟨b, off, rfl, hb, d0, d1, d2, d3, d4⟩ := hcell'.out k hlt
      have ht := hT.out k hlt
      have hln := hlen.out k (by omega)
      have hsn : sumT X (k + 1) = sumT X k ++ tT (tAt X.ts k) := rfl
      obtain ⟨g, hg⟩ : ∃ g, tAt X.ts k = g := ⟨_, rfl⟩
      unfold TOk at ht
      rw [hg] at d0 d1 d2 d3 d4 ht hsn
      have hF := Lib.hid (fun W => sfT_any W ht.2.2.2.1)
      have hGg := Lib.hid (fun W => sgT_any W ht.1.1)
      have hfl := frL_len' ht.2.2.2.1
      have hgl := gT_len ht.1.1
      have x1 := run_cat (frL g.p g.q.toNat) [32] (by omega) (by simp)
      have x2 := run_cat (frL g.p g.q.toNat ++ [32]) (gT g.n g.e) (by simp; omega) (by omega)
      have x3 := run_cat (frL g.p g.q.toNat ++ [32] ++ gT g.n g.e) [10] (by simp; omega) (by simp)
      have x4 := run_cat (sumT X k) (tT g) (by omega) (by have := tT_len ht.1.1 ht.2.2.2.1; omega)
      rw [← hsn] at x4
      rw [show frL g.p g.q.toNat ++ [32] ++ gT g.n g.e ++ [10] = tT g from rfl] at x3
      have hz : b < wr.heap.size := Nat.lt_of_lt_of_le hb hB.size
      have p1 := bw_cell hz ((hB.cell (p := ⟨b, off + k * 5 + 1, none⟩) hb).trans d1)
      have p2 := bw_cell hz ((hB.cell (p := ⟨b, off + k * 5 + 2, none⟩) hb).trans d2)
      have p3 := bw_cell hz ((hB.cell (p := ⟨b, off + k * 5 + 3, none⟩) hb).trans d3)
      have p4 := bw_cell hz ((hB.cell (p := ⟨b, off + k * 5 + 4, none⟩) hb).trans d4)
      have q3 := bw_cell hGk.lt hGk.c3
      obtain ⟨z1, hz1⟩ : ∃ t, tx (sumT X k) = t := ⟨_, rfl⟩
      obtain ⟨z2, hz2⟩ : ∃ t, tx (sumT X (k + 1)) = t := ⟨_, rfl⟩
      obtain ⟨z3, hz3⟩ : ∃ t, tx (frL g.p g.q.toNat) = t := ⟨_, rfl⟩
      obtain ⟨z4, hz4⟩ : ∃ t, tx (frL g.p g.q.toNat ++ [32]) = t := ⟨_, rfl⟩
      obtain ⟨z5, hz5⟩ : ∃ t, tx (gT g.n g.e) = t := ⟨_, rfl⟩
      obtain ⟨z6, hz6⟩ : ∃ t, tx (frL g.p g.q.toNat ++ [32] ++ gT g.n g.e) = t := ⟨_, rfl⟩
      obtain ⟨z7, hz7⟩ : ∃ t, tx (tT g) = t := ⟨_, rfl⟩
      rw [hz3, ht32.out, hz4] at x1
      rw [hz4, hz5, hz6] at x2
      rw [hz6, ht10.out, hz7] at x3
      rw [hz1, hz7, hz2] at x4
      rw [hz3] at hF
      rw [hz5] at hGg
      rw [hz1]
      have hk0 : (0 : Int) ≤ (k : Int) := by omega
      have hk1 : (k : Int) < (l : Int) := by omega
      clear hz1 hz3 hz4 hz5 hz6 hz7 d0 d1 d2 d3 d4 ht hsn hfl hgl hln hg
      go_wp2_with fail
      refine wp_region_below (by kernel_rfl) (by kernel_rfl) ?_
      iterate 9 (quiet_step (fail))
      refine wpQuiet_step (fun K hK => ?_)
      go_simp
      apply Exists.intro
      refine ⟨fun p => ?_, hK _ ?_⟩
      · exact bw_of (w := wr) (p := p) (hF.out p.W)
      clear hK K
      iterate 10 (quiet_step (fail))
      refine wpQuiet_step (fun K hK => ?_)
      go_simp
      apply Exists.intro
      refine ⟨fun p => ?_, hK _ ?_⟩
      · exact bw_of (w := wr) (p := p) (hGg.out p.W)
      clear hK K
      iterate 4 (quiet_step (fail))
      refine wpQuiet_nil ?_
      intro w2 hw'
      obtain ⟨⟨wx, hb_w2⟩, rfl⟩ := hw'
      go_wp2
      go_roundw
      case rel => exact ⟨k + 1, by omega, by go_num, by rw [hz2], hB.trans (hb_w2.mono hB.size)⟩
      case measure => simp [intOf]; omega
    · have hd := decide_eq_false (show ¬ ((k : Int) < (l : Int)) by omega)
      obtain rfl : k = l := by omega
      obtain ⟨t, ht⟩ : ∃ t, tx (sumT X k) = t := ⟨_, rfl⟩
      rw [ht]
      go_wp2
      go_ret
      exact ⟨congrArg (fun t => Ending.returned (Value.string t)) ht.symm, hB⟩
end
end Go.Proofs.YtiedombphcdpbaaDoor
/-
  THE TEXT OF A MATRIX: the program's contract.
-/
namespace Go.Proofs.YtiedombphcdpbaaDoor
open Go.RowKit
set_option maxRecDepth 100000
attribute [local go_sem] Oper.semAt_some
/-- a box that is no bytes keeps its cells while a builder is written -/
theorem others_cell {W W' : World} {b B : Nat} {cs : Array Value} {t : TypeId} {fz : Nat × Nat} (hk : Lib.OthersKept 5 (some b) W W') (h : W.heap[B]? = some (.cells cs t fz)) (hB : B ≠ b) (ht : t ≠ 5) (o : Nat) : W'.cell? ⟨B, o, none⟩ = W.cell? ⟨B, o, none⟩ :=
  World.cell?_of_block (a := ⟨B, o, none⟩) ((hk _ _ h (fun c => hB (Option.some.inj c)) (fun _ _ e => ht (Obj.cells.inj e).2.1)).trans h.symm)
section
variable (w : World)
theorem imx_f (v : Value) (m : List (List (Int × Int))) (hS : Fr.SlM w v m) (hm : m.length ≤ 1048576) (hr : ∀ i, i < m.length → (Fr.rAt m i).length ≤ 1048576) (h : ¬ Fr.VM m) :
    Calls Tryd.prog 10 #[v] w fun r w' => r = .returned (.string ⟨#[]⟩) ∧ Below w.heap.size w w' := by
  have hV := Lib.hid (Fr.ivm_any w v m hS hm hr false (fun c => absurd c h) (fun _ => rfl))
  clear hS h
  go_enter Tryd.func10, Tryd.ntmps10
  go_wp2_with fail
  refine hV.out.mono ?_
  rintro r1 w1 ⟨rfl, hb1⟩
  go_wp2
  go_ret
  exact ⟨rfl, by (repeat (first | exact Below.refl _ _ | assumption | refine bchain (by assumption) ?_ | refine balloc ?_ _ | apply Below.drew | apply below_drewN | (refine Below.alloc ?_ (by (try simp) <;> omega) _) | (refine Below.setCell ?_ (by (try simp) <;> omega) _)))⟩
set_option maxHeartbeats 2000000 in
theorem imx_t (v : Value) (m : List (List (Int × Int))) (hS : Fr.SlM w v m) (h : Fr.VM m) (hT : TabP w) :
    Calls Tryd.prog 10 #[v] w fun r w' => r = .returned (.string (tx (matT m m.length))) ∧ Below w.heap.size w w' := by
  have h8 := h.1
  have hsq := Lib.hid (fun i (hi : i < m.length) => (h.2.1 i hi).1)
  have hV := Lib.hid (Fr.ivm_any w v m hS (by omega) (fun i hi => by rw [hsq.out i hi]; omega) true (fun _ => rfl) (fun c => absurd h c))
  obtain ⟨a, cap, rfl, hR⟩ := hS.rows
  replace hR := Lib.hid hR
  have hF := Lib.hid (fun W (hb : Below w.heap.size w W) p (q : Nat) (hv : Fr.VF p q) => ift_t W p q (hT.below hb) hv)
  obtain ⟨l, hl⟩ : ∃ l, m.length = l := ⟨_, rfl⟩
  have hE := Lib.hid (fun i j (hi : i < l) (hj : j < l) => show ∃ (p : Int) (q : Nat), Fr.gAt (Fr.rAt m i) j = (p, (q : Int)) ∧ Fr.VF p q from vm_nat h (by omega) (by omega))
  have hLn := Lib.hid (fun i j (hi : i < l) (hj : j ≤ l) => show (matT m i ++ rowT m i j).length ≤ 5000 by
    have l1 := matT_len h i (by omega)
    have l2 := rowT_len h (show i < m.length by omega) j (by omega)
    rw [List.length_append]
    omega)
  have hX := Lib.hid (fun i j p (q : Nat) (e : Fr.gAt (Fr.rAt m i) j = (p, (q : Int))) => show matT m i ++ rowT m i (j + 1) = (matT m i ++ rowT m i j ++ (if 0 < j then [32] else [])) ++ frL p q by rw [rowT, eT, e]; simp)
  have hY := Lib.hid (fun i => show matT m (i + 1) = (matT m i ++ rowT m i l) ++ [10] by rw [matT, List.append_assoc, hl])
  simp only [hl] at h8 hsq hV hR ⊢
  replace hl := Lib.hid hl
  clear hS h hT
  have e32 : ({ data := #[32] } : ByteArray) = tx [32] := rfl
  have e10 : ({ data := #[10] } : ByteArray) = tx [10] := rfl
  go_enter Tryd.func10, Tryd.ntmps10
  rw [e32, e10]
  obtain ⟨t32, ht32⟩ : ∃ t, tx [32] = t := ⟨_, rfl⟩
  obtain ⟨t10, ht10⟩ : ∃ t, tx [10] = t := ⟨_, rfl⟩
  rw [ht32, ht10]
  replace ht32 := Lib.hid ht32
  replace ht10 := Lib.hid ht10
  go_wp2_with fail
  refine hV.out.mono ?_
  rintro r1 w1 ⟨rfl, hb1⟩
  have hbd0 := BdAt.fresh w1
  have hzb := hb1.size
  obtain ⟨b, hb⟩ : ∃ b, w1.heap.size = b := ⟨_, rfl⟩
  have hB1 : Below w.heap.size w (w1.alloc (.cells #[.pointer none, .slice none 0 0] 75)) := balloc hb1 _
  rw [hb] at hbd0 hzb
  replace hb := Lib.hid hb
  go_wp2_with fail
  rw [hb.out]
  go_loopw [13] (fun i wr => ∃ k : Nat, k ≤ l ∧ i = .int .i64 k ∧ BdAt wr b (matT m k) ∧ Below w.heap.size w wr) (fun i _ => l - (intOf i).toNat)
  case atStart => exact ⟨0, by omega, rfl, hbd0, hB1⟩
  case round =>
    obtain ⟨k, hk, rfl, hbd, hB⟩ := hrel
    by_cases hlt : k < l
    · have hd := decide_eq_true (show ((k : Int) < (l : Int)) by omega)
      obtain ⟨B, off, rfl, hBz, u, hu, hSu⟩ := hR.out k (by have := hl.out; omega)
      have hlk : (Fr.rAt m k).length = l := hsq.out k hlt
      obtain ⟨a2, c2, rfl, hu1, hu2, hu3⟩ := hSu
      obtain ⟨b2, off2, rfl, hb2, hg⟩ := hu3 (by intro c; rw [c] at hlk; simp at hlk; omega)
      rw [hlk] at hu1 hu
      have hg2 := Lib.hid (fun i (hi : i < l) => hg i (by rw [hlk]; exact hi))
      have hkn0 : (0 : Int) ≤ (k : Int) := by omega
      have hu' := (hB.cell (p := ⟨B, off + k, none⟩) hBz).trans hu
      clear hg hu3
      replace hu := Lib.hid hu
      replace hlk := Lib.hid hlk
      go_wp2
      go_loopw [19] (fun i wr2 => ∃ j : Nat, j ≤ l ∧ i = .int .i64 j ∧ BdAt wr2 b (matT m k ++ rowT m k j) ∧ Below w.heap.size w wr2) (fun i _ => l - (intOf i).toNat)
      case atStart => exact ⟨0, by omega, rfl, by rw [show matT m k ++ rowT m k 0 = matT m k by simp [rowT]]; exact hbd, hB⟩
      case round =>
        obtain ⟨j, hj, rfl, hbd2, hB2⟩ := hrel
        by_cases hjl : j < l
        · have hdj := decide_eq_true (show ((j : Int) < (l : Int)) by omega)
          obtain ⟨p, q, e, hv⟩ := hE.out k j hlt hjl
          have hgj := hg2.out j hjl
          rw [e] at hgj
          have e0 := (hB2.cell (p := ⟨b2, off2 + j * 2, none⟩) hb2).trans hgj.1
          have e1 := (hB2.cell (p := ⟨b2, off2 + j * 2 + 1, none⟩) hb2).trans hgj.2
          have hF2 := Lib.hid (fun W h => hF.out W h p q hv)
          have hx := hX.out k j p q e
          have hln := hLn.out k j hlt hj
          have hl3 := frL_len hv
          rw [fText_frL] at hF2
          obtain ⟨tf, htf⟩ : ∃ t, tx (frL p q) = t := ⟨_, rfl⟩
          rw [htf] at hF2
          replace htf := Lib.hid htf
          have hj0 : (0 : Int) ≤ (j : Int) := by omega
          have hbx : (wr.alloc (.cells #[.int .i64 p, .int .i64 (q : Int)] 70)).heap[wr.heap.size]? = some (.cells #[.int .i64 p, .int .i64 (q : Int)] 70) := World.alloc_heap_new _ _
          have hbd3 := hbd2.alloc (.cells #[.int .i64 p, .int .i64 (q : Int)] 70)
          have hB3 : Below w.heap.size w (wr.alloc (.cells #[.int .i64 p, .int .i64 (q : Int)] 70)) := balloc hB2 _
          have hbw := hbd2.lt
          replace hbd2 := Lib.hid hbd2
          clear hgj e hv
          obtain ⟨A, hA⟩ : ∃ A, wr.heap.size = A := ⟨_, rfl⟩
          obtain ⟨W, hW⟩ : ∃ W, wr.alloc (.cells #[.int .i64 p, .int .i64 (q : Int)] 70) = W := ⟨_, rfl⟩
          rw [hA, hW] at hbx
          rw [hW] at hbd3 hB3
          rw [hA] at hbw
          replace hA := Lib.hid hA
          replace hW := Lib.hid hW
          have a0 : W.cell? ⟨A, 0, none⟩ = some (.int .i64 p) := by rw [Lib.cell_of_heap hbx]; rfl
          have a1 : W.cell? ⟨A, 1, none⟩ = some (.int .i64 (q : Int)) := by rw [Lib.cell_of_heap hbx]; rfl
          by_cases hj1 : 0 < j
          · have d0 := decide_eq_true (show ((0 : Int) < (j : Int)) by omega)
            rw [if_pos hj1] at hx
            have hW1 := Lib.hid (bd_put W b _ [32] hbd3 (by simp only [List.length_cons, List.length_nil]; omega))
            rw [ht32.out] at hW1
            replace hbd3 := Lib.hid hbd3
            go_wp2_with fail
            rw [hW.out, hA.out]
            refine hW1.out.mono ?_
            rintro r2 w2 ⟨rfl, hbd4, hb4, hk4⟩
            have c0 := (others_cell hk4 hbx (by omega) (by decide) 0).trans a0
            have c1 := (others_cell hk4 hbx (by omega) (by decide) 1).trans a1
            have hB4 := hB3.trans (hb4.mono hzb)
            clear a0 a1 hbx hk4
            go_wp2_with fail
            refine (hF2.out _ hB4).mono ?_
            rintro r3 w3 ⟨rfl, hb5⟩
            have hbd5 := hbd4.below hb5
            have hB5 := bchain hb5 hB4
            have hW2 := Lib.hid (bd_put w3 b _ (frL p q) hbd5 (by simp only [List.length_append, List.length_cons, List.length_nil] at hln ⊢; omega))
            rw [htf.out] at hW2
            replace hbd5 := Lib.hid hbd5
            go_wp2_with fail
            refine hW2.out.mono ?_
            rintro r4 w4 ⟨rfl, hbd6, hb6, _⟩
            have hB6 := hB5.trans (hb6.mono hzb)
            replace hbd6 := Lib.hid hbd6
            go_wp2
            go_roundw
            case rel => exact ⟨j + 1, by omega, by go_num, by rw [hx]; exact hbd6.out, hB6⟩
            case measure => simp [intOf]; omega
          · have d0 := decide_eq_false (show ¬ ((0 : Int) < (j : Int)) by omega)
            rw [if_neg hj1] at hx
            go_wp2_with fail
            rw [hW.out]
            refine (hF2.out _ hB3).mono ?_
            rintro r3 w3 ⟨rfl, hb5⟩
            have hbd5 := hbd3.below hb5
            have hB5 := bchain hb5 hB3
            have hW2 := Lib.hid (bd_put w3 b _ (frL p q) hbd5 (by simp only [List.length_append] at hln ⊢; omega))
            rw [htf.out] at hW2
            replace hbd5 := Lib.hid hbd5
            go_wp2_with fail
            refine hW2.out.mono ?_
            rintro r4 w4 ⟨rfl, hbd6, hb6, _⟩
            have hB6 := hB5.trans (hb6.mono hzb)
            replace hbd6 := Lib.hid hbd6
            go_wp2
            go_roundw
            case rel => exact ⟨j + 1, by omega, by go_num, by rw [hx]; rw [List.append_nil]; exact hbd6.out, hB6⟩
            case measure => simp [intOf]; omega
        · have hd2 := decide_eq_false (show ¬ ((j : Int) < (l : Int)) by omega)
          obtain rfl : j = l := by omega
          have hln := hLn.out k j hlt (Nat.le_refl _)
          have hW1 := Lib.hid (bd_put wr b _ [10] hbd2 (by simp only [List.length_cons, List.length_nil]; omega))
          rw [ht10.out] at hW1
          replace hbd2 := Lib.hid hbd2
          go_wp2_with fail
          refine hW1.out.mono ?_
          rintro r2 w2 ⟨rfl, hbd4, hb4, _⟩
          have hB4 := hB2.trans (hb4.mono hzb)
          replace hbd4 := Lib.hid hbd4
          go_wp2
          go_roundw
          case rel => exact ⟨k + 1, by omega, by go_num, by rw [hY.out k]; exact hbd4.out, hB4⟩
          case measure => simp [intOf]; omega
    · have hd := decide_eq_false (show ¬ ((k : Int) < (l : Int)) by omega)
      obtain rfl : k = l := by omega
      have hS := Lib.hid (bd_string wr b _ hbd)
      obtain ⟨t, ht⟩ : ∃ t, tx (matT m k) = t := ⟨_, rfl⟩
      rw [ht] at hS
      replace hbd := Lib.hid hbd
      go_wp2_with fail
      refine hS.out.mono ?_
      rintro r2 w2 ⟨rfl, hb4, _⟩
      have hB4 := hB.trans (hb4.mono hzb)
      go_wp2
      go_ret
      exact ⟨congrArg (fun t => Ending.returned (Value.string t)) ht.symm, hB4⟩
end
end Go.Proofs.YtiedombphcdpbaaDoor
/-
  A REGION THAT DRAWS ITS ORDER, BY AN INVARIANT: 'I f a w' says what holds when the operations with f have come up, in whatever order. Each operation is walked once.
-/
namespace Go.Proofs.YtiedombphcdpbaaDoor
section
variable {P : Program} {ops : Array Oper} {Q : Exit → Act → World → Prop} {md : Region.Mode}
/-- each operation waits for earlier ones alone -/
def acyc (md : Region.Mode) (ops : Array Oper) : Bool := (List.range ops.size).all fun i => ((ops[i]?).map fun o => o.after.all fun e => !Region.binds md e || decide (e.on < i)).getD true
theorem acyc_spec (h : acyc md ops = true) {i : Nat} {o : Oper} (ho : ops[i]? = some o) {e : Edge} (he : e ∈ o.after) (hb : Region.binds md e = true) : e.on < i := by
  unfold acyc at h
  rw [List.all_eq_true] at h
  have hlt : i < ops.size := (Array.getElem?_eq_some_iff.1 ho).1
  have := h i (List.mem_range.2 hlt)
  rw [ho] at this
  simp only [Option.map_some, Option.getD_some] at this
  rw [Array.all_eq_true_iff_forall_mem] at this
  have h2 := this e he
  simp [hb] at h2
  exact h2
def fl (listed : Array Bool) (i : Nat) : Bool := listed.getD i false
def setf (f : Nat → Bool) (i k : Nat) : Bool := if k = i then true else f k
theorem fl_true {listed : Array Bool} {i : Nat} (h : i < listed.size) : listed.getD i true = fl listed i := by
  unfold fl
  simp [Array.getD_eq_getD_getElem?, Array.getElem?_eq_getElem h]
theorem fl_set {listed : Array Bool} {i : Nat} (hi : i < listed.size) : fl (listed.setIfInBounds i true) = setf (fl listed) i := by
  funext k
  unfold fl setf
  by_cases h : k = i
  · subst h; simp [hi]
  · rw [if_neg h]
    simp only [Array.getD_eq_getD_getElem?]
    rw [Array.getElem?_setIfInBounds_ne (Ne.symm h)]
theorem wpAny_inv (I : (Nat → Bool) → Act → World → Prop) (ha : acyc md ops = true)
    (hstep : ∀ i o f a w, ops[i]? = some o → f i = false → (∀ e ∈ o.after, Region.binds md e = true → f e.on = true) → I f a w → wpOp P ops Q i (fun a' w' => I (setf f i) a' w') a w)
    (hend : ∀ f a w, (∀ i, i < ops.size → f i = true) → I f a w → Q .normal a w) :
    ∀ (fuel : Nat) (listed : Array Bool) (a : Act) (w : World), listed.size = ops.size → ((List.range ops.size).filter fun i => !fl listed i).length ≤ fuel → I (fl listed) a w → wpAny P md ops Q fuel listed a w := by
  have hall : ∀ listed : Array Bool, listed.size = ops.size → Region.ready md ops listed = [] → ∀ i, i < ops.size → fl listed i = true := by
    intro listed hs hr i
    induction i using Nat.strongRecOn with
    | ind i ih =>
      intro hi
      cases hc : fl listed i with
      | true => rfl
      | false =>
        exfalso
        have ho : ops[i]? = some ops[i] := Array.getElem?_eq_getElem hi
        have hm : i ∈ Region.ready md ops listed := mem_ready.2 ⟨(fl_true (by omega)).trans hc, _, ho, fun e he hb => by
          have h1 := acyc_spec ha ho he hb
          have := ih e.on h1 (by omega)
          unfold fl at this
          exact this⟩
        rw [hr] at hm
        cases hm
  intro fuel
  induction fuel with
  | zero =>
    intro listed a w hs hc hI
    have hz : (List.range ops.size).filter (fun i => !fl listed i) = [] := List.eq_nil_of_length_eq_zero (by omega)
    have hr : Region.ready md ops listed = [] := by
      cases hre : Region.ready md ops listed with
      | nil => rfl
      | cons x xs =>
        exfalso
        have hm : x ∈ Region.ready md ops listed := by rw [hre]; simp
        obtain ⟨h0, o, ho, _⟩ := mem_ready.1 hm
        have hlt : x < ops.size := (Array.getElem?_eq_some_iff.1 ho).1
        have : x ∈ (List.range ops.size).filter (fun i => !fl listed i) := by
          rw [List.mem_filter, List.mem_range]
          refine ⟨hlt, ?_⟩
          rw [← fl_true (by omega), h0]
          rfl
        rw [hz] at this
        cases this
    exact ⟨hr, hend _ _ _ (hall listed hs hr) hI⟩
  | succ fuel ih =>
    intro listed a w hs hc hI
    refine ⟨fun hr => hend _ _ _ (hall listed hs hr) hI, fun i hi => ?_⟩
    obtain ⟨h0, o, ho, hdep⟩ := mem_ready.1 hi
    have hlt : i < ops.size := (Array.getElem?_eq_some_iff.1 ho).1
    have hf0 : fl listed i = false := (fl_true (by omega)).symm.trans h0
    refine wpOp_mono (fun a' w' h => ih _ a' w' (by simpa using hs) ?_ (by rw [fl_set (by omega)]; exact h)) (hstep i o (fl listed) a w ho hf0 (fun e he hb => by unfold fl; exact hdep e he hb) hI)
    rw [fl_set (by omega)]
    have hmem : i ∈ (List.range ops.size).filter (fun k => !fl listed k) := by
      rw [List.mem_filter, List.mem_range]
      exact ⟨hlt, by simp [hf0]⟩
    have hsub : (List.range ops.size).filter (fun k => !setf (fl listed) i k) = ((List.range ops.size).filter (fun k => !fl listed k)).filter (fun k => k != i) := by
      rw [List.filter_filter]
      apply List.filter_congr
      intro k _
      unfold setf
      by_cases h : k = i
      · simp [h]
      · simp [h]
    rw [hsub]
    have hlen : (((List.range ops.size).filter (fun k => !fl listed k)).filter (fun k => k != i)).length < ((List.range ops.size).filter (fun k => !fl listed k)).length := by
      rcases Nat.lt_or_ge (((List.range ops.size).filter (fun k => !fl listed k)).filter (fun k => k != i)).length ((List.range ops.size).filter (fun k => !fl listed k)).length with h | h
      · exact h
      · exfalso
        have h2 := List.length_filter_le (fun k => k != i) ((List.range ops.size).filter (fun k => !fl listed k))
        have h3 := List.length_filter_eq_length_iff.1 (Nat.le_antisymm h2 h) i hmem
        simp at h3
    omega
theorem wp_region_inv (I : (Nat → Bool) → Act → World → Prop) {id : Nat} {a : Act} {w : World} (hm : P.follows .mixedOrders = true) (ha : acyc .any ops = true) (h0 : I (fun _ => false) a w.drew)
    (hstep : ∀ i o f a w, ops[i]? = some o → f i = false → (∀ e ∈ o.after, Region.binds .any e = true → f e.on = true) → I f a w → wpOp P ops Q i (fun a' w' => I (setf f i) a' w') a w)
    (hend : ∀ f a w, (∀ i, i < ops.size → f i = true) → I f a w → Q .normal a w) : (Code.region id ops true).wp P Q a w := by
  refine wp_region_any hm (wpAny_inv I ha hstep hend _ _ _ _ (by simp) ?_ ?_)
  · exact Nat.le_trans (List.length_filter_le _ _) (by simp)
  · have : fl (Array.replicate ops.size false) = fun _ => false := by
      funext k
      unfold fl
      simp only [Array.getD_eq_getD_getElem?, Array.getElem?_replicate]
      split <;> rfl
    rw [this]
    exact h0
end
end Go.Proofs.YtiedombphcdpbaaDoor
/-
  REGIONS THAT DRAW THEIR ORDER AND END IN A WRITE TO A BUILDER: their invariants.
-/
namespace Go.Proofs.YtiedombphcdpbaaDoor
open Go.RowKit
set_option maxRecDepth 100000
/-- what holds when the operations with the flags have come up: a box, a builder that the last operation writes -/
structure W11 (n0 : Nat) (W3 : World) (b B : Nat) (O : Obj) (l l2 : List UInt8) (V0 V1 V2 V3 V4 V5 V6 V7 V8 V9 V10 : Value) (f : Nat → Bool) (t0 t1 t2 t3 t4 t5 t6 t7 t8 t9 t10 : Value) (W : World) : Prop where
  below : Below n0 W3 W
  box : W.heap[B]? = some O
  bd : ∃ t, BdAt W b t ∧ (f 10 = false → t = l) ∧ (f 10 = true → t = l2)
  h0 : f 0 = true → t0 = V0
  h1 : f 1 = true → t1 = V1
  h2 : f 2 = true → t2 = V2
  h3 : f 3 = true → t3 = V3
  h4 : f 4 = true → t4 = V4
  h5 : f 5 = true → t5 = V5
  h6 : f 6 = true → t6 = V6
  h7 : f 7 = true → t7 = V7
  h8 : f 8 = true → t8 = V8
  h9 : f 9 = true → t9 = V9
  h10 : f 10 = true → t10 = V10
section
variable {n0 : Nat} {W3 : World} {b B : Nat} {O : Obj} {l l2 : List UInt8} {V0 V1 V2 V3 V4 V5 V6 V7 V8 V9 V10 : Value} {f : Nat → Bool} {t0 t1 t2 t3 t4 t5 t6 t7 t8 t9 t10 : Value} {W : World}
theorem W11.p0 (h : W11 n0 W3 b B O l l2 V0 V1 V2 V3 V4 V5 V6 V7 V8 V9 V10 f t0 t1 t2 t3 t4 t5 t6 t7 t8 t9 t10 W) : W11 n0 W3 b B O l l2 V0 V1 V2 V3 V4 V5 V6 V7 V8 V9 V10 (setf f 0) V0 t1 t2 t3 t4 t5 t6 t7 t8 t9 t10 W :=
  ⟨h.below, h.box, h.bd, fun _ => rfl, fun c => h.h1 c, fun c => h.h2 c, fun c => h.h3 c, fun c => h.h4 c, fun c => h.h5 c, fun c => h.h6 c, fun c => h.h7 c, fun c => h.h8 c, fun c => h.h9 c, fun c => h.h10 c⟩
theorem W11.p1 (h : W11 n0 W3 b B O l l2 V0 V1 V2 V3 V4 V5 V6 V7 V8 V9 V10 f t0 t1 t2 t3 t4 t5 t6 t7 t8 t9 t10 W) : W11 n0 W3 b B O l l2 V0 V1 V2 V3 V4 V5 V6 V7 V8 V9 V10 (setf f 1) t0 V1 t2 t3 t4 t5 t6 t7 t8 t9 t10 W :=
  ⟨h.below, h.box, h.bd, fun c => h.h0 c, fun _ => rfl, fun c => h.h2 c, fun c => h.h3 c, fun c => h.h4 c, fun c => h.h5 c, fun c => h.h6 c, fun c => h.h7 c, fun c => h.h8 c, fun c => h.h9 c, fun c => h.h10 c⟩
theorem W11.p2 (h : W11 n0 W3 b B O l l2 V0 V1 V2 V3 V4 V5 V6 V7 V8 V9 V10 f t0 t1 t2 t3 t4 t5 t6 t7 t8 t9 t10 W) : W11 n0 W3 b B O l l2 V0 V1 V2 V3 V4 V5 V6 V7 V8 V9 V10 (setf f 2) t0 t1 V2 t3 t4 t5 t6 t7 t8 t9 t10 W :=
  ⟨h.below, h.box, h.bd, fun c => h.h0 c, fun c => h.h1 c, fun _ => rfl, fun c => h.h3 c, fun c => h.h4 c, fun c => h.h5 c, fun c => h.h6 c, fun c => h.h7 c, fun c => h.h8 c, fun c => h.h9 c, fun c => h.h10 c⟩
theorem W11.p3 (h : W11 n0 W3 b B O l l2 V0 V1 V2 V3 V4 V5 V6 V7 V8 V9 V10 f t0 t1 t2 t3 t4 t5 t6 t7 t8 t9 t10 W) : W11 n0 W3 b B O l l2 V0 V1 V2 V3 V4 V5 V6 V7 V8 V9 V10 (setf f 3) t0 t1 t2 V3 t4 t5 t6 t7 t8 t9 t10 W :=
  ⟨h.below, h.box, h.bd, fun c => h.h0 c, fun c => h.h1 c, fun c => h.h2 c, fun _ => rfl, fun c => h.h4 c, fun c => h.h5 c, fun c => h.h6 c, fun c => h.h7 c, fun c => h.h8 c, fun c => h.h9 c, fun c => h.h10 c⟩
theorem W11.p4 (h : W11 n0 W3 b B O l l2 V0 V1 V2 V3 V4 V5 V6 V7 V8 V9 V10 f t0 t1 t2 t3 t4 t5 t6 t7 t8 t9 t10 W) : W11 n0 W3 b B O l l2 V0 V1 V2 V3 V4 V5 V6 V7 V8 V9 V10 (setf f 4) t0 t1 t2 t3 V4 t5 t6 t7 t8 t9 t10 W :=
  ⟨h.below, h.box, h.bd, fun c => h.h0 c, fun c => h.h1 c, fun c => h.h2 c, fun c => h.h3 c, fun _ => rfl, fun c => h.h5 c, fun c => h.h6 c, fun c => h.h7 c, fun c => h.h8 c, fun c => h.h9 c, fun c => h.h10 c⟩
theorem W11.p5 (h : W11 n0 W3 b B O l l2 V0 V1 V2 V3 V4 V5 V6 V7 V8 V9 V10 f t0 t1 t2 t3 t4 t5 t6 t7 t8 t9 t10 W) : W11 n0 W3 b B O l l2 V0 V1 V2 V3 V4 V5 V6 V7 V8 V9 V10 (setf f 5) t0 t1 t2 t3 t4 V5 t6 t7 t8 t9 t10 W :=
  ⟨h.below, h.box, h.bd, fun c => h.h0 c, fun c => h.h1 c, fun c => h.h2 c, fun c => h.h3 c, fun c => h.h4 c, fun _ => rfl, fun c => h.h6 c, fun c => h.h7 c, fun c => h.h8 c, fun c => h.h9 c, fun c => h.h10 c⟩
theorem W11.p6 (h : W11 n0 W3 b B O l l2 V0 V1 V2 V3 V4 V5 V6 V7 V8 V9 V10 f t0 t1 t2 t3 t4 t5 t6 t7 t8 t9 t10 W) : W11 n0 W3 b B O l l2 V0 V1 V2 V3 V4 V5 V6 V7 V8 V9 V10 (setf f 6) t0 t1 t2 t3 t4 t5 V6 t7 t8 t9 t10 W :=
  ⟨h.below, h.box, h.bd, fun c => h.h0 c, fun c => h.h1 c, fun c => h.h2 c, fun c => h.h3 c, fun c => h.h4 c, fun c => h.h5 c, fun _ => rfl, fun c => h.h7 c, fun c => h.h8 c, fun c => h.h9 c, fun c => h.h10 c⟩
theorem W11.p7 (h : W11 n0 W3 b B O l l2 V0 V1 V2 V3 V4 V5 V6 V7 V8 V9 V10 f t0 t1 t2 t3 t4 t5 t6 t7 t8 t9 t10 W) : W11 n0 W3 b B O l l2 V0 V1 V2 V3 V4 V5 V6 V7 V8 V9 V10 (setf f 7) t0 t1 t2 t3 t4 t5 t6 V7 t8 t9 t10 W :=
  ⟨h.below, h.box, h.bd, fun c => h.h0 c, fun c => h.h1 c, fun c => h.h2 c, fun c => h.h3 c, fun c => h.h4 c, fun c => h.h5 c, fun c => h.h6 c, fun _ => rfl, fun c => h.h8 c, fun c => h.h9 c, fun c => h.h10 c⟩
theorem W11.p8 (h : W11 n0 W3 b B O l l2 V0 V1 V2 V3 V4 V5 V6 V7 V8 V9 V10 f t0 t1 t2 t3 t4 t5 t6 t7 t8 t9 t10 W) : W11 n0 W3 b B O l l2 V0 V1 V2 V3 V4 V5 V6 V7 V8 V9 V10 (setf f 8) t0 t1 t2 t3 t4 t5 t6 t7 V8 t9 t10 W :=
  ⟨h.below, h.box, h.bd, fun c => h.h0 c, fun c => h.h1 c, fun c => h.h2 c, fun c => h.h3 c, fun c => h.h4 c, fun c => h.h5 c, fun c => h.h6 c, fun c => h.h7 c, fun _ => rfl, fun c => h.h9 c, fun c => h.h10 c⟩
theorem W11.p9 (h : W11 n0 W3 b B O l l2 V0 V1 V2 V3 V4 V5 V6 V7 V8 V9 V10 f t0 t1 t2 t3 t4 t5 t6 t7 t8 t9 t10 W) : W11 n0 W3 b B O l l2 V0 V1 V2 V3 V4 V5 V6 V7 V8 V9 V10 (setf f 9) t0 t1 t2 t3 t4 t5 t6 t7 t8 V9 t10 W :=
  ⟨h.below, h.box, h.bd, fun c => h.h0 c, fun c => h.h1 c, fun c => h.h2 c, fun c => h.h3 c, fun c => h.h4 c, fun c => h.h5 c, fun c => h.h6 c, fun c => h.h7 c, fun c => h.h8 c, fun _ => rfl, fun c => h.h10 c⟩
theorem W11.world (h : W11 n0 W3 b B O l l2 V0 V1 V2 V3 V4 V5 V6 V7 V8 V9 V10 f t0 t1 t2 t3 t4 t5 t6 t7 t8 t9 t10 W) (h3 : n0 ≤ W3.heap.size) {W' : World} (hb : Below W.heap.size W W') : W11 n0 W3 b B O l l2 V0 V1 V2 V3 V4 V5 V6 V7 V8 V9 V10 f t0 t1 t2 t3 t4 t5 t6 t7 t8 t9 t10 W' :=
  ⟨h.below.trans (hb.mono (Nat.le_trans h3 h.below.size)), (hb.block _ (Array.getElem?_eq_some_iff.1 h.box).1).trans h.box, let ⟨t, k, k1, k2⟩ := h.bd; ⟨t, k.below hb, k1, k2⟩, fun c => h.h0 c, fun c => h.h1 c, fun c => h.h2 c, fun c => h.h3 c, fun c => h.h4 c, fun c => h.h5 c, fun c => h.h6 c, fun c => h.h7 c, fun c => h.h8 c, fun c => h.h9 c, fun c => h.h10 c⟩
theorem W11.write (h : W11 n0 W3 b B O l l2 V0 V1 V2 V3 V4 V5 V6 V7 V8 V9 V10 f t0 t1 t2 t3 t4 t5 t6 t7 t8 t9 t10 W) (hbn : n0 ≤ b) {W' : World} (hd : BdAt W' b l2) (hb : Below b W W') (hk : W'.heap[B]? = W.heap[B]?) : W11 n0 W3 b B O l l2 V0 V1 V2 V3 V4 V5 V6 V7 V8 V9 V10 (setf f 10) t0 t1 t2 t3 t4 t5 t6 t7 t8 t9 V10 W' :=
  ⟨h.below.trans (hb.mono hbn), hk.trans h.box, ⟨l2, hd, fun c => (by cases c), fun _ => rfl⟩, fun c => h.h0 c, fun c => h.h1 c, fun c => h.h2 c, fun c => h.h3 c, fun c => h.h4 c, fun c => h.h5 c, fun c => h.h6 c, fun c => h.h7 c, fun c => h.h8 c, fun c => h.h9 c, fun _ => rfl⟩
theorem W11.start (hd : BdAt W3 b l) (hB : W3.heap[B]? = some O) : W11 n0 W3 b B O l l2 V0 V1 V2 V3 V4 V5 V6 V7 V8 V9 V10 (fun _ => false) t0 t1 t2 t3 t4 t5 t6 t7 t8 t9 t10 W3.drew :=
  ⟨(Below.refl n0 W3).drew, hB, ⟨l, hd.below (Below.refl _ W3).drew, fun _ => rfl, fun c => (by cases c)⟩, fun c => (by cases c), fun c => (by cases c), fun c => (by cases c), fun c => (by cases c), fun c => (by cases c), fun c => (by cases c), fun c => (by cases c), fun c => (by cases c), fun c => (by cases c), fun c => (by cases c), fun c => (by cases c)⟩
theorem W11.at (h : W11 n0 W3 b B O l l2 V0 V1 V2 V3 V4 V5 V6 V7 V8 V9 V10 f t0 t1 t2 t3 t4 t5 t6 t7 t8 t9 t10 W) (hf : f 10 = false) : BdAt W b l := by
  obtain ⟨t, k, k1, _⟩ := h.bd
  rw [← k1 hf]; exact k
theorem W11.fin (h : W11 n0 W3 b B O l l2 V0 V1 V2 V3 V4 V5 V6 V7 V8 V9 V10 f t0 t1 t2 t3 t4 t5 t6 t7 t8 t9 t10 W) (hf : f 10 = true) : BdAt W b l2 := by
  obtain ⟨t, k, _, k2⟩ := h.bd
  rw [← k2 hf]; exact k
end
end Go.Proofs.YtiedombphcdpbaaDoor
/-
  THE TEXT OF A SUM: the program's contract.
-/
namespace Go.Proofs.YtiedombphcdpbaaDoor
open Go.RowKit
set_option maxRecDepth 100000
attribute [local go_sem] Oper.semAt_some
section
variable (w : World)
set_option maxHeartbeats 4000000 in
theorem ist_t (X : SM) (u : Value) (hS : SlT w u X.ts) (hbd : BdS X) (h : VSum X) (hT : TabP w) :
    Calls Tryd.prog 15 #[.agg #[.int .i64 X.n, .int .u32 X.e, .int .i64 X.s, u]] w fun r w' => r = .returned (.string (tx (sumT X X.ts.length))) ∧ Below w.heap.size w w' := by
  obtain ⟨s, hs, hs5⟩ := vs_s h
  have h64 := h.2.2.1
  have hV := Lib.hid (fun W (hb : Below w.heap.size w W) => ivs_any W X u (hS.below hb) hbd true (by simp [h]))
  have hFm := Lib.hid (fun W (hb : Below w.heap.size w W) => fmt_any W s (by omega) (hT.below hb))
  have hGr := Lib.hid (fun W (hb : Below w.heap.size w W) => igT_any W h.1 (hT.below hb))
  have hgl := gT_len h.1
  have hdl := dd_len (n := s) (by omega)
  have x1 := run_cat sHead (Lib.decDigits s) (by simp [sHead]) (by omega)
  have x2 := run_cat (sHead ++ Lib.decDigits s) [32] (by simp [sHead]; omega) (by simp)
  have x3 := run_cat (sHead ++ Lib.decDigits s ++ [32]) (gT X.n X.e) (by simp [sHead]; omega) (by omega)
  have x4 := run_cat (sHead ++ Lib.decDigits s ++ [32] ++ gT X.n X.e) [10] (by simp [sHead]; omega) (by simp)
  rw [show sHead ++ Lib.decDigits s ++ [32] ++ gT X.n X.e ++ [10] = sumT X 0 by show _ = sH X; unfold sH; rw [hs]; rfl] at x4
  obtain ⟨a, cap, rfl, hcap, _, hcell⟩ := hS
  obtain ⟨l, hl⟩ : ∃ l, X.ts.length = l := ⟨_, rfl⟩
  have hTk := Lib.hid (fun i (hi : i < l) => h.2.2.2 i (by omega))
  have hlen := Lib.hid (fun k (hk : k ≤ l) => sumT_len h k (by omega))
  have hcell' := Lib.hid (fun i (hi : i < l) => show ∃ b off, a = some ⟨b, off, none⟩ ∧ b < w.heap.size ∧ TCell w b off (tAt X.ts i) i by
    obtain ⟨b, off, e1, e2, e3⟩ := hcell (fun c => by rw [c] at hl; simp at hl; omega)
    exact ⟨b, off, e1, e2, e3 i (by omega)⟩)
  rw [hl] at h64 hcap hV ⊢
  clear hcell
  have eS : ({ data := #[115, 117, 109, 32] } : ByteArray) = tx sHead := rfl
  have e32 : ({ data := #[32] } : ByteArray) = tx [32] := rfl
  have e10 : ({ data := #[10] } : ByteArray) = tx [10] := rfl
  have hT' := Lib.hid (fun W (hb : Below w.heap.size w W) => hT.below hb)
  obtain ⟨W0, hW0⟩ : ∃ W0, W0 = w.alloc (.cells #[.int .i64 X.n, .int .u32 X.e, .int .i64 X.s, .slice a l cap] 40) := ⟨_, rfl⟩
  have hB0 : Below w.heap.size w W0 := by rw [hW0]; (repeat (first | exact Below.refl _ _ | assumption | refine bchain (by assumption) ?_ | refine balloc ?_ _ | apply Below.drew | apply below_drewN | (refine Below.alloc ?_ (by (try simp) <;> omega) _) | (refine Below.setCell ?_ (by (try simp) <;> omega) _)))
  have k0 : W0.heap[w.heap.size]? = some (.cells #[.int .i64 X.n, .int .u32 X.e, .int .i64 X.s, .slice a l cap] 40) := by rw [hW0]; exact World.alloc_heap_new _ _
  replace hW0 := Lib.hid hW0
  clear hT hbd
  rw [hs] at hV k0 hW0 ⊢
  go_enter Tryd.func15, Tryd.ntmps15
  rw [eS, e32, e10]
  obtain ⟨t32, ht32⟩ : ∃ t, tx [32] = t := ⟨_, rfl⟩
  obtain ⟨t10, ht10⟩ : ∃ t, tx [10] = t := ⟨_, rfl⟩
  obtain ⟨tS, htS⟩ : ∃ t, tx sHead = t := ⟨_, rfl⟩
  obtain ⟨tD, htD⟩ : ∃ t, tx (Lib.decDigits s) = t := ⟨_, rfl⟩
  obtain ⟨tG, htG⟩ : ∃ t, tx (gT X.n X.e) = t := ⟨_, rfl⟩
  obtain ⟨y1, hy1⟩ : ∃ t, tx (sHead ++ Lib.decDigits s) = t := ⟨_, rfl⟩
  obtain ⟨y2, hy2⟩ : ∃ t, tx (sHead ++ Lib.decDigits s ++ [32]) = t := ⟨_, rfl⟩
  obtain ⟨y3, hy3⟩ : ∃ t, tx (sHead ++ Lib.decDigits s ++ [32] ++ gT X.n X.e) = t := ⟨_, rfl⟩
  obtain ⟨y4, hy4⟩ : ∃ t, tx (sumT X 0) = t := ⟨_, rfl⟩
  rw [htS, htD, hy1] at x1
  rw [hy1, ht32, hy2] at x2
  rw [hy2, htG, hy3] at x3
  rw [hy3, ht10, hy4] at x4
  rw [htD] at hFm
  rw [htG] at hGr
  rw [ht32, ht10, htS]
  replace ht32 := Lib.hid ht32
  replace ht10 := Lib.hid ht10
  replace hy4 := Lib.hid hy4
  clear htS htD htG hy1 hy2 hy3 hgl hdl h
  replace hs := Lib.hid hs
  go_wp2_with fail
  rw [← hW0.out]
  have c0 : W0.cell? ⟨w.heap.size, 0, none⟩ = some (.int .i64 X.n) := by rw [Lib.cell_of_heap k0]; rfl
  have c1 : W0.cell? ⟨w.heap.size, 1, none⟩ = some (.int .u32 X.e) := by rw [Lib.cell_of_heap k0]; rfl
  have c2 : W0.cell? ⟨w.heap.size, 2, none⟩ = some (.int .i64 (s : Int)) := by rw [Lib.cell_of_heap k0]; rfl
  have c3 : W0.cell? ⟨w.heap.size, 3, none⟩ = some (.slice a l cap) := by rw [Lib.cell_of_heap k0]; rfl
  refine (hV.out _ hB0).mono ?_
  rintro r1 w1 ⟨rfl, hb1⟩
  have k1 := (hb1.block _ (Array.getElem?_eq_some_iff.1 k0).1).trans k0
  clear c0 c1 c2 c3 k0
  have hbd1 := BdAt.fresh w1
  have hzb := (bchain hb1 hB0).size
  obtain ⟨W3, hW3⟩ : ∃ W3, W3 = w1.alloc (.cells #[.pointer none, .slice none 0 0] 75) := ⟨_, rfl⟩
  have hB3 : Below w.heap.size w W3 := by rw [hW3]; exact balloc (bchain hb1 hB0) _
  have k3 : W3.heap[w.heap.size]? = some (.cells #[.int .i64 X.n, .int .u32 X.e, .int .i64 (s : Int), .slice a l cap] 40) := by rw [hW3, Below.heap_alloc _ _ _ (Array.getElem?_eq_some_iff.1 k1).1]; exact k1
  rw [← hW3] at hbd1
  obtain ⟨b, hb⟩ : ∃ b, w1.heap.size = b := ⟨_, rfl⟩
  rw [hb] at hbd1 hzb
  have hbB : w.heap.size ≠ b := by have := (Array.getElem?_eq_some_iff.1 k1).1; omega
  replace hb := Lib.hid hb
  replace hW3 := Lib.hid hW3
  replace hbd1 := Lib.hid hbd1
  go_wp2_with fail
  rw [← hW3.out, hb.out]
  have hWt := Lib.hid (fun W (hd : BdAt W b []) => bd_put W b [] (sumT X 0) hd (by have := hlen.out 0 (by omega); simp; omega))
  rw [hy4.out] at hWt
  have hw3 : w.heap.size ≤ W3.heap.size := hB3.size
  refine wp_region_inv (fun f ac W => ∃ t9 t10 t11 t12 t13 t14 t15 t16 t17 t18 t19, ac = { tmps := #[.agg #[.int .i64 X.n, .int .u32 X.e, .int .i64 (s : Int), .slice a l cap], .pointer (some ⟨w.heap.size, 0, none⟩), .string { data := #[] }, .pointer (some ⟨b, 0, none⟩), undef, undef, .agg #[.int .i64 X.n, .int .u32 X.e, .int .i64 (s : Int), .slice a l cap], .bool true, .bool false, t9, t10, t11, t12, t13, t14, t15, t16, t17, t18, t19, undef, undef, undef, undef, undef, undef, undef, undef, undef, undef, undef, undef, undef, undef, undef, undef, undef, undef, undef, undef], defers := [] } ∧ W11 (w.heap.size) W3 b w.heap.size (.cells #[.int .i64 X.n, .int .u32 X.e, .int .i64 (s : Int), .slice a l cap] 40) ([]) (sumT X 0) (.pointer (some ⟨w.heap.size, 2, none⟩)) (.int .i64 (s : Int)) (.string tD) (.string y1) (.string y2) (.pointer (some ⟨w.heap.size, 0, none⟩)) (.agg #[.int .i64 X.n, .int .u32 X.e]) (.string tG) (.string y3) (.string y4) (.tuple #[.int .i64 (sumT X 0).length, .nilIface]) f t9 t10 t11 t12 t13 t14 t15 t16 t17 t18 t19 W) (by kernel_rfl) (by kernel_rfl) ?start ?step ?last
  case start => exact ⟨_, _, _, _, _, _, _, _, _, _, _, rfl, W11.start hbd1.out k3⟩
  case step =>
    intro i o f ac W ho hf hdep hI
    obtain ⟨t9, t10, t11, t12, t13, t14, t15, t16, t17, t18, t19, rfl, hJ⟩ := hI
    have hi : i < 11 := (Array.getElem?_eq_some_iff.1 ho).1
    have hc : i = 0 ∨ i = 1 ∨ i = 2 ∨ i = 3 ∨ i = 4 ∨ i = 5 ∨ i = 6 ∨ i = 7 ∨ i = 8 ∨ i = 9 ∨ i = 10 := by omega
    clear hi
    rcases hc with rfl | rfl | rfl | rfl | rfl | rfl | rfl | rfl | rfl | rfl | rfl
    · obtain rfl := Option.some.inj ho
      refine wpOp_step rfl (fun K hK => ?_)
      go_simp
      exact hK _ _ ⟨_, _, _, _, _, _, _, _, _, _, _, rfl, hJ.p0⟩
    · obtain rfl := Option.some.inj ho
      have e0 : f 0 = true := hdep ⟨0, .data⟩ (by simp) (by decide)
      have x2 : W.cell? ⟨w.heap.size, 2, none⟩ = some (.int .i64 (s : Int)) := by rw [Lib.cell_of_heap hJ.box]; rfl
      obtain rfl := hJ.h0 e0
      refine wpOp_step rfl (fun K hK => ?_)
      go_simp
      exact hK _ _ ⟨_, _, _, _, _, _, _, _, _, _, _, rfl, hJ.p1⟩
    · obtain rfl := Option.some.inj ho
      have e1 : f 1 = true := hdep ⟨1, .data⟩ (by simp) (by decide)
      obtain rfl := hJ.h1 e1
      refine wpOp_step rfl (fun K hK => ?_)
      go_simp
      go_wp2_with (go_at_call 42; refine (hFm.out W (hB3.trans hJ.below)).mono ?_; rintro r3 w3 ⟨rfl, hb3⟩)
      exact ⟨_, _, _, _, _, _, _, _, _, _, _, rfl, (hJ.world (by omega) hb3).p2⟩
    · obtain rfl := Option.some.inj ho
      have e2 : f 2 = true := hdep ⟨2, .data⟩ (by simp) (by decide)
      obtain rfl := hJ.h2 e2
      refine wpOp_step rfl (fun K hK => ?_)
      go_simp
      exact hK _ _ ⟨_, _, _, _, _, _, _, _, _, _, _, rfl, hJ.p3⟩
    · obtain rfl := Option.some.inj ho
      have e3 : f 3 = true := hdep ⟨3, .data⟩ (by simp) (by decide)
      obtain rfl := hJ.h3 e3
      refine wpOp_step rfl (fun K hK => ?_)
      go_simp
      exact hK _ _ ⟨_, _, _, _, _, _, _, _, _, _, _, rfl, hJ.p4⟩
    · obtain rfl := Option.some.inj ho
      refine wpOp_step rfl (fun K hK => ?_)
      go_simp
      exact hK _ _ ⟨_, _, _, _, _, _, _, _, _, _, _, rfl, hJ.p5⟩
    · obtain rfl := Option.some.inj ho
      have e5 : f 5 = true := hdep ⟨5, .data⟩ (by simp) (by decide)
      have x0 : W.cell? ⟨w.heap.size, 0, none⟩ = some (.int .i64 X.n) := by rw [Lib.cell_of_heap hJ.box]; rfl
      have x1 : W.cell? ⟨w.heap.size, 1, none⟩ = some (.int .u32 X.e) := by rw [Lib.cell_of_heap hJ.box]; rfl
      obtain rfl := hJ.h5 e5
      refine wpOp_step rfl (fun K hK => ?_)
      go_simp
      exact hK _ _ ⟨_, _, _, _, _, _, _, _, _, _, _, rfl, hJ.p6⟩
    · obtain rfl := Option.some.inj ho
      have e6 : f 6 = true := hdep ⟨6, .data⟩ (by simp) (by decide)
      obtain rfl := hJ.h6 e6
      refine wpOp_step rfl (fun K hK => ?_)
      go_simp
      go_wp2_with (go_at_call 43; refine (hGr.out W (hB3.trans hJ.below)).mono ?_; rintro r3 w3 ⟨rfl, hb3⟩)
      exact ⟨_, _, _, _, _, _, _, _, _, _, _, rfl, (hJ.world (by omega) hb3).p7⟩
    · obtain rfl := Option.some.inj ho
      have e4 : f 4 = true := hdep ⟨4, .data⟩ (by simp) (by decide)
      have e7 : f 7 = true := hdep ⟨7, .data⟩ (by simp) (by decide)
      obtain rfl := hJ.h4 e4
      obtain rfl := hJ.h7 e7
      refine wpOp_step rfl (fun K hK => ?_)
      go_simp
      exact hK _ _ ⟨_, _, _, _, _, _, _, _, _, _, _, rfl, hJ.p8⟩
    · obtain rfl := Option.some.inj ho
      have e8 : f 8 = true := hdep ⟨8, .data⟩ (by simp) (by decide)
      obtain rfl := hJ.h8 e8
      refine wpOp_step rfl (fun K hK => ?_)
      go_simp
      exact hK _ _ ⟨_, _, _, _, _, _, _, _, _, _, _, rfl, hJ.p9⟩
    · obtain rfl := Option.some.inj ho
      have e9 : f 9 = true := hdep ⟨9, .data⟩ (by simp) (by decide)
      obtain rfl := hJ.h9 e9
      refine wpOp_step rfl (fun K hK => ?_)
      go_simp
      go_wp2_with (go_at_call 32; refine (hWt.out W (hJ.at hf)).mono ?_; rintro r3 w3 ⟨rfl, hd3, hb3, hk3⟩)
      exact ⟨_, _, _, _, _, _, _, _, _, _, _, rfl, hJ.write (by omega) hd3 hb3 ((hk3 _ _ hJ.box (fun c => hbB (Option.some.inj c)) (fun _ _ e => absurd (Obj.cells.inj e).2.1 (by decide))).trans hJ.box.symm)⟩
  case last =>
    intro f ac W hall hI
    obtain ⟨t9, t10, t11, t12, t13, t14, t15, t16, t17, t18, t19, rfl, hJ⟩ := hI
    obtain rfl := hJ.h0 (hall 0 (show 0 < 11 by decide))
    obtain rfl := hJ.h1 (hall 1 (show 1 < 11 by decide))
    obtain rfl := hJ.h2 (hall 2 (show 2 < 11 by decide))
    obtain rfl := hJ.h3 (hall 3 (show 3 < 11 by decide))
    obtain rfl := hJ.h4 (hall 4 (show 4 < 11 by decide))
    obtain rfl := hJ.h5 (hall 5 (show 5 < 11 by decide))
    obtain rfl := hJ.h6 (hall 6 (show 6 < 11 by decide))
    obtain rfl := hJ.h7 (hall 7 (show 7 < 11 by decide))
    obtain rfl := hJ.h8 (hall 8 (show 8 < 11 by decide))
    obtain rfl := hJ.h9 (hall 9 (show 9 < 11 by decide))
    obtain rfl := hJ.h10 (hall 10 (show 10 < 11 by decide))
    have hbd4 := hJ.fin (hall 10 (show 10 < 11 by decide))
    have k4 := hJ.box
    have hB4 : Below w.heap.size w W := hB3.trans hJ.below
    have c3 : W.cell? ⟨w.heap.size, 3, none⟩ = some (.slice a l cap) := by rw [Lib.cell_of_heap k4]; rfl
    clear hJ hall k3 hW3 x1 x2 x3 x4 hWt hFm hGr
    replace hbd4 := Lib.hid hbd4
    go_wp2_with fail
    go_loopw [23] (fun i wr => ∃ k : Nat, k ≤ l ∧ i = .int .i64 k ∧ BdAt wr b (sumT X k) ∧ Below w.heap.size w wr) (fun i _ => l - (intOf i).toNat)
    case atStart => exact ⟨0, by omega, rfl, hbd4.out, hB4⟩
    case round =>
      obtain ⟨k, hk, rfl, hbd, hB⟩ := hrel
      by_cases hlt : k < l
      · have hd := decide_eq_true (show ((k : Int) < (l : Int)) by omega)
        obtain ⟨bt, off, rfl, hbt, d0, d1, d2, d3, d4⟩ := hcell'.out k hlt
        have ht := hTk.out k hlt
        have hln := hlen.out k (by omega)
        have hsn : sumT X (k + 1) = sumT X k ++ tT (tAt X.ts k) := rfl
        obtain ⟨g, hg⟩ : ∃ g, tAt X.ts k = g := ⟨_, rfl⟩
        unfold TOk at ht
        rw [hg] at d0 d1 d2 d3 d4 ht hsn
        have hF := Lib.hid (fun W (hb : Below w.heap.size w W) => ifT_any W ht.2.2.2.1 (hT'.out W hb))
        have hGg := Lib.hid (fun W (hb : Below w.heap.size w W) => igT_any W ht.1.1 (hT'.out W hb))
        have hfl := frL_len' ht.2.2.2.1
        have hgl := gT_len ht.1.1
        have htl := tT_len ht.1.1 ht.2.2.2.1
        have x1 := run_cat (frL g.p g.q.toNat) [32] (by omega) (by simp)
        have x2 := run_cat (frL g.p g.q.toNat ++ [32]) (gT g.n g.e) (by simp; omega) (by omega)
        have x3 := run_cat (frL g.p g.q.toNat ++ [32] ++ gT g.n g.e) [10] (by simp; omega) (by simp)
        rw [show frL g.p g.q.toNat ++ [32] ++ gT g.n g.e ++ [10] = tT g from rfl] at x3
        have p0 := (hB.cell (p := ⟨bt, off + k * 5, none⟩) hbt).trans d0
        have p1 := (hB.cell (p := ⟨bt, off + k * 5 + 1, none⟩) hbt).trans d1
        have p2 := (hB.cell (p := ⟨bt, off + k * 5 + 2, none⟩) hbt).trans d2
        have p3 := (hB.cell (p := ⟨bt, off + k * 5 + 3, none⟩) hbt).trans d3
        have p4 := (hB.cell (p := ⟨bt, off + k * 5 + 4, none⟩) hbt).trans d4
        obtain ⟨z3, hz3⟩ : ∃ t, tx (frL g.p g.q.toNat) = t := ⟨_, rfl⟩
        obtain ⟨z4, hz4⟩ : ∃ t, tx (frL g.p g.q.toNat ++ [32]) = t := ⟨_, rfl⟩
        obtain ⟨z5, hz5⟩ : ∃ t, tx (gT g.n g.e) = t := ⟨_, rfl⟩
        obtain ⟨z6, hz6⟩ : ∃ t, tx (frL g.p g.q.toNat ++ [32] ++ gT g.n g.e) = t := ⟨_, rfl⟩
        obtain ⟨z7, hz7⟩ : ∃ t, tx (tT g) = t := ⟨_, rfl⟩
        rw [hz3, ht32.out, hz4] at x1
        rw [hz4, hz5, hz6] at x2
        rw [hz6, ht10.out, hz7] at x3
        rw [hz3] at hF
        rw [hz5] at hGg
        have hWt := Lib.hid (fun W (hd : BdAt W b (sumT X k)) => bd_put W b _ (tT g) hd (by omega))
        rw [hz7] at hWt
        have hk0 : (0 : Int) ≤ (k : Int) := by omega
        have hk1 : (k : Int) < (l : Int) := by omega
        obtain ⟨gk, gn, ge, gp, gq⟩ := g
        dsimp only at p0 p1 p2 p3 p4 hF hGg hWt hsn x1 x2 x3
        have hbA := hbd.alloc (.cells #[.int .i64 gk, .int .i64 gn, .int .u32 ge, .int .i64 gp, .int .i64 gq] 94)
        have hkA : (wr.alloc (.cells #[.int .i64 gk, .int .i64 gn, .int .u32 ge, .int .i64 gp, .int .i64 gq] 94)).heap[wr.heap.size]? = some (.cells #[.int .i64 gk, .int .i64 gn, .int .u32 ge, .int .i64 gp, .int .i64 gq] 94) := World.alloc_heap_new _ _
        have hBA : Below w.heap.size w (wr.alloc (.cells #[.int .i64 gk, .int .i64 gn, .int .u32 ge, .int .i64 gp, .int .i64 gq] 94)) := balloc hB _
        have hAb : wr.heap.size ≠ b := by have := hbd.lt; omega
        obtain ⟨A, hA⟩ : ∃ A, wr.heap.size = A := ⟨_, rfl⟩
        obtain ⟨W5, hW5⟩ : ∃ W5, wr.alloc (.cells #[.int .i64 gk, .int .i64 gn, .int .u32 ge, .int .i64 gp, .int .i64 gq] 94) = W5 := ⟨_, rfl⟩
        rw [hA, hW5] at hkA
        rw [hA] at hAb
        rw [hW5] at hbA hBA
        replace hA := Lib.hid hA
        replace hW5 := Lib.hid hW5
        replace hbA := Lib.hid hbA
        have hw5 : w.heap.size ≤ W5.heap.size := hBA.size
        clear hz3 hz4 hz5 hz6 hz7 d0 d1 d2 d3 d4 ht hfl hgl hln hg htl hbd
        go_wp2_with fail
        rw [hW5.out, hA.out]
        refine wp_region_inv (fun f ac W => ∃ t27 t28 t29 t30 t31 t32 t33 t34 t35 t36 t37, ac = { tmps := #[.agg #[.int .i64 X.n, .int .u32 X.e, .int .i64 (s : Int), .slice (some ⟨bt, off, none⟩) l cap], .pointer (some ⟨w.heap.size, 0, none⟩), .string { data := #[] }, .pointer (some ⟨b, 0, none⟩), undef, .pointer (some ⟨A, 0, none⟩), .agg #[.int .i64 X.n, .int .u32 X.e, .int .i64 (s : Int), .slice (some ⟨bt, off, none⟩) l cap], .bool true, .bool false, .pointer (some ⟨w.heap.size, 2, none⟩), .int .i64 (s : Int), .string tD, .string y1, .string y2, .pointer (some ⟨w.heap.size, 0, none⟩), .agg #[.int .i64 X.n, .int .u32 X.e], .string tG, .string y3, .string y4, .tuple #[.int .i64 (sumT X 0).length, .nilIface], .pointer (some ⟨w.heap.size, 3, none⟩), .slice (some ⟨bt, off, none⟩) l cap, .int .i64 (l : Int), .int .i64 (k : Int), .bool true, .pointer (some ⟨bt, off + k * 5, none⟩), .agg #[.int .i64 gk, .int .i64 gn, .int .u32 ge, .int .i64 gp, .int .i64 gq], t27, t28, t29, t30, t31, t32, t33, t34, t35, t36, t37, u38, undef], defers := [] } ∧ W11 (w.heap.size) W5 b A (.cells #[.int .i64 gk, .int .i64 gn, .int .u32 ge, .int .i64 gp, .int .i64 gq] 94) (sumT X k) (sumT X k ++ tT ⟨gk, gn, ge, gp, gq⟩) (.pointer (some ⟨A, 3, none⟩)) (.agg #[.int .i64 gp, .int .i64 gq]) (.string z3) (.string z4) (.pointer (some ⟨A, 0, none⟩)) (.pointer (some ⟨A, 1, none⟩)) (.agg #[.int .i64 gn, .int .u32 ge]) (.string z5) (.string z6) (.string z7) (.tuple #[.int .i64 (tT ⟨gk, gn, ge, gp, gq⟩).length, .nilIface]) f t27 t28 t29 t30 t31 t32 t33 t34 t35 t36 t37 W) (by kernel_rfl) (by kernel_rfl) ?start ?step ?last
        case start => exact ⟨_, _, _, _, _, _, _, _, _, _, _, rfl, W11.start hbA.out hkA⟩
        case step =>
          intro i o f ac W ho hf hdep hI
          obtain ⟨t27, t28, t29, t30, t31, t32, t33, t34, t35, t36, t37, rfl, hJ⟩ := hI
          have hi : i < 11 := (Array.getElem?_eq_some_iff.1 ho).1
          have hc : i = 0 ∨ i = 1 ∨ i = 2 ∨ i = 3 ∨ i = 4 ∨ i = 5 ∨ i = 6 ∨ i = 7 ∨ i = 8 ∨ i = 9 ∨ i = 10 := by omega
          clear hi
          rcases hc with rfl | rfl | rfl | rfl | rfl | rfl | rfl | rfl | rfl | rfl | rfl
          · obtain rfl := Option.some.inj ho
            refine wpOp_step rfl (fun K hK => ?_)
            go_simp
            exact hK _ _ ⟨_, _, _, _, _, _, _, _, _, _, _, rfl, hJ.p0⟩
          · obtain rfl := Option.some.inj ho
            have e0 : f 0 = true := hdep ⟨0, .data⟩ (by simp) (by decide)
            have x3 : W.cell? ⟨A, 3, none⟩ = some (.int .i64 gp) := by rw [Lib.cell_of_heap hJ.box]; rfl
            have x4 : W.cell? ⟨A, 4, none⟩ = some (.int .i64 gq) := by rw [Lib.cell_of_heap hJ.box]; rfl
            obtain rfl := hJ.h0 e0
            refine wpOp_step rfl (fun K hK => ?_)
            go_simp
            exact hK _ _ ⟨_, _, _, _, _, _, _, _, _, _, _, rfl, hJ.p1⟩
          · obtain rfl := Option.some.inj ho
            have e1 : f 1 = true := hdep ⟨1, .data⟩ (by simp) (by decide)
            obtain rfl := hJ.h1 e1
            refine wpOp_step rfl (fun K hK => ?_)
            go_simp
            go_wp2_with (go_at_call 33; refine (hF.out W (hBA.trans hJ.below)).mono ?_; rintro r3 w3 ⟨rfl, hb3⟩)
            exact ⟨_, _, _, _, _, _, _, _, _, _, _, rfl, (hJ.world (by omega) hb3).p2⟩
          · obtain rfl := Option.some.inj ho
            have e2 : f 2 = true := hdep ⟨2, .data⟩ (by simp) (by decide)
            obtain rfl := hJ.h2 e2
            refine wpOp_step rfl (fun K hK => ?_)
            go_simp
            exact hK _ _ ⟨_, _, _, _, _, _, _, _, _, _, _, rfl, hJ.p3⟩
          · obtain rfl := Option.some.inj ho
            refine wpOp_step rfl (fun K hK => ?_)
            go_simp
            exact hK _ _ ⟨_, _, _, _, _, _, _, _, _, _, _, rfl, hJ.p4⟩
          · obtain rfl := Option.some.inj ho
            have e4 : f 4 = true := hdep ⟨4, .data⟩ (by simp) (by decide)
            obtain rfl := hJ.h4 e4
            refine wpOp_step rfl (fun K hK => ?_)
            go_simp
            exact hK _ _ ⟨_, _, _, _, _, _, _, _, _, _, _, rfl, hJ.p5⟩
          · obtain rfl := Option.some.inj ho
            have e5 : f 5 = true := hdep ⟨5, .data⟩ (by simp) (by decide)
            have x1 : W.cell? ⟨A, 1, none⟩ = some (.int .i64 gn) := by rw [Lib.cell_of_heap hJ.box]; rfl
            have x2 : W.cell? ⟨A, 2, none⟩ = some (.int .u32 ge) := by rw [Lib.cell_of_heap hJ.box]; rfl
            obtain rfl := hJ.h5 e5
            refine wpOp_step rfl (fun K hK => ?_)
            go_simp
            exact hK _ _ ⟨_, _, _, _, _, _, _, _, _, _, _, rfl, hJ.p6⟩
          · obtain rfl := Option.some.inj ho
            have e6 : f 6 = true := hdep ⟨6, .data⟩ (by simp) (by decide)
            obtain rfl := hJ.h6 e6
            refine wpOp_step rfl (fun K hK => ?_)
            go_simp
            go_wp2_with (go_at_call 43; refine (hGg.out W (hBA.trans hJ.below)).mono ?_; rintro r3 w3 ⟨rfl, hb3⟩)
            exact ⟨_, _, _, _, _, _, _, _, _, _, _, rfl, (hJ.world (by omega) hb3).p7⟩
          · obtain rfl := Option.some.inj ho
            have e3 : f 3 = true := hdep ⟨3, .data⟩ (by simp) (by decide)
            have e7 : f 7 = true := hdep ⟨7, .data⟩ (by simp) (by decide)
            obtain rfl := hJ.h3 e3
            obtain rfl := hJ.h7 e7
            refine wpOp_step rfl (fun K hK => ?_)
            go_simp
            exact hK _ _ ⟨_, _, _, _, _, _, _, _, _, _, _, rfl, hJ.p8⟩
          · obtain rfl := Option.some.inj ho
            have e8 : f 8 = true := hdep ⟨8, .data⟩ (by simp) (by decide)
            obtain rfl := hJ.h8 e8
            refine wpOp_step rfl (fun K hK => ?_)
            go_simp
            exact hK _ _ ⟨_, _, _, _, _, _, _, _, _, _, _, rfl, hJ.p9⟩
          · obtain rfl := Option.some.inj ho
            have e9 : f 9 = true := hdep ⟨9, .data⟩ (by simp) (by decide)
            obtain rfl := hJ.h9 e9
            refine wpOp_step rfl (fun K hK => ?_)
            go_simp
            go_wp2_with (go_at_call 32; refine (hWt.out W (hJ.at hf)).mono ?_; rintro r3 w3 ⟨rfl, hd3, hb3, hk3⟩)
            exact ⟨_, _, _, _, _, _, _, _, _, _, _, rfl, hJ.write (by omega) hd3 hb3 ((hk3 _ _ hJ.box (fun c => hAb (Option.some.inj c)) (fun _ _ e => absurd (Obj.cells.inj e).2.1 (by decide))).trans hJ.box.symm)⟩
        case last =>
          intro f ac W hall hI
          obtain ⟨t27, t28, t29, t30, t31, t32, t33, t34, t35, t36, t37, rfl, hJ⟩ := hI
          obtain rfl := hJ.h0 (hall 0 (show 0 < 11 by decide))
          obtain rfl := hJ.h1 (hall 1 (show 1 < 11 by decide))
          obtain rfl := hJ.h2 (hall 2 (show 2 < 11 by decide))
          obtain rfl := hJ.h3 (hall 3 (show 3 < 11 by decide))
          obtain rfl := hJ.h4 (hall 4 (show 4 < 11 by decide))
          obtain rfl := hJ.h5 (hall 5 (show 5 < 11 by decide))
          obtain rfl := hJ.h6 (hall 6 (show 6 < 11 by decide))
          obtain rfl := hJ.h7 (hall 7 (show 7 < 11 by decide))
          obtain rfl := hJ.h8 (hall 8 (show 8 < 11 by decide))
          obtain rfl := hJ.h9 (hall 9 (show 9 < 11 by decide))
          obtain rfl := hJ.h10 (hall 10 (show 10 < 11 by decide))
          have hbd8 := Lib.hid (hJ.fin (hall 10 (show 10 < 11 by decide)))
          have hB8 : Below w.heap.size w W := hBA.trans hJ.below
          clear hJ hall
          go_wp2
          go_roundw
          case rel => exact ⟨k + 1, by omega, by go_num, by rw [hsn]; exact hbd8.out, hB8⟩
          case measure => simp [intOf]; omega
      · have hd := decide_eq_false (show ¬ ((k : Int) < (l : Int)) by omega)
        obtain rfl : k = l := by omega
        have hS := Lib.hid (bd_string wr b _ hbd)
        obtain ⟨t, ht⟩ : ∃ t, tx (sumT X k) = t := ⟨_, rfl⟩
        rw [ht] at hS
        replace hbd := Lib.hid hbd
        go_wp2_with fail
        refine hS.out.mono ?_
        rintro r2 w2 ⟨rfl, hb4, _⟩
        have hB4 := hB.trans (hb4.mono hzb)
        go_wp2
        go_ret
        exact ⟨congrArg (fun t => Ending.returned (Value.string t)) ht.symm, hB4⟩
end
end Go.Proofs.YtiedombphcdpbaaDoor
/-
  THE TEXT OF A SUM: both sides.
-/
namespace Go.Proofs.YtiedombphcdpbaaDoor
open Go.RowKit
set_option maxRecDepth 100000
section
variable (w : World)
theorem ist_f (X : SM) (u : Value) (hS : SlT w u X.ts) (hbd : BdS X) (h : ¬ VSum X) :
    Calls Tryd.prog 15 #[.agg #[.int .i64 X.n, .int .u32 X.e, .int .i64 X.s, u]] w fun r w' => r = .returned (.string ⟨#[]⟩) ∧ Below w.heap.size w w' := by
  have hV := Lib.hid (fun W (hb : Below w.heap.size w W) => ivs_any W X u (hS.below hb) hbd false (by simp [h]))
  obtain ⟨a, cap, rfl, _⟩ := hS
  have hB0 : Below w.heap.size w (w.alloc (.cells #[.int .i64 X.n, .int .u32 X.e, .int .i64 X.s, .slice a X.ts.length cap] 40)) := by (repeat (first | exact Below.refl _ _ | assumption | refine bchain (by assumption) ?_ | refine balloc ?_ _ | apply Below.drew | apply below_drewN | (refine Below.alloc ?_ (by (try simp) <;> omega) _) | (refine Below.setCell ?_ (by (try simp) <;> omega) _)))
  clear h hbd
  go_enter Tryd.func15, Tryd.ntmps15
  go_wp2_with fail
  refine (hV.out _ hB0).mono ?_
  rintro r1 w1 ⟨rfl, hb1⟩
  go_wp2
  go_ret
  exact ⟨rfl, bchain hb1 hB0⟩
theorem sst_f (X : SM) (u : Value) (hS : SlT w u X.ts) (hbd : BdS X) (h : ¬ VSum X) :
    Calls Tryd.prog 13 #[.agg #[.int .i64 X.n, .int .u32 X.e, .int .i64 X.s, u]] w fun r w' => r = .returned (.string ⟨#[]⟩) ∧ Below w.heap.size w w' := by
  have hE := Lib.hid (fun W G (hb : Below w.heap.size w W) c1 => sv5_any W X u G c1 (hS.below hb) hbd false (by simp [h]))
  obtain ⟨a, cap, rfl, _⟩ := hS
  obtain ⟨l, hl⟩ : ∃ l, X.ts.length = l := ⟨_, rfl⟩
  rw [hl] at hE ⊢
  clear hl hbd h
  obtain ⟨W0, hW0⟩ : ∃ W0, W0 = w.alloc (.cells #[.int .i64 X.n, .int .u32 X.e, .int .i64 X.s, .slice a l cap] 40) := ⟨_, rfl⟩
  have hb0 : Below w.heap.size w W0 := by rw [hW0]; (repeat (first | exact Below.refl _ _ | assumption | refine bchain (by assumption) ?_ | refine balloc ?_ _ | apply Below.drew | apply below_drewN | (refine Below.alloc ?_ (by (try simp) <;> omega) _) | (refine Below.setCell ?_ (by (try simp) <;> omega) _)))
  have k0 : SB W0 w.heap.size X.n X.e X.s (.slice a l cap) := by rw [hW0]; exact SB.made _ _ _ _ _ _
  replace hW0 := Lib.hid hW0
  go_enter Tryd.func13, Tryd.ntmps13
  go_wp2_with fail
  rw [← hW0.out]
  refine (hE.out _ _ hb0 k0).mono ?_
  rintro r1 w1 ⟨rfl, hb1⟩
  go_wp2
  go_ret
  exact ⟨rfl, bchain hb1 hb0⟩
theorem sst_t (X : SM) (u : Value) (hS : SlT w u X.ts) (hbd : BdS X) (h : VSum X) :
    Calls Tryd.prog 13 #[.agg #[.int .i64 X.n, .int .u32 X.e, .int .i64 X.s, u]] w fun r w' => r = .returned (.string (tx (sumT X X.ts.length))) ∧ Below w.heap.size w w' := by
  have hE := Lib.hid (fun W G (hb : Below w.heap.size w W) c1 => sv5_any W X u G c1 (hS.below hb) hbd true (by simp [h]))
  have hL := Lib.hid (fun W G (hb : Below w.heap.size w W) c1 => slt_any W X u G c1 (hS.below hb) h)
  obtain ⟨a, cap, rfl, _⟩ := hS
  obtain ⟨l, hl⟩ : ∃ l, X.ts.length = l := ⟨_, rfl⟩
  obtain ⟨t, ht⟩ : ∃ t, tx (sumT X X.ts.length) = t := ⟨_, rfl⟩
  rw [ht] at hL ⊢
  rw [hl] at hE hL ⊢
  clear hl hbd h ht
  obtain ⟨W0, hW0⟩ : ∃ W0, W0 = w.alloc (.cells #[.int .i64 X.n, .int .u32 X.e, .int .i64 X.s, .slice a l cap] 40) := ⟨_, rfl⟩
  have hb0 : Below w.heap.size w W0 := by rw [hW0]; (repeat (first | exact Below.refl _ _ | assumption | refine bchain (by assumption) ?_ | refine balloc ?_ _ | apply Below.drew | apply below_drewN | (refine Below.alloc ?_ (by (try simp) <;> omega) _) | (refine Below.setCell ?_ (by (try simp) <;> omega) _)))
  have k0 : SB W0 w.heap.size X.n X.e X.s (.slice a l cap) := by rw [hW0]; exact SB.made _ _ _ _ _ _
  replace hW0 := Lib.hid hW0
  go_enter Tryd.func13, Tryd.ntmps13
  go_wp2_with fail
  rw [← hW0.out]
  refine (hE.out _ _ hb0 k0).mono ?_
  rintro r1 w1 ⟨rfl, hb1⟩
  have k1 := Lib.hid (k0.below hb1)
  have hb1' := bchain hb1 hb0
  go_wp2_with fail
  refine (hL.out _ _ hb1' k1.out).mono ?_
  rintro r2 w2 ⟨rfl, hb2⟩
  go_wp2
  go_ret
  exact ⟨rfl, bchain hb2 hb1'⟩
theorem st_both (X : SM) (hbd : BdS X) : ∃ s : ByteArray, (∀ W u, SlT W u X.ts → Calls Tryd.prog 13 #[.agg #[.int .i64 X.n, .int .u32 X.e, .int .i64 X.s, u]] W fun r w' => r = .returned (.string s) ∧ Below W.heap.size W w') ∧
    (∀ W u, SlT W u X.ts → TabP W → Calls Tryd.prog 15 #[.agg #[.int .i64 X.n, .int .u32 X.e, .int .i64 X.s, u]] W fun r w' => r = .returned (.string s) ∧ Below W.heap.size W w') := by
  by_cases h : VSum X
  · exact ⟨_, fun W u hS => sst_t W X u hS hbd h, fun W u hS hT => ist_t W X u hS hbd h hT⟩
  · exact ⟨_, fun W u hS => sst_f W X u hS hbd h, fun W u hS _ => ist_f W X u hS hbd h⟩
end
end Go.Proofs.YtiedombphcdpbaaDoor
