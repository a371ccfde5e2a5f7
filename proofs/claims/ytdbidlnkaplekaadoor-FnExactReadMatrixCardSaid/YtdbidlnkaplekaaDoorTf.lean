/-
  THE TEXT OF A FRACTION: the program's and the model's contracts.
-/
import Derived.Test.YtdbidlnkaplekaaDoorFrVf
import Derived.Test.YtdbidlnkaplekaaDoorFmt
namespace Go.Proofs.YtdbidlnkaplekaaDoor
open Go.RowKit
set_option maxRecDepth 100000
attribute [local go_sem] Oper.semAt_some
def slB : ByteArray := { data := #[47] }
/-- the text of a valid fraction -/
def fText (p : Int) (q : Nat) : ByteArray := if q = 1 then tx (Lib.itoa p) else tx (Lib.itoa p) ++ (slB ++ tx (Lib.decDigits q))
theorem run_sl (q : Nat) (hq : q ≤ 1000000000) (s : ByteArray) (hs : s.size ≤ 100) : (∀ W : World, (Op.stringOp .add slB (tx (Lib.decDigits q))).run Tryd.prog W = .ok (.string (slB ++ tx (Lib.decDigits q))) W) ∧
    (∀ W : World, (Op.stringOp .add s (slB ++ tx (Lib.decDigits q))).run Tryd.prog W = .ok (.string (s ++ (slB ++ tx (Lib.decDigits q)))) W) := by
  have h1 := dd_len (n := q) (by omega)
  have e : slB.size = 1 := rfl
  refine ⟨fun W => run_string_add W _ _ (by omega) (by rw [tx_size]; omega), fun W => run_string_add W _ _ (by omega) (by rw [ByteArray.size_append, tx_size]; omega)⟩
section
variable (w : World)
theorem ift_f (p q : Int) (h : ¬ Fr.VF p q) :
    Calls Tryd.prog 57 #[.agg #[.int .i64 p, .int .i64 q]] w fun r w' => r = .returned (.string ⟨#[]⟩) ∧ Below w.heap.size w w' := by
  have hV := Lib.hid (fun W => Fr.vf_any W p q)
  rw [decide_eq_false h] at hV
  clear h
  go_enter Tryd.func57, Tryd.ntmps57
  go_wp2_with fail
  refine (hV.out _).mono ?_
  rintro r1 w1 ⟨rfl, hb1⟩
  go_wp2
  go_ret
  exact ⟨rfl, by (repeat (first | exact Below.refl _ _ | assumption | refine bchain (by assumption) ?_ | refine balloc ?_ _ | apply Below.drew | apply below_drewN | (refine Below.alloc ?_ (by (try simp) <;> omega) _) | (refine Below.setCell ?_ (by (try simp) <;> omega) _)))⟩
set_option maxHeartbeats 1000000 in
theorem ift_t (p : Int) (q : Nat) (hP : TabP w) (h : Fr.VF p q) :
    Calls Tryd.prog 57 #[.agg #[.int .i64 p, .int .i64 q]] w fun r w' => r = .returned (.string (fText p q)) ∧ Below w.heap.size w w' := by
  have hV := Lib.hid (fun W => Fr.vf_any W p q)
  rw [decide_eq_true h] at hV
  obtain ⟨hq1, hq2, hp1, hp2, _⟩ := h
  have hF := Lib.hid (fun W (h2 : Below w.heap.size w W) => fmt_int W p (by omega) (by omega) (hP.below h2))
  have hG := Lib.hid (fun W (h2 : Below w.heap.size w W) => fmt_any W q (by omega) (hP.below h2))
  obtain ⟨x1, x2⟩ := run_sl q (by omega) (tx (Lib.itoa p)) (by rw [tx_size]; have := itoa_len (n := p) (by omega) (by omega); omega)
  obtain ⟨W0, hW0⟩ : ∃ W0, W0 = w.alloc (.cells #[.int .i64 p, .int .i64 (q : Int)] 53) := ⟨_, rfl⟩
  have hB0 : Below w.heap.size w W0 := by rw [hW0]; (repeat (first | exact Below.refl _ _ | assumption | refine bchain (by assumption) ?_ | refine balloc ?_ _ | apply Below.drew | apply below_drewN | (refine Below.alloc ?_ (by (try simp) <;> omega) _) | (refine Below.setCell ?_ (by (try simp) <;> omega) _)))
  have hz0 : w.heap.size < W0.heap.size := by rw [hW0]; simp
  have hbx : Hid (∀ W, Below W0.heap.size W0 W → W.cell? ⟨w.heap.size, 0, none⟩ = some (.int .i64 p) ∧ W.cell? ⟨w.heap.size, 1, none⟩ = some (.int .i64 (q : Int))) := fun W h => by
    refine ⟨(h.cell (p := ⟨w.heap.size, 0, none⟩) hz0).trans ?_, (h.cell (p := ⟨w.heap.size, 1, none⟩) hz0).trans ?_⟩ <;> (rw [hW0, World.cell?_alloc_new]; rfl)
  replace hW0 := Lib.hid hW0
  obtain ⟨s2, hs2⟩ : ∃ s2, fText p q = s2 := ⟨_, rfl⟩
  rw [hs2]
  unfold fText at hs2
  obtain ⟨A, hA⟩ : ∃ A, tx (Lib.itoa p) = A := ⟨_, rfl⟩
  obtain ⟨B, hB⟩ : ∃ B, tx (Lib.decDigits q) = B := ⟨_, rfl⟩
  rw [hA] at hF x2 hs2
  rw [hB] at hG x1 x2 hs2
  have hsp : slB = { data := #[47] } := rfl
  rw [hsp] at x1 x2 hs2
  clear hA hB hsp hP
  obtain ⟨y0, y1⟩ := hbx.out W0 (Below.refl _ _)
  by_cases c : q = 1
  · rw [if_pos c] at hs2
    subst hs2
    have e3 : ((q : Int) != 1) = false := by simp; omega
    have e4 : ((q : Int) == 1) = true := by simp; omega
    clear c
    go_enter Tryd.func57, Tryd.ntmps57
    go_wp2_with fail
    rw [← hW0.out]
    go_wp2_with fail
    refine (hV.out _).mono ?_
    rintro r1 w1 ⟨rfl, hb1⟩
    clear y0 y1
    obtain ⟨y0, y1⟩ := hbx.out w1 hb1
    go_wp2_with fail
    refine (hF.out _ (bchain hb1 hB0)).mono ?_
    rintro r2 w2 ⟨rfl, hb2⟩
    clear y0 y1
    obtain ⟨y0, y1⟩ := hbx.out w2 (bchain hb2 hb1)
    go_wp2
    go_ret
    exact ⟨rfl, bchain (bchain hb2 hb1) hB0⟩
  · rw [if_neg c] at hs2
    subst hs2
    have e3 : ((q : Int) != 1) = true := by simp; omega
    have e4 : ((q : Int) == 1) = false := by simp; omega
    clear c
    go_enter Tryd.func57, Tryd.ntmps57
    go_wp2_with fail
    rw [← hW0.out]
    go_wp2_with fail
    refine (hV.out _).mono ?_
    rintro r1 w1 ⟨rfl, hb1⟩
    clear y0 y1
    obtain ⟨y0, y1⟩ := hbx.out w1 hb1
    go_wp2_with fail
    refine (hF.out _ (bchain hb1 hB0)).mono ?_
    rintro r2 w2 ⟨rfl, hb2⟩
    clear y0 y1
    have hb3 := bchain hb2 hb1
    obtain ⟨y0, y1⟩ := hbx.out w2 hb3
    go_wp2_with fail
    refine (hG.out _ (bchain hb3 hB0)).mono ?_
    rintro r4 w4 ⟨rfl, hb4⟩
    go_wp2
    go_ret
    exact ⟨rfl, bchain (bchain hb4 hb3) hB0⟩
theorem sabs_any (p : Int) (h : -9223372036854775808 < p) (h2 : p < 9223372036854775808) :
    Calls Tryd.prog 52 #[.int .i64 p] w fun r w' => r = .returned (.int .i64 (p.natAbs : Nat)) ∧ Below w.heap.size w w' := by
  by_cases c : p < 0
  · have e : -p = ((p.natAbs : Nat) : Int) := by omega
    have e2 : IntKind.i64.wrap (-p) = -p := IntWalk.i64_in _ (by omega)
    rw [← e]
    clear e
    go_enter Tryd.func52, Tryd.ntmps52
    go_wp2
    go_ret
    exact ⟨rfl, by (repeat (first | exact Below.refl _ _ | assumption | refine bchain (by assumption) ?_ | refine balloc ?_ _ | apply Below.drew | apply below_drewN | (refine Below.alloc ?_ (by (try simp) <;> omega) _) | (refine Below.setCell ?_ (by (try simp) <;> omega) _)))⟩
  · have e : p = ((p.natAbs : Nat) : Int) := by omega
    obtain ⟨k, hk⟩ : ∃ k : Nat, p = k := ⟨_, e⟩
    subst hk
    have hk2 : ((k : Int).natAbs : Nat) = k := by omega
    rw [hk2]
    clear e hk2
    go_enter Tryd.func52, Tryd.ntmps52
    go_wp2
    go_ret
    exact ⟨rfl, by (repeat (first | exact Below.refl _ _ | assumption | refine bchain (by assumption) ?_ | refine balloc ?_ _ | apply Below.drew | apply below_drewN | (refine Below.alloc ?_ (by (try simp) <;> omega) _) | (refine Below.setCell ?_ (by (try simp) <;> omega) _)))⟩
theorem itoa_abs (p : Int) : Lib.itoa p = if p < 0 then 45 :: Lib.decDigits p.natAbs else Lib.decDigits p.natAbs := by
  unfold Lib.itoa
  by_cases c : p < 0
  · rw [if_pos c, if_pos c]
  · rw [if_neg c, if_neg c]
    congr 1
    omega
theorem sft_f (p q : Int) (h : ¬ Fr.VF p q) :
    Calls Tryd.prog 36 #[.agg #[.int .i64 p, .int .i64 q]] w fun r w' => r = .returned (.string ⟨#[]⟩) ∧ Below w.heap.size w w' := by
  have hV := Lib.hid (fun W => Fr.ok_any W p q)
  rw [decide_eq_false h] at hV
  clear h
  go_enter Tryd.func36, Tryd.ntmps36
  go_wp2_with fail
  refine (hV.out _).mono ?_
  rintro r1 w1 ⟨rfl, hb1⟩
  go_wp2
  go_ret
  exact ⟨rfl, by (repeat (first | exact Below.refl _ _ | assumption | refine bchain (by assumption) ?_ | refine balloc ?_ _ | apply Below.drew | apply below_drewN | (refine Below.alloc ?_ (by (try simp) <;> omega) _) | (refine Below.setCell ?_ (by (try simp) <;> omega) _)))⟩
set_option maxHeartbeats 1000000 in
theorem sft_t (p : Int) (q : Nat) (h : Fr.VF p q) :
    Calls Tryd.prog 36 #[.agg #[.int .i64 p, .int .i64 q]] w fun r w' => r = .returned (.string (fText p q)) ∧ Below w.heap.size w w' := by
  have hV := Lib.hid (fun W => Fr.ok_any W p q)
  rw [decide_eq_true h] at hV
  obtain ⟨hq1, hq2, hp1, hp2, _⟩ := h
  have hab : p.natAbs ≤ 1000000000 := by omega
  have hS := Lib.hid (fun W => sabs_any W p (by omega) (by omega))
  have hF := Lib.hid (fun W => dec_any 10 W p.natAbs (by omega) (by omega))
  have hG := Lib.hid (fun W => dec_any 10 W q (by omega) (by omega))
  obtain ⟨x1, x2⟩ := run_sl q (by omega) (tx (Lib.itoa p)) (by rw [tx_size]; have := itoa_len (n := p) (by omega) (by omega); omega)
  have hmi : ∀ W : World, (Op.stringOp .add { data := #[45] } (tx (Lib.decDigits p.natAbs))).run Tryd.prog W = .ok (.string ({ data := #[45] } ++ tx (Lib.decDigits p.natAbs))) W := fun W =>
    run_string_add W _ _ (by show ((1 : Nat) : Int) ≤ _; omega) (by rw [tx_size]; have := dd_len (n := p.natAbs) (by omega); omega)
  have hit : tx (Lib.itoa p) = if p < 0 then { data := #[45] } ++ tx (Lib.decDigits p.natAbs) else tx (Lib.decDigits p.natAbs) := by
    rw [itoa_abs]
    by_cases c : p < 0
    · rw [if_pos c, if_pos c]
      exact (tx_app [45] _).symm
    · rw [if_neg c, if_neg c]
  obtain ⟨W0, hW0⟩ : ∃ W0, W0 = w.alloc (.cells #[.int .i64 p, .int .i64 (q : Int)] 53) := ⟨_, rfl⟩
  have hB0 : Below w.heap.size w W0 := by rw [hW0]; (repeat (first | exact Below.refl _ _ | assumption | refine bchain (by assumption) ?_ | refine balloc ?_ _ | apply Below.drew | apply below_drewN | (refine Below.alloc ?_ (by (try simp) <;> omega) _) | (refine Below.setCell ?_ (by (try simp) <;> omega) _)))
  have hz0 : w.heap.size < W0.heap.size := by rw [hW0]; simp
  have hbx : Hid (∀ W, Below W0.heap.size W0 W → W.cell? ⟨w.heap.size, 0, none⟩ = some (.int .i64 p) ∧ W.cell? ⟨w.heap.size, 1, none⟩ = some (.int .i64 (q : Int))) := fun W h => by
    refine ⟨(h.cell (p := ⟨w.heap.size, 0, none⟩) hz0).trans ?_, (h.cell (p := ⟨w.heap.size, 1, none⟩) hz0).trans ?_⟩ <;> (rw [hW0, World.cell?_alloc_new]; rfl)
  replace hW0 := Lib.hid hW0
  obtain ⟨s2, hs2⟩ : ∃ s2, fText p q = s2 := ⟨_, rfl⟩
  rw [hs2]
  unfold fText at hs2
  obtain ⟨N, hN⟩ : ∃ N, p.natAbs = N := ⟨_, rfl⟩
  rw [hN] at hS hF hmi hit
  obtain ⟨A, hA⟩ : ∃ A, tx (Lib.itoa p) = A := ⟨_, rfl⟩
  obtain ⟨B, hB⟩ : ∃ B, tx (Lib.decDigits q) = B := ⟨_, rfl⟩
  obtain ⟨D, hD⟩ : ∃ D, tx (Lib.decDigits N) = D := ⟨_, rfl⟩
  rw [hA] at x2 hs2 hit
  rw [hB] at hG x1 x2 hs2
  rw [hD] at hF hmi hit
  have hsp : slB = { data := #[47] } := rfl
  rw [hsp] at x1 x2 hs2
  clear hA hB hsp hD hN hab
  obtain ⟨y0, y1⟩ := hbx.out W0 (Below.refl _ _)
  by_cases hneg : p < 0
  all_goals
    first | rw [if_pos hneg] at hit | rw [if_neg hneg] at hit
    by_cases c : q = 1
  all_goals
    first | rw [if_pos c] at hs2 | rw [if_neg c] at hs2
    subst hs2
    have e3 : ((q : Int) != 1) = !decide (q = 1) := by
      rw [Bool.eq_iff_iff]; simp; omega
  all_goals
    first | rw [decide_eq_true c] at e3 | rw [decide_eq_false c] at e3
    replace c := Lib.hid c
    subst hit
    go_enter Tryd.func36, Tryd.ntmps36
    go_wp2_with fail
    rw [← hW0.out]
    go_wp2_with fail
    refine (hV.out _).mono ?_
    rintro r1 w1 ⟨rfl, hb1⟩
    clear y0 y1
    obtain ⟨y0, y1⟩ := hbx.out w1 hb1
    go_wp2_with fail
    refine (hS.out _).mono ?_
    rintro r2 w2 ⟨rfl, hb2⟩
    have hb3 := bchain hb2 hb1
    clear y0 y1
    obtain ⟨y0, y1⟩ := hbx.out w2 hb3
    go_wp2_with fail
    refine (hF.out _).mono ?_
    rintro r4 w4 ⟨rfl, hb4⟩
    have hb5 := bchain hb4 hb3
    clear y0 y1
    obtain ⟨y0, y1⟩ := hbx.out w4 hb5
    first
      | (go_wp2
         go_ret
         exact ⟨rfl, bchain hb5 hB0⟩)
      | (go_wp2_with fail
         refine (hG.out _).mono ?_
         rintro r6 w6 ⟨rfl, hb6⟩
         go_wp2
         go_ret
         exact ⟨rfl, bchain (bchain hb6 hb5) hB0⟩)
end
end Go.Proofs.YtdbidlnkaplekaaDoor
