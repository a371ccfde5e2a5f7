/-
  THE TEXT OF A DEED: the program's and the model's contracts.
-/
import Derived.Test.YtdbidlnkaplekaaDoorDv
import Derived.Test.YtdbidlnkaplekaaDoorFmt
namespace Go.Proofs.YtdbidlnkaplekaaDoor
open Go.RowKit
set_option maxRecDepth 100000
attribute [local go_sem] Oper.semAt_some
def spB : ByteArray := { data := #[32] }
/-- a text with one more number -/
def dNum (s : ByteArray) (n : Nat) : ByteArray := s ++ (spB ++ tx (Lib.decDigits n))
def dText (k a b : Nat) : ByteArray :=
  let s1 := if 0 < wdN k then dNum (wdB k) a else wdB k
  if 1 < wdN k then dNum s1 b else s1
theorem wdB_size : ∀ k, k < 8 → (wdB k).size ≤ 7 := by decide
theorem dNum_size (s : ByteArray) (n : Nat) (h : n < 1000) : (dNum s n).size ≤ s.size + 21 := by
  unfold dNum
  rw [ByteArray.size_append, ByteArray.size_append, tx_size]
  have := dd_len (n := n) (by omega)
  have e : spB.size = 1 := rfl
  omega
theorem run_num (s : ByteArray) (n : Nat) (h : n < 1000) (hs : s.size ≤ 100) : (∀ W : World, (Op.stringOp .add spB (tx (Lib.decDigits n))).run Tryd.prog W = .ok (.string (spB ++ tx (Lib.decDigits n))) W) ∧
    (∀ W : World, (Op.stringOp .add s (spB ++ tx (Lib.decDigits n))).run Tryd.prog W = .ok (.string (dNum s n)) W) := by
  have h1 := dd_len (n := n) (by omega)
  have e : spB.size = 1 := rfl
  refine ⟨fun W => run_string_add W _ _ (by omega) (by rw [tx_size]; omega), fun W => run_string_add W _ _ (by omega) (by rw [ByteArray.size_append, tx_size]; omega)⟩
section
variable (w : World)
theorem idt_f (k a b : Int) (hw : Words w) (h : ¬ VD k a b) :
    Calls Tryd.prog 20 #[.agg #[.int .i64 k, .int .i64 a, .int .i64 b]] w fun r w' => r = .returned (.string ⟨#[]⟩) ∧ Below w.heap.size w w' := by
  have hV := Lib.hid (fun W (h2 : Below w.heap.size w W) => ivd_any W k a b (hw.below h2))
  rw [decide_eq_false h] at hV
  clear hw h
  go_enter Tryd.func20, Tryd.ntmps20
  go_wp2_with fail
  refine (hV.out _ (by (repeat (first | exact Below.refl _ _ | assumption | refine bchain (by assumption) ?_ | refine balloc ?_ _ | apply Below.drew | apply below_drewN | (refine Below.alloc ?_ (by (try simp) <;> omega) _) | (refine Below.setCell ?_ (by (try simp) <;> omega) _))))).mono ?_
  rintro r1 w1 ⟨rfl, hb1⟩
  go_wp2
  go_ret
  exact ⟨rfl, by (repeat (first | exact Below.refl _ _ | assumption | refine bchain (by assumption) ?_ | refine balloc ?_ _ | apply Below.drew | apply below_drewN | (refine Below.alloc ?_ (by (try simp) <;> omega) _) | (refine Below.setCell ?_ (by (try simp) <;> omega) _)))⟩
set_option maxHeartbeats 2000000 in
theorem idt_t (k a b : Nat) (hw : Words w) (hP : TabP w) (h : VD k a b) :
    Calls Tryd.prog 20 #[.agg #[.int .i64 k, .int .i64 a, .int .i64 b]] w fun r w' => r = .returned (.string (dText k a b)) ∧ Below w.heap.size w w' := by
  have hV := Lib.hid (fun W (h2 : Below w.heap.size w W) => ivd_any W k a b (hw.below h2))
  rw [decide_eq_true h] at hV
  obtain ⟨hk1, hk7, _, ha, _, hb, _, _⟩ := h
  have hF := Lib.hid (fun W n (hn : n < 1000) (h2 : Below w.heap.size w W) => fmt_any W n (by omega) (hP.below h2))
  have hcw := Lib.hid (fun W (h2 : Below w.heap.size w W) => (⟨(hw.below h2).s k (by omega), (hw.below h2).n k (by omega)⟩ : W.cell? ⟨0, k * 2, none⟩ = some (.string (wdB k)) ∧ W.cell? ⟨0, k * 2 + 1, none⟩ = some (.int .i64 (wdN k))))
  have hm := wdN_b k (by omega)
  have hsz := wdB_size k (by omega)
  have hk8 : (k : Int) < 8 := by omega
  have hk0 : (0 : Int) ≤ (k : Int) := by omega
  have ix0 : ∀ W : World, (Instr.index 66 (.agg #[.int .i64 (a : Int), .int .i64 (b : Int)]) (.int .i64 0)).run Tryd.prog W = .ok (.int .i64 (a : Int)) W := fun _ => by kernel_rfl
  have ix1 : ∀ W : World, (Instr.index 66 (.agg #[.int .i64 (a : Int), .int .i64 (b : Int)]) (.int .i64 1)).run Tryd.prog W = .ok (.int .i64 (b : Int)) W := fun _ => by kernel_rfl
  obtain ⟨s1, hs1⟩ : ∃ s1, (if 0 < wdN k then dNum (wdB k) a else wdB k) = s1 := ⟨_, rfl⟩
  obtain ⟨s2, hs2⟩ : ∃ s2, (if 1 < wdN k then dNum s1 b else s1) = s2 := ⟨_, rfl⟩
  have hd : dText k a b = s2 := by
    unfold dText
    simp only
    rw [hs1, hs2]
  rw [hd]
  have hs1z : s1.size ≤ 28 := by
    rw [← hs1]
    split
    · have := dNum_size (wdB k) a (by omega); omega
    · omega
  have hr1 := run_num (wdB k) a (by omega) (by omega)
  have hr2 := run_num s1 b (by omega) (by omega)
  obtain ⟨s0, hs0⟩ : ∃ s0, wdB k = s0 := ⟨_, rfl⟩
  obtain ⟨m, hm2⟩ : ∃ m, wdN k = m := ⟨_, rfl⟩
  rw [hs0] at hcw hs1 hr1
  rw [hm2] at hcw hs1 hs2 hm
  have hA := Lib.hid (fun W (h2 : Below w.heap.size w W) => hF.out W a (by omega) h2)
  have hB := Lib.hid (fun W (h2 : Below w.heap.size w W) => hF.out W b (by omega) h2)
  obtain ⟨A, hAe⟩ : ∃ A, tx (Lib.decDigits a) = A := ⟨_, rfl⟩
  obtain ⟨B, hBe⟩ : ∃ B, tx (Lib.decDigits b) = B := ⟨_, rfl⟩
  rw [hAe] at hA hr1
  rw [hBe] at hB hr2
  obtain ⟨x1, x2⟩ := hr1
  obtain ⟨x3, x4⟩ := hr2
  obtain ⟨t1, ht1⟩ : ∃ t1, dNum s0 a = t1 := ⟨_, rfl⟩
  obtain ⟨t2, ht2⟩ : ∃ t2, dNum s1 b = t2 := ⟨_, rfl⟩
  rw [ht1] at x2 hs1
  rw [ht2] at x4 hs2
  have hsp : spB = { data := #[32] } := rfl
  rw [hsp] at x1 x2 x3 x4
  replace hs1 := Lib.hid hs1
  replace hs2 := Lib.hid hs2
  clear hd hs0 hm2 hAe hBe ht1 ht2 hsp hF hw hP hs1z hsz
  obtain ⟨W0, hW0⟩ : ∃ W0, W0 = w.alloc (.cells #[.int .i64 (k : Int), .int .i64 (a : Int), .int .i64 (b : Int)] 23) := ⟨_, rfl⟩
  have hB0 : Below w.heap.size w W0 := by rw [hW0]; (repeat (first | exact Below.refl _ _ | assumption | refine bchain (by assumption) ?_ | refine balloc ?_ _ | apply Below.drew | apply below_drewN | (refine Below.alloc ?_ (by (try simp) <;> omega) _) | (refine Below.setCell ?_ (by (try simp) <;> omega) _)))
  have hz0 : w.heap.size < W0.heap.size := by rw [hW0]; simp
  have hbx : Hid (∀ W, Below W0.heap.size W0 W → W.cell? ⟨w.heap.size, 0, none⟩ = some (.int .i64 (k : Int)) ∧ W.cell? ⟨w.heap.size, 1, none⟩ = some (.int .i64 (a : Int)) ∧ W.cell? ⟨w.heap.size, 2, none⟩ = some (.int .i64 (b : Int))) := fun W h => by
    refine ⟨(h.cell (p := ⟨w.heap.size, 0, none⟩) hz0).trans ?_, (h.cell (p := ⟨w.heap.size, 1, none⟩) hz0).trans ?_, (h.cell (p := ⟨w.heap.size, 2, none⟩) hz0).trans ?_⟩ <;> (rw [hW0, World.cell?_alloc_new]; rfl)
  replace hW0 := Lib.hid hW0
  obtain ⟨y0, y1, y2⟩ := hbx.out W0 (Below.refl _ _)
  go_enter Tryd.func20, Tryd.ntmps20
  go_wp2_with fail
  rw [← hW0.out]
  go_wp2_with fail
  refine (hV.out _ hB0).mono ?_
  rintro r1 w1 ⟨rfl, hb1⟩
  clear y0 y1 y2
  obtain ⟨y0, y1, y2⟩ := hbx.out w1 hb1
  have hB1 : Below w.heap.size w w1 := bchain hb1 hB0
  obtain ⟨z0, z1⟩ := hcw.out w1 hB1
  go_wp2
  go_loopw [3, 19] (fun t i wr => Below W0.heap.size W0 wr ∧ ((i = .int .i64 0 ∧ t = .string s0) ∨ (i = .int .i64 1 ∧ t = .string s1) ∨ (i = .int .i64 2 ∧ t = .string s2))) (fun _ i _ => 2 - (intOf i).toNat)
  case atStart => exact ⟨hb1, .inl ⟨rfl, rfl⟩⟩
  case round =>
    clear y0 y1 y2 z0 z1 hb1 hB1
    obtain ⟨hb2, hrel⟩ := hrel
    obtain ⟨y0, y1, y2⟩ := hbx.out wr hb2
    obtain ⟨z0, z1⟩ := hcw.out wr (bchain hb2 hB0)
    rcases hrel with ⟨rfl, rfl⟩ | ⟨rfl, rfl⟩ | ⟨rfl, rfl⟩
    · by_cases p : 0 < m
      · have e : t1 = s1 := by have := hs1.out; rwa [if_pos p] at this
        subst e
        go_wp2_with (go_at_call 33; refine (hA.out _ (bchain hb2 hB0)).mono ?_; rintro r4 w4 ⟨rfl, hb4⟩)
        have hb5 := bchain hb4 hb2
        go_roundw
        case rel => exact ⟨bchain hb4 hb2, .inr (.inl ⟨by go_num, rfl⟩)⟩
        case measure => simp [intOf]
      · have e : s0 = s1 := by have := hs1.out; rwa [if_neg p] at this
        subst e
        go_wp2
        go_roundw
        case rel => exact ⟨hb2, .inr (.inl ⟨by go_num, rfl⟩)⟩
        case measure => simp [intOf]
    · by_cases p : 1 < m
      · have e : t2 = s2 := by have := hs2.out; rwa [if_pos p] at this
        subst e
        go_wp2_with (go_at_call 33; refine (hB.out _ (bchain hb2 hB0)).mono ?_; rintro r4 w4 ⟨rfl, hb4⟩)
        have hb5 := bchain hb4 hb2
        go_roundw
        case rel => exact ⟨bchain hb4 hb2, .inr (.inr ⟨by go_num, rfl⟩)⟩
        case measure => simp [intOf]
      · have e : s1 = s2 := by have := hs2.out; rwa [if_neg p] at this
        subst e
        go_wp2
        go_roundw
        case rel => exact ⟨hb2, .inr (.inr ⟨by go_num, rfl⟩)⟩
        case measure => simp [intOf]
    · go_wp2
      go_ret
      exact ⟨rfl, bchain hb2 hB0⟩
end
end Go.Proofs.YtdbidlnkaplekaaDoor
