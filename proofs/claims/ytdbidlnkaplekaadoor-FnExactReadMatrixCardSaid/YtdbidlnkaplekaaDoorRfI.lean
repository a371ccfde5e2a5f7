/-
  ReadFraction: the program's contract.
-/
import Derived.Test.YtdbidlnkaplekaaDoorTf
import Derived.Test.YtdbidlnkaplekaaDoorPi
namespace Go.Proofs.YtdbidlnkaplekaaDoor
open Go.RowKit
set_option maxRecDepth 100000
attribute [local go_sem] Oper.semAt_some
/-- the bytes of a fraction's text -/
def fTL (p : Int) (q : Nat) : List UInt8 := if q = 1 then Lib.itoa p else Lib.itoa p ++ 47 :: Lib.decDigits q
theorem fText_tx (p : Int) (q : Nat) : fText p q = tx (fTL p q) := by
  unfold fText fTL
  split
  · rfl
  · show tx _ ++ (tx [47] ++ tx _) = _
    rw [tx_app, tx_app]; rfl
/-- what is read off a text: either it is a valid fraction's, or it is no valid fraction's -/
def RdF (l : List UInt8) (p q c : Int) : Prop :=
  (c = 0 ∧ Fr.VF p q ∧ ∃ q' : Nat, q = q' ∧ l = fTL p q') ∨ (c = 5 ∧ p = 0 ∧ q = 0 ∧ ∀ (p : Int) (q : Nat), Fr.VF p q → l ≠ fTL p q)
/-- a fraction's box -/
structure FxB (W : World) (B : Nat) (p q : Int) : Prop where
  lt : B < W.heap.size
  c0 : W.cell? ⟨B, 0, none⟩ = some (.int .i64 p)
  c1 : W.cell? ⟨B, 1, none⟩ = some (.int .i64 q)
  fz : ∀ o, W.frozen? ⟨B, o, none⟩ = false
theorem FxB.below {W W' : World} {B : Nat} {p q : Int} (h : FxB W B p q) (hb : Below W.heap.size W W') : FxB W' B p q :=
  ⟨Nat.lt_of_lt_of_le h.lt hb.size, (hb.cell (p := ⟨B, 0, none⟩) h.lt).trans h.c0, (hb.cell (p := ⟨B, 1, none⟩) h.lt).trans h.c1, fun o => (hb.frozen (p := ⟨B, o, none⟩) h.lt).trans (h.fz o)⟩
theorem FxB.put {W : World} {B : Nat} {p q : Int} (h : FxB W B p q) (p' q' : Int) : FxB ((W.setCell ⟨B, 0, none⟩ (.int .i64 p')).setCell ⟨B, 1, none⟩ (.int .i64 q')) B p' q' :=
  ⟨by simpa using h.lt, (World.cell?_setCell_other _ _ _ _ (by simp)).trans (World.cell?_setCell_same _ _ _ h.c0), World.cell?_setCell_same _ _ _ ((World.cell?_setCell_other _ _ _ _ (by simp)).trans h.c1), fun o => by simp [h.fz o]⟩
theorem FxB.made (W : World) (p q : Int) (t : TypeId) : FxB (W.alloc (.cells #[.int .i64 p, .int .i64 q] t)) W.heap.size p q :=
  ⟨by simp, by rw [World.cell?_alloc_new]; rfl, by rw [World.cell?_alloc_new]; rfl, fun o => by simp⟩
/-- what the program parses of a valid fraction's text -/
theorem rd_first {p : Int} {q : Nat} (h : Fr.VF p q) : Lib.parseIntB 64 (Lib.cut (fTL p q) [47]).1 = .ok p ∧ Lib.parseIntB 64 (if (Lib.cut (fTL p q) [47]).2.2 = true then (Lib.cut (fTL p q) [47]).2.1 else [49]) = .ok (q : Int) := by
  obtain ⟨h1, h2, h3, h4, _⟩ := h
  have hno := itoa_no p 47 (by decide)
  unfold fTL
  by_cases c : q = 1
  · subst c
    rw [if_pos rfl, cut_not _ _ hno]
    refine ⟨parse_itoa p (by omega) (by omega), ?_⟩
    have := parse_dec 1 (by omega)
    rw [dd_lt (by omega)] at this
    exact this
  · rw [if_neg c, cut_at _ _ _ hno]
    exact ⟨parse_itoa p (by omega) (by omega), parse_dec q (by omega)⟩
theorem ift_all (W : World) (p q : Int) (hT : TabP W) : Calls Tryd.prog 57 #[.agg #[.int .i64 p, .int .i64 q]] W fun r w' => r = .returned (.string (if Fr.VF p q then fText p q.toNat else ⟨#[]⟩)) ∧ Below W.heap.size W w' := by
  by_cases h : Fr.VF p q
  · rw [if_pos h]
    obtain ⟨q', rfl⟩ : ∃ n : Nat, q = n := ⟨q.toNat, by have := h.1; omega⟩
    exact ift_t W p q' hT h
  · rw [if_neg h]
    exact ift_f W p q h
theorem fTL_ne (p : Int) (q : Nat) : fTL p q ≠ [] := by
  have h : Lib.itoa p ≠ [] := by
    unfold Lib.itoa
    split
    · simp
    · exact dec_ne _
  unfold fTL
  split
  · exact h
  · simp
section
variable (w : World)
set_option maxHeartbeats 2000000 in
theorem ird_any (l : List UInt8) (hl : l.length ≤ 2000000) (hL : LibW w) :
    Calls Tryd.prog 41 #[.string (tx l)] w fun r w' => (∃ p q c, r = .returned (.tuple #[.agg #[.int .i64 p, .int .i64 q], .int .i64 c]) ∧ RdF l p q c) ∧ Below w.heap.size w w' := by
  have hC := Lib.hid (fun W (h : Below w.heap.size w W) => cut_any W l 47 hl (hL.below h))
  obtain ⟨x, hx⟩ : ∃ x, (Lib.cut l [47]).1 = x := ⟨_, rfl⟩
  obtain ⟨y, hy⟩ : ∃ y, (Lib.cut l [47]).2.1 = y := ⟨_, rfl⟩
  obtain ⟨b, hb⟩ : ∃ b, (Lib.cut l [47]).2.2 = b := ⟨_, rfl⟩
  have hxl : x.length ≤ 2000000 ∧ y.length ≤ 2000000 := by
    rw [← hx, ← hy]
    unfold Lib.cut
    split
    · simp; omega
    · simp; omega
  have hrd := Lib.hid (fun (p : Int) (q : Nat) (h : Fr.VF p q) (e : l = fTL p q) => show Lib.parseIntB 64 x = .ok p ∧ Lib.parseIntB 64 (if b = true then y else [49]) = .ok (q : Int) by
    have := rd_first h
    rw [← e, hx, hy, hb] at this
    exact this)
  rw [hx, hy, hb] at hC
  have hP1 := Lib.hid (fun W (h : Below w.heap.size w W) => pi_any W x hxl.1 (hL.below h))
  obtain ⟨z, hz⟩ : ∃ z, (if b = true then y else [49]) = z := ⟨_, rfl⟩
  have hP2 := Lib.hid (fun W (h : Below w.heap.size w W) => pi_any W z (by rw [← hz]; split; exact hxl.2; simp) (hL.below h))
  rw [hz] at hrd
  have hT := Lib.hid (fun W (h : Below w.heap.size w W) p q => ift_all W p q (hL.tb.below h))
  have e47 : ({ data := #[47] } : ByteArray) = tx [47] := rfl
  have e49 : ({ data := #[49] } : ByteArray) = tx [49] := rfl
  have htl : (tx l).toList = l := ByteArray.toList_mk l
  have hbad1 := Lib.hid (fun (h : ∀ v, Lib.parseIntB 64 x ≠ .ok v) => show RdF l 0 0 5 from .inr ⟨rfl, rfl, rfl, fun p q hv e => h p (hrd.out p q hv e).1⟩)
  have hbad2 := Lib.hid (fun (h : ∀ v, Lib.parseIntB 64 z ≠ .ok v) => show RdF l 0 0 5 from .inr ⟨rfl, rfl, rfl, fun p q hv e => h q (hrd.out p q hv e).2⟩)
  have hfb0 := FxB.made w 0 0 53
  have hB0 : Below w.heap.size w (w.alloc (.cells #[.int .i64 0, .int .i64 0] 53)) := by (repeat (first | exact Below.refl _ _ | assumption | refine bchain (by assumption) ?_ | refine balloc ?_ _ | apply Below.drew | apply below_drewN | (refine Below.alloc ?_ (by (try simp) <;> omega) _) | (refine Below.setCell ?_ (by (try simp) <;> omega) _)))
  obtain ⟨W0, hW0⟩ : ∃ W0, W0 = w.alloc (.cells #[.int .i64 0, .int .i64 0] 53) := ⟨_, rfl⟩
  rw [← hW0] at hfb0 hB0
  replace hW0 := Lib.hid hW0
  have hx0 := Lib.hid (fun (c : l = []) => show x = [] by rw [← hx, c]; rfl)
  replace htl := Lib.hid htl
  obtain ⟨s, hs⟩ : ∃ s, tx l = s := ⟨_, rfl⟩
  rw [hs] at hC ⊢
  replace hs := Lib.hid hs
  clear hL hx hy hb
  have hfb0' := Lib.hid hfb0
  clear hfb0
  go_enter Tryd.func41, Tryd.ntmps41
  rw [e47, e49]
  go_wp2_with fail
  rw [← hW0.out]
  go_wp2_with fail
  refine (hC.out _ hB0).mono ?_
  rintro r1 w1 ⟨rfl, hb1⟩
  have hfb1 := Lib.hid (hfb0'.out.below hb1)
  have hB1 := bchain hb1 hB0
  clear hb1
  cases b
  all_goals
    simp only [Bool.false_eq_true, if_false, if_true] at hz
    subst hz
    go_wp2_with fail
    refine (hP1.out _ hB1).mono ?_
    rintro r2 w2 ⟨⟨v, ev, rfl, hpr⟩, hb2⟩
    have hfb2 := hfb1.out.below hb2
    have hB2 := bchain hb2 hB1
    clear hb2
    rcases hpr with ⟨rfl, hok⟩ | ⟨⟨t, p0, rfl⟩, hno⟩
    rotate_left
    · have hR := Lib.hid (hbad1.out hno)
      have hf' := Lib.hid hfb2
      obtain ⟨_, k0, k1, k2⟩ := hfb2
      clear hno
      go_wp2
      have hF := hf'.out.put 0 0
      have hBB := (hB2.setCell (p := ⟨w.heap.size, 0, none⟩) (Nat.le_refl _) (.int .i64 0)).setCell (p := ⟨w.heap.size, 1, none⟩) (Nat.le_refl _) (.int .i64 0)
      obtain ⟨WW, hWW⟩ : ∃ WW, WW = (w2.setCell ⟨w.heap.size, 0, none⟩ (.int .i64 0)).setCell ⟨w.heap.size, 1, none⟩ (.int .i64 0) := ⟨_, rfl⟩
      rw [← hWW] at hF hBB ⊢
      clear hWW
      obtain ⟨_, hF0, hF1, _⟩ := hF
      exact bodyPost_ret (v := .tuple #[.agg #[.int .i64 0, .int .i64 0], .int .i64 5]) (by simp [results, Tryd.results41, go_sem, hF0, hF1]) rfl ⟨⟨_, _, _, rfl, hR.out⟩, hBB⟩
    replace hfb2 := Lib.hid hfb2
    replace hok := Lib.hid hok
    go_wp2_with fail
    refine (hP2.out _ hB2).mono ?_
    rintro r3 w3 ⟨⟨v2, ev2, rfl, hpr2⟩, hb3⟩
    have hfb3 := hfb2.out.below hb3
    have hB3 := bchain hb3 hB2
    clear hb3
    rcases hpr2 with ⟨rfl, hok2⟩ | ⟨⟨t, p0, rfl⟩, hno⟩
    rotate_left
    · have hR := Lib.hid (hbad2.out hno)
      have hf' := Lib.hid hfb3
      obtain ⟨_, k0, k1, k2⟩ := hfb3
      clear hno
      go_wp2
      have hF := hf'.out.put 0 0
      have hBB := (hB3.setCell (p := ⟨w.heap.size, 0, none⟩) (Nat.le_refl _) (.int .i64 0)).setCell (p := ⟨w.heap.size, 1, none⟩) (Nat.le_refl _) (.int .i64 0)
      obtain ⟨WW, hWW⟩ : ∃ WW, WW = (w3.setCell ⟨w.heap.size, 0, none⟩ (.int .i64 0)).setCell ⟨w.heap.size, 1, none⟩ (.int .i64 0) := ⟨_, rfl⟩
      rw [← hWW] at hF hBB ⊢
      clear hWW
      obtain ⟨_, hF0, hF1, _⟩ := hF
      exact bodyPost_ret (v := .tuple #[.agg #[.int .i64 0, .int .i64 0], .int .i64 5]) (by simp [results, Tryd.results41, go_sem, hF0, hF1]) rfl ⟨⟨_, _, _, rfl, hR.out⟩, hBB⟩
    replace hfb3 := Lib.hid hfb3
    replace hok2 := Lib.hid hok2
    have hlne : l ≠ [] := fun c => by
      have e1 := hx0.out c
      have e2 := hok.out
      rw [e1] at e2
      cases e2
    obtain ⟨T, hTq⟩ : ∃ T, (if Fr.VF v v2 then fText v v2.toNat else ⟨#[]⟩) = T := ⟨_, rfl⟩
    have hT2 := Lib.hid (fun W h => hT.out W h v v2)
    rw [hTq] at hT2
    have hcmp : (T.toList == s.toList) = decide (Fr.VF v v2 ∧ l = fTL v v2.toNat) := by
      rw [← hs.out, htl.out, ← hTq]
      by_cases hv : Fr.VF v v2
      · rw [if_pos hv, fText_tx, show (tx (fTL v v2.toNat)).toList = fTL v v2.toNat from ByteArray.toList_mk _, Bool.eq_iff_iff]
        exact ⟨fun h => decide_eq_true ⟨hv, (beq_iff_eq.1 h).symm⟩, fun h => beq_iff_eq.2 (of_decide_eq_true h).2.symm⟩
      · rw [if_neg hv, show (ByteArray.toList ⟨#[]⟩) = [] from ByteArray.toList_mk [], decide_eq_false (fun c => hv c.1)]
        exact beq_false_of_ne (Ne.symm hlne)
    clear hlne hTq
    have hfA := Lib.hid (FxB.made w3 v v2 53)
    by_cases hE : Fr.VF v v2 ∧ l = fTL v v2.toNat
    · rw [decide_eq_true hE] at hcmp
      have hR : Hid (RdF l v v2 0) := .inl ⟨rfl, hE.1, v2.toNat, by have := hE.1.1; omega, hE.2⟩
      clear hE
      go_wp2_with fail
      refine (hT2.out _ (balloc hB3 _)).mono ?_
      rintro r5 w5 ⟨rfl, hb5⟩
      have hf5 := hfb3.out.below (bchain hb5 (balloc (Below.refl _ _) _))
      have hB5 := bchain hb5 (balloc hB3 _)
      obtain ⟨_, a0, a1, _⟩ := hfA.out.below hb5
      have hf' := Lib.hid hf5
      obtain ⟨_, k0, k1, k2⟩ := hf5
      clear hb5
      go_wp2
      have hF := hf'.out.put v v2
      have hBB := (hB5.setCell (p := ⟨w.heap.size, 0, none⟩) (Nat.le_refl _) (.int .i64 v)).setCell (p := ⟨w.heap.size, 1, none⟩) (Nat.le_refl _) (.int .i64 v2)
      obtain ⟨WW, hWW⟩ : ∃ WW, WW = (w5.setCell ⟨w.heap.size, 0, none⟩ (.int .i64 v)).setCell ⟨w.heap.size, 1, none⟩ (.int .i64 v2) := ⟨_, rfl⟩
      rw [← hWW] at hF hBB ⊢
      clear hWW
      obtain ⟨_, hF0, hF1, _⟩ := hF
      exact bodyPost_ret (v := .tuple #[.agg #[.int .i64 v, .int .i64 v2], .int .i64 0]) (by simp [results, Tryd.results41, go_sem, hF0, hF1]) rfl ⟨⟨_, _, _, rfl, hR.out⟩, hBB⟩
    · rw [decide_eq_false hE] at hcmp
      have hR : Hid (RdF l 0 0 5) := .inr ⟨rfl, rfl, rfl, fun p q hv e => by
        obtain ⟨e1, e2⟩ := hrd.out p q hv e
        have f1 := hok.out
        have f2 := hok2.out
        rw [e1] at f1
        rw [e2] at f2
        obtain rfl := Lib.NumEnd.ok.inj f1
        obtain rfl := Lib.NumEnd.ok.inj f2
        exact hE ⟨hv, e⟩⟩
      clear hE
      go_wp2_with fail
      refine (hT2.out _ (balloc hB3 _)).mono ?_
      rintro r5 w5 ⟨rfl, hb5⟩
      have hf5 := hfb3.out.below (bchain hb5 (balloc (Below.refl _ _) _))
      have hB5 := bchain hb5 (balloc hB3 _)
      obtain ⟨_, a0, a1, _⟩ := hfA.out.below hb5
      have hf' := Lib.hid hf5
      obtain ⟨_, k0, k1, k2⟩ := hf5
      clear hb5
      go_wp2
      have hF := hf'.out.put 0 0
      have hBB := (hB5.setCell (p := ⟨w.heap.size, 0, none⟩) (Nat.le_refl _) (.int .i64 0)).setCell (p := ⟨w.heap.size, 1, none⟩) (Nat.le_refl _) (.int .i64 0)
      obtain ⟨WW, hWW⟩ : ∃ WW, WW = (w5.setCell ⟨w.heap.size, 0, none⟩ (.int .i64 0)).setCell ⟨w.heap.size, 1, none⟩ (.int .i64 0) := ⟨_, rfl⟩
      rw [← hWW] at hF hBB ⊢
      clear hWW
      obtain ⟨_, hF0, hF1, _⟩ := hF
      exact bodyPost_ret (v := .tuple #[.agg #[.int .i64 0, .int .i64 0], .int .i64 5]) (by simp [results, Tryd.results41, go_sem, hF0, hF1]) rfl ⟨⟨_, _, _, rfl, hR.out⟩, hBB⟩
end
end Go.Proofs.YtdbidlnkaplekaaDoor
