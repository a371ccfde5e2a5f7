/-
  ReadFraction: the model's contract.
-/
import Derived.Test.YtdbidlnkaplekaaDoorRfL
import Derived.Test.YtdbidlnkaplekaaDoorSw
namespace Go.Proofs.YtdbidlnkaplekaaDoor
open Go.RowKit
set_option maxRecDepth 100000
attribute [local go_sem] Oper.semAt_some
attribute [-go_sem] run_index_string run_slice_string run_slice_string_l
/-- what the model reads off a text -/
def RdS (l : List UInt8) (p q : Int) (b : Bool) : Prop :=
  (b = true → Fr.VF p q ∧ ∃ q' : Nat, q = q' ∧ l = fTL p q') ∧ ∀ (p' : Int) (q' : Nat), Fr.VF p' q' → l = fTL p' q' → p = p' ∧ q = q' ∧ b = true
theorem sft_any (W : World) (p q : Int) : Calls Tryd.prog 36 #[.agg #[.int .i64 p, .int .i64 q]] W fun r w' => r = .returned (.string (if Fr.VF p q then fText p q.toNat else ⟨#[]⟩)) ∧ Below W.heap.size W w' := by
  by_cases h : Fr.VF p q
  · rw [if_pos h]
    obtain ⟨q', rfl⟩ : ∃ n : Nat, q = n := ⟨q.toNat, by have := h.1; omega⟩
    exact sft_t W p q' h
  · rw [if_neg h]
    exact sft_f W p q h
/-- the words of a valid fraction's text -/
theorem words_f (p : Int) (q : Nat) : splA 47 [] (fTL p q) = Lib.itoa p :: (if q = 1 then [] else [Lib.decDigits q]) := by
  have hno := itoa_no p 47 (by decide)
  have hnq : ∀ c ∈ Lib.decDigits q, c ≠ 47 := fun c hc e => by
    subst e
    have := dec_dig q _ hc
    revert this
    decide
  unfold fTL
  split
  · rw [splA_not 47 _ _ hno]; rfl
  · rw [splA_at 47 _ _ _ hno, splA_not 47 _ _ hnq]; rfl
def RdSP (l : List UInt8) (r : Ending) : Prop := ∃ p q b, r = .returned (.tuple #[.agg #[.int .i64 p, .int .i64 q], .bool b]) ∧ RdS l p q b
theorem itoa_ne (p : Int) : Lib.itoa p ≠ [] := by
  unfold Lib.itoa
  split
  · simp
  · exact dec_ne _
theorem rds_of {l : List UInt8} {s : ByteArray} {P Q : Int} {one two vf eq : Bool} {T : ByteArray} (hvf : vf = decide (Fr.VF P Q)) (hT : T = if Fr.VF P Q then fText P Q.toNat else ⟨#[]⟩) (hs : s.toList = l) (heq : (T.toList == s.toList) = eq)
    (hc : ∀ (p' : Int) (q' : Nat), Fr.VF p' q' → l = fTL p' q' → P = p' ∧ Q = q' ∧ one = true ∧ two = true) : RdS l P Q (((one && two) && vf) && eq) := by
  rw [hs] at heq
  constructor
  · intro h
    simp only [Bool.and_eq_true] at h
    obtain ⟨⟨_, h1⟩, h2⟩ := h
    rw [hvf, decide_eq_true_eq] at h1
    refine ⟨h1, Q.toNat, by have := h1.1; omega, ?_⟩
    rw [← heq, hT, if_pos h1, fText_tx, show (tx (fTL P Q.toNat)).toList = _ from ByteArray.toList_mk _] at h2
    exact (eq_of_beq h2).symm
  · intro p' q' h e
    obtain ⟨rfl, rfl, rfl, rfl⟩ := hc p' q' h e
    refine ⟨rfl, rfl, ?_⟩
    rw [hvf, decide_eq_true h, ← heq, hT, if_pos h, fText_tx, show (tx (fTL P (q' : Int).toNat)).toList = _ from ByteArray.toList_mk _, e]
    simp
section
variable (w : World)
set_option maxHeartbeats 4000000 in
theorem sread_any (l : List UInt8) (hl : l.length ≤ 2000000) :
    Calls Tryd.prog 21 #[.string (tx l)] w fun r w' => RdSP l r ∧ Below w.heap.size w w' := by
  have hS : ∀ W, Calls Tryd.prog 13 #[.string (tx l), .int .u8 47] W fun r w' => (∃ v, r = .returned v ∧ WordsAt W w' v (splA 47 [] l)) ∧ Below W.heap.size W w' := fun W => sspl_any W l 47 hl
  replace hS := Lib.hid hS
  have hwl : ∀ u ∈ splA 47 [] l, u.length ≤ 2000000 := splA_len hl
  have hne := splA_ne 47 l []
  obtain ⟨t, rest, hws⟩ : ∃ t rest, splA 47 [] l = t :: rest := by
    cases h : splA 47 [] l with
    | nil => exact absurd h hne
    | cons t rest => exact ⟨t, rest, rfl⟩
  have hfin := Lib.hid (fun (p' : Int) (q' : Nat) (_h : Fr.VF p' q') (e : l = fTL p' q') => show t = Lib.itoa p' ∧ rest = (if q' = 1 then [] else [Lib.decDigits q']) by
    have h2 := words_f p' q'
    rw [← e, hws] at h2
    exact List.cons.inj h2)
  rw [hws] at hS hwl
  clear hws hne
  have htl := Lib.hid (show (tx l).toList = l from ByteArray.toList_mk l)
  obtain ⟨s, hs⟩ : ∃ s, tx l = s := ⟨_, rfl⟩
  rw [hs] at hS ⊢
  replace hs := Lib.hid hs
  have hlt := hwl t (by simp)
  have hix : ∀ h0 : 0 < t.length, ∀ W : World, (Instr.index 9 (.string (tx t)) (.int .i64 0)).run Tryd.prog W = .ok (.int .u8 (t[0].toNat : Int)) W := fun h0 W => by
    rw [run_index_string _ _ _ _ _ Tryd.underlying9, dif_pos ⟨by omega, by rw [tx_size]; omega⟩]
    rfl
  have hse : 0 < t.length → ∀ W : World, (Instr.slice 9 (.string (tx t)) (some (.int .i64 1)) none none).run Tryd.prog W = .ok (.string (tx (t.drop 1))) W := fun h0 W => by
    rw [run_slice_string_l W _ _ Tryd.underlying9 _ _ (by omega) (by rw [tx_size]; omega)]
    show Result.ok (Value.string ((ByteArray.mk t.toArray).extract _ _)) W = _
    rw [ByteArray.extract_mk, tx_size, List.take_of_length_le (by simp)]
    rfl
  replace hix := Lib.hid hix
  replace hse := Lib.hid hse
  have hst := tx_size t
  have hN := Lib.hid (fun W u (hu : u.length ≤ 2000000) => swh_any W u hu)
  have hN1 := Lib.hid (fun W => hN.out W t hlt)
  have hN2 := Lib.hid (fun W => hN.out W (t.drop 1) (by simp; omega))
  have hNu := Lib.hid (fun u (hu : u ∈ t :: rest) W => hN.out W u (hwl u hu))
  have hO := Lib.hid (fun W p q => Fr.ok_any W p q)
  have hT := Lib.hid (fun W p q => sft_any W p q)
  obtain ⟨st, hstt⟩ : ∃ st, tx t = st := ⟨_, rfl⟩
  rw [hstt] at hix hse hst hN1
  have hc0 := Lib.hid hstt
  clear hstt hN hwl
  have hfR := Lib.hid (FxB.made w 0 0 53)
  have hB0 : Below w.heap.size w (w.alloc (.cells #[.int .i64 0, .int .i64 0] 53)) := by (repeat (first | exact Below.refl _ _ | assumption | refine bchain (by assumption) ?_ | refine balloc ?_ _ | apply Below.drew | apply below_drewN | (refine Below.alloc ?_ (by (try simp) <;> omega) _) | (refine Below.setCell ?_ (by (try simp) <;> omega) _)))
  obtain ⟨W0, hW0⟩ : ∃ W0, W0 = w.alloc (.cells #[.int .i64 0, .int .i64 0] 53) := ⟨_, rfl⟩
  rw [← hW0] at hfR hB0
  replace hW0 := Lib.hid hW0
  by_cases d : 0 < t.length
  rotate_left
  · have d0 := decide_eq_false (show ¬ ((0 : Int) < (t.length : Int)) by omega)
    clear hix hse hN2
    go_enter Tryd.func21, Tryd.ntmps21
    go_wp2_with fail
    rw [← hW0.out]
    go_wp2_with fail
    refine (hS.out _).mono ?_
    rintro r1 w1 ⟨⟨v, rfl, B, cap, rfl, hB1, hB2, hcell⟩, hb1⟩
    have hfR1 := Lib.hid (hfR.out.below hb1)
    have hBl1 := bchain hb1 hB0
    have c0 := hcell 0 (by simp)
    simp only [List.getElem_cons_zero, hc0.out] at c0
    obtain ⟨L, hL⟩ : ∃ L, (t :: rest).length = L := ⟨_, rfl⟩
    rw [hL]
    have hL0 : 0 < L := by rw [← hL]; simp
    replace hL := Lib.hid hL
    replace hcell := Lib.hid hcell
    go_wp2_with fail
    refine (hN1.out _).mono ?_
    rintro r2 w2 ⟨⟨n1, b1, rfl, hR1⟩, hb2⟩
    have hn1 := hR1.1
    replace hR1 := Lib.hid hR1
    have hfR2 := hfR1.out.below hb2
    have hBl2 := bchain hb2 hBl1
    have hfA := FxB.made w2 (n1 : Int) 1 53
    have hB2' : B < w2.heap.size := Nat.lt_of_lt_of_le hB2 hb2.size
    rcases rest with _ | ⟨u, _ | ⟨u2, rest⟩⟩
    · obtain rfl : 1 = L := hL.out
      go_wp2_with fail
      replace hfA := Lib.hid hfA
      have hfR3 := Lib.hid (hfR2.below (balloc (Below.refl _ _) (.cells #[.int .i64 (n1 : Int), .int .i64 1] 53)))
      obtain ⟨W3, hW3⟩ : ∃ W3, W3 = w2.alloc (.cells #[.int .i64 (n1 : Int), .int .i64 1] 53) := ⟨_, rfl⟩
      have hBl3 : Below w.heap.size w W3 := by rw [hW3]; (repeat (first | exact Below.refl _ _ | assumption | refine bchain (by assumption) ?_ | refine balloc ?_ _ | apply Below.drew | apply below_drewN | (refine Below.alloc ?_ (by (try simp) <;> omega) _) | (refine Below.setCell ?_ (by (try simp) <;> omega) _)))
      rw [← hW3] at hfA hfR3 ⊢
      obtain ⟨A, hA⟩ : ∃ A, w2.heap.size = A := ⟨_, rfl⟩
      have hAw : w.heap.size < A := by have := hfR2.lt; omega
      rw [hA] at hfA ⊢
      clear hfR2 hB2' hW3 c0 hA
      have hcc : ∀ (p' : Int) (q' : Nat), Fr.VF p' q' → l = fTL p' q' → (n1 : Int) = p' ∧ 1 = (q' : Int) ∧ b1 = true ∧ true = true := fun p' q' hv e => by
        obtain ⟨et, er⟩ := hfin.out p' q' hv e
        have hvb := hv.2.1
        have hvc := hv.2.2.1
        have hvd := hv.1
        have hve := hv.2.2.2.1
        exfalso
        have := List.length_pos_iff.2 (show Lib.itoa p' ≠ [] from itoa_ne p')
        rw [← et] at this
        omega
      obtain ⟨T, hTT⟩ : ∃ T, T = (if Fr.VF (n1 : Int) 1 then fText (n1 : Int) (1 : Int).toNat else ⟨#[]⟩) := ⟨_, rfl⟩
      obtain ⟨vf, hvf⟩ : ∃ vf, vf = decide (Fr.VF (n1 : Int) 1) := ⟨_, rfl⟩
      have hq := rds_of (l := l) (s := s) (eq := (T.toList == s.toList)) hvf hTT (by rw [← hs.out]; exact htl.out) rfl hcc
      have hO1 := fun W => hO.out W (n1 : Int) 1
      have hT1 := fun W => hT.out W (n1 : Int) 1
      rw [← hvf] at hO1
      rw [← hTT] at hT1
      replace hq := Lib.hid hq
      clear hcc
      refine rl_any b1 true vf _ _ _ _ rfl rfl rfl T _ rfl W3 w.heap.size A w.heap.size (n1 : Int) 1 0 0 hfR3.out hfA.out (by omega) (Nat.le_refl _) hBl3.size hO1 hT1 ?_
      intro t52 t53 t54 t55 t56 t57 t58 t59 t60 t61 t62 t63 t64 t65 t66 W hF hB
      have hBW := hBl3.trans hB
      obtain ⟨_, F0, F1, _⟩ := hF
      clear hfA hfR3 hO1 hT1 hBl3 hB hfR1 hfR hcell hvf hTT
      go_wp2
      exact bodyPost_ret (v := .tuple #[.agg #[.int .i64 (n1 : Int), .int .i64 1], .bool (((b1 && true) && vf) && (T.toList == s.toList))]) (by simp [results, Tryd.results21, go_sem, F0, F1]) rfl ⟨⟨_, _, _, rfl, hq.out⟩, hBW⟩
    · obtain rfl : 2 = L := hL.out
      have c1 := hcell.out 1 (by simp)
      simp only [List.getElem_cons_succ, List.getElem_cons_zero] at c1
      have c1 := hb2.cell (p := ⟨B, 1, none⟩) hB2 |>.trans c1
      go_wp2_with fail
      refine (hNu.out u (by simp) _).mono ?_
      rintro r3 w3 ⟨⟨n2, b2, rfl, hR2⟩, hb3⟩
      have hn2 := hR2.1
      replace hR2 := Lib.hid hR2
      have hfA3 := hfA.below hb3
      have hbA : Below w2.heap.size w2 w3 := bchain hb3 (balloc (Below.refl _ _) _)
      have hfR3 := hfR2.below hbA
      have hBl3 : Below w.heap.size w w3 := bchain hbA hBl2
      obtain ⟨A, hA⟩ : ∃ A, w2.heap.size = A := ⟨_, rfl⟩
      have hAw : w.heap.size < A := by have := hfR2.lt; omega
      rw [hA] at hfA3 ⊢
      obtain ⟨hA3, a0, a1, ah⟩ := hfA3
      have ah0 := ah 0
      have ah1 := ah 1
      clear hA hfR2 hB2' c0 c1 hfA hbA
      replace hfR3 := Lib.hid hfR3
      go_wp2_with fail
      have hfA : Hid (FxB (w3.setCell ⟨A, 1, none⟩ (.int .i64 (n2 : Int))) A (n1 : Int) (n2 : Int)) := by
        exact ⟨by simpa using hA3, (World.cell?_setCell_other _ _ _ _ (by simp)).trans a0, World.cell?_setCell_same _ _ _ a1, fun o => by simp [ah o]⟩
      have hfR4 : Hid (FxB (w3.setCell ⟨A, 1, none⟩ (.int .i64 (n2 : Int))) w.heap.size 0 0) := by
        obtain ⟨q0, q1, q2, q3⟩ := hfR3.out
        have hs : (w3.setCell ⟨A, 1, none⟩ (.int .i64 (n2 : Int))).heap[w.heap.size]? = w3.heap[w.heap.size]? := Below.heap_setCell _ _ _ _ (by show w.heap.size ≠ A; omega)
        exact ⟨by simpa using q0, (World.cell?_of_block (a := ⟨w.heap.size, 0, none⟩) hs).trans q1, (World.cell?_of_block (a := ⟨w.heap.size, 1, none⟩) hs).trans q2, fun o => by simp [q3 o]⟩
      have hBl4 : Below w.heap.size w (w3.setCell ⟨A, 1, none⟩ (.int .i64 (n2 : Int))) := hBl3.setCell (p := ⟨A, 1, none⟩) (by show w.heap.size ≤ A; omega) _
      obtain ⟨W3, hW3⟩ : ∃ W3, W3 = w3.setCell ⟨A, 1, none⟩ (.int .i64 (n2 : Int)) := ⟨_, rfl⟩
      rw [← hW3] at hfA hfR4 hBl4 ⊢
      clear hfR3 hBl3 hW3 a0 a1 ah ah0 ah1
      have hfR3 := hfR4
      have hBl3 := hBl4
      have hcc : ∀ (p' : Int) (q' : Nat), Fr.VF p' q' → l = fTL p' q' → (n1 : Int) = p' ∧ (n2 : Int) = (q' : Int) ∧ b1 = true ∧ b2 = true := fun p' q' hv e => by
        obtain ⟨et, er⟩ := hfin.out p' q' hv e
        have hvb := hv.2.1
        have hvc := hv.2.2.1
        have hvd := hv.1
        have hve := hv.2.2.2.1
        exfalso
        have := List.length_pos_iff.2 (show Lib.itoa p' ≠ [] from itoa_ne p')
        rw [← et] at this
        omega
      obtain ⟨T, hTT⟩ : ∃ T, T = (if Fr.VF (n1 : Int) (n2 : Int) then fText (n1 : Int) ((n2 : Int) : Int).toNat else ⟨#[]⟩) := ⟨_, rfl⟩
      obtain ⟨vf, hvf⟩ : ∃ vf, vf = decide (Fr.VF (n1 : Int) (n2 : Int)) := ⟨_, rfl⟩
      have hq := rds_of (l := l) (s := s) (eq := (T.toList == s.toList)) hvf hTT (by rw [← hs.out]; exact htl.out) rfl hcc
      have hO1 := fun W => hO.out W (n1 : Int) (n2 : Int)
      have hT1 := fun W => hT.out W (n1 : Int) (n2 : Int)
      rw [← hvf] at hO1
      rw [← hTT] at hT1
      replace hq := Lib.hid hq
      clear hcc
      refine rl_any b1 b2 vf _ _ _ _ rfl rfl rfl T _ rfl W3 w.heap.size A w.heap.size (n1 : Int) (n2 : Int) 0 0 hfR3.out hfA.out (by omega) (Nat.le_refl _) hBl3.size hO1 hT1 ?_
      intro t52 t53 t54 t55 t56 t57 t58 t59 t60 t61 t62 t63 t64 t65 t66 W hF hB
      have hBW := hBl3.trans hB
      obtain ⟨_, F0, F1, _⟩ := hF
      clear hfA hfR3 hO1 hT1 hBl3 hB hfR1 hfR hcell hvf hTT
      go_wp2
      exact bodyPost_ret (v := .tuple #[.agg #[.int .i64 (n1 : Int), .int .i64 (n2 : Int)], .bool (((b1 && b2) && vf) && (T.toList == s.toList))]) (by simp [results, Tryd.results21, go_sem, F0, F1]) rfl ⟨⟨_, _, _, rfl, hq.out⟩, hBW⟩
    · have hLL : 3 ≤ L := by have := hL.out; simp at this; omega
      have e1 : ((L : Int) == 1) = false := by simp; omega
      have e2 : ((L : Int) == 2) = false := by simp; omega
      go_wp2_with fail
      replace hfA := Lib.hid hfA
      have hfR3 := Lib.hid (hfR2.below (balloc (Below.refl _ _) (.cells #[.int .i64 (n1 : Int), .int .i64 1] 53)))
      obtain ⟨W3, hW3⟩ : ∃ W3, W3 = w2.alloc (.cells #[.int .i64 (n1 : Int), .int .i64 1] 53) := ⟨_, rfl⟩
      have hBl3 : Below w.heap.size w W3 := by rw [hW3]; (repeat (first | exact Below.refl _ _ | assumption | refine bchain (by assumption) ?_ | refine balloc ?_ _ | apply Below.drew | apply below_drewN | (refine Below.alloc ?_ (by (try simp) <;> omega) _) | (refine Below.setCell ?_ (by (try simp) <;> omega) _)))
      rw [← hW3] at hfA hfR3 ⊢
      obtain ⟨A, hA⟩ : ∃ A, w2.heap.size = A := ⟨_, rfl⟩
      have hAw : w.heap.size < A := by have := hfR2.lt; omega
      rw [hA] at hfA ⊢
      clear hfR2 hB2' hW3 c0 hA
      have hcc : ∀ (p' : Int) (q' : Nat), Fr.VF p' q' → l = fTL p' q' → (n1 : Int) = p' ∧ 1 = (q' : Int) ∧ b1 = true ∧ false = true := fun p' q' hv e => by
        obtain ⟨et, er⟩ := hfin.out p' q' hv e
        have hvb := hv.2.1
        have hvc := hv.2.2.1
        have hvd := hv.1
        have hve := hv.2.2.2.1
        exfalso
        have := List.length_pos_iff.2 (show Lib.itoa p' ≠ [] from itoa_ne p')
        rw [← et] at this
        omega
      obtain ⟨T, hTT⟩ : ∃ T, T = (if Fr.VF (n1 : Int) 1 then fText (n1 : Int) (1 : Int).toNat else ⟨#[]⟩) := ⟨_, rfl⟩
      obtain ⟨vf, hvf⟩ : ∃ vf, vf = decide (Fr.VF (n1 : Int) 1) := ⟨_, rfl⟩
      have hq := rds_of (l := l) (s := s) (eq := (T.toList == s.toList)) hvf hTT (by rw [← hs.out]; exact htl.out) rfl hcc
      have hO1 := fun W => hO.out W (n1 : Int) 1
      have hT1 := fun W => hT.out W (n1 : Int) 1
      rw [← hvf] at hO1
      rw [← hTT] at hT1
      replace hq := Lib.hid hq
      clear hcc
      refine rl_any b1 false vf _ _ _ _ rfl rfl rfl T _ rfl W3 w.heap.size A w.heap.size (n1 : Int) 1 0 0 hfR3.out hfA.out (by omega) (Nat.le_refl _) hBl3.size hO1 hT1 ?_
      intro t52 t53 t54 t55 t56 t57 t58 t59 t60 t61 t62 t63 t64 t65 t66 W hF hB
      have hBW := hBl3.trans hB
      obtain ⟨_, F0, F1, _⟩ := hF
      clear hfA hfR3 hO1 hT1 hBl3 hB hfR1 hfR hcell hvf hTT
      go_wp2
      exact bodyPost_ret (v := .tuple #[.agg #[.int .i64 (n1 : Int), .int .i64 1], .bool (((b1 && false) && vf) && (T.toList == s.toList))]) (by simp [results, Tryd.results21, go_sem, F0, F1]) rfl ⟨⟨_, _, _, rfl, hq.out⟩, hBW⟩
  by_cases dn : t[0] = 45
  · have d0 := decide_eq_true (show (0 : Int) < (t.length : Int) by omega)
    have hx0 := hix.out d
    have hs0 := hse.out d
    clear hix hse
    have d1 : ((t[0].toNat : Int) == 45) = true := by rw [dn]; rfl
    have d2 : (t[0].toNat : Int) = 45 := by rw [dn]; rfl
    obtain ⟨tt, htt⟩ : ∃ tt, t.drop 1 = tt := ⟨_, rfl⟩
    rw [htt] at hs0 hN2
    replace htt := Lib.hid htt
    clear hN1
    obtain ⟨z, hz⟩ : ∃ z : Nat, t[0].toNat = z := ⟨_, rfl⟩
    rw [hz] at hx0 d1 d2
    replace hz := Lib.hid hz
    replace dn := Lib.hid dn
    go_enter Tryd.func21, Tryd.ntmps21
    go_wp2_with fail
    rw [← hW0.out]
    go_wp2_with fail
    refine (hS.out _).mono ?_
    rintro r1 w1 ⟨⟨v, rfl, B, cap, rfl, hB1, hB2, hcell⟩, hb1⟩
    have hfR1 := Lib.hid (hfR.out.below hb1)
    have hBl1 := bchain hb1 hB0
    have c0 := hcell 0 (by simp)
    simp only [List.getElem_cons_zero, hc0.out] at c0
    obtain ⟨L, hL⟩ : ∃ L, (t :: rest).length = L := ⟨_, rfl⟩
    rw [hL]
    have hL0 : 0 < L := by rw [← hL]; simp
    replace hL := Lib.hid hL
    replace hcell := Lib.hid hcell
    go_wp2_with fail
    refine (hN2.out _).mono ?_
    rintro r2 w2 ⟨⟨n1, b1, rfl, hR1⟩, hb2⟩
    have hn1 := hR1.1
    replace hR1 := Lib.hid hR1
    have hfR2 := hfR1.out.below hb2
    have hBl2 := bchain hb2 hBl1
    have hfA := FxB.made w2 (-(n1 : Int)) 1 53
    have hB2' : B < w2.heap.size := Nat.lt_of_lt_of_le hB2 hb2.size
    rcases rest with _ | ⟨u, _ | ⟨u2, rest⟩⟩
    · obtain rfl : 1 = L := hL.out
      go_wp2_with fail
      replace hfA := Lib.hid hfA
      have hfR3 := Lib.hid (hfR2.below (balloc (Below.refl _ _) (.cells #[.int .i64 (-(n1 : Int)), .int .i64 1] 53)))
      obtain ⟨W3, hW3⟩ : ∃ W3, W3 = w2.alloc (.cells #[.int .i64 (-(n1 : Int)), .int .i64 1] 53) := ⟨_, rfl⟩
      have hBl3 : Below w.heap.size w W3 := by rw [hW3]; (repeat (first | exact Below.refl _ _ | assumption | refine bchain (by assumption) ?_ | refine balloc ?_ _ | apply Below.drew | apply below_drewN | (refine Below.alloc ?_ (by (try simp) <;> omega) _) | (refine Below.setCell ?_ (by (try simp) <;> omega) _)))
      rw [← hW3] at hfA hfR3 ⊢
      obtain ⟨A, hA⟩ : ∃ A, w2.heap.size = A := ⟨_, rfl⟩
      have hAw : w.heap.size < A := by have := hfR2.lt; omega
      rw [hA] at hfA ⊢
      clear hfR2 hB2' hW3 c0 hA
      have hcc : ∀ (p' : Int) (q' : Nat), Fr.VF p' q' → l = fTL p' q' → (-(n1 : Int)) = p' ∧ 1 = (q' : Int) ∧ b1 = true ∧ true = true := fun p' q' hv e => by
        obtain ⟨et, er⟩ := hfin.out p' q' hv e
        have hvb := hv.2.1
        have hvc := hv.2.2.1
        have hvd := hv.1
        have hve := hv.2.2.2.1
        obtain rfl : q' = 1 := by
          by_cases h1 : q' = 1
          · exact h1
          · rw [if_neg h1] at er; cases er
        have hp : p' < 0 := by
          by_cases h : p' < 0
          · exact h
          · exfalso
            rw [itoa_abs, if_neg h] at et
            have hm := dec_dig p'.natAbs t[0] (by rw [← et]; exact List.getElem_mem _)
            rw [dn.out] at hm
            revert hm
            decide
        rw [itoa_abs, if_pos hp] at et
        obtain ⟨h4, h5⟩ := hR1.out.2 p'.natAbs (by omega) (by rw [← htt.out, et]; rfl)
        exact ⟨by omega, rfl, h5, rfl⟩
      obtain ⟨T, hTT⟩ : ∃ T, T = (if Fr.VF (-(n1 : Int)) 1 then fText (-(n1 : Int)) (1 : Int).toNat else ⟨#[]⟩) := ⟨_, rfl⟩
      obtain ⟨vf, hvf⟩ : ∃ vf, vf = decide (Fr.VF (-(n1 : Int)) 1) := ⟨_, rfl⟩
      have hq := rds_of (l := l) (s := s) (eq := (T.toList == s.toList)) hvf hTT (by rw [← hs.out]; exact htl.out) rfl hcc
      have hO1 := fun W => hO.out W (-(n1 : Int)) 1
      have hT1 := fun W => hT.out W (-(n1 : Int)) 1
      rw [← hvf] at hO1
      rw [← hTT] at hT1
      replace hq := Lib.hid hq
      clear hcc
      refine rl_any b1 true vf _ _ _ _ rfl rfl rfl T _ rfl W3 w.heap.size A w.heap.size (-(n1 : Int)) 1 0 0 hfR3.out hfA.out (by omega) (Nat.le_refl _) hBl3.size hO1 hT1 ?_
      intro t52 t53 t54 t55 t56 t57 t58 t59 t60 t61 t62 t63 t64 t65 t66 W hF hB
      have hBW := hBl3.trans hB
      obtain ⟨_, F0, F1, _⟩ := hF
      clear hfA hfR3 hO1 hT1 hBl3 hB hfR1 hfR hcell hvf hTT
      go_wp2
      exact bodyPost_ret (v := .tuple #[.agg #[.int .i64 (-(n1 : Int)), .int .i64 1], .bool (((b1 && true) && vf) && (T.toList == s.toList))]) (by simp [results, Tryd.results21, go_sem, F0, F1]) rfl ⟨⟨_, _, _, rfl, hq.out⟩, hBW⟩
    · obtain rfl : 2 = L := hL.out
      have c1 := hcell.out 1 (by simp)
      simp only [List.getElem_cons_succ, List.getElem_cons_zero] at c1
      have c1 := hb2.cell (p := ⟨B, 1, none⟩) hB2 |>.trans c1
      go_wp2_with fail
      refine (hNu.out u (by simp) _).mono ?_
      rintro r3 w3 ⟨⟨n2, b2, rfl, hR2⟩, hb3⟩
      have hn2 := hR2.1
      replace hR2 := Lib.hid hR2
      have hfA3 := hfA.below hb3
      have hbA : Below w2.heap.size w2 w3 := bchain hb3 (balloc (Below.refl _ _) _)
      have hfR3 := hfR2.below hbA
      have hBl3 : Below w.heap.size w w3 := bchain hbA hBl2
      obtain ⟨A, hA⟩ : ∃ A, w2.heap.size = A := ⟨_, rfl⟩
      have hAw : w.heap.size < A := by have := hfR2.lt; omega
      rw [hA] at hfA3 ⊢
      obtain ⟨hA3, a0, a1, ah⟩ := hfA3
      have ah0 := ah 0
      have ah1 := ah 1
      clear hA hfR2 hB2' c0 c1 hfA hbA
      replace hfR3 := Lib.hid hfR3
      go_wp2_with fail
      have hfA : Hid (FxB (w3.setCell ⟨A, 1, none⟩ (.int .i64 (n2 : Int))) A (-(n1 : Int)) (n2 : Int)) := by
        exact ⟨by simpa using hA3, (World.cell?_setCell_other _ _ _ _ (by simp)).trans a0, World.cell?_setCell_same _ _ _ a1, fun o => by simp [ah o]⟩
      have hfR4 : Hid (FxB (w3.setCell ⟨A, 1, none⟩ (.int .i64 (n2 : Int))) w.heap.size 0 0) := by
        obtain ⟨q0, q1, q2, q3⟩ := hfR3.out
        have hs : (w3.setCell ⟨A, 1, none⟩ (.int .i64 (n2 : Int))).heap[w.heap.size]? = w3.heap[w.heap.size]? := Below.heap_setCell _ _ _ _ (by show w.heap.size ≠ A; omega)
        exact ⟨by simpa using q0, (World.cell?_of_block (a := ⟨w.heap.size, 0, none⟩) hs).trans q1, (World.cell?_of_block (a := ⟨w.heap.size, 1, none⟩) hs).trans q2, fun o => by simp [q3 o]⟩
      have hBl4 : Below w.heap.size w (w3.setCell ⟨A, 1, none⟩ (.int .i64 (n2 : Int))) := hBl3.setCell (p := ⟨A, 1, none⟩) (by show w.heap.size ≤ A; omega) _
      obtain ⟨W3, hW3⟩ : ∃ W3, W3 = w3.setCell ⟨A, 1, none⟩ (.int .i64 (n2 : Int)) := ⟨_, rfl⟩
      rw [← hW3] at hfA hfR4 hBl4 ⊢
      clear hfR3 hBl3 hW3 a0 a1 ah ah0 ah1
      have hfR3 := hfR4
      have hBl3 := hBl4
      have hcc : ∀ (p' : Int) (q' : Nat), Fr.VF p' q' → l = fTL p' q' → (-(n1 : Int)) = p' ∧ (n2 : Int) = (q' : Int) ∧ b1 = true ∧ b2 = true := fun p' q' hv e => by
        obtain ⟨et, er⟩ := hfin.out p' q' hv e
        have hvb := hv.2.1
        have hvc := hv.2.2.1
        have hvd := hv.1
        have hve := hv.2.2.2.1
        have h1 : q' ≠ 1 := fun h1 => by rw [if_pos h1] at er; cases er
        rw [if_neg h1] at er
        obtain ⟨h2, h3⟩ := hR2.out.2 q' (by omega) (List.cons.inj er).1
        have hp : p' < 0 := by
          by_cases h : p' < 0
          · exact h
          · exfalso
            rw [itoa_abs, if_neg h] at et
            have hm := dec_dig p'.natAbs t[0] (by rw [← et]; exact List.getElem_mem _)
            rw [dn.out] at hm
            revert hm
            decide
        rw [itoa_abs, if_pos hp] at et
        obtain ⟨h4, h5⟩ := hR1.out.2 p'.natAbs (by omega) (by rw [← htt.out, et]; rfl)
        exact ⟨by omega, by omega, h5, h3⟩
      obtain ⟨T, hTT⟩ : ∃ T, T = (if Fr.VF (-(n1 : Int)) (n2 : Int) then fText (-(n1 : Int)) ((n2 : Int) : Int).toNat else ⟨#[]⟩) := ⟨_, rfl⟩
      obtain ⟨vf, hvf⟩ : ∃ vf, vf = decide (Fr.VF (-(n1 : Int)) (n2 : Int)) := ⟨_, rfl⟩
      have hq := rds_of (l := l) (s := s) (eq := (T.toList == s.toList)) hvf hTT (by rw [← hs.out]; exact htl.out) rfl hcc
      have hO1 := fun W => hO.out W (-(n1 : Int)) (n2 : Int)
      have hT1 := fun W => hT.out W (-(n1 : Int)) (n2 : Int)
      rw [← hvf] at hO1
      rw [← hTT] at hT1
      replace hq := Lib.hid hq
      clear hcc
      refine rl_any b1 b2 vf _ _ _ _ rfl rfl rfl T _ rfl W3 w.heap.size A w.heap.size (-(n1 : Int)) (n2 : Int) 0 0 hfR3.out hfA.out (by omega) (Nat.le_refl _) hBl3.size hO1 hT1 ?_
      intro t52 t53 t54 t55 t56 t57 t58 t59 t60 t61 t62 t63 t64 t65 t66 W hF hB
      have hBW := hBl3.trans hB
      obtain ⟨_, F0, F1, _⟩ := hF
      clear hfA hfR3 hO1 hT1 hBl3 hB hfR1 hfR hcell hvf hTT
      go_wp2
      exact bodyPost_ret (v := .tuple #[.agg #[.int .i64 (-(n1 : Int)), .int .i64 (n2 : Int)], .bool (((b1 && b2) && vf) && (T.toList == s.toList))]) (by simp [results, Tryd.results21, go_sem, F0, F1]) rfl ⟨⟨_, _, _, rfl, hq.out⟩, hBW⟩
    · have hLL : 3 ≤ L := by have := hL.out; simp at this; omega
      have e1 : ((L : Int) == 1) = false := by simp; omega
      have e2 : ((L : Int) == 2) = false := by simp; omega
      go_wp2_with fail
      replace hfA := Lib.hid hfA
      have hfR3 := Lib.hid (hfR2.below (balloc (Below.refl _ _) (.cells #[.int .i64 (-(n1 : Int)), .int .i64 1] 53)))
      obtain ⟨W3, hW3⟩ : ∃ W3, W3 = w2.alloc (.cells #[.int .i64 (-(n1 : Int)), .int .i64 1] 53) := ⟨_, rfl⟩
      have hBl3 : Below w.heap.size w W3 := by rw [hW3]; (repeat (first | exact Below.refl _ _ | assumption | refine bchain (by assumption) ?_ | refine balloc ?_ _ | apply Below.drew | apply below_drewN | (refine Below.alloc ?_ (by (try simp) <;> omega) _) | (refine Below.setCell ?_ (by (try simp) <;> omega) _)))
      rw [← hW3] at hfA hfR3 ⊢
      obtain ⟨A, hA⟩ : ∃ A, w2.heap.size = A := ⟨_, rfl⟩
      have hAw : w.heap.size < A := by have := hfR2.lt; omega
      rw [hA] at hfA ⊢
      clear hfR2 hB2' hW3 c0 hA
      have hcc : ∀ (p' : Int) (q' : Nat), Fr.VF p' q' → l = fTL p' q' → (-(n1 : Int)) = p' ∧ 1 = (q' : Int) ∧ b1 = true ∧ false = true := fun p' q' hv e => by
        obtain ⟨et, er⟩ := hfin.out p' q' hv e
        have hvb := hv.2.1
        have hvc := hv.2.2.1
        have hvd := hv.1
        have hve := hv.2.2.2.1
        exfalso
        split at er
        · cases er
        · cases er
      obtain ⟨T, hTT⟩ : ∃ T, T = (if Fr.VF (-(n1 : Int)) 1 then fText (-(n1 : Int)) (1 : Int).toNat else ⟨#[]⟩) := ⟨_, rfl⟩
      obtain ⟨vf, hvf⟩ : ∃ vf, vf = decide (Fr.VF (-(n1 : Int)) 1) := ⟨_, rfl⟩
      have hq := rds_of (l := l) (s := s) (eq := (T.toList == s.toList)) hvf hTT (by rw [← hs.out]; exact htl.out) rfl hcc
      have hO1 := fun W => hO.out W (-(n1 : Int)) 1
      have hT1 := fun W => hT.out W (-(n1 : Int)) 1
      rw [← hvf] at hO1
      rw [← hTT] at hT1
      replace hq := Lib.hid hq
      clear hcc
      refine rl_any b1 false vf _ _ _ _ rfl rfl rfl T _ rfl W3 w.heap.size A w.heap.size (-(n1 : Int)) 1 0 0 hfR3.out hfA.out (by omega) (Nat.le_refl _) hBl3.size hO1 hT1 ?_
      intro t52 t53 t54 t55 t56 t57 t58 t59 t60 t61 t62 t63 t64 t65 t66 W hF hB
      have hBW := hBl3.trans hB
      obtain ⟨_, F0, F1, _⟩ := hF
      clear hfA hfR3 hO1 hT1 hBl3 hB hfR1 hfR hcell hvf hTT
      go_wp2
      exact bodyPost_ret (v := .tuple #[.agg #[.int .i64 (-(n1 : Int)), .int .i64 1], .bool (((b1 && false) && vf) && (T.toList == s.toList))]) (by simp [results, Tryd.results21, go_sem, F0, F1]) rfl ⟨⟨_, _, _, rfl, hq.out⟩, hBW⟩
  · have d0 := decide_eq_true (show (0 : Int) < (t.length : Int) by omega)
    have hx0 := hix.out d
    have hs0 := hse.out d
    clear hix hse
    have d1 : ((t[0].toNat : Int) == 45) = false := by
      rw [Bool.eq_false_iff]
      intro hh
      have hh := eq_of_beq hh
      exact dn (UInt8.toNat_inj.1 (by show t[0].toNat = 45; omega))
    clear hN2 hs0
    obtain ⟨z, hz⟩ : ∃ z : Nat, t[0].toNat = z := ⟨_, rfl⟩
    rw [hz] at hx0 d1
    replace hz := Lib.hid hz
    replace dn := Lib.hid dn
    go_enter Tryd.func21, Tryd.ntmps21
    go_wp2_with fail
    rw [← hW0.out]
    go_wp2_with fail
    refine (hS.out _).mono ?_
    rintro r1 w1 ⟨⟨v, rfl, B, cap, rfl, hB1, hB2, hcell⟩, hb1⟩
    have hfR1 := Lib.hid (hfR.out.below hb1)
    have hBl1 := bchain hb1 hB0
    have c0 := hcell 0 (by simp)
    simp only [List.getElem_cons_zero, hc0.out] at c0
    obtain ⟨L, hL⟩ : ∃ L, (t :: rest).length = L := ⟨_, rfl⟩
    rw [hL]
    have hL0 : 0 < L := by rw [← hL]; simp
    replace hL := Lib.hid hL
    replace hcell := Lib.hid hcell
    go_wp2_with fail
    refine (hN1.out _).mono ?_
    rintro r2 w2 ⟨⟨n1, b1, rfl, hR1⟩, hb2⟩
    have hn1 := hR1.1
    replace hR1 := Lib.hid hR1
    have hfR2 := hfR1.out.below hb2
    have hBl2 := bchain hb2 hBl1
    have hfA := FxB.made w2 (n1 : Int) 1 53
    have hB2' : B < w2.heap.size := Nat.lt_of_lt_of_le hB2 hb2.size
    rcases rest with _ | ⟨u, _ | ⟨u2, rest⟩⟩
    · obtain rfl : 1 = L := hL.out
      go_wp2_with fail
      replace hfA := Lib.hid hfA
      have hfR3 := Lib.hid (hfR2.below (balloc (Below.refl _ _) (.cells #[.int .i64 (n1 : Int), .int .i64 1] 53)))
      obtain ⟨W3, hW3⟩ : ∃ W3, W3 = w2.alloc (.cells #[.int .i64 (n1 : Int), .int .i64 1] 53) := ⟨_, rfl⟩
      have hBl3 : Below w.heap.size w W3 := by rw [hW3]; (repeat (first | exact Below.refl _ _ | assumption | refine bchain (by assumption) ?_ | refine balloc ?_ _ | apply Below.drew | apply below_drewN | (refine Below.alloc ?_ (by (try simp) <;> omega) _) | (refine Below.setCell ?_ (by (try simp) <;> omega) _)))
      rw [← hW3] at hfA hfR3 ⊢
      obtain ⟨A, hA⟩ : ∃ A, w2.heap.size = A := ⟨_, rfl⟩
      have hAw : w.heap.size < A := by have := hfR2.lt; omega
      rw [hA] at hfA ⊢
      clear hfR2 hB2' hW3 c0 hA
      have hcc : ∀ (p' : Int) (q' : Nat), Fr.VF p' q' → l = fTL p' q' → (n1 : Int) = p' ∧ 1 = (q' : Int) ∧ b1 = true ∧ true = true := fun p' q' hv e => by
        obtain ⟨et, er⟩ := hfin.out p' q' hv e
        have hvb := hv.2.1
        have hvc := hv.2.2.1
        have hvd := hv.1
        have hve := hv.2.2.2.1
        obtain rfl : q' = 1 := by
          by_cases h1 : q' = 1
          · exact h1
          · rw [if_neg h1] at er; cases er
        have hp : 0 ≤ p' := by
          by_cases h : p' < 0
          · exfalso
            rw [itoa_abs, if_pos h] at et
            exact dn.out (by subst et; rfl)
          · omega
        rw [itoa_abs, if_neg (by omega)] at et
        obtain ⟨h4, h5⟩ := hR1.out.2 p'.natAbs (by omega) et
        exact ⟨by omega, rfl, h5, rfl⟩
      obtain ⟨T, hTT⟩ : ∃ T, T = (if Fr.VF (n1 : Int) 1 then fText (n1 : Int) (1 : Int).toNat else ⟨#[]⟩) := ⟨_, rfl⟩
      obtain ⟨vf, hvf⟩ : ∃ vf, vf = decide (Fr.VF (n1 : Int) 1) := ⟨_, rfl⟩
      have hq := rds_of (l := l) (s := s) (eq := (T.toList == s.toList)) hvf hTT (by rw [← hs.out]; exact htl.out) rfl hcc
      have hO1 := fun W => hO.out W (n1 : Int) 1
      have hT1 := fun W => hT.out W (n1 : Int) 1
      rw [← hvf] at hO1
      rw [← hTT] at hT1
      replace hq := Lib.hid hq
      clear hcc
      refine rl_any b1 true vf _ _ _ _ rfl rfl rfl T _ rfl W3 w.heap.size A w.heap.size (n1 : Int) 1 0 0 hfR3.out hfA.out (by omega) (Nat.le_refl _) hBl3.size hO1 hT1 ?_
      intro t52 t53 t54 t55 t56 t57 t58 t59 t60 t61 t62 t63 t64 t65 t66 W hF hB
      have hBW := hBl3.trans hB
      obtain ⟨_, F0, F1, _⟩ := hF
      clear hfA hfR3 hO1 hT1 hBl3 hB hfR1 hfR hcell hvf hTT
      go_wp2
      exact bodyPost_ret (v := .tuple #[.agg #[.int .i64 (n1 : Int), .int .i64 1], .bool (((b1 && true) && vf) && (T.toList == s.toList))]) (by simp [results, Tryd.results21, go_sem, F0, F1]) rfl ⟨⟨_, _, _, rfl, hq.out⟩, hBW⟩
    · obtain rfl : 2 = L := hL.out
      have c1 := hcell.out 1 (by simp)
      simp only [List.getElem_cons_succ, List.getElem_cons_zero] at c1
      have c1 := hb2.cell (p := ⟨B, 1, none⟩) hB2 |>.trans c1
      go_wp2_with fail
      refine (hNu.out u (by simp) _).mono ?_
      rintro r3 w3 ⟨⟨n2, b2, rfl, hR2⟩, hb3⟩
      have hn2 := hR2.1
      replace hR2 := Lib.hid hR2
      have hfA3 := hfA.below hb3
      have hbA : Below w2.heap.size w2 w3 := bchain hb3 (balloc (Below.refl _ _) _)
      have hfR3 := hfR2.below hbA
      have hBl3 : Below w.heap.size w w3 := bchain hbA hBl2
      obtain ⟨A, hA⟩ : ∃ A, w2.heap.size = A := ⟨_, rfl⟩
      have hAw : w.heap.size < A := by have := hfR2.lt; omega
      rw [hA] at hfA3 ⊢
      obtain ⟨hA3, a0, a1, ah⟩ := hfA3
      have ah0 := ah 0
      have ah1 := ah 1
      clear hA hfR2 hB2' c0 c1 hfA hbA
      replace hfR3 := Lib.hid hfR3
      go_wp2_with fail
      have hfA : Hid (FxB (w3.setCell ⟨A, 1, none⟩ (.int .i64 (n2 : Int))) A (n1 : Int) (n2 : Int)) := by
        exact ⟨by simpa using hA3, (World.cell?_setCell_other _ _ _ _ (by simp)).trans a0, World.cell?_setCell_same _ _ _ a1, fun o => by simp [ah o]⟩
      have hfR4 : Hid (FxB (w3.setCell ⟨A, 1, none⟩ (.int .i64 (n2 : Int))) w.heap.size 0 0) := by
        obtain ⟨q0, q1, q2, q3⟩ := hfR3.out
        have hs : (w3.setCell ⟨A, 1, none⟩ (.int .i64 (n2 : Int))).heap[w.heap.size]? = w3.heap[w.heap.size]? := Below.heap_setCell _ _ _ _ (by show w.heap.size ≠ A; omega)
        exact ⟨by simpa using q0, (World.cell?_of_block (a := ⟨w.heap.size, 0, none⟩) hs).trans q1, (World.cell?_of_block (a := ⟨w.heap.size, 1, none⟩) hs).trans q2, fun o => by simp [q3 o]⟩
      have hBl4 : Below w.heap.size w (w3.setCell ⟨A, 1, none⟩ (.int .i64 (n2 : Int))) := hBl3.setCell (p := ⟨A, 1, none⟩) (by show w.heap.size ≤ A; omega) _
      obtain ⟨W3, hW3⟩ : ∃ W3, W3 = w3.setCell ⟨A, 1, none⟩ (.int .i64 (n2 : Int)) := ⟨_, rfl⟩
      rw [← hW3] at hfA hfR4 hBl4 ⊢
      clear hfR3 hBl3 hW3 a0 a1 ah ah0 ah1
      have hfR3 := hfR4
      have hBl3 := hBl4
      have hcc : ∀ (p' : Int) (q' : Nat), Fr.VF p' q' → l = fTL p' q' → (n1 : Int) = p' ∧ (n2 : Int) = (q' : Int) ∧ b1 = true ∧ b2 = true := fun p' q' hv e => by
        obtain ⟨et, er⟩ := hfin.out p' q' hv e
        have hvb := hv.2.1
        have hvc := hv.2.2.1
        have hvd := hv.1
        have hve := hv.2.2.2.1
        have h1 : q' ≠ 1 := fun h1 => by rw [if_pos h1] at er; cases er
        rw [if_neg h1] at er
        obtain ⟨h2, h3⟩ := hR2.out.2 q' (by omega) (List.cons.inj er).1
        have hp : 0 ≤ p' := by
          by_cases h : p' < 0
          · exfalso
            rw [itoa_abs, if_pos h] at et
            exact dn.out (by subst et; rfl)
          · omega
        rw [itoa_abs, if_neg (by omega)] at et
        obtain ⟨h4, h5⟩ := hR1.out.2 p'.natAbs (by omega) et
        exact ⟨by omega, by omega, h5, h3⟩
      obtain ⟨T, hTT⟩ : ∃ T, T = (if Fr.VF (n1 : Int) (n2 : Int) then fText (n1 : Int) ((n2 : Int) : Int).toNat else ⟨#[]⟩) := ⟨_, rfl⟩
      obtain ⟨vf, hvf⟩ : ∃ vf, vf = decide (Fr.VF (n1 : Int) (n2 : Int)) := ⟨_, rfl⟩
      have hq := rds_of (l := l) (s := s) (eq := (T.toList == s.toList)) hvf hTT (by rw [← hs.out]; exact htl.out) rfl hcc
      have hO1 := fun W => hO.out W (n1 : Int) (n2 : Int)
      have hT1 := fun W => hT.out W (n1 : Int) (n2 : Int)
      rw [← hvf] at hO1
      rw [← hTT] at hT1
      replace hq := Lib.hid hq
      clear hcc
      refine rl_any b1 b2 vf _ _ _ _ rfl rfl rfl T _ rfl W3 w.heap.size A w.heap.size (n1 : Int) (n2 : Int) 0 0 hfR3.out hfA.out (by omega) (Nat.le_refl _) hBl3.size hO1 hT1 ?_
      intro t52 t53 t54 t55 t56 t57 t58 t59 t60 t61 t62 t63 t64 t65 t66 W hF hB
      have hBW := hBl3.trans hB
      obtain ⟨_, F0, F1, _⟩ := hF
      clear hfA hfR3 hO1 hT1 hBl3 hB hfR1 hfR hcell hvf hTT
      go_wp2
      exact bodyPost_ret (v := .tuple #[.agg #[.int .i64 (n1 : Int), .int .i64 (n2 : Int)], .bool (((b1 && b2) && vf) && (T.toList == s.toList))]) (by simp [results, Tryd.results21, go_sem, F0, F1]) rfl ⟨⟨_, _, _, rfl, hq.out⟩, hBW⟩
    · have hLL : 3 ≤ L := by have := hL.out; simp at this; omega
      have e1 : ((L : Int) == 1) = false := by simp; omega
      have e2 : ((L : Int) == 2) = false := by simp; omega
      go_wp2_with fail
      replace hfA := Lib.hid hfA
      have hfR3 := Lib.hid (hfR2.below (balloc (Below.refl _ _) (.cells #[.int .i64 (n1 : Int), .int .i64 1] 53)))
      obtain ⟨W3, hW3⟩ : ∃ W3, W3 = w2.alloc (.cells #[.int .i64 (n1 : Int), .int .i64 1] 53) := ⟨_, rfl⟩
      have hBl3 : Below w.heap.size w W3 := by rw [hW3]; (repeat (first | exact Below.refl _ _ | assumption | refine bchain (by assumption) ?_ | refine balloc ?_ _ | apply Below.drew | apply below_drewN | (refine Below.alloc ?_ (by (try simp) <;> omega) _) | (refine Below.setCell ?_ (by (try simp) <;> omega) _)))
      rw [← hW3] at hfA hfR3 ⊢
      obtain ⟨A, hA⟩ : ∃ A, w2.heap.size = A := ⟨_, rfl⟩
      have hAw : w.heap.size < A := by have := hfR2.lt; omega
      rw [hA] at hfA ⊢
      clear hfR2 hB2' hW3 c0 hA
      have hcc : ∀ (p' : Int) (q' : Nat), Fr.VF p' q' → l = fTL p' q' → (n1 : Int) = p' ∧ 1 = (q' : Int) ∧ b1 = true ∧ false = true := fun p' q' hv e => by
        obtain ⟨et, er⟩ := hfin.out p' q' hv e
        have hvb := hv.2.1
        have hvc := hv.2.2.1
        have hvd := hv.1
        have hve := hv.2.2.2.1
        exfalso
        split at er
        · cases er
        · cases er
      obtain ⟨T, hTT⟩ : ∃ T, T = (if Fr.VF (n1 : Int) 1 then fText (n1 : Int) (1 : Int).toNat else ⟨#[]⟩) := ⟨_, rfl⟩
      obtain ⟨vf, hvf⟩ : ∃ vf, vf = decide (Fr.VF (n1 : Int) 1) := ⟨_, rfl⟩
      have hq := rds_of (l := l) (s := s) (eq := (T.toList == s.toList)) hvf hTT (by rw [← hs.out]; exact htl.out) rfl hcc
      have hO1 := fun W => hO.out W (n1 : Int) 1
      have hT1 := fun W => hT.out W (n1 : Int) 1
      rw [← hvf] at hO1
      rw [← hTT] at hT1
      replace hq := Lib.hid hq
      clear hcc
      refine rl_any b1 false vf _ _ _ _ rfl rfl rfl T _ rfl W3 w.heap.size A w.heap.size (n1 : Int) 1 0 0 hfR3.out hfA.out (by omega) (Nat.le_refl _) hBl3.size hO1 hT1 ?_
      intro t52 t53 t54 t55 t56 t57 t58 t59 t60 t61 t62 t63 t64 t65 t66 W hF hB
      have hBW := hBl3.trans hB
      obtain ⟨_, F0, F1, _⟩ := hF
      clear hfA hfR3 hO1 hT1 hBl3 hB hfR1 hfR hcell hvf hTT
      go_wp2
      exact bodyPost_ret (v := .tuple #[.agg #[.int .i64 (n1 : Int), .int .i64 1], .bool (((b1 && false) && vf) && (T.toList == s.toList))]) (by simp [results, Tryd.results21, go_sem, F0, F1]) rfl ⟨⟨_, _, _, rfl, hq.out⟩, hBW⟩
end
end Go.Proofs.YtdbidlnkaplekaaDoor
