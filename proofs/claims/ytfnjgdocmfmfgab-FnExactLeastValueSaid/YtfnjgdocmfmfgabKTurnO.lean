/-
  A FLAG WITH ITS UNLABELLED VERTICES IN EVERY ORDER: what the program's iterator yields, for loops whose rounds make and change memory.
-/
import Derived.Test.YtfnjgdocmfmfgabKOwn
import Derived.Test.YtfnjgdocmfmfgabKTurns
namespace Go.Proofs.Ytfnjgdocmfmfgab
open Go.RowKit Go.Shelf
set_option maxRecDepth 100000

/-- what the closure promises the iterator -/
def RoundsO (Y Fb B : Nat) (L : List (List Nat)) (J : List (List Nat) → World → Prop) : Prop :=
  ∀ pre x rest v W1, L = pre ++ x :: rest → J pre W1 → B < W1.heap.size → SlI W1 v (zl x) → Calls Try.prog 83 #[v, .pointer (some ⟨Y, 0, none⟩), .pointer (some ⟨Fb, 0, none⟩)] W1 fun e W' =>
    e = .returned (.bool true) ∧ J (pre ++ [x]) W' ∧ W1.heap.size ≤ W'.heap.size ∧ W'.heap[B]? = W1.heap[B]?

set_option maxHeartbeats 1000000 in
theorem llo_zero (n k B Y Fb : Nat) (hk : k ≤ 5) (L : List (List Nat)) (J : List (List Nat) → World → Prop) (hY : RoundsO Y Fb B L J)
    (p : List Nat) (pre rest : List (List Nat)) (W : World) (hp : p.length = k) (hL : L = pre ++ [p] ++ rest) (h0 : J pre W) (hM : LMem W B k p) :
    Calls Try.prog 81 #[.int .i64 n, .int .i64 k, .slice (some ⟨B, 0, none⟩) k k, .func (.func 83) #[] #[.pointer (some ⟨Y, 0, none⟩), .pointer (some ⟨Fb, 0, none⟩)]] W fun e W' =>
      e = .returned (.bool true) ∧ J (pre ++ [p]) W' ∧ LMem W' B k p := by
  have hR := hY pre p rest _ W (by rw [hL]; simp) h0 hM.lt (hM.sl (by omega))
  rw [hp] at hR
  replace hR := Lib.hid hR
  replace hM := Lib.hid hM
  clear hL h0 hp hY
  go_enter Try.func81, Try.ntmps81
  go_wp2_with (go_at_call 83; refine (hR.out).mono ?_; rintro e w1 ⟨rfl, hJ1, hz1, hu1⟩)
  go_ret
  exact ⟨rfl, hJ1, hM.out.block hz1 hu1⟩

set_option maxHeartbeats 4000000 in
theorem llo_in (n k B Y Fb : Nat) (hn : n ≤ 5) (hk : k ≤ 5) (L : List (List Nat)) (J : List (List Nat) → World → Prop) (hJ : ∀ s A A', J s A → Chg (fun b => b = B) A A' → J s A') (hY : RoundsO Y Fb B L J) (m : Nat) :
    ∀ (p : List Nat) (pl : Nat) (pre rest : List (List Nat)) (W : World), p.length = pl → pl + m = k → L = pre ++ ext n m p ++ rest → J pre W → LMem W B k p →
    Calls Try.prog 81 #[.int .i64 n, .int .i64 k, .slice (some ⟨B, 0, none⟩) pl k, .func (.func 83) #[] #[.pointer (some ⟨Y, 0, none⟩), .pointer (some ⟨Fb, 0, none⟩)]] W fun e W' =>
      e = .returned (.bool true) ∧ J (pre ++ ext n m p) W' ∧ LMem W' B k p := by
  induction m with
  | zero =>
    intro p pl pre rest W hpl hp hL h0 hM
    obtain rfl : pl = k := hp
    exact llo_zero n pl B Y Fb hk L J hY p pre rest W hpl hL h0 hM
  | succ m ih =>
    intro p pl pre rest W hpl hp hL h0 hM
    obtain ⟨i0, hi0, hs0⟩ := info_i64s
    have hlt : pl < k := by omega
    have hne : ((pl : Int) == (k : Int)) = false := by simp; omega
    replace hY := Lib.hid hY
    replace ih := Lib.hid ih
    replace hL := Lib.hid hL
    replace hJ := Lib.hid hJ
    replace hM := Lib.hid hM
    replace h0 := Lib.hid h0
    replace hpl := Lib.hid hpl
    replace hp := Lib.hid hp
    replace hi0 := Lib.hid hi0
    replace hs0 := Lib.hid hs0
    go_enter Try.func81, Try.ntmps81
    go_wp2
    go_loopw [9, 18] (fun _ c wr => ∃ j : Nat, j ≤ n ∧ c = .int .i64 j ∧ J (pre ++ extTo n m p j) wr ∧ LMem wr B k p) (fun _ c _ => n - (intOf c).toNat)
    case atStart => exact ⟨0, by omega, rfl, by rw [extTo_zero, List.append_nil]; exact h0.out, hM.out⟩
    case round =>
      obtain ⟨j, hj, rfl, hJj, hMj⟩ := hrel
      by_cases hlt2 : j < n
      · have hC := contains_any wr _ p j (hMj.sl (by omega)) (by have := hpl.out; omega)
        rw [hpl.out] at hC
        replace hJj := Lib.hid hJj
        have hM0 := Lib.hid hMj
        cases hb : p.contains j
        · rw [hb] at hC
          replace hC := Lib.hid hC
          have hx := Lib.hid (extTo_f (n := n) (m := m) hb)
          obtain ⟨z, hz⟩ := hMj.cells pl hlt
          have hfz := hMj.free pl hlt
          have hBl := hMj.lt
          obtain ⟨t, ht⟩ := extTo_pre (n := n) (m := m) (p := p) (j := j + 1) (by omega)
          have hcall := Lib.hid (fun W2 hJ2 hM2 => ih.out (p ++ [j]) (pl + 1) (pre ++ extTo n m p j) (t ++ rest) W2 (by simp [hpl.out]) (by have := hp.out; omega) (by rw [hL.out, ht, hx.out]; simp [List.append_assoc]) hJ2 hM2)
          have hJ2 := Lib.hid (hJ.out _ _ _ hJj.out (show Chg (fun b => b = B) wr ((wr.setCell ⟨B, pl, none⟩ (.int .i64 (j : Int))).alloc (.cells #[.int .i64 (j : Int)] 2)) from (Chg.setCell (Own := fun b => b = B) wr ⟨B, pl, none⟩ _ rfl).trans (Chg.of_below ((Below.refl _ _).alloc (Nat.le_refl _) _))))
          have hM2 := hM0.out.push (by have := hpl.out; omega) j
          rw [hpl.out] at hM2
          replace hM2 := Lib.hid (hM2.below (balloc (Below.refl _ _) (.cells #[.int .i64 (j : Int)] 2)))
          clear hb hMj ht
          go_wp2_with (first
            | (go_at_call 88; refine (hC.out).mono ?_; rintro r3 w3 ⟨rfl, rfl⟩)
            | (go_at_call 81; refine (hcall.out _ hJ2.out hM2.out).mono ?_; rintro r4 w4 ⟨rfl, hJ4, hM4⟩))
          go_roundw
          case rel => exact ⟨j + 1, by omega, by go_num, by rw [hx.out, ← List.append_assoc]; exact hJ4, hM4.pop⟩
          case measure => simp [intOf]; omega
        · rw [hb] at hC
          replace hC := Lib.hid hC
          have hx := Lib.hid (extTo_t (n := n) (m := m) hb)
          clear hb hMj
          go_wp2_with (go_at_call 88; refine (hC.out).mono ?_; rintro r3 w3 ⟨rfl, rfl⟩)
          go_roundw
          case rel => exact ⟨j + 1, by omega, by go_num, by rw [hx.out]; exact hJj.out, hM0.out⟩
          case measure => simp [intOf]; omega
      · obtain rfl : j = n := by omega
        have hdd := decide_eq_false (show ¬ ((j : Int) < (j : Int)) by omega)
        replace hJj := Lib.hid hJj
        replace hMj := Lib.hid hMj
        go_wp2
        go_ret
        exact ⟨rfl, by rw [← extTo_end]; exact hJj.out, hMj.out⟩


set_option maxHeartbeats 2000000 in
theorem turns_own (k n e : Nat) (h : VK k n e) (nn Fb : Nat) (w : World) (hF : Fb < w.heap.size) :
    SeqOwn Fence.wide nn Try.prog 80 #[.pointer (some ⟨Fb, 0, none⟩)] (fun A => FC A Fb k n e) (SeeK k n e) (turns n k) w := fun l J W hWb hJ hJi hY h0 => by
  obtain ⟨he, hn5, hk3, hkn⟩ := h.nums
  have f1 := hJi _ _ _ (h0 (fun _ => False) W (fun _ h => h.elim) (Below.refl _ _))
  obtain ⟨Y, hYd⟩ : ∃ Y, Y = W.heap.size := ⟨_, rfl⟩
  have hFY : Fb < Y := by have := hWb.size; omega
  refine callsIn_wide.2 ((turn1_any k n e Fb l hkn hn5 W f1 (fun w' => FC w' Fb k n e ∧ ∃ Own : Nat → Prop, (∀ b, Own b → W.heap.size ≤ b) ∧ J Own (turns n k) w') (fun w' hw => hw.1) fun B W3 hB hb hM => ?_).mono fun e w' hw => ⟨hw.1, hw.2.2⟩)
  rw [← hYd] at hB ⊢
  have hz3 : Y < W3.heap.size := by have := hb.size; simp at this; omega
  have hYc : W3.cell? ⟨Y, 0, none⟩ = some (.func (.yield l) #[] #[]) := by
    rw [hb.cell (p := ⟨Y, 0, none⟩) (by show Y < _; simp; omega), hYd, World.cell?_alloc_new]; rfl
  have hWW : Below W.heap.size W W3 := ((Below.refl _ W).alloc (Nat.le_refl _) _).trans (hb.mono (by simp))
  obtain ⟨Own, hOwn⟩ : ∃ Own : Nat → Prop, Own = fun b => b = Y ∨ b = B := ⟨_, rfl⟩
  have hog : ∀ b, Own b → W.heap.size ≤ b := fun b hb => by
    rw [hOwn] at hb
    rcases hb with hb | hb <;> omega
  obtain ⟨J', hJ'd⟩ : ∃ J' : List (List Nat) → World → Prop, J' = fun pre A => J Own pre A ∧ A.cell? ⟨Y, 0, none⟩ = some (.func (.yield l) #[] #[]) ∧ Y < A.heap.size := ⟨_, rfl⟩
  have hJ' : ∀ s A A', J' s A → Chg (fun b => b = B) A A' → J' s A' := by
    subst hJ'd
    rintro s A A' ⟨a1, a2, a3⟩ hc
    exact ⟨hJ Own hog _ _ _ a1 (hc.mono (fun b hb => by rw [hOwn]; exact .inr hb)), (World.cell?_of_block (a := ⟨Y, 0, none⟩) (hc.same Y a3 (by omega))).trans a2, Nat.lt_of_lt_of_le a3 hc.size⟩
  have hR : RoundsO Y Fb B (turns n k) J' := by
    subst hJ'd
    rintro pre x rest v W1 hL ⟨a1, a2, a3⟩ hBl hs
    have hx := turns_ok hn5 hk3 hkn (x := x) (by rw [hL]; simp)
    refine ((callsIn_wide (n := nn)).1 (tt_any W1 nn l Y Fb k n e x v hs hn5 (by omega) hx (hJi _ _ _ a1) a3 a2 (fun b W' => b = true ∧ J Own (pre ++ [x]) W' ∧ W'.cell? ⟨Y, 0, none⟩ = some (.func (.yield l) #[] #[]) ∧ Y < W'.heap.size ∧ W1.heap.size ≤ W'.heap.size ∧ W'.heap[B]? = W1.heap[B]?) ?_)).mono ?_
    · intro m W2 hb2
      have ho2 : ∀ b, Own b → W.heap.size ≤ b ∧ b < W2.heap.size := fun b hb => ⟨hog b hb, by
        have := hb2.size
        rw [hOwn] at hb
        rcases hb with hb | hb <;> omega⟩
      refine anyDepth (yield_mono (hY Own pre x rest _ W2 ho2 hL (hJ Own hog _ _ _ a1 (Chg.of_below hb2)) rfl) ?_)
      rintro e' W' ⟨rfl, hj, hz, hu⟩
      have hz2 : Y < W2.heap.size := Nat.lt_of_lt_of_le a3 hb2.size
      have hc : W2.cell? ⟨Y, 0, none⟩ = some (.func (.yield l) #[] #[]) := (hb2.cell (p := ⟨Y, 0, none⟩) a3).trans a2
      exact ⟨true, rfl, rfl, hj, (World.cell?_of_block (a := ⟨Y, 0, none⟩) (hu Y (by rw [hOwn]; exact .inl rfl))).trans hc, Nat.lt_of_lt_of_le hz2 hz, Nat.le_trans hb2.size hz, (hu B (by rw [hOwn]; exact .inr rfl)).trans (hb2.block _ hBl)⟩
    · rintro e' W' ⟨b, rfl, rfl, h1, h2, h3, h4, h5⟩
      exact ⟨rfl, ⟨h1, h2, h3⟩, h4, h5⟩
  have hj0 : J' [] W3 := by
    subst hJ'd
    exact ⟨h0 Own W3 hog hWW, hYc, hz3⟩
  refine (llo_in n n B Y Fb hn5 hn5 (turns n k) J' hJ' hR (n - k) (List.range k) k [] [] W3 (by simp) (by omega) (by simp [turns]) hj0 hM).mono ?_
  rintro e w' ⟨h1, h2, _⟩
  subst hJ'd
  exact ⟨true, h1, hJi _ _ _ h2.1, Own, fun b hb => by have := hog b hb; omega, h2.1⟩
end Go.Proofs.Ytfnjgdocmfmfgab
