/-
  A FLAG WITH ITS UNLABELLED VERTICES IN EVERY ORDER: what the program's iterator yields.
-/
import Derived.Test.YtiedombphcdpbaaDoorKTurn1
namespace Go.Proofs.YtiedombphcdpbaaDoor
open Go.RowKit Go.Shelf
set_option maxRecDepth 100000
attribute [local go_sem] Oper.semAt_some

/-- what the iterator tells of its value -/
def SeeK (k n e : Nat) (x : List Nat) (v : Value) (_ : World) : Prop := v = .agg #[.int .i64 k, .int .i64 n, .int .u32 (onL e x : Nat)]
theorem SeeK.below (k n e : Nat) (x : List Nat) (v : Value) (A A' : World) (h : SeeK k n e x v A) (_ : Below A.heap.size A A') : SeeK k n e x v A' := h
theorem SeeK.cellular (k n e : Nat) (x : List Nat) (v : Value) : Cellular (SeeK k n e x v) := fun _ _ _ _ h _ _ => h
theorem yield_mono {F : Fence} {m : Nat} {P : Program} {l : Nat} {args : Array Value} {W : World} {R R' : Ending → World → Prop} (h : YieldAt F m P l args W R) (hR : ∀ e w, R e w → R' e w) : YieldAt F m P l args W R' := by
  obtain ⟨fn, tmps, assign, body, hy, hr⟩ := h
  exact ⟨fn, tmps, assign, body, hy, hr.mono hR⟩
theorem VK.nums {k n e : Nat} (h : VK k n e) : e < 1024 ∧ n ≤ 5 ∧ k ≤ 3 ∧ k ≤ n := by
  have h1 := h.1.2.2.2
  have h2 := eMax_le n
  have h3 := h.1.2.1
  have h4 := h.2.2.1
  have h5 := h.2.2.2
  simp at h1
  omega

set_option maxHeartbeats 4000000 in
theorem turns_sees (k n e : Nat) (h : VK k n e) (nn Fb : Nat) (w : World) :
    SeqSeesI Fence.wide nn Tryd.prog 135 #[.pointer (some ⟨Fb, 0, none⟩)] (fun A => FC A Fb k n e) (SeeK k n e) (turns n k) w := fun l J Jx W _ hJ _ hJi hJxi hY h0 => by
  obtain ⟨he, hn5, hk3, hkn⟩ := h.nums
  have f1 := hJi _ _ h0
  obtain ⟨Y, hYd⟩ : ∃ Y, Y = W.heap.size := ⟨_, rfl⟩
  obtain ⟨O, hO⟩ : ∃ O, O = Obj.cells #[.func (.yield l) #[] #[]] 126 := ⟨_, rfl⟩
  obtain ⟨J', hJ'd⟩ : ∃ J' : List (List Nat) → World → Prop, J' = fun pre A => J pre A ∧ A.cell? ⟨Y, 0, none⟩ = some (.func (.yield l) #[] #[]) ∧ Y < A.heap.size := ⟨_, rfl⟩
  have hJ' : Under (Y + 1) J' := by
    subst hJ'd
    rintro s A A' ⟨a1, a2, a3⟩ hb
    exact ⟨hJ _ _ _ a1 (hb.mono (by omega)), (hb.cell (p := ⟨Y, 0, none⟩) (by show Y < Y + 1; omega)).trans a2, Nat.lt_of_lt_of_le a3 hb.size⟩
  have hR : RoundsC Y Fb (turns n k) (Y + 1) J' Jx := by
    subst hJ'd
    rintro pre x rest v W1 hL ⟨a1, a2, a3⟩ hs
    have hx := turns_ok hn5 hk3 hkn (x := x) (by rw [hL]; simp)
    refine ((callsIn_wide (n := nn)).1 (tt_any W1 nn l Y Fb k n e x v hs hn5 (by omega) hx (hJi _ _ a1) a3 a2 (fun b W' => if b then J (pre ++ [x]) W' ∧ W'.cell? ⟨Y, 0, none⟩ = some (.func (.yield l) #[] #[]) ∧ Y < W'.heap.size ∧ Upper (Y + 1) W1 W' else Jx (pre ++ [x]) W') ?_)).mono ?_
    · intro m W2 hb2
      have hb3 : Below W.heap.size W1 W2 := hb2.mono (by omega)
      refine anyDepth (yield_mono (hY pre x rest _ W2 hL (hJ _ _ _ a1 hb3) rfl) ?_)
      rintro e' W' (⟨rfl, hj, hu⟩ | ⟨rfl, hx⟩)
      · have hz : Y < W2.heap.size := Nat.lt_of_lt_of_le a3 hb2.size
        have hc : W2.cell? ⟨Y, 0, none⟩ = some (.func (.yield l) #[] #[]) := (hb2.cell (p := ⟨Y, 0, none⟩) a3).trans a2
        exact ⟨true, rfl, hj, (World.cell?_of_block (a := ⟨Y, 0, none⟩) (hu.same Y (by omega) hz)).trans hc, Nat.lt_of_lt_of_le hz hu.size, (Upper.of_below hb2).trans (hu.mono (by omega))⟩
      · exact ⟨false, rfl, hx⟩
    · rintro e' W' ⟨b, rfl, hb⟩
      cases b
      · exact .inr ⟨rfl, hb⟩
      · exact .inl ⟨rfl, ⟨hb.1, hb.2.1, hb.2.2.1⟩, hb.2.2.2⟩
  have hcall := Lib.hid (fun B W3 (hB : Y + 1 ≤ B) (hj : J' [] W3) (hM : LMem W3 B n (List.range k)) => (llc_in n n B (Y + 1) Y Fb hn5 hn5 hB (turns n k) J' Jx hJ' hR (n - k) (List.range k) k [] [] W3 (by simp) (by omega) (by simp [turns]) hj hM).mono (R' := fun e w' => ∃ b : Bool, e = .returned (.bool b) ∧ (J (turns n k) w' ∨ ∃ q, Jx q w')) (by
    subst hJ'd
    rintro e w' (⟨h1, h2, _⟩ | ⟨h1, h2⟩)
    · exact ⟨_, h1, .inl h2.1⟩
    · exact ⟨_, h1, .inr h2⟩))
  have hj0 : J' [] (W.alloc O) := by
    subst hJ'd
    exact ⟨hJ _ _ _ h0 ((Below.refl _ W).alloc (Nat.le_refl _) _), by rw [hYd, hO, World.cell?_alloc_new]; rfl, by simp; omega⟩
  have hjw := fun W3 (hb : Below (W.alloc O).heap.size (W.alloc O) W3) => hJ' [] (W.alloc O) W3 hj0 (hb.mono (by simp; omega))
  refine callsIn_wide.2 (turn1_any k n e Fb l hkn hn5 W f1 (fun w' => J (turns n k) w' ∨ ∃ q, Jx q w') (fun w' hw => hw.elim (hJi _ _) (fun ⟨q, hq⟩ => hJxi q _ hq)) fun B W3 hB hb hM => ?_)
  rw [← hO] at hb
  rw [← hYd] at hB ⊢
  exact hcall.out B W3 hB (hjw W3 hb) hM
end Go.Proofs.YtiedombphcdpbaaDoor
