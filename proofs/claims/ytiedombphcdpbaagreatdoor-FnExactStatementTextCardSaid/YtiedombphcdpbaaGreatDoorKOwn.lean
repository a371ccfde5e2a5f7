/-
  A LOOP OVER AN ITERATOR THAT HAS MEMORY OF ITS OWN, WHERE THE ROUNDS MAKE AND CHANGE MEMORY TOO: 'Own' are the iterator's blocks; the loop's invariant abides whatever happens to them, and the rounds leave them as they are. No round leaves the loop. Over any program.
-/
import Derived.Test.YtiedombphcdpbaaGreatDoorKSees
namespace Go.Proofs.YtiedombphcdpbaaGreatDoor
open Go.RowKit

/-- only the blocks of Own have changed (and there may be new ones) -/
structure Chg (Own : Nat → Prop) (A A' : World) : Prop where
  os : A'.os = A.os
  tape : A'.tape = A.tape
  output : A'.output = A.output
  size : A.heap.size ≤ A'.heap.size
  same : ∀ k, k < A.heap.size → ¬ Own k → A'.heap[k]? = A.heap[k]?
theorem Chg.of_below {Own : Nat → Prop} {A A' : World} (h : Below A.heap.size A A') : Chg Own A A' := ⟨h.os, h.tape, h.output, h.size, fun k hk _ => h.block k hk⟩
theorem Chg.trans {Own : Nat → Prop} {A B C : World} (h : Chg Own A B) (k : Chg Own B C) : Chg Own A C :=
  ⟨k.os.trans h.os, k.tape.trans h.tape, k.output.trans h.output, Nat.le_trans h.size k.size, fun i hi hn => (k.same i (Nat.lt_of_lt_of_le hi h.size) hn).trans (h.same i hi hn)⟩
theorem Chg.mono {Own Own' : Nat → Prop} {A B : World} (h : Chg Own A B) (ho : ∀ b, Own b → Own' b) : Chg Own' A B := ⟨h.os, h.tape, h.output, h.size, fun i hi hn => h.same i hi (fun c => hn (ho i c))⟩
theorem Chg.putObj {Own : Nat → Prop} (A : World) (l : Nat) (o : Obj) (hl : Own l) : Chg Own A (A.putObj l o) :=
  ⟨rfl, rfl, rfl, by simp [World.putObj], fun k _ hn => World.putObj_heap_other (fun c => hn (by rw [c]; exact hl))⟩
theorem Chg.setCell {Own : Nat → Prop} (A : World) (p : Addr) (v : Value) (hl : Own p.block) : Chg Own A (A.setCell p v) :=
  ⟨by simp [World.setCell], by simp [World.setCell], by simp [World.setCell], by simp [World.setCell], fun k _ hn => Below.heap_setCell _ _ _ _ (fun c => hn (by rw [c]; exact hl))⟩

/-- the contract of such an iterator -/
def SeqOwn {α : Type} (F : Fence) (n : Nat) (P : Program) (g : Nat) (lb : Array Value) (Inv : World → Prop) (See : α → Value → World → Prop) (L : List α) (w : World) : Prop :=
  ∀ (l : Nat) (J : (Nat → Prop) → List α → World → Prop) (W : World), Below w.heap.size w W →
    (∀ Own, (∀ b, Own b → W.heap.size ≤ b) → ∀ s A A', J Own s A → Chg Own A A' → J Own s A') → (∀ Own s A, J Own s A → Inv A) →
    (∀ Own pre x rest v W1, (∀ b, Own b → W.heap.size ≤ b ∧ b < W1.heap.size) → L = pre ++ x :: rest → J Own pre W1 → See x v W1 → YieldAt F (n - 1) P l #[v] W1 fun e W' =>
      e = .returned (.bool true) ∧ J Own (pre ++ [x]) W' ∧ W1.heap.size ≤ W'.heap.size ∧ ∀ b, Own b → W'.heap[b]? = W1.heap[b]?) →
    (∀ Own A, (∀ b, Own b → W.heap.size ≤ b) → Below W.heap.size W A → J Own [] A) →
    CallsIn F n P g (#[.func (.yield l) #[] #[]] ++ lb) W fun e W' => (∃ v, e = .returned v) ∧ ∃ Own, (∀ b, Own b → W.heap.size ≤ b) ∧ J Own L W'

/-- how a body ends -/
def ownPost {α : Type} (Own : Nat → Prop) (I : List α → World → Prop) (xs : List α) (W : World) : Exit → Act → World → Prop
  | .normal, _, W' => W.heap.size ≤ W'.heap.size ∧ (∀ b, Own b → W'.heap[b]? = W.heap[b]?) ∧ I xs W'
  | _, _, _ => False

variable {F : Fence} {n : Nat} {P : Program}

/-- the statement -/
theorem wpIn_range_own {α : Type} {g : Operand} {ps : Array Tmp} {assign body : Code} {Q : Exit → Act → World → Prop} {a : Act} {w : World}
    (hro : F.round = none) (h1 : 1 ≤ n) {gf : Nat} {lb : Array Value} (hg : a.eval g = .func (.func gf) #[] lb) (hFg : F.fn gf) (eg : ∀ args w, (callFunc gf args).run P w = .ok (.enter gf args) w)
    {Inv : World → Prop} {See : α → Value → World → Prop} {L : List α} {w0 : World} (hseq : SeqOwn F (n - 1) P gf lb Inv See L w0) (hb0 : Below w0.heap.size w0 w) (hps : ps.size = 1)
    (hSb : ∀ x v A A', See x v A → Below A.heap.size A A' → See x v A') (hSc : ∀ x v, Cellular (See x v))
    (I : (Nat → Prop) → List α → World → Prop) (hInv : ∀ Own s A, I Own s A → Inv A)
    (hI : ∀ Own, (∀ b, Own b → w.heap.size ≤ b) → ∀ s A A', I Own s A → Chg Own A A' → I Own s A')
    (h0 : ∀ Own A, (∀ b, Own b → w.heap.size ≤ b) → Below w.heap.size w A → I Own [] A)
    (Ax : Value → Act → World → Prop) (hAx : ∀ v a', Cellular (Ax v a'))
    (hassign : ∀ (l : Nat) (x : α) (v : Value) (W : World) (K : Act → World → Prop), See x v W → (∀ a' W', Below W.heap.size W W' → Ax v a' W' → K a' W') →
      assign.wpIn (F.inRound l) (n - 1 - 1) P (Exit.then K (fun _ _ _ => False)) { tmps := (ps.zip #[v]).foldl (fun t (p, v) => t.setIfInBounds p v) a.tmps, defers := [] } W)
    (hbody : ∀ (l : Nat) (Own : Nat → Prop) (pre : List α) (x : α) (rest : List α) (v : Value) (a' : Act) (W : World), (∀ b, Own b → w.heap.size ≤ b ∧ b < W.heap.size) → L = pre ++ x :: rest → I Own pre W → See x v W → Ax v a' W →
      body.wpIn (F.inRound l) (n - 1 - 1) P (ownPost Own (I Own) (pre ++ [x]) W) a' W)
    (hdone : ∀ (D : Nat) (Own : Nat → Prop) (W : World), w.heap.size ≤ D → I Own L W → W.heap[D]? = some (.deferred (some [])) → Own D → Q .normal { a with defers := { target := .collected D, args := #[] } :: a.defers } W) :
    (Code.rangeFunc g ps assign body).wpIn F n P Q a w := by
  refine wpIn_rangeFunc fun fn hfn => ?_
  rw [hro]
  obtain ⟨k, hk⟩ : ∃ k, k = w.heap.size := ⟨_, rfl⟩
  obtain ⟨rec, hrec⟩ : ∃ rec : LoopState → Option Code → Loop, rec = fun st pe => { state := st, pending := pe, fn, tmps := a.tmps, params := ps, assign, body, defers := w.heap.size } := ⟨_, rfl⟩
  obtain ⟨W1, hW1⟩ : ∃ W1, (w.alloc (.deferred (some []))).alloc (.loop (rec .ready none)) = W1 := ⟨_, rfl⟩
  have hz1 : W1.heap.size = k + 2 := by rw [← hW1, hk]; simp
  have hL1 : W1.heap[k + 1]? = some (.loop (rec .ready none)) := by
    rw [← hW1, hk]; have := World.alloc_heap_new (w.alloc (.deferred (some []))) (.loop (rec .ready none)); rwa [World.size_alloc] at this
  have hK1 : W1.heap[k]? = some (.deferred (some [])) := by
    rw [← hW1, hk]; exact (Below.heap_alloc _ _ _ (by simp)).trans (World.alloc_heap_new w _)
  have hB1 : Below w.heap.size w W1 := by rw [← hW1]; exact ((Below.refl _ w).alloc (Nat.le_refl _) _).alloc (by simp) _
  have hb1 : Below w0.heap.size w0 W1 := hb0.trans (hB1.mono hb0.size)
  obtain ⟨Ex, hEx⟩ : ∃ Ex : (Nat → Prop) → Nat → Prop, Ex = fun Own b => Own b ∨ b = k ∨ b = k + 1 := ⟨_, rfl⟩
  have hExg : ∀ Own : Nat → Prop, (∀ b, Own b → W1.heap.size ≤ b) → ∀ b, Ex Own b → w.heap.size ≤ b := fun Own h b hb => by
    rw [hEx] at hb
    rcases hb with hb | hb | hb
    · have := h b hb; omega
    · omega
    · omega
  have hEl : ∀ Own, Ex Own (k + 1) := fun Own => by rw [hEx]; exact .inr (.inr rfl)
  refine ⟨k + 1, [{ target := .collected k, args := #[] }], W1, { target := .fn (.func gf) lb, args := #[.func (.yield (k + 1)) #[] #[]] }, W1, gf, #[.func (.yield (k + 1)) #[] #[]] ++ lb, W1, ?_, ?_, ?_, ?_, fun _ => h1, ?_⟩
  · rw [← hW1, hrec, hk]; exact run_enterLoop_outer _ _ _ _ _
  · simp only [resolve, hg]
    simp [go_sem]
  · intro f' hf'; simp [Target.leads] at hf'; subst hf'; exact hFg
  · simp [invoke, go_sem, eg]
  refine (hseq (k + 1)
    (fun Own pre W => I (Ex Own) pre W ∧ W.heap[k + 1]? = some (.loop (rec .ready none)) ∧ W.heap[k]? = some (.deferred (some []))) W1 hb1
    (fun Own ho s A A' hs hb => ⟨hI _ (hExg Own ho) s A A' hs.1 (hb.mono (fun b hb => by rw [hEx]; exact .inl hb)),
      (hb.same _ (Array.getElem?_eq_some_iff.1 hs.2.1).1 (fun c => by have := ho _ c; omega)).trans hs.2.1, (hb.same _ (Array.getElem?_eq_some_iff.1 hs.2.2).1 (fun c => by have := ho _ c; omega)).trans hs.2.2⟩)
    (fun Own s A hs => hInv _ s A hs.1)
    ?_ (fun Own A ho hA => ⟨h0 _ _ (hExg Own ho) (hB1.trans (hA.mono (by omega))), (hA.block _ (by omega)).trans hL1, (hA.block _ (by omega)).trans hK1⟩)).mono ?_
  · -- one round
    rintro Own pre x rest v W ho hLx ⟨hi, hl, hd⟩ hsee
    have hlt : k + 1 < W.heap.size := (Array.getElem?_eq_some_iff.1 hl).1
    have hy := run_yield (P := P) (args := #[v]) hl (by rw [hrec]; exact hps.symm)
    rw [hrec] at hy
    have hog := hExg Own (fun b hb => (ho b hb).1)
    have hol : ∀ b, Ex Own b → b < W.heap.size := fun b hb => by
      rw [hEx] at hb
      rcases hb with hb | hb | hb
      · exact (ho b hb).2
      · omega
      · omega
    refine ⟨fn, _, assign, body, hy, roundIn_of_wpIn hfn (hassign _ x v W _ hsee fun a' Wa hba hax => ?_)⟩
    have hla : Wa.heap[k + 1]? = some (.loop (rec .ready none)) := (hba.block _ hlt).trans hl
    have hda : Wa.heap[k]? = some (.deferred (some [])) := (hba.block _ (by omega)).trans hd
    have hlta : k + 1 < Wa.heap.size := Nat.lt_of_lt_of_le hlt hba.size
    refine ⟨_, run_beginRound hla (by rw [hrec]), ?_⟩
    obtain ⟨Wb, hWb⟩ : ∃ Wb, Wb = Wa.putObj (k + 1) (.loop { rec .ready none with state := .busy }) := ⟨_, rfl⟩
    rw [← hWb]
    have hzb : Wb.heap.size = Wa.heap.size := by rw [hWb]; simp [World.putObj]
    have hlb : Wb.heap[k + 1]? = some (.loop { rec .ready none with state := .busy }) := by rw [hWb]; exact World.putObj_heap_same hlta
    have hdb : Wb.heap[k]? = some (.deferred (some [])) := by rw [hWb]; exact (World.putObj_heap_other (by omega)).trans hda
    have hib : I (Ex Own) pre Wb := by rw [hWb]; exact hI _ hog _ _ _ (hI _ hog _ _ _ hi (Chg.of_below hba)) (Chg.putObj _ _ _ (hEl Own))
    have hsb : See x v Wb := by rw [hWb]; exact hSc x v _ _ _ _ (hSb x v _ _ hsee hba) hla rfl
    have hab : Ax v a' Wb := by rw [hWb]; exact hAx v a' _ _ _ _ hax hla rfl
    have hsz := hba.size
    refine wpIn_mono (hbody _ (Ex Own) pre x rest v a' Wb (fun b hb => ⟨hog b hb, by have := hol b hb; omega⟩) hLx hib hsb hab) ?_
    rintro e a3 W3 hp
    cases e with
    | normal =>
      obtain ⟨hz3, hs3, hi3⟩ := hp
      have hl3 := (hs3 _ (hEl Own)).trans hlb
      have hd3 := (hs3 k (by rw [hEx]; exact .inr (.inl rfl))).trans hdb
      have hr := run_endRound (P := P) none hl3
      refine ⟨_, _, hr, rfl, ⟨hI _ hog _ _ _ hi3 (Chg.putObj _ _ _ (hEl Own)), ?_, (World.putObj_heap_other (by omega)).trans hd3⟩, ?_, fun b hb => ?_⟩
      · rw [hrec]
        exact World.putObj_heap_same (Array.getElem?_eq_some_iff.1 hl3).1
      · simp only [World.putObj, Array.size_setIfInBounds]; omega
      · have hb2 := ho b hb
        refine (World.putObj_heap_other (by omega)).trans ((hs3 b (by rw [hEx]; exact .inl hb)).trans ?_)
        rw [hWb]
        exact (World.putObj_heap_other (by omega)).trans (hba.block _ hb2.2)
    | ret => exact hp.elim
    | exit id => exact hp.elim
    | goto t => exact hp.elim
    | panic ch => exact hp.elim
    | outgrown => exact hp.elim
  · -- behind the iterator
    rintro e W2 ⟨⟨v, rfl⟩, Own, ho, hi, hl, hd⟩
    exact ⟨none, _, by have := run_endLoop (P := P) hl (by rw [hrec]; simp); rw [hrec] at this; exact this, hdone k (Ex Own) _ (by omega) (hI _ (hExg Own ho) _ _ _ hi (Chg.putObj _ _ _ (hEl Own))) ((World.putObj_heap_other (by omega)).trans hd) (by rw [hEx]; exact .inr (.inl rfl))⟩
#print axioms wpIn_range_own
end Go.Proofs.YtiedombphcdpbaaGreatDoor
