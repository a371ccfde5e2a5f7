/-
  AS KSees, FOR AN ITERATOR THAT WRITES NOTHING ONCE A ROUND HAS SAID 'no more' (what holds then may speak of new blocks): THE LAW FOR AN ITERATOR THAT READS CELLS OF ITS CALLER'S FROM ROUND TO ROUND ('Inv': what it reads stays as it is as long as the loop's own invariant holds).
-/
import Derived.Test.YtncbimbbkealmaaGreatDoorSees
namespace Go.Proofs.YtncbimbbkealmaaGreatDoor
open Go.RowKit

/-- it abides the turn of a block from B on that is no cells -/
def CellularFrom (B : Nat) (T : World → Prop) : Prop := ∀ A l o o', B ≤ l → T A → A.heap[l]? = some o → o.isCells = false → T (A.putObj l o')
/-- the contract of such an iterator -/
def SeqSeesC {α : Type} (F : Fence) (n : Nat) (P : Program) (g : Nat) (lb : Array Value) (Inv : World → Prop) (See : α → Value → World → Prop) (L : List α) (w : World) : Prop :=
  ∀ (l : Nat) (J Jx : List α → World → Prop) (W : World), Below w.heap.size w W → Under W.heap.size J → (∀ s A, J s A → Inv A) →
    (∀ pre x rest v W1, L = pre ++ x :: rest → J pre W1 → See x v W1 → YieldAt F (n - 1) P l #[v] W1 fun e W' =>
      (e = .returned (.bool true) ∧ J (pre ++ [x]) W' ∧ Upper W.heap.size W1 W') ∨ (e = .returned (.bool false) ∧ Jx (pre ++ [x]) W')) →
    J [] W →
    CallsIn F n P g (#[.func (.yield l) #[] #[]] ++ lb) W fun e W' => (∃ v, e = .returned v) ∧ (J L W' ∨ ∃ pre, Jx pre W')

variable {F : Fence} {n : Nat} {P : Program}

/-- the statement -/
theorem wpIn_range_seesC {α : Type} {g : Operand} {ps : Array Tmp} {assign body : Code} {Q : Exit → Act → World → Prop} {a : Act} {w : World}
    (hro : F.round = none) (h1 : 1 ≤ n) {gf : Nat} {lb : Array Value} (hg : a.eval g = .func (.func gf) #[] lb) (hFg : F.fn gf) (eg : ∀ args w, (callFunc gf args).run P w = .ok (.enter gf args) w)
    {Inv : World → Prop} {See : α → Value → World → Prop} {L : List α} {w0 : World} (hseq : SeqSeesC F (n - 1) P gf lb Inv See L w0) (hb0 : Below w0.heap.size w0 w) (hps : ps.size = 1)
    (hSb : ∀ x v A A', See x v A → Below A.heap.size A A' → See x v A') (hSc : ∀ x v, Cellular (See x v))
    (I : List α → World → Prop) (Ix : Code → List α → World → Prop) (hInv : ∀ s A, I s A → Inv A) (hI : Under w.heap.size I) (hIx : ∀ c s, CellularFrom w.heap.size (Ix c s)) (h0 : I [] w)
    (Ax : Value → Act → World → Prop) (hAx : ∀ v a', Cellular (Ax v a'))
    (hassign : ∀ (l : Nat) (x : α) (v : Value) (W : World) (K : Act → World → Prop), See x v W → (∀ a' W', Below W.heap.size W W' → Ax v a' W' → K a' W') →
      assign.wpIn (F.inRound l) (n - 1 - 1) P (Exit.then K (fun _ _ _ => False)) { tmps := (ps.zip #[v]).foldl (fun t (p, v) => t.setIfInBounds p v) a.tmps, defers := [] } W)
    (hbody : ∀ (l : Nat) (pre : List α) (x : α) (rest : List α) (v : Value) (a' : Act) (W : World), w.heap.size ≤ l → (∃ r, W.heap[l]? = some (.loop r)) → L = pre ++ x :: rest → I pre W → See x v W → Ax v a' W →
      body.wpIn (F.inRound l) (n - 1 - 1) P (seesPost w.heap.size I Ix (pre ++ [x]) W) a' W)
    (hdone : ∀ (D : Nat) (W : World), w.heap.size ≤ D → I L W → W.heap[D]? = some (.deferred (some [])) → Q .normal { a with defers := { target := .collected D, args := #[] } :: a.defers } W)
    (hstop : ∀ (D : Nat) (c : Code) (pre : List α) (W : World), w.heap.size ≤ D → Ix c pre W → W.heap[D]? = some (.deferred (some [])) → c.wpIn F n P Q { a with defers := { target := .collected D, args := #[] } :: a.defers } W) :
    (Code.rangeFunc g ps assign body).wpIn F n P Q a w := by
  refine wpIn_rangeFunc fun fn hfn => ?_
  rw [hro]
  obtain ⟨k, hk⟩ : ∃ k, k = w.heap.size := ⟨_, rfl⟩
  obtain ⟨rec, hrec⟩ : ∃ rec : LoopState → Option Code → Loop, rec = fun st pe => { state := st, pending := pe, fn, tmps := a.tmps, params := ps, assign, body, defers := w.heap.size } := ⟨_, rfl⟩
  obtain ⟨W1, hW1⟩ : ∃ W1, (w.alloc (.deferred (some []))).alloc (.loop (rec .ready none)) = W1 := ⟨_, rfl⟩
  have hz1 : W1.heap.size = k + 2 := by rw [← hW1, hk]; simp
  have hL1 : W1.heap[k + 1]? = some (.loop (rec .ready none)) := by
    rw [← hW1, hk]; have := World.alloc_heap_new (w.alloc (.deferred (some []))) (.loop (rec .ready none)); rwa [World.size_alloc] at this
  have hK1 : W1.heap[k]? = some (.deferred (some [])) := by
    rw [← hW1, hk]; exact (Below.heap_alloc _ _ _ (by simp)).trans (World.alloc_heap_new w _)
  have hB1 : Below w.heap.size w W1 := by rw [← hW1]; exact ((Below.refl _ w).alloc (Nat.le_refl _) _).alloc (by simp) _
  have hb1 : Below w0.heap.size w0 W1 := hb0.trans (hB1.mono hb0.size)
  have hI1 : I [] W1 := hI _ _ _ h0 hB1
  refine ⟨k + 1, [{ target := .collected k, args := #[] }], W1, { target := .fn (.func gf) lb, args := #[.func (.yield (k + 1)) #[] #[]] }, W1, gf, #[.func (.yield (k + 1)) #[] #[]] ++ lb, W1, ?_, ?_, ?_, ?_, fun _ => h1, ?_⟩
  · rw [← hW1, hrec, hk]; exact run_enterLoop_outer _ _ _ _ _
  · simp only [resolve, hg]
    simp [go_sem]
  · intro f' hf'; simp [Target.leads] at hf'; subst hf'; exact hFg
  · simp [invoke, go_sem, eg]
  have hkeep : ∀ {A A' : World}, Below W1.heap.size A A' → (∀ r, A.heap[k + 1]? = some r → A'.heap[k + 1]? = some r) ∧ (∀ r, A.heap[k]? = some r → A'.heap[k]? = some r) :=
    fun hb => ⟨fun r h => (hb.block _ (by omega)).trans h, fun r h => (hb.block _ (by omega)).trans h⟩
  refine (hseq (k + 1)
    (fun pre W => I pre W ∧ W.heap[k + 1]? = some (.loop (rec .ready none)) ∧ W.heap[k]? = some (.deferred (some [])))
    (fun pre W => ∃ c, Ix c pre W ∧ W.heap[k + 1]? = some (.loop (rec .done (some c))) ∧ W.heap[k]? = some (.deferred (some []))) W1 hb1
    (fun s A A' hs hb => ⟨hI s A A' hs.1 (hb.mono (by omega)), (hkeep hb).1 _ hs.2.1, (hkeep hb).2 _ hs.2.2⟩)
    (fun s A hs => hInv s A hs.1)
    ?_ ⟨hI1, hL1, hK1⟩).mono ?_
  · -- one round
    rintro pre x rest v W hLx ⟨hi, hl, hd⟩ hsee
    have hlt : k + 1 < W.heap.size := (Array.getElem?_eq_some_iff.1 hl).1
    have hy := run_yield (P := P) (args := #[v]) hl (by rw [hrec]; exact hps.symm)
    rw [hrec] at hy
    refine ⟨fn, _, assign, body, hy, roundIn_of_wpIn hfn (hassign _ x v W _ hsee fun a' Wa hba hax => ?_)⟩
    have hla : Wa.heap[k + 1]? = some (.loop (rec .ready none)) := (hba.block _ hlt).trans hl
    have hda : Wa.heap[k]? = some (.deferred (some [])) := (hba.block _ (by omega)).trans hd
    have hlta : k + 1 < Wa.heap.size := Nat.lt_of_lt_of_le hlt hba.size
    refine ⟨_, run_beginRound hla (by rw [hrec]), ?_⟩
    obtain ⟨Wb, hWb⟩ : ∃ Wb, Wb = Wa.putObj (k + 1) (.loop { rec .ready none with state := .busy }) := ⟨_, rfl⟩
    rw [← hWb]
    have hlb : Wb.heap[k + 1]? = some (.loop { rec .ready none with state := .busy }) := by rw [hWb]; exact World.putObj_heap_same hlta
    have hdb : Wb.heap[k]? = some (.deferred (some [])) := by rw [hWb]; exact (World.putObj_heap_other (by omega)).trans hda
    have hib : I pre Wb := by rw [hWb]; exact hI _ _ _ (hI _ _ _ hi (hba.mono (by omega))) (below_putObj _ _ _ (by omega))
    have hsb : See x v Wb := by rw [hWb]; exact hSc x v _ _ _ _ (hSb x v _ _ hsee hba) hla rfl
    have hab : Ax v a' Wb := by rw [hWb]; exact hAx v a' _ _ _ _ hax hla rfl
    have hub : Upper W1.heap.size W Wb := by rw [hWb]; exact (Upper.of_below hba).trans (Upper.putObj _ _ _ (by omega))
    refine wpIn_mono (hbody _ pre x rest v a' Wb (by omega) ⟨_, hlb⟩ hLx hib hsb hab) ?_
    have fin : ∀ (jump : Option Code) (W3 : World), Upper w.heap.size Wb W3 →
        (Instr.endRound (k + 1) jump).run P W3 = .ok (.bool jump.isNone) (W3.putObj (k + 1) (.loop (rec (if jump.isNone then .ready else .done) jump))) ∧
        (W3.putObj (k + 1) (.loop (rec (if jump.isNone then .ready else .done) jump))).heap[k + 1]? = some (.loop (rec (if jump.isNone then .ready else .done) jump)) ∧
        (W3.putObj (k + 1) (.loop (rec (if jump.isNone then .ready else .done) jump))).heap[k]? = some (.deferred (some [])) ∧
        Upper W1.heap.size W (W3.putObj (k + 1) (.loop (rec (if jump.isNone then .ready else .done) jump))) := fun jump W3 hu => by
      have hl3 := (hu.same _ (by omega) (Array.getElem?_eq_some_iff.1 hlb).1).trans hlb
      have hd3 := (hu.same _ (by omega) (Array.getElem?_eq_some_iff.1 hdb).1).trans hdb
      have := run_endRound (P := P) jump hl3
      rw [hrec] at this ⊢
      exact ⟨this, World.putObj_heap_same (Array.getElem?_eq_some_iff.1 hl3).1, (World.putObj_heap_other (by omega)).trans hd3, (hub.trans (hu.mono (by omega))).trans (Upper.putObj _ _ _ (by omega))⟩
    rintro e a3 W3 hp
    cases e with
    | normal =>
      obtain ⟨hr, hl4, hd4, hu4⟩ := fin none W3 hp.1
      exact ⟨_, _, hr, .inl ⟨rfl, ⟨hI _ _ _ hp.2 (below_putObj _ _ _ (by omega)), hl4, hd4⟩, hu4⟩⟩
    | ret =>
      obtain ⟨hr, hl4, hd4, _⟩ := fin (some .ret) W3 hp.1
      exact ⟨_, _, hr, .inr ⟨rfl, .ret, hIx _ _ _ _ _ _ (by omega) hp.2 ((hp.1.same _ (by omega) (Array.getElem?_eq_some_iff.1 hlb).1).trans hlb) rfl, hl4, hd4⟩⟩
    | exit id =>
      obtain ⟨hr, hl4, hd4, _⟩ := fin (some (.exit id)) W3 hp.1
      exact ⟨_, _, hr, .inr ⟨rfl, .exit id, hIx _ _ _ _ _ _ (by omega) hp.2 ((hp.1.same _ (by omega) (Array.getElem?_eq_some_iff.1 hlb).1).trans hlb) rfl, hl4, hd4⟩⟩
    | goto t =>
      obtain ⟨hr, hl4, hd4, _⟩ := fin (some (.goto t)) W3 hp.1
      exact ⟨_, _, hr, .inr ⟨rfl, .goto t, hIx _ _ _ _ _ _ (by omega) hp.2 ((hp.1.same _ (by omega) (Array.getElem?_eq_some_iff.1 hlb).1).trans hlb) rfl, hl4, hd4⟩⟩
    | panic ch => exact hp.elim
    | outgrown => exact hp.elim
  · -- behind the iterator
    rintro e W2 ⟨⟨v, rfl⟩, (⟨hi, hl, hd⟩ | ⟨pre, c, hi, hl, hd⟩)⟩
    · exact ⟨none, _, by have := run_endLoop (P := P) hl (by rw [hrec]; simp); rw [hrec] at this; exact this, hdone k _ (by omega) (hI _ _ _ hi (below_putObj _ _ _ (by omega))) ((World.putObj_heap_other (by omega)).trans hd)⟩
    · exact ⟨some c, _, by have := run_endLoop (P := P) hl (by rw [hrec]; simp); rw [hrec] at this; exact this, hstop k c pre _ (by omega) (hIx c _ _ _ _ _ (by omega) hi hl rfl) ((World.putObj_heap_other (by omega)).trans hd)⟩
#print axioms wpIn_range_seesC
end Go.Proofs.YtncbimbbkealmaaGreatDoor
