/-
  A LOOP OVER AN ITERATOR THAT YIELDS ONE VALUE IN ITS OWN MEMORY, WRITTEN ANEW FROM ROUND TO ROUND: the iterator tells the round what its value reads as there ('See x v W'); the round leaves whatever lies above its caller's heap as it lies ('Upper'). Over any program.
-/
import Derived.RangeFuncNested
import Derived.RangeFuncBound
import Derived.RangeFuncCalls
import Derived.RangeFuncLeaves
import Derived.Below
namespace Go.Proofs.YtncbimbbkealmaaGreatDoor
open Go.RowKit

/-- the blocks from B on lie as they lay -/
structure Upper (B : Nat) (A A' : World) : Prop where
  size : A.heap.size ≤ A'.heap.size
  same : ∀ k, B ≤ k → k < A.heap.size → A'.heap[k]? = A.heap[k]?
theorem Upper.refl (B : Nat) (A : World) : Upper B A A := ⟨Nat.le_refl _, fun _ _ _ => rfl⟩
theorem Upper.trans {B : Nat} {A C D : World} (h : Upper B A C) (k : Upper B C D) : Upper B A D :=
  ⟨Nat.le_trans h.size k.size, fun i hi hA => (k.same i hi (Nat.lt_of_lt_of_le hA h.size)).trans (h.same i hi hA)⟩
theorem Upper.mono {B B' : Nat} {A C : World} (h : Upper B A C) (hB : B ≤ B') : Upper B' A C := ⟨h.size, fun i hi hA => h.same i (Nat.le_trans hB hi) hA⟩
theorem Upper.of_below {B : Nat} {A C : World} (h : Below A.heap.size A C) : Upper B A C := ⟨h.size, fun i _ hA => h.block i hA⟩
theorem Upper.setCell {B : Nat} (A : World) (p : Addr) (v : Value) (hp : p.block < B) : Upper B A (A.setCell p v) :=
  ⟨by simp [World.setCell], fun i hi _ => Below.heap_setCell _ _ _ _ (by omega)⟩
theorem Upper.putObj {B : Nat} (A : World) (l : Nat) (o : Obj) (hl : l < B) : Upper B A (A.putObj l o) :=
  ⟨by simp [World.putObj], fun i hi _ => World.putObj_heap_other (by omega)⟩
theorem below_putObj {B : Nat} (A : World) (l : Nat) (o : Obj) (hl : B ≤ l) : Below B A (A.putObj l o) :=
  ⟨rfl, rfl, rfl, by simp [World.putObj], fun k hk => World.putObj_heap_other (by omega)⟩
/-- what a predicate on worlds owes: it speaks of blocks before B alone -/
def Under {β : Type} (B : Nat) (J : β → World → Prop) : Prop := ∀ s A A', J s A → Below B A A' → J s A'
/-- .. it abides the turn of a block that is no cells -/
def Cellular (T : World → Prop) : Prop := ∀ A l o o', T A → A.heap[l]? = some o → o.isCells = false → T (A.putObj l o')
theorem cellular_cell (a : Addr) (v : Value) : Cellular (fun W => W.cell? a = some v) := fun A l o o' h hl ho =>
  cell_kept h (grownBy_putObj' A l o') (fun r e => by cases e; exact ⟨o, hl, ho⟩)

/-- the contract of the iterator: all of L, one by one; or a round has said 'no more' -/
def SeqSees {α : Type} (F : Fence) (n : Nat) (P : Program) (g : Nat) (lb : Array Value) (See : α → Value → World → Prop) (L : List α) (w : World) : Prop :=
  ∀ (l : Nat) (J Jx : List α → World → Prop) (W : World), Below w.heap.size w W → Under W.heap.size J → Under W.heap.size Jx →
    (∀ pre x rest v W1, L = pre ++ x :: rest → J pre W1 → See x v W1 → YieldAt F (n - 1) P l #[v] W1 fun e W' =>
      (e = .returned (.bool true) ∧ J (pre ++ [x]) W' ∧ Upper W.heap.size W1 W') ∨ (e = .returned (.bool false) ∧ Jx (pre ++ [x]) W')) →
    J [] W →
    CallsIn F n P g (#[.func (.yield l) #[] #[]] ++ lb) W fun e W' => (∃ v, e = .returned v) ∧ (J L W' ∨ ∃ pre, Jx pre W')

theorem SeqSees.later {α : Type} {F : Fence} {n : Nat} {P : Program} {g : Nat} {lb : Array Value} {See : α → Value → World → Prop} {L : List α} {w w' : World}
    (h : SeqSees F n P g lb See L w) (hb : Below w.heap.size w w') : SeqSees F n P g lb See L w' :=
  fun l J Jx W hW hJ hJx hY h0 => h l J Jx W (hb.trans (hW.mono hb.size)) hJ hJx hY h0

/-- how a body may be left -/
def seesPost {α : Type} (B : Nat) (I : List α → World → Prop) (Ix : Code → List α → World → Prop) (xs : List α) (W : World) : Exit → Act → World → Prop
  | .normal, _, W' => Upper B W W' ∧ I xs W'
  | .ret, _, W' => Upper B W W' ∧ Ix .ret xs W'
  | .exit id, _, W' => Upper B W W' ∧ Ix (.exit id) xs W'
  | .goto t, _, W' => Upper B W W' ∧ Ix (.goto t) xs W'
  | .panic _, _, _ => False
  | .outgrown, _, _ => False

variable {F : Fence} {n : Nat} {P : Program}

/-- the statement -/
theorem wpIn_range_sees {α : Type} {g : Operand} {ps : Array Tmp} {assign body : Code} {Q : Exit → Act → World → Prop} {a : Act} {w : World}
    (hro : F.round = none) (h1 : 1 ≤ n) {gf : Nat} {lb : Array Value} (hg : a.eval g = .func (.func gf) #[] lb) (hFg : F.fn gf) (eg : ∀ args w, (callFunc gf args).run P w = .ok (.enter gf args) w)
    {See : α → Value → World → Prop} {L : List α} {w0 : World} (hseq : SeqSees F (n - 1) P gf lb See L w0) (hb0 : Below w0.heap.size w0 w) (hps : ps.size = 1)
    (hSb : ∀ x v A A', See x v A → Below A.heap.size A A' → See x v A') (hSc : ∀ x v, Cellular (See x v))
    (I : List α → World → Prop) (Ix : Code → List α → World → Prop) (hI : Under w.heap.size I) (hIx : ∀ c, Under w.heap.size (Ix c)) (h0 : I [] w)
    (Ax : Value → Act → World → Prop) (hAx : ∀ v a', Cellular (Ax v a'))
    (hassign : ∀ (l : Nat) (v : Value) (W : World) (K : Act → World → Prop), (∀ a' W', Below W.heap.size W W' → Ax v a' W' → K a' W') →
      assign.wpIn (F.inRound l) (n - 1 - 1) P (Exit.then K (fun _ _ _ => False)) { tmps := (ps.zip #[v]).foldl (fun t (p, v) => t.setIfInBounds p v) a.tmps, defers := [] } W)
    (hbody : ∀ (l : Nat) (pre : List α) (x : α) (rest : List α) (v : Value) (a' : Act) (W : World), w.heap.size ≤ l → (∃ r, W.heap[l]? = some (.loop r)) → L = pre ++ x :: rest → I pre W → See x v W → Ax v a' W →
      body.wpIn (F.inRound l) (n - 1 - 1) P (seesPost w.heap.size I Ix (pre ++ [x]) W) a' W)
    (hdone : ∀ (D : Nat) (W : World), w.heap.size ≤ D → I L W → W.heap[D]? = some (.deferred (some [])) → Q .normal { a with defers := { target := .collected D, args := #[] } :: a.defers } W)
    (hstop : ∀ (D : Nat) (c : Code) (pre : List α) (W : World), w.heap.size ≤ D → Ix c pre W → W.heap[D]? = some (.deferred (some [])) → c.wpIn F n P Q { a with defers := { target := .collected D, args := #[] } :: a.defers } W) :
    (Code.rangeFunc g ps assign body).wpIn F n P Q a w := by
  refine wpIn_rangeFunc fun fn hfn => ?_
  rw [hro]
  obtain ⟨k, hk⟩ : ∃ k, k = w.heap.size := ⟨_, rfl⟩
  obtain ⟨rec, hrec⟩ : ∃ rec : LoopState → Option Code → Loop, rec = fun st pe => { state := st, pending := pe, fn, tmps := a.tmps, params := ps, assign, body, defers := w.heap.size } := ⟨_, rfl⟩
  obtain ⟨W1, hW1⟩ : ∃ W1, (w.alloc (.deferred (some []))).alloc (.loop (rec .ready none)) = W1 := ⟨_, rfl⟩
  have hz1 : W1.heap.size = k + 2 := by rw [← hW1, hk]; simp
  have hL1 : W1.heap[k + 1]? = some (.loop (rec .ready none)) := by
    rw [← hW1, hk]; have := World.alloc_heap_new (w.alloc (.deferred (some []))) (.loop (rec .ready none)); rwa [World.size_alloc] at this
  have hK1 : W1.heap[k]? = some (.deferred (some [])) := by
    rw [← hW1, hk]; exact (Below.heap_alloc _ _ _ (by simp)).trans (World.alloc_heap_new w _)
  have hB1 : Below w.heap.size w W1 := by rw [← hW1]; exact ((Below.refl _ w).alloc (Nat.le_refl _) _).alloc (by simp) _
  have hb1 : Below w0.heap.size w0 W1 := hb0.trans (hB1.mono hb0.size)
  have hI1 : I [] W1 := hI _ _ _ h0 hB1
  refine ⟨k + 1, [{ target := .collected k, args := #[] }], W1, { target := .fn (.func gf) lb, args := #[.func (.yield (k + 1)) #[] #[]] }, W1, gf, #[.func (.yield (k + 1)) #[] #[]] ++ lb, W1, ?_, ?_, ?_, ?_, fun _ => h1, ?_⟩
  · rw [← hW1, hrec, hk]; exact run_enterLoop_outer _ _ _ _ _
  · simp only [resolve, hg]
    simp [go_sem]
  · intro f' hf'; simp [Target.leads] at hf'; subst hf'; exact hFg
  · simp [invoke, go_sem, eg]
  have hkeep : ∀ {A A' : World}, Below W1.heap.size A A' → (∀ r, A.heap[k + 1]? = some r → A'.heap[k + 1]? = some r) ∧ (∀ r, A.heap[k]? = some r → A'.heap[k]? = some r) :=
    fun hb => ⟨fun r h => (hb.block _ (by omega)).trans h, fun r h => (hb.block _ (by omega)).trans h⟩
  refine (hseq (k + 1)
    (fun pre W => I pre W ∧ W.heap[k + 1]? = some (.loop (rec .ready none)) ∧ W.heap[k]? = some (.deferred (some [])))
    (fun pre W => ∃ c, Ix c pre W ∧ W.heap[k + 1]? = some (.loop (rec .done (some c))) ∧ W.heap[k]? = some (.deferred (some []))) W1 hb1
    (fun s A A' hs hb => ⟨hI s A A' hs.1 (hb.mono (by omega)), (hkeep hb).1 _ hs.2.1, (hkeep hb).2 _ hs.2.2⟩)
    (fun s A A' hs hb => by obtain ⟨c, hc, hl, hd⟩ := hs; exact ⟨c, hIx c s A A' hc (hb.mono (by omega)), (hkeep hb).1 _ hl, (hkeep hb).2 _ hd⟩)
    ?_ ⟨hI1, hL1, hK1⟩).mono ?_
  · -- one round
    rintro pre x rest v W hLx ⟨hi, hl, hd⟩ hsee
    have hlt : k + 1 < W.heap.size := (Array.getElem?_eq_some_iff.1 hl).1
    have hy := run_yield (P := P) (args := #[v]) hl (by rw [hrec]; exact hps.symm)
    rw [hrec] at hy
    refine ⟨fn, _, assign, body, hy, roundIn_of_wpIn hfn (hassign _ v W _ fun a' Wa hba hax => ?_)⟩
    have hla : Wa.heap[k + 1]? = some (.loop (rec .ready none)) := (hba.block _ hlt).trans hl
    have hda : Wa.heap[k]? = some (.deferred (some [])) := (hba.block _ (by omega)).trans hd
    have hlta : k + 1 < Wa.heap.size := Nat.lt_of_lt_of_le hlt hba.size
    refine ⟨_, run_beginRound hla (by rw [hrec]), ?_⟩
    obtain ⟨Wb, hWb⟩ : ∃ Wb, Wb = Wa.putObj (k + 1) (.loop { rec .ready none with state := .busy }) := ⟨_, rfl⟩
    rw [← hWb]
    have hlb : Wb.heap[k + 1]? = some (.loop { rec .ready none with state := .busy }) := by rw [hWb]; exact World.putObj_heap_same hlta
    have hdb : Wb.heap[k]? = some (.deferred (some [])) := by rw [hWb]; exact (World.putObj_heap_other (by omega)).trans hda
    have hib : I pre Wb := by rw [hWb]; exact hI _ _ _ (hI _ _ _ hi (hba.mono (by omega))) (below_putObj _ _ _ (by omega))
    have hsb : See x v Wb := by rw [hWb]; exact hSc x v _ _ _ _ (hSb x v _ _ hsee hba) hla rfl
    have hab : Ax v a' Wb := by rw [hWb]; exact hAx v a' _ _ _ _ hax hla rfl
    have hub : Upper W1.heap.size W Wb := by rw [hWb]; exact (Upper.of_below hba).trans (Upper.putObj _ _ _ (by omega))
    refine wpIn_mono (hbody _ pre x rest v a' Wb (by omega) ⟨_, hlb⟩ hLx hib hsb hab) ?_
    have fin : ∀ (jump : Option Code) (W3 : World), Upper w.heap.size Wb W3 →
        (Instr.endRound (k + 1) jump).run P W3 = .ok (.bool jump.isNone) (W3.putObj (k + 1) (.loop (rec (if jump.isNone then .ready else .done) jump))) ∧
        (W3.putObj (k + 1) (.loop (rec (if jump.isNone then .ready else .done) jump))).heap[k + 1]? = some (.loop (rec (if jump.isNone then .ready else .done) jump)) ∧
        (W3.putObj (k + 1) (.loop (rec (if jump.isNone then .ready else .done) jump))).heap[k]? = some (.deferred (some [])) ∧
        Upper W1.heap.size W (W3.putObj (k + 1) (.loop (rec (if jump.isNone then .ready else .done) jump))) := fun jump W3 hu => by
      have hl3 := (hu.same _ (by omega) (Array.getElem?_eq_some_iff.1 hlb).1).trans hlb
      have hd3 := (hu.same _ (by omega) (Array.getElem?_eq_some_iff.1 hdb).1).trans hdb
      have := run_endRound (P := P) jump hl3
      rw [hrec] at this ⊢
      exact ⟨this, World.putObj_heap_same (Array.getElem?_eq_some_iff.1 hl3).1, (World.putObj_heap_other (by omega)).trans hd3, (hub.trans (hu.mono (by omega))).trans (Upper.putObj _ _ _ (by omega))⟩
    rintro e a3 W3 hp
    cases e with
    | normal =>
      obtain ⟨hr, hl4, hd4, hu4⟩ := fin none W3 hp.1
      exact ⟨_, _, hr, .inl ⟨rfl, ⟨hI _ _ _ hp.2 (below_putObj _ _ _ (by omega)), hl4, hd4⟩, hu4⟩⟩
    | ret =>
      obtain ⟨hr, hl4, hd4, _⟩ := fin (some .ret) W3 hp.1
      exact ⟨_, _, hr, .inr ⟨rfl, .ret, hIx _ _ _ _ hp.2 (below_putObj _ _ _ (by omega)), hl4, hd4⟩⟩
    | exit id =>
      obtain ⟨hr, hl4, hd4, _⟩ := fin (some (.exit id)) W3 hp.1
      exact ⟨_, _, hr, .inr ⟨rfl, .exit id, hIx _ _ _ _ hp.2 (below_putObj _ _ _ (by omega)), hl4, hd4⟩⟩
    | goto t =>
      obtain ⟨hr, hl4, hd4, _⟩ := fin (some (.goto t)) W3 hp.1
      exact ⟨_, _, hr, .inr ⟨rfl, .goto t, hIx _ _ _ _ hp.2 (below_putObj _ _ _ (by omega)), hl4, hd4⟩⟩
    | panic ch => exact hp.elim
    | outgrown => exact hp.elim
  · -- behind the iterator
    rintro e W2 ⟨⟨v, rfl⟩, (⟨hi, hl, hd⟩ | ⟨pre, c, hi, hl, hd⟩)⟩
    · exact ⟨none, _, by have := run_endLoop (P := P) hl (by rw [hrec]; simp); rw [hrec] at this; exact this, hdone k _ (by omega) (hI _ _ _ hi (below_putObj _ _ _ (by omega))) ((World.putObj_heap_other (by omega)).trans hd)⟩
    · exact ⟨some c, _, by have := run_endLoop (P := P) hl (by rw [hrec]; simp); rw [hrec] at this; exact this, hstop k c pre _ (by omega) (hIx c _ _ _ hi (below_putObj _ _ _ (by omega))) ((World.putObj_heap_other (by omega)).trans hd)⟩
#print axioms wpIn_range_sees
end Go.Proofs.YtncbimbbkealmaaGreatDoor
