/-
  KMk, Kown, KOwn2, KeptK, KGr, KLf, ForbK, KAf, KAfS, KAfE, in one text.
-/
import Derived.Test.YtncbimbbkealmaaDoorFdM1
import Derived.Test.YtncbimbbkealmaaDoorCfM1
import Derived.Deep.DeepCutAuto
import Derived.Lib.Hide
import Derived.Test.YtncbimbbkealmaaDoorKs
import Derived.Test.YtncbimbbkealmaaDoorKVal
import Derived.Test.YtncbimbbkealmaaDoorIter
import Derived.Maps.OwnIn
import Derived.Lib.SmallJoins
import Derived.OwnWalk
import Derived.Deep.RegionHeld3
import Derived.Test.YtncbimbbkealmaaDoorBw
import Derived.Test.YtncbimbbkealmaaDoorKEq
import Derived.BigQuiet
/-
  LISTS OF FLAGS IN A BLOCK OF THEIR OWN: what writes marks into such a list, and what asks for them.
-/
namespace Go.Proofs.YtncbimbbkealmaaDoor
open Go.RowKit
set_option maxRecDepth 100000
section
variable (w : World)
theorem markK_zero (a : Option Addr) (cap : Nat) (k : Nat) :
    Calls Tryd.prog 23 #[.slice a 0 cap, .int .i64 k] w fun r w' => r = .returned (.int .i64 (k : Nat)) ∧ Below w.heap.size w w' := by
  go_enter Tryd.func23, Tryd.ntmps23
  go_wp2
  go_loopw [1, 5] (fun q i wr => q = .int .i64 k ∧ i = .int .i64 0 ∧ Below w.heap.size w wr) (fun _ _ _ => 0)
  case atStart => exact ⟨rfl, rfl, by (repeat (first | exact Below.refl _ _ | assumption | refine bchain (by assumption) ?_ | refine balloc ?_ _ | apply Below.drew | apply below_drewN | (refine Below.alloc ?_ (by (try simp) <;> omega) _) | (refine Below.setCell ?_ (by (try simp) <;> omega) _)))⟩
  case round =>
    obtain ⟨rfl, rfl, hb⟩ := hrel
    go_wp2
    go_ret
    exact ⟨rfl, hb⟩
set_option maxHeartbeats 1000000 in
theorem markK_some (B cap l k : Nat) (f : Nat → Value) (hl : l ≤ 1048576) (hk : k ≤ 1048576) (hc : CV w B (l * 3) f) (hf : ∀ c, w.frozen? ⟨B, c, none⟩ = false) :
    Calls Tryd.prog 23 #[.slice (some ⟨B, 0, none⟩) l cap, .int .i64 k] w fun r w' => r = .returned (.int .i64 ((k : Int) + l * 3)) ∧ Chg (fun b => b = B) w w' ∧ CV w' B (l * 3) (mkV 3 k (l * 3) f) ∧ ∀ c, w'.frozen? ⟨B, c, none⟩ = false := by
  replace hc := Lib.hid hc
  replace hf := Lib.hid hf
  go_enter Tryd.func23, Tryd.ntmps23
  go_wp2
  go_loopw [1, 5] (fun q i wr => ∃ j : Nat, j ≤ l ∧ q = .int .i64 ((k : Int) + j * 3) ∧ i = .int .i64 j ∧ CV wr B (l * 3) (mkV 3 k (j * 3) f) ∧ (∀ c, wr.frozen? ⟨B, c, none⟩ = false) ∧ Chg (fun b => b = B) w wr) (fun _ i _ => l - (intOf i).toNat)
  case atStart => exact ⟨0, by omega, by simp, rfl, hc.out.congr (fun i hi => by rw [Nat.zero_mul]; exact mkV_zero _ _ _ _), hf.out, Chg.of_below (Below.refl _ _)⟩
  case round =>
    obtain ⟨j, hj, rfl, rfl, hC, hF, hb⟩ := hrel
    by_cases hlt : j < l
    · have hn := (((hC.lo (x := (k : Int) + j * 3) (by omega) (by omega) (by push_cast; omega)).lo (x := (k : Int) + j * 3 + 1) (by omega) (by omega) (by push_cast; omega)).hi (x := (k : Int) + j * 3 + 2) (by omega) (by omega) (by push_cast; omega))
      rw [show j * 3 + 2 + 1 = (j + 1) * 3 by omega] at hn
      have c0 := hC (j * 3) (by omega)
      have f0 := hF (j * 3)
      have c1 := hC (j * 3 + 1) (by omega)
      have f1 := hF (j * 3 + 1)
      have c2 := hC (j * 3 + 2) (by omega)
      have f2 := hF (j * 3 + 2)
      rw [mkV_out (by omega)] at c0 c1 c2
      have hF2 : Hid (∀ c, (((wr.setCell ⟨B, j * 3, none⟩ (.int .i64 ((k : Int) + j * 3))).setCell ⟨B, j * 3 + 1, none⟩ (.int .i64 ((k : Int) + j * 3 + 1))).setCell ⟨B, j * 3 + 2, none⟩ (.int .u32 ((k : Int) + j * 3 + 2))).frozen? ⟨B, c, none⟩ = false) := fun c => by simp [hF c]
      have hB2 := Lib.hid (((hb.trans (Chg.setCell (Own := fun b => b = B) _ ⟨B, j * 3, none⟩ (.int .i64 ((k : Int) + j * 3)) rfl)).trans (Chg.setCell (Own := fun b => b = B) _ ⟨B, j * 3 + 1, none⟩ (.int .i64 ((k : Int) + j * 3 + 1)) rfl)).trans (Chg.setCell (Own := fun b => b = B) _ ⟨B, j * 3 + 2, none⟩ (.int .u32 ((k : Int) + j * 3 + 2)) rfl))
      replace hn := Lib.hid hn
      clear hC hF
      obtain ⟨z0, hz0⟩ : ∃ z, f (j * 3) = z := ⟨_, rfl⟩
      rw [hz0] at c0
      obtain ⟨z1, hz1⟩ : ∃ z, f (j * 3 + 1) = z := ⟨_, rfl⟩
      rw [hz1] at c1
      obtain ⟨z2, hz2⟩ : ∃ z, f (j * 3 + 2) = z := ⟨_, rfl⟩
      rw [hz2] at c2
      clear hz0 hz1 hz2
      have hkj : (k : Int) + j * 3 + 2 ≤ 8388608 := by omega
      go_wp2
      go_roundw
      case rel => exact ⟨j + 1, by omega, by go_num, by go_num, hn.out, hF2.out, hB2.out⟩
      case measure => simp [intOf]; omega
    · obtain rfl : j = l := by omega
      have hdd := decide_eq_false (show ¬ ((j : Int) < (j : Int)) by omega)
      replace hC := Lib.hid hC
      replace hF := Lib.hid hF
      go_wp2
      go_ret
      exact ⟨by go_num, hb, hC.out, hF.out⟩
theorem markK_any (w0 : World) (v : Value) (l k : Nat) (f : Nat → Value) (hl : l ≤ 1048576) (hk : k ≤ 1048576) (h : OwnV w0 w v l 3 f) :
    Calls Tryd.prog 23 #[v, .int .i64 k] w fun r w' => r = .returned (.int .i64 ((k : Int) + l * 3)) ∧ Chg (fun b => 0 < l ∧ Value.ownBlock v = some b) w w' ∧ OwnV w0 w' v l 3 (mkV 3 k (l * 3) f) := by
  obtain ⟨a, cap, rfl, h1, h2, h3⟩ := h
  rcases Nat.eq_zero_or_pos l with h0 | h0
  · subst h0
    refine (markK_zero w a cap k).mono fun r w' ⟨hr, hb⟩ => ⟨by rw [hr]; simp, Chg.of_below hb, a, cap, rfl, h1, h2, fun c => absurd c (Nat.lt_irrefl _)⟩
  · obtain ⟨B, rfl, hB0, hB, hc, hf⟩ := h3 h0
    exact (markK_some w B cap l k f hl hk hc hf).mono fun r w' ⟨hr, hb, hc', hf'⟩ => ⟨hr, hb.mono (fun b hb => ⟨h0, by subst hb; rfl⟩), _, cap, rfl, h1, h2, fun _ => ⟨B, rfl, hB0, Nat.lt_of_lt_of_le hB hb.size, hc', hf'⟩⟩
end
end Go.Proofs.YtncbimbbkealmaaDoor
namespace Go.Proofs.YtncbimbbkealmaaDoor
open Go.RowKit
set_option maxRecDepth 100000
/-- flags as cells -/
def ksC (gs : List (Int × Int × Int)) : List Value := gs.flatMap fun g => [.int .i64 g.1, .int .i64 g.2.1, .int .u32 g.2.2]
theorem ksC_snoc (gs : List (Int × Int × Int)) (g : Int × Int × Int) : ksC (gs ++ [g]) = ksC gs ++ [.int .i64 g.1, .int .i64 g.2.1, .int .u32 g.2.2] := by simp [ksC]
theorem ksC_length (gs : List (Int × Int × Int)) : (ksC gs).length = gs.length * 3 := by
  induction gs with
  | nil => rfl
  | cons g gs ih => simp only [ksC, List.flatMap_cons, List.length_append, List.length_cons, List.length_nil] at ih ⊢; omega
theorem ksC_get : ∀ (gs : List (Int × Int × Int)) (i : Nat), i < gs.length → (ksC gs)[i * 3]? = some (.int .i64 (kAt gs i).1) ∧ (ksC gs)[i * 3 + 1]? = some (.int .i64 (kAt gs i).2.1) ∧ (ksC gs)[i * 3 + 2]? = some (.int .u32 (kAt gs i).2.2) := by
  intro gs
  induction gs with
  | nil => intro i hi; simp at hi
  | cons g gs ih =>
    intro i hi
    have e : ksC (g :: gs) = .int .i64 g.1 :: .int .i64 g.2.1 :: .int .u32 g.2.2 :: ksC gs := rfl
    rw [e]
    cases i with
    | zero => exact ⟨rfl, rfl, rfl⟩
    | succ i =>
      have := ih i (by simpa using hi)
      rw [show (i + 1) * 3 = i * 3 + 1 + 1 + 1 by omega, List.getElem?_cons_succ, List.getElem?_cons_succ, List.getElem?_cons_succ, show i * 3 + 1 + 1 + 1 + 1 = (i * 3 + 1) + 1 + 1 + 1 by omega, List.getElem?_cons_succ, List.getElem?_cons_succ, List.getElem?_cons_succ, show i * 3 + 1 + 1 + 1 + 2 = (i * 3 + 2) + 1 + 1 + 1 by omega, List.getElem?_cons_succ, List.getElem?_cons_succ, List.getElem?_cons_succ]
      exact this
/-- in the world w the value v is a list of the flags gs, in memory that w0 did not have -/
def OwnK (w0 w : World) (v : Value) (gs : List (Int × Int × Int)) : Prop := OwnV w0 w v gs.length 3 (fun c => (ksC gs)[c]?.getD undef)
theorem OwnK.below {w0 w w' : World} {v : Value} {gs : List (Int × Int × Int)} (h : OwnK w0 w v gs) (hb : Below w.heap.size w w') : OwnK w0 w' v gs := OwnV.below h hb
theorem OwnK.mono {w0 w1 w : World} {v : Value} {gs : List (Int × Int × Int)} (h : OwnK w1 w v gs) (hz : w0.heap.size ≤ w1.heap.size) : OwnK w0 w v gs := OwnV.mono h hz
theorem OwnK.sl {w0 w : World} {v : Value} {gs : List (Int × Int × Int)} (h : OwnK w0 w v gs) : SlK w v gs := by
  obtain ⟨a, cap, rfl, h1, h2, h3⟩ := h
  refine ⟨a, cap, rfl, h1, h2, fun hne => ?_⟩
  obtain ⟨B, rfl, _, hB, hc, _⟩ := h3 (List.length_pos_iff.2 hne)
  refine ⟨B, 0, rfl, hB, fun i hi => ?_⟩
  obtain ⟨g0, g1, g2⟩ := ksC_get gs i hi
  have c0 : w.cell? ⟨B, i * 3, none⟩ = some ((ksC gs)[i * 3]?.getD undef) := hc (i * 3) (by omega)
  have c1 : w.cell? ⟨B, i * 3 + 1, none⟩ = some ((ksC gs)[i * 3 + 1]?.getD undef) := hc (i * 3 + 1) (by omega)
  have c2 : w.cell? ⟨B, i * 3 + 2, none⟩ = some ((ksC gs)[i * 3 + 2]?.getD undef) := hc (i * 3 + 2) (by omega)
  rw [g0] at c0
  rw [g1] at c1
  rw [g2] at c2
  unfold KCell
  rw [Nat.zero_add]
  exact ⟨c0, c1, c2⟩
theorem ownK_of_row {w0 w : World} {base : Nat} {e : TypeId} {v : Value} {gs : List (Int × Int × Int)} (h : w.ownsRow base e 3 v gs.length (ksC gs)) (hb : w0.heap.size ≤ base) : OwnK w0 w v gs := ownV_of_row h hb
theorem ownK_nil {w0 w : World} : OwnK w0 w (.slice none 0 0) [] := ownV_nil
/-- a copy of the laws' own may be marked -/
theorem info_flagKK : True := trivial
end Go.Proofs.YtncbimbbkealmaaDoor
/-
  A LOOP OVER AN ITERATOR THAT MAKES MEMORY OF ITS OWN FROM ROUND TO ROUND: as KOwn, but the caller's invariant may be said of whatever blocks of the iterator's: old ones are left out, ones to come are taken in.
-/
namespace Go.Proofs.YtncbimbbkealmaaDoor
open Go.RowKit

/-- the contract of such an iterator -/
def SeqOwn2 {α : Type} (F : Fence) (n : Nat) (P : Program) (g : Nat) (lb : Array Value) (Inv : World → Prop) (See : α → Value → World → Prop) (L : List α) (w : World) : Prop :=
  ∀ (l : Nat) (J : (Nat → Prop) → List α → World → Prop) (W : World), Below w.heap.size w W →
    (∀ Own, (∀ b, Own b → W.heap.size ≤ b) → ∀ s A A', J Own s A → Chg Own A A' → J Own s A') → (∀ Own s A, J Own s A → Inv A) →
    (∀ Own Own' s A, (∀ b, Own' b → W.heap.size ≤ b) → (∀ b, Own' b → Own b ∨ A.heap.size ≤ b) → J Own s A → J Own' s A) →
    (∀ Own pre x rest v W1, (∀ b, Own b → W.heap.size ≤ b ∧ b < W1.heap.size) → L = pre ++ x :: rest → J Own pre W1 → See x v W1 → YieldAt F (n - 1) P l #[v] W1 fun e W' =>
      e = .returned (.bool true) ∧ J Own (pre ++ [x]) W' ∧ W1.heap.size ≤ W'.heap.size ∧ ∀ b, Own b → W'.heap[b]? = W1.heap[b]?) →
    (∀ Own A, (∀ b, Own b → W.heap.size ≤ b) → Below W.heap.size W A → J Own [] A) →
    CallsIn F n P g (#[.func (.yield l) #[] #[]] ++ lb) W fun e W' => (∃ v, e = .returned v) ∧ ∃ Own, (∀ b, Own b → W.heap.size ≤ b) ∧ J Own L W'

/-- an iterator that does not need to be told of blocks to come -/
theorem SeqOwn.two {α : Type} {F : Fence} {n : Nat} {P : Program} {g : Nat} {lb : Array Value} {Inv : World → Prop} {See : α → Value → World → Prop} {L : List α} {w : World} (h : SeqOwn F n P g lb Inv See L w) : SeqOwn2 F n P g lb Inv See L w :=
  fun l J W hW hJ hJi _ hY h0 => h l J W hW hJ hJi hY h0
variable {F : Fence} {n : Nat} {P : Program}

/-- the statement -/
theorem wpIn_range_own2 {α : Type} {g : Operand} {ps : Array Tmp} {assign body : Code} {Q : Exit → Act → World → Prop} {a : Act} {w : World}
    (hro : F.round = none) (h1 : 1 ≤ n) {gf : Nat} {lb : Array Value} (hg : a.eval g = .func (.func gf) #[] lb) (hFg : F.fn gf) (eg : ∀ args w, (callFunc gf args).run P w = .ok (.enter gf args) w)
    {Inv : World → Prop} {See : α → Value → World → Prop} {L : List α} {w0 : World} (hseq : SeqOwn2 F (n - 1) P gf lb Inv See L w0) (hb0 : Below w0.heap.size w0 w) (hps : ps.size = 1)
    (hSb : ∀ x v A A', See x v A → Below A.heap.size A A' → See x v A') (hSc : ∀ x v, Cellular (See x v))
    (I : (Nat → Prop) → List α → World → Prop) (hInv : ∀ Own s A, I Own s A → Inv A)
    (hI : ∀ Own, (∀ b, Own b → w.heap.size ≤ b) → ∀ s A A', I Own s A → Chg Own A A' → I Own s A')
    (hIo : ∀ Own Own' s A, (∀ b, Own' b → w.heap.size ≤ b) → (∀ b, Own' b → Own b ∨ A.heap.size ≤ b) → I Own s A → I Own' s A)
    (h0 : ∀ Own A, (∀ b, Own b → w.heap.size ≤ b) → Below w.heap.size w A → I Own [] A)
    (Ax : Value → Act → World → Prop) (hAx : ∀ v a', Cellular (Ax v a'))
    (hassign : ∀ (l : Nat) (x : α) (v : Value) (W : World) (K : Act → World → Prop), See x v W → (∀ a' W', Below W.heap.size W W' → Ax v a' W' → K a' W') →
      assign.wpIn (F.inRound l) (n - 1 - 1) P (Exit.then K (fun _ _ _ => False)) { tmps := (ps.zip #[v]).foldl (fun t (p, v) => t.setIfInBounds p v) a.tmps, defers := [] } W)
    (hbody : ∀ (l : Nat) (Own : Nat → Prop) (pre : List α) (x : α) (rest : List α) (v : Value) (a' : Act) (W : World), (∀ b, Own b → w.heap.size ≤ b ∧ b < W.heap.size) → L = pre ++ x :: rest → I Own pre W → See x v W → Ax v a' W →
      body.wpIn (F.inRound l) (n - 1 - 1) P (ownPost Own (I Own) (pre ++ [x]) W) a' W)
    (hdone : ∀ (D : Nat) (Own : Nat → Prop) (W : World), w.heap.size ≤ D → I Own L W → W.heap[D]? = some (.deferred (some [])) → Own D → Q .normal { a with defers := { target := .collected D, args := #[] } :: a.defers } W) :
    (Code.rangeFunc g ps assign body).wpIn F n P Q a w := by
  refine wpIn_rangeFunc fun fn hfn => ?_
  rw [hro]
  obtain ⟨k, hk⟩ : ∃ k, k = w.heap.size := ⟨_, rfl⟩
  obtain ⟨rec, hrec⟩ : ∃ rec : LoopState → Option Code → Loop, rec = fun st pe => { state := st, pending := pe, fn, tmps := a.tmps, params := ps, assign, body, defers := w.heap.size } := ⟨_, rfl⟩
  obtain ⟨W1, hW1⟩ : ∃ W1, (w.alloc (.deferred (some []))).alloc (.loop (rec .ready none)) = W1 := ⟨_, rfl⟩
  have hz1 : W1.heap.size = k + 2 := by rw [← hW1, hk]; simp
  have hL1 : W1.heap[k + 1]? = some (.loop (rec .ready none)) := by
    rw [← hW1, hk]; have := World.alloc_heap_new (w.alloc (.deferred (some []))) (.loop (rec .ready none)); rwa [World.size_alloc] at this
  have hK1 : W1.heap[k]? = some (.deferred (some [])) := by
    rw [← hW1, hk]; exact (Below.heap_alloc _ _ _ (by simp)).trans (World.alloc_heap_new w _)
  have hB1 : Below w.heap.size w W1 := by rw [← hW1]; exact ((Below.refl _ w).alloc (Nat.le_refl _) _).alloc (by simp) _
  have hb1 : Below w0.heap.size w0 W1 := hb0.trans (hB1.mono hb0.size)
  obtain ⟨Ex, hEx⟩ : ∃ Ex : (Nat → Prop) → Nat → Prop, Ex = fun Own b => Own b ∨ b = k ∨ b = k + 1 := ⟨_, rfl⟩
  have hExg : ∀ Own : Nat → Prop, (∀ b, Own b → W1.heap.size ≤ b) → ∀ b, Ex Own b → w.heap.size ≤ b := fun Own h b hb => by
    rw [hEx] at hb
    rcases hb with hb | hb | hb
    · have := h b hb; omega
    · omega
    · omega
  have hEl : ∀ Own, Ex Own (k + 1) := fun Own => by rw [hEx]; exact .inr (.inr rfl)
  refine ⟨k + 1, [{ target := .collected k, args := #[] }], W1, { target := .fn (.func gf) lb, args := #[.func (.yield (k + 1)) #[] #[]] }, W1, gf, #[.func (.yield (k + 1)) #[] #[]] ++ lb, W1, ?_, ?_, ?_, ?_, fun _ => h1, ?_⟩
  · rw [← hW1, hrec, hk]; exact run_enterLoop_outer _ _ _ _ _
  · simp only [resolve, hg]
    simp [go_sem]
  · intro f' hf'; simp [Target.leads] at hf'; subst hf'; exact hFg
  · simp [invoke, go_sem, eg]
  refine (hseq (k + 1)
    (fun Own pre W => I (Ex Own) pre W ∧ W.heap[k + 1]? = some (.loop (rec .ready none)) ∧ W.heap[k]? = some (.deferred (some []))) W1 hb1
    (fun Own ho s A A' hs hb => ⟨hI _ (hExg Own ho) s A A' hs.1 (hb.mono (fun b hb => by rw [hEx]; exact .inl hb)),
      (hb.same _ (Array.getElem?_eq_some_iff.1 hs.2.1).1 (fun c => by have := ho _ c; omega)).trans hs.2.1, (hb.same _ (Array.getElem?_eq_some_iff.1 hs.2.2).1 (fun c => by have := ho _ c; omega)).trans hs.2.2⟩)
    (fun Own s A hs => hInv _ s A hs.1)
    (fun Own Own' s A ho hs h => ⟨hIo _ _ s A (hExg Own' ho) (fun b hb => by
      rw [hEx] at hb ⊢
      rcases hb with hb | hb
      · rcases hs b hb with h1 | h1
        · exact .inl (.inl h1)
        · exact .inr h1
      · exact .inl (.inr hb)) h.1, h.2⟩)
    ?_ (fun Own A ho hA => ⟨h0 _ _ (hExg Own ho) (hB1.trans (hA.mono (by omega))), (hA.block _ (by omega)).trans hL1, (hA.block _ (by omega)).trans hK1⟩)).mono ?_
  · -- one round
    rintro Own pre x rest v W ho hLx ⟨hi, hl, hd⟩ hsee
    have hlt : k + 1 < W.heap.size := (Array.getElem?_eq_some_iff.1 hl).1
    have hy := run_yield (P := P) (args := #[v]) hl (by rw [hrec]; exact hps.symm)
    rw [hrec] at hy
    have hog := hExg Own (fun b hb => (ho b hb).1)
    have hol : ∀ b, Ex Own b → b < W.heap.size := fun b hb => by
      rw [hEx] at hb
      rcases hb with hb | hb | hb
      · exact (ho b hb).2
      · omega
      · omega
    refine ⟨fn, _, assign, body, hy, roundIn_of_wpIn hfn (hassign _ x v W _ hsee fun a' Wa hba hax => ?_)⟩
    have hla : Wa.heap[k + 1]? = some (.loop (rec .ready none)) := (hba.block _ hlt).trans hl
    have hda : Wa.heap[k]? = some (.deferred (some [])) := (hba.block _ (by omega)).trans hd
    have hlta : k + 1 < Wa.heap.size := Nat.lt_of_lt_of_le hlt hba.size
    refine ⟨_, run_beginRound hla (by rw [hrec]), ?_⟩
    obtain ⟨Wb, hWb⟩ : ∃ Wb, Wb = Wa.putObj (k + 1) (.loop { rec .ready none with state := .busy }) := ⟨_, rfl⟩
    rw [← hWb]
    have hzb : Wb.heap.size = Wa.heap.size := by rw [hWb]; simp [World.putObj]
    have hlb : Wb.heap[k + 1]? = some (.loop { rec .ready none with state := .busy }) := by rw [hWb]; exact World.putObj_heap_same hlta
    have hdb : Wb.heap[k]? = some (.deferred (some [])) := by rw [hWb]; exact (World.putObj_heap_other (by omega)).trans hda
    have hib : I (Ex Own) pre Wb := by rw [hWb]; exact hI _ hog _ _ _ (hI _ hog _ _ _ hi (Chg.of_below hba)) (Chg.putObj _ _ _ (hEl Own))
    have hsb : See x v Wb := by rw [hWb]; exact hSc x v _ _ _ _ (hSb x v _ _ hsee hba) hla rfl
    have hab : Ax v a' Wb := by rw [hWb]; exact hAx v a' _ _ _ _ hax hla rfl
    have hsz := hba.size
    refine wpIn_mono (hbody _ (Ex Own) pre x rest v a' Wb (fun b hb => ⟨hog b hb, by have := hol b hb; omega⟩) hLx hib hsb hab) ?_
    rintro e a3 W3 hp
    cases e with
    | normal =>
      obtain ⟨hz3, hs3, hi3⟩ := hp
      have hl3 := (hs3 _ (hEl Own)).trans hlb
      have hd3 := (hs3 k (by rw [hEx]; exact .inr (.inl rfl))).trans hdb
      have hr := run_endRound (P := P) none hl3
      refine ⟨_, _, hr, rfl, ⟨hI _ hog _ _ _ hi3 (Chg.putObj _ _ _ (hEl Own)), ?_, (World.putObj_heap_other (by omega)).trans hd3⟩, ?_, fun b hb => ?_⟩
      · rw [hrec]
        exact World.putObj_heap_same (Array.getElem?_eq_some_iff.1 hl3).1
      · simp only [World.putObj, Array.size_setIfInBounds]; omega
      · have hb2 := ho b hb
        refine (World.putObj_heap_other (by omega)).trans ((hs3 b (by rw [hEx]; exact .inl hb)).trans ?_)
        rw [hWb]
        exact (World.putObj_heap_other (by omega)).trans (hba.block _ hb2.2)
    | ret => exact hp.elim
    | exit id => exact hp.elim
    | goto t => exact hp.elim
    | panic ch => exact hp.elim
    | outgrown => exact hp.elim
  · -- behind the iterator
    rintro e W2 ⟨⟨v, rfl⟩, Own, ho, hi, hl, hd⟩
    exact ⟨none, _, by have := run_endLoop (P := P) hl (by rw [hrec]; simp); rw [hrec] at this; exact this, hdone k (Ex Own) _ (by omega) (hI _ (hExg Own ho) _ _ _ hi (Chg.putObj _ _ _ (hEl Own))) ((World.putObj_heap_other (by omega)).trans hd) (by rw [hEx]; exact .inr (.inl rfl))⟩
#print axioms wpIn_range_own2
/-- the marks of several loops, one behind the other -/
theorem leaves_marks {fn : Func} {tmps : Array Value} {R : Ending → World → Prop} (T : World → Prop) (base : ∀ W, T W → LeavesInM F n P fn tmps R [] .returning W) :
    ∀ (Ds : List Nat) (W : World), Ds.Nodup → (∀ D ∈ Ds, W.heap[D]? = some (.deferred (some []))) → (∀ D ∈ Ds, ∀ W, T W → T (W.putObj D (.deferred none))) → T W →
      LeavesInM F n P fn tmps R (Ds.map fun D => { target := .collected D, args := #[] }) .returning W := by
  intro Ds
  induction Ds with
  | nil => intro W _ _ _ hT; exact base W hT
  | cons D Ds ih =>
    intro W hn hD hp hT
    rw [List.nodup_cons] at hn
    refine ⟨by simp, .inl ⟨D, _, rfl, run_takeDeferred (hD D (by simp)), ih _ hn.2 (fun D' hD' => ?_) (fun D' hD' => hp D' (by simp [hD'])) (hp D (by simp) W hT)⟩⟩
    rw [World.putObj_heap_other (fun c => hn.1 (by rw [← c]; exact hD'))]
    exact hD D' (by simp [hD'])
end Go.Proofs.YtncbimbbkealmaaDoor
/-
  THE FLAGS THAT A FUNCTION TAKES, out of those that an iterator yields: the program's 'kept'.
-/
namespace Go.Proofs.YtncbimbbkealmaaDoor
open Go.RowKit Go.Shelf
set_option maxRecDepth 100000
attribute [local go_sem] Oper.semAt_some

/-- what the values are -/
structure KeptKE (α : Type) where
  a : α → Int
  b : α → Int
  c : α → Int
def KeptKE.val {α : Type} (E : KeptKE α) (x : α) : Value := .agg #[.int .i64 (E.a x), .int .i64 (E.b x), .int .u32 (E.c x)]
/-- .. in a block -/
structure KeptKM (W : World) (B : Nat) (a b c : Int) : Prop where
  lt : B < W.heap.size
  c0 : W.cell? ⟨B, 0, none⟩ = some (.int .i64 a)
  c1 : W.cell? ⟨B, 1, none⟩ = some (.int .i64 b)
  c2 : W.cell? ⟨B, 2, none⟩ = some (.int .u32 c)
theorem KeptKM.block {W W' : World} {B : Nat} {a b c : Int} (h : KeptKM W B a b c) (hz : W.heap.size ≤ W'.heap.size) (hs : W'.heap[B]? = W.heap[B]?) : KeptKM W' B a b c :=
  ⟨Nat.lt_of_lt_of_le h.lt hz, (World.cell?_of_block (a := ⟨B, 0, none⟩) hs).trans h.c0, (World.cell?_of_block (a := ⟨B, 1, none⟩) hs).trans h.c1, (World.cell?_of_block (a := ⟨B, 2, none⟩) hs).trans h.c2⟩
theorem KeptKM.below {W W' : World} {B : Nat} {a b c : Int} (h : KeptKM W B a b c) (hb : Below W.heap.size W W') : KeptKM W' B a b c := h.block hb.size (hb.block _ h.lt)
theorem KeptKM.made (W : World) (a b c : Int) (t : TypeId) : KeptKM (W.alloc (.cells #[.int .i64 (a), .int .i64 (b), .int .u32 (c)] t)) W.heap.size a b c :=
  ⟨by simp, by rw [World.cell?_alloc_new]; rfl, by rw [World.cell?_alloc_new]; rfl, by rw [World.cell?_alloc_new]; rfl⟩
theorem KeptKM.cellular (B : Nat) (a b c : Int) : Cellular (fun W => KeptKM W B a b c) := fun A l o o' h hl ho =>
  ⟨by have := h.lt; simpa [World.putObj] using this, cellular_cell _ _ A l o o' h.c0 hl ho, cellular_cell _ _ A l o o' h.c1 hl ho, cellular_cell _ _ A l o o' h.c2 hl ho⟩
/-- the values that p takes, as cells -/
def KeptKC {α : Type} (E : KeptKE α) (p : α → Bool) (pre : List α) : List Value := (pre.filter p).flatMap fun x => [.int .i64 (E.a x), .int .i64 (E.b x), .int .u32 (E.c x)]
theorem KeptKC_t {α : Type} {E : KeptKE α} {p : α → Bool} {pre : List α} {x : α} (h : p x = true) : KeptKC E p (pre ++ [x]) = KeptKC E p pre ++ [.int .i64 (E.a x), .int .i64 (E.b x), .int .u32 (E.c x)] := by
  simp [KeptKC, List.filter_append, h]
theorem KeptKC_f {α : Type} {E : KeptKE α} {p : α → Bool} {pre : List α} {x : α} (h : p x = false) : KeptKC E p (pre ++ [x]) = KeptKC E p pre := by
  simp [KeptKC, List.filter_append, h]
theorem KeptK_t {α : Type} {p : α → Bool} {pre : List α} {x : α} (h : p x = true) : ((pre ++ [x]).filter p).length = (pre.filter p).length + 1 := by simp [List.filter_append, h]
theorem KeptK_f {α : Type} {p : α → Bool} {pre : List α} {x : α} (h : p x = false) : ((pre ++ [x]).filter p).length = (pre.filter p).length := by simp [List.filter_append, h]
theorem KeptK_len {α : Type} {L pre rest : List α} {x : α} (h : L = pre ++ x :: rest) (hl : L.length ≤ 2000) (p : α → Bool) : (pre.filter p).length ≤ 2000 := by
  rw [h] at hl
  have h2 := List.length_filter_le p pre
  simp at hl
  omega
/-- what the loop of 'kept' keeps -/
structure KeptKI {α : Type} (w : World) (G : Nat) (E : KeptKE α) (p : α → Bool) (fv : Value) (Own : Nat → Prop) (pre : List α) (W : World) : Prop where
  below : Below G w W
  lt : G + 1 < W.heap.size
  f : W.cell? ⟨G, 0, none⟩ = some fv
  fz : W.frozen? ⟨G + 1, 0, none⟩ = false
  l : ∃ u, W.cell? ⟨G + 1, 0, none⟩ = some u ∧ W.ownsRow (G + 2) 33 3 u (pre.filter p).length (KeptKC E p pre) ∧ ∀ b, Value.ownBlock u = some b → ¬ Own b
theorem KeptKI.chg {α : Type} {w : World} {G : Nat} {E : KeptKE α} {p : α → Bool} {fv : Value} {Own : Nat → Prop} (ho : ∀ b, Own b → G + 2 ≤ b) {pre : List α} {A A' : World} (h : KeptKI w G E p fv Own pre A) (hc : Chg Own A A') : KeptKI w G E p fv Own pre A' := by
  have hlt := h.lt
  have h0 := hc.same G (by omega) (fun c => by have := ho _ c; omega)
  have h1 := hc.same (G + 1) hlt (fun c => by have := ho _ c; omega)
  refine ⟨?_, Nat.lt_of_lt_of_le h.lt hc.size, (World.cell?_of_block (a := ⟨G, 0, none⟩) h0).trans h.f, (World.frozen?_of_block (a := ⟨G + 1, 0, none⟩) h1).trans h.fz, ?_⟩
  · exact ⟨hc.os.trans h.below.os, hc.tape.trans h.below.tape, hc.output.trans h.below.output, Nat.le_trans h.below.size hc.size, fun q hq => (hc.same q (by omega) (fun c => by have := ho _ c; omega)).trans (h.below.block q hq)⟩
  · obtain ⟨u, e1, e2, e3⟩ := h.l
    refine ⟨u, (World.cell?_of_block (a := ⟨G + 1, 0, none⟩) h1).trans e1, ⟨e2.1, ?_⟩, e3⟩
    rcases e2.2 with hn | ⟨g, cap, cur, rfl, a1, a2, a3⟩
    · exact .inl hn
    · exact .inr ⟨g, cap, cur, rfl, a1, (hc.same g (Array.getElem?_eq_some_iff.1 a2).1 (e3 g rfl)).trans a2, a3⟩
theorem KeptK_info : (Tryd.prog.info? 33).map (fun i => (i.zero, i.size, i.bytes)) = some (some (.agg #[.int .i64 0, .int .i64 0, .int .u32 0]), 3, 24) := by kernel_rfl
section
variable (w : World)
end
end Go.Proofs.YtncbimbbkealmaaDoor
namespace Go.Proofs.YtncbimbbkealmaaDoor
open Go.RowKit Go.Shelf
set_option maxRecDepth 100000
theorem eMax_pos : ∀ n, n ≤ 5 → 1 ≤ eMax n := by decide
theorem range_split {M j : Nat} (h : j < M) : ∃ rest, List.range M = List.range j ++ j :: rest := by
  obtain ⟨d, rfl⟩ : ∃ d, M = j + 1 + d := ⟨M - (j + 1), by omega⟩
  exact ⟨(List.range d).map (j + 1 + ·), by rw [List.range_add, List.range_succ, List.append_assoc]; rfl⟩
section
variable (w : World)
end
end Go.Proofs.YtncbimbbkealmaaDoor
namespace Go.Proofs.YtncbimbbkealmaaDoor
open Go.RowKit Go.Shelf
set_option maxRecDepth 100000
attribute [local go_sem] Oper.semAt_some
/-- the indexes of the least flags -/
def isL (n k t j : Nat) : Bool := leastK n k (kE t k j) == kE t k j
def lfs (n k t : Nat) : List Nat := (List.range (kM k n)).filter (isL n k t)
theorem lfs_split {n k t j : Nat} (h : j < kM k n) (hl : isL n k t j = true) : ∃ rest, lfs n k t = (List.range j).filter (isL n k t) ++ j :: rest := by
  obtain ⟨rest, hr⟩ := range_split h
  exact ⟨rest.filter (isL n k t), by unfold lfs; rw [hr, List.filter_append, List.filter_cons_of_pos hl]⟩
theorem lf_t {n k t j : Nat} (hl : isL n k t j = true) : (List.range (j + 1)).filter (isL n k t) = (List.range j).filter (isL n k t) ++ [j] := by
  rw [List.range_succ, List.filter_append]; simp [hl]
theorem lf_f {n k t j : Nat} (hl : isL n k t j = false) : (List.range (j + 1)).filter (isL n k t) = (List.range j).filter (isL n k t) := by
  rw [List.range_succ, List.filter_append]; simp [hl]
section
variable (w : World)
theorem lfo_any (k t n : Int) :
    Calls Tryd.prog 65 #[.agg #[.int .i64 k, .int .u32 t], .int .i64 n] w fun r w' => ∃ B, r = .returned (.func (.func 101) #[] #[.pointer (some ⟨B, 0, none⟩), .pointer (some ⟨B + 1, 0, none⟩)]) ∧ w.heap.size ≤ B ∧ B + 1 < w'.heap.size ∧
      w'.cell? ⟨B, 0, none⟩ = some (.int .i64 k) ∧ w'.cell? ⟨B, 1, none⟩ = some (.int .u32 t) ∧ w'.cell? ⟨B + 1, 0, none⟩ = some (.int .i64 n) ∧ Below w.heap.size w w' := by
  have s1 : ∀ (W : World) (o : Obj), (W.alloc o).heap.size = W.heap.size + 1 := fun W o => by simp
  replace s1 := Lib.hid s1
  go_enter Tryd.func65, Tryd.ntmps65
  go_wp2
  go_ret
  refine ⟨w.heap.size, rfl, Nat.le_refl _, by rw [s1.out, s1.out]; omega, ?_, ?_, ?_, by (repeat (first | exact Below.refl _ _ | assumption | refine bchain (by assumption) ?_ | refine balloc ?_ _ | apply Below.drew | apply below_drewN | (refine Below.alloc ?_ (by (try simp) <;> omega) _) | (refine Below.setCell ?_ (by (try simp) <;> omega) _)))⟩
  · rw [cOld _ _ _ _ (by rw [s1.out]; omega), cNew _ _ _ _ _ rfl]; rfl
  · rw [cOld _ _ _ _ (by rw [s1.out]; omega), cNew _ _ _ _ _ rfl]; rfl
  · rw [cNew _ _ _ _ _ (by rw [s1.out])]; rfl
end
theorem shr_kMn : ∀ n, n ≤ 5 → ∀ k, k ≤ 3 → k ≤ n → (eMax n - 1) / 2 ^ min (pc k) 32 + 1 = kM k n := by decide +kernel
theorem kM_le : ∀ n, n ≤ 5 → ∀ k, kM k n ≤ 1024 := fun n hn k => by
  unfold kM
  have h : pc n ≤ 10 := pc_le n
  have h2 : 2 ^ (pc n - pc k) ≤ 2 ^ 10 := Nat.pow_le_pow_right (by omega) (by omega)
  omega
theorem kE_run {k n t j : Nat} (hn : n ≤ 5) (hkn : k ≤ n) (ht : t < eMax k) (hj : j < kM k n) : bits .or .u32 (t : Int) (IntKind.u32.wrap ((j : Int) * 2 ^ min (pc k) 32)) = ((kE t k j : Nat) : Int) := by
  have hp : pc k ≤ 10 := pc_le k
  have h1 : 2 ^ pc k * (j + 1) ≤ 2 ^ pc k * kM k n := Nat.mul_le_mul_left _ hj
  rw [kM_mul hn hkn] at h1
  have h2 := eMax_le n
  have h3 := eMax_le k
  have e1 : ((j : Int) * 2 ^ min (pc k) 32) = ((j <<< pc k : Nat) : Int) := by
    rw [Nat.min_eq_left (by omega), Nat.shiftLeft_eq]
    push_cast
    rfl
  have h4 : j <<< pc k < 4294967296 := by
    rw [Nat.shiftLeft_eq, Nat.mul_comm]
    have : 2 ^ pc k * j ≤ 2 ^ pc k * (j + 1) := Nat.mul_le_mul_left _ (by omega)
    omega
  unfold kE
  obtain ⟨x, hx⟩ : ∃ x, j <<< pc k = x := ⟨_, rfl⟩
  rw [e1, hx]
  rw [hx] at h4
  rw [IntWalk.u32_in _ (by omega), u32_or_nat _ _ (by omega) h4]
theorem shr_kM (n : Nat) (hn : n ≤ 5) (k : Nat) (hk : k ≤ 3) (hkn : k ≤ n) : (((eMax n - 1 : Nat) : Int) / 2 ^ min (pc k) 32 + 1) % 4294967296 = (kM k n : Nat) := by
  have h := shr_kMn n hn k hk hkn
  have h2 := kM_le n hn k
  have e : ((eMax n - 1 : Nat) : Int) / 2 ^ min (pc k) 32 = (((eMax n - 1) / 2 ^ min (pc k) 32 : Nat) : Int) := by push_cast; rfl
  rw [e]
  omega
/-- how far the iterator is -/
structure LfR (J : (Nat → Prop) → List Nat → World → Prop) (W : World) (k n t j : Nat) (Ds : List Nat) (Own : Nat → Prop) (A : World) : Prop where
  own : ∀ b, Own b → W.heap.size ≤ b ∧ b < A.heap.size
  m : Own W.heap.size
  s : Own (W.heap.size + 1)
  nd : Ds.Nodup
  ds : ∀ D ∈ Ds, Own D ∧ A.heap[D]? = some (.deferred (some []))
  jj : J Own ((List.range j).filter (isL n k t)) A
  set : FSet A W.heap.size k n (seenS n k t j)
  c : A.cell? ⟨W.heap.size + 1, 0, none⟩ = some (.map (some W.heap.size))
/-- what the iterator reads -/
def LfInv (Bt Bn k n t : Nat) (A : World) : Prop := A.cell? ⟨Bt, 0, none⟩ = some (.int .i64 k) ∧ A.cell? ⟨Bt, 1, none⟩ = some (.int .u32 t) ∧ A.cell? ⟨Bn, 0, none⟩ = some (.int .i64 n)
set_option maxHeartbeats 4000000 in
theorem lf_own (k n t : Nat) (hn5 : n ≤ 5) (hk3 : k ≤ 3) (hkn : k ≤ n) (ht : t < eMax k) (nn Bt Bn : Nat) (w : World) (hBt : Bt < w.heap.size) (hBn : Bn < w.heap.size) :
    SeqOwn2 Fence.wide nn Tryd.prog 101 #[.pointer (some ⟨Bt, 0, none⟩), .pointer (some ⟨Bn, 0, none⟩)] (LfInv Bt Bn k n t) (fun j v _ => v = .agg #[.int .i64 k, .int .i64 n, .int .u32 (kE t k j : Nat)]) (lfs n k t) w := fun l J W hW hJ hJi hJo hY h0 => by
  have hj0 := h0 (fun _ => False) W (fun _ h => h.elim) (Below.refl _ _)
  obtain ⟨c0, c1, c2⟩ := hJi _ _ _ hj0
  have hE := Lib.hid (fun W => ae_any W n hn5)
  have hP := Lib.hid (fun W => pc_any W k (by omega))
  have hmm := @run_makeMap Tryd.prog
  refine callsIn_wide.2 ((callsIn_wide (n := 5)).1 ?_)
  refine callsIn_of_wp_marks Tryd.func101 rfl trivial ?_ rfl
  simp only [Tryd.ntmps101, List.size_toArray, List.length_cons, List.length_nil, Nat.reduceAdd, Nat.reduceSub, Array.replicate_succ, Array.replicate_zero, List.push_toArray, List.append_toArray, List.nil_append, List.cons_append]
  obtain ⟨W1, hW1⟩ : ∃ W1, W1 = (W.alloc (.map #[] 0)).alloc (.cells #[.map (some W.heap.size)] 100) := ⟨_, rfl⟩
  have hBW : Below W.heap.size W W1 := by rw [hW1]; (repeat (first | exact Below.refl _ _ | assumption | refine bchain (by assumption) ?_ | refine balloc ?_ _ | apply Below.drew | apply below_drewN | (refine Below.alloc ?_ (by (try simp) <;> omega) _) | (refine Below.setCell ?_ (by (try simp) <;> omega) _)))
  have hz1 : W1.heap.size = W.heap.size + 2 := by rw [hW1]; simp
  have hzW := hW.size
  have hS1 : FSet W1 W.heap.size k n [] := by rw [hW1]; exact (FSet.made W k n (by omega) hn5).below ((Below.refl _ _).alloc (Nat.le_refl _) _)
  have hc1 : W1.cell? ⟨W.heap.size + 1, 0, none⟩ = some (.map (some W.heap.size)) := by rw [hW1, cNew _ _ _ _ _ (by simp)]; rfl
  have d0 := (hBW.cell (p := ⟨Bt, 0, none⟩) (by show Bt < _; omega)).trans c0
  have d1 := (hBW.cell (p := ⟨Bt, 1, none⟩) (by show Bt < _; omega)).trans c1
  have d2 := (hBW.cell (p := ⟨Bn, 0, none⟩) (by show Bn < _; omega)).trans c2
  rw [hW1] at d0 d1 d2
  replace hW1 := Lib.hid hW1
  replace hS1 := Lib.hid hS1
  replace hc1 := Lib.hid hc1
  have hj1 := Lib.hid (h0 (fun b => b = W.heap.size ∨ b = W.heap.size + 1) W1 (fun b (hb : b = W.heap.size ∨ b = W.heap.size + 1) => by omega) hBW)
  replace hJ := Lib.hid hJ
  replace hJo := Lib.hid hJo
  replace hY := Lib.hid hY
  replace hJi := Lib.hid hJi
  clear hj0 h0 c0 c1 c2 hBW
  gi_wp2_with (first
    | (refine ⟨trivial, ?_⟩; gi_at_call 102; refine (callsIn_wide.2 (hP.out _)).mono ?_; rintro r3 w3 ⟨rfl, rfl⟩)
    | (refine ⟨trivial, ?_⟩; gi_at_call 97; refine (callsIn_wide.2 (hE.out _)).mono ?_; rintro r4 w4 ⟨rfl, rfl⟩))
  rw [← hW1.out]
  obtain ⟨sh, hsh⟩ : ∃ sh : Int, ((eMax n - 1 : Nat) : Int) / 2 ^ min (pc k) 32 = sh := ⟨_, rfl⟩
  have hM1 : (sh + 1) % 4294967296 = (kM k n : Nat) := by rw [← hsh]; exact shr_kM n hn5 k hk3 hkn
  rw [hsh, hM1]
  obtain ⟨M, hM⟩ : ∃ M, kM k n = M := ⟨_, rfl⟩
  have hMl : M ≤ 1024 := by rw [← hM]; exact kM_le n hn5 k
  rw [hM]
  clear hsh hM1 d0 d1 d2
  replace hM := Lib.hid hM
  refine wpIn_loop (fun a A => ∃ (j : Nat) (Ds : List Nat) (Own : Nat → Prop) (u6 u7 u8 u19 u20 u21 u22 u23 u24 u25 u26 u27 u28 u29 u30 u31 u32 u33 u34 u35 u36 u37 u38 u39 u40 u41 u42 u43 u44 : Value), a = { tmps := #[.func (.yield l) #[] #[], .pointer (some ⟨Bt, 0, none⟩), .pointer (some ⟨Bn, 0, none⟩), undef, .pointer (some ⟨W.heap.size + 1, 0, none⟩), .int .i64 (pc k : Nat), u6, u7, u8, .map (some W.heap.size), .pointer (some ⟨Bt, 0, none⟩), .int .i64 k, .int .i64 (pc k : Nat), .int .i64 n, .int .u32 (eMax n - 1 : Nat), .int .i64 (pc k : Nat), .int .u32 sh, .int .u32 M, .int .u32 j, u19, u20, u21, u22, u23, u24, u25, u26, u27, u28, u29, u30, u31, u32, u33, u34, u35, u36, u37, u38, u39, u40, u41, u42, u43, u44], defers := Ds.map fun D => { target := .collected D, args := #[] } } ∧ j ≤ M ∧ LfR J W k n t j Ds Own A)
    (fun a _ => M - (intOf (a.tmps.getD 18 undef)).toNat) ?start ?round
  case start =>
    exact ⟨0, [], (fun b => b = W.heap.size ∨ b = W.heap.size + 1), _, _, _, _, _, _, _, _, _, _, _, _, _, _, _, _, _, _, _, _, _, _, _, _, _, _, _, _, _, rfl, by omega, ⟨fun b (hb : b = W.heap.size ∨ b = W.heap.size + 1) => (by rw [hz1]; omega), .inl rfl, .inr rfl, List.nodup_nil, fun D hD => (by cases hD), hj1.out, hS1.out, hc1.out⟩⟩
  case round =>
    rintro _ A ⟨j, Ds, Own, u6, u7, u8, u19, u20, u21, u22, u23, u24, u25, u26, u27, u28, u29, u30, u31, u32, u33, u34, u35, u36, u37, u38, u39, u40, u41, u42, u43, u44, rfl, hj, hR⟩
    have hinv := hJi.out _ _ _ hR.jj
    obtain ⟨c0, c1, c2⟩ := hinv
    by_cases hlt : j < M
    · have hAm := (hR.own _ hR.m).2
      have hBtA : Bt < A.heap.size := by omega
      have hBnA : Bn < A.heap.size := by omega
      gi_wp2
      refine wpIn_wide.2 ?_
      go_region_held3 (fun B => B.cell? ⟨Bt, 0, none⟩ = some (.int .i64 k) ∧ B.cell? ⟨Bt, 1, none⟩ = some (.int .u32 t) ∧ B.cell? ⟨Bn, 0, none⟩ = some (.int .i64 n))
        (exact ⟨old_cell hBtA c0 (by (repeat (first | exact Below.refl _ _ | assumption | refine bchain (by assumption) ?_ | refine balloc ?_ _ | apply Below.drew | apply below_drewN | (refine Below.alloc ?_ (by (try simp) <;> omega) _) | (refine Below.setCell ?_ (by (try simp) <;> omega) _)))), old_cell hBtA c1 (by (repeat (first | exact Below.refl _ _ | assumption | refine bchain (by assumption) ?_ | refine balloc ?_ _ | apply Below.drew | apply below_drewN | (refine Below.alloc ?_ (by (try simp) <;> omega) _) | (refine Below.setCell ?_ (by (try simp) <;> omega) _)))), old_cell hBnA c2 (by (repeat (first | exact Below.refl _ _ | assumption | refine bchain (by assumption) ?_ | refine balloc ?_ _ | apply Below.drew | apply below_drewN | (refine Below.alloc ?_ (by (try simp) <;> omega) _) | (refine Below.setCell ?_ (by (try simp) <;> omega) _))))⟩)
        (fail)
      have hjk : j < kM k n := by rw [hM.out]; exact hlt
      have hV : VK k n (kE t k j) := VK.mk' hn5 hk3 hkn (kE_max hn5 hkn (by rw [← eMax_pc k (by omega)]; exact ht) hjk)
      have hsn := seen_iff hn5 hk3 hkn ht hjk
      rw [kE_run hn5 hkn ht hjk]
      obtain ⟨sv, hsv⟩ : ∃ sv, IntKind.u32.wrap ((j : Int) * 2 ^ min (pc k) 32) = sv := ⟨_, rfl⟩
      rw [hsv]
      clear hsv
      have hsp := lfs_split (t := t) hjk
      obtain ⟨y, hy⟩ : ∃ y, kE t k j = y := ⟨_, rfl⟩
      have hlt' : y < 1024 := by have := hV.nums; rw [hy] at this; omega
      have hyl : y < 4294967296 := by omega
      have hisL : isL n k t j = (leastK n k y == y) := by unfold isL; rw [hy]
      have hse : leastK n k y = y → seenS n k t (j + 1) = seenS n k t j ++ tE n k y := fun h => by rw [seenS_t (by rw [hy]; exact h), hy]
      have hsf : leastK n k y ≠ y → seenS n k t (j + 1) = seenS n k t j := fun h => seenS_f (by rw [hy]; exact h)
      have hvs : ∀ b : Nat, b = y → Value.agg #[.int .i64 k, .int .i64 n, .int .u32 ((kE t k j : Nat) : Int)] = .agg #[.int .i64 k, .int .i64 n, .int .u32 (b : Int)] := fun b hb => by rw [hy, hb]
      rw [hy] at hV hsn ⊢
      obtain ⟨A1, hA1⟩ : ∃ A1, A1 = (A.alloc (.cells #[.int .i64 (k : Int), .int .i64 (n : Int), .int .u32 (y : Int)] 33)).drew := ⟨_, rfl⟩
      have hBA : Below A.heap.size A A1 := by rw [hA1]; (repeat (first | exact Below.refl _ _ | assumption | refine bchain (by assumption) ?_ | refine balloc ?_ _ | apply Below.drew | apply below_drewN | (refine Below.alloc ?_ (by (try simp) <;> omega) _) | (refine Below.setCell ?_ (by (try simp) <;> omega) _)))
      have hzA : A1.heap.size = A.heap.size + 1 := by rw [hA1]; show (A.alloc _).heap.size = _; simp
      have hF1 : FC A1 A.heap.size k n y := by rw [hA1]; exact (FC.made A k n y _).below (by (repeat (first | exact Below.refl _ _ | assumption | refine bchain (by assumption) ?_ | refine balloc ?_ _ | apply Below.drew | apply below_drewN | (refine Below.alloc ?_ (by (try simp) <;> omega) _) | (refine Below.setCell ?_ (by (try simp) <;> omega) _))))
      rw [← hA1]
      clear hA1 c0 c1 c2 hy
      have hS1' := hR.set.below hBA
      have hc1' : A1.cell? ⟨W.heap.size + 1, 0, none⟩ = some (.map (some W.heap.size)) := (hBA.cell (p := ⟨W.heap.size + 1, 0, none⟩) (hR.own _ hR.s).2).trans hR.c
      have hj1' := hJ.out Own (fun b hb => (hR.own b hb).1) _ _ _ hR.jj (Chg.of_below hBA)
      have hown1 : ∀ b, Own b → W.heap.size ≤ b ∧ b < A1.heap.size := fun b hb => by have := hR.own b hb; omega
      have hds1 : ∀ D ∈ Ds, Own D ∧ A1.heap[D]? = some (.deferred (some [])) := fun D hD => ⟨(hR.ds D hD).1, (hBA.block D (hR.own D (hR.ds D hD).1).2).trans (hR.ds D hD).2⟩
      have hm1 := hR.m
      have hs1 := hR.s
      have hnd := hR.nd
      have hdA : ∀ D ∈ Ds, D < A.heap.size := fun D hD => (hR.own D (hR.ds D hD).1).2
      obtain ⟨Bf, hBf⟩ : ∃ Bf, A.heap.size = Bf := ⟨_, rfl⟩
      rw [hBf] at hF1 hzA hdA ⊢
      replace hBf := Lib.hid hBf
      replace hds1 := Lib.hid hds1
      replace hown1 := Lib.hid hown1
      replace hdA := Lib.hid hdA
      clear hR hBA hAm hBtA hBnA
      cases hil : isL n k t j
      · have hne : leastK n k y ≠ y := by rw [hisL] at hil; simpa using hil
        have hin : inS k n (seenS n k t j) k n y = true := by unfold inS; simp; exact hsn.2 hne
        have hnx := hsf hne
        have hlf := lf_f hil
        have hRn := Lib.hid (show LfR J W k n t (j + 1) Ds Own A1 from ⟨hown1.out, hm1, hs1, hnd, hds1.out, by rw [hlf]; exact hj1', by rw [hnx]; exact hS1', hc1'⟩)
        replace hS1' := Lib.hid hS1'
        replace hin := Lib.hid hin
        obtain ⟨f0, f1, f2, f3⟩ := hF1
        clear hj1' hnx hlf hsn hisL hil hne hse hsf hsp hV hvs
        gi_wp2_with (gi_at_lookup; refine wpListIn_flagLook rfl _ _ rfl W.heap.size k n (seenS n k t j) rfl hS1'.out k n y rfl (by omega) hn5 hyl true hin.out ?_)
        refine ⟨⟨j + 1, Ds, Own, _, _, _, _, _, _, _, _, _, _, _, _, _, _, _, _, _, _, _, _, _, _, _, _, _, _, _, _, _, rfl, by omega, hRn.out⟩, ?_⟩
        simp [intOf]
        omega
      · have hne : leastK n k y = y := by rw [hisL] at hil; simpa using hil
        have hin : inS k n (seenS n k t j) k n y = false := by
          unfold inS
          simp
          exact fun h => hsn.1 h hne
        have hnx := hse hne
        have hlf := lf_t hil
        obtain ⟨rest, hsp2⟩ := hsp hil
        obtain ⟨S, hSd⟩ : ∃ S, seenS n k t j = S := ⟨_, rfl⟩
        obtain ⟨s, hsd⟩ : ∃ s, (List.range j).filter (isL n k t) = s := ⟨_, rfl⟩
        rw [hSd] at hin hnx hS1'
        rw [hsd] at hlf hsp2 hj1'
        have hYv := Lib.hid (fun Own W1 ho hj => hY.out Own s j rest (.agg #[.int .i64 k, .int .i64 n, .int .u32 (y : Int)]) W1 ho hsp2 hj (hvs y rfl).symm)
        replace hS1' := Lib.hid hS1'
        replace hin := Lib.hid hin
        replace hnx := Lib.hid hnx
        replace hlf := Lib.hid hlf
        replace hV := Lib.hid hV
        replace hj1' := Lib.hid hj1'
        obtain ⟨f0, f1, f2, f3⟩ := id hF1
        replace hF1 := Lib.hid hF1
        clear hsn hisL hil hne hse hsf hsp hvs hsp2 hSd hsd
        gi_wp2_with (first
          | (gi_at_lookup; refine wpListIn_flagLook rfl _ _ rfl W.heap.size k n S rfl hS1'.out k n y rfl (by omega) hn5 hyl false hin.out ?_)
          | (refine ⟨trivial, ?_⟩; gi_at_call 103; refine (callsIn_wide.2 (to_any _ k n y)).mono ?_; rintro r1 A2 ⟨B, rfl, hBge, hFB, hb2⟩))
        have hz2 := hb2.size
        have hF2 := Lib.hid (hF1.out.below hb2)
        have hS2 := Lib.hid (hS1'.out.below hb2)
        have hc2 := (hb2.cell (p := ⟨W.heap.size + 1, 0, none⟩) (hown1.out _ hs1).2).trans hc1'
        have hj2 := Lib.hid (hJ.out Own (fun b hb => (hown1.out b hb).1) _ _ _ hj1'.out (Chg.of_below hb2))
        have hown2 : ∀ b, Own b → W.heap.size ≤ b ∧ b < A2.heap.size := fun b hb => by have := hown1.out b hb; omega
        have hds2 : ∀ D ∈ Ds, Own D ∧ A2.heap[D]? = some (.deferred (some [])) := fun D hD => ⟨(hds1.out D hD).1, (hb2.block D (hown1.out D (hds1.out D hD).1).2).trans (hds1.out D hD).2⟩
        have hBl := hFB.lt
        have hBf2 : Bf < A2.heap.size := hF2.out.lt
        have hBM : B ≠ W.heap.size := by have := (hown1.out _ hm1).2; omega
        have hBfM : Bf ≠ W.heap.size := by have := (hown1.out _ hm1).2; have := hBf.out; intro c; have h3 := (hown1.out _ hs1).2; rw [c] at this; have h4 := hzA; omega
        have hM2 : W.heap.size < A2.heap.size := (hown2 _ hm1).2
        have hs2 : W.heap.size + 1 < A2.heap.size := (hown2 _ hs1).2
        replace hown2 := Lib.hid hown2
        replace hds2 := Lib.hid hds2
        clear f0 f1 f2 f3 hF1 hS1' hc1' hj1' hown1 hds1 hb2 hz2 hBge
        have hog : ∀ Own' : Nat → Prop, (∀ b, Own' b → A2.heap.size ≤ b) → ∀ b, (Own b ∨ Own' b) → W.heap.size ≤ b := fun Own' ho b hb => by
          rcases hb with hb | hb
          · exact (hown2.out b hb).1
          · have := ho b hb; omega
        replace hog := Lib.hid hog
        refine wpIn_range_own rfl (by omega) (gf := 125) (lb := #[.pointer (some ⟨B, 0, none⟩)]) rfl trivial (enters_of Tryd.func125 (by kernel_rfl) rfl)
          (turns_own k n y hV.out 4 B A2 hBl) (Below.refl _ _) rfl (SeeK.below k n y) (SeeK.cellular k n y)
          (fun Own' pre A' => (∀ b, Own' b → A2.heap.size ≤ b) ∧ J (fun b => Own b ∨ Own' b) s A' ∧ FSet A' W.heap.size k n (S ++ pre.map (onL y)) ∧ A2.heap.size ≤ A'.heap.size ∧ ∀ b, b < A2.heap.size → b ≠ W.heap.size → A'.heap[b]? = A2.heap[b]?)
          (fun Own' p A' hs => hFB.block hs.2.2.2.1 (hs.2.2.2.2 B hBl hBM))
          (fun Own' ho p A' A'' hs hc => ⟨ho, hJ.out _ (hog.out Own' ho) _ _ _ hs.2.1 (hc.mono (fun b hb => .inr hb)), hs.2.2.1.of_block (hc.same _ (by have := hs.2.2.2.1; omega) (fun c => by have := ho _ c; omega)), Nat.le_trans hs.2.2.2.1 hc.size,
            fun b hb hne => (hc.same b (by have := hs.2.2.2.1; omega) (fun c => by have := ho _ c; omega)).trans (hs.2.2.2.2 b hb hne)⟩)
          (fun Own' A' ho hA => ⟨ho, hJ.out _ (hog.out Own' ho) _ _ _ (hJo.out _ _ _ _ (hog.out Own' ho) (fun b hb => hb.elim .inl (fun h => .inr (ho b h))) hj2.out) (Chg.of_below hA), by simpa using hS2.out.below hA, hA.size, fun b hb _ => hA.block b hb⟩)
          (fun v a' A' => ∃ Gb z : Nat, v = .agg #[.int .i64 k, .int .i64 n, .int .u32 z] ∧ FC A' Gb k n z ∧ a' = { tmps := #[.func (.yield l) #[] #[], .pointer (some ⟨Bt, 0, none⟩), .pointer (some ⟨Bn, 0, none⟩), undef, .pointer (some ⟨W.heap.size + 1, 0, none⟩), .int .i64 (pc k : Nat), .int .u32 j, .pointer (some ⟨Bf, 0, none⟩), .pointer (some ⟨Gb, 0, none⟩), .map (some W.heap.size), .pointer (some ⟨Bt, 0, none⟩), .int .i64 k, .int .i64 (pc k : Nat), .int .i64 n, .int .u32 (eMax n - 1 : Nat), .int .i64 (pc k : Nat), .int .u32 sh, .int .u32 M, .int .u32 j, .bool true, .int .u32 j, .pointer (some ⟨Bt, 0, none⟩), .int .i64 k, .int .i64 n, .pointer (some ⟨Bt, 1, none⟩), .int .u32 t, .int .u32 j, .int .i64 (pc k : Nat), .int .u32 sv, .int .u32 y, .agg #[.int .i64 n, .int .u32 y], .agg #[.int .i64 k, .int .i64 n, .int .u32 y], .map (some W.heap.size), .agg #[.int .i64 k, .int .i64 n, .int .u32 y], .bool false, .agg #[.int .i64 k, .int .i64 n, .int .u32 y], .func (.func 125) #[] #[.pointer (some ⟨B, 0, none⟩)], v, u38, u39, u40, u41, u42, u43, u44], defers := [] })
          (fun v a' A' l' o o' h hl ho => by obtain ⟨Gb, z, h1, h2, h3⟩ := h; exact ⟨Gb, z, h1, FC.cellular Gb k n z A' l' o o' h2 hl ho, h3⟩) ?assign ?body ?done
        case assign =>
          intro l' x v A' K hv hK
          obtain rfl : v = _ := hv
          gi_wp2
          exact hK _ _ ((Below.refl _ _).alloc (Nat.le_refl _) _) ⟨A'.heap.size, onL y x, rfl, FC.made A' k n _ _, rfl⟩
        case body =>
          rintro l' Own' pre x rest' v a' A' ho hL ⟨hoo, b1, b2, b3, b4⟩ hSv ⟨Gb, z, hv, hFG, rfl⟩
          have hx := turns_ok (n := n) (k := k) hn5 hk3 hkn (x := x) (by rw [hL]; simp)
          have hyz : onL y x = z := by
            have hS' : v = _ := hSv
            rw [hv] at hS'
            simp at hS'
            omega
          have hzl : z < 4294967296 := by
            have := onL_lt y x (by rw [ok_length hx]; exact hn5)
            omega
          have hcA : A'.cell? ⟨W.heap.size + 1, 0, none⟩ = some (.map (some W.heap.size)) := (World.cell?_of_block (a := ⟨W.heap.size + 1, 0, none⟩) (b4 (W.heap.size + 1) hs2 (by omega))).trans hc2
          have hmap : S ++ pre.map (onL y) ++ [z] = S ++ (pre ++ [x]).map (onL y) := by rw [← hyz]; simp
          have hfin := Lib.hid (fun (A4 : World) (hS4 : FSet A4 W.heap.size k n (S ++ pre.map (onL y) ++ [z])) (hg4 : A'.grownBy A4 (some W.heap.size)) =>
            (show ownPost Own' (fun pre A' => (∀ b, Own' b → A2.heap.size ≤ b) ∧ J (fun b => Own b ∨ Own' b) s A' ∧ FSet A' W.heap.size k n (S ++ pre.map (onL y)) ∧ A2.heap.size ≤ A'.heap.size ∧ ∀ b, b < A2.heap.size → b ≠ W.heap.size → A'.heap[b]? = A2.heap[b]?) (pre ++ [x]) A' .normal { tmps := #[], defers := [] } A4 from
              ⟨hg4.size, fun b hb => hg4.block b (ho b hb).2 (by intro c; injection c with c; have := hoo b hb; omega), hoo,
                hJ.out _ (hog.out Own' hoo) _ _ _ b1 ⟨hg4.os, hg4.tape, hg4.output, hg4.size, fun q hq hn => hg4.block q hq (by intro c; injection c with c; exact hn (.inl (by rw [c]; exact hm1)))⟩,
                by rw [← hmap]; exact hS4, Nat.le_trans b3 hg4.size, fun b hb hne => (hg4.block b (by omega) (by intro c; injection c with c; exact hne c)).trans (b4 b hb hne)⟩))
          obtain ⟨S', hS'd⟩ : ∃ S', S ++ pre.map (onL y) = S' := ⟨_, rfl⟩
          rw [hS'd] at hfin b2
          replace b2 := Lib.hid b2
          obtain ⟨g0, g1, g2, g3⟩ := hFG
          clear b1 b4 hSv hv hL hmap hS'd hyz hx hFB hc2
          gi_wp2_with (gi_at_mapUpdate; refine wpListIn_flagStore rfl _ _ _ rfl W.heap.size k n S' rfl b2.out z rfl rfl hzl ?_; intro A4 hS4 hg4)
          exact hfin.out A4 hS4 hg4
        case done =>
          rintro D Own' A3 hD ⟨hoo, b1, b2, b3, b4⟩ hK hOD
          have hF3 := hF2.out.block b3 (b4 Bf hBf2 hBfM)
          have hcA : A3.cell? ⟨W.heap.size + 1, 0, none⟩ = some (.map (some W.heap.size)) := (World.cell?_of_block (a := ⟨W.heap.size + 1, 0, none⟩) (b4 (W.heap.size + 1) hs2 (by omega))).trans hc2
          obtain ⟨Own3, hOwn3⟩ : ∃ Own3 : Nat → Prop, Own3 = fun b => (Own b ∨ Own' b) ∧ b < A3.heap.size := ⟨_, rfl⟩
          have hDl : D < A3.heap.size := (Array.getElem?_eq_some_iff.1 hK).1
          have o3 : ∀ b, Own3 b → W.heap.size ≤ b ∧ b < A3.heap.size := fun b hb => by rw [hOwn3] at hb; exact ⟨hog.out Own' hoo b hb.1, hb.2⟩
          have om : Own3 W.heap.size := by rw [hOwn3]; exact ⟨.inl hm1, by omega⟩
          have os : Own3 (W.heap.size + 1) := by rw [hOwn3]; exact ⟨.inl hs1, by omega⟩
          have oD : Own3 D := by rw [hOwn3]; exact ⟨.inr hOD, hDl⟩
          have od : ∀ D' ∈ Ds, Own3 D' ∧ A3.heap[D']? = some (.deferred (some [])) := fun D' hD' => by
            have h1 := hds2.out D' hD'
            have h2 := hown2.out D' h1.1
            have h3 := hdA.out D' hD'
            refine ⟨by rw [hOwn3]; exact ⟨.inl h1.1, by omega⟩, (b4 D' h2.2 (fun c => ?_)).trans h1.2⟩
            rw [c] at h1
            have := hS2.out
            obtain ⟨_, _, _, es, cl, hh, _⟩ := this
            rw [hh] at h1
            cases h1.2
          have hnd2 : (D :: Ds).Nodup := List.nodup_cons.2 ⟨fun c => by
            have := hown2.out D (hds2.out D c).1
            omega, hnd⟩
          have hj3 : J Own3 s A3 := hJo.out _ _ _ _ (fun b hb => (o3 b hb).1) (fun b hb => by rw [hOwn3] at hb; exact .inl hb.1) b1
          obtain ⟨fn, tmps, assign, body, hy3, hRd⟩ := anyDepth (m' := 4) (hYv.out Own3 A3 o3 hj3)
          have hset3 : FSet A3 W.heap.size k n (seenS n k t (j + 1)) := by rw [hnx.out]; exact b2
          have hfin := Lib.hid (fun (A4 : World) (h1 : J Own3 (s ++ [j]) A4) (h2 : A3.heap.size ≤ A4.heap.size) (h3 : ∀ b, Own3 b → A4.heap[b]? = A3.heap[b]?) =>
            (show LfR J W k n t (j + 1) (D :: Ds) Own3 A4 from ⟨fun b hb => by have := o3 b hb; omega, om, os, hnd2, fun D' hD' => by
              rcases List.mem_cons.1 hD' with rfl | hD'
              · exact ⟨oD, (h3 _ oD).trans hK⟩
              · exact ⟨(od D' hD').1, (h3 _ (od D' hD').1).trans (od D' hD').2⟩, by rw [hlf.out]; exact h1, hset3.of_block (h3 _ om), (World.cell?_of_block (a := ⟨W.heap.size + 1, 0, none⟩) (h3 _ os)).trans hcA⟩))
          replace hRd := Lib.hid hRd
          obtain ⟨f0, f1, f2, f3⟩ := hF3
          clear b1 b2 b4 hFB hc2 hset3 hj3 od hcA hK hnd2 o3 hF2 hS2
          gi_wp2
          refine hRd.out.mono ?_
          rintro e4 A4 ⟨rfl, h1, h2, h3⟩
          have hl4 := hfin.out A4 h1 h2 h3
          replace hl4 := Lib.hid hl4
          clear h1 h2 h3
          gi_wp2
          refine ⟨⟨j + 1, D :: Ds, Own3, _, _, _, _, _, _, _, _, _, _, _, _, _, _, _, _, _, _, _, _, _, _, _, _, _, _, _, _, _, rfl, by omega, hl4.out⟩, ?_⟩
          simp [intOf]
          omega
    · obtain rfl : j = M := by omega
      have hdd := decide_eq_false (show ¬ ((j : Int) < (j : Int)) by omega)
      have hjl : (List.range j).filter (isL n k t) = lfs n k t := by unfold lfs; rw [hM.out]
      have hj5 := hR.jj
      rw [hjl] at hj5
      have hgo : ∀ b, Own b → W.heap.size ≤ b := fun b hb => (hR.own b hb).1
      have hnd := hR.nd
      have hdd2 : ∀ D ∈ Ds, A.heap[D]? = some (.deferred (some [])) := fun D hD => (hR.ds D hD).2
      have hst : ∀ D ∈ Ds, ∀ A', J Own (lfs n k t) A' → J Own (lfs n k t) (A'.putObj D (.deferred none)) := fun D hD A' hA' => hJ.out Own hgo _ _ _ hA' (Chg.putObj A' D _ (hR.ds D hD).1)
      replace hdd2 := Lib.hid hdd2
      replace hst := Lib.hid hst
      replace hj5 := Lib.hid hj5
      replace hjl := Lib.hid hjl
      clear hR c0 c1 c2
      gi_wp2
      exact leaves_marks (fun A => J Own (lfs n k t) A) (fun A' hA' => ⟨.tuple #[], by simp [results, Tryd.results101, go_sem], ⟨_, rfl⟩, Own, hgo, hA'⟩) Ds A hnd hdd2.out hst.out hj5.out
end Go.Proofs.YtncbimbbkealmaaDoor
/-
  LISTS OF FLAGS THAT A CALL RETURNS WITH A CODE; the least flags of a type that have no forbidden part.
-/
namespace Go.Proofs.YtncbimbbkealmaaDoor
open Go.RowKit
set_option maxRecDepth 100000

def RetK (W : World) (L : List (Int × Int × Int)) (c : Int) (r : Ending) (w' : World) : Prop := (∃ u, r = .returned (.tuple #[u, .int .i64 c]) ∧ OwnK W w' u L) ∧ Below W.heap.size W w'
/-- a list that may be too long -/
def RetLim (W : World) (L : List (Int × Int × Int)) (r : Ending) (w' : World) : Prop := (L.length ≤ 64 ∧ RetK W L 0 r w') ∨ (64 < L.length ∧ RetK W [] 3 r w')
theorem ownK_zero (w0 w : World) (a : Option Addr) : OwnK w0 w (.slice a 0 0) [] := ⟨a, 0, by simp, by simp, by simp, fun c => absurd c (by simp)⟩
/-- is a flag of the type wanted -/
def isF (n k t : Nat) (gs : List (Int × Int)) (j : Nat) : Bool := isL n k t j && freeB n (kE t k j) gs
def flL (n k t : Nat) (gs : List (Int × Int)) (m : Nat) : List (Int × Int × Int) := ((List.range m).filter (isF n k t gs)).map fun (j : Nat) => ((k : Int), (n : Int), ((kE t k j : Nat) : Int))
theorem flL_t {n k t : Nat} {gs : List (Int × Int)} {m : Nat} (h : isF n k t gs m = true) : flL n k t gs (m + 1) = flL n k t gs m ++ [((k : Int), (n : Int), ((kE t k m : Nat) : Int))] := by simp [flL, List.range_succ, List.filter_append, h]
theorem flL_f {n k t : Nat} {gs : List (Int × Int)} {m : Nat} (h : isF n k t gs m = false) : flL n k t gs (m + 1) = flL n k t gs m := by simp [flL, List.range_succ, List.filter_append, h]
theorem flL_len (n k t : Nat) (gs : List (Int × Int)) (m : Nat) : (flL n k t gs m).length ≤ m := by
  unfold flL
  rw [List.length_map]
  have := List.length_filter_le (isF n k t gs) (List.range m)
  simpa using this
/-- flags of one type and size, as numbers -/
def flE (n k t : Nat) : KeptKE Nat := ⟨fun _ => (k : Int), fun _ => (n : Int), fun j => ((kE t k j : Nat) : Int)⟩
theorem lfs_free (n k t : Nat) (gs : List (Int × Int)) : (lfs n k t).filter (fun j => freeB n (kE t k j) gs) = (List.range (kM k n)).filter (isF n k t gs) := by
  unfold lfs
  rw [List.filter_filter]
  refine List.filter_congr (fun j _ => ?_)
  unfold isF
  rw [Bool.and_comm]
theorem flE_cells (n k t : Nat) (gs : List (Int × Int)) : KeptKC (flE n k t) (fun j => freeB n (kE t k j) gs) (lfs n k t) = ksC (flL n k t gs (kM k n)) := by
  unfold KeptKC ksC flL flE
  rw [lfs_free, List.flatMap_map]
theorem fl_length (n k t : Nat) (gs : List (Int × Int)) : ((lfs n k t).filter (fun j => freeB n (kE t k j) gs)).length = (flL n k t gs (kM k n)).length := by
  rw [lfs_free]; simp [flL]
theorem lfs_len {n k t : Nat} (hn : n ≤ 5) : (lfs n k t).length ≤ 2000 := by
  unfold lfs
  have h1 := List.length_filter_le (isL n k t) (List.range (kM k n))
  have h2 := kM_le n hn k
  simp at h1
  omega
theorem lfs_mem {n k t j : Nat} (h : j ∈ lfs n k t) : j < kM k n := by
  unfold lfs at h
  have := (List.mem_filter.1 h).1
  simpa using this
end Go.Proofs.YtncbimbbkealmaaDoor
/-
  AllFlags: the program's contract.
-/
namespace Go.Proofs.YtncbimbbkealmaaDoor
open Go.RowKit Go.Shelf
set_option maxRecDepth 100000

section
variable (w : World)
end
end Go.Proofs.YtncbimbbkealmaaDoor
namespace Go.Proofs.YtncbimbbkealmaaDoor
open Go.RowKit Go.Shelf
set_option maxRecDepth 100000
theorem kW_run : ∀ n, n ≤ 5 → ∀ k, k ≤ 3 → k ≤ n → wrap64 ((2 : Int) ^ (pc n - pc k)) = (kM k n : Int) := by decide +kernel
theorem kE_run2 {k n t j : Nat} (hn : n ≤ 5) (hkn : k ≤ n) (ht : t < eMax k) (hj : j < kM k n) : bits .or .u32 (t : Int) (wrap64 ((j : Int) * 2 ^ pc k) % 4294967296) = ((kE t k j : Nat) : Int) := by
  have hp : pc k ≤ 10 := pc_le k
  have h1 : 2 ^ pc k * (j + 1) ≤ 2 ^ pc k * kM k n := Nat.mul_le_mul_left _ hj
  rw [kM_mul hn hkn] at h1
  have h2 := eMax_le n
  have h3 := eMax_le k
  have e1 : ((j : Int) * 2 ^ pc k) = ((j <<< pc k : Nat) : Int) := by
    rw [Nat.shiftLeft_eq]
    push_cast
    rfl
  have h4 : j <<< pc k < 4294967296 := by
    rw [Nat.shiftLeft_eq, Nat.mul_comm]
    have : 2 ^ pc k * j ≤ 2 ^ pc k * (j + 1) := Nat.mul_le_mul_left _ (by omega)
    omega
  unfold kE
  obtain ⟨x, hx⟩ : ∃ x, j <<< pc k = x := ⟨_, rfl⟩
  rw [e1, hx]
  rw [hx] at h4
  rw [show wrap64 ((x : Nat) : Int) = (x : Int) by unfold wrap64; omega, Int.emod_eq_of_lt (by omega) (by omega), u32_or_nat _ _ (by omega) h4]
section
variable (w : World)
set_option maxHeartbeats 4000000 in
theorem sla_any (k n t : Nat) (hn5 : n ≤ 5) (hk3 : k ≤ 3) (hkn : k ≤ n) (ht : t < eMax k) (a : Option Addr) (cap : Nat) (gs : List (Int × Int)) (hc : Lies w a gs) (hm : gs.length ≤ 1048576) (hV : AllV gs) :
    Calls Tryd.prog 60 #[.agg #[.int .i64 k, .int .u32 t], .int .i64 n, .slice a gs.length cap] w fun r w' => (∃ u, r = .returned u ∧ OwnK w w' u (flL n k t gs (kM k n))) ∧ Below w.heap.size w w' := by
  have hFr := Lib.hid (fun W (hW : Below w.heap.size w W) (e : Nat) (he : VG n e) => sfree_any W n e he a cap gs hm (hc.below hW) hV)
  have hpk := Lib.hid (fun W => bits_any W k (by omega))
  have hpn := Lib.hid (fun W => bits_any W n hn5)
  have hLe := Lib.hid (fun W e h => sleastK_any W k n e h)
  obtain ⟨i0, hi, hz0, hz1, hz2⟩ := info_parts info_flagK
  replace hi := Lib.hid hi
  replace hz0 := Lib.hid hz0
  replace hz1 := Lib.hid hz1
  replace hz2 := Lib.hid hz2
  obtain ⟨l, hl⟩ : ∃ l, gs.length = l := ⟨_, rfl⟩
  rw [hl] at hFr ⊢
  have hkW := kW_run n hn5 k hk3 hkn
  have hkE := Lib.hid (fun j (h : j < kM k n) => kE_run2 hn5 hkn ht h)
  have ht2 : t < 2 ^ pc k := by rw [← eMax_pc k (by omega)]; exact ht
  have hKx := Lib.hid (fun j (h : j < kM k n) => kE_max hn5 hkn ht2 h)
  have hKm := Lib.hid (fun j (h : j < kM k n) => VK.mk' hn5 hk3 hkn (kE_max hn5 hkn ht2 h))
  have hft := Lib.hid (fun m => flL_t (n := n) (k := k) (t := t) (gs := gs) (m := m))
  have hff := Lib.hid (fun m => flL_f (n := n) (k := k) (t := t) (gs := gs) (m := m))
  have hlen : ∀ m, (flL n k t gs m).length ≤ m := flL_len n k t gs
  replace hlen := Lib.hid hlen
  have hkM := kM_le n hn5 k
  obtain ⟨pk, hpkd⟩ : ∃ pk, pc k = pk := ⟨_, rfl⟩
  obtain ⟨pn, hpnd⟩ : ∃ pn, pc n = pn := ⟨_, rfl⟩
  have hpk0 : pk ≤ 10 := by rw [← hpkd]; exact pc_le k
  have hpn0 : pn ≤ 10 := by rw [← hpnd]; exact pc_le n
  have hpp : pk ≤ pn := by rw [← hpkd, ← hpnd]; exact pc_leP n hn5 k hkn
  rw [hpkd] at hpk hkE hkW
  rw [hpnd] at hpn hkW
  obtain ⟨M, hM⟩ : ∃ M, kM k n = M := ⟨_, rfl⟩
  rw [hM] at hkE hKm hKx hkW hkM ⊢
  obtain ⟨W0, hW0⟩ : ∃ W0, W0 = w.alloc (.cells #[.int .i64 (k : Int), .int .u32 (t : Int)] 31) := ⟨_, rfl⟩
  have g0 : W0.cell? ⟨w.heap.size, 0, none⟩ = some (.int .i64 k) := by rw [hW0, cNew _ _ _ _ _ rfl]; rfl
  have g1 : W0.cell? ⟨w.heap.size, 1, none⟩ = some (.int .u32 t) := by rw [hW0, cNew _ _ _ _ _ rfl]; rfl
  have gz : W0.heap.size = w.heap.size + 1 := by rw [hW0]; simp
  have gB : Below w.heap.size w W0 := by rw [hW0]; (repeat (first | exact Below.refl _ _ | assumption | refine bchain (by assumption) ?_ | refine balloc ?_ _ | apply Below.drew | apply below_drewN | (refine Below.alloc ?_ (by (try simp) <;> omega) _) | (refine Below.setCell ?_ (by (try simp) <;> omega) _)))
  have hW1 : Below W0.heap.size W0 (W0.alloc (.cells #[] 33)) := by (repeat (first | exact Below.refl _ _ | assumption | refine bchain (by assumption) ?_ | refine balloc ?_ _ | apply Below.drew | apply below_drewN | (refine Below.alloc ?_ (by (try simp) <;> omega) _) | (refine Below.setCell ?_ (by (try simp) <;> omega) _)))
  have hown0 : Hid ((W0.alloc (.cells #[] 33)).ownsRow W0.heap.size 33 3 (.slice (some ⟨W0.heap.size, 0, none⟩) 0 0) (flL n k t gs 0).length (ksC (flL n k t gs 0))) := World.ownsRow_made W0 #[] 0 (Nat.le_refl _) (by omega) rfl
  have hB1 := gB.trans (hW1.mono (by omega))
  have g2 := (hW1.cell (p := ⟨w.heap.size, 0, none⟩) (by show w.heap.size < _; omega)).trans g0
  have g3 := (hW1.cell (p := ⟨w.heap.size, 1, none⟩) (by show w.heap.size < _; omega)).trans g1
  have g4 : w.heap.size + 1 ≤ (W0.alloc (.cells #[] 33)).heap.size := by have := hW1.size; omega
  rw [hW0] at g2 g3 hB1 hown0 g4
  have hwz : (w.alloc (.cells #[.int .i64 (k : Int), .int .u32 (t : Int)] 31)).heap.size = w.heap.size + 1 := by simp
  rw [hwz] at hown0
  clear hl hm hV hc hM ht ht2 hW0 hW1 g0 g1 gz gB hwz
  clear W0
  replace hpkd := Lib.hid hpkd
  replace hpnd := Lib.hid hpnd
  go_enter Tryd.func60, Tryd.ntmps60
  go_wp2_with (go_at_call 90; refine (hpk.out _).mono ?_; rintro r3 w3 ⟨rfl, rfl⟩)
  go_loopw [7, 9, 10] (fun u i _ wr => ∃ j : Nat, j ≤ M ∧ i = .int .i64 j ∧ Hid (wr.ownsRow (w.heap.size + 1) 33 3 u (flL n k t gs j).length (ksC (flL n k t gs j))) ∧ wr.cell? ⟨w.heap.size, 0, none⟩ = some (.int .i64 k) ∧ wr.cell? ⟨w.heap.size, 1, none⟩ = some (.int .u32 t) ∧ w.heap.size + 1 ≤ wr.heap.size ∧ Below w.heap.size w wr) (fun _ i _ _ => M - (intOf i).toNat)
  case atStart => exact ⟨0, by omega, rfl, hown0, g2, g3, g4, hB1⟩
  case round =>
    clear hown0 g2 g3 g4 hB1
    obtain ⟨j, hj, rfl, hown, c0, c1, hz, hB⟩ := hrel
    have hsz := hB.size
    by_cases hlt : j < M
    · have hkE1 := hkE.out j hlt
      have hV := hKm.out j hlt
      have hL1 := Lib.hid (fun W => hLe.out W _ hV)
      have hF1 := Lib.hid (fun W (hW : Below wr.heap.size wr W) => hFr.out W (hB.trans (hW.mono hsz)) (kE t k j) ⟨by omega, by omega, by omega, by have := hKx.out j hlt; simpa using this⟩)
      have hjl := hlen.out j
      have hft1 := hft.out j
      have hff1 := hff.out j
      unfold isF isL at hft1 hff1
      have hVn := hV.nums.1
      have hemx := eMax_le n
      obtain ⟨y, hy⟩ : ∃ y, kE t k j = y := ⟨_, rfl⟩
      rw [hy] at hkE1 hL1 hF1 hft1 hff1 hVn
      obtain ⟨z, hzz⟩ : ∃ z, leastK n k y = z := ⟨_, rfl⟩
      rw [hzz] at hL1 hft1 hff1
      obtain ⟨b, hbb⟩ : ∃ b, freeB n y gs = b := ⟨_, rfl⟩
      rw [hbb] at hF1 hft1 hff1
      clear hV hy hzz hbb
      go_wp2_with (go_at_call 90; refine (hpn.out _).mono ?_; rintro r3 w3 ⟨rfl, rfl⟩)
      obtain ⟨W1, hW1⟩ : ∃ W1, W1 = wr.alloc (.cells #[.int .i64 (k : Int), .int .i64 (n : Int), .int .u32 (y : Int)] 33) := ⟨_, rfl⟩
      have hBW : Below wr.heap.size wr W1 := by rw [hW1]; (repeat (first | exact Below.refl _ _ | assumption | refine bchain (by assumption) ?_ | refine balloc ?_ _ | apply Below.drew | apply below_drewN | (refine Below.alloc ?_ (by (try simp) <;> omega) _) | (refine Below.setCell ?_ (by (try simp) <;> omega) _)))
      have hzW : W1.heap.size = wr.heap.size + 1 := by rw [hW1]; simp
      have f0 : W1.cell? ⟨wr.heap.size, 0, none⟩ = some (.int .i64 k) := by rw [hW1, cNew _ _ _ _ _ rfl]; rfl
      have f1 : W1.cell? ⟨wr.heap.size, 1, none⟩ = some (.int .i64 n) := by rw [hW1, cNew _ _ _ _ _ rfl]; rfl
      have f2 : W1.cell? ⟨wr.heap.size, 2, none⟩ = some (.int .u32 y) := by rw [hW1, cNew _ _ _ _ _ rfl]; rfl
      rw [← hW1]
      replace hW1 := Lib.hid hW1
      have hfz : wr.heap.size < W1.heap.size := by omega
      by_cases hzy : z = y
      · subst hzy
        cases b
        · have hnx := Lib.hid (hff1 (by simp))
          clear hft1 hff1
          go_region_held3 (fun A => A.cell? ⟨wr.heap.size, 0, none⟩ = some (.int .i64 k) ∧ A.cell? ⟨wr.heap.size, 1, none⟩ = some (.int .i64 n) ∧ A.cell? ⟨wr.heap.size, 2, none⟩ = some (.int .u32 z))
            (exact ⟨old_cell hfz f0 (by (repeat (first | exact Below.refl _ _ | assumption | refine bchain (by assumption) ?_ | refine balloc ?_ _ | apply Below.drew | apply below_drewN | (refine Below.alloc ?_ (by (try simp) <;> omega) _) | (refine Below.setCell ?_ (by (try simp) <;> omega) _)))), old_cell hfz f1 (by (repeat (first | exact Below.refl _ _ | assumption | refine bchain (by assumption) ?_ | refine balloc ?_ _ | apply Below.drew | apply below_drewN | (refine Below.alloc ?_ (by (try simp) <;> omega) _) | (refine Below.setCell ?_ (by (try simp) <;> omega) _)))), old_cell hfz f2 (by (repeat (first | exact Below.refl _ _ | assumption | refine bchain (by assumption) ?_ | refine balloc ?_ _ | apply Below.drew | apply below_drewN | (refine Below.alloc ?_ (by (try simp) <;> omega) _) | (refine Below.setCell ?_ (by (try simp) <;> omega) _))))⟩)
            (first
            | (go_at_call 71; refine (hL1.out _).mono ?_; rintro r3 w3 ⟨rfl, hb3⟩)
            | (go_at_call 100; refine (hF1.out _ (by (repeat (first | exact Below.refl _ _ | assumption | refine bchain (by assumption) ?_ | refine balloc ?_ _ | apply Below.drew | apply below_drewN | (refine Below.alloc ?_ (by (try simp) <;> omega) _) | (refine Below.setCell ?_ (by (try simp) <;> omega) _))))).mono ?_; rintro r4 w4 ⟨rfl, hb4⟩))
          have hb34 : Below wr.heap.size wr w4 := by (repeat (first | exact Below.refl _ _ | assumption | refine bchain (by assumption) ?_ | refine balloc ?_ _ | apply Below.drew | apply below_drewN | (refine Below.alloc ?_ (by (try simp) <;> omega) _) | (refine Below.setCell ?_ (by (try simp) <;> omega) _)))
          have hown4 := hown.out.kept (row := none) (w' := w4) ⟨hb34.os, hb34.tape, hb34.output, hb34.size, fun k hk _ => hb34.block k hk⟩ (by cases (Value.ownBlock _) <;> simp)
          rw [← hnx.out] at hown4
          replace hown4 := Lib.hid hown4
          have hz4 := hb34.size
          have e0 := (hb34.cell (p := ⟨w.heap.size, 0, none⟩) (by show w.heap.size < _; omega)).trans c0
          have e1 := (hb34.cell (p := ⟨w.heap.size, 1, none⟩) (by show w.heap.size < _; omega)).trans c1
          have hB4 := hB.trans (hb34.mono hsz)
          clear hown c0 c1
          go_wp2
          go_roundw
          case rel => exact ⟨j + 1, by omega, by go_num, hown4, e0, e1, by omega, hB4⟩
          case measure => simp [intOf]; omega
        · have hnx := Lib.hid (hft1 (by simp))
          clear hft1 hff1
          go_region_held3 (fun A => A.cell? ⟨wr.heap.size, 0, none⟩ = some (.int .i64 k) ∧ A.cell? ⟨wr.heap.size, 1, none⟩ = some (.int .i64 n) ∧ A.cell? ⟨wr.heap.size, 2, none⟩ = some (.int .u32 z))
            (exact ⟨old_cell hfz f0 (by (repeat (first | exact Below.refl _ _ | assumption | refine bchain (by assumption) ?_ | refine balloc ?_ _ | apply Below.drew | apply below_drewN | (refine Below.alloc ?_ (by (try simp) <;> omega) _) | (refine Below.setCell ?_ (by (try simp) <;> omega) _)))), old_cell hfz f1 (by (repeat (first | exact Below.refl _ _ | assumption | refine bchain (by assumption) ?_ | refine balloc ?_ _ | apply Below.drew | apply below_drewN | (refine Below.alloc ?_ (by (try simp) <;> omega) _) | (refine Below.setCell ?_ (by (try simp) <;> omega) _)))), old_cell hfz f2 (by (repeat (first | exact Below.refl _ _ | assumption | refine bchain (by assumption) ?_ | refine balloc ?_ _ | apply Below.drew | apply below_drewN | (refine Below.alloc ?_ (by (try simp) <;> omega) _) | (refine Below.setCell ?_ (by (try simp) <;> omega) _))))⟩)
            (first
            | (go_at_call 71; refine (hL1.out _).mono ?_; rintro r3 w3 ⟨rfl, hb3⟩)
            | (go_at_call 100; refine (hF1.out _ (by (repeat (first | exact Below.refl _ _ | assumption | refine bchain (by assumption) ?_ | refine balloc ?_ _ | apply Below.drew | apply below_drewN | (refine Below.alloc ?_ (by (try simp) <;> omega) _) | (refine Below.setCell ?_ (by (try simp) <;> omega) _))))).mono ?_; rintro r4 w4 ⟨rfl, hb4⟩))
          have hb34 : Below wr.heap.size wr w4 := by (repeat (first | exact Below.refl _ _ | assumption | refine bchain (by assumption) ?_ | refine balloc ?_ _ | apply Below.drew | apply below_drewN | (refine Below.alloc ?_ (by (try simp) <;> omega) _) | (refine Below.setCell ?_ (by (try simp) <;> omega) _)))
          have hownk := Lib.hid (hown.out.kept (row := none) (w' := w4) ⟨hb34.os, hb34.tape, hb34.output, hb34.size, fun k hk _ => hb34.block k hk⟩ (by cases (Value.ownBlock _) <;> simp))
          have hz4 := hb34.size
          have e0 := (hb34.cell (p := ⟨w.heap.size, 0, none⟩) (by show w.heap.size < _; omega)).trans c0
          have e1 := (hb34.cell (p := ⟨w.heap.size, 1, none⟩) (by show w.heap.size < _; omega)).trans c1
          have hB4 := hB.trans (hb34.mono hsz)
          obtain ⟨x0, x1, x2⟩ := ‹w4.cell? ⟨wr.heap.size, 0, none⟩ = some (.int .i64 k) ∧ w4.cell? ⟨wr.heap.size, 1, none⟩ = some (.int .i64 n) ∧ w4.cell? ⟨wr.heap.size, 2, none⟩ = some (.int .u32 z)›
          clear hown c0 c1 f0 f1 f2 hb3 hb4
          go_wp2_with (at_builtin; refine wpList_append_own _ rfl _ _ 47 rfl (w.heap.size + 1) 33 i0 (.agg #[.int .i64 0, .int .i64 0, .int .u32 0]) 3 24 Tryd.underlying47 hi.out hz0.out hz1.out hz2.out rfl (by decide) _ _ _ rfl (hownk.out.alloc _) ⟨w4.heap.size, 0, none⟩ 1 1 [.int .i64 k, .int .i64 n, .int .u32 z] rfl rfl (fun q u hq => by match q, hq with
              | 0, hq => simp at hq; subst hq; rw [show (⟨w4.heap.size, 0, none⟩ : Addr).add 0 = ⟨w4.heap.size, 0, none⟩ from rfl, World.cell?_alloc_new]; rfl
              | 1, hq => simp at hq; subst hq; rw [show (⟨w4.heap.size, 0, none⟩ : Addr).add 1 = ⟨w4.heap.size, 1, none⟩ from rfl, World.cell?_alloc_new]; rfl
              | 2, hq => simp at hq; subst hq; rw [show (⟨w4.heap.size, 0, none⟩ : Addr).add 2 = ⟨w4.heap.size, 2, none⟩ from rfl, World.cell?_alloc_new]; rfl
              | q + 3, hq => simp at hq) (fun u hu => by simp at hu; rcases hu with rfl | rfl | rfl <;> rfl) (by unfold maxLen; omega) (by omega) (by simp; omega) ?_; intro v' w5 hown' hgrow _)
          have hB5 : Below w.heap.size w w5 := (balloc hB4 _).grown hgrow (by simp; omega) (fun k hk => by have := (hownk.out.lt k hk).1; omega)
          have hz5 : w.heap.size + 1 ≤ w5.heap.size := by have := hgrow.size; simp at this; omega
          have hown5 : Hid (w5.ownsRow (w.heap.size + 1) 33 3 v' (flL n k t gs (j + 1)).length (ksC (flL n k t gs (j + 1)))) := by
            show World.ownsRow _ _ _ _ _ _ _
            rw [hnx.out, ksC_snoc, List.length_append]
            exact hown'
          have y0 := (hgrow.block w.heap.size (by simp; omega) (fun hk => by have := (hownk.out.lt _ hk.symm).1; omega))
          have d0 := (World.cell?_of_block (a := ⟨w.heap.size, 0, none⟩) y0).trans ((cOld _ _ _ _ (by show w.heap.size < _; omega)).trans e0)
          have d1 := (World.cell?_of_block (a := ⟨w.heap.size, 1, none⟩) y0).trans ((cOld _ _ _ _ (by show w.heap.size < _; omega)).trans e1)
          clear hown' hgrow hownk y0 e0 e1
          go_roundw
          case rel => exact ⟨j + 1, by omega, by go_num, hown5, d0, d1, hz5, hB5⟩
          case measure => simp [intOf]; omega
      · have hnx := Lib.hid (hff1 (by simp [hzy]))
        have hzf : ((z : Int) == (y : Int)) = false := by simp; omega
        have hzd : decide ((z : Int) = (y : Int)) = false := by simp; omega
        clear hft1 hff1
        have q0 := bw_cell hfz f0
        have q1 := bw_cell hfz f1
        have q2 := bw_cell hfz f2
        refine wp_region_below (by kernel_rfl) (by kernel_rfl) ?_
        iterate 1 (quiet_step (fail))
        refine wpQuiet_step (fun K hK => ?_)
        go_simp
        apply Exists.intro
        refine ⟨fun p => ?_, hK _ ?_⟩
        · exact bw_of (w := W1) (p := p) (hL1.out p.W)
        clear hK K
        iterate 3 (quiet_step (fail))
        iterate 4 go_big_quiet_skip
        quiet_step (fail)
        refine wpQuiet_nil ?_
        intro w3 hw'
        obtain ⟨⟨wx, hb3⟩, rfl⟩ := hw'
        have hb34 : Below wr.heap.size wr w3 := hBW.trans (hb3.mono (by omega))
        have hown4 := hown.out.kept (row := none) (w' := w3) ⟨hb34.os, hb34.tape, hb34.output, hb34.size, fun k hk _ => hb34.block k hk⟩ (by cases (Value.ownBlock _) <;> simp)
        rw [← hnx.out] at hown4
        replace hown4 := Lib.hid hown4
        have hz4 := hb34.size
        have e0 := (hb34.cell (p := ⟨w.heap.size, 0, none⟩) (by show w.heap.size < _; omega)).trans c0
        have e1 := (hb34.cell (p := ⟨w.heap.size, 1, none⟩) (by show w.heap.size < _; omega)).trans c1
        have hB4 := hB.trans (hb34.mono hsz)
        clear hown c0 c1
        go_wp2
        go_roundw
        case rel => exact ⟨j + 1, by omega, by go_num, hown4, e0, e1, by omega, hB4⟩
        case measure => simp [intOf]; omega
    · obtain rfl : j = M := by omega
      have hdd := decide_eq_false (show ¬ ((j : Int) < (j : Int)) by omega)
      have hO := Lib.hid (ownK_of_row (w0 := w) hown.out (by omega))
      clear hown
      go_wp2_with (go_at_call 90; refine (hpn.out _).mono ?_; rintro r3 w3 ⟨rfl, rfl⟩)
      go_ret
      exact ⟨⟨_, rfl, hO.out⟩, hB⟩
end
end Go.Proofs.YtncbimbbkealmaaDoor
/-
  AllFlags: the codes, the model's contract, and both.
-/
namespace Go.Proofs.YtncbimbbkealmaaDoor
open Go.RowKit Go.Shelf
set_option maxRecDepth 100000

section
variable (w : World)
end
theorem RetLim.both {W : World} {L : List (Int × Int × Int)} (c : Int) (L' : List (Int × Int × Int)) (h : (L.length ≤ 64 ∧ c = 0 ∧ L' = L) ∨ (64 < L.length ∧ c = 3 ∧ L' = [])) {P : Program} {f : FuncId} {args : Array Value} (hC : Calls P f args W (RetLim W L)) : Calls P f args W (RetK W L' c) := hC.mono fun r w' hr => by
  rcases h with ⟨h, rfl, rfl⟩ | ⟨h, rfl, rfl⟩ <;> rcases hr with ⟨h1, h2⟩ | ⟨h1, h2⟩ <;> first | exact h2 | omega
end Go.Proofs.YtncbimbbkealmaaDoor
