/-
  Gs, Pairs, PartPlain, StillIn, SeesA, Opp, Deg, Part, SPart, Free, Sv, GMk, Gown, Forb, in one text.
-/
import Derived.Test.YtncbimbbkealmaaDoorValid
import Derived.Test.YtncbimbbkealmaaDoorMade
import Derived.Deep.OwnRows
import Derived.Lib.Hide
import Derived.StillTailTactics
import Derived.Test.YtncbimbbkealmaaDoorPlain
import Derived.RangeFuncNested
import Derived.RangeFuncBound
import Derived.RangeFuncCalls
import Derived.RangeFuncLeaves
import Derived.RangeFuncWrites
import Derived.Shelf.Abstract
import Derived.Shelf.RegionOpen
import Derived.OwnWalkIn
import Derived.TacticsInMore
import Derived.LoopNIn
import Derived.LoopIn
import Derived.Test.YtncbimbbkealmaaDoorLists
import Derived.OrdersIn
import Derived.TacticsIn
import Derived.Test.YtncbimbbkealmaaDoorSees
import Derived.Test.YtncbimbbkealmaaDoorOwnI
import Derived.Test.YtncbimbbkealmaaDoorLeast
import Derived.Scope
import Derived.WalkMore
import Derived.Test.YtncbimbbkealmaaDoorSLeast
import Derived.Test.YtncbimbbkealmaaDoorCfM1
import Derived.Test.YtncbimbbkealmaaDoorBase
import Derived.Deep.DeepCutAuto
/-
  LISTS OF GRAPHS: 'SlG w v gs': in the world w the value v is a list that holds the graphs gs. What copies such a list, and what holds two against each other.
-/
namespace Go.Proofs.YtncbimbbkealmaaDoor
open Go.RowKit
set_option maxRecDepth 100000

def gAt (gs : List (Int × Int)) (i : Nat) : Int × Int := gs[i]?.getD (0, 0)
/-- two cells of a block that hold the graph at i -/
def GCell (w : World) (b off : Nat) (g : Int × Int) (i : Nat) : Prop := w.cell? ⟨b, off + i * 2, none⟩ = some (.int .i64 g.1) ∧ w.cell? ⟨b, off + i * 2 + 1, none⟩ = some (.int .u32 g.2)
def SlG (w : World) (v : Value) (gs : List (Int × Int)) : Prop :=
  ∃ (a : Option Addr) (cap : Nat), v = .slice a gs.length cap ∧ gs.length ≤ cap ∧ cap ≤ 9223372036854775807 ∧
    (gs ≠ [] → ∃ b off, a = some ⟨b, off, none⟩ ∧ b < w.heap.size ∧ ∀ i, i < gs.length → GCell w b off (gAt gs i) i)
theorem SlG.below {w w' : World} {v : Value} {gs : List (Int × Int)} (h : SlG w v gs) (hb : Below w.heap.size w w') : SlG w' v gs := by
  obtain ⟨a, cap, e, h1, h2, h3⟩ := h
  refine ⟨a, cap, e, h1, h2, fun hz => ?_⟩
  obtain ⟨b, off, e2, hlt, hc⟩ := h3 hz
  exact ⟨b, off, e2, Nat.lt_of_lt_of_le hlt hb.size, fun i hi => ⟨(hb.cell (p := ⟨b, _, none⟩) hlt).trans (hc i hi).1, (hb.cell (p := ⟨b, _, none⟩) hlt).trans (hc i hi).2⟩⟩
/-- a block that holds the first k of gs, zeros behind -/
def HalfG (w : World) (B k : Nat) (gs : List (Int × Int)) : Prop := ∀ i, i < gs.length → GCell w B 0 (if i < k then gAt gs i else (0, 0)) i
theorem HalfG.set {w : World} {B k : Nat} {gs : List (Int × Int)} (h : HalfG w B k gs) (hk : k < gs.length) : HalfG ((w.setCell ⟨B, k * 2, none⟩ (.int .i64 (gAt gs k).1)).setCell ⟨B, k * 2 + 1, none⟩ (.int .u32 (gAt gs k).2)) B (k + 1) gs := by
  intro i hi
  have hi2 := h i hi
  unfold GCell at hi2 ⊢
  rw [Nat.zero_add] at hi2 ⊢
  by_cases e : i = k
  · subst e
    rw [if_pos (by omega)]
    exact ⟨(World.cell?_setCell_other _ _ _ _ (by simp)).trans (World.cell?_setCell_same _ _ _ hi2.1), World.cell?_setCell_same _ _ _ ((World.cell?_setCell_other _ _ _ _ (by simp)).trans hi2.2)⟩
  · rw [show (if i < k + 1 then gAt gs i else (0, 0)) = (if i < k then gAt gs i else (0, 0)) by
      by_cases c : i < k
      · rw [if_pos c, if_pos (by omega)]
      · rw [if_neg c, if_neg (by omega)]]
    exact ⟨(World.cell?_setCell_other _ _ _ _ (by simp <;> omega)).trans ((World.cell?_setCell_other _ _ _ _ (by simp <;> omega)).trans hi2.1), (World.cell?_setCell_other _ _ _ _ (by simp <;> omega)).trans ((World.cell?_setCell_other _ _ _ _ (by simp <;> omega)).trans hi2.2)⟩
theorem HalfG.below {w w' : World} {B k : Nat} {gs : List (Int × Int)} (h : HalfG w B k gs) (hb : Below w.heap.size w w') (hB : B < w.heap.size) : HalfG w' B k gs :=
  fun i hi => ⟨(hb.cell (p := ⟨B, _, none⟩) hB).trans (h i hi).1, (hb.cell (p := ⟨B, _, none⟩) hB).trans (h i hi).2⟩
theorem HalfG.done {w : World} {B cap : Nat} {gs : List (Int × Int)} (h : HalfG w B gs.length gs) (hB : B < w.heap.size) (hc : gs.length ≤ cap) (hm : cap ≤ 9223372036854775807) : SlG w (.slice (some ⟨B, 0, none⟩) gs.length cap) gs :=
  ⟨_, _, rfl, hc, hm, fun _ => ⟨B, 0, rfl, hB, fun i hi => by have := h i hi; rw [if_pos hi] at this; exact this⟩⟩
theorem info_graph : (Tryd.prog.info? 31).map (fun i => (i.zero, i.size, i.bytes)) = some (some (.agg #[.int .i64 0, .int .u32 0]), 2, 16) := by kernel_rfl
theorem madeG (w : World) (n B : Nat) (e : TypeId) (gs : List (Int × Int)) (hB : B = w.heap.size) (hn : gs.length = n) : HalfG (w.alloc (.cells (madeCells #[.int .i64 0, .int .u32 0] (n * 2)) e)) B 0 gs := by
  intro i hi
  subst hB
  unfold GCell
  rw [World.cell?_alloc_new, World.cell?_alloc_new, Nat.zero_add, if_neg (by omega)]
  have h1 : i * 2 < n * 2 := by omega
  have h2 : i * 2 + 1 < n * 2 := by omega
  constructor
  · simp [madeCells, h1]
  · simp [madeCells, h2]
section
variable (w : World)
end
end Go.Proofs.YtncbimbbkealmaaDoor
namespace Go.Proofs.YtncbimbbkealmaaDoor
open Go.RowKit Go.Shelf
set_option maxRecDepth 100000
/-- the pairs of vertices before j, the lesser one first, in the order of their bits -/
def prs : Nat → List (Nat × Nat) | 0 => [] | j + 1 => prs j ++ (List.range j).map fun i => (i, j)
/-- .. and then those of j with the vertices before i -/
def prsTo (j i : Nat) : List (Nat × Nat) := prs j ++ (List.range i).map fun i => (i, j)
theorem prsTo_zero (j : Nat) : prsTo j 0 = prs j := by simp [prsTo]
theorem prsTo_end (j : Nat) : prsTo j j = prs (j + 1) := rfl
theorem prsTo_succ (j i : Nat) : prsTo j (i + 1) = prsTo j i ++ [(i, j)] := by simp [prsTo, List.range_succ]
theorem prs_length (j : Nat) : (prs j).length ≤ j * j := by
  induction j with
  | zero => simp [prs]
  | succ j ih =>
    simp only [prs, List.length_append, List.length_map, List.length_range]
    rw [Nat.add_mul, Nat.mul_add]
    omega
theorem prsTo_length (j i : Nat) : (prsTo j i).length ≤ j * j + i := by
  have := prs_length j
  simp only [prsTo, List.length_append, List.length_map, List.length_range]
  omega
/-- two vertices, the lesser one first -/
abbrev Pr (n : Nat) := { p : Nat × Nat // p.1 < p.2 ∧ p.2 < n }
abbrev Pr.encs {n : Nat} (x : Pr n) : Array Value := #[.int .i64 (x.1.1 : Nat), .int .i64 (x.1.2 : Nat)]
def vals {n : Nat} (xs : List (Pr n)) : List (Nat × Nat) := xs.map Subtype.val
theorem vals_snoc {n : Nat} (xs : List (Pr n)) (x : Pr n) : vals (xs ++ [x]) = vals xs ++ [x.1] := by simp [vals]
theorem vals_length {n : Nat} (xs : List (Pr n)) : (vals xs).length = xs.length := by simp [vals]

theorem below_grown {W w' : World} (h : Below W.heap.size W w') : W.grownBy w' none := ⟨h.os, h.tape, h.output, h.size, fun k hk _ => h.block k hk⟩

/-- two blocks lie as they lay -/
def Kp2 (Bg Ba : Nat) (W W' : World) : Prop := W.heap.size ≤ W'.heap.size ∧ W'.heap[Bg]? = W.heap[Bg]? ∧ W'.heap[Ba]? = W.heap[Ba]?
theorem Kp2.refl (Bg Ba : Nat) (W : World) : Kp2 Bg Ba W W := ⟨Nat.le_refl _, rfl, rfl⟩
theorem Kp2.trans {Bg Ba : Nat} {A B C : World} (h : Kp2 Bg Ba A B) (k : Kp2 Bg Ba B C) : Kp2 Bg Ba A C := ⟨Nat.le_trans h.1 k.1, k.2.1.trans h.2.1, k.2.2.trans h.2.2⟩
theorem Kp2.of_below {Bg Ba : Nat} {A B : World} (h : Below A.heap.size A B) (hg : Bg < A.heap.size) (ha : Ba < A.heap.size) : Kp2 Bg Ba A B := ⟨h.size, h.block _ hg, h.block _ ha⟩
theorem Kp2.put {Bg Ba : Nat} {w : World} (hg : Bg < w.heap.size) (ha : Ba < w.heap.size) (W : World) (l : Nat) (o o' : Obj) (hl : w.heap.size ≤ l) (_h : W.heap[l]? = some o) (_ : o.isCells = false) (_ : o.isWalk = false) : Kp2 Bg Ba W (W.putObj l o') :=
  ⟨by simp [World.putObj], World.putObj_heap_other (by omega), World.putObj_heap_other (by omega)⟩
theorem Kp2.set {Bg Ba : Nat} (W : World) (p : Addr) (v : Value) (hg : p.block ≠ Bg) (ha : p.block ≠ Ba) : Kp2 Bg Ba W (W.setCell p v) :=
  ⟨by simp, Below.heap_setCell _ _ _ _ (Ne.symm hg), Below.heap_setCell _ _ _ _ (Ne.symm ha)⟩

end Go.Proofs.YtncbimbbkealmaaDoor
namespace Go.Proofs.YtncbimbbkealmaaDoor
set_option maxRecDepth 100000
def fits (e f k : Nat) (x : List Nat) : Bool := ((prs k).filter fun p => jn f p.1 p.2).all fun p => jn e (x[p.1]?.getD 0) (x[p.2]?.getD 0)
def partB (n e k f : Nat) : Bool := (lists n k).any (fits e f k)

theorem rowE_bit (e : Nat) (g : Nat → Nat) (j b : Nat) : ∀ i, (rowE e g j i).testBit b = (List.range i).any fun t => jn e (g t) (g j) && decide (pp t j = b)
  | 0 => by simp [rowE]
  | i + 1 => by
    rw [rowE, Nat.testBit_or, rowE_bit e g j b i, List.range_succ, List.any_append]
    congr 1
    cases h : jn e (g i) (g j)
    · simp [h]
    · simp [h, pb, Nat.testBit_two_pow]
theorem onE_bit (e : Nat) (g : Nat → Nat) (b : Nat) : ∀ m, (onE e g m).testBit b = (List.range m).any fun j => (rowE e g j j).testBit b
  | 0 => by simp [onE]
  | m + 1 => by
    rw [onE, Nat.testBit_or, onE_bit e g b m, List.range_succ, List.any_append]
    simp
theorem pp_injB : ((List.range 5).all fun j => (List.range j).all fun i => (List.range 5).all fun j' => (List.range j').all fun i' => pp i j != pp i' j' || (i == i' && j == j')) = true := by decide +kernel
theorem pp_inj (j : Nat) (hj : j ≤ 4) (i : Nat) (hi : i < j) (j' : Nat) (hj' : j' ≤ 4) (i' : Nat) (hi' : i' < j') (h : pp i j = pp i' j') : i = i' ∧ j = j' := by
  have h1 := List.all_eq_true.1 pp_injB j (by simp; omega)
  have h2 := List.all_eq_true.1 h1 i (by simpa using hi)
  have h3 := List.all_eq_true.1 h2 j' (by simp; omega)
  have h4 := List.all_eq_true.1 h3 i' (by simpa using hi')
  simp only [h, bne_self_eq_false, Bool.false_or, Bool.and_eq_true, beq_iff_eq] at h4
  exact h4
theorem onE_at (e : Nat) (g : Nat → Nat) {i j m : Nat} (hij : i < j) (hj : j < m) (hm : m ≤ 5) : (onE e g m).testBit (pp i j) = jn e (g i) (g j) := by
  rw [onE_bit, Bool.eq_iff_iff, List.any_eq_true]
  constructor
  · rintro ⟨j', hj', h⟩
    rw [rowE_bit, List.any_eq_true] at h
    obtain ⟨i', hi', h⟩ := h
    simp only [List.mem_range, Bool.and_eq_true, decide_eq_true_eq] at hi' hj' h
    obtain ⟨rfl, rfl⟩ := pp_inj j (by omega) i hij j' (by omega) i' hi' h.2.symm
    exact h.1
  · intro h
    refine ⟨j, by simpa using hj, ?_⟩
    rw [rowE_bit, List.any_eq_true]
    exact ⟨i, by simpa using hij, by simp [h]⟩
theorem bit_cover : ∀ k, k ≤ 5 → ∀ b, b < pc k → ((prs k).any fun p => pp p.1 p.2 == b) = true := by decide +kernel
theorem prs_lt : ∀ k, k ≤ 5 → ∀ p ∈ prs k, p.1 < p.2 ∧ p.2 < k := by decide +kernel
theorem mem_prsB : ((List.range 6).all fun k => (List.range k).all fun j => (List.range j).all fun i => (prs k).contains (i, j)) = true := by decide +kernel
theorem mem_prs (k : Nat) (hk : k ≤ 5) (j : Nat) (hj : j < k) (i : Nat) (hi : i < j) : (i, j) ∈ prs k := by
  have h1 := List.all_eq_true.1 mem_prsB k (by simp; omega)
  have h2 := List.all_eq_true.1 h1 j (by simpa using hj)
  have h3 := List.all_eq_true.1 h2 i (by simpa using hi)
  simpa using h3

theorem fits_eq {e f k : Nat} {x : List Nat} (hk : k ≤ 5) (hx : x.length = k) (hf : f < eMax k) : (f &&& onL e x == f) = fits e f k x := by
  rw [Bool.eq_iff_iff, beq_iff_eq]
  unfold fits
  rw [List.all_eq_true]
  constructor
  · intro h p hp
    rw [List.mem_filter] at hp
    obtain ⟨h1, h2⟩ := prs_lt k hk p hp.1
    have hb := congrArg (fun t => t.testBit (pp p.1 p.2)) h
    simp only [Nat.testBit_and] at hb
    have hf1 : f.testBit (pp p.1 p.2) = true := hp.2
    rw [hf1, Bool.true_and] at hb
    have := onE_at e (vx (zl x)) h1 (show p.2 < x.length by omega) (by omega)
    rw [show onE e (vx (zl x)) x.length = onL e x from rfl, hb, vx_zl, vx_zl] at this
    exact this.symm
  · intro h
    apply Nat.eq_of_testBit_eq
    intro b
    rw [Nat.testBit_and]
    cases hb : f.testBit b
    · rfl
    · have hlt : b < pc k := by
        rcases Nat.lt_or_ge b (pc k) with c | c
        · exact c
        · have : f.testBit b = false := Nat.testBit_lt_two_pow (Nat.lt_of_lt_of_le (by rw [← eMax_pow k hk]; exact hf) (Nat.pow_le_pow_right (by omega) c))
          rw [this] at hb; cases hb
      obtain ⟨p, hp, he⟩ := List.any_eq_true.1 (bit_cover k hk b hlt)
      rw [beq_iff_eq] at he
      subst he
      obtain ⟨h1, h2⟩ := prs_lt k hk p hp
      have h3 := h p (List.mem_filter.2 ⟨hp, hb⟩)
      have := onE_at e (vx (zl x)) h1 (show p.2 < x.length by omega) (by omega)
      rw [vx_zl, vx_zl, h3] at this
      rw [show onE e (vx (zl x)) x.length = onL e x from rfl] at this
      rw [this]
      rfl
end Go.Proofs.YtncbimbbkealmaaDoor
/-
  A REGION THAT DRAWS ITS ORDER, READS, AND ENDS WITH ONE CALL, IN A ROUND OF A LOOP OVER A FUNCTION: one walk in the order of the text. Over any program.
-/
namespace Go.Proofs.YtncbimbbkealmaaDoor
open Go.RowKit

variable {P : Program} {ops : Array Oper} {md : Region.Mode} {w : World}

def noDefer (l : List Oper) : Bool := l.all fun o => match o.op with | .defer _ => false | _ => true
theorem noDefer_spec {l : List Oper} (h : noDefer l = true) {o : Oper} (ho : o ∈ l) : ∀ c, o.op ≠ .defer c := by
  intro c hc
  have := List.all_eq_true.1 h o ho
  rw [hc] at this
  cases this
theorem wpInR_of_still {l n : Nat} {o : Oper} {a : Act} {K : Act → Prop} {K' : Act → World → Prop} {Q : Exit → Act → World → Prop} (hd : ∀ c, o.op ≠ .defer c) (h : ∀ a, K a → K' a w) (hh : o.still P a w K) :
    o.wpIn (Fence.wide.inRound l) n P a w K' Q := by
  refine ⟨fun _ _ => trivial, ?_⟩
  rw [show (Fence.wide.inRound l).round = some l from rfl, Oper.semAt_some l _ _ hd]
  unfold Oper.still at hh
  generalize (execOp a.eval o).run P w = r at hh ⊢
  cases r with
  | ok x w' =>
    cases x <;> simp only [Oper.stillUpon] at hh <;> simp only [Oper.uponIn]
    case enter f args =>
      obtain ⟨rfl, v, hc, hn⟩ := hh
      exact ⟨fun c => (by cases c), CallsIn.inRound l ((callsIn_wide.2 hc).mono fun e w'' ⟨he, hw⟩ => by subst he; subst hw; exact h _ hn)⟩
    all_goals (obtain ⟨rfl, h2⟩ := hh; exact h _ h2)
  | halt x w' => simp only [Oper.stillUpon] at hh
theorem wpOpInR_of_stOp {l n i : Nat} {a : Act} {K : Act → Prop} {K' : Act → World → Prop} {Q : Exit → Act → World → Prop} (hd : ∀ o, ops[i]? = some o → ∀ c, o.op ≠ .defer c) (h : ∀ a, K a → K' a w) (hh : stOp P ops w i K a) :
    wpOpIn (Fence.wide.inRound l) n P ops Q i K' a w := by
  unfold stOp at hh
  unfold wpOpIn
  split
  · rename_i ho; simp only [ho] at hh; exact h _ hh
  · rename_i o ho
    simp only [ho] at hh
    split
    · rename_i hw; simp only [hw, if_true] at hh; exact wpInR_of_still (hd o ho) h hh
    · rename_i hw; simp only [hw] at hh; exact ⟨fun _ _ => trivial, h _ hh⟩
theorem wpAnyInR_of_head {l m n g : Nat} {L : Array Bool → Act → Prop} {Q : Exit → Act → World → Prop} (hd : ∀ (i : Nat) o, ops[i]? = some o → ∀ c, o.op ≠ .defer c) (hL : ∀ listed a, L listed a → wpAnyIn (Fence.wide.inRound l) m P md ops Q g listed a w) :
    ∀ (f : Nat) (listed : Array Bool) (a : Act), wpAnyL P md ops w n L f listed a → wpAnyIn (Fence.wide.inRound l) m P md ops Q (f + g) listed a w
  | 0, listed, a, h => by rw [Nat.zero_add]; exact hL _ _ h
  | f + 1, listed, a, h => by
    rw [show f + 1 + g = (f + g) + 1 by omega]
    exact ⟨fun h0 => absurd h0 h.1, fun i hi => wpOpInR_of_stOp (hd i) (fun a' h' => wpAnyInR_of_head hd hL f _ a' h') (h.2 i hi).2⟩
theorem wpAnyInR_of_seq {r m : Nat} {Q : Exit → Act → World → Prop} : ∀ (l : List Oper) (k : Nat) (listed : Array Bool) (a : Act) (w : World), (∀ j, l[j]? = ops[k + j]?) →
    Region.seqB md ops l.length k listed = true → wpListIn (Fence.wide.inRound r) m P ops Q l a w → wpAnyIn (Fence.wide.inRound r) m P md ops Q l.length listed a w
  | [], _, _, _, _, _, hB, h => ⟨by simpa [Region.seqB] using hB, h⟩
  | o :: l, k, listed, a, w, hl, hB, h => by
    have h0 : ops[k]? = some o := by simpa using (hl 0).symm
    simp only [List.length_cons, Region.seqB, Bool.and_eq_true, decide_eq_true_eq] at hB
    refine ⟨fun h1 => (by rw [hB.1] at h1; cases h1), fun i hi => ?_⟩
    rw [hB.1] at hi
    have hik : i = k := by simpa using hi
    subst hik
    have hw : wpOpIn (Fence.wide.inRound r) m P ops Q i (wpListIn (Fence.wide.inRound r) m P ops Q l) a w := by unfold wpOpIn; simp only [h0]; exact h
    exact wpOpIn_mono (fun a' w' h' => wpAnyInR_of_seq l (i + 1) _ a' w' (fun j => by have := hl (j + 1); simpa [Nat.add_assoc, Nat.add_comm 1 j] using this) hB.2 h') hw

theorem wpInR_region_still_tail {id r m : Nat} {Q : Exit → Act → World → Prop} {a : Act} {w : World} {l : List Oper} (n : Nat) (hm : P.follows .mixedOrders = true) (hB : Region.lexTailB .any l.toArray n = true) (hd : noDefer l = true)
    (h : wpStill P l.toArray w.drew (fun a' => wpListIn (Fence.wide.inRound r) m P l.toArray Q (l.drop n) a' w.drew) (l.take n) a) : (Code.region id l.toArray true).wpIn (Fence.wide.inRound r) m P Q a w := by
  simp only [Region.lexTailB, Bool.and_eq_true, decide_eq_true_eq] at hB
  obtain ⟨⟨⟨⟨hsel, hn⟩, hs⟩, hc⟩, hlex⟩ := hB
  have hn' : n < l.length := by simpa using hn
  have htl : (l.take n).length = n := by simp; omega
  have hdl : (l.drop n).length = l.toArray.size - n := by simp
  have inv0 : HeadInv .any l.toArray n (Array.replicate l.toArray.size false) :=
    ⟨by simp, fun j oj _ hl => (by rw [getD_replicate_false] at hl; cases hl), fun t _ ht => getD_in (by simpa using ht) (getD_replicate_false _ _)⟩
  have H := wpAnyL_lex (md := .any) (g := l.toArray.size - n) hsel hs hc hn (l.take n) 0 _ a (fun j hj => by
    have hj' : j < n := by rw [htl] at hj; exact hj
    simp [hj']) (by simpa using htl) inv0 (by rw [htl]; exact hlex) h
  refine wpIn_region_any hm ?_
  have := wpAnyInR_of_head (l := r) (m := m) (Q := Q) (g := l.toArray.size - n) (fun i o ho => noDefer_spec hd (by
      have h2 : l[i]? = some o := by simpa using ho
      exact List.mem_of_getElem? h2)) (fun listed a' hL => by
    have := wpAnyInR_of_seq (md := .any) (r := r) (m := m) (Q := Q) (l.drop n) n listed a' w.drew (fun j => by simp [List.getElem?_drop]) (by rw [hdl]; exact hL.1) hL.2
    rwa [hdl] at this) _ _ _ H
  rw [htl, show n + (l.toArray.size - n) = l.toArray.size by omega] at this
  exact this
#print axioms wpInR_region_still_tail
end Go.Proofs.YtncbimbbkealmaaDoor
/-
  THE LAW OF Sees, where the assignment to the loop's variable is told what the value reads as (it stores it into a box of the round's own).
-/
namespace Go.Proofs.YtncbimbbkealmaaDoor
open Go.RowKit

variable {F : Fence} {n : Nat} {P : Program}

/-- the statement -/
theorem wpIn_range_seesA {α : Type} {g : Operand} {ps : Array Tmp} {assign body : Code} {Q : Exit → Act → World → Prop} {a : Act} {w : World}
    (hro : F.round = none) (h1 : 1 ≤ n) {gf : Nat} {lb : Array Value} (hg : a.eval g = .func (.func gf) #[] lb) (hFg : F.fn gf) (eg : ∀ args w, (callFunc gf args).run P w = .ok (.enter gf args) w)
    {See : α → Value → World → Prop} {L : List α} {w0 : World} (hseq : SeqSees F (n - 1) P gf lb See L w0) (hb0 : Below w0.heap.size w0 w) (hps : ps.size = 1)
    (hSb : ∀ x v A A', See x v A → Below A.heap.size A A' → See x v A') (hSc : ∀ x v, Cellular (See x v))
    (I : List α → World → Prop) (Ix : Code → List α → World → Prop) (hI : Under w.heap.size I) (hIx : ∀ c, Under w.heap.size (Ix c)) (h0 : I [] w)
    (Ax : Value → Act → World → Prop) (hAx : ∀ v a', Cellular (Ax v a'))
    (hassign : ∀ (l : Nat) (x : α) (v : Value) (W : World) (K : Act → World → Prop), See x v W → (∀ a' W', Below W.heap.size W W' → Ax v a' W' → K a' W') →
      assign.wpIn (F.inRound l) (n - 1 - 1) P (Exit.then K (fun _ _ _ => False)) { tmps := (ps.zip #[v]).foldl (fun t (p, v) => t.setIfInBounds p v) a.tmps, defers := [] } W)
    (hbody : ∀ (l : Nat) (pre : List α) (x : α) (rest : List α) (v : Value) (a' : Act) (W : World), w.heap.size ≤ l → (∃ r, W.heap[l]? = some (.loop r)) → L = pre ++ x :: rest → I pre W → See x v W → Ax v a' W →
      body.wpIn (F.inRound l) (n - 1 - 1) P (seesPost w.heap.size I Ix (pre ++ [x]) W) a' W)
    (hdone : ∀ (D : Nat) (W : World), w.heap.size ≤ D → I L W → W.heap[D]? = some (.deferred (some [])) → Q .normal { a with defers := { target := .collected D, args := #[] } :: a.defers } W)
    (hstop : ∀ (D : Nat) (c : Code) (pre : List α) (W : World), w.heap.size ≤ D → Ix c pre W → W.heap[D]? = some (.deferred (some [])) → c.wpIn F n P Q { a with defers := { target := .collected D, args := #[] } :: a.defers } W) :
    (Code.rangeFunc g ps assign body).wpIn F n P Q a w := by
  refine wpIn_rangeFunc fun fn hfn => ?_
  rw [hro]
  obtain ⟨k, hk⟩ : ∃ k, k = w.heap.size := ⟨_, rfl⟩
  obtain ⟨rec, hrec⟩ : ∃ rec : LoopState → Option Code → Loop, rec = fun st pe => { state := st, pending := pe, fn, tmps := a.tmps, params := ps, assign, body, defers := w.heap.size } := ⟨_, rfl⟩
  obtain ⟨W1, hW1⟩ : ∃ W1, (w.alloc (.deferred (some []))).alloc (.loop (rec .ready none)) = W1 := ⟨_, rfl⟩
  have hz1 : W1.heap.size = k + 2 := by rw [← hW1, hk]; simp
  have hL1 : W1.heap[k + 1]? = some (.loop (rec .ready none)) := by
    rw [← hW1, hk]; have := World.alloc_heap_new (w.alloc (.deferred (some []))) (.loop (rec .ready none)); rwa [World.size_alloc] at this
  have hK1 : W1.heap[k]? = some (.deferred (some [])) := by
    rw [← hW1, hk]; exact (Below.heap_alloc _ _ _ (by simp)).trans (World.alloc_heap_new w _)
  have hB1 : Below w.heap.size w W1 := by rw [← hW1]; exact ((Below.refl _ w).alloc (Nat.le_refl _) _).alloc (by simp) _
  have hb1 : Below w0.heap.size w0 W1 := hb0.trans (hB1.mono hb0.size)
  have hI1 : I [] W1 := hI _ _ _ h0 hB1
  refine ⟨k + 1, [{ target := .collected k, args := #[] }], W1, { target := .fn (.func gf) lb, args := #[.func (.yield (k + 1)) #[] #[]] }, W1, gf, #[.func (.yield (k + 1)) #[] #[]] ++ lb, W1, ?_, ?_, ?_, ?_, fun _ => h1, ?_⟩
  · rw [← hW1, hrec, hk]; exact run_enterLoop_outer _ _ _ _ _
  · simp only [resolve, hg]
    simp [go_sem]
  · intro f' hf'; simp [Target.leads] at hf'; subst hf'; exact hFg
  · simp [invoke, go_sem, eg]
  have hkeep : ∀ {A A' : World}, Below W1.heap.size A A' → (∀ r, A.heap[k + 1]? = some r → A'.heap[k + 1]? = some r) ∧ (∀ r, A.heap[k]? = some r → A'.heap[k]? = some r) :=
    fun hb => ⟨fun r h => (hb.block _ (by omega)).trans h, fun r h => (hb.block _ (by omega)).trans h⟩
  refine (hseq (k + 1)
    (fun pre W => I pre W ∧ W.heap[k + 1]? = some (.loop (rec .ready none)) ∧ W.heap[k]? = some (.deferred (some [])))
    (fun pre W => ∃ c, Ix c pre W ∧ W.heap[k + 1]? = some (.loop (rec .done (some c))) ∧ W.heap[k]? = some (.deferred (some []))) W1 hb1
    (fun s A A' hs hb => ⟨hI s A A' hs.1 (hb.mono (by omega)), (hkeep hb).1 _ hs.2.1, (hkeep hb).2 _ hs.2.2⟩)
    (fun s A A' hs hb => by obtain ⟨c, hc, hl, hd⟩ := hs; exact ⟨c, hIx c s A A' hc (hb.mono (by omega)), (hkeep hb).1 _ hl, (hkeep hb).2 _ hd⟩)
    ?_ ⟨hI1, hL1, hK1⟩).mono ?_
  · -- one round
    rintro pre x rest v W hLx ⟨hi, hl, hd⟩ hsee
    have hlt : k + 1 < W.heap.size := (Array.getElem?_eq_some_iff.1 hl).1
    have hy := run_yield (P := P) (args := #[v]) hl (by rw [hrec]; exact hps.symm)
    rw [hrec] at hy
    refine ⟨fn, _, assign, body, hy, roundIn_of_wpIn hfn (hassign _ x v W _ hsee fun a' Wa hba hax => ?_)⟩
    have hla : Wa.heap[k + 1]? = some (.loop (rec .ready none)) := (hba.block _ hlt).trans hl
    have hda : Wa.heap[k]? = some (.deferred (some [])) := (hba.block _ (by omega)).trans hd
    have hlta : k + 1 < Wa.heap.size := Nat.lt_of_lt_of_le hlt hba.size
    refine ⟨_, run_beginRound hla (by rw [hrec]), ?_⟩
    obtain ⟨Wb, hWb⟩ : ∃ Wb, Wb = Wa.putObj (k + 1) (.loop { rec .ready none with state := .busy }) := ⟨_, rfl⟩
    rw [← hWb]
    have hlb : Wb.heap[k + 1]? = some (.loop { rec .ready none with state := .busy }) := by rw [hWb]; exact World.putObj_heap_same hlta
    have hdb : Wb.heap[k]? = some (.deferred (some [])) := by rw [hWb]; exact (World.putObj_heap_other (by omega)).trans hda
    have hib : I pre Wb := by rw [hWb]; exact hI _ _ _ (hI _ _ _ hi (hba.mono (by omega))) (below_putObj _ _ _ (by omega))
    have hsb : See x v Wb := by rw [hWb]; exact hSc x v _ _ _ _ (hSb x v _ _ hsee hba) hla rfl
    have hab : Ax v a' Wb := by rw [hWb]; exact hAx v a' _ _ _ _ hax hla rfl
    have hub : Upper W1.heap.size W Wb := by rw [hWb]; exact (Upper.of_below hba).trans (Upper.putObj _ _ _ (by omega))
    refine wpIn_mono (hbody _ pre x rest v a' Wb (by omega) ⟨_, hlb⟩ hLx hib hsb hab) ?_
    have fin : ∀ (jump : Option Code) (W3 : World), Upper w.heap.size Wb W3 →
        (Instr.endRound (k + 1) jump).run P W3 = .ok (.bool jump.isNone) (W3.putObj (k + 1) (.loop (rec (if jump.isNone then .ready else .done) jump))) ∧
        (W3.putObj (k + 1) (.loop (rec (if jump.isNone then .ready else .done) jump))).heap[k + 1]? = some (.loop (rec (if jump.isNone then .ready else .done) jump)) ∧
        (W3.putObj (k + 1) (.loop (rec (if jump.isNone then .ready else .done) jump))).heap[k]? = some (.deferred (some [])) ∧
        Upper W1.heap.size W (W3.putObj (k + 1) (.loop (rec (if jump.isNone then .ready else .done) jump))) := fun jump W3 hu => by
      have hl3 := (hu.same _ (by omega) (Array.getElem?_eq_some_iff.1 hlb).1).trans hlb
      have hd3 := (hu.same _ (by omega) (Array.getElem?_eq_some_iff.1 hdb).1).trans hdb
      have := run_endRound (P := P) jump hl3
      rw [hrec] at this ⊢
      exact ⟨this, World.putObj_heap_same (Array.getElem?_eq_some_iff.1 hl3).1, (World.putObj_heap_other (by omega)).trans hd3, (hub.trans (hu.mono (by omega))).trans (Upper.putObj _ _ _ (by omega))⟩
    rintro e a3 W3 hp
    cases e with
    | normal =>
      obtain ⟨hr, hl4, hd4, hu4⟩ := fin none W3 hp.1
      exact ⟨_, _, hr, .inl ⟨rfl, ⟨hI _ _ _ hp.2 (below_putObj _ _ _ (by omega)), hl4, hd4⟩, hu4⟩⟩
    | ret =>
      obtain ⟨hr, hl4, hd4, _⟩ := fin (some .ret) W3 hp.1
      exact ⟨_, _, hr, .inr ⟨rfl, .ret, hIx _ _ _ _ hp.2 (below_putObj _ _ _ (by omega)), hl4, hd4⟩⟩
    | exit id =>
      obtain ⟨hr, hl4, hd4, _⟩ := fin (some (.exit id)) W3 hp.1
      exact ⟨_, _, hr, .inr ⟨rfl, .exit id, hIx _ _ _ _ hp.2 (below_putObj _ _ _ (by omega)), hl4, hd4⟩⟩
    | goto t =>
      obtain ⟨hr, hl4, hd4, _⟩ := fin (some (.goto t)) W3 hp.1
      exact ⟨_, _, hr, .inr ⟨rfl, .goto t, hIx _ _ _ _ hp.2 (below_putObj _ _ _ (by omega)), hl4, hd4⟩⟩
    | panic ch => exact hp.elim
    | outgrown => exact hp.elim
  · -- behind the iterator
    rintro e W2 ⟨⟨v, rfl⟩, (⟨hi, hl, hd⟩ | ⟨pre, c, hi, hl, hd⟩)⟩
    · exact ⟨none, _, by have := run_endLoop (P := P) hl (by rw [hrec]; simp); rw [hrec] at this; exact this, hdone k _ (by omega) (hI _ _ _ hi (below_putObj _ _ _ (by omega))) ((World.putObj_heap_other (by omega)).trans hd)⟩
    · exact ⟨some c, _, by have := run_endLoop (P := P) hl (by rw [hrec]; simp); rw [hrec] at this; exact this, hstop k c pre _ (by omega) (hIx c _ _ _ hi (below_putObj _ _ _ (by omega))) ((World.putObj_heap_other (by omega)).trans hd)⟩
#print axioms wpIn_range_seesA
end Go.Proofs.YtncbimbbkealmaaDoor
/-
  CONTRACT OF OppositeGraph, the program's (a loop over the iterator of pairs) and the model's; the plain fact that both are one.
-/
namespace Go.Proofs.YtncbimbbkealmaaDoor
open Go.RowKit Go.Shelf
set_option maxRecDepth 100000
attribute [local go_sem] Oper.semAt_some

/-- the bits of some pairs -/
def foldE (ps : List (Nat × Nat)) : Nat := ps.foldl (fun acc p => acc ||| pb p.1 p.2) 0
theorem foldE_snoc (ps : List (Nat × Nat)) (p : Nat × Nat) : foldE (ps ++ [p]) = foldE ps ||| pb p.1 p.2 := by simp [foldE]
theorem foldE_lt {n : Nat} (hn : n ≤ 5) (xs : List (Pr n)) : foldE (vals xs) < 2 ^ 10 := by
  have : ∀ (ys : List (Pr n)) (a : Nat), a < 2 ^ 10 → (vals ys).foldl (fun acc p => acc ||| pb p.1 p.2) a < 2 ^ 10 := by
    intro ys
    induction ys with
    | nil => intro a h; exact h
    | cons y ys ih => intro a h; exact ih _ (Nat.or_lt_two_pow h (pb_lt y.1.1 y.1.2 y.2.1 (by have := y.2.2; omega)))
  exact this xs 0 (by omega)
/-- the bits of the opposite graph -/
def oppE (n e : Nat) : Nat := foldE ((prs n).filter fun p => !jn e p.1 p.2)
theorem oppE_eq : ∀ n, n ≤ 5 → ∀ e, e < eMax n → oppE n e = (eMax n - 1) ^^^ e := by decide +kernel

section
variable (w : World)
/-- the iterator, made: its two boxes -/
def PtMade (w w' : World) (n e : Int) (A : Nat) : Prop := Below w.heap.size w w' ∧ w.heap.size + 2 ≤ w'.heap.size ∧ w'.cell? ⟨w.heap.size, 0, none⟩ = some (.int .i64 n) ∧ w'.cell? ⟨w.heap.size, 1, none⟩ = some (.int .u32 e) ∧ w'.cell? ⟨w.heap.size + 1, 0, none⟩ = some (.func (.func A) #[] #[])
end
end Go.Proofs.YtncbimbbkealmaaDoor
namespace Go.Proofs.YtncbimbbkealmaaDoor
open Go.RowKit Go.Shelf
set_option maxRecDepth 100000
attribute [local go_sem] Oper.semAt_some
theorem cell_lt {W : World} {B o : Nat} {v : Value} (h : W.cell? ⟨B, o, none⟩ = some v) : B < W.heap.size := by
  unfold World.cell? at h
  rcases Nat.lt_or_ge B W.heap.size with h1 | h1
  · exact h1
  · simp [Array.getElem?_eq_none h1] at h
/-- how many of the pairs have the vertex v -/
def degs (ps : List (Nat × Nat)) (v : Nat) : Nat := ps.foldl (fun c p => c + (if v = p.1 then 1 else 0) + (if v = p.2 then 1 else 0)) 0
theorem degs_snoc (ps : List (Nat × Nat)) (p : Nat × Nat) (v : Nat) : degs (ps ++ [p]) v = degs ps v + (if v = p.1 then 1 else 0) + (if v = p.2 then 1 else 0) := by simp [degs]
theorem degs_le (ps : List (Nat × Nat)) (v : Nat) : degs ps v ≤ 2 * ps.length := by
  have : ∀ (qs : List (Nat × Nat)) (a : Nat), qs.foldl (fun c p => c + (if v = p.1 then 1 else 0) + (if v = p.2 then 1 else 0)) a ≤ a + 2 * qs.length := by
    intro qs
    induction qs with
    | nil => intro a; simp
    | cons q qs ih =>
      intro a
      refine Nat.le_trans (ih _) ?_
      simp only [List.length_cons]
      split <;> split <;> omega
  simpa [degs] using this ps 0
/-- how many of the vertices before m are joined to i -/
def cnt (e i : Nat) : Nat → Nat | 0 => 0 | m + 1 => cnt e i m + if i ≠ m ∧ jn e i m = true then 1 else 0
theorem cnt_le (e i m : Nat) : cnt e i m ≤ m := by
  induction m with
  | zero => simp [cnt]
  | succ m ih => simp only [cnt]; split <;> omega
def degE (n e v : Nat) : Nat := degs ((prs n).filter fun p => jn e p.1 p.2) v
theorem degE_eq : ∀ n, n ≤ 5 → ∀ e, e < eMax n → ∀ v, v < n → degE n e v = cnt e v n := by decide +kernel

section
variable (w : World)
theorem sjoined_self (n e i : Nat) :
    Calls Tryd.prog 105 #[.agg #[.int .i64 n, .int .u32 e], .int .i64 i, .int .i64 i] w fun r w' => r = .returned (.bool false) ∧ Below w.heap.size w w' := by
  have hd2 : ((i : Int) != (i : Int)) = false := by simp
  go_enter Tryd.func105, Tryd.ntmps105
  go_wp2
  go_quiet (fail)
  go_wp2
  go_ret
  exact ⟨rfl, by (repeat (first | exact Below.refl _ _ | assumption | refine bchain (by assumption) ?_ | refine balloc ?_ _ | apply Below.drew | apply below_drewN | (refine Below.alloc ?_ (by (try simp) <;> omega) _) | (refine Below.setCell ?_ (by (try simp) <;> omega) _)))⟩

end
end Go.Proofs.YtncbimbbkealmaaDoor
namespace Go.Proofs.YtncbimbbkealmaaDoor
open Go.RowKit Go.Shelf
set_option maxRecDepth 100000
attribute [local go_sem] Oper.semAt_some
/-- the boxes of two graphs, and of the result -/
structure HB (wr : World) (G : Nat) (n e k f : Int) (b : Bool) : Prop where
  size : G + 2 < wr.heap.size
  g0 : wr.cell? ⟨G, 0, none⟩ = some (.int .i64 n)
  g1 : wr.cell? ⟨G, 1, none⟩ = some (.int .u32 e)
  h0 : wr.cell? ⟨G + 1, 0, none⟩ = some (.int .i64 k)
  h1 : wr.cell? ⟨G + 1, 1, none⟩ = some (.int .u32 f)
  r0 : wr.cell? ⟨G + 2, 0, none⟩ = some (.bool b)
  fr : wr.frozen? ⟨G + 2, 0, none⟩ = false
theorem HB.under {wr w' : World} {G B : Nat} {n e k f : Int} {b : Bool} (h : HB wr G n e k f b) (hb : Below B wr w') (hB : G + 2 < B) : HB w' G n e k f b where
  size := Nat.lt_of_lt_of_le h.size hb.size
  g0 := (hb.cell (p := ⟨G, 0, none⟩) (by show G < B; omega)).trans h.g0
  g1 := (hb.cell (p := ⟨G, 1, none⟩) (by show G < B; omega)).trans h.g1
  h0 := (hb.cell (p := ⟨G + 1, 0, none⟩) (by show G + 1 < B; omega)).trans h.h0
  h1 := (hb.cell (p := ⟨G + 1, 1, none⟩) (by show G + 1 < B; omega)).trans h.h1
  r0 := (hb.cell (p := ⟨G + 2, 0, none⟩) hB).trans h.r0
  fr := (hb.frozen (p := ⟨G + 2, 0, none⟩) hB).trans h.fr
theorem HB.set {wr : World} {G : Nat} {n e k f : Int} {b : Bool} (h : HB wr G n e k f b) (c : Bool) : HB (wr.setCell ⟨G + 2, 0, none⟩ (.bool c)) G n e k f c where
  size := by have := h.size; simpa using this
  g0 := (World.cell?_setCell_other _ _ _ _ (by simp)).trans h.g0
  g1 := (World.cell?_setCell_other _ _ _ _ (by simp)).trans h.g1
  h0 := (World.cell?_setCell_other _ _ _ _ (by simp)).trans h.h0
  h1 := (World.cell?_setCell_other _ _ _ _ (by simp)).trans h.h1
  r0 := World.cell?_setCell_same _ _ _ h.r0
  fr := by rw [World.frozen?_setCell]; exact h.fr
theorem HB.begin (w : World) (n e k f : Int) (t u : TypeId) : HB (((w.alloc (.cells #[.int .i64 n, .int .u32 e] t)).alloc (.cells #[.int .i64 k, .int .u32 f] t)).alloc (.cells #[.bool false] u)) w.heap.size n e k f false := by
  have s1 : ∀ (W : World) (o : Obj), (W.alloc o).heap.size = W.heap.size + 1 := fun W o => by simp
  constructor
  · rw [s1, s1, s1]; omega
  · rw [cOld _ _ _ _ (by rw [s1, s1]; omega), cOld _ _ _ _ (by rw [s1]; omega), cNew _ _ _ _ _ rfl]; rfl
  · rw [cOld _ _ _ _ (by rw [s1, s1]; omega), cOld _ _ _ _ (by rw [s1]; omega), cNew _ _ _ _ _ rfl]; rfl
  · rw [cOld _ _ _ _ (by rw [s1, s1]; omega), cNew _ _ _ _ _ (by rw [s1])]; rfl
  · rw [cOld _ _ _ _ (by rw [s1, s1]; omega), cNew _ _ _ _ _ (by rw [s1])]; rfl
  · rw [cNew _ _ _ _ _ (by rw [s1, s1])]; rfl
  · rw [fNew _ _ _ _ _ (by rw [s1, s1])]

def partAct (n e k f : Nat) (G B : Nat) (v : Value) (Lb : Nat) : Act := { tmps := #[.agg #[.int .i64 n, .int .u32 e], .agg #[.int .i64 k, .int .u32 f], .pointer (some ⟨G, 0, none⟩), .pointer (some ⟨G + 1, 0, none⟩), .pointer (some ⟨G + 1 + 1, 0, none⟩), .pointer (some ⟨Lb, 0, none⟩),
  undef, undef, .pointer (some ⟨G, 0, none⟩), .int .i64 n, .pointer (some ⟨G + 1, 0, none⟩), .int .i64 k,
  .func (.func 135) #[] #[.pointer (some ⟨B, 0, none⟩), .pointer (some ⟨B + 1, 0, none⟩)], v, undef, undef, undef, undef, undef, undef, undef, undef, undef, undef, undef, undef, undef, undef], defers := [] }
def PartAx (n e k f : Nat) (G B : Nat) (v : Value) (a' : Act) (W : World) : Prop := ∃ Lb, a' = partAct n e k f G B v Lb ∧ W.cell? ⟨Lb, 0, none⟩ = some v
theorem PartAx.cellular (n e k f : Nat) (G B : Nat) (v : Value) (a' : Act) : Cellular (PartAx n e k f G B v a') := fun A l o o' h hl ho => by
  obtain ⟨Lb, h1, h2⟩ := h
  exact ⟨Lb, h1, cellular_cell _ _ A l o o' h2 hl ho⟩
def PartI (w : World) (n e k f : Nat) (G : Nat) (pre : List (List Nat)) (W : World) : Prop := HB W G n e k f false ∧ (∀ x ∈ pre, fits e f k x = false) ∧ Below G w W
def PartIx (w : World) (n e k f : Nat) (G : Nat) (c : Code) (_pre : List (List Nat)) (W : World) : Prop := c = .ret ∧ (∃ x, x ∈ lists n k ∧ fits e f k x = true) ∧ HB W G n e k f true ∧ Below G w W

end Go.Proofs.YtncbimbbkealmaaDoor
namespace Go.Proofs.YtncbimbbkealmaaDoor
open Go.RowKit Go.Shelf
set_option maxRecDepth 100000
/-- the boxes of two graphs -/
structure H2 (wr : World) (G : Nat) (n e k f : Int) : Prop where
  size : G + 1 < wr.heap.size
  g0 : wr.cell? ⟨G, 0, none⟩ = some (.int .i64 n)
  g1 : wr.cell? ⟨G, 1, none⟩ = some (.int .u32 e)
  h0 : wr.cell? ⟨G + 1, 0, none⟩ = some (.int .i64 k)
  h1 : wr.cell? ⟨G + 1, 1, none⟩ = some (.int .u32 f)
theorem H2.under {wr w' : World} {G B : Nat} {n e k f : Int} (h : H2 wr G n e k f) (hb : Below B wr w') (hB : G + 1 < B) : H2 w' G n e k f where
  size := Nat.lt_of_lt_of_le h.size hb.size
  g0 := (hb.cell (p := ⟨G, 0, none⟩) (by show G < B; omega)).trans h.g0
  g1 := (hb.cell (p := ⟨G, 1, none⟩) (by show G < B; omega)).trans h.g1
  h0 := (hb.cell (p := ⟨G + 1, 0, none⟩) hB).trans h.h0
  h1 := (hb.cell (p := ⟨G + 1, 1, none⟩) hB).trans h.h1
theorem H2.begin (w : World) (n e k f : Int) (t : TypeId) : H2 ((w.alloc (.cells #[.int .i64 n, .int .u32 e] t)).alloc (.cells #[.int .i64 k, .int .u32 f] t)) w.heap.size n e k f := by
  have s1 : ∀ (W : World) (o : Obj), (W.alloc o).heap.size = W.heap.size + 1 := fun W o => by simp
  constructor
  · rw [s1, s1]; omega
  · rw [cOld _ _ _ _ (by rw [s1]; omega), cNew _ _ _ _ _ rfl]; rfl
  · rw [cOld _ _ _ _ (by rw [s1]; omega), cNew _ _ _ _ _ rfl]; rfl
  · rw [cNew _ _ _ _ _ (by rw [s1])]; rfl
  · rw [cNew _ _ _ _ _ (by rw [s1])]; rfl

theorem spart_big (w : World) (n e k f : Nat) (hn5 : n ≤ 5) (hk5 : k ≤ 5) (hkn : n < k) :
    Calls Tryd.prog 124 #[.agg #[.int .i64 n, .int .u32 e], .agg #[.int .i64 k, .int .u32 f]] w fun r w' => r = .returned (.bool (partB n e k f)) ∧ Below w.heap.size w w' := by
  have hpb : Hid (partB n e k f = false) := by
    show partB n e k f = false
    unfold partB
    rw [lists_none n hn5 k hk5 hkn]
    rfl
  go_enter Tryd.func124, Tryd.ntmps124
  go_wp2
  go_ret
  exact ⟨by rw [hpb.out]; rfl, by (repeat (first | exact Below.refl _ _ | assumption | refine bchain (by assumption) ?_ | refine balloc ?_ _ | apply Below.drew | apply below_drewN | (refine Below.alloc ?_ (by (try simp) <;> omega) _) | (refine Below.setCell ?_ (by (try simp) <;> omega) _)))⟩

set_option maxHeartbeats 4000000 in
theorem spart_any (w : World) (n e k f : Nat) (h : VG n e) (h2 : VG k f) :
    Calls Tryd.prog 124 #[.agg #[.int .i64 n, .int .u32 e], .agg #[.int .i64 k, .int .u32 f]] w fun r w' => r = .returned (.bool (partB n e k f)) ∧ Below w.heap.size w w' := by
  have he : e < 4294967296 := by have := h.2.2.2; have := eMax_le n; simp at *; omega
  have hfm : f < eMax k := by have := h2.2.2.2; simp at this; omega
  have hf : f < 1024 := by have := eMax_le k; omega
  have hn5 : n ≤ 5 := by have := h.2.1; omega
  have hk5 : k ≤ 5 := by have := h2.2.1; omega
  rcases Nat.lt_or_ge n k with hkn | hkn
  · exact spart_big w n e k f hn5 hk5 hkn
  have hP0 := H2.begin w n e k f 31
  go_enter Tryd.func124, Tryd.ntmps124
  go_wp2_with fail
  refine (first_any _ k hk5).mono ?_
  rintro r2 w2 ⟨⟨v, rfl, hO⟩, hb2⟩
  have hB2 : Below w.heap.size w w2 := by (repeat (first | exact Below.refl _ _ | assumption | refine bchain (by assumption) ?_ | refine balloc ?_ _ | apply Below.drew | apply below_drewN | (refine Below.alloc ?_ (by (try simp) <;> omega) _) | (refine Below.setCell ?_ (by (try simp) <;> omega) _)))
  have hP2 := Lib.hid (hP0.under (w' := w2) hb2 hP0.size)
  obtain ⟨w0, hw0⟩ : ∃ w0, w0 = ((w.alloc (.cells #[.int .i64 (n : Int), .int .u32 (e : Int)] 31)).alloc (.cells #[.int .i64 (k : Int), .int .u32 (f : Int)] 31)) := ⟨_, rfl⟩
  have hG0 : w.heap.size + 1 < w0.heap.size := by rw [hw0]; exact hP0.size
  rw [← hw0] at hO
  obtain ⟨G, hG⟩ : ∃ G, w.heap.size = G := ⟨_, rfl⟩
  rw [hG] at hP2 hB2 hG0
  replace hB2 := Lib.hid hB2
  replace hO := Lib.hid (hO.congr (fun i hi => lf_range k i hi))
  rw [hG]
  clear hb2 hP0 hw0 h h2
  replace hG := Lib.hid hG
  go_wp2_with fail
  go_loopg [6] ((lists n k).length) (fun c s wr => SlHead w0 v n k (fun pre W => (∀ x ∈ pre, fits e f k x = false) ∧ H2 W G n e k f ∧ Below G w W) c s wr)
  case atStart =>
    have hfl := lists_first n hn5 k hkn
    exact .inl ⟨0, _, (List.getElem?_eq_some_iff.1 hfl).1, by omega, rfl, hfl, hO.out, fun x hx => (by cases hx), hP2.out, hB2.out⟩
  case round =>
    rcases hrel with ⟨j, x, hj, hc, rfl, hx, hOx, hno, hPx, hBx⟩ | ⟨hc, rfl, hno, hPx, hBx⟩
    · have hok := lists_ok hn5 hk5 (x := x) (List.mem_of_getElem? hx)
      have hst := lists_step hn5 hkn hj hx
      have hOn := Lib.hid (sonL_any wr.drew v x n k e (show See x v wr.drew from hOx.see (ok_length hok)) hn5 he hok)
      have hft := fits_eq (e := e) (f := f) (k := k) (x := x) hk5 (ok_length hok) hfm
      have hyl := onL_lt e x (by rw [ok_length hok]; exact hk5)
      have hand := u32_and_nat f (onL e x) (by omega) (by omega)
      have hle : f &&& onL e x < 4294967296 := Nat.lt_of_le_of_lt Nat.and_le_left (by omega)
      obtain ⟨ok, hok2⟩ : ∃ ok, fits e f k x = ok := ⟨_, rfl⟩
      rw [hok2] at hft
      have hyes : Hid (ok = true → partB n e k f = true) := fun c => by
        unfold partB
        rw [List.any_eq_true]
        exact ⟨x, List.mem_of_getElem? hx, by rw [hok2, c]⟩
      have hno2 : Hid (ok = false → ∀ y ∈ (lists n k).take (j + 1), fits e f k y = false) := fun c y hy => by
        rw [take_snoc' hx, List.mem_append] at hy
        rcases hy with hy | hy
        · exact hno y hy
        · simp only [List.mem_singleton] at hy; subst hy; rw [hok2, c]
      obtain ⟨y, hy⟩ : ∃ y, onL e x = y := ⟨_, rfl⟩
      rw [hy] at hOn hft hand hyl hle
      obtain ⟨z, hz⟩ : ∃ z, f &&& y = z := ⟨_, rfl⟩
      rw [hz] at hft hand hle
      have hbe : ((z : Int) == (f : Int)) = ok := by rw [← hft, Bool.eq_iff_iff]; simp; omega
      have hfd : ∀ W : World, (Instr.field 31 (.agg #[.int .i64 (k : Int), .int .u32 (y : Int)]) 1).run Tryd.prog W = .ok (.int .u32 (y : Int)) W := fun _ => by kernel_rfl
      clear hft hy hz hok2
      have hend : ∀ (e4 : Ending) (W w4 : World), ok = false → NextAt n k w0 v x W e4 w4 → H2 W G n e k f → Below G w W →
          ∃ ok2 : Bool, e4 = .returned (.bool ok2) ∧ Hid (∃ c', c' < gk ∧ SlHead w0 v n k (fun pre W => (∀ x ∈ pre, fits e f k x = false) ∧ H2 W G n e k f ∧ Below G w W) c' (.bool ok2) w4) := fun e4 W w4 hokf hN hPW hBW => by
        have hn2 := hno2.out hokf
        rcases hN with ⟨x', hy, he4, hyk, hOy, hbN⟩ | ⟨hy, he4, hbN⟩
        · rw [hst] at hy
          have hj1 := (List.getElem?_eq_some_iff.1 hy).1
          exact ⟨true, he4, (lists n k).length - (j + 1), by omega, .inl ⟨j + 1, x', hj1, rfl, rfl, hy, hOy, hn2, hPW.under hbN hG0, hBW.trans (hbN.mono (by omega))⟩⟩
        · rw [hst] at hy
          have hj1 : (lists n k).length ≤ j + 1 := by simpa using hy
          rw [List.take_of_length_le hj1] at hn2
          exact ⟨false, he4, 0, by omega, .inr ⟨rfl, rfl, hn2, hPW.under hbN hG0, hBW.trans (hbN.mono (by omega))⟩⟩
      replace hend := Lib.hid hend
      obtain ⟨q0, q1, q2, q3, q4⟩ := id hPx
      replace hPx := Lib.hid hPx
      replace hx := Lib.hid hx
      replace hst := Lib.hid hst
      replace hOx := Lib.hid hOx
      replace hno := Lib.hid hno
      replace hc := Lib.hid hc
      go_wp2_with fail
      go_region_with (go_at_call 69; refine (hOn.out).mono ?_; rintro r3 w3 ⟨rfl, hb3⟩; obtain ⟨hc3, hz3⟩ := bkeep hb3 (G + 1) q0)
      all_goals
        have hb3' := (show Below wr.heap.size wr w3 from (Below.refl _ wr).drew.trans hb3)
        have hOw := Lib.hid (hOx.out.below hb3')
        have hPw := hPx.out.under hb3' q0
        have q1' := hPw.g0
        have hBw : Below G w w3 := hBx.trans (hb3'.mono (by omega))
        cases ok
        · go_wp2_with fail
          refine (next_any _ w0 v n k x hOw.out hn5 hk5 hok).mono ?_
          rintro r4 w4 hN
          obtain ⟨ok2, rfl, hE⟩ := hend.out r4 _ w4 (by first | trivial | rfl) hN hPw hBw
          clear hN
          go_wp2
          obtain ⟨c', hc1, hc2⟩ := hE.out
          go_roundg c'
          case measure => exact hc1
          case rel => exact hc2
        · have hyt := Lib.hid (hyes.out (by first | trivial | rfl))
          clear hyes
          go_wp2_with fail
          go_ret
          exact ⟨by rw [hyt.out]; rfl, by rw [hG.out]; exact hBw⟩
    · have hpb : Hid (partB n e k f = false) := by
        show partB n e k f = false
        unfold partB
        rw [List.any_eq_false]
        intro x hx
        rw [hno x hx]
        simp
      clear hno hPx
      go_wp2
      go_ret
      exact ⟨by rw [hpb.out]; rfl, by rw [hG.out]; exact hBx⟩

end Go.Proofs.YtncbimbbkealmaaDoor
/-
  LISTS OF FORBIDDEN PARTS; IsFree: the program's and the model's contracts.
-/
namespace Go.Proofs.YtncbimbbkealmaaDoor
open Go.RowKit
set_option maxRecDepth 100000

/-- the list lies in the world, each element where it is read -/
def Lies (w : World) (a : Option Addr) (gs : List (Int × Int)) : Prop := ∀ i, i < gs.length → ∃ b off, a = some ⟨b, off, none⟩ ∧ b < w.heap.size ∧ GCell w b off (gAt gs i) i
theorem SlG.lies {w : World} {v : Value} {gs : List (Int × Int)} (h : SlG w v gs) : ∃ a cap, v = .slice a gs.length cap ∧ Lies w a gs := by
  obtain ⟨a, cap, e, _, _, h3⟩ := h
  refine ⟨a, cap, e, fun i hi => ?_⟩
  obtain ⟨b, off, e2, hlt, hc⟩ := h3 (by intro c; rw [c] at hi; simp at hi)
  exact ⟨b, off, e2, hlt, hc i hi⟩
theorem Lies.below {w w' : World} {a : Option Addr} {gs : List (Int × Int)} (h : Lies w a gs) (hb : Below w.heap.size w w') : Lies w' a gs := fun i hi => by
  obtain ⟨b, off, e, hlt, hc⟩ := h i hi
  exact ⟨b, off, e, Nat.lt_of_lt_of_le hlt hb.size, (hb.cell (p := ⟨b, _, none⟩) hlt).trans hc.1, (hb.cell (p := ⟨b, _, none⟩) hlt).trans hc.2⟩
def GV (gs : List (Int × Int)) (i : Nat) : Prop := VG (gAt gs i).1 (gAt gs i).2
def AllV (gs : List (Int × Int)) : Prop := ∀ i, i < gs.length → GV gs i
def Bd (gs : List (Int × Int)) : Prop := ∀ i, i < gs.length → 0 ≤ (gAt gs i).2 ∧ (gAt gs i).2 < 4294967296
theorem not_allV {gs : List (Int × Int)} (h : ¬ AllV gs) : ∃ m, m < gs.length ∧ (∀ k, k < m → GV gs k) ∧ ¬ GV gs m := by
  have : ∀ m, m ≤ gs.length → (∀ k, k < m → GV gs k) ∨ ∃ m', m' < gs.length ∧ (∀ k, k < m' → GV gs k) ∧ ¬ GV gs m' := by
    intro m
    induction m with
    | zero => intro _; exact .inl (fun k hk => by omega)
    | succ m ih =>
      intro hm
      rcases ih (by omega) with h1 | h1
      · by_cases hf : GV gs m
        · refine .inl (fun k hk => ?_)
          by_cases e : k = m
          · rw [e]; exact hf
          · exact h1 k (by omega)
        · exact .inr ⟨m, by omega, h1, hf⟩
      · exact .inr h1
  rcases this gs.length (Nat.le_refl _) with h1 | h1
  · exact absurd h1 h
  · exact h1
def hasB (n e : Nat) (gs : List (Int × Int)) (i : Nat) : Bool := partB n e (gAt gs i).1.toNat (gAt gs i).2.toNat
def freeB (n e : Nat) (gs : List (Int × Int)) : Bool := (List.range gs.length).all fun i => !hasB n e gs i
def NoneTo (n e : Nat) (gs : List (Int × Int)) (k : Nat) : Prop := ∀ i, i < k → hasB n e gs i = false
theorem freeB_t {n e : Nat} {gs : List (Int × Int)} (h : NoneTo n e gs gs.length) : freeB n e gs = true := by
  unfold freeB
  rw [List.all_eq_true]
  intro i hi
  rw [h i (by simpa using hi)]
  rfl
theorem freeB_f {n e : Nat} {gs : List (Int × Int)} {i : Nat} (hi : i < gs.length) (h : hasB n e gs i = true) : freeB n e gs = false := by
  rw [Bool.eq_false_iff]
  intro c
  unfold freeB at c
  have := List.all_eq_true.1 c i (by simpa using hi)
  rw [h] at this
  cases this
section
variable (w : World)

set_option maxHeartbeats 1000000 in
theorem sfree_any (n e : Nat) (h : VG n e) (a : Option Addr) (cap : Nat) (gs : List (Int × Int)) (hm : gs.length ≤ 1048576) (hc : Lies w a gs) (hV : AllV gs) :
    Calls Tryd.prog 100 #[.agg #[.int .i64 n, .int .u32 e], .slice a gs.length cap] w fun r w' => r = .returned (.bool (freeB n e gs)) ∧ Below w.heap.size w w' := by
  obtain ⟨l, hl⟩ : ∃ l, l = gs.length := ⟨_, rfl⟩
  rw [← hl] at hm ⊢
  replace hc := Lib.hid hc
  replace hV := Lib.hid hV
  replace hl := Lib.hid hl
  have hbx := Lib.hid (show (w.alloc (.cells #[.int .i64 (n : Int), .int .u32 (e : Int)] 31)).cell? ⟨w.heap.size, 0, none⟩ = some (.int .i64 n) ∧ (w.alloc (.cells #[.int .i64 (n : Int), .int .u32 (e : Int)] 31)).cell? ⟨w.heap.size, 1, none⟩ = some (.int .u32 e) from ⟨by rw [cNew _ _ _ _ _ rfl]; rfl, by rw [cNew _ _ _ _ _ rfl]; rfl⟩)
  go_enter Tryd.func100, Tryd.ntmps100
  go_wp2
  go_loopw [5] (fun i wr => ∃ k : Nat, k ≤ l ∧ i = .int .i64 k ∧ Hid (NoneTo n e gs k) ∧ wr.cell? ⟨w.heap.size, 0, none⟩ = some (.int .i64 n) ∧ wr.cell? ⟨w.heap.size, 1, none⟩ = some (.int .u32 e) ∧ w.heap.size < wr.heap.size ∧ Below w.heap.size w wr) (fun i _ => l - (intOf i).toNat)
  case atStart => exact ⟨0, by omega, rfl, fun i hi => by omega, hbx.out.1, hbx.out.2, by simp, by (repeat (first | exact Below.refl _ _ | assumption | refine bchain (by assumption) ?_ | refine balloc ?_ _ | apply Below.drew | apply below_drewN | (refine Below.alloc ?_ (by (try simp) <;> omega) _) | (refine Below.setCell ?_ (by (try simp) <;> omega) _)))⟩
  case round =>
    obtain ⟨k, hk, rfl, hno, c0, c1, hz, hB⟩ := hrel
    by_cases hlt : k < l
    · obtain ⟨b, off, rfl, hb, hg⟩ := hc.out k (by have := hl.out; omega)
      have hv := hV.out k (by have := hl.out; omega)
      unfold GV at hv
      have hh : ∃ x y : Nat, gAt gs k = ((x : Int), (y : Int)) ∧ VG x y ∧ hasB n e gs k = partB n e x y := by
        refine ⟨(gAt gs k).1.toNat, (gAt gs k).2.toNat, ?_, ?_, rfl⟩
        · have h1 := hv.1; have h2 := hv.2.2.1
          apply Prod.ext
          · show (gAt gs k).1 = _; omega
          · show (gAt gs k).2 = _; omega
        · have h1 := hv.1; have h2 := hv.2.2.1
          rw [show (((gAt gs k).1.toNat : Nat) : Int) = (gAt gs k).1 by omega, show (((gAt gs k).2.toNat : Nat) : Int) = (gAt gs k).2 by omega]
          exact hv
      obtain ⟨x, y, hxy, hvg, hp⟩ := hh
      have s0 : wr.cell? ⟨b, off + k * 2, none⟩ = some (.int .i64 x) := by rw [hB.cell (p := ⟨b, _, none⟩) hb, hg.1, hxy]
      have s1 : wr.cell? ⟨b, off + k * 2 + 1, none⟩ = some (.int .u32 y) := by rw [hB.cell (p := ⟨b, _, none⟩) hb, hg.2, hxy]
      have hC := Lib.hid (fun W => spart_any W n e x y h hvg)
      have hkn : (k : Int) < (l : Int) := by omega
      obtain ⟨bb, hbb⟩ : ∃ bb, partB n e x y = bb := ⟨_, rfl⟩
      rw [hbb] at hC hp
      clear hg hxy hv hbb
      cases bb
      · have hno2 : Hid (NoneTo n e gs (k + 1)) := fun i hi => by
          by_cases c : i = k
          · subst c; exact hp
          · exact hno.out i (by omega)
        clear hno hp
        go_wp2
        go_still_tail 5, (by kernel_rfl)
        change wpList _ _ _ _ _ wr.drew
        go_wp2_with fail
        refine (hC.out _).mono ?_
        rintro r3 w3 ⟨rfl, hb3⟩
        obtain ⟨hc3, hz3⟩ := bkeep hb3 w.heap.size (by (try simp) <;> omega)
        have e0 : w3.cell? ⟨w.heap.size, 0, none⟩ = some (.int .i64 n) := by rw [hc3]; exact c0
        have e1 : w3.cell? ⟨w.heap.size, 1, none⟩ = some (.int .u32 e) := by rw [hc3]; exact c1
        go_wp2
        go_roundw
        case rel => exact ⟨k + 1, by omega, by go_num, hno2, e0, e1, hz3, by (repeat (first | exact Below.refl _ _ | assumption | refine bchain (by assumption) ?_ | refine balloc ?_ _ | apply Below.drew | apply below_drewN | (refine Below.alloc ?_ (by (try simp) <;> omega) _) | (refine Below.setCell ?_ (by (try simp) <;> omega) _)))⟩
        case measure => simp [intOf]; omega
      · have hff := Lib.hid (freeB_f (i := k) (by have := hl.out; omega) hp)
        clear hno hp
        go_wp2
        go_still_tail 5, (by kernel_rfl)
        change wpList _ _ _ _ _ wr.drew
        go_wp2_with fail
        refine (hC.out _).mono ?_
        rintro r3 w3 ⟨rfl, hb3⟩
        go_wp2
        go_ret
        exact ⟨by rw [hff.out]; rfl, by (repeat (first | exact Below.refl _ _ | assumption | refine bchain (by assumption) ?_ | refine balloc ?_ _ | apply Below.drew | apply below_drewN | (refine Below.alloc ?_ (by (try simp) <;> omega) _) | (refine Below.setCell ?_ (by (try simp) <;> omega) _)))⟩
    · have hd := decide_eq_false (show ¬ ((k : Int) < (l : Int)) by omega)
      obtain rfl : k = l := by omega
      have hff := Lib.hid (freeB_t (n := n) (e := e) (gs := gs) (by rw [← hl.out]; exact hno.out))
      clear hno
      go_wp2
      go_ret
      exact ⟨by rw [hff.out]; rfl, hB⟩
end
end Go.Proofs.YtncbimbbkealmaaDoor
/-
  LISTS OF STRUCTS THAT LIE IN A BLOCK OF THEIR OWN: 'OwnV w0 w v l s f': in the world w the value v is a list of l structs of s cells each, in a block that the world w0 did not have; its cells are those of f, and may be written.
-/
namespace Go.Proofs.YtncbimbbkealmaaDoor
open Go.RowKit

/-- N cells of a block, by a function -/
def CV (w : World) (B N : Nat) (f : Nat → Value) : Prop := ∀ i, i < N → w.cell? ⟨B, i, none⟩ = some (f i)
theorem CV.set {w : World} {B l : Nat} {f g : Nat → Value} {k : Nat} {x : Value} (h : CV w B l f) (hk : k < l) (hx : g k = x) (ho : ∀ i, i ≠ k → g i = f i) : CV (w.setCell ⟨B, k, none⟩ x) B l g := by
  intro i hi
  by_cases e : i = k
  · subst e
    rw [World.cell?_setCell_same _ _ _ (h i hi), hx]
  · rw [World.cell?_setCell_other _ _ _ _ (by simp), h i hi, ho i e]
theorem CV.below {w w' : World} {B l : Nat} {f : Nat → Value} (h : CV w B l f) (hb : Below w.heap.size w w') (hB : B < w.heap.size) : CV w' B l f := fun i hi => (hb.cell (p := ⟨B, i, none⟩) hB).trans (h i hi)
theorem CV.congr {w : World} {B l : Nat} {f g : Nat → Value} (h : CV w B l f) (hg : ∀ i, i < l → g i = f i) : CV w B l g := fun i hi => by rw [h i hi, hg i hi]
/-- the first t cells hold the numbers from k on -/
def mkV (s k t : Nat) (f : Nat → Value) (c : Nat) : Value := if c < t then (if c % s = s - 1 then .int .u32 ((k : Int) + (c : Nat)) else .int .i64 ((k : Int) + (c : Nat))) else f c
theorem mkV_zero (s k : Nat) (f : Nat → Value) (c : Nat) : mkV s k 0 f c = f c := by unfold mkV; rw [if_neg (by omega)]
theorem mkV_out {s k t : Nat} {f : Nat → Value} {c : Nat} (h : t ≤ c) : mkV s k t f c = f c := by unfold mkV; rw [if_neg (by omega)]
theorem mkV_old (s k t : Nat) (f : Nat → Value) (c : Nat) (h : c ≠ t) : mkV s k (t + 1) f c = mkV s k t f c := by
  unfold mkV
  by_cases h1 : c < t
  · rw [if_pos h1, if_pos (by omega)]
  · rw [if_neg h1, if_neg (by omega)]
theorem mkV_lo {s k t : Nat} {f : Nat → Value} (h : t % s ≠ s - 1) : mkV s k (t + 1) f t = .int .i64 ((k : Int) + (t : Nat)) := by unfold mkV; rw [if_pos (by omega), if_neg h]
theorem mkV_hi {s k t : Nat} {f : Nat → Value} (h : t % s = s - 1) : mkV s k (t + 1) f t = .int .u32 ((k : Int) + (t : Nat)) := by unfold mkV; rw [if_pos (by omega), if_pos h]
theorem mkV_lo' {s k t N : Nat} {f : Nat → Value} (hN : t < N) (h : t % s ≠ s - 1) : mkV s k N f t = .int .i64 ((k : Int) + (t : Nat)) := by unfold mkV; rw [if_pos hN, if_neg h]
theorem mkV_hi' {s k t N : Nat} {f : Nat → Value} (hN : t < N) (h : t % s = s - 1) : mkV s k N f t = .int .u32 ((k : Int) + (t : Nat)) := by unfold mkV; rw [if_pos hN, if_pos h]
theorem CV.lo {w : World} {B N s k t : Nat} {f : Nat → Value} (h : CV w B N (mkV s k t f)) (ht : t < N) (hs : t % s ≠ s - 1) {x : Int} (hx : x = (k : Int) + (t : Nat)) : CV (w.setCell ⟨B, t, none⟩ (.int .i64 x)) B N (mkV s k (t + 1) f) :=
  h.set ht (by rw [hx]; exact mkV_lo hs) (fun i hi => mkV_old s k t f i hi)
theorem CV.hi {w : World} {B N s k t : Nat} {f : Nat → Value} (h : CV w B N (mkV s k t f)) (ht : t < N) (hs : t % s = s - 1) {x : Int} (hx : x = (k : Int) + (t : Nat)) : CV (w.setCell ⟨B, t, none⟩ (.int .u32 x)) B N (mkV s k (t + 1) f) :=
  h.set ht (by rw [hx]; exact mkV_hi hs) (fun i hi => mkV_old s k t f i hi)
def OwnV (w0 w : World) (v : Value) (l s : Nat) (f : Nat → Value) : Prop :=
  ∃ a cap, v = .slice a l cap ∧ l ≤ cap ∧ cap ≤ 9223372036854775807 ∧ (0 < l → ∃ B, a = some ⟨B, 0, none⟩ ∧ w0.heap.size ≤ B ∧ B < w.heap.size ∧ CV w B (l * s) f ∧ ∀ c, w.frozen? ⟨B, c, none⟩ = false)
theorem OwnV.below {w0 w w' : World} {v : Value} {l s : Nat} {f : Nat → Value} (h : OwnV w0 w v l s f) (hb : Below w.heap.size w w') : OwnV w0 w' v l s f := by
  obtain ⟨a, cap, e, h1, h2, h3⟩ := h
  refine ⟨a, cap, e, h1, h2, fun hl => ?_⟩
  obtain ⟨B, e1, e2, e3, e4, e5⟩ := h3 hl
  exact ⟨B, e1, e2, Nat.lt_of_lt_of_le e3 hb.size, e4.below hb e3, fun c => (hb.frozen (p := ⟨B, c, none⟩) e3).trans (e5 c)⟩
theorem OwnV.mono {w0 w1 w : World} {v : Value} {l s : Nat} {f : Nat → Value} (h : OwnV w1 w v l s f) (hz : w0.heap.size ≤ w1.heap.size) : OwnV w0 w v l s f := by
  obtain ⟨a, cap, e, h1, h2, h3⟩ := h
  refine ⟨a, cap, e, h1, h2, fun hl => ?_⟩
  obtain ⟨B, e1, e2, e3⟩ := h3 hl
  exact ⟨B, e1, by omega, e3⟩
/-- a list that the call itself has built by append -/
theorem ownV_of_row {w0 w : World} {base : Nat} {e : TypeId} {v : Value} {n s : Nat} {xs : List Value} (h : w.ownsRow base e s v n xs) (hb : w0.heap.size ≤ base) : OwnV w0 w v n s (fun c => xs[c]?.getD undef) := by
  obtain ⟨hl, (⟨rfl, h0⟩ | ⟨g, cap, cur, rfl, hg, hh, hn, hc, hs, hx⟩)⟩ := h
  · exact ⟨none, 0, by rw [h0], by omega, by omega, fun c => absurd c (by omega)⟩
  · have hcell : ∀ i, w.cell? ⟨g, i, none⟩ = cur[i]? := fun i => by simp [World.cell?, hh]
    have hm : cap ≤ 9223372036854775807 := by unfold maxLen at hc; omega
    refine ⟨some ⟨g, 0, none⟩, cap, rfl, hn, hm, fun _ => ⟨g, rfl, Nat.le_trans hb hg, (Array.getElem?_eq_some_iff.1 hh).1, fun i hi => ?_, fun o => by simp [World.frozen?, hh]⟩⟩
    have h1 : (cur.toList.take (n * s))[i]? = xs[i]? := by rw [hx]
    rw [List.getElem?_take_of_lt hi] at h1
    rw [hcell]
    have h2 : i < xs.length := by omega
    show cur[i]? = some (xs[i]?.getD undef)
    rw [List.getElem?_eq_getElem h2] at h1 ⊢
    simpa using h1
theorem row_len {w : World} {base : Nat} {e : TypeId} {v : Value} {n s : Nat} {xs : List Value} (h : w.ownsRow base e s v n xs) : xs.length = n * s := h.1
theorem ownsRow_mono {w : World} {base b : Nat} {e : TypeId} {v : Value} {n s : Nat} {xs : List Value} (h : w.ownsRow b e s v n xs) (hb : base ≤ b) : w.ownsRow base e s v n xs := by
  obtain ⟨hl, h | ⟨g, cap, cur, e1, h1, h2⟩⟩ := h
  · exact ⟨hl, .inl h⟩
  · exact ⟨hl, .inr ⟨g, cap, cur, e1, Nat.le_trans hb h1, h2⟩⟩
/-- another list is written -/
theorem OwnV.chg {w0 w w' : World} {v : Value} {l s : Nat} {f : Nat → Value} {Own : Nat → Prop} (h : OwnV w0 w v l s f) (hc : Chg Own w w') (ho : ∀ b, Own b → b < w0.heap.size) : OwnV w0 w' v l s f := by
  obtain ⟨a, cap, e, h1, h2, h3⟩ := h
  refine ⟨a, cap, e, h1, h2, fun hl => ?_⟩
  obtain ⟨B, e1, e2, e3, e4, e5⟩ := h3 hl
  have hs := hc.same B e3 (fun c => by have := ho B c; omega)
  exact ⟨B, e1, e2, Nat.lt_of_lt_of_le e3 hc.size, fun i hi => (World.cell?_of_block (a := ⟨B, i, none⟩) hs).trans (e4 i hi), fun c => (World.frozen?_of_block (a := ⟨B, c, none⟩) hs).trans (e5 c)⟩
theorem Chg.below {w0 w w' : World} {Own : Nat → Prop} (hc : Chg Own w w') (hz : w0.heap.size ≤ w.heap.size) (ho : ∀ b, Own b → w0.heap.size ≤ b) : Below w0.heap.size w w' :=
  ⟨hc.os, hc.tape, hc.output, hc.size, fun k hk => hc.same k (by omega) (fun c => by have := ho k c; omega)⟩
/-- where the list lies -/
theorem OwnV.block {w0 w : World} {v : Value} {l s : Nat} {f : Nat → Value} (h : OwnV w0 w v l s f) (hl : 0 < l) {b : Nat} (hb : Value.ownBlock v = some b) : w0.heap.size ≤ b ∧ b < w.heap.size := by
  obtain ⟨a, cap, rfl, h1, h2, h3⟩ := h
  obtain ⟨B, rfl, e2, e3, _⟩ := h3 hl
  injection hb with hb
  subst hb
  exact ⟨e2, e3⟩
/-- no list -/
theorem ownV_nil {w0 w : World} {s : Nat} {f : Nat → Value} : OwnV w0 w (.slice none 0 0) 0 s f := ⟨none, 0, rfl, by omega, by omega, fun c => absurd c (by omega)⟩
end Go.Proofs.YtncbimbbkealmaaDoor
/-
  LISTS OF GRAPHS IN A BLOCK OF THEIR OWN: what writes marks into such a list, and what asks for them.
-/
namespace Go.Proofs.YtncbimbbkealmaaDoor
open Go.RowKit
set_option maxRecDepth 100000
section
variable (w : World)
end
end Go.Proofs.YtncbimbbkealmaaDoor
namespace Go.Proofs.YtncbimbbkealmaaDoor
open Go.RowKit
set_option maxRecDepth 100000
/-- graphs as cells -/
def gsC (gs : List (Int × Int)) : List Value := gs.flatMap fun g => [.int .i64 g.1, .int .u32 g.2]
theorem gsC_snoc (gs : List (Int × Int)) (g : Int × Int) : gsC (gs ++ [g]) = gsC gs ++ [.int .i64 g.1, .int .u32 g.2] := by simp [gsC]
theorem gsC_length (gs : List (Int × Int)) : (gsC gs).length = gs.length * 2 := by
  induction gs with
  | nil => rfl
  | cons g gs ih => simp only [gsC, List.flatMap_cons, List.length_append, List.length_cons, List.length_nil] at ih ⊢; omega
theorem gsC_get : ∀ (gs : List (Int × Int)) (i : Nat), i < gs.length → (gsC gs)[i * 2]? = some (.int .i64 (gAt gs i).1) ∧ (gsC gs)[i * 2 + 1]? = some (.int .u32 (gAt gs i).2) := by
  intro gs
  induction gs with
  | nil => intro i hi; simp at hi
  | cons g gs ih =>
    intro i hi
    have e : gsC (g :: gs) = .int .i64 g.1 :: .int .u32 g.2 :: gsC gs := rfl
    rw [e]
    cases i with
    | zero => exact ⟨rfl, rfl⟩
    | succ i =>
      have := ih i (by simpa using hi)
      rw [show (i + 1) * 2 = i * 2 + 1 + 1 by omega, List.getElem?_cons_succ, List.getElem?_cons_succ, show i * 2 + 1 + 1 + 1 = (i * 2 + 1) + 1 + 1 by omega, List.getElem?_cons_succ, List.getElem?_cons_succ]
      exact this
/-- in the world w the value v is a list of the graphs gs, in memory that w0 did not have -/
def OwnG (w0 w : World) (v : Value) (gs : List (Int × Int)) : Prop := OwnV w0 w v gs.length 2 (fun c => (gsC gs)[c]?.getD undef)
theorem OwnG.below {w0 w w' : World} {v : Value} {gs : List (Int × Int)} (h : OwnG w0 w v gs) (hb : Below w.heap.size w w') : OwnG w0 w' v gs := OwnV.below h hb
theorem OwnG.mono {w0 w1 w : World} {v : Value} {gs : List (Int × Int)} (h : OwnG w1 w v gs) (hz : w0.heap.size ≤ w1.heap.size) : OwnG w0 w v gs := OwnV.mono h hz
theorem OwnG.sl {w0 w : World} {v : Value} {gs : List (Int × Int)} (h : OwnG w0 w v gs) : SlG w v gs := by
  obtain ⟨a, cap, rfl, h1, h2, h3⟩ := h
  refine ⟨a, cap, rfl, h1, h2, fun hne => ?_⟩
  obtain ⟨B, rfl, _, hB, hc, _⟩ := h3 (List.length_pos_iff.2 hne)
  refine ⟨B, 0, rfl, hB, fun i hi => ?_⟩
  obtain ⟨g0, g1⟩ := gsC_get gs i hi
  have c0 : w.cell? ⟨B, i * 2, none⟩ = some ((gsC gs)[i * 2]?.getD undef) := hc (i * 2) (by omega)
  have c1 : w.cell? ⟨B, i * 2 + 1, none⟩ = some ((gsC gs)[i * 2 + 1]?.getD undef) := hc (i * 2 + 1) (by omega)
  rw [g0] at c0
  rw [g1] at c1
  unfold GCell
  rw [Nat.zero_add]
  exact ⟨c0, c1⟩
theorem ownG_of_row {w0 w : World} {base : Nat} {e : TypeId} {v : Value} {gs : List (Int × Int)} (h : w.ownsRow base e 2 v gs.length (gsC gs)) (hb : w0.heap.size ≤ base) : OwnG w0 w v gs := ownV_of_row h hb
theorem ownG_nil {w0 w : World} : OwnG w0 w (.slice none 0 0) [] := ownV_nil
/-- a copy of the laws' own may be marked -/
theorem info_graphG : True := trivial
end Go.Proofs.YtncbimbbkealmaaDoor
/-
  LISTS OF FORBIDDEN PARTS: the code that the program and the model tell.
-/
namespace Go.Proofs.YtncbimbbkealmaaDoor
open Go.RowKit
set_option maxRecDepth 100000

/-- a list of graphs that a call returns with a code -/
def RetG (W : World) (L : List (Int × Int)) (c : Int) (r : Ending) (w' : World) : Prop := (∃ u, r = .returned (.tuple #[u, .int .i64 c]) ∧ OwnG W w' u L) ∧ Below W.heap.size W w'
theorem ownG_made {w0 w : World} {B cap : Nat} : OwnG w0 w (.slice (some ⟨B, 0, none⟩) 0 cap) [] → True := fun _ => trivial
theorem ownG_zero (w0 w : World) (a : Option Addr) : OwnG w0 w (.slice a 0 0) [] := ⟨a, 0, rfl, by simp, by simp, fun c => absurd c (by simp)⟩
end Go.Proofs.YtncbimbbkealmaaDoor
