/-
  A SET OF FLAGS, AS A MAP FROM FLAGS TO BOOLS: what the block holds; a flag is looked up; a flag is put in.
-/
import Derived.Test.YtfnjgdocmfmfgabKVal
import Derived.Maps.OwnIn
import Derived.DeepKeys4
namespace Go.Proofs.Ytfnjgdocmfmfgab
open Go.RowKit
open Go.Maps (Keyed)
open Go.ChangeMaps (setBlock heap_setBlock_same heap_setBlock_other)
set_option maxRecDepth 100000

theorem set_laid : laidOutB Try.prog = true := by kernel_rfl
theorem flag_keyed : Keyed Try.prog 35 := Keyed.of_law (deep_law_laid set_laid (m := 3) (by omega) (of_decide_eq_true (by kernel_rfl)) (by kernel_rfl) (by kernel_rfl))
def flagV (k n e : Nat) : Value := .agg #[.int .i64 k, .int .i64 n, .int .u32 e]
theorem flagV_inj {k n e k' n' e' : Nat} : flagV k n e = flagV k' n' e' ↔ k = k' ∧ n = n' ∧ e = e' := by
  unfold flagV
  simp
  omega
theorem i64_wf (k : Nat) (h : k ≤ 5) : (Lit.int .i64 k).wf = true := by
  simp [Lit.wf, IntKind.min, IntKind.max, IntKind.signed, IntKind.bits]
  omega
theorem u32_wf (k : Nat) (h : k < 4294967296) : (Lit.int .u32 k).wf = true := by
  simp [Lit.wf, IntKind.min, IntKind.max, IntKind.signed, IntKind.bits]
  omega
theorem flag_deep : ∃ d, Try.prog.types.size + 1 = d + 3 := ⟨Try.prog.types.size - 2, by kernel_rfl⟩
theorem flag_keyType : Try.prog.keyType 35 = true := by kernel_rfl
theorem flag_cells : Try.prog.cellsOf 35 = 3 := by kernel_rfl
theorem graph_cells : Try.prog.cellsOf 33 = 2 := by kernel_rfl
theorem i64_cells : Try.prog.cellsOf 2 = 1 := by kernel_rfl
theorem u32_cells : Try.prog.cellsOf 22 = 1 := by kernel_rfl
theorem flag_key (k n e : Nat) (hk : k ≤ 5) (hn : n ≤ 5) (he : e < 4294967296) : ∃ l, keyOf Try.prog 35 (flagV k n e) = some l := by
  obtain ⟨d, hd⟩ := flag_deep
  have w0 := i64_wf k hk
  have w1 := i64_wf n hn
  have w2 := u32_wf e he
  have hf : (flagV k n e).formed Try.prog 35 = true := by simp [Value.formed, flagV, Try.underlying35, flag_cells]
  unfold keyOf
  rw [Try.underlying35]
  simp only [flag_keyType, hf, Bool.and_self, if_true]
  rw [hd]
  simp [flagV, Value.cells, Program.keyLits, Try.underlying35, Try.underlying33, Try.underlying2, Try.underlying22, flag_cells, graph_cells, i64_cells, u32_cells, w0, w1, w2]
  rw [if_pos (by decide)]
  exact ⟨_, rfl⟩

/-- the block B holds the flags with k labels, n vertices and edges in S -/
def FSet (W : World) (B k n : Nat) (S : List Nat) : Prop :=
  k ≤ 5 ∧ n ≤ 5 ∧ (∀ y ∈ S, y < 4294967296) ∧ ∃ es clock, W.heap[B]? = some (.map es clock) ∧ (∀ x ∈ es.toList, x.val = .bool true ∧ ∃ y ∈ S, x.key = flagV k n y) ∧ ∀ y ∈ S, ∃ x ∈ es.toList, x.key = flagV k n y
theorem FSet.of_block {W W' : World} {B k n : Nat} {S : List Nat} (h : FSet W B k n S) (hs : W'.heap[B]? = W.heap[B]?) : FSet W' B k n S := by
  obtain ⟨h1, h2, h3, es, c, h4, h5⟩ := h
  exact ⟨h1, h2, h3, es, c, hs.trans h4, h5⟩
theorem FSet.lt {W : World} {B k n : Nat} {S : List Nat} (h : FSet W B k n S) : B < W.heap.size := by
  obtain ⟨_, _, _, es, c, h4, _⟩ := h
  exact (Array.getElem?_eq_some_iff.1 h4).1
theorem FSet.below {W W' : World} {B k n : Nat} {S : List Nat} (h : FSet W B k n S) (hb : Below W.heap.size W W') : FSet W' B k n S := h.of_block (hb.block _ h.lt)
theorem FSet.under {W W' : World} {B C k n : Nat} {S : List Nat} (h : FSet W B k n S) (hb : Below C W W') (hB : B < C) : FSet W' B k n S := h.of_block (hb.block _ hB)
theorem FSet.made (W : World) (k n : Nat) (hk : k ≤ 5) (hn : n ≤ 5) : FSet (W.alloc (.map #[] 0)) W.heap.size k n [] :=
  ⟨hk, hn, fun y hy => (by cases hy), #[], 0, (MapKept.heap_alloc W _).1, by simp, by simp⟩
/-- is a flag in the set -/
def inS (k n : Nat) (S : List Nat) (k' n' y : Nat) : Bool := decide (k' = k) && decide (n' = n) && decide (y ∈ S)
theorem FSet.keys {es : Array MapEntry} {k n : Nat} {S : List Nat} (hk : k ≤ 5) (hn : n ≤ 5) (hS : ∀ y ∈ S, y < 4294967296) (h : ∀ x ∈ es.toList, x.val = .bool true ∧ ∃ y ∈ S, x.key = flagV k n y) :
    ∀ x ∈ es.toList, ∃ l, keyOf Try.prog 35 x.key = some l := fun x hx => by
  obtain ⟨_, y, hy, e⟩ := h x hx
  rw [e]
  exact flag_key k n y hk hn (hS y hy)
theorem zero_bool (w : World) : (zeroValue 4).run Try.prog w = .ok (.bool false) w := by kernel_rfl
theorem FSet.look {W : World} {B k n : Nat} {S : List Nat} (h : FSet W B k n S) (k' n' y : Nat) (hk : k' ≤ 5) (hn : n' ≤ 5) (hy : y < 4294967296) :
    (Instr.lookup 109 (.map (some B)) (flagV k' n' y) false).run Try.prog W = .ok (.bool (inS k n S k' n' y)) W := by
  obtain ⟨a1, a2, a3, es, c, hb, h5, h6⟩ := h
  obtain ⟨l, hl⟩ := flag_key k' n' y hk hn hy
  rcases flag_keyed.find W hl es.toList (FSet.keys a1 a2 a3 h5) with ⟨h1, h2⟩ | ⟨j, e0, h1, h2, h3⟩
  · have hf : inS k n S k' n' y = false := by
      unfold inS
      rw [Bool.eq_false_iff]
      intro c
      simp only [Bool.and_eq_true, decide_eq_true_eq] at c
      obtain ⟨⟨rfl, rfl⟩, c3⟩ := c
      obtain ⟨x, hx, he⟩ := h6 y c3
      exact h2 x hx he
    rw [hf]
    simp [Instr.lookup, run_underlying Try.underlying109, MapKept.run_getObj_map hb, flag_keyed.check W _ hl, h1, Result.andThen]
  · obtain ⟨h7, y', hy', he⟩ := h5 e0 (List.mem_of_getElem? h2)
    rw [h3, flagV_inj] at he
    obtain ⟨rfl, rfl, rfl⟩ := he
    have ht : inS k' n' S k' n' y = true := by simp [inS, hy']
    rw [ht]
    simp [Instr.lookup, run_underlying Try.underlying109, MapKept.run_getObj_map hb, flag_keyed.check W _ hl, h1, h7, Result.andThen]
theorem FSet.store {W : World} {B k n : Nat} {S : List Nat} (h : FSet W B k n S) (y : Nat) (hy : y < 4294967296) :
    ∃ w', (Instr.mapUpdate 109 (.map (some B)) (flagV k n y) (.bool true)).run Try.prog W = .ok () w' ∧ FSet w' B k n (S ++ [y]) ∧ W.grownBy w' (some B) := by
  obtain ⟨a1, a2, a3, es, c, hb, h5, h6⟩ := h
  obtain ⟨l, hl⟩ := flag_key k n y a1 a2 hy
  have hS' : ∀ z ∈ S ++ [y], z < 4294967296 := fun z hz => by
    rcases List.mem_append.1 hz with h | h
    · exact a3 z h
    · simp at h; omega
  have hg : ∀ o, W.grownBy (setBlock W B o) (some B) := fun o => ⟨rfl, rfl, rfl, by simp [setBlock], fun i _ hi => heap_setBlock_other hb _ (fun e => hi (by rw [e]))⟩
  rcases flag_keyed.find W hl es.toList (FSet.keys a1 a2 a3 h5) with ⟨h1, h2⟩ | ⟨j, e0, h1, h2, h3⟩
  · refine ⟨setBlock W B (.map (es.push ⟨flagV k n y, .bool true, c⟩) (c + 1)), ?_, ⟨a1, a2, hS', _, _, heap_setBlock_same hb _, ?_, ?_⟩, hg _⟩
    · simp [Instr.mapUpdate, run_underlying Try.underlying109, MapKept.run_getObj_map hb, flag_keyed.check W _ hl, h1, MapKept.run_setObj_map _ hb, Result.andThen, setBlock]
    · intro x hx
      simp only [Array.toList_push, List.mem_append, List.mem_singleton] at hx
      rcases hx with hx | rfl
      · obtain ⟨b1, z, b2, b3⟩ := h5 x hx
        exact ⟨b1, z, by simp [b2], b3⟩
      · exact ⟨rfl, y, by simp, rfl⟩
    · intro z hz
      rcases List.mem_append.1 hz with hz | hz
      · obtain ⟨x, b1, b2⟩ := h6 z hz
        exact ⟨x, by simp [b1], b2⟩
      · simp at hz
        subst hz
        exact ⟨⟨flagV k n z, .bool true, c⟩, by simp, rfl⟩
  · have hj : es[j]? = some e0 := by simpa using h2
    have hlist : (es.modify j (fun e' => { e' with key := flagV k n y, val := .bool true })).toList = es.toList.set j { e0 with key := flagV k n y, val := .bool true } := by rw [Array.toList_modify, ChangeMaps.modify_eq_set _ _ _ _ h2]
    have hjl : j < es.toList.length := (List.getElem?_eq_some_iff.1 h2).1
    refine ⟨setBlock W B (.map (es.modify j (fun e' => { e' with key := flagV k n y, val := .bool true })) c), ?_, ⟨a1, a2, hS', _, _, heap_setBlock_same hb _, ?_, ?_⟩, hg _⟩
    · simp [Instr.mapUpdate, run_underlying Try.underlying109, MapKept.run_getObj_map hb, flag_keyed.check W _ hl, h1, hj, h3, flag_keyed.stays W hl, MapKept.run_setObj_map _ hb, Result.andThen, setBlock]
    · intro x hx
      rw [hlist] at hx
      rcases List.mem_or_eq_of_mem_set hx with hx | rfl
      · obtain ⟨b1, z, b2, b3⟩ := h5 x hx
        exact ⟨b1, z, by simp [b2], b3⟩
      · exact ⟨rfl, y, by simp, rfl⟩
    · intro z hz
      rw [hlist]
      by_cases hzy : z = y
      · subst hzy
        exact ⟨_, List.mem_set hjl _, rfl⟩
      · have hz' : z ∈ S := by
          rcases List.mem_append.1 hz with h | h
          · exact h
          · simp at h; exact absurd h hzy
        obtain ⟨x, b1, b2⟩ := h6 z hz'
        refine ⟨x, ?_, b2⟩
        obtain ⟨i, hi, he⟩ := List.getElem_of_mem b1
        have hne : j ≠ i := by
          rintro rfl
          have : e0 = x := by
            rw [List.getElem?_eq_getElem hi] at h2
            rw [← he]
            exact (Option.some.inj h2).symm
          rw [← this, h3, flagV_inj] at b2
          exact hzy b2.2.2.symm
        refine List.mem_iff_getElem.2 ⟨i, by simpa using hi, ?_⟩
        rw [List.getElem_set_ne hne, he]

/-! ### at the operations -/
section
variable {F : Fence} {nF : Nat} {w : World} {ops : Array Oper} {rest : List Oper} {o : Oper} {a : Act} {Q : Exit → Act → World → Prop}
theorem wpList_flagLook (hg : o.guard = none) (m x : Operand) (hop : o.op = Op.lookup 109 m x false) (B k n : Nat) (S : List Nat) (hm : a.eval m = .map (some B)) (hS : FSet w B k n S)
    (k' n' y : Nat) (hx : a.eval x = .agg #[.int .i64 k', .int .i64 n', .int .u32 y]) (hk : k' ≤ 5) (hn : n' ≤ 5) (hy : y < 4294967296) (b : Bool) (hb : inS k n S k' n' y = b)
    (hK : wpList Try.prog ops Q rest (a.put o.dst (.bool b)) w) : wpList Try.prog ops Q (o :: rest) a w := by
  subst hb
  refine wpList_plain hg fun K' hK' => ?_
  have hrun := hS.look k' n' y hk hn hy
  unfold flagV at hrun
  unfold Oper.wp
  simp [execOp, hop, hm, hx, hrun, Result.andThen]
  exact hK' _ _ hK
theorem wpListIn_flagLook (hg : o.guard = none) (m x : Operand) (hop : o.op = Op.lookup 109 m x false) (B k n : Nat) (S : List Nat) (hm : a.eval m = .map (some B)) (hS : FSet w B k n S)
    (k' n' y : Nat) (hx : a.eval x = .agg #[.int .i64 k', .int .i64 n', .int .u32 y]) (hk : k' ≤ 5) (hn : n' ≤ 5) (hy : y < 4294967296) (b : Bool) (hb : inS k n S k' n' y = b)
    (hK : wpListIn F nF Try.prog ops Q rest (a.put o.dst (.bool b)) w) : wpListIn F nF Try.prog ops Q (o :: rest) a w := by
  subst hb
  refine wpListIn_plain hg fun K' hK' => ?_
  have hrun := hS.look k' n' y hk hn hy
  unfold flagV at hrun
  unfold Oper.wpIn
  refine ⟨by simp [Oper.about, hop], ?_⟩
  rw [Oper.semAt_plain F _ _ (by rw [hop]; intro c hc'; cases hc')]
  simp [execOp, hop, hm, hx, hrun, Result.andThen]
  exact hK' _ _ hK
theorem wpListIn_flagStore (hg : o.guard = none) (m x v : Operand) (hop : o.op = Op.mapUpdate 109 m x v) (B k n : Nat) (S : List Nat) (hm : a.eval m = .map (some B)) (hS : FSet w B k n S)
    (y : Nat) (hx : a.eval x = .agg #[.int .i64 k, .int .i64 n, .int .u32 y]) (hv : a.eval v = .bool true) (hy : y < 4294967296)
    (hK : ∀ w', FSet w' B k n (S ++ [y]) → w.grownBy w' (some B) → wpListIn F nF Try.prog ops Q rest (a.put o.dst undef) w') : wpListIn F nF Try.prog ops Q (o :: rest) a w := by
  refine wpListIn_plain hg fun K' hK' => ?_
  obtain ⟨w', hrun, r1, r2⟩ := hS.store y hy
  unfold flagV at hrun
  unfold Oper.wpIn
  refine ⟨by simp [Oper.about, hop], ?_⟩
  rw [Oper.semAt_plain F _ _ (by rw [hop]; intro c hc'; cases hc')]
  simp [execOp, hop, hm, hx, hv, hrun, Result.andThen]
  exact hK' _ _ (hK w' r1 r2)
/-- a look-up as one step of a region that draws -/
theorem step_flagLook {K : Act → World → Prop} {E : Prop} (hg : o.guard = none) (m x : Operand) (hop : o.op = Op.lookup 109 m x false) (B k n : Nat) (S : List Nat) (hm : a.eval m = .map (some B)) (hS : FSet w B k n S)
    (k' n' y : Nat) (hx : a.eval x = .agg #[.int .i64 k', .int .i64 n', .int .u32 y]) (hk : k' ≤ 5) (hn : n' ≤ 5) (hy : y < 4294967296) (b : Bool) (hb : inS k n S k' n' y = b)
    (hK : K (a.put o.dst (.bool b)) w) : if Region.wanted o (yielded ops a.tmps) = true then Oper.wp Try.prog o a w K Q else E := by
  subst hb
  have hw : Region.wanted o (yielded ops a.tmps) = true := by simp [Region.wanted, hg]
  rw [if_pos hw]
  have hrun := hS.look k' n' y hk hn hy
  unfold flagV at hrun
  unfold Oper.wp
  simp [execOp, hop, hm, hx, hrun, Result.andThen]
  exact hK
end
end Go.Proofs.Ytfnjgdocmfmfgab
