/-
  A MAP FROM GRAPHS TO GRAPHS, OF WHICH ONLY THE KEYS COUNT: what the block holds; a graph is looked up; a graph is put in.
-/
import Derived.Test.YtmbjhncgdmbpaaaKVal
import Derived.Maps.OwnIn
import Derived.DeepKeys4
namespace Go.Proofs.Ytmbjhncgdmbpaaa
open Go.RowKit
open Go.Maps (Keyed)
open Go.ChangeMaps (setBlock heap_setBlock_same heap_setBlock_other)
set_option maxRecDepth 100000

theorem gm_laid : laidOutB Try.prog = true := by kernel_rfl
theorem graph_keyed : Keyed Try.prog 36 := Keyed.of_law (deep_law_laid gm_laid (m := 2) (by omega) (of_decide_eq_true (by kernel_rfl)) (by kernel_rfl) (by kernel_rfl))
def graphV (n e : Nat) : Value := .agg #[.int .i64 n, .int .u32 e]
theorem graphV_inj {n e n' e' : Nat} : graphV n e = graphV n' e' ↔ n = n' ∧ e = e' := by
  unfold graphV
  simp
  omega
theorem i64_wf (k : Nat) (h : k ≤ 5) : (Lit.int .i64 k).wf = true := by
  simp [Lit.wf, IntKind.min, IntKind.max, IntKind.signed, IntKind.bits]
  omega
theorem u32_wf (k : Nat) (h : k < 4294967296) : (Lit.int .u32 k).wf = true := by
  simp [Lit.wf, IntKind.min, IntKind.max, IntKind.signed, IntKind.bits]
  omega
theorem graph_deep : ∃ d, Try.prog.types.size + 1 = d + 3 := ⟨Try.prog.types.size - 2, by kernel_rfl⟩
theorem graph_keyType : Try.prog.keyType 36 = true := by kernel_rfl
theorem graph_cells : Try.prog.cellsOf 36 = 2 := by kernel_rfl
theorem i64_cells : Try.prog.cellsOf 2 = 1 := by kernel_rfl
theorem u32_cells : Try.prog.cellsOf 31 = 1 := by kernel_rfl
theorem graph_key (n e : Nat) (hn : n ≤ 5) (he : e < 4294967296) : ∃ l, keyOf Try.prog 36 (graphV n e) = some l := by
  obtain ⟨d, hd⟩ := graph_deep
  have w1 := i64_wf n hn
  have w2 := u32_wf e he
  have hf : (graphV n e).formed Try.prog 36 = true := by simp [Value.formed, graphV, Try.underlying36, graph_cells]
  unfold keyOf
  rw [Try.underlying36]
  simp only [graph_keyType, hf, Bool.and_self, if_true]
  rw [hd]
  simp [graphV, Value.cells, Program.keyLits, Try.underlying36, Try.underlying2, Try.underlying31, graph_cells, i64_cells, u32_cells, w1, w2]

/-- the block B holds the graphs with n vertices and edges in S as keys -/
def GSet (W : World) (B n : Nat) (S : List Nat) : Prop :=
  n ≤ 5 ∧ (∀ y ∈ S, y < 4294967296) ∧ ∃ es clock, W.heap[B]? = some (.map es clock) ∧ (∀ x ∈ es.toList, (∃ a b : Int, x.val = .agg #[.int .i64 a, .int .u32 b]) ∧ ∃ y ∈ S, x.key = graphV n y) ∧ ∀ y ∈ S, ∃ x ∈ es.toList, x.key = graphV n y
theorem GSet.of_block {W W' : World} {B n : Nat} {S : List Nat} (h : GSet W B n S) (hs : W'.heap[B]? = W.heap[B]?) : GSet W' B n S := by
  obtain ⟨h2, h3, es, c, h4, h5⟩ := h
  exact ⟨h2, h3, es, c, hs.trans h4, h5⟩
theorem GSet.lt {W : World} {B n : Nat} {S : List Nat} (h : GSet W B n S) : B < W.heap.size := by
  obtain ⟨_, _, es, c, h4, _⟩ := h
  exact (Array.getElem?_eq_some_iff.1 h4).1
theorem GSet.below {W W' : World} {B n : Nat} {S : List Nat} (h : GSet W B n S) (hb : Below W.heap.size W W') : GSet W' B n S := h.of_block (hb.block _ h.lt)
theorem GSet.made (W : World) (n : Nat) (hn : n ≤ 5) : GSet (W.alloc (.map #[] 0)) W.heap.size n [] :=
  ⟨hn, fun y hy => (by cases hy), #[], 0, (MapKept.heap_alloc W _).1, by simp, by simp⟩
/-- is a graph among them -/
def inG (S : List Nat) (y : Nat) : Bool := decide (y ∈ S)
theorem GSet.keys {es : Array MapEntry} {n : Nat} {S : List Nat} (hn : n ≤ 5) (hS : ∀ y ∈ S, y < 4294967296) (h : ∀ x ∈ es.toList, (∃ a b : Int, x.val = .agg #[.int .i64 a, .int .u32 b]) ∧ ∃ y ∈ S, x.key = graphV n y) :
    ∀ x ∈ es.toList, ∃ l, keyOf Try.prog 36 x.key = some l := fun x hx => by
  obtain ⟨_, y, hy, e⟩ := h x hx
  rw [e]
  exact graph_key n y hn (hS y hy)
theorem GSet.look {W : World} {B n : Nat} {S : List Nat} (h : GSet W B n S) (y : Nat) (hy : y < 4294967296) :
    ∃ a b : Int, (Instr.lookup 63 (.map (some B)) (graphV n y) true).run Try.prog W = .ok (.tuple #[.agg #[.int .i64 a, .int .u32 b], .bool (inG S y)]) W := by
  obtain ⟨a2, a3, es, c, hb, h5, h6⟩ := h
  obtain ⟨l, hl⟩ := graph_key n y a2 hy
  rcases graph_keyed.find W hl es.toList (GSet.keys a2 a3 h5) with ⟨h1, h2⟩ | ⟨j, e0, h1, h2, h3⟩
  · have hf : inG S y = false := by
      unfold inG
      rw [Bool.eq_false_iff]
      intro c
      simp only [decide_eq_true_eq] at c
      obtain ⟨x, hx, he⟩ := h6 y c
      exact h2 x hx he
    rw [hf]
    exact ⟨0, 0, by simp [Instr.lookup, run_underlying Try.underlying63, MapKept.run_getObj_map hb, graph_keyed.check W _ hl, h1, Result.andThen]⟩
  · obtain ⟨⟨a, b, hab⟩, y', hy', he⟩ := h5 e0 (List.mem_of_getElem? h2)
    rw [h3, graphV_inj] at he
    obtain ⟨_, rfl⟩ := he
    have ht : inG S y = true := by simp [inG, hy']
    rw [ht]
    exact ⟨a, b, by simp [Instr.lookup, run_underlying Try.underlying63, MapKept.run_getObj_map hb, graph_keyed.check W _ hl, h1, hab, Result.andThen]⟩
theorem GSet.store {W : World} {B n : Nat} {S : List Nat} (h : GSet W B n S) (y : Nat) (hy : y < 4294967296) (a b : Int) :
    ∃ w', (Instr.mapUpdate 63 (.map (some B)) (graphV n y) (.agg #[.int .i64 a, .int .u32 b])).run Try.prog W = .ok () w' ∧ GSet w' B n (S ++ [y]) ∧ W.grownBy w' (some B) := by
  obtain ⟨a2, a3, es, c, hb, h5, h6⟩ := h
  obtain ⟨l, hl⟩ := graph_key n y a2 hy
  have hS' : ∀ z ∈ S ++ [y], z < 4294967296 := fun z hz => by
    rcases List.mem_append.1 hz with h | h
    · exact a3 z h
    · simp at h; omega
  have hg : ∀ o, W.grownBy (setBlock W B o) (some B) := fun o => ⟨rfl, rfl, rfl, by simp [setBlock], fun i _ hi => heap_setBlock_other hb _ (fun e => hi (by rw [e]))⟩
  rcases graph_keyed.find W hl es.toList (GSet.keys a2 a3 h5) with ⟨h1, h2⟩ | ⟨j, e0, h1, h2, h3⟩
  · refine ⟨setBlock W B (.map (es.push ⟨graphV n y, .agg #[.int .i64 a, .int .u32 b], c⟩) (c + 1)), ?_, ⟨a2, hS', _, _, heap_setBlock_same hb _, ?_, ?_⟩, hg _⟩
    · simp [Instr.mapUpdate, run_underlying Try.underlying63, MapKept.run_getObj_map hb, graph_keyed.check W _ hl, h1, MapKept.run_setObj_map _ hb, Result.andThen, setBlock]
    · intro x hx
      simp only [Array.toList_push, List.mem_append, List.mem_singleton] at hx
      rcases hx with hx | rfl
      · obtain ⟨b1, z, b2, b3⟩ := h5 x hx
        exact ⟨b1, z, by simp [b2], b3⟩
      · exact ⟨⟨a, b, rfl⟩, y, by simp, rfl⟩
    · intro z hz
      rcases List.mem_append.1 hz with hz | hz
      · obtain ⟨x, b1, b2⟩ := h6 z hz
        exact ⟨x, by simp [b1], b2⟩
      · simp at hz
        subst hz
        exact ⟨⟨graphV n z, .agg #[.int .i64 a, .int .u32 b], c⟩, by simp, rfl⟩
  · have hj : es[j]? = some e0 := by simpa using h2
    have hlist : (es.modify j (fun e' => { e' with key := graphV n y, val := .agg #[.int .i64 a, .int .u32 b] })).toList = es.toList.set j { e0 with key := graphV n y, val := .agg #[.int .i64 a, .int .u32 b] } := by rw [Array.toList_modify, ChangeMaps.modify_eq_set _ _ _ _ h2]
    have hjl : j < es.toList.length := (List.getElem?_eq_some_iff.1 h2).1
    refine ⟨setBlock W B (.map (es.modify j (fun e' => { e' with key := graphV n y, val := .agg #[.int .i64 a, .int .u32 b] })) c), ?_, ⟨a2, hS', _, _, heap_setBlock_same hb _, ?_, ?_⟩, hg _⟩
    · simp [Instr.mapUpdate, run_underlying Try.underlying63, MapKept.run_getObj_map hb, graph_keyed.check W _ hl, h1, hj, h3, graph_keyed.stays W hl, MapKept.run_setObj_map _ hb, Result.andThen, setBlock]
    · intro x hx
      rw [hlist] at hx
      rcases List.mem_or_eq_of_mem_set hx with hx | rfl
      · obtain ⟨b1, z, b2, b3⟩ := h5 x hx
        exact ⟨b1, z, by simp [b2], b3⟩
      · exact ⟨⟨a, b, rfl⟩, y, by simp, rfl⟩
    · intro z hz
      rw [hlist]
      by_cases hzy : z = y
      · subst hzy
        exact ⟨_, List.mem_set hjl _, rfl⟩
      · have hz' : z ∈ S := by
          rcases List.mem_append.1 hz with h | h
          · exact h
          · simp at h; exact absurd h hzy
        obtain ⟨x, b1, b2⟩ := h6 z hz'
        refine ⟨x, ?_, b2⟩
        obtain ⟨i, hi, he⟩ := List.getElem_of_mem b1
        have hne : j ≠ i := by
          rintro rfl
          have : e0 = x := by
            rw [List.getElem?_eq_getElem hi] at h2
            rw [← he]
            exact (Option.some.inj h2).symm
          rw [← this, h3, graphV_inj] at b2
          exact hzy b2.2.symm
        refine List.mem_iff_getElem.2 ⟨i, by simpa using hi, ?_⟩
        rw [List.getElem_set_ne hne, he]

/-! ### at the operations -/
section
variable {F : Fence} {nF : Nat} {w : World} {ops : Array Oper} {rest : List Oper} {o : Oper} {a : Act} {Q : Exit → Act → World → Prop}
theorem wpListIn_graphLook (hg : o.guard = none) (m x : Operand) (hop : o.op = Op.lookup 63 m x true) (B n : Nat) (S : List Nat) (hm : a.eval m = .map (some B)) (hS : GSet w B n S)
    (y : Nat) (hx : a.eval x = .agg #[.int .i64 n, .int .u32 y]) (hy : y < 4294967296) (b : Bool) (hb : inG S y = b)
    (hK : ∀ c d : Int, wpListIn F nF Try.prog ops Q rest (a.put o.dst (.tuple #[.agg #[.int .i64 c, .int .u32 d], .bool b])) w) : wpListIn F nF Try.prog ops Q (o :: rest) a w := by
  subst hb
  refine wpListIn_plain hg fun K' hK' => ?_
  obtain ⟨c, d, hrun⟩ := hS.look y hy
  unfold graphV at hrun
  unfold Oper.wpIn
  refine ⟨by simp [Oper.about, hop], ?_⟩
  rw [Oper.semAt_plain F _ _ (by rw [hop]; intro c hc'; cases hc')]
  simp [execOp, hop, hm, hx, hrun, Result.andThen]
  exact hK' _ _ (hK c d)
end
end Go.Proofs.Ytmbjhncgdmbpaaa
