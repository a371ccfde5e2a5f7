/-
  GSet, GBody, KListO, GLs, GAll, SAll, in one text.
-/
import Derived.Test.YtepbekhlpbnpkaaDoorKVal
import Derived.Maps.OwnIn
import Derived.DeepKeys4
import Derived.Test.YtepbekhlpbnpkaaDoorLeast
import Derived.Test.YtepbekhlpbnpkaaDoorCfM1
import Derived.Test.YtepbekhlpbnpkaaDoorIter
import Derived.Test.YtepbekhlpbnpkaaDoorFdM2
import Derived.Test.YtepbekhlpbnpkaaDoorFdM1
import Derived.Test.YtepbekhlpbnpkaaDoorSLeast
import Derived.Deep.RegionHeld3
/-
  A MAP FROM GRAPHS TO GRAPHS, OF WHICH ONLY THE KEYS COUNT: what the block holds; a graph is looked up; a graph is put in.
-/
namespace Go.Proofs.YtepbekhlpbnpkaaDoor
open Go.RowKit
open Go.Maps (Keyed)
open Go.ChangeMaps (setBlock heap_setBlock_same heap_setBlock_other)
set_option maxRecDepth 100000

theorem gm_laid : laidOutB Tryd.prog = true := by kernel_rfl
theorem graph_keyed : Keyed Tryd.prog 27 := Keyed.of_law (deep_law_laid gm_laid (m := 2) (by omega) (of_decide_eq_true (by kernel_rfl)) (by kernel_rfl) (by kernel_rfl))
def graphV (n e : Nat) : Value := .agg #[.int .i64 n, .int .u32 e]
theorem graphV_inj {n e n' e' : Nat} : graphV n e = graphV n' e' ↔ n = n' ∧ e = e' := by
  unfold graphV
  simp
  omega
theorem gg_i64_wf (k : Nat) (h : k ≤ 5) : (Lit.int .i64 k).wf = true := by
  simp [Lit.wf, IntKind.min, IntKind.max, IntKind.signed, IntKind.bits]
  omega
theorem gg_u32_wf (k : Nat) (h : k < 4294967296) : (Lit.int .u32 k).wf = true := by
  simp [Lit.wf, IntKind.min, IntKind.max, IntKind.signed, IntKind.bits]
  omega
theorem graph_deep : ∃ d, Tryd.prog.types.size + 1 = d + 3 := ⟨Tryd.prog.types.size - 2, by kernel_rfl⟩
theorem graph_keyType : Tryd.prog.keyType 27 = true := by kernel_rfl
theorem gg_graph_cells : Tryd.prog.cellsOf 27 = 2 := by kernel_rfl
theorem gg_i64_cells : Tryd.prog.cellsOf 2 = 1 := by kernel_rfl
theorem gg_u32_cells : Tryd.prog.cellsOf 22 = 1 := by kernel_rfl
theorem graph_key (n e : Nat) (hn : n ≤ 5) (he : e < 4294967296) : ∃ l, keyOf Tryd.prog 27 (graphV n e) = some l := by
  obtain ⟨d, hd⟩ := graph_deep
  have w1 := gg_i64_wf n hn
  have w2 := gg_u32_wf e he
  have hf : (graphV n e).formed Tryd.prog 27 = true := by simp [Value.formed, graphV, Tryd.underlying27, gg_graph_cells]
  unfold keyOf
  rw [Tryd.underlying27]
  simp only [graph_keyType, hf, Bool.and_self, if_true]
  rw [hd]
  simp [graphV, Value.cells, Program.keyLits, Tryd.underlying27, Tryd.underlying2, Tryd.underlying22, gg_graph_cells, gg_i64_cells, gg_u32_cells, w1, w2]

/-- the block B holds the graphs with n vertices and edges in S as keys -/
def GSet (W : World) (B n : Nat) (S : List Nat) : Prop :=
  n ≤ 5 ∧ (∀ y ∈ S, y < 4294967296) ∧ ∃ es clock, W.heap[B]? = some (.map es clock) ∧ (∀ x ∈ es.toList, (∃ a b : Int, x.val = .agg #[.int .i64 a, .int .u32 b]) ∧ ∃ y ∈ S, x.key = graphV n y) ∧ ∀ y ∈ S, ∃ x ∈ es.toList, x.key = graphV n y
theorem GSet.of_block {W W' : World} {B n : Nat} {S : List Nat} (h : GSet W B n S) (hs : W'.heap[B]? = W.heap[B]?) : GSet W' B n S := by
  obtain ⟨h2, h3, es, c, h4, h5⟩ := h
  exact ⟨h2, h3, es, c, hs.trans h4, h5⟩
theorem GSet.lt {W : World} {B n : Nat} {S : List Nat} (h : GSet W B n S) : B < W.heap.size := by
  obtain ⟨_, _, es, c, h4, _⟩ := h
  exact (Array.getElem?_eq_some_iff.1 h4).1
theorem GSet.below {W W' : World} {B n : Nat} {S : List Nat} (h : GSet W B n S) (hb : Below W.heap.size W W') : GSet W' B n S := h.of_block (hb.block _ h.lt)
theorem GSet.made (W : World) (n : Nat) (hn : n ≤ 5) : GSet (W.alloc (.map #[] 0)) W.heap.size n [] :=
  ⟨hn, fun y hy => (by cases hy), #[], 0, (MapKept.heap_alloc W _).1, by simp, by simp⟩
/-- is a graph among them -/
def inG (S : List Nat) (y : Nat) : Bool := decide (y ∈ S)
theorem GSet.keys {es : Array MapEntry} {n : Nat} {S : List Nat} (hn : n ≤ 5) (hS : ∀ y ∈ S, y < 4294967296) (h : ∀ x ∈ es.toList, (∃ a b : Int, x.val = .agg #[.int .i64 a, .int .u32 b]) ∧ ∃ y ∈ S, x.key = graphV n y) :
    ∀ x ∈ es.toList, ∃ l, keyOf Tryd.prog 27 x.key = some l := fun x hx => by
  obtain ⟨_, y, hy, e⟩ := h x hx
  rw [e]
  exact graph_key n y hn (hS y hy)
theorem GSet.look {W : World} {B n : Nat} {S : List Nat} (h : GSet W B n S) (y : Nat) (hy : y < 4294967296) :
    ∃ a b : Int, (Instr.lookup 140 (.map (some B)) (graphV n y) true).run Tryd.prog W = .ok (.tuple #[.agg #[.int .i64 a, .int .u32 b], .bool (inG S y)]) W := by
  obtain ⟨a2, a3, es, c, hb, h5, h6⟩ := h
  obtain ⟨l, hl⟩ := graph_key n y a2 hy
  rcases graph_keyed.find W hl es.toList (GSet.keys a2 a3 h5) with ⟨h1, h2⟩ | ⟨j, e0, h1, h2, h3⟩
  · have hf : inG S y = false := by
      unfold inG
      rw [Bool.eq_false_iff]
      intro c
      simp only [decide_eq_true_eq] at c
      obtain ⟨x, hx, he⟩ := h6 y c
      exact h2 x hx he
    rw [hf]
    exact ⟨0, 0, by simp [Instr.lookup, run_underlying Tryd.underlying140, MapKept.run_getObj_map hb, graph_keyed.check W _ hl, h1, Result.andThen]⟩
  · obtain ⟨⟨a, b, hab⟩, y', hy', he⟩ := h5 e0 (List.mem_of_getElem? h2)
    rw [h3, graphV_inj] at he
    obtain ⟨_, rfl⟩ := he
    have ht : inG S y = true := by simp [inG, hy']
    rw [ht]
    exact ⟨a, b, by simp [Instr.lookup, run_underlying Tryd.underlying140, MapKept.run_getObj_map hb, graph_keyed.check W _ hl, h1, hab, Result.andThen]⟩
theorem GSet.store {W : World} {B n : Nat} {S : List Nat} (h : GSet W B n S) (y : Nat) (hy : y < 4294967296) (a b : Int) :
    ∃ w', (Instr.mapUpdate 140 (.map (some B)) (graphV n y) (.agg #[.int .i64 a, .int .u32 b])).run Tryd.prog W = .ok () w' ∧ GSet w' B n (S ++ [y]) ∧ W.grownBy w' (some B) := by
  obtain ⟨a2, a3, es, c, hb, h5, h6⟩ := h
  obtain ⟨l, hl⟩ := graph_key n y a2 hy
  have hS' : ∀ z ∈ S ++ [y], z < 4294967296 := fun z hz => by
    rcases List.mem_append.1 hz with h | h
    · exact a3 z h
    · simp at h; omega
  have hg : ∀ o, W.grownBy (setBlock W B o) (some B) := fun o => ⟨rfl, rfl, rfl, by simp [setBlock], fun i _ hi => heap_setBlock_other hb _ (fun e => hi (by rw [e]))⟩
  rcases graph_keyed.find W hl es.toList (GSet.keys a2 a3 h5) with ⟨h1, h2⟩ | ⟨j, e0, h1, h2, h3⟩
  · refine ⟨setBlock W B (.map (es.push ⟨graphV n y, .agg #[.int .i64 a, .int .u32 b], c⟩) (c + 1)), ?_, ⟨a2, hS', _, _, heap_setBlock_same hb _, ?_, ?_⟩, hg _⟩
    · simp [Instr.mapUpdate, run_underlying Tryd.underlying140, MapKept.run_getObj_map hb, graph_keyed.check W _ hl, h1, MapKept.run_setObj_map _ hb, Result.andThen, setBlock]
    · intro x hx
      simp only [Array.toList_push, List.mem_append, List.mem_singleton] at hx
      rcases hx with hx | rfl
      · obtain ⟨b1, z, b2, b3⟩ := h5 x hx
        exact ⟨b1, z, by simp [b2], b3⟩
      · exact ⟨⟨a, b, rfl⟩, y, by simp, rfl⟩
    · intro z hz
      rcases List.mem_append.1 hz with hz | hz
      · obtain ⟨x, b1, b2⟩ := h6 z hz
        exact ⟨x, by simp [b1], b2⟩
      · simp at hz
        subst hz
        exact ⟨⟨graphV n z, .agg #[.int .i64 a, .int .u32 b], c⟩, by simp, rfl⟩
  · have hj : es[j]? = some e0 := by simpa using h2
    have hlist : (es.modify j (fun e' => { e' with key := graphV n y, val := .agg #[.int .i64 a, .int .u32 b] })).toList = es.toList.set j { e0 with key := graphV n y, val := .agg #[.int .i64 a, .int .u32 b] } := by rw [Array.toList_modify, ChangeMaps.modify_eq_set _ _ _ _ h2]
    have hjl : j < es.toList.length := (List.getElem?_eq_some_iff.1 h2).1
    refine ⟨setBlock W B (.map (es.modify j (fun e' => { e' with key := graphV n y, val := .agg #[.int .i64 a, .int .u32 b] })) c), ?_, ⟨a2, hS', _, _, heap_setBlock_same hb _, ?_, ?_⟩, hg _⟩
    · simp [Instr.mapUpdate, run_underlying Tryd.underlying140, MapKept.run_getObj_map hb, graph_keyed.check W _ hl, h1, hj, h3, graph_keyed.stays W hl, MapKept.run_setObj_map _ hb, Result.andThen, setBlock]
    · intro x hx
      rw [hlist] at hx
      rcases List.mem_or_eq_of_mem_set hx with hx | rfl
      · obtain ⟨b1, z, b2, b3⟩ := h5 x hx
        exact ⟨b1, z, by simp [b2], b3⟩
      · exact ⟨⟨a, b, rfl⟩, y, by simp, rfl⟩
    · intro z hz
      rw [hlist]
      by_cases hzy : z = y
      · subst hzy
        exact ⟨_, List.mem_set hjl _, rfl⟩
      · have hz' : z ∈ S := by
          rcases List.mem_append.1 hz with h | h
          · exact h
          · simp at h; exact absurd h hzy
        obtain ⟨x, b1, b2⟩ := h6 z hz'
        refine ⟨x, ?_, b2⟩
        obtain ⟨i, hi, he⟩ := List.getElem_of_mem b1
        have hne : j ≠ i := by
          rintro rfl
          have : e0 = x := by
            rw [List.getElem?_eq_getElem hi] at h2
            rw [← he]
            exact (Option.some.inj h2).symm
          rw [← this, h3, graphV_inj] at b2
          exact hzy b2.2.symm
        refine List.mem_iff_getElem.2 ⟨i, by simpa using hi, ?_⟩
        rw [List.getElem_set_ne hne, he]

/-! ### at the operations -/
section
variable {F : Fence} {nF : Nat} {w : World} {ops : Array Oper} {rest : List Oper} {o : Oper} {a : Act} {Q : Exit → Act → World → Prop}
theorem wpListIn_graphLook (hg : o.guard = none) (m x : Operand) (hop : o.op = Op.lookup 140 m x true) (B n : Nat) (S : List Nat) (hm : a.eval m = .map (some B)) (hS : GSet w B n S)
    (y : Nat) (hx : a.eval x = .agg #[.int .i64 n, .int .u32 y]) (hy : y < 4294967296) (b : Bool) (hb : inG S y = b)
    (hK : ∀ c d : Int, wpListIn F nF Tryd.prog ops Q rest (a.put o.dst (.tuple #[.agg #[.int .i64 c, .int .u32 d], .bool b])) w) : wpListIn F nF Tryd.prog ops Q (o :: rest) a w := by
  subst hb
  refine wpListIn_plain hg fun K' hK' => ?_
  obtain ⟨c, d, hrun⟩ := hS.look y hy
  unfold graphV at hrun
  unfold Oper.wpIn
  refine ⟨by simp [Oper.about, hop], ?_⟩
  rw [Oper.semAt_plain F _ _ (by rw [hop]; intro c hc'; cases hc')]
  simp [execOp, hop, hm, hx, hrun, Result.andThen]
  exact hK' _ _ (hK c d)
end
end Go.Proofs.YtepbekhlpbnpkaaDoor
/-
  A round of AllGraphs' inner walk: a graph is turned and put into the map.
-/
namespace Go.Proofs.YtepbekhlpbnpkaaDoor
open Go.RowKit Go.Shelf
set_option maxRecDepth 100000
attribute [local go_sem] Oper.semAt_some

def agOps : Array Oper := #[{ dst := some 34, op := Op.load 140 (Operand.tmp 5), type := 140, pos := "l01_graphs.go:407", after := #[], guard := none },
      { dst := some 35, op := Op.load 27 (Operand.tmp 7), type := 27, pos := "l01_graphs.go:407", after := #[], guard := none },
      { dst := some 36, op := Op.move (Operand.tmp 10), type := 64, pos := "l01_graphs.go:407", after := #[], guard := none },
      { dst := some 37, op := Op.call { callee := Callee.value (Operand.func 46), args := #[Operand.tmp 35, Operand.tmp 36], argTypes := #[27, 64] }, type := 27, pos := "l01_graphs.go:407", after := #[{ on := 1, ground := Ground.data }, { on := 2, ground := Ground.data }], guard := none },
      { dst := some 38, op := Op.load 27 (Operand.tmp 7), type := 27, pos := "l01_graphs.go:407", after := #[], guard := none },
      { dst := none, op := Op.mapUpdate 140 (Operand.tmp 34) (Operand.tmp 37) (Operand.tmp 38), type := 0, pos := "l01_graphs.go:407", after := #[{ on := 0, ground := Ground.data }, { on := 3, ground := Ground.data }, { on := 4, ground := Ground.data }, { on := 3, ground := Ground.chain }, { on := 0, ground := Ground.phase }, { on := 1, ground := Ground.phase }, { on := 2, ground := Ground.phase }, { on := 3, ground := Ground.phase }, { on := 4, ground := Ground.phase }], guard := none }]
set_option maxHeartbeats 4000000 in
theorem ag_body (l' m n j z Lb G Bm : Nat) (v : Value) (A' : World) (R : World → Prop) (Q : Exit → Act → World → Prop) (t0 t1 t2 t3 t4 t6 t8 t9 t11 t12 t13 t14 t15 t16 t17 t18 t19 t20 t21 t22 t23 t24 t25 t26 t27 t28 t29 t30 t31 t32 t33 t34 t35 t36 t37 t38 t39 t40 t41 t42 t43 t44 : Value)
    (hOn : Hid (Calls Tryd.prog 46 #[.agg #[.int .i64 n, .int .u32 j], v] A'.drew fun r w' => r = .returned (.agg #[.int .i64 n, .int .u32 z]) ∧ Below A'.drew.heap.size A'.drew w'))
    (hput : Hid (∀ w3, Below A'.drew.heap.size A'.drew w3 → ∃ w4, (Instr.mapUpdate 140 (.map (some Bm)) (.agg #[.int .i64 n, .int .u32 z]) (.agg #[.int .i64 n, .int .u32 j])).run Tryd.prog w3 = .ok () w4 ∧ R w4))
    (e0 : A'.cell? ⟨G, 0, none⟩ = some (.int .i64 n)) (e1 : A'.cell? ⟨G, 1, none⟩ = some (.int .u32 j)) (e2 : A'.cell? ⟨Lb, 0, none⟩ = some (.map (some Bm)))
    (hQ : Hid (∀ a4 w4, R w4 → Q .normal a4 w4)) :
    (Code.region 13 agOps true).wpIn (Fence.wide.inRound l') m Tryd.prog Q { tmps := #[t0, t1, t2, t3, t4, .pointer (some ⟨Lb, 0, none⟩), t6, .pointer (some ⟨G, 0, none⟩), t8, t9, v, t11, t12, t13, t14, t15, t16, t17, t18, t19, t20, t21, t22, t23, t24, t25, t26, t27, t28, t29, t30, t31, t32, t33, t34, t35, t36, t37, t38, t39, t40, t41, t42, t43, t44], defers := [] } A' := by
  have hG : G < A'.drew.heap.size := World.block_lt_of_cell? A' ⟨G, 0, none⟩ e0
  have hL : Lb < A'.drew.heap.size := World.block_lt_of_cell? A' ⟨Lb, 0, none⟩ e2
  unfold agOps
  gi_region_with (refine ⟨trivial, fun h => (by cases h), ?_⟩; gi_at_call 46; refine (CallsIn.inRound l' (callsIn_wide.2 hOn.out)).mono ?_; rintro r3 w3 ⟨rfl, hb3⟩; obtain ⟨w4, hrun, hS4⟩ := hput.out w3 hb3; have x0 := (hb3.cell (p := ⟨G, 0, none⟩) hG).trans e0; have x1 := (hb3.cell (p := ⟨G, 1, none⟩) hG).trans e1; have x2 := (hb3.cell (p := ⟨Lb, 0, none⟩) hL).trans e2)
  all_goals exact hQ.out _ _ hS4
end Go.Proofs.YtepbekhlpbnpkaaDoor
/-
  THE LISTS OF DIFFERENT VERTICES: what the program's iterator yields, for loops whose rounds make and change memory.
-/
namespace Go.Proofs.YtepbekhlpbnpkaaDoor
open Go.RowKit Go.Shelf
set_option maxRecDepth 100000

theorem yield_mono' {F : Fence} {m : Nat} {P : Program} {l : Nat} {args : Array Value} {W : World} {R R' : Ending → World → Prop} (h : YieldAt F m P l args W R) (hR : ∀ e w, R e w → R' e w) : YieldAt F m P l args W R' := by
  obtain ⟨fn, tmps, assign, body, hy, hr⟩ := h
  exact ⟨fn, tmps, assign, body, hy, hr.mono hR⟩
/-- what the caller's rounds promise the iterator -/
def RoundsY (L : List (List Nat)) (B l : Nat) (J : List (List Nat) → World → Prop) : Prop :=
  ∀ m pre x rest v W1, L = pre ++ x :: rest → J pre W1 → B < W1.heap.size → SlI W1 v (zl x) → YieldAt Fence.wide m Tryd.prog l #[v] W1 fun e W' =>
    e = .returned (.bool true) ∧ J (pre ++ [x]) W' ∧ W1.heap.size ≤ W'.heap.size ∧ W'.heap[B]? = W1.heap[B]?

set_option maxHeartbeats 1000000 in
theorem lly_zero (n k l B : Nat) (hk : k ≤ 5) (L : List (List Nat)) (J : List (List Nat) → World → Prop) (hY : RoundsY L B l J)
    (p : List Nat) (nn : Nat) (pre rest : List (List Nat)) (W : World) (hp : p.length = k) (hL : L = pre ++ [p] ++ rest) (h0 : J pre W) (hM : LMem W B k p) :
    CallsIn Fence.wide nn Tryd.prog 151 #[.int .i64 n, .int .i64 k, .slice (some ⟨B, 0, none⟩) k k, .func (.yield l) #[] #[]] W fun e W' =>
      e = .returned (.bool true) ∧ J (pre ++ [p]) W' ∧ LMem W' B k p := by
  obtain ⟨fn, tmps, assign, body, hy, hR⟩ := hY (nn - 1) pre p rest _ W (by rw [hL]; simp) h0 hM.lt (hM.sl (by omega))
  rw [hp] at hy
  replace hR := Lib.hid hR
  replace hM := Lib.hid hM
  clear hL h0 hp hY
  refine callsIn_of_wp Tryd.func151 rfl trivial ?_ rfl
  simp only [Tryd.ntmps151, List.size_toArray, List.length_cons, List.length_nil, Nat.reduceAdd, Nat.reduceSub, Array.replicate_succ, Array.replicate_zero, List.push_toArray, List.append_toArray, List.nil_append, List.cons_append]
  gi_wp2
  refine ⟨fun h => (by cases h), hR.out.mono ?_⟩
  rintro e w1 ⟨rfl, hJ1, hz1, hu1⟩
  gi_wp2
  go_ret
  exact ⟨rfl, hJ1, hM.out.block hz1 hu1⟩

set_option maxHeartbeats 4000000 in
theorem lly_in (n k l B : Nat) (hn : n ≤ 5) (hk : k ≤ 5) (L : List (List Nat)) (J : List (List Nat) → World → Prop) (hJ : ∀ s A A', J s A → Chg (fun b => b = B) A A' → J s A') (hY : RoundsY L B l J) (m : Nat) :
    ∀ (p : List Nat) (pl nn : Nat) (pre rest : List (List Nat)) (W : World), p.length = pl → pl + m = k → L = pre ++ ext n m p ++ rest → J pre W → LMem W B k p →
    CallsIn Fence.wide nn Tryd.prog 151 #[.int .i64 n, .int .i64 k, .slice (some ⟨B, 0, none⟩) pl k, .func (.yield l) #[] #[]] W fun e W' =>
      e = .returned (.bool true) ∧ J (pre ++ ext n m p) W' ∧ LMem W' B k p := by
  induction m with
  | zero =>
    intro p pl nn pre rest W hpl hp hL h0 hM
    obtain rfl : pl = k := hp
    exact lly_zero n pl l B hk L J hY p nn pre rest W hpl hL h0 hM
  | succ m ih =>
    intro p pl nn pre rest W hpl hp hL h0 hM
    obtain ⟨i0, hi0, hs0⟩ := info_i64s
    have hlt : pl < k := by omega
    have hne : ((pl : Int) == (k : Int)) = false := by simp; omega
    replace hY := Lib.hid hY
    replace ih := Lib.hid ih
    replace hL := Lib.hid hL
    replace hJ := Lib.hid hJ
    replace hM := Lib.hid hM
    replace h0 := Lib.hid h0
    replace hpl := Lib.hid hpl
    replace hp := Lib.hid hp
    replace hi0 := Lib.hid hi0
    replace hs0 := Lib.hid hs0
    refine callsIn_of_wp Tryd.func151 rfl trivial ?_ rfl
    simp only [Tryd.ntmps151, List.size_toArray, List.length_cons, List.length_nil, Nat.reduceAdd, Nat.reduceSub, Array.replicate_succ, Array.replicate_zero, List.push_toArray, List.append_toArray, List.nil_append, List.cons_append]
    gi_wp2
    gi_loopw [9, 18] (fun _ c wr => ∃ j : Nat, j ≤ n ∧ c = .int .i64 j ∧ J (pre ++ extTo n m p j) wr ∧ LMem wr B k p) (fun _ c _ => n - (intOf c).toNat)
    case atStart => exact ⟨0, by omega, rfl, by rw [extTo_zero, List.append_nil]; exact h0.out, hM.out⟩
    case round =>
      obtain ⟨j, hj, rfl, hJj, hMj⟩ := hrel
      by_cases hlt2 : j < n
      · have hC := contains_any wr _ p j (hMj.sl (by omega)) (by have := hpl.out; omega)
        rw [hpl.out] at hC
        replace hJj := Lib.hid hJj
        have hM0 := Lib.hid hMj
        cases hb : p.contains j
        · rw [hb] at hC
          replace hC := Lib.hid hC
          have hx := Lib.hid (extTo_f (n := n) (m := m) hb)
          obtain ⟨z, hz⟩ := hMj.cells pl hlt
          have hfz := hMj.free pl hlt
          have hBl := hMj.lt
          obtain ⟨t, ht⟩ := extTo_pre (n := n) (m := m) (p := p) (j := j + 1) (by omega)
          have hcall := Lib.hid (fun nn W2 hJ2 hM2 => ih.out (p ++ [j]) (pl + 1) nn (pre ++ extTo n m p j) (t ++ rest) W2 (by simp [hpl.out]) (by have := hp.out; omega) (by rw [hL.out, ht, hx.out]; simp [List.append_assoc]) hJ2 hM2)
          have hJ2 := Lib.hid (hJ.out _ _ _ hJj.out (show Chg (fun b => b = B) wr ((wr.setCell ⟨B, pl, none⟩ (.int .i64 (j : Int))).alloc (.cells #[.int .i64 (j : Int)] 2)) from (Chg.setCell (Own := fun b => b = B) wr ⟨B, pl, none⟩ _ rfl).trans (Chg.of_below ((Below.refl _ _).alloc (Nat.le_refl _) _))))
          have hM2 := hM0.out.push (by have := hpl.out; omega) j
          rw [hpl.out] at hM2
          replace hM2 := Lib.hid (hM2.below (balloc (Below.refl _ _) (.cells #[.int .i64 (j : Int)] 2)))
          clear hb hMj ht
          gi_wp2_with (first
            | (refine ⟨trivial, fun h => (by cases h), ?_⟩; gi_at_call 139; refine (callsIn_wide.2 hC.out).mono ?_; rintro r3 w3 ⟨rfl, rfl⟩)
            | (refine ⟨trivial, fun h => (by cases h), ?_⟩; gi_at_call 151; refine (hcall.out _ _ hJ2.out hM2.out).mono ?_; rintro r4 w4 ⟨rfl, hJ4, hM4⟩))
          go_roundw
          case rel => exact ⟨j + 1, by omega, by go_num, by rw [hx.out, ← List.append_assoc]; exact hJ4, hM4.pop⟩
          case measure => simp [intOf]; omega
        · rw [hb] at hC
          replace hC := Lib.hid hC
          have hx := Lib.hid (extTo_t (n := n) (m := m) hb)
          clear hb hMj
          gi_wp2_with (refine ⟨trivial, fun h => (by cases h), ?_⟩; gi_at_call 139; refine (callsIn_wide.2 hC.out).mono ?_; rintro r3 w3 ⟨rfl, rfl⟩)
          go_roundw
          case rel => exact ⟨j + 1, by omega, by go_num, by rw [hx.out]; exact hJj.out, hM0.out⟩
          case measure => simp [intOf]; omega
      · obtain rfl : j = n := by omega
        have hdd := decide_eq_false (show ¬ ((j : Int) < (j : Int)) by omega)
        replace hJj := Lib.hid hJj
        replace hMj := Lib.hid hMj
        gi_wp2
        go_ret
        exact ⟨rfl, by rw [← extTo_end]; exact hJj.out, hMj.out⟩

set_option maxHeartbeats 4000000 in
theorem lists_own (n k : Nat) (hn : n ≤ 5) (hk : k ≤ 5) (nn Bn Bk : Nat) (w : World) (hBn : Bn < w.heap.size) (hBk : Bk < w.heap.size) (gn : w.cell? ⟨Bn, 0, none⟩ = some (.int .i64 n)) (gk : w.cell? ⟨Bk, 0, none⟩ = some (.int .i64 k)) :
    SeqOwn Fence.wide nn Tryd.prog 150 #[.pointer (some ⟨Bn, 0, none⟩), .pointer (some ⟨Bk, 0, none⟩)] (fun _ => True) See (lists n k) w := fun l J W hW hJ _ hY h0 => by
  have c1 : W.cell? ⟨Bn, 0, none⟩ = some (.int .i64 n) := (hW.cell (p := ⟨Bn, 0, none⟩) hBn).trans gn
  have c2 : W.cell? ⟨Bk, 0, none⟩ = some (.int .i64 k) := (hW.cell (p := ⟨Bk, 0, none⟩) hBk).trans gk
  have hfol : Tryd.prog.follows .mixedOrders = true := by kernel_rfl
  obtain ⟨O, hO⟩ : ∃ O, O = Obj.cells (madeCells #[.int .i64 0] k) 2 := ⟨_, rfl⟩
  obtain ⟨i0, hi0, hz0, hs0, hb0⟩ := info_parts info_i64
  have hmk : ∀ W : World, (Instr.makeSlice 64 (.int .i64 0) (.int .i64 k)).run Tryd.prog W = .ok (.slice (some ⟨W.heap.size, 0, none⟩) 0 k) (W.alloc O) := fun W => by
    have hr := run_make (P := Tryd.prog) W 64 2 i0 (.int .i64 0) Tryd.underlying64 hi0 hz0 .i64 .i64 ((0 : Nat) : Int) (k : Int) (by omega) (by omega) (by rw [hb0]; omega) (by omega)
    simp only [Int.toNat_natCast, hs0, Nat.mul_one] at hr
    rw [hO]
    exact hr
  obtain ⟨B, hB⟩ : ∃ B, B = W.heap.size := ⟨_, rfl⟩
  have hog : ∀ b, (fun b => b = B) b → W.heap.size ≤ b := fun b hb => by simp at hb; omega
  obtain ⟨J', hJ'd⟩ : ∃ J' : List (List Nat) → World → Prop, J' = fun pre A => J (fun b => b = B) pre A := ⟨_, rfl⟩
  have hJ' : ∀ s A A', J' s A → Chg (fun b => b = B) A A' → J' s A' := by
    subst hJ'd
    exact fun s A A' h hc => hJ _ hog s A A' h hc
  have hR : RoundsY (lists n k) B l J' := fun m pre x rest v W1 hL hj hBl hs => by
    subst hJ'd
    refine anyDepth (yield_mono' (hY _ pre x rest v W1 (fun b (hb : b = B) => ⟨hog b hb, by omega⟩) hL hj hs) ?_)
    rintro e W' ⟨h1, h2, h3, h4⟩
    exact ⟨h1, h2, h3, h4 B rfl⟩
  have hM := LMem.made W k 2 (fun i hi => by simp [madeCells, hi, Nat.mod_one])
  rw [← hO, ← hB] at hM
  have hj0 : J' [] ((W.alloc O).drew) := by
    subst hJ'd
    exact h0 _ _ hog (((Below.refl _ W).alloc (Nat.le_refl _) O).drew)
  have hcall := Lib.hid (fun nn => (lly_in n k l B hn hk (lists n k) J' hJ' hR k [] 0 nn [] [] ((W.alloc O).drew) rfl (by omega) (by simp [lists])
    hj0 (hM.below ((Below.refl _ _).drew))).mono (R' := fun e w' => ∃ b : Bool, e = .returned (.bool b) ∧ Hid (∃ Own : Nat → Prop, (∀ b, Own b → W.heap.size ≤ b) ∧ J Own (lists n k) w')) (by
      subst hJ'd
      rintro e w' ⟨h1, h2, _⟩
      exact ⟨_, h1, _, hog, h2⟩))
  have d1 := (cOld W O Bn 0 (Nat.lt_of_lt_of_le hBn hW.size)).trans c1
  have d2 := (cOld W O Bk 0 (Nat.lt_of_lt_of_le hBk hW.size)).trans c2
  clear hM hW hBn hBk gn gk hi0 hz0 hs0 hb0 hR hY hJ' hj0 hog hJ'd
  replace hO := Lib.hid hO
  replace hJ := Lib.hid hJ
  replace h0 := Lib.hid h0
  rw [hB] at hcall
  refine callsIn_wide.2 ?_
  go_enter Tryd.func150, Tryd.ntmps150
  go_wp2
  go_region_with (go_at_call 151; refine (callsIn_wide.1 (hcall.out 0)).mono ?_; rintro r4 w4 ⟨b4, rfl, hg4⟩)
  all_goals go_wp2
  all_goals go_end0
  all_goals exact ⟨⟨_, rfl⟩, hg4.out⟩
end Go.Proofs.YtepbekhlpbnpkaaDoor
/-
  THE LEAST GRAPHS WITH SO MANY VERTICES, as a list: plain facts.
-/
namespace Go.Proofs.YtepbekhlpbnpkaaDoor
set_option maxRecDepth 100000

theorem eMax_posG : ∀ n, n ≤ 5 → 1 ≤ eMax n := by decide
/-- is a graph the least of those that are alike -/
def isG (n j : Nat) : Bool := leastE n j == j
def lG (n m : Nat) : List (Int × Int) := ((List.range m).filter (isG n)).map fun (j : Nat) => ((n : Int), (j : Int))
theorem lG_t {n m : Nat} (h : isG n m = true) : lG n (m + 1) = lG n m ++ [((n : Int), (m : Int))] := by simp [lG, List.range_succ, List.filter_append, h]
theorem lG_f {n m : Nat} (h : isG n m = false) : lG n (m + 1) = lG n m := by simp [lG, List.range_succ, List.filter_append, h]
theorem lG_len (n m : Nat) : (lG n m).length ≤ m := by
  unfold lG
  rw [List.length_map]
  have := List.length_filter_le (isG n) (List.range m)
  simpa using this
def seenG (n i : Nat) : List Nat := seenS n 0 0 i
theorem kE00 (i : Nat) : kE 0 0 i = i := by
  unfold kE
  rw [show pc 0 = 0 by decide]
  simp
theorem kM0 (n : Nat) (hn : n ≤ 5) : kM 0 n = eMax n := by
  unfold kM
  rw [show pc 0 = 0 by decide, eMax_pc n hn]
  rfl
theorem seenG_t {n i : Nat} (h : leastE n i = i) : seenG n (i + 1) = seenG n i ++ (lists n n).map (onL i) := by
  have := seenS_t (n := n) (k := 0) (t := 0) (i := i) (by rw [kE00]; exact h)
  rw [kE00] at this
  exact this
theorem seenG_f {n i : Nat} (h : leastE n i ≠ i) : seenG n (i + 1) = seenG n i := seenS_f (n := n) (k := 0) (t := 0) (i := i) (by rw [kE00]; exact h)
theorem seenG_iff {n i : Nat} (hn : n ≤ 5) (hi : i < eMax n) : i ∈ seenG n i ↔ leastE n i ≠ i := by
  have := seen_iff (n := n) (k := 0) (t := 0) hn (by omega) (by omega) (by decide) (i := i) (by rw [kM0 n hn]; exact hi)
  rw [kE00] at this
  exact this
end Go.Proofs.YtepbekhlpbnpkaaDoor
/-
  ALL LEAST GRAPHS WITH SO MANY VERTICES: the program's contract.
-/
namespace Go.Proofs.YtepbekhlpbnpkaaDoor
open Go.RowKit Go.Shelf
set_option maxRecDepth 100000
attribute [local go_sem] Oper.semAt_some

/-- how far the walk is -/
structure AgR (w : World) (Bm n j : Nat) (Ds : List Nat) (u : Value) (A : World) : Prop where
  nd : Ds.Nodup
  ds : ∀ D ∈ Ds, w.heap.size ≤ D ∧ D < A.heap.size ∧ A.heap[D]? = some (.deferred (some []))
  set : GSet A Bm n (seenG n j)
  c : A.cell? ⟨Bm + 1, 0, none⟩ = some (.map (some Bm))
  own : A.ownsRow (Bm + 2) 27 2 u (lG n j).length (gsC (lG n j))
  b : Below w.heap.size w A
  z : Bm + 2 ≤ A.heap.size
theorem AgR.below {w A A' : World} {Bm n j : Nat} {Ds : List Nat} {u : Value} (h : AgR w Bm n j Ds u A) (hb : Below A.heap.size A A') : AgR w Bm n j Ds u A' where
  nd := h.nd
  ds := fun D hD => by
    obtain ⟨h1, h2, h3⟩ := h.ds D hD
    exact ⟨h1, Nat.lt_of_lt_of_le h2 hb.size, (hb.block D h2).trans h3⟩
  set := h.set.below hb
  c := (hb.cell (p := ⟨Bm + 1, 0, none⟩) (by have := h.z; show Bm + 1 < _; omega)).trans h.c
  own := h.own.kept (row := none) ⟨hb.os, hb.tape, hb.output, hb.size, fun k hk _ => hb.block k hk⟩ (by cases (Value.ownBlock u) <;> simp)
  b := h.b.trans (hb.mono h.b.size)
  z := Nat.le_trans h.z hb.size
theorem AgR.skip {w A : World} {Bm n j : Nat} {Ds : List Nat} {u : Value} (h : AgR w Bm n j Ds u A) (hl : leastE n j ≠ j) : AgR w Bm n (j + 1) Ds u A where
  nd := h.nd
  ds := h.ds
  set := by rw [seenG_f hl]; exact h.set
  c := h.c
  own := by rw [lG_f (by unfold isG; simpa using hl)]; exact h.own
  b := h.b
  z := h.z
/-- what the inner walk has done -/
structure AgI (w A2 : World) (Bm n : Nat) (S : List Nat) (A' : World) : Prop where
  set : GSet A' Bm n S
  b : Below w.heap.size w A'
  g : A2.grownBy A' (some Bm)
theorem AgI.chg {w A2 A' A'' : World} {Bm n : Nat} {S : List Nat} {Own : Nat → Prop} (h : AgI w A2 Bm n S A') (hm : Bm < A2.heap.size) (hw : w.heap.size ≤ A2.heap.size) (ho : ∀ b, Own b → A2.heap.size ≤ b) (hc : Chg Own A' A'') : AgI w A2 Bm n S A'' where
  set := h.set.of_block (hc.same _ h.set.lt (fun c => by have := ho _ c; omega))
  b := h.b.trans (hc.below h.b.size (fun b hb => by have := ho b hb; omega))
  g := ⟨hc.os.trans h.g.os, hc.tape.trans h.g.tape, hc.output.trans h.g.output, Nat.le_trans h.g.size hc.size, fun k hk hn => (hc.same k (Nat.lt_of_lt_of_le hk h.g.size) (fun c => by have := ho _ c; omega)).trans (h.g.block k hk hn)⟩
theorem AgI.start {w A2 A' : World} {Bm n : Nat} {S : List Nat} (hS : GSet A2 Bm n S) (hb : Below w.heap.size w A2) (h : Below A2.heap.size A2 A') : AgI w A2 Bm n S A' where
  set := hS.below h
  b := hb.trans (h.mono hb.size)
  g := ⟨h.os, h.tape, h.output, h.size, fun k hk _ => h.block k hk⟩
theorem AgI.put {w A2 A' w3 w4 : World} {Bm n : Nat} {S S' : List Nat} (h : AgI w A2 Bm n S A') (hwm : w.heap.size ≤ Bm) (hb : Below A'.heap.size A' w3) (hg : w3.grownBy w4 (some Bm)) (hS : GSet w4 Bm n S') : AgI w A2 Bm n S' w4 where
  set := hS
  b := (h.b.trans (hb.mono h.b.size)).grown hg (Nat.le_trans h.b.size hb.size) (fun k hk => by injection hk with hk; omega)
  g := ⟨hg.os.trans (hb.os.trans h.g.os), hg.tape.trans (hb.tape.trans h.g.tape), hg.output.trans (hb.output.trans h.g.output), Nat.le_trans h.g.size (Nat.le_trans hb.size hg.size), fun k hk hn => (hg.block k (Nat.lt_of_lt_of_le hk (Nat.le_trans h.g.size hb.size)) hn).trans ((hb.block k (Nat.lt_of_lt_of_le hk h.g.size)).trans (h.g.block k hk hn))⟩
theorem AgR.row {w A2 A3 : World} {Bm n j : Nat} {Ds S : List Nat} {u : Value} (h : AgR w Bm n j Ds u A2) (hi : AgI w A2 Bm n S A3) : A3.ownsRow (Bm + 2) 27 2 u (lG n j).length (gsC (lG n j)) :=
  h.own.kept hi.g (by
    rcases hu : Value.ownBlock u with _ | k
    · exact .inl rfl
    · refine .inr (fun c => ?_)
      injection c with c
      have := (h.own.lt k hu).1
      omega)
theorem AgR.next {w A2 A3 w5 : World} {Bm n j : Nat} {Ds : List Nat} {u v' : Value} (hwm : w.heap.size ≤ Bm) (h : AgR w Bm n j Ds u A2) (hi : AgI w A2 Bm n (seenG n j ++ (lists n n).map (onL j)) A3) (hl : leastE n j = j) {D : Nat} (hD : A2.heap.size ≤ D) (hK : A3.heap[D]? = some (.deferred (some [])))
    {O : Obj} (hown : w5.ownsRow (Bm + 2) 27 2 v' ((lG n j).length + 1) (gsC (lG n j) ++ [.int .i64 n, .int .u32 j])) (hg : (A3.alloc O).grownBy w5 (Value.ownBlock u)) : AgR w Bm n (j + 1) (D :: Ds) v' w5 := by
  have hz3 := hi.g.size
  have hz5 := hg.size
  rw [World.size_alloc] at hz5
  have keep : ∀ k, k < A3.heap.size → some k ≠ Value.ownBlock u → w5.heap[k]? = A3.heap[k]? := fun k hk hn => (hg.block k (by rw [World.size_alloc]; omega) hn).trans (Below.heap_alloc _ _ _ hk)
  have hlow : ∀ k, k < Bm + 2 → some k ≠ Value.ownBlock u := fun k hk c => by have := (h.own.lt k c.symm).1; omega
  have hDl : D < A3.heap.size := (Array.getElem?_eq_some_iff.1 hK).1
  have hz := h.z
  refine ⟨List.nodup_cons.2 ⟨fun c => by have := (h.ds D c).2.1; omega, h.nd⟩, fun D' hD' => ?_, ?_, ?_, ?_, ?_, by omega⟩
  · rcases List.mem_cons.1 hD' with rfl | hD'
    · refine ⟨by have := h.b.size; omega, by omega, (keep _ hDl (fun c => ?_)).trans hK⟩
      have := (h.own.lt _ c.symm).2
      omega
    · obtain ⟨h1, h2, h3⟩ := h.ds D' hD'
      have hne : D' ≠ Bm := by
        rintro rfl
        obtain ⟨_, _, es, cl, hh, _⟩ := h.set
        rw [hh] at h3
        cases h3
      refine ⟨h1, by omega, (keep _ (by omega) (fun c => ?_)).trans ((hi.g.block D' h2 (by intro c; injection c with c; exact hne c)).trans h3)⟩
      rcases h.own.2 with ⟨rfl, _⟩ | ⟨g, cap, cur, rfl, a1, a2, _⟩
      · simp [Value.ownBlock] at c
      · simp [Value.ownBlock] at c
        subst c
        rw [a2] at h3
        cases h3
  · rw [seenG_t hl]
    exact hi.set.of_block (keep _ (by omega) (hlow _ (by omega)))
  · exact (World.cell?_of_block (a := ⟨Bm + 1, 0, none⟩) (keep (Bm + 1) (by omega) (hlow _ (by omega)))).trans ((World.cell?_of_block (a := ⟨Bm + 1, 0, none⟩) (hi.g.block (Bm + 1) (by omega) (by intro c; injection c with c; omega))).trans h.c)
  · rw [lG_t (by unfold isG; simpa using hl), gsC_snoc, List.length_append]
    exact hown
  · refine ((hi.b.alloc hi.b.size O).grown hg (by have := hi.b.size; rw [World.size_alloc]; omega) (fun k hk => ?_))
    have := (h.own.lt k hk).1
    omega
theorem AgR.ne {w A : World} {Bm n j : Nat} {Ds : List Nat} {u : Value} (h : AgR w Bm n j Ds u A) : ∀ D ∈ Ds, Value.ownBlock u ≠ some D := fun D hD c => by
  have h3 := (h.ds D hD).2.2
  rcases h.own.2 with ⟨rfl, _⟩ | ⟨g, cap, cur, rfl, a1, a2, _⟩
  · simp [Value.ownBlock] at c
  · simp [Value.ownBlock] at c
    subst c
    rw [a2] at h3
    cases h3
section
variable (w : World)
set_option maxHeartbeats 4000000 in
theorem iag_ok (n : Nat) (hn5 : n ≤ 5) : Calls Tryd.prog 77 #[.int .i64 n] w (RetG w (lG n (eMax n)) 0) := by
  have hE := Lib.hid (fun W => ae_any W n hn5)
  have hV := Lib.hid (fun W => vc_t W n (by omega) (by omega))
  have hmm := @run_makeMap Tryd.prog
  have hem := eMax_le n
  have hem0 : 1 ≤ eMax n := eMax_posG n hn5
  obtain ⟨i0, hi, hz0, hz1, hz2⟩ := info_parts info_graph
  replace hi := Lib.hid hi
  replace hz0 := Lib.hid hz0
  replace hz1 := Lib.hid hz1
  replace hz2 := Lib.hid hz2
  have hsk := Lib.hid (fun (A : World) j Ds u (hj : j < eMax n) (h : AgR w w.heap.size n j Ds u A) => h.skip)
  have hsn := Lib.hid (fun j (hj : j < eMax n) => seenG_iff hn5 hj)
  obtain ⟨M, hM⟩ : ∃ M, eMax n = M := ⟨_, rfl⟩
  have hMe : ((M - 1 : Nat) : Int) + 1 = (M : Int) := by omega
  rw [hM] at hE hem hsk hsn ⊢
  refine (callsIn_wide (n := 5)).1 ?_
  refine callsIn_of_wp_marks Tryd.func77 rfl trivial ?_ rfl
  simp only [Tryd.ntmps77, List.size_toArray, List.length_cons, List.length_nil, Nat.reduceAdd, Nat.reduceSub, Array.replicate_succ, Array.replicate_zero, List.push_toArray, List.append_toArray, List.nil_append, List.cons_append]
  gi_wp2_with (first
    | (refine ⟨trivial, ?_⟩; gi_at_call 87; refine (callsIn_wide.2 (hV.out _)).mono ?_; rintro r3 w3 ⟨rfl, rfl⟩)
    | (refine ⟨trivial, ?_⟩; gi_at_call 88; refine (callsIn_wide.2 (hE.out _)).mono ?_; rintro r4 w4 ⟨rfl, rfl⟩))
  obtain ⟨W1, hW1⟩ : ∃ W1, W1 = (w.alloc (.map #[] 0)).alloc (.cells #[.map (some w.heap.size)] 140) := ⟨_, rfl⟩
  have hR1 : AgR w w.heap.size n 0 [] (.slice none 0 0) W1 := by
    rw [hW1]
    exact ⟨List.nodup_nil, fun D hD => (by cases hD), (GSet.made w n hn5).below ((Below.refl _ _).alloc (Nat.le_refl _) _), by rw [cNew _ _ _ _ _ (by simp)]; rfl, ⟨rfl, .inl ⟨rfl, rfl⟩⟩, by (repeat (first | exact Below.refl _ _ | assumption | refine bchain (by assumption) ?_ | refine balloc ?_ _ | apply Below.drew | apply below_drewN | (refine Below.alloc ?_ (by (try simp) <;> omega) _) | (refine Below.setCell ?_ (by (try simp) <;> omega) _))), by simp⟩
  rw [← hW1]
  clear hW1 hE hV hmm
  refine wpIn_loop (fun a A => ∃ (j : Nat) (Ds : List Nat) (u u6 u7 u8 u9 u10 u19 u20 u21 u22 u23 u24 u25 u26 u27 u28 u29 u30 u31 u32 u33 u34 u35 u36 u37 u38 u39 u40 u41 u42 u43 u44 : Value), a = { tmps := #[.int .i64 n, undef, .slice none 0 0, .int .i64 0, u, .pointer (some ⟨w.heap.size + 1, 0, none⟩), u6, u7, u8, u9, u10, .int .i64 n, .bool true, .bool false, .map (some w.heap.size), .int .i64 n, .int .u32 (M - 1 : Nat), .int .u32 M, .int .u32 j, u19, u20, u21, u22, u23, u24, u25, u26, u27, u28, u29, u30, u31, u32, u33, u34, u35, u36, u37, u38, u39, u40, u41, u42, u43, u44], defers := Ds.map fun D => { target := .collected D, args := #[] } } ∧ j ≤ M ∧ AgR w w.heap.size n j Ds u A)
    (fun a _ => M - (intOf (a.tmps.getD 18 undef)).toNat) ?start ?round
  case start => exact ⟨0, [], _, _, _, _, _, _, _, _, _, _, _, _, _, _, _, _, _, _, _, _, _, _, _, _, _, _, _, _, _, _, _, _, rfl, by omega, hR1⟩
  case round =>
    rintro _ A ⟨j, Ds, u, u6, u7, u8, u9, u10, u19, u20, u21, u22, u23, u24, u25, u26, u27, u28, u29, u30, u31, u32, u33, u34, u35, u36, u37, u38, u39, u40, u41, u42, u43, u44, rfl, hj, hR⟩
    by_cases hlt : j < M
    · have hsnj := hsn.out j hlt
      obtain ⟨A1, hA1⟩ : ∃ A1, A1 = A.alloc (.cells #[.int .i64 (n : Int), .int .u32 (j : Int)] 27) := ⟨_, rfl⟩
      have hBA : Below A.heap.size A A1 := by rw [hA1]; (repeat (first | exact Below.refl _ _ | assumption | refine bchain (by assumption) ?_ | refine balloc ?_ _ | apply Below.drew | apply below_drewN | (refine Below.alloc ?_ (by (try simp) <;> omega) _) | (refine Below.setCell ?_ (by (try simp) <;> omega) _)))
      have hA1z : A1.heap.size = A.heap.size + 1 := by rw [hA1]; simp
      have g0 : A1.cell? ⟨A.heap.size, 0, none⟩ = some (.int .i64 n) := by rw [hA1, cNew _ _ _ _ _ rfl]; rfl
      have g1 : A1.cell? ⟨A.heap.size, 1, none⟩ = some (.int .u32 j) := by rw [hA1, cNew _ _ _ _ _ rfl]; rfl
      have hRA := hR.below hBA
      have c0 := hR.c
      have hzA := hR.z
      have hzA' : w.heap.size + 1 < A.heap.size := by omega
      have c1 := hRA.c
      have hSA := Lib.hid hRA.set
      have hjl : j < 4294967296 := by omega
      have hwz := hR.b.size
      by_cases hle : leastE n j = j
      · have hin : inG (seenG n j) j = false := by
          unfold inG
          exact decide_eq_false (fun c => hsnj.1 c hle)
        have hlG := Lib.hid (fun A2 A3 w5 D O v' (hi : AgI w A2 w.heap.size n (seenG n j ++ (lists n n).map (onL j)) A3) (hR2 : AgR w w.heap.size n j Ds u A2) h1 h2 h3 h4 => AgR.next (w := w) (A2 := A2) (A3 := A3) (w5 := w5) (D := D) (O := O) (v' := v') (Nat.le_refl _) hR2 hi hle h1 h2 h3 h4)
        have hlen := lG_len n j
        clear hR hsnj hR1
        replace hA1 := Lib.hid hA1
        replace hRA := Lib.hid hRA
        gi_wp2_with (first
          | (gi_at_lookup; rw [← hA1.out]; refine wpListIn_graphLook rfl _ _ rfl w.heap.size n (seenG n j) rfl hSA.out j rfl hjl false hin ?_; intro c d)
          | (refine ⟨trivial, ?_⟩; gi_at_call 89; refine (callsIn_wide.2 (oo_any _ n)).mono ?_; rintro r1 A2 ⟨B, rfl, hLo⟩))
        have hLz := hLo.lt
        have hgn := hLo.gn
        have hgk := hLo.gk
        have hlb := hLo.below
        have hb12 : Below A1.heap.size A1 A2 := by (repeat (first | exact Below.refl _ _ | assumption | refine bchain (by assumption) ?_ | refine balloc ?_ _ | apply Below.drew | apply below_drewN | (refine Below.alloc ?_ (by (try simp) <;> omega) _) | (refine Below.setCell ?_ (by (try simp) <;> omega) _)))
        have hR2 := hRA.out.below hb12
        have hz12 := hb12.size
        have q0 := (hb12.cell (p := ⟨A.heap.size, 0, none⟩) (by show A.heap.size < _; omega)).trans g0
        have q1 := (hb12.cell (p := ⟨A.heap.size, 1, none⟩) (by show A.heap.size < _; omega)).trans g1
        have q2 := hR2.c
        have hS2 : GSet A2 w.heap.size n (seenG n j ++ List.map (onL j) []) := by simpa using hR2.set
        have hb2 := hR2.b
        have hAz : A.heap.size < A2.heap.size := by omega
        have hrow2 := Lib.hid (fun A3 S (hi : AgI w A2 w.heap.size n S A3) => hR2.row hi)
        replace hR2 := Lib.hid hR2
        replace hS2 := Lib.hid hS2
        clear hLo hlb hb12 g0 g1 c0 c1 hSA hRA hBA
        refine wpIn_range_own rfl (by omega) (gf := 150) (lb := #[.pointer (some ⟨B, 0, none⟩), .pointer (some ⟨B + 1, 0, none⟩)]) rfl trivial (enters_of Tryd.func150 (by kernel_rfl) rfl)
          (lists_own n n hn5 hn5 4 B (B + 1) A2 (by omega) hLz hgn hgk) (Below.refl _ _) rfl See.below See.cellular
          (fun Own' pre A' => (∀ b, Own' b → A2.heap.size ≤ b) ∧ AgI w A2 w.heap.size n (seenG n j ++ pre.map (onL j)) A')
          (fun _ _ _ _ => trivial)
          (fun Own' _ s A' A'' hs hc => ⟨hs.1, hs.2.chg (by omega) (by omega) hs.1 hc⟩)
          (fun Own' A' ho hA => ⟨ho, AgI.start hS2.out hb2 hA⟩)
          (fun v a' _ => a' = { tmps := #[.int .i64 n, undef, .slice none 0 0, .int .i64 0, u, .pointer (some ⟨w.heap.size + 1, 0, none⟩), .int .u32 j, .pointer (some ⟨A.heap.size, 0, none⟩), .pointer (some ⟨A.heap.size + 1, 0, none⟩), .bool false, v, .int .i64 n, .bool true, .bool false, .map (some w.heap.size), .int .i64 n, .int .u32 (M - 1 : Nat), .int .u32 M, .int .u32 j, .bool true, .int .u32 j, .int .i64 n, .int .u32 j, .agg #[.int .i64 n, .int .u32 j], .tuple #[.agg #[.int .i64 c, .int .u32 d], .bool false], .map (some w.heap.size), .agg #[.int .i64 n, .int .u32 j], .tuple #[.agg #[.int .i64 c, .int .u32 d], .bool false], .agg #[.int .i64 c, .int .u32 d], .bool false, .bool false, .int .i64 n, .func (.func 150) #[] #[.pointer (some ⟨B, 0, none⟩), .pointer (some ⟨B + 1, 0, none⟩)], v, u34, u35, u36, u37, u38, u39, u40, u41, u42, u43, u44], defers := [] })
          (fun _ _ _ _ _ _ h _ _ => h) ?assign ?body ?done
        case assign =>
          intro l' x v A' K hv hK
          gi_wp2
          exact hK _ _ (Below.refl _ _) rfl
        case body =>
          rintro l' Own' pre x rest v a' A' ho hL ⟨hoo, hi'⟩ hSv rfl
          have hok := lists_ok hn5 hn5 (x := x) (by rw [hL]; simp)
          have hOn := Lib.hid (ionL_any A'.drew v x n n j hSv hn5 hjl hok)
          have hzl := onL_lt j x (by rw [ok_length hok]; exact hn5)
          have hmap : seenG n j ++ pre.map (onL j) ++ [onL j x] = seenG n j ++ (pre ++ [x]).map (onL j) := by simp
          obtain ⟨z, hz⟩ : ∃ z, onL j x = z := ⟨_, rfl⟩
          rw [hz] at hOn hzl hmap
          have hput := Lib.hid (fun w3 (hb : Below A'.drew.heap.size A'.drew w3) => (hi'.set.below ((Below.refl _ A').drew.trans hb)).store z (by omega) n j)
          have hA2' := hi'.g.size
          have e0 := (World.cell?_of_block (a := ⟨A.heap.size, 0, none⟩) (hi'.g.block A.heap.size hAz (by intro c; injection c with c; omega))).trans q0
          have e1 := (World.cell?_of_block (a := ⟨A.heap.size, 1, none⟩) (hi'.g.block A.heap.size hAz (by intro c; injection c with c; omega))).trans q1
          have e2 := (World.cell?_of_block (a := ⟨w.heap.size + 1, 0, none⟩) (hi'.g.block (w.heap.size + 1) (by omega) (by intro c; injection c with c; omega))).trans q2
          have hfin := Lib.hid (fun (w3 w4 : World) (a4 : Act) (hb : Below A'.drew.heap.size A'.drew w3) (hg : w3.grownBy w4 (some w.heap.size)) (hS4 : GSet w4 w.heap.size n (seenG n j ++ pre.map (onL j) ++ [z])) =>
            (show ownPost Own' (fun pre A' => (∀ b, Own' b → A2.heap.size ≤ b) ∧ AgI w A2 w.heap.size n (seenG n j ++ pre.map (onL j)) A') (pre ++ [x]) A' .normal a4 w4 from
              have hb' : Below A'.heap.size A' w3 := (Below.refl _ A').drew.trans hb
              ⟨Nat.le_trans hb'.size hg.size, fun b hb2 => (hg.block b (Nat.lt_of_lt_of_le (ho b hb2).2 hb'.size) (by intro c; injection c with c; have := hoo b hb2; omega)).trans (hb'.block b (ho b hb2).2), hoo, hi'.put (Nat.le_refl _) hb' hg (by rw [← hmap]; exact hS4)⟩))
          have hzA3 : A.heap.size < A'.drew.heap.size := by show A.heap.size < A'.heap.size; omega
          have hzw3 : w.heap.size + 1 < A'.drew.heap.size := by show w.heap.size + 1 < A'.heap.size; omega
          clear hi' hL hok hmap hz hSv
          clear hem0 hM hMe hem hlt hjl hwz hzA hzA' hle hin hlen hLz hgn hgk hz12 q0 q1 q2 hb2 hAz ho hoo hzl hA2' hA1z hj hn5 hi hz0 hz1 hz2 hsk hsn hlG hR2 hS2 hrow2
          have hput' := Lib.hid (fun w3 (hb : Below A'.drew.heap.size A'.drew w3) =>
            (show ∃ w4, (Instr.mapUpdate 140 (.map (some w.heap.size)) (.agg #[.int .i64 n, .int .u32 z]) (.agg #[.int .i64 n, .int .u32 j])).run Tryd.prog w3 = .ok () w4 ∧ (∃ w3, Below A'.drew.heap.size A'.drew w3 ∧ GSet w4 w.heap.size n (seenG n j ++ pre.map (onL j) ++ [z]) ∧ w3.grownBy w4 (some w.heap.size)) from by
              obtain ⟨w4, h1, h2, h3⟩ := hput.out w3 hb
              exact ⟨w4, h1, w3, hb, h2, h3⟩))
          have hQ := Lib.hid (fun a4 w4 (h : ∃ w3, Below A'.drew.heap.size A'.drew w3 ∧ GSet w4 w.heap.size n (seenG n j ++ pre.map (onL j) ++ [z]) ∧ w3.grownBy w4 (some w.heap.size)) => by
            obtain ⟨w3, h1, h2, h3⟩ := h
            exact hfin.out w3 w4 a4 h1 h3 h2)
          clear hput hfin
          gi_wp2
          exact ag_body l' _ n j z (w.heap.size + 1) A.heap.size w.heap.size v A' _ _ _ _ _ _ _ _ _ _ _ _ _ _ _ _ _ _ _ _ _ _ _ _ _ _ _ _ _ _ _ _ _ _ _ _ _ _ _ _ _ _ _ _ hOn hput' e0 e1 e2 hQ
        case done =>
          rintro D Own' A3 hD ⟨hoo, hi3⟩ hK hOD
          have hrow := Lib.hid (hrow2.out A3 _ hi3)
          have hz3 := hi3.g.size
          have e0 := (World.cell?_of_block (a := ⟨A.heap.size, 0, none⟩) (hi3.g.block A.heap.size hAz (by intro c; injection c with c; omega))).trans q0
          have e1 := (World.cell?_of_block (a := ⟨A.heap.size, 1, none⟩) (hi3.g.block A.heap.size hAz (by intro c; injection c with c; omega))).trans q1
          have hnxt := Lib.hid (fun O w5 v' h1 h2 => hlG.out A2 A3 w5 D O v' hi3 hR2.out hD hK h1 h2)
          clear hi3 hK hoo
          gi_wp2_with (gi_at_builtin; refine wpListIn_append_own _ rfl _ _ 84 rfl (w.heap.size + 2) 27 i0 (.agg #[.int .i64 0, .int .u32 0]) 2 16 Tryd.underlying84 hi.out hz0.out hz1.out hz2.out rfl (by decide) _ _ _ rfl (hrow.out.alloc _) ⟨A3.heap.size, 0, none⟩ 1 1 [.int .i64 n, .int .u32 j] rfl rfl (fun q u hq => by match q, hq with
            | 0, hq => simp at hq; subst hq; rw [show (⟨A3.heap.size, 0, none⟩ : Addr).add 0 = ⟨A3.heap.size, 0, none⟩ from rfl, World.cell?_alloc_new]; rfl
            | 1, hq => simp at hq; subst hq; rw [show (⟨A3.heap.size, 0, none⟩ : Addr).add 1 = ⟨A3.heap.size, 1, none⟩ from rfl, World.cell?_alloc_new]; rfl
            | q + 2, hq => simp at hq) (fun u hu => by simp at hu; rcases hu with rfl | rfl <;> rfl) (by unfold maxLen; omega) (by omega) (by simp; omega) ?_; intro v' w5 hown' hgrow _)
          have hR5 := Lib.hid (hnxt.out _ w5 v' hown' hgrow)
          clear hown' hgrow
          refine ⟨⟨j + 1, D :: Ds, v', _, _, _, _, _, _, _, _, _, _, _, _, _, _, _, _, _, _, _, _, _, _, _, _, _, _, _, _, _, _, _, rfl, by omega, hR5.out⟩, ?_⟩
          simp [intOf]
          omega
      · have hin : inG (seenG n j) j = true := by
          unfold inG
          exact decide_eq_true (hsnj.2 hle)
        have hnx := Lib.hid (fun (A' : World) (hb : Below A1.heap.size A1 A') => (hRA.below hb).skip hle)
        clear hR hRA hsnj hR1
        replace hA1 := Lib.hid hA1
        gi_wp2_with (gi_at_lookup; rw [← hA1.out]; refine wpListIn_graphLook rfl _ _ rfl w.heap.size n (seenG n j) rfl hSA.out j rfl hjl true hin ?_; intro c d)
        refine ⟨⟨j + 1, Ds, u, _, _, _, _, _, _, _, _, _, _, _, _, _, _, _, _, _, _, _, _, _, _, _, _, _, _, _, _, _, _, _, rfl, by omega, hnx.out _ (by (repeat (first | exact Below.refl _ _ | assumption | refine bchain (by assumption) ?_ | refine balloc ?_ _ | apply Below.drew | apply below_drewN | (refine Below.alloc ?_ (by (try simp) <;> omega) _) | (refine Below.setCell ?_ (by (try simp) <;> omega) _))))⟩, ?_⟩
        simp [intOf]
        omega
    · obtain rfl : j = M := by omega
      have hdd := decide_eq_false (show ¬ ((j : Int) < (j : Int)) by omega)
      have hne := hR.ne
      have hdd2 : ∀ D ∈ Ds, A.heap[D]? = some (.deferred (some [])) := fun D hD => (hR.ds D hD).2.2
      have hge : ∀ D ∈ Ds, w.heap.size ≤ D := fun D hD => (hR.ds D hD).1
      have hnd := hR.nd
      have hT : A.ownsRow (w.heap.size + 2) 27 2 u (lG n j).length (gsC (lG n j)) ∧ Below w.heap.size w A := ⟨hR.own, hR.b⟩
      clear hR hR1
      replace hT := Lib.hid hT
      replace hne := Lib.hid hne
      replace hdd2 := Lib.hid hdd2
      replace hge := Lib.hid hge
      gi_wp2
      exact leaves_marks (fun A => A.ownsRow (w.heap.size + 2) 27 2 u (lG n j).length (gsC (lG n j)) ∧ Below w.heap.size w A)
        (fun A' hA' => ⟨.tuple #[u, .int .i64 0], by simp [results, Tryd.results77, go_sem], ⟨u, rfl, ownG_of_row hA'.1 (by omega)⟩, hA'.2⟩) Ds A hnd hdd2.out
        (fun D hD A' hA' => ⟨hA'.1.kept (grownBy_putObj' _ D (.deferred none)) (.inr (hne.out D hD)), hA'.2.trans (below_putObj _ _ _ (hge.out D hD))⟩) hT.out
end
end Go.Proofs.YtepbekhlpbnpkaaDoor
/-
  ALL LEAST GRAPHS WITH SO MANY VERTICES: the model's contract.
-/
namespace Go.Proofs.YtepbekhlpbnpkaaDoor
open Go.RowKit Go.Shelf
set_option maxRecDepth 100000

theorem minE_ge {e : Nat} : ∀ {l : List (List Nat)}, (∀ x ∈ l, ¬ onL e x < e) → minE e l = e := by
  intro l
  unfold minE
  induction l with
  | nil => intro _; rfl
  | cons x l ih =>
    intro h
    rw [List.foldl_cons, Nat.min_eq_left (by have := h x (by simp); omega)]
    exact ih (fun y hy => h y (by simp [hy]))
theorem minE_lt {e : Nat} {l : List (List Nat)} {x : List Nat} (hx : x ∈ l) (h : onL e x < e) : minE e l ≠ e := by
  have hle : ∀ (l : List (List Nat)) (b : Nat), l.foldl (fun b x => min b (onL e x)) b ≤ b ∧ ∀ x ∈ l, l.foldl (fun b x => min b (onL e x)) b ≤ onL e x := by
    intro l
    induction l with
    | nil => intro b; exact ⟨Nat.le_refl _, fun x hx => (by cases hx)⟩
    | cons y l ih =>
      intro b
      obtain ⟨h1, h2⟩ := ih (min b (onL e y))
      refine ⟨Nat.le_trans h1 (Nat.min_le_left _ _), fun x hx => ?_⟩
      rcases List.mem_cons.1 hx with rfl | hx
      · exact Nat.le_trans h1 (Nat.min_le_right _ _)
      · exact h2 x hx
  have := (hle l e).2 x hx
  unfold minE
  omega
/-- what stands beside the walk over the orders -/
structure SiT (w : World) (G n e : Nat) (pre : List (List Nat)) (W : World) : Prop where
  c0 : W.cell? ⟨G, 0, none⟩ = some (.int .i64 n)
  c1 : W.cell? ⟨G, 1, none⟩ = some (.int .u32 e)
  all : ∀ x ∈ pre, ¬ onL e x < e
  b : Below G w W
  z : G < W.heap.size
theorem SiT.under {w W W' : World} {G n e c : Nat} {pre : List (List Nat)} (h : SiT w G n e pre W) (hb : Below c W W') (hc : G < c) : SiT w G n e pre W' :=
  ⟨(hb.cell (p := ⟨G, 0, none⟩) hc).trans h.c0, (hb.cell (p := ⟨G, 1, none⟩) hc).trans h.c1, h.all, h.b.trans (hb.mono (by omega)), Nat.lt_of_lt_of_le h.z hb.size⟩
set_option maxHeartbeats 4000000 in
theorem sil_any (w : World) (n e : Nat) (h : VG n e) :
    Calls Tryd.prog 125 #[.agg #[.int .i64 n, .int .u32 e]] w fun r w' => r = .returned (.bool (isG n e)) ∧ Below w.heap.size w w' := by
  have he : e < 4294967296 := by have := h.2.2.2; have := eMax_le n; simp at *; omega
  have hn5 : n ≤ 5 := by have := h.2.1; omega
  go_enter Tryd.func125, Tryd.ntmps125
  go_wp2_with fail
  refine (first_any _ n hn5).mono ?_
  rintro r1 w1 ⟨⟨v, rfl, hO⟩, hb1⟩
  have hB0 : Below w.heap.size w (w.alloc (.cells #[.int .i64 (n : Int), .int .u32 (e : Int)] 27)) := by (repeat (first | exact Below.refl _ _ | assumption | refine bchain (by assumption) ?_ | refine balloc ?_ _ | apply Below.drew | apply below_drewN | (refine Below.alloc ?_ (by (try simp) <;> omega) _) | (refine Below.setCell ?_ (by (try simp) <;> omega) _)))
  obtain ⟨G, hG⟩ : ∃ G, w.heap.size = G := ⟨_, rfl⟩
  obtain ⟨w0, hw0⟩ : ∃ w0, w0 = w.alloc (.cells #[.int .i64 (n : Int), .int .u32 (e : Int)] 27) := ⟨_, rfl⟩
  have c0 : w0.cell? ⟨G, 0, none⟩ = some (.int .i64 n) := by rw [hw0, ← hG, cNew _ _ _ _ _ rfl]; rfl
  have c1 : w0.cell? ⟨G, 1, none⟩ = some (.int .u32 e) := by rw [hw0, ← hG, cNew _ _ _ _ _ rfl]; rfl
  have hGz : G < w0.heap.size := by rw [hw0, ← hG]; simp
  rw [← hw0] at hO hb1 hB0
  have hB1 := Lib.hid (hB0.trans (hb1.mono (by omega)))
  have hz1 := hb1.size
  have d0 := (hb1.cell (p := ⟨G, 0, none⟩) hGz).trans c0
  have d1 := (hb1.cell (p := ⟨G, 1, none⟩) hGz).trans c1
  replace hO := Lib.hid (hO.congr (fun i hi => lf_range n i hi))
  rw [hG] at hB0 hB1 ⊢
  clear hw0 hb1 c0 c1
  replace hG := Lib.hid hG
  go_wp2_with fail
  have hT0 : Hid (SiT w G n e [] w1) := ⟨d0, d1, fun x hx => (by cases hx), hB1.out, by omega⟩
  clear d0 d1
  go_loopg [4] ((lists n n).length) (fun c s wr => SlHead w0 v n n (SiT w G n e) c s wr)
  case atStart =>
    have hf := lists_first n hn5 n (Nat.le_refl _)
    exact .inl ⟨0, _, (List.getElem?_eq_some_iff.1 hf).1, by omega, rfl, hf, hO.out, hT0.out⟩
  case round =>
    rcases hrel with ⟨j, x, hj, hc, rfl, hx, hOx, hT⟩ | ⟨hc, rfl, hT⟩
    · have hok := lists_ok hn5 hn5 (x := x) (List.mem_of_getElem? hx)
      have hst := lists_step hn5 (Nat.le_refl _) hj hx
      have hOn := Lib.hid (fun W (hb : Below wr.heap.size wr W) => sonL_any W v x n n e ((hOx.below hb).see (ok_length hok)) hn5 he hok)
      have hmem : x ∈ lists n n := List.mem_of_getElem? hx
      have hfd : ∀ (W : World) (y : Nat), (Instr.field 27 (.agg #[.int .i64 (n : Int), .int .u32 (y : Int)]) 1).run Tryd.prog W = .ok (.int .u32 (y : Int)) W := fun _ _ => by kernel_rfl
      have q0 := hT.c0
      have q1 := hT.c1
      have qz := hT.z
      have htk : (lists n n).take (j + 1) = (lists n n).take j ++ [x] := take_snoc' hx
      have hend : ∀ (e4 : Ending) (W w4 : World), NextAt n n w0 v x W e4 w4 → ¬ onL e x < e → SiT w G n e ((lists n n).take j) W →
          ∃ ok : Bool, e4 = .returned (.bool ok) ∧ Hid (∃ c', c' < gk ∧ SlHead w0 v n n (SiT w G n e) c' (.bool ok) w4) := fun e4 W w4 hN hnl hW => by
        have hW2 : SiT w G n e ((lists n n).take (j + 1)) W := ⟨hW.c0, hW.c1, fun y hy => by
          rw [htk] at hy
          rcases List.mem_append.1 hy with hy | hy
          · exact hW.all y hy
          · simp at hy; subst hy; exact hnl, hW.b, hW.z⟩
        rcases hN with ⟨x', hy, he4, hyk, hOy, hbN⟩ | ⟨hy, he4, hbN⟩
        · rw [hst] at hy
          have hj1 := (List.getElem?_eq_some_iff.1 hy).1
          exact ⟨true, he4, (lists n n).length - (j + 1), by omega, .inl ⟨j + 1, x', hj1, rfl, rfl, hy, hOy, hW2.under hbN hGz⟩⟩
        · rw [hst] at hy
          have hj1 : (lists n n).length ≤ j + 1 := by simpa using hy
          rw [List.take_of_length_le hj1] at hW2
          exact ⟨false, he4, 0, by omega, .inr ⟨rfl, rfl, hW2.under hbN hGz⟩⟩
      have hno : onL e x < e → isG n e = false := fun h => by have h9 := minE_lt hmem h; unfold isG leastE; simpa using h9
      obtain ⟨y, hy⟩ : ∃ y, onL e x = y := ⟨_, rfl⟩
      rw [hy] at hOn hend hno
      replace hend := Lib.hid hend
      replace hOx := Lib.hid hOx
      replace hT := Lib.hid hT
      have hfdy := fun W => hfd W y
      clear hy hx hst hc hmem htk hfd hT0 hO
      go_wp2_with fail
      go_region_held3 (fun A => A.cell? ⟨G, 0, none⟩ = some (.int .i64 n) ∧ A.cell? ⟨G, 1, none⟩ = some (.int .u32 e))
        (exact ⟨old_cell qz q0 (by (repeat (first | exact Below.refl _ _ | assumption | refine bchain (by assumption) ?_ | refine balloc ?_ _ | apply Below.drew | apply below_drewN | (refine Below.alloc ?_ (by (try simp) <;> omega) _) | (refine Below.setCell ?_ (by (try simp) <;> omega) _)))), old_cell qz q1 (by (repeat (first | exact Below.refl _ _ | assumption | refine bchain (by assumption) ?_ | refine balloc ?_ _ | apply Below.drew | apply below_drewN | (refine Below.alloc ?_ (by (try simp) <;> omega) _) | (refine Below.setCell ?_ (by (try simp) <;> omega) _))))⟩)
        (first
        | (go_at_call 42; refine (hOn.out _ (by (repeat (first | exact Below.refl _ _ | assumption | refine bchain (by assumption) ?_ | refine balloc ?_ _ | apply Below.drew | apply below_drewN | (refine Below.alloc ?_ (by (try simp) <;> omega) _) | (refine Below.setCell ?_ (by (try simp) <;> omega) _))))).mono ?_; rintro r3 w3 ⟨rfl, hb3⟩))
      have hb33 : Below wr.heap.size wr w3 := by (repeat (first | exact Below.refl _ _ | assumption | refine bchain (by assumption) ?_ | refine balloc ?_ _ | apply Below.drew | apply below_drewN | (refine Below.alloc ?_ (by (try simp) <;> omega) _) | (refine Below.setCell ?_ (by (try simp) <;> omega) _)))
      have hTw := Lib.hid (hT.out.under hb33 qz)
      have hOw := Lib.hid (hOx.out.below hb33)
      obtain ⟨r0, r1, _, rB, rz⟩ := id hTw.out
      by_cases hlt : y < e
      · have hd : decide ((y : Int) < (e : Int)) = true := by simpa using hlt
        have hres := hno hlt
        go_wp2
        go_ret
        exact ⟨by rw [hres]; rfl, by rw [hG.out]; exact rB⟩
      · have hd : decide ((y : Int) < (e : Int)) = false := by simpa using hlt
        go_wp2_with fail
        refine (next_any _ w0 v n n x hOw.out hn5 hn5 hok).mono ?_
        rintro r4 w4 hN
        obtain ⟨ok, rfl, hE⟩ := hend.out r4 _ w4 hN hlt hTw.out
        clear hN
        go_wp2
        obtain ⟨c', hc1, hc2⟩ := hE.out
        go_roundg c'
        case measure => exact hc1
        case rel => exact hc2
    · have hres : isG n e = true := by unfold isG leastE; rw [minE_ge hT.all]; simp
      have hB2 := hT.b
      clear hT
      go_wp2
      go_ret
      exact ⟨by rw [hres]; rfl, by rw [hG.out]; exact hB2⟩
section
variable (w : World)
set_option maxHeartbeats 2000000 in
theorem sall_any (k : Nat) (hk : k ≤ 5) :
    Calls Tryd.prog 76 #[.int .i64 k] w fun r w' => (∃ u, r = .returned u ∧ OwnG w w' u (lG k (eMax k))) ∧ Below w.heap.size w w' := by
  have hFr := Lib.hid (fun W (e : Nat) (he : e < eMax k) => sil_any W k e ⟨by omega, by omega, by omega, by simpa using he⟩)
  have hsh := shl_pc k (by omega)
  have hsh2 : wrap64 ((2 : Int) ^ pc k) = (eMax k : Int) := by
    have hc : k = 0 ∨ k = 1 ∨ k = 2 ∨ k = 3 ∨ k = 4 ∨ k = 5 := by omega
    rcases hc with rfl | rfl | rfl | rfl | rfl | rfl <;> first | rfl | decide +kernel
  have hpc := pc_le k
  have hle := eMax_le k
  obtain ⟨M, hM⟩ : ∃ M, eMax k = M := ⟨_, rfl⟩
  rw [hM] at hsh hsh2 hFr hle ⊢
  have hlen : ∀ m, (lG k m).length ≤ m := lG_len k
  replace hlen := Lib.hid hlen
  obtain ⟨i0, hi, hz0, hz1, hz2⟩ := info_parts info_graph
  replace hi := Lib.hid hi
  replace hz0 := Lib.hid hz0
  replace hz1 := Lib.hid hz1
  replace hz2 := Lib.hid hz2
  have hpk := Lib.hid (fun W => bits_any W k (by omega))
  have hft := Lib.hid (fun m => lG_t (n := k) (m := m))
  have hff := Lib.hid (fun m => lG_f (n := k) (m := m))
  obtain ⟨q, hq⟩ : ∃ q, pc k = q := ⟨_, rfl⟩
  rw [hq] at hsh hsh2 hpc hpk
  clear hq hM
  go_enter Tryd.func76, Tryd.ntmps76
  go_wp2_with fail
  have hown0 : Hid ((w.alloc (.cells #[] 27)).ownsRow w.heap.size 27 2 (.slice (some ⟨w.heap.size, 0, none⟩) 0 0) (lG k 0).length (gsC (lG k 0))) := World.ownsRow_made w #[] 0 (Nat.le_refl _) (by omega) rfl
  have hB1 : Below w.heap.size w (w.alloc (.cells #[] 27)) := by (repeat (first | exact Below.refl _ _ | assumption | refine bchain (by assumption) ?_ | refine balloc ?_ _ | apply Below.drew | apply below_drewN | (refine Below.alloc ?_ (by (try simp) <;> omega) _) | (refine Below.setCell ?_ (by (try simp) <;> omega) _)))

  go_loopw [3, 4, 5] (fun u i _ wr => ∃ j : Nat, j ≤ M ∧ i = .int .i64 j ∧ Hid (wr.ownsRow w.heap.size 27 2 u (lG k j).length (gsC (lG k j))) ∧ Below w.heap.size w wr) (fun _ i _ _ => M - (intOf i).toNat)
  case atStart => exact ⟨0, by omega, rfl, hown0, hB1⟩
  case round =>
    clear hown0 hB1
    obtain ⟨j, hj, rfl, hown, hB⟩ := hrel
    have hsz := hB.size
    by_cases hlt : j < M
    · have hC := Lib.hid (fun W => hFr.out W j hlt)
      have hbd : ∀ W : World, (Instr.build 27 #[(0, .int .i64 (k : Int)), (1, .int .u32 (j : Int))]).run Tryd.prog W = .ok (.agg #[.int .i64 (k : Int), .int .u32 (j : Int)]) W := fun W => run_build W 27 _ _ (by kernel_rfl)
      have hjl := hlen.out j
      cases hbb : isG k j
      · rw [hbb] at hC
        have hnx := Lib.hid (hff.out j hbb)
        clear hbb
        go_wp2_with (first
          | (go_at_call 82; refine (hpk.out _).mono ?_; rintro r3 w3 ⟨rfl, rfl⟩)
          | (go_at_call 125; refine (hC.out _).mono ?_; rintro r4 w4 ⟨rfl, hb4⟩))
        have hb34 : Below wr.heap.size wr w4 := by (repeat (first | exact Below.refl _ _ | assumption | refine bchain (by assumption) ?_ | refine balloc ?_ _ | apply Below.drew | apply below_drewN | (refine Below.alloc ?_ (by (try simp) <;> omega) _) | (refine Below.setCell ?_ (by (try simp) <;> omega) _)))
        have hown4 := hown.out.kept (row := none) (w' := w4) ⟨hb34.os, hb34.tape, hb34.output, hb34.size, fun k hk _ => hb34.block k hk⟩ (by cases (Value.ownBlock _) <;> simp)
        rw [← hnx.out] at hown4
        replace hown4 := Lib.hid hown4
        have hz4 := hb34.size
        clear hown
        go_roundw
        case rel => exact ⟨j + 1, by omega, by go_num, hown4, by (repeat (first | exact Below.refl _ _ | assumption | refine bchain (by assumption) ?_ | refine balloc ?_ _ | apply Below.drew | apply below_drewN | (refine Below.alloc ?_ (by (try simp) <;> omega) _) | (refine Below.setCell ?_ (by (try simp) <;> omega) _)))⟩
        case measure => simp [intOf]; omega
      · rw [hbb] at hC
        have hnx := Lib.hid (hft.out j hbb)
        clear hbb
        go_wp2_with (first
          | (go_at_call 82; refine (hpk.out _).mono ?_; rintro r3 w3 ⟨rfl, rfl⟩)
          | (go_at_call 125; refine (hC.out _).mono ?_; rintro r4 w4 ⟨rfl, hb4⟩; have hb34 : Below wr.heap.size wr w4 := (by (repeat (first | exact Below.refl _ _ | assumption | refine bchain (by assumption) ?_ | refine balloc ?_ _ | apply Below.drew | apply below_drewN | (refine Below.alloc ?_ (by (try simp) <;> omega) _) | (refine Below.setCell ?_ (by (try simp) <;> omega) _)))); have hownk := Lib.hid (hown.out.kept (row := none) (w' := w4) ⟨hb34.os, hb34.tape, hb34.output, hb34.size, fun k hk _ => hb34.block k hk⟩ (by cases (Value.ownBlock _) <;> simp)); have hz4 := hb34.size; have hc4 := (show w4.cell? ⟨wr.heap.size, 0, none⟩ = some (.int .i64 (k : Int)) from (hb4.cell (p := ⟨wr.heap.size, 0, none⟩) (by simp)).trans (by rw [cNew _ _ _ _ _ rfl]; rfl)); have hc5 := (show w4.cell? ⟨wr.heap.size, 1, none⟩ = some (.int .u32 (j : Int)) from (hb4.cell (p := ⟨wr.heap.size, 1, none⟩) (by simp)).trans (by rw [cNew _ _ _ _ _ rfl]; rfl)))
          | (at_builtin; refine wpList_append_own _ rfl _ _ 84 rfl w.heap.size 27 i0 (.agg #[.int .i64 0, .int .u32 0]) 2 16 Tryd.underlying84 hi.out hz0.out hz1.out hz2.out rfl (by decide) _ _ _ rfl (hownk.out.alloc _) ⟨w4.heap.size, 0, none⟩ 1 1 [.int .i64 k, .int .u32 j] rfl rfl (fun q u hq => by match q, hq with
              | 0, hq => simp at hq; subst hq; rw [show (⟨w4.heap.size, 0, none⟩ : Addr).add 0 = ⟨w4.heap.size, 0, none⟩ from rfl, World.cell?_alloc_new]; rfl
              | 1, hq => simp at hq; subst hq; rw [show (⟨w4.heap.size, 0, none⟩ : Addr).add 1 = ⟨w4.heap.size, 1, none⟩ from rfl, World.cell?_alloc_new]; rfl
              | q + 2, hq => simp at hq) (fun u hu => by simp at hu; rcases hu with rfl | rfl <;> rfl) (by unfold maxLen; omega) (by omega) (by simp; omega) ?_; intro v' w5 hown' hgrow _))
        have hB5 : Below w.heap.size w w5 := (balloc (hB.trans (hb34.mono hsz)) _).grown hgrow (by simp; omega) (fun k hk => by have := (hownk.out.lt k hk).1; omega)
        have hown5 : Hid (w5.ownsRow w.heap.size 27 2 v' (lG k (j + 1)).length (gsC (lG k (j + 1)))) := by
          show World.ownsRow _ _ _ _ _ _ _
          rw [hnx.out, gsC_snoc, List.length_append]
          exact hown'
        clear hown' hgrow hownk hown
        go_roundw
        case rel => exact ⟨j + 1, by omega, by go_num, hown5, hB5⟩
        case measure => simp [intOf]; omega
    · obtain rfl : j = M := by omega
      have hdd := decide_eq_false (show ¬ ((j : Int) < (j : Int)) by omega)
      have hO := Lib.hid (ownG_of_row (w0 := w) hown.out (Nat.le_refl _))
      clear hown
      go_wp2_with (go_at_call 82; refine (hpk.out _).mono ?_; rintro r3 w3 ⟨rfl, rfl⟩)
      go_ret
      exact ⟨⟨_, rfl, hO.out⟩, hB⟩
theorem iag_rng (k : Int) (hk : k < 0 ∨ 5 < k) : Calls Tryd.prog 77 #[.int .i64 k] w (RetG w [] 2) := by
  have hV := Lib.hid (fun W => vc_f W k (by omega))
  clear hk
  go_enter Tryd.func77, Tryd.ntmps77
  go_wp2_with (go_at_call 87; refine (hV.out _).mono ?_; rintro r2 w2 ⟨rfl, rfl⟩)
  go_ret2
  exact ⟨⟨_, rfl, ownG_zero _ _ _⟩, by (repeat (first | exact Below.refl _ _ | assumption | refine bchain (by assumption) ?_ | refine balloc ?_ _ | apply Below.drew | apply below_drewN | (refine Below.alloc ?_ (by (try simp) <;> omega) _) | (refine Below.setCell ?_ (by (try simp) <;> omega) _)))⟩
end
end Go.Proofs.YtepbekhlpbnpkaaDoor
