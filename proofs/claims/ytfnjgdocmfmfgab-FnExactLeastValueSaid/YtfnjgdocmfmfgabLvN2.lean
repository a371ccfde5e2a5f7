/-
  Frame, Open, OpenGs, KOpen, Ts, OpenTs, Gto, TMk, Town, STown, STzero, KSmall, STone, STfits, STsame, STvalid, STvalidS, STv, STco, STcoS, in one text.
-/
import Derived.ProofKit
import Derived.Carry
import Derived.SizedLaws
import Derived.JoinedOf
import Derived.Test.YtfnjgdocmfmfgabRows
import Derived.Lib.SmallJoins
import Derived.OpenShut
import Derived.Test.YtfnjgdocmfmfgabFree
import Derived.Deep.SlicePairs
import Derived.Test.YtfnjgdocmfmfgabKVal
import Derived.Deep.OwnRows
import Derived.Lib.Hide
import Derived.StillTailTactics
import Derived.Deep.Strs
import Derived.Test.YtfnjgdocmfmfgabGown
import Derived.Test.YtfnjgdocmfmfgabSv
import Derived.Test.YtfnjgdocmfmfgabKOwn
import Derived.Deep.DeepCutAuto
import Derived.Test.YtfnjgdocmfmfgabPlain
import Derived.Test.YtfnjgdocmfmfgabSLeast
import Derived.Test.YtfnjgdocmfmfgabKLeast
import Derived.Test.YtfnjgdocmfmfgabKSLeast
import Derived.Deep.RegionHeld3
import Derived.Test.YtfnjgdocmfmfgabKEq
import Derived.Test.YtfnjgdocmfmfgabBw
import Derived.BigQuiet
import Derived.Test.YtfnjgdocmfmfgabFrVf
/-
  THE FRAME OF A LAW'S ROW, ONCE: what a law over no listed variable owes beside its walk. Over any checked program. Condition of use: the law's only result is one bool, the specification answers true and hands its arguments back, the row names no variable and bears no condition.
-/
namespace Go.Proofs.Ytfnjgdocmfmfgab
open Go.ChangeShapes Go.WideShapes Go.ChangeAt Go.RowKit

section
variable {H : Type} {enc : TypeId × Value → H}

/-- all arguments read in the new world as they did -/
theorem fr_trodAll {P : Program} (hl : laidOutB P = true) {W W' : World} (hb : Below W.heap.size W W') :
    ∀ (ts : List TypeId) (vs : List Value) (ds : List (DataW H)) (ps : List MemPlace), (ts.all fun t => P.readableRec t && decide (t < P.types.size)) = true →
      DataW.TrodAll enc P W 0 (fun _ => true) true ts vs ds ps → (∀ x ∈ ps, x.block < W.heap.size) →
      DataW.TrodAll enc P W' 0 (fun b => decide (b < W.heap.size)) true ts vs ds ps
  | [], [], [], _, _, h, _ => h
  | [], [], _ :: _, _, _, h, _ => h.elim
  | [], _ :: _, _, _, _, h, _ => h.elim
  | _ :: _, [], _, _, _, h, _ => h.elim
  | _ :: _, _ :: _, [], _, _, h, _ => h.elim
  | t :: ts, v :: vs, d :: ds, ps, ht, h, hlt => by
    obtain ⟨p, q, h1, h2, rfl⟩ := h
    simp only [List.all_cons, Bool.and_eq_true, decide_eq_true_eq] at ht
    exact ⟨p, q, Below.trod hl ht.1.1 ht.1.2 h1 hb (fun x hx => hlt x (List.mem_append_left _ hx)), fr_trodAll hl hb ts vs ds q ht.2 h2 (fun x hx => hlt x (List.mem_append_right _ hx)), rfl⟩

/-- the step from a law's walk to the row -/
theorem fr_lift {C : Checked} {os : Os} {f : FuncId} {fn : Func} {s : ChangeSpec} {tb : TypeId}
    (own : ownKnob C.prog.godebug = none) (started : os.Started) (noInit : C.prog.inits.idxOf? f = none) (hfn : C.prog.funcs[f]? = some fn)
    (hl : laidOutB C.prog = true) (hv : s.vars = []) (hp : (fn.params.toList.all fun t => C.prog.readableRec t && decide (t < C.prog.types.size)) = true)
    (hr : fn.resultTypes = #[tb]) (hb : C.prog.underlying tb = some .bool)
    (hs : ∀ ds : List (DataW H), ds.length = fn.params.size → s.fn H (ds ++ []) = { results := [.lit (.bool true)], args := ds })
    (witness : ∃ (w : World) (tape : Tape) (i : Input), w.os = os ∧ (w.forCall tape i).Shaped C.prog ∧ i.vars = [] ∧ Input.okWide C.prog (w.forCall tape i) .any w.heap.size f i ∧
      s.pre6 enc C.prog fn [] false (w.forCall tape i).memory i.args ∧ ({} : Assume).holds C.prog (lone (Frame.enter C.prog f i.args .normal) [] (w.forCall tape i)))
    (walk : ∀ (W : World) (base : Nat) (args : Array Value) (ds : List (DataW H)) (p : List MemPlace),
      (∀ (j : Nat) t v, fn.params[j]? = some t → args[j]? = some v → Value.okWide C.prog W .any base t v) →
      DataW.TrodAll enc C.prog W 0 (fun _ => true) true fn.params.toList args.toList ds p → (∀ x ∈ p, x.block < W.heap.size) →
      (DataW.weightsEach C.prog fn.params.toList ds).all (· ≤ reachBytes) = true →
      Calls C.prog f args W fun e W' => e = .returned (.bool true) ∧ Below W.heap.size W W') :
    ReturnsInHanded {} C os f .any (s.pre6 enc C.prog fn [] false) (s.post enc C.prog fn false true false false) := by
  refine returnsInHanded_of_change_sized own started noInit hfn witness ?_
  intro W base args ds gs before hval hW _ hsz _
  have hW' := hW
  obtain ⟨p, q, hA, hV, rfl, hfz, hnd⟩ := hW
  rw [hv] at hV
  obtain ⟨rfl, rfl⟩ := trodVars_none hV
  simp only [List.append_nil] at hW'
  have hlt : ∀ x ∈ p, x.block < W.heap.size := fun x hx => by simpa using hW'.lt x hx
  have hsz' : (DataW.weightsEach C.prog fn.params.toList ds).all (· ≤ reachBytes) = true := by
    have e : s.plain.varTypes C.prog = [] := by simp [ChangeSpec.plain, hv, DataSpec.varTypes]
    rw [e] at hsz
    simpa using hsz
  have hlen : ds.length = fn.params.size := by
    have : ∀ (ts : List TypeId) (vs : List Value) (ds : List (DataW H)) (ps : List MemPlace), DataW.TrodAll enc C.prog W 0 (fun _ => true) true ts vs ds ps → ds.length = ts.length := by
      intro ts
      induction ts with
      | nil => intro vs ds ps h; cases vs <;> cases ds <;> first | rfl | exact h.elim
      | cons t ts ih =>
        intro vs ds ps h
        cases vs with
        | nil => exact h.elim
        | cons v vs => cases ds with
          | nil => exact h.elim
          | cons d ds =>
            obtain ⟨_, q, _, h2, _⟩ := h
            simp [ih _ _ _ h2]
    simpa using this _ _ _ _ hA
  refine (walk W base args ds p hval hA hlt hsz').mono fun e W' ⟨he, hbe⟩ => ?_
  subst he
  refine ⟨_, rfl, ds, [], p, [], p, [], hW', ?_, ?_, ?_, hbe.frame _, fun h => by cases h⟩
  · rw [hs ds hlen, hr]
    exact trodAll_mk1 (shut_bool hb true)
  · rw [hs ds hlen]
    exact fr_trodAll hl hbe _ _ _ _ hp hA hlt
  · rw [hv, hs ds hlen]
    exact rfl
end
#print axioms fr_lift
end Go.Proofs.Ytfnjgdocmfmfgab
/-
  WHAT COMES IN, OPENED BY SHAPE: an int64, a laws.Graph by value; and the closed facts of this seat's program that every row owes.
-/
namespace Go.Proofs.Ytfnjgdocmfmfgab
open Go.ChangeShapes Go.WideShapes Go.ChangeAt Go.RowKit Go.Joins
set_option maxRecDepth 100000

theorem own : ownKnob Try.prog.godebug = none := by kernel_rfl
theorem laid_out : laidOutB Try.prog = true := by kernel_rfl
theorem cellsLG : Try.prog.cellsOf 24 = 2 := by kernel_rfl

section
variable {H : Type} {enc : TypeId × Value → H}

theorem open_i64 {W : World} {base : Nat} {v : Value} {d : DataW H} {p : List MemPlace} (hv : Value.okWide Try.prog W .any base 2 v) (h : DataW.Trod enc Try.prog W 0 (fun _ => true) true 2 v d p) :
    ∃ n : Int, v = .int .i64 n ∧ (Lit.int .i64 n).wf = true := by
  obtain ⟨x, rfl, rfl, rfl, wx⟩ := open_int Try.underlying2 hv h
  exact ⟨x, rfl, wx⟩

theorem open_b {W : World} {base : Nat} {v : Value} {d : DataW H} {p : List MemPlace} (hv : Value.okWide Try.prog W .any base 4 v) (h : DataW.Trod enc Try.prog W 0 (fun _ => true) true 4 v d p) :
    ∃ b : Bool, v = .bool b := by
  obtain ⟨x, rfl, rfl, rfl⟩ := open_bool Try.underlying4 hv h
  exact ⟨x, rfl⟩

theorem open_lgraph {W : World} {base : Nat} {v : Value} {d : DataW H} {p : List MemPlace} (hv : Value.okWide Try.prog W .any base 24 v) (h : DataW.Trod enc Try.prog W 0 (fun _ => true) true 24 v d p) :
    ∃ n e : Int, v = .agg #[.int .i64 n, .int .u32 e] ∧ (Lit.int .i64 n).wf = true ∧ (Lit.int .u32 e).wf = true := by
  obtain ⟨c0, c1, y0, y1, m, rfl, rfl, rfl, hy0, hy1⟩ := open_agg2 Try.underlying24 (by kernel_rfl) cellsLG hv h
  obtain ⟨a, e0, rfl, wa⟩ := DataW.trod_int Try.underlying2 hy0
  obtain ⟨b, e1, rfl, wb⟩ := DataW.trod_int Try.underlying22 hy1
  simp at e0 e1
  subst e0 e1
  exact ⟨a, b, rfl, wa, wb⟩
end
end Go.Proofs.Ytfnjgdocmfmfgab
/-
  A LIST OF GRAPHS THAT COMES IN, OPENED TO ITS CELLS.
-/
namespace Go.Proofs.Ytfnjgdocmfmfgab
open Go.ChangeShapes Go.WideShapes Go.ChangeAt Go.RowKit Go.Deep
set_option maxRecDepth 100000

theorem open_gs {H : Type} {enc : TypeId × Value → H} {W : World} {base : Nat} {v : Value} {d : DataW H} {p : List MemPlace} (hv : Value.okWide Try.prog W .any base 28 v) (h : DataW.Trod enc Try.prog W 0 (fun _ => true) true 28 v d p) :
    ∃ gs : List (Int × Int), SlG W v gs ∧ Bd gs := by
  obtain ⟨a0, len, cap, rfl⟩ := okWide_slice Try.underlying28 hv
  obtain ⟨fuel, hf⟩ := h
  rcases open_slice_pairs Try.underlying28 Try.underlying24 cellsLG rfl rfl (by kernel_rfl) (by kernel_rfl) hf with ⟨hcs, hx⟩ | ⟨a, len', cap', m, n, V0, V1, D0, D1, P0, P1, hcs, _, hl, hm, hmm, hx, hi⟩
  · simp only [Value.cells] at hcs
    cases hcs
    exact ⟨[], ⟨none, 0, rfl, by simp, by simp, fun c => absurd rfl c⟩, fun i hi => by simp at hi⟩
  · simp only [Value.cells] at hcs
    cases hcs
    simp only [if_true] at hmm
    have hel : ∀ i, i < len → ∃ x y : Int, W.cell? (a.add (i * 2)) = some (.int .i64 x) ∧ W.cell? (a.add (i * 2 + 1)) = some (.int .u32 y) ∧ (Lit.int .u32 y).wf = true := fun i hi2 => by
      obtain ⟨h0, h1, t0, t1⟩ := hi i (by omega)
      obtain ⟨x, e0, _, _⟩ := DataW.trod_int Try.underlying2 t0
      obtain ⟨y, e1, _, wy⟩ := DataW.trod_int Try.underlying22 t1
      simp at e0 e1
      exact ⟨x, y, by rw [h0, e0], by rw [h1, e1], wy⟩
    refine ⟨(List.range len).map fun i => ((W.cell? (a.add (i * 2))).elim 0 intOf, (W.cell? (a.add (i * 2 + 1))).elim 0 intOf), ⟨some a, cap, by simp, by simpa using hl, by unfold maxLen at hm; omega, fun hne => ?_⟩, fun i hi2 => ?_⟩
    · have hlen : 0 < len := by
        rcases Nat.eq_zero_or_pos len with h0 | h0
        · subst h0; exact absurd rfl hne
        · exact h0
      obtain ⟨b, off, spot⟩ := a
      have hspot : spot = none := by
        obtain ⟨x, y, h0, _, _⟩ := hel 0 hlen
        simpa [Addr.add] using World.cell?_spot h0
      subst hspot
      refine ⟨b, off, rfl, ?_, fun i hi2 => ?_⟩
      · obtain ⟨x, y, h0, _, _⟩ := hel 0 hlen
        exact World.block_lt_of_cell? W _ h0
      · rw [List.length_map, List.length_range] at hi2
        obtain ⟨x, y, h0, h1, _⟩ := hel i hi2
        unfold GCell gAt
        rw [List.getElem?_map, List.getElem?_range hi2]
        simp only [Option.map_some, Option.getD_some, h0, h1, Option.elim_some, intOf]
        rw [add_plain] at h0 h1
        exact ⟨h0, h1⟩
    · rw [List.length_map, List.length_range] at hi2
      obtain ⟨x, y, h0, h1, wy⟩ := hel i hi2
      unfold gAt
      rw [List.getElem?_map, List.getElem?_range hi2]
      simp only [Option.map_some, Option.getD_some, h1, Option.elim_some, intOf]
      have := bounds_u32 wy
      exact ⟨this.1, by omega⟩
end Go.Proofs.Ytfnjgdocmfmfgab
/-
  A FLAG OF THE LAWS' OWN, OPENED: its labels, its vertices, its edges.
-/
namespace Go.Proofs.Ytfnjgdocmfmfgab
open Go.ChangeShapes Go.WideShapes Go.ChangeAt Go.RowKit Go.Joins
set_option maxRecDepth 100000

theorem cellsLK : Try.prog.cellsOf 81 = 3 := by kernel_rfl
theorem cellsKI : Try.prog.cellsOf 2 = 1 := by kernel_rfl
theorem cellsKU : Try.prog.cellsOf 22 = 1 := by kernel_rfl
section
variable {H : Type} {enc : TypeId × Value → H}
theorem open_lflag {W : World} {base : Nat} {v : Value} {d : DataW H} {p : List MemPlace} (hv : Value.okWide Try.prog W .any base 81 v) (h : DataW.Trod enc Try.prog W 0 (fun _ => true) true 81 v d p) :
    ∃ k n e : Int, v = .agg #[.int .i64 k, .int .i64 n, .int .u32 e] ∧ (Lit.int .i64 k).wf = true ∧ (Lit.int .i64 n).wf = true ∧ (Lit.int .u32 e).wf = true := by
  obtain ⟨cs, rfl, hsz⟩ := okWide_struct Try.underlying81 hv
  obtain ⟨c0, c1, c2, rfl⟩ := array3 (hsz.trans cellsLK)
  obtain ⟨fuel, hf⟩ := h
  obtain ⟨y0, y1, n, hx, _, h0, h1⟩ := trod_struct2 Try.underlying81 hf
  obtain ⟨z0, z1, m, hx2, _, g0, g1⟩ := trod_struct2 Try.underlying24 h1
  simp only [Value.cells, cellsKI, cellsKU, cellsLG] at h0 g0 g1
  obtain ⟨a, e0, _, wa⟩ := DataW.trod_int Try.underlying2 h0
  obtain ⟨b, e1, _, wb⟩ := DataW.trod_int Try.underlying2 g0
  obtain ⟨c, e2, _, wc⟩ := DataW.trod_int Try.underlying22 g1
  simp at e0 e1 e2
  subst e0 e1 e2
  exact ⟨a, b, c, rfl, wa, wb, wc⟩
end
end Go.Proofs.Ytfnjgdocmfmfgab
/-
  LISTS OF TERMS: 'SlT w v ts': in the world w the value v is a list that holds the terms ts (a flag's labels, vertices, edges; a fraction's parts). What copies such a list, and what holds two against each other.
-/
namespace Go.Proofs.Ytfnjgdocmfmfgab
open Go.RowKit
set_option maxRecDepth 100000

/-- a term as numbers -/
structure TE where
  k : Int
  n : Int
  e : Int
  p : Int
  q : Int
def TE.val (g : TE) : Value := .agg #[.int .i64 g.k, .int .i64 g.n, .int .u32 g.e, .int .i64 g.p, .int .i64 g.q]
def tAt (gs : List TE) (i : Nat) : TE := gs[i]?.getD ⟨0, 0, 0, 0, 0⟩
/-- five cells of a block that hold the term at i -/
def TCell (w : World) (b off : Nat) (g : TE) (i : Nat) : Prop := w.cell? ⟨b, off + i * 5, none⟩ = some (.int .i64 g.k) ∧ w.cell? ⟨b, off + i * 5 + 1, none⟩ = some (.int .i64 g.n) ∧ w.cell? ⟨b, off + i * 5 + 2, none⟩ = some (.int .u32 g.e) ∧ w.cell? ⟨b, off + i * 5 + 3, none⟩ = some (.int .i64 g.p) ∧ w.cell? ⟨b, off + i * 5 + 4, none⟩ = some (.int .i64 g.q)
def SlT (w : World) (v : Value) (gs : List TE) : Prop :=
  ∃ (a : Option Addr) (cap : Nat), v = .slice a gs.length cap ∧ gs.length ≤ cap ∧ cap ≤ 9223372036854775807 ∧
    (gs ≠ [] → ∃ b off, a = some ⟨b, off, none⟩ ∧ b < w.heap.size ∧ ∀ i, i < gs.length → TCell w b off (tAt gs i) i)
theorem SlT.below {w w' : World} {v : Value} {gs : List TE} (h : SlT w v gs) (hb : Below w.heap.size w w') : SlT w' v gs := by
  obtain ⟨a, cap, e, h1, h2, h3⟩ := h
  refine ⟨a, cap, e, h1, h2, fun hz => ?_⟩
  obtain ⟨b, off, e2, hlt, hc⟩ := h3 hz
  exact ⟨b, off, e2, Nat.lt_of_lt_of_le hlt hb.size, fun i hi => ⟨(hb.cell (p := ⟨b, _, none⟩) hlt).trans (hc i hi).1, (hb.cell (p := ⟨b, _, none⟩) hlt).trans (hc i hi).2.1, (hb.cell (p := ⟨b, _, none⟩) hlt).trans (hc i hi).2.2.1, (hb.cell (p := ⟨b, _, none⟩) hlt).trans (hc i hi).2.2.2.1, (hb.cell (p := ⟨b, _, none⟩) hlt).trans (hc i hi).2.2.2.2⟩⟩
/-- a list that lies at the front of a block that w0 did not have, and that may be written -/
def NewT (w0 w : World) (v : Value) (l : Nat) : Prop := ∃ a cap, v = .slice a l cap ∧ (0 < l → ∃ B, a = some ⟨B, 0, none⟩ ∧ w0.heap.size ≤ B ∧ B < w.heap.size ∧ ∀ c, w.frozen? ⟨B, c, none⟩ = false)
/-- a block that holds the first k of gs, zeros behind -/
def HalfT (w : World) (B k : Nat) (gs : List TE) : Prop := ∀ i, i < gs.length → TCell w B 0 (if i < k then tAt gs i else ⟨0, 0, 0, 0, 0⟩) i
theorem HalfT.set {w : World} {B k : Nat} {gs : List TE} (h : HalfT w B k gs) (hk : k < gs.length) : HalfT (((((w.setCell ⟨B, k * 5, none⟩ (.int .i64 (tAt gs k).k)).setCell ⟨B, k * 5 + 1, none⟩ (.int .i64 (tAt gs k).n)).setCell ⟨B, k * 5 + 2, none⟩ (.int .u32 (tAt gs k).e)).setCell ⟨B, k * 5 + 3, none⟩ (.int .i64 (tAt gs k).p)).setCell ⟨B, k * 5 + 4, none⟩ (.int .i64 (tAt gs k).q)) B (k + 1) gs := by
  intro i hi
  have hi2 := h i hi
  unfold TCell at hi2 ⊢
  rw [Nat.zero_add] at hi2 ⊢
  by_cases e : i = k
  · subst e
    rw [if_pos (by omega)]
    exact ⟨((World.cell?_setCell_other _ _ _ _ (by simp)).trans ((World.cell?_setCell_other _ _ _ _ (by simp)).trans ((World.cell?_setCell_other _ _ _ _ (by simp)).trans ((World.cell?_setCell_other _ _ _ _ (by simp)).trans (World.cell?_setCell_same _ _ _ hi2.1))))), ((World.cell?_setCell_other _ _ _ _ (by simp)).trans ((World.cell?_setCell_other _ _ _ _ (by simp)).trans ((World.cell?_setCell_other _ _ _ _ (by simp)).trans (World.cell?_setCell_same _ _ _ ((World.cell?_setCell_other _ _ _ _ (by simp)).trans hi2.2.1))))), ((World.cell?_setCell_other _ _ _ _ (by simp)).trans ((World.cell?_setCell_other _ _ _ _ (by simp)).trans (World.cell?_setCell_same _ _ _ ((World.cell?_setCell_other _ _ _ _ (by simp)).trans ((World.cell?_setCell_other _ _ _ _ (by simp)).trans hi2.2.2.1))))), ((World.cell?_setCell_other _ _ _ _ (by simp)).trans (World.cell?_setCell_same _ _ _ ((World.cell?_setCell_other _ _ _ _ (by simp)).trans ((World.cell?_setCell_other _ _ _ _ (by simp)).trans ((World.cell?_setCell_other _ _ _ _ (by simp)).trans hi2.2.2.2.1))))), (World.cell?_setCell_same _ _ _ ((World.cell?_setCell_other _ _ _ _ (by simp)).trans ((World.cell?_setCell_other _ _ _ _ (by simp)).trans ((World.cell?_setCell_other _ _ _ _ (by simp)).trans ((World.cell?_setCell_other _ _ _ _ (by simp)).trans hi2.2.2.2.2)))))⟩
  · rw [show (if i < k + 1 then tAt gs i else (⟨0, 0, 0, 0, 0⟩ : TE)) = (if i < k then tAt gs i else ⟨0, 0, 0, 0, 0⟩) by
      by_cases c : i < k
      · rw [if_pos c, if_pos (by omega)]
      · rw [if_neg c, if_neg (by omega)]]
    exact ⟨((World.cell?_setCell_other _ _ _ _ (by simp <;> omega)).trans ((World.cell?_setCell_other _ _ _ _ (by simp <;> omega)).trans ((World.cell?_setCell_other _ _ _ _ (by simp <;> omega)).trans ((World.cell?_setCell_other _ _ _ _ (by simp <;> omega)).trans ((World.cell?_setCell_other _ _ _ _ (by simp <;> omega)).trans hi2.1))))), ((World.cell?_setCell_other _ _ _ _ (by simp <;> omega)).trans ((World.cell?_setCell_other _ _ _ _ (by simp <;> omega)).trans ((World.cell?_setCell_other _ _ _ _ (by simp <;> omega)).trans ((World.cell?_setCell_other _ _ _ _ (by simp <;> omega)).trans ((World.cell?_setCell_other _ _ _ _ (by simp <;> omega)).trans hi2.2.1))))), ((World.cell?_setCell_other _ _ _ _ (by simp <;> omega)).trans ((World.cell?_setCell_other _ _ _ _ (by simp <;> omega)).trans ((World.cell?_setCell_other _ _ _ _ (by simp <;> omega)).trans ((World.cell?_setCell_other _ _ _ _ (by simp <;> omega)).trans ((World.cell?_setCell_other _ _ _ _ (by simp <;> omega)).trans hi2.2.2.1))))), ((World.cell?_setCell_other _ _ _ _ (by simp <;> omega)).trans ((World.cell?_setCell_other _ _ _ _ (by simp <;> omega)).trans ((World.cell?_setCell_other _ _ _ _ (by simp <;> omega)).trans ((World.cell?_setCell_other _ _ _ _ (by simp <;> omega)).trans ((World.cell?_setCell_other _ _ _ _ (by simp <;> omega)).trans hi2.2.2.2.1))))), ((World.cell?_setCell_other _ _ _ _ (by simp <;> omega)).trans ((World.cell?_setCell_other _ _ _ _ (by simp <;> omega)).trans ((World.cell?_setCell_other _ _ _ _ (by simp <;> omega)).trans ((World.cell?_setCell_other _ _ _ _ (by simp <;> omega)).trans ((World.cell?_setCell_other _ _ _ _ (by simp <;> omega)).trans hi2.2.2.2.2)))))⟩
theorem HalfT.below {w w' : World} {B k : Nat} {gs : List TE} (h : HalfT w B k gs) (hb : Below w.heap.size w w') (hB : B < w.heap.size) : HalfT w' B k gs :=
  fun i hi => ⟨(hb.cell (p := ⟨B, _, none⟩) hB).trans (h i hi).1, (hb.cell (p := ⟨B, _, none⟩) hB).trans (h i hi).2.1, (hb.cell (p := ⟨B, _, none⟩) hB).trans (h i hi).2.2.1, (hb.cell (p := ⟨B, _, none⟩) hB).trans (h i hi).2.2.2.1, (hb.cell (p := ⟨B, _, none⟩) hB).trans (h i hi).2.2.2.2⟩
theorem HalfT.done {w : World} {B cap : Nat} {gs : List TE} (h : HalfT w B gs.length gs) (hB : B < w.heap.size) (hc : gs.length ≤ cap) (hm : cap ≤ 9223372036854775807) : SlT w (.slice (some ⟨B, 0, none⟩) gs.length cap) gs :=
  ⟨_, _, rfl, hc, hm, fun _ => ⟨B, 0, rfl, hB, fun i hi => by have := h i hi; rw [if_pos hi] at this; exact this⟩⟩
theorem info_term : (Try.prog.info? 72).map (fun i => (i.zero, i.size, i.bytes)) = some (some (.agg #[.int .i64 0, .int .i64 0, .int .u32 0, .int .i64 0, .int .i64 0]), 5, 40) := by kernel_rfl
theorem madeT (w : World) (n B : Nat) (e : TypeId) (gs : List TE) (hB : B = w.heap.size) (hn : gs.length = n) : HalfT (w.alloc (.cells (madeCells #[.int .i64 0, .int .i64 0, .int .u32 0, .int .i64 0, .int .i64 0] (n * 5)) e)) B 0 gs := by
  intro i hi
  subst hB
  unfold TCell
  rw [World.cell?_alloc_new, World.cell?_alloc_new, World.cell?_alloc_new, World.cell?_alloc_new, World.cell?_alloc_new, Nat.zero_add, if_neg (by omega)]
  have h0 : i * 5 < n * 5 := by omega
  have h1 : i * 5 + 1 < n * 5 := by omega
  have h2 : i * 5 + 2 < n * 5 := by omega
  have h3 : i * 5 + 3 < n * 5 := by omega
  have h4 : i * 5 + 4 < n * 5 := by omega
  have m0 : (i * 5) % 5 = 0 := by omega
  have m1 : (i * 5 + 1) % 5 = 1 := by omega
  have m2 : (i * 5 + 2) % 5 = 2 := by omega
  have m3 : (i * 5 + 3) % 5 = 3 := by omega
  have m4 : (i * 5 + 4) % 5 = 4 := by omega
  refine ⟨?_, ?_, ?_, ?_, ?_⟩
  · simp [madeCells, h0, m0]
  · simp [madeCells, h1, m1]
  · simp [madeCells, h2, m2]
  · simp [madeCells, h3, m3]
  · simp [madeCells, h4, m4]
/-- a term's box -/
structure TB (W : World) (B : Nat) (k n e p q : Int) : Prop where
  lt : B < W.heap.size
  c0 : W.cell? ⟨B, 0, none⟩ = some (.int .i64 k)
  c1 : W.cell? ⟨B, 1, none⟩ = some (.int .i64 n)
  c2 : W.cell? ⟨B, 2, none⟩ = some (.int .u32 e)
  c3 : W.cell? ⟨B, 3, none⟩ = some (.int .i64 p)
  c4 : W.cell? ⟨B, 4, none⟩ = some (.int .i64 q)
  fz : ∀ o, W.frozen? ⟨B, o, none⟩ = false
theorem TB.drew {W : World} {B : Nat} {k n e p q : Int} (h : TB W B k n e p q) : TB W.drew B k n e p q := ⟨h.lt, h.c0, h.c1, h.c2, h.c3, h.c4, h.fz⟩
theorem TB.below {W W' : World} {B : Nat} {k n e p q : Int} (h : TB W B k n e p q) (hb : Below W.heap.size W W') : TB W' B k n e p q :=
  ⟨Nat.lt_of_lt_of_le h.lt hb.size, (hb.cell (p := ⟨B, 0, none⟩) h.lt).trans h.c0, (hb.cell (p := ⟨B, 1, none⟩) h.lt).trans h.c1, (hb.cell (p := ⟨B, 2, none⟩) h.lt).trans h.c2, (hb.cell (p := ⟨B, 3, none⟩) h.lt).trans h.c3, (hb.cell (p := ⟨B, 4, none⟩) h.lt).trans h.c4,
    fun o => (hb.frozen (p := ⟨B, o, none⟩) h.lt).trans (h.fz o)⟩
theorem TB.made (W : World) (k n e p q : Int) (t : TypeId) : TB (W.alloc (.cells #[.int .i64 k, .int .i64 n, .int .u32 e, .int .i64 p, .int .i64 q] t)) W.heap.size k n e p q :=
  ⟨by simp, by rw [World.cell?_alloc_new]; rfl, by rw [World.cell?_alloc_new]; rfl, by rw [World.cell?_alloc_new]; rfl, by rw [World.cell?_alloc_new]; rfl, by rw [World.cell?_alloc_new]; rfl, fun o => by simp⟩
theorem TB.other {W : World} {B : Nat} {k n e p q : Int} (h : TB W B k n e p q) {a : Addr} (v : Value) (hp : a.block ≠ B) : TB (W.setCell a v) B k n e p q := by
  have hs : (W.setCell a v).heap[B]? = W.heap[B]? := Below.heap_setCell _ _ _ _ (by omega)
  exact ⟨by simpa using h.lt, (World.cell?_of_block (a := ⟨B, 0, none⟩) hs).trans h.c0, (World.cell?_of_block (a := ⟨B, 1, none⟩) hs).trans h.c1, (World.cell?_of_block (a := ⟨B, 2, none⟩) hs).trans h.c2, (World.cell?_of_block (a := ⟨B, 3, none⟩) hs).trans h.c3, (World.cell?_of_block (a := ⟨B, 4, none⟩) hs).trans h.c4, fun o => by simp [h.fz o]⟩
theorem TB.putF {W : World} {B : Nat} {k n e p q : Int} (h : TB W B k n e p q) (k' n' e' : Int) : TB (((W.setCell ⟨B, 0, none⟩ (.int .i64 k')).setCell ⟨B, 1, none⟩ (.int .i64 n')).setCell ⟨B, 2, none⟩ (.int .u32 e')) B k' n' e' p q :=
  ⟨by simpa using h.lt, ((World.cell?_setCell_other _ _ _ _ (by simp)).trans ((World.cell?_setCell_other _ _ _ _ (by simp)).trans (World.cell?_setCell_same _ _ _ h.c0))), ((World.cell?_setCell_other _ _ _ _ (by simp)).trans (World.cell?_setCell_same _ _ _ ((World.cell?_setCell_other _ _ _ _ (by simp)).trans h.c1))), (World.cell?_setCell_same _ _ _ ((World.cell?_setCell_other _ _ _ _ (by simp)).trans ((World.cell?_setCell_other _ _ _ _ (by simp)).trans h.c2))), ((World.cell?_setCell_other _ _ _ _ (by simp)).trans ((World.cell?_setCell_other _ _ _ _ (by simp)).trans ((World.cell?_setCell_other _ _ _ _ (by simp)).trans h.c3))), ((World.cell?_setCell_other _ _ _ _ (by simp)).trans ((World.cell?_setCell_other _ _ _ _ (by simp)).trans ((World.cell?_setCell_other _ _ _ _ (by simp)).trans h.c4))), fun o => by simp [h.fz o]⟩
theorem TB.putR {W : World} {B : Nat} {k n e p q : Int} (h : TB W B k n e p q) (p' q' : Int) : TB ((W.setCell ⟨B, 3, none⟩ (.int .i64 p')).setCell ⟨B, 4, none⟩ (.int .i64 q')) B k n e p' q' :=
  ⟨by simpa using h.lt, ((World.cell?_setCell_other _ _ _ _ (by simp)).trans ((World.cell?_setCell_other _ _ _ _ (by simp)).trans h.c0)), ((World.cell?_setCell_other _ _ _ _ (by simp)).trans ((World.cell?_setCell_other _ _ _ _ (by simp)).trans h.c1)), ((World.cell?_setCell_other _ _ _ _ (by simp)).trans ((World.cell?_setCell_other _ _ _ _ (by simp)).trans h.c2)), ((World.cell?_setCell_other _ _ _ _ (by simp)).trans (World.cell?_setCell_same _ _ _ h.c3)), (World.cell?_setCell_same _ _ _ ((World.cell?_setCell_other _ _ _ _ (by simp)).trans h.c4)), fun o => by simp [h.fz o]⟩
theorem TB.all {W : World} {B : Nat} {k n e p q : Int} (h : TB W B k n e p q) (k' n' e' p' q' : Int) : TB (((((W.setCell ⟨B, 0, none⟩ (.int .i64 k')).setCell ⟨B, 1, none⟩ (.int .i64 n')).setCell ⟨B, 2, none⟩ (.int .u32 e')).setCell ⟨B, 3, none⟩ (.int .i64 p')).setCell ⟨B, 4, none⟩ (.int .i64 q')) B k' n' e' p' q' :=
  ⟨by simpa using h.lt, ((World.cell?_setCell_other _ _ _ _ (by simp)).trans ((World.cell?_setCell_other _ _ _ _ (by simp)).trans ((World.cell?_setCell_other _ _ _ _ (by simp)).trans ((World.cell?_setCell_other _ _ _ _ (by simp)).trans (World.cell?_setCell_same _ _ _ h.c0))))), ((World.cell?_setCell_other _ _ _ _ (by simp)).trans ((World.cell?_setCell_other _ _ _ _ (by simp)).trans ((World.cell?_setCell_other _ _ _ _ (by simp)).trans (World.cell?_setCell_same _ _ _ ((World.cell?_setCell_other _ _ _ _ (by simp)).trans h.c1))))), ((World.cell?_setCell_other _ _ _ _ (by simp)).trans ((World.cell?_setCell_other _ _ _ _ (by simp)).trans (World.cell?_setCell_same _ _ _ ((World.cell?_setCell_other _ _ _ _ (by simp)).trans ((World.cell?_setCell_other _ _ _ _ (by simp)).trans h.c2))))), ((World.cell?_setCell_other _ _ _ _ (by simp)).trans (World.cell?_setCell_same _ _ _ ((World.cell?_setCell_other _ _ _ _ (by simp)).trans ((World.cell?_setCell_other _ _ _ _ (by simp)).trans ((World.cell?_setCell_other _ _ _ _ (by simp)).trans h.c3))))), (World.cell?_setCell_same _ _ _ ((World.cell?_setCell_other _ _ _ _ (by simp)).trans ((World.cell?_setCell_other _ _ _ _ (by simp)).trans ((World.cell?_setCell_other _ _ _ _ (by simp)).trans ((World.cell?_setCell_other _ _ _ _ (by simp)).trans h.c4))))), fun o => by simp [h.fz o]⟩
section
variable (w : World)
theorem szt_ok (a : Option Addr) (l cap : Nat) (hl : l ≤ 1048576) :
    Calls Try.prog 14 #[.slice a l cap, .int .i64 1048576] w fun r w' => r = .returned (.int .i64 (1048576 - (l : Int))) ∧ w = w' := by
  go_enter Try.func14, Try.ntmps14
  go_wp2
  go_ret
  exact ⟨rfl, rfl⟩
theorem szt_long (a : Option Addr) (l cap : Nat) (hl : 1048576 < l) (hm : l ≤ 9223372036854775807) :
    Calls Try.prog 14 #[.slice a l cap, .int .i64 1048576] w fun r w' => r = .returned (.int .i64 (-1)) ∧ w = w' := by
  go_enter Try.func14, Try.ntmps14
  go_wp2
  go_ret
  exact ⟨rfl, rfl⟩
theorem toFrac_any (n e : Int) :
    Calls Try.prog 64 #[.agg #[.int .i64 n, .int .i64 e]] w fun r w' => r = .returned (.agg #[.int .i64 n, .int .i64 e]) ∧ Below w.heap.size w w' := by
  go_enter Try.func64, Try.ntmps64
  go_wp2
  exact bodyPost_ret (v := .agg #[.int .i64 n, .int .i64 e]) (by simp [results, Try.results64, go_sem]) rfl ⟨rfl, by repeat (first | exact Below.refl _ _ | apply Below.drew | (refine Below.alloc ?_ (by first | (simp; done) | (simp; omega)) _) | (refine Below.setCell ?_ (by first | (simp; done) | (simp; omega)) _))⟩
theorem eqFrac_any (m f : Int) : Calls Try.prog 10 #[.agg #[.int .i64 m, .int .i64 f], .agg #[.int .i64 m, .int .i64 f]] w fun r w' => r = .returned (.bool true) ∧ Below w.heap.size w w' := by
  go_enter Try.func10, Try.ntmps10
  go_wp2
  go_ret
  exact ⟨rfl, by (repeat (first | exact Below.refl _ _ | assumption | refine bchain (by assumption) ?_ | refine balloc ?_ _ | apply Below.drew | apply below_drewN | (refine Below.alloc ?_ (by (try simp) <;> omega) _) | (refine Below.setCell ?_ (by (try simp) <;> omega) _)))⟩
theorem toTerm_any (x y z s t : Int) :
    Calls Try.prog 39 #[.agg #[.int .i64 x, .int .i64 y, .int .u32 z, .int .i64 s, .int .i64 t]] w fun r w' => r = .returned (.agg #[.int .i64 x, .int .i64 y, .int .u32 z, .int .i64 s, .int .i64 t]) ∧ Below w.heap.size w w' := by
  obtain ⟨W3, hW3⟩ : ∃ W3, W3 = ((w.alloc (.cells #[.int .i64 x, .int .i64 y, .int .u32 z, .int .i64 s, .int .i64 t] 84)).alloc (.cells #[.int .i64 0, .int .i64 0, .int .u32 0, .int .i64 0, .int .i64 0] 72)).alloc (.cells #[.int .i64 0, .int .i64 0, .int .u32 0, .int .i64 0, .int .i64 0] 72) := ⟨_, rfl⟩
  have hB3 : Below w.heap.size w W3 := by rw [hW3]; (repeat (first | exact Below.refl _ _ | assumption | refine bchain (by assumption) ?_ | refine balloc ?_ _ | apply Below.drew | apply below_drewN | (refine Below.alloc ?_ (by (try simp) <;> omega) _) | (refine Below.setCell ?_ (by (try simp) <;> omega) _)))
  have sz : ∀ (W : World) (o : Obj), (W.alloc o).heap.size = W.heap.size + 1 := fun W o => by simp
  have tA : TB W3 w.heap.size x y z s t := by rw [hW3]; exact (((TB.made w x y z s t _).below (balloc (Below.refl _ _) _)).below (balloc (Below.refl _ _) _))
  have tR : TB W3 (w.heap.size + 1) 0 0 0 0 0 := by rw [hW3, ← sz w (.cells #[.int .i64 x, .int .i64 y, .int .u32 z, .int .i64 s, .int .i64 t] 84)]; exact (TB.made _ 0 0 0 0 0 72).below (balloc (Below.refl _ _) _)
  have tO : TB W3 (w.heap.size + 1 + 1) 0 0 0 0 0 := by rw [hW3, ← sz w (.cells #[.int .i64 x, .int .i64 y, .int .u32 z, .int .i64 s, .int .i64 t] 84), ← sz _ (.cells #[.int .i64 0, .int .i64 0, .int .u32 0, .int .i64 0, .int .i64 0] 72)]; exact TB.made _ 0 0 0 0 0 72
  clear sz
  replace hW3 := Lib.hid hW3
  obtain ⟨ltA, a0, a1, a2, a3, a4, _⟩ := id tA
  go_enter Try.func39, Try.ntmps39
  go_wp2_with fail
  rw [← hW3.out]
  go_wp2_with fail
  refine (toFlag_any _ x y z).mono ?_
  rintro r1 w1 ⟨rfl, hb1⟩
  replace tA := tA.below hb1
  replace tR := tR.below hb1
  replace tO := tO.below hb1
  replace hB3 := bchain hb1 hB3
  clear hb1 a0 a1 a2 a3 a4 ltA
  obtain ⟨ltA, a0, a1, a2, a3, a4, _⟩ := id tA
  obtain ⟨ltO, o0, o1, o2, o3, o4, fO⟩ := id tO
  obtain ⟨W5, hW5⟩ : ∃ W5, W5 = ((w1.setCell ⟨w.heap.size + 1 + 1, 0, none⟩ (.int .i64 x)).setCell ⟨w.heap.size + 1 + 1, 1, none⟩ (.int .i64 y)).setCell ⟨w.heap.size + 1 + 1, 2, none⟩ (.int .u32 z) := ⟨_, rfl⟩
  have kA : TB W5 w.heap.size x y z s t := by rw [hW5]; exact ((tA.other _ (by show w.heap.size + 1 + 1 ≠ w.heap.size; omega)).other _ (by show w.heap.size + 1 + 1 ≠ w.heap.size; omega)).other _ (by show w.heap.size + 1 + 1 ≠ w.heap.size; omega)
  have kR : TB W5 (w.heap.size + 1) 0 0 0 0 0 := by rw [hW5]; exact ((tR.other _ (by show w.heap.size + 1 + 1 ≠ w.heap.size + 1; omega)).other _ (by show w.heap.size + 1 + 1 ≠ w.heap.size + 1; omega)).other _ (by show w.heap.size + 1 + 1 ≠ w.heap.size + 1; omega)
  have kO : TB W5 (w.heap.size + 1 + 1) x y z 0 0 := by rw [hW5]; exact tO.putF x y z
  have kB : Below w.heap.size w W5 := by rw [hW5]; exact ((hB3.setCell (p := ⟨w.heap.size + 1 + 1, 0, none⟩) (by show w.heap.size ≤ w.heap.size + 1 + 1; omega) _).setCell (p := ⟨w.heap.size + 1 + 1, 1, none⟩) (by show w.heap.size ≤ w.heap.size + 1 + 1; omega) _).setCell (p := ⟨w.heap.size + 1 + 1, 2, none⟩) (by show w.heap.size ≤ w.heap.size + 1 + 1; omega) _
  replace hW5 := Lib.hid hW5
  clear tA tR tO hB3
  go_wp2_with fail
  refine (toFrac_any _ s t).mono ?_
  rintro r2 w2 ⟨rfl, hb2⟩
  rw [← hW5.out] at hb2
  replace kR := kR.below hb2
  replace kO := kO.below hb2
  replace kB := bchain hb2 kB
  clear hb2 a0 a1 a2 a3 a4 ltA o0 o1 o2 o3 o4 ltO fO kA
  obtain ⟨ltO, o0, o1, o2, o3, o4, fO⟩ := id kO
  obtain ⟨ltR, u0, u1, u2, u3, u4, fR⟩ := id kR
  obtain ⟨W6, hW6⟩ : ∃ W6, W6 = (w2.setCell ⟨w.heap.size + 1 + 1, 3, none⟩ (.int .i64 s)).setCell ⟨w.heap.size + 1 + 1, 4, none⟩ (.int .i64 t) := ⟨_, rfl⟩
  have jR : TB W6 (w.heap.size + 1) 0 0 0 0 0 := by rw [hW6]; exact (kR.other _ (by show w.heap.size + 1 + 1 ≠ w.heap.size + 1; omega)).other _ (by show w.heap.size + 1 + 1 ≠ w.heap.size + 1; omega)
  have jB : Below w.heap.size w W6 := by rw [hW6]; exact (kB.setCell (p := ⟨w.heap.size + 1 + 1, 3, none⟩) (by show w.heap.size ≤ w.heap.size + 1 + 1; omega) _).setCell (p := ⟨w.heap.size + 1 + 1, 4, none⟩) (by show w.heap.size ≤ w.heap.size + 1 + 1; omega) _
  have jF := jR.all x y z s t
  have jBB := (((((jB.setCell (p := ⟨w.heap.size + 1, 0, none⟩) (by show w.heap.size ≤ w.heap.size + 1; omega) (.int .i64 x)).setCell (p := ⟨w.heap.size + 1, 1, none⟩) (by show w.heap.size ≤ w.heap.size + 1; omega) (.int .i64 y)).setCell (p := ⟨w.heap.size + 1, 2, none⟩) (by show w.heap.size ≤ w.heap.size + 1; omega) (.int .u32 z)).setCell (p := ⟨w.heap.size + 1, 3, none⟩) (by show w.heap.size ≤ w.heap.size + 1; omega) (.int .i64 s)).setCell (p := ⟨w.heap.size + 1, 4, none⟩) (by show w.heap.size ≤ w.heap.size + 1; omega) (.int .i64 t))
  clear kR kO kB jR jB
  go_wp2
  rw [← hW6]
  obtain ⟨WW, hWW⟩ : ∃ WW, WW = (((((W6.setCell ⟨w.heap.size + 1, 0, none⟩ (.int .i64 x)).setCell ⟨w.heap.size + 1, 1, none⟩ (.int .i64 y)).setCell ⟨w.heap.size + 1, 2, none⟩ (.int .u32 z)).setCell ⟨w.heap.size + 1, 3, none⟩ (.int .i64 s)).setCell ⟨w.heap.size + 1, 4, none⟩ (.int .i64 t)) := ⟨_, rfl⟩
  rw [← hWW] at jF jBB ⊢
  clear hWW hW6
  obtain ⟨_, v0, v1, v2, v3, v4, _⟩ := jF
  exact bodyPost_ret (v := .agg #[.int .i64 x, .int .i64 y, .int .u32 z, .int .i64 s, .int .i64 t]) (by simp [results, Try.results39, go_sem, v0, v1, v2, v3, v4]) rfl ⟨rfl, jBB⟩
theorem eqTerm_any (x y z s t : Int) :
    Calls Try.prog 53 #[.agg #[.int .i64 x, .int .i64 y, .int .u32 z, .int .i64 s, .int .i64 t], .agg #[.int .i64 x, .int .i64 y, .int .u32 z, .int .i64 s, .int .i64 t]] w fun r w' => r = .returned (.bool true) ∧ Below w.heap.size w w' := by
  go_enter Try.func53, Try.ntmps53
  go_wp2
  go_ret
  exact ⟨rfl, by (repeat (first | exact Below.refl _ _ | assumption | refine bchain (by assumption) ?_ | refine balloc ?_ _ | apply Below.drew | apply below_drewN | (refine Below.alloc ?_ (by (try simp) <;> omega) _) | (refine Below.setCell ?_ (by (try simp) <;> omega) _)))⟩
theorem toTs_empty (a : Option Addr) (cap : Nat) :
    Calls Try.prog 22 #[.slice a 0 cap] w fun r w' => (∃ v, r = .returned v ∧ SlT w' v [] ∧ NewT w w' v 0) ∧ Below w.heap.size w w' := by
  obtain ⟨i0, hi0, hz0, hs0, hb0⟩ := info_parts info_term
  have hmk : ∀ W : World, (Instr.makeSlice 38 (.int .i64 0) (.int .i64 0)).run Try.prog W = .ok (.slice (some ⟨W.heap.size, 0, none⟩) 0 0) (W.alloc (.cells (madeCells #[.int .i64 0, .int .i64 0, .int .u32 0, .int .i64 0, .int .i64 0] (0 * 5)) 72)) := fun W => by
    have hr := run_make (P := Try.prog) W 38 72 i0 (.agg #[.int .i64 0, .int .i64 0, .int .u32 0, .int .i64 0, .int .i64 0]) Try.underlying38 hi0 hz0 .i64 .i64 ((0 : Nat) : Int) ((0 : Nat) : Int) (by omega) (by omega) (by rw [hb0]; omega) (by omega)
    simp only [Int.toNat_natCast, hs0] at hr
    exact hr
  clear hi0 hz0 hs0 hb0
  go_enter Try.func22, Try.ntmps22
  go_wp2
  go_loopw [4] (fun i wr => i = .int .i64 0 ∧ Below w.heap.size w wr) (fun _ _ => 0)
  case atStart => exact ⟨rfl, by (repeat (first | exact Below.refl _ _ | assumption | refine bchain (by assumption) ?_ | refine balloc ?_ _ | apply Below.drew | apply below_drewN | (refine Below.alloc ?_ (by (try simp) <;> omega) _) | (refine Below.setCell ?_ (by (try simp) <;> omega) _)))⟩
  case round =>
    obtain ⟨rfl, hb⟩ := hrel
    go_wp2
    go_ret
    exact ⟨⟨_, rfl, ⟨_, _, rfl, by simp, by simp, fun c => absurd rfl c⟩, ⟨_, _, rfl, fun c => absurd c (Nat.lt_irrefl _)⟩⟩, hb⟩
set_option maxHeartbeats 1000000 in
theorem toTs_some (b off cap : Nat) (gs : List TE) (h1 : 0 < gs.length) (h2 : gs.length ≤ cap) (hm : gs.length ≤ 1048576) (hb : b < w.heap.size) (hc : ∀ i, i < gs.length → TCell w b off (tAt gs i) i) :
    Calls Try.prog 22 #[.slice (some ⟨b, off, none⟩) gs.length cap] w fun r w' => (∃ v, r = .returned v ∧ SlT w' v gs ∧ NewT w w' v gs.length) ∧ Below w.heap.size w w' := by
  obtain ⟨i0, hi0, hz0, hs0, hb0⟩ := info_parts info_term
  obtain ⟨O, hO⟩ : ∃ O, O = Obj.cells (madeCells #[.int .i64 0, .int .i64 0, .int .u32 0, .int .i64 0, .int .i64 0] (gs.length * 5)) 72 := ⟨_, rfl⟩
  obtain ⟨n, hn⟩ : ∃ n, n = gs.length := ⟨_, rfl⟩
  rw [← hn] at h1 h2 hm hO ⊢
  have hmk : ∀ W : World, (Instr.makeSlice 38 (.int .i64 n) (.int .i64 n)).run Try.prog W = .ok (.slice (some ⟨W.heap.size, 0, none⟩) n n) (W.alloc O) := fun W => by
    have hr := run_make (P := Try.prog) W 38 72 i0 (.agg #[.int .i64 0, .int .i64 0, .int .u32 0, .int .i64 0, .int .i64 0]) Try.underlying38 hi0 hz0 .i64 .i64 (n : Int) (n : Int) (by omega) (by omega) (by rw [hb0]; omega) (by omega)
    simp only [Int.toNat_natCast, hs0] at hr
    rw [hO]
    exact hr
  clear hi0 hz0 hs0 hb0
  replace hO := Lib.hid hO
  replace hn := Lib.hid hn
  replace hc := Lib.hid hc
  go_enter Try.func22, Try.ntmps22
  go_wp2
  go_loopw [4] (fun i wr => ∃ k : Nat, k ≤ n ∧ i = .int .i64 k ∧ HalfT wr w.heap.size k gs ∧ (∀ o, wr.frozen? ⟨w.heap.size, o, none⟩ = false) ∧ w.heap.size < wr.heap.size ∧ Below w.heap.size w wr) (fun i _ => n - (intOf i).toNat)
  case atStart => exact ⟨0, by omega, rfl, by rw [hO.out]; exact madeT _ _ _ _ _ rfl hn.out.symm, fun o => by rw [hO.out]; simp, by simp, by (repeat (first | exact Below.refl _ _ | assumption | refine bchain (by assumption) ?_ | refine balloc ?_ _ | apply Below.drew | apply below_drewN | (refine Below.alloc ?_ (by (try simp) <;> omega) _) | (refine Below.setCell ?_ (by (try simp) <;> omega) _)))⟩
  case round =>
    obtain ⟨k, hk, rfl, hh, hf, hz, hB⟩ := hrel
    by_cases hlt : k < n
    · have hg := hc.out k (by have := hn.out; omega)
      obtain ⟨x, y, z, s, t, hxy⟩ : ∃ x y z s t, tAt gs k = ⟨x, y, z, s, t⟩ := ⟨_, _, _, _, _, rfl⟩
      have sc0 : wr.cell? ⟨b, off + k * 5, none⟩ = some (.int .i64 x) := by rw [hB.cell (p := ⟨b, _, none⟩) hb, hg.1, hxy]
      have sc1 : wr.cell? ⟨b, off + k * 5 + 1, none⟩ = some (.int .i64 y) := by rw [hB.cell (p := ⟨b, _, none⟩) hb, hg.2.1, hxy]
      have sc2 : wr.cell? ⟨b, off + k * 5 + 2, none⟩ = some (.int .u32 z) := by rw [hB.cell (p := ⟨b, _, none⟩) hb, hg.2.2.1, hxy]
      have sc3 : wr.cell? ⟨b, off + k * 5 + 3, none⟩ = some (.int .i64 s) := by rw [hB.cell (p := ⟨b, _, none⟩) hb, hg.2.2.2.1, hxy]
      have sc4 : wr.cell? ⟨b, off + k * 5 + 4, none⟩ = some (.int .i64 t) := by rw [hB.cell (p := ⟨b, _, none⟩) hb, hg.2.2.2.2, hxy]
      have hset := Lib.hid (fun (W : World) (h : HalfT W w.heap.size k gs) => h.set (k := k) (by have := hn.out; omega))
      rw [hxy] at hset
      clear hg hxy
      replace hh := Lib.hid hh
      replace hf := Lib.hid hf
      go_wp2_with fail
      refine (toTerm_any _ x y z s t).mono ?_
      rintro r3 w3 ⟨rfl, hb3⟩
      have hh3 := hh.out.below hb3 hz
      have hz3 := Nat.lt_of_lt_of_le hz hb3.size
      have ht := hh3 k (by have := hn.out; omega)
      rw [if_neg (by omega)] at ht
      have t0 : w3.cell? ⟨w.heap.size, k * 5, none⟩ = some (.int .i64 0) := by have := ht.1; rwa [Nat.zero_add] at this
      have t1 : w3.cell? ⟨w.heap.size, k * 5 + 1, none⟩ = some (.int .i64 0) := by have := ht.2.1; rwa [Nat.zero_add] at this
      have t2 : w3.cell? ⟨w.heap.size, k * 5 + 2, none⟩ = some (.int .u32 0) := by have := ht.2.2.1; rwa [Nat.zero_add] at this
      have t3 : w3.cell? ⟨w.heap.size, k * 5 + 3, none⟩ = some (.int .i64 0) := by have := ht.2.2.2.1; rwa [Nat.zero_add] at this
      have t4 : w3.cell? ⟨w.heap.size, k * 5 + 4, none⟩ = some (.int .i64 0) := by have := ht.2.2.2.2; rwa [Nat.zero_add] at this
      have hf3 : ∀ o, w3.frozen? ⟨w.heap.size, o, none⟩ = false := fun o => (hb3.frozen (p := ⟨w.heap.size, o, none⟩) hz).trans (hf.out o)
      have f0 := hf3 (k * 5)
      have f1 := hf3 (k * 5 + 1)
      have f2 := hf3 (k * 5 + 2)
      have f3 := hf3 (k * 5 + 3)
      have f4 := hf3 (k * 5 + 4)
      have hn2 := Lib.hid (hset.out w3 hh3)
      have hB3 : Below w.heap.size w w3 := by (repeat (first | exact Below.refl _ _ | assumption | refine bchain (by assumption) ?_ | refine balloc ?_ _ | apply Below.drew | apply below_drewN | (refine Below.alloc ?_ (by (try simp) <;> omega) _) | (refine Below.setCell ?_ (by (try simp) <;> omega) _)))
      have hF5 : Hid (∀ o, (((((w3.setCell ⟨w.heap.size, k * 5, none⟩ (.int .i64 x)).setCell ⟨w.heap.size, k * 5 + 1, none⟩ (.int .i64 y)).setCell ⟨w.heap.size, k * 5 + 2, none⟩ (.int .u32 z)).setCell ⟨w.heap.size, k * 5 + 3, none⟩ (.int .i64 s)).setCell ⟨w.heap.size, k * 5 + 4, none⟩ (.int .i64 t)).frozen? ⟨w.heap.size, o, none⟩ = false) := fun o => by simp [hf3 o]
      have hz5 : Hid (w.heap.size < (((((w3.setCell ⟨w.heap.size, k * 5, none⟩ (.int .i64 x)).setCell ⟨w.heap.size, k * 5 + 1, none⟩ (.int .i64 y)).setCell ⟨w.heap.size, k * 5 + 2, none⟩ (.int .u32 z)).setCell ⟨w.heap.size, k * 5 + 3, none⟩ (.int .i64 s)).setCell ⟨w.heap.size, k * 5 + 4, none⟩ (.int .i64 t)).heap.size) := by show _ < _; simpa using hz3
      have hB5 := Lib.hid (((((hB3.setCell (p := ⟨w.heap.size, k * 5, none⟩) (Nat.le_refl _) (.int .i64 x)).setCell (p := ⟨w.heap.size, k * 5 + 1, none⟩) (Nat.le_refl _) (.int .i64 y)).setCell (p := ⟨w.heap.size, k * 5 + 2, none⟩) (Nat.le_refl _) (.int .u32 z)).setCell (p := ⟨w.heap.size, k * 5 + 3, none⟩) (Nat.le_refl _) (.int .i64 s)).setCell (p := ⟨w.heap.size, k * 5 + 4, none⟩) (Nat.le_refl _) (.int .i64 t))
      replace hf3 := Lib.hid hf3
      clear hh3 ht hB3
      go_wp2
      go_roundw
      case rel => exact ⟨k + 1, by omega, by go_num, hn2.out, hF5.out, hz5.out, hB5.out⟩
      case measure => simp [intOf]; omega
    · have hd := decide_eq_false (show ¬ ((k : Int) < (n : Int)) by omega)
      obtain rfl : k = n := by omega
      replace hh := Lib.hid hh
      replace hf := Lib.hid hf
      go_wp2
      go_ret
      refine ⟨⟨_, rfl, ?_⟩, hB⟩
      have e := hn.out
      subst e
      exact ⟨HalfT.done hh.out hz (Nat.le_refl _) (by omega), _, _, rfl, fun _ => ⟨_, rfl, Nat.le_refl _, hz, hf.out⟩⟩
theorem toTs_any (v : Value) (gs : List TE) (h : SlT w v gs) (hm : gs.length ≤ 1048576) :
    Calls Try.prog 22 #[v] w fun r w' => (∃ u, r = .returned u ∧ SlT w' u gs ∧ NewT w w' u gs.length) ∧ Below w.heap.size w w' := by
  obtain ⟨a, cap, rfl, h1, h2, h3⟩ := h
  cases gs with
  | nil => exact toTs_empty w a cap
  | cons z zs =>
    obtain ⟨b, off, rfl, hb, hc⟩ := h3 (by simp)
    exact toTs_some w b off cap (z :: zs) (by simp) h1 hm hb hc
theorem eqTs_empty (a a' : Option Addr) (cap cap' : Nat) :
    Calls Try.prog 30 #[.slice a 0 cap, .slice a' 0 cap'] w fun r w' => r = .returned (.bool true) ∧ Below w.heap.size w w' := by
  go_enter Try.func30, Try.ntmps30
  go_wp2
  go_loopw [5] (fun i wr => i = .int .i64 0 ∧ Below w.heap.size w wr) (fun _ _ => 0)
  case atStart => exact ⟨rfl, by (repeat (first | exact Below.refl _ _ | assumption | refine bchain (by assumption) ?_ | refine balloc ?_ _ | apply Below.drew | apply below_drewN | (refine Below.alloc ?_ (by (try simp) <;> omega) _) | (refine Below.setCell ?_ (by (try simp) <;> omega) _)))⟩
  case round =>
    obtain ⟨rfl, hb⟩ := hrel
    go_wp2
    go_ret
    exact ⟨rfl, hb⟩
set_option maxHeartbeats 1000000 in
theorem eqTs_some (b off cap b' off' cap' : Nat) (gs : List TE) (h1 : 0 < gs.length) (hm : gs.length ≤ 1048576) (hb : b < w.heap.size) (hb' : b' < w.heap.size)
    (hc : ∀ i, i < gs.length → TCell w b off (tAt gs i) i) (hc' : ∀ i, i < gs.length → TCell w b' off' (tAt gs i) i) :
    Calls Try.prog 30 #[.slice (some ⟨b, off, none⟩) gs.length cap, .slice (some ⟨b', off', none⟩) gs.length cap'] w fun r w' => r = .returned (.bool true) ∧ Below w.heap.size w w' := by
  obtain ⟨n, hn⟩ : ∃ n, n = gs.length := ⟨_, rfl⟩
  rw [← hn] at h1 hm ⊢
  replace hn := Lib.hid hn
  replace hc := Lib.hid hc
  replace hc' := Lib.hid hc'
  go_enter Try.func30, Try.ntmps30
  go_wp2
  go_loopw [5] (fun i wr => ∃ k : Nat, k ≤ n ∧ i = .int .i64 k ∧ Below w.heap.size w wr) (fun i _ => n - (intOf i).toNat)
  case atStart => exact ⟨0, by omega, rfl, by (repeat (first | exact Below.refl _ _ | assumption | refine bchain (by assumption) ?_ | refine balloc ?_ _ | apply Below.drew | apply below_drewN | (refine Below.alloc ?_ (by (try simp) <;> omega) _) | (refine Below.setCell ?_ (by (try simp) <;> omega) _)))⟩
  case round =>
    obtain ⟨k, hk, rfl, hB⟩ := hrel
    by_cases hlt : k < n
    · have hg := hc.out k (by have := hn.out; omega)
      have hg' := hc'.out k (by have := hn.out; omega)
      obtain ⟨x, y, z, s, t, hxy⟩ : ∃ x y z s t, tAt gs k = ⟨x, y, z, s, t⟩ := ⟨_, _, _, _, _, rfl⟩
      have sc0 : wr.cell? ⟨b, off + k * 5, none⟩ = some (.int .i64 x) := by rw [hB.cell (p := ⟨b, _, none⟩) hb, hg.1, hxy]
      have sc1 : wr.cell? ⟨b, off + k * 5 + 1, none⟩ = some (.int .i64 y) := by rw [hB.cell (p := ⟨b, _, none⟩) hb, hg.2.1, hxy]
      have sc2 : wr.cell? ⟨b, off + k * 5 + 2, none⟩ = some (.int .u32 z) := by rw [hB.cell (p := ⟨b, _, none⟩) hb, hg.2.2.1, hxy]
      have sc3 : wr.cell? ⟨b, off + k * 5 + 3, none⟩ = some (.int .i64 s) := by rw [hB.cell (p := ⟨b, _, none⟩) hb, hg.2.2.2.1, hxy]
      have sc4 : wr.cell? ⟨b, off + k * 5 + 4, none⟩ = some (.int .i64 t) := by rw [hB.cell (p := ⟨b, _, none⟩) hb, hg.2.2.2.2, hxy]
      have tc0 : wr.cell? ⟨b', off' + k * 5, none⟩ = some (.int .i64 x) := by rw [hB.cell (p := ⟨b', _, none⟩) hb', hg'.1, hxy]
      have tc1 : wr.cell? ⟨b', off' + k * 5 + 1, none⟩ = some (.int .i64 y) := by rw [hB.cell (p := ⟨b', _, none⟩) hb', hg'.2.1, hxy]
      have tc2 : wr.cell? ⟨b', off' + k * 5 + 2, none⟩ = some (.int .u32 z) := by rw [hB.cell (p := ⟨b', _, none⟩) hb', hg'.2.2.1, hxy]
      have tc3 : wr.cell? ⟨b', off' + k * 5 + 3, none⟩ = some (.int .i64 s) := by rw [hB.cell (p := ⟨b', _, none⟩) hb', hg'.2.2.2.1, hxy]
      have tc4 : wr.cell? ⟨b', off' + k * 5 + 4, none⟩ = some (.int .i64 t) := by rw [hB.cell (p := ⟨b', _, none⟩) hb', hg'.2.2.2.2, hxy]
      have hE := Lib.hid (eqTerm_any wr.drew x y z s t)
      have hk1 : (k : Int) < (n : Int) := by omega
      clear hg hg' hxy
      go_wp2
      go_still_tail 8, (by kernel_rfl)
      change wpList _ _ _ _ _ wr.drew
      go_wp2_with (go_at_call 53; refine (hE.out).mono ?_; rintro r3 w3 ⟨rfl, hb3⟩)
      go_roundw
      case rel => exact ⟨k + 1, by omega, by go_num, by (repeat (first | exact Below.refl _ _ | assumption | refine bchain (by assumption) ?_ | refine balloc ?_ _ | apply Below.drew | apply below_drewN | (refine Below.alloc ?_ (by (try simp) <;> omega) _) | (refine Below.setCell ?_ (by (try simp) <;> omega) _)))⟩
      case measure => simp [intOf]; omega
    · have hd := decide_eq_false (show ¬ ((k : Int) < (n : Int)) by omega)
      go_wp2
      go_ret
      exact ⟨rfl, hB⟩
theorem eqTs_any (u v : Value) (gs : List TE) (h : SlT w u gs) (h' : SlT w v gs) (hm : gs.length ≤ 1048576) :
    Calls Try.prog 30 #[u, v] w fun r w' => r = .returned (.bool true) ∧ Below w.heap.size w w' := by
  obtain ⟨a, cap, rfl, h1, h2, h3⟩ := h
  obtain ⟨a', cap', rfl, h1', h2', h3'⟩ := h'
  cases gs with
  | nil => exact eqTs_empty w a a' cap cap'
  | cons z zs =>
    obtain ⟨b, off, rfl, hb, hc⟩ := h3 (by simp)
    obtain ⟨b', off', rfl, hb', hc'⟩ := h3' (by simp)
    exact eqTs_some w b off cap b' off' cap' (z :: zs) (by simp) hm hb hb' hc hc'
end
end Go.Proofs.Ytfnjgdocmfmfgab
/-
  A SUM OF FLAGS THAT COMES IN, OPENED TO ITS CELLS.
-/
namespace Go.Proofs.Ytfnjgdocmfmfgab
open Go.ChangeShapes Go.WideShapes Go.ChangeAt Go.RowKit Go.Deep
set_option maxRecDepth 100000

/-- a sum as numbers -/
structure SM where
  n : Int
  e : Int
  s : Int
  ts : List TE
def BdT (gs : List TE) : Prop := ∀ i, i < gs.length → 0 ≤ (tAt gs i).e ∧ (tAt gs i).e < 4294967296
def BdS (X : SM) : Prop := 0 ≤ X.e ∧ X.e < 4294967296 ∧ BdT X.ts
def SumS (w : World) (v : Value) (X : SM) : Prop := ∃ u, v = .agg #[.int .i64 X.n, .int .u32 X.e, .int .i64 X.s, u] ∧ SlT w u X.ts
theorem SumS.below {w w' : World} {v : Value} {X : SM} (h : SumS w v X) (hb : Below w.heap.size w w') : SumS w' v X := by
  obtain ⟨u, e, h1⟩ := h
  exact ⟨u, e, h1.below hb⟩
theorem cellsLT : Try.prog.cellsOf 84 = 5 := by kernel_rfl
theorem cellsLFr : Try.prog.cellsOf 82 = 2 := by kernel_rfl
theorem cellsLSum : Try.prog.cellsOf 27 = 4 := by kernel_rfl
theorem cellsLTs : Try.prog.cellsOf 25 = 1 := by kernel_rfl
theorem open_ts {H : Type} {enc : TypeId × Value → H} {W : World} {fuel : Nat} {v : Value} {x : DataW H × List MemPlace} (hf : DataW.trod enc Try.prog W 0 (fun _ => true) true fuel 25 [v] = some x) :
    ∃ gs : List TE, SlT W v gs ∧ BdT gs := by
  rcases open_slice Try.underlying25 hf with ⟨hcs, hx⟩ | ⟨a, len, cap, m, n, D, Pl, hcs, _, hl, hm, hmm, hx, hi⟩
  · cases hcs
    exact ⟨[], ⟨none, 0, rfl, by simp, by simp, fun c => absurd rfl c⟩, fun i hi => by simp at hi⟩
  · cases hcs
    simp only [if_true] at hmm
    have hel : ∀ i, i < len → ∃ x y z s t : Int, W.cell? (a.add (i * 5)) = some (.int .i64 x) ∧ W.cell? (a.add (i * 5 + 1)) = some (.int .i64 y) ∧ W.cell? (a.add (i * 5 + 2)) = some (.int .u32 z) ∧ W.cell? (a.add (i * 5 + 3)) = some (.int .i64 s) ∧ W.cell? (a.add (i * 5 + 4)) = some (.int .i64 t) ∧ (Lit.int .u32 z).wf = true := fun i hi2 => by
      obtain ⟨cs', h1, h2⟩ := hi i (by omega)
      rw [cellsLT] at h1
      obtain ⟨_, hlen, hcell⟩ := World.cells?_some h1
      match cs', hlen with
      | [v0, v1, v2, v3, v4], _ =>
        have e0 := hcell 0 (by omega)
        have e1 := hcell 1 (by omega)
        have e2 := hcell 2 (by omega)
        have e3 := hcell 3 (by omega)
        have e4 := hcell 4 (by omega)
        rw [add_add] at e0 e1 e2 e3 e4
        obtain ⟨x0, x1, n0, _, _, s0, s1⟩ := trod_struct2 Try.underlying84 h2
        obtain ⟨y0, y1, n1, _, _, t0, t1⟩ := trod_struct2 Try.underlying81 s0
        obtain ⟨z0, z1, n2, _, _, g0, g1⟩ := trod_struct2 Try.underlying24 t1
        obtain ⟨q0, q1, n3, _, _, f0, f1⟩ := trod_struct2 Try.underlying82 s1
        simp only [cellsKI, cellsKU, cellsLG, cellsLK, cellsLFr] at t0 g0 g1 f0 f1
        obtain ⟨x, c0, _, _⟩ := DataW.trod_int Try.underlying2 t0
        obtain ⟨y, c1, _, _⟩ := DataW.trod_int Try.underlying2 g0
        obtain ⟨z, c2, _, wz⟩ := DataW.trod_int Try.underlying22 g1
        obtain ⟨s, c3, _, _⟩ := DataW.trod_int Try.underlying2 f0
        obtain ⟨t, c4, _, _⟩ := DataW.trod_int Try.underlying2 f1
        simp at c0 c1 c2 c3 c4
        subst c0 c1 c2 c3 c4
        exact ⟨x, y, z, s, t, by simpa using e0, by simpa using e1, by simpa using e2, by simpa using e3, by simpa using e4, wz⟩
    refine ⟨(List.range len).map fun i => ⟨(W.cell? (a.add (i * 5))).elim 0 intOf, (W.cell? (a.add (i * 5 + 1))).elim 0 intOf, (W.cell? (a.add (i * 5 + 2))).elim 0 intOf, (W.cell? (a.add (i * 5 + 3))).elim 0 intOf, (W.cell? (a.add (i * 5 + 4))).elim 0 intOf⟩, ⟨some a, cap, by simp, by simpa using hl, by unfold maxLen at hm; omega, fun hne => ?_⟩, fun i hi2 => ?_⟩
    · have hlen : 0 < len := by
        rcases Nat.eq_zero_or_pos len with h0 | h0
        · subst h0; exact absurd rfl hne
        · exact h0
      obtain ⟨b, off, spot⟩ := a
      have hspot : spot = none := by
        obtain ⟨x, y, z, s, t, h0, _⟩ := hel 0 hlen
        simpa [Addr.add] using World.cell?_spot h0
      subst hspot
      refine ⟨b, off, rfl, ?_, fun i hi2 => ?_⟩
      · obtain ⟨x, y, z, s, t, h0, _⟩ := hel 0 hlen
        exact World.block_lt_of_cell? W _ h0
      · rw [List.length_map, List.length_range] at hi2
        obtain ⟨x, y, z, s, t, h0, h1, h2, h3, h4, _⟩ := hel i hi2
        unfold TCell tAt
        rw [List.getElem?_map, List.getElem?_range hi2]
        simp only [Option.map_some, Option.getD_some, h0, h1, h2, h3, h4, Option.elim_some, intOf]
        rw [add_plain] at h0 h1 h2 h3 h4
        exact ⟨h0, h1, h2, h3, h4⟩
    · rw [List.length_map, List.length_range] at hi2
      obtain ⟨x, y, z, s, t, h0, h1, h2, h3, h4, wz⟩ := hel i hi2
      unfold tAt
      rw [List.getElem?_map, List.getElem?_range hi2]
      simp only [Option.map_some, Option.getD_some, h2, Option.elim_some, intOf]
      have := bounds_u32 wz
      exact ⟨this.1, by omega⟩
theorem open_lsum {H : Type} {enc : TypeId × Value → H} {W : World} {base : Nat} {v : Value} {d : DataW H} {p : List MemPlace} (hv : Value.okWide Try.prog W .any base 27 v) (h : DataW.Trod enc Try.prog W 0 (fun _ => true) true 27 v d p) :
    ∃ X : SM, SumS W v X ∧ BdS X := by
  obtain ⟨cs, rfl, hsz⟩ := okWide_struct Try.underlying27 hv
  obtain ⟨fuel, hf⟩ := h
  rw [cellsLSum] at hsz
  obtain ⟨l⟩ := cs
  match l, hsz with
  | [v0, v1, v2, v3], _ =>
    obtain ⟨y0, y1, y2, n, _, _, h0, h1, h2⟩ := trod_struct3 Try.underlying27 hf
    obtain ⟨z0, z1, m, _, _, g0, g1⟩ := trod_struct2 Try.underlying24 h0
    simp only [Value.cells, cellsKI, cellsKU, cellsLG, cellsLTs] at h0 h1 h2 g0 g1
    obtain ⟨a, e0, _, _⟩ := DataW.trod_int Try.underlying2 g0
    obtain ⟨b, e1, _, wb⟩ := DataW.trod_int Try.underlying22 g1
    obtain ⟨c, e2, _, _⟩ := DataW.trod_int Try.underlying2 h1
    simp at e0 e1 e2
    subst e0 e1 e2
    obtain ⟨gs, hgs, hbd⟩ := open_ts (v := v3) (by simpa using h2)
    have := bounds_u32 wb
    exact ⟨⟨a, b, c, gs⟩, ⟨v3, rfl, hgs⟩, this.1, by show b < _; omega, hbd⟩
end Go.Proofs.Ytfnjgdocmfmfgab
/-
  A LIST OF GRAPHS OF THE LAWS' OWN, COPIED: the copy is new memory.
-/
namespace Go.Proofs.Ytfnjgdocmfmfgab
open Go.RowKit
set_option maxRecDepth 100000

theorem ownG_zero2 (w0 w : World) (a : Option Addr) : OwnG w0 w (.slice a 0 0) [] := ⟨a, 0, rfl, by simp, by simp, fun c => absurd c (by simp)⟩
theorem cv_of_cells {w : World} {B : Nat} {gs : List (Int × Int)} (h : ∀ i, i < gs.length → GCell w B 0 (gAt gs i) i) : CV w B (gs.length * 2) (fun c => (gsC gs)[c]?.getD undef) := fun i hi => by
  obtain ⟨q, hq⟩ : ∃ q, q = i / 2 := ⟨_, rfl⟩
  have hql : q < gs.length := by omega
  have hc := h q hql
  unfold GCell at hc
  rw [Nat.zero_add] at hc
  obtain ⟨g0, g1⟩ := gsC_get gs q hql
  have hcase : i = q * 2 ∨ i = q * 2 + 1 := by omega
  rcases hcase with rfl | rfl
  · show _ = some ((gsC gs)[q * 2]?.getD undef)
    rw [g0]
    exact hc.1
  · show _ = some ((gsC gs)[q * 2 + 1]?.getD undef)
    rw [g1]
    exact hc.2
section
variable (w : World)
theorem toGo_empty (a : Option Addr) (cap : Nat) :
    Calls Try.prog 8 #[.slice a 0 cap] w fun r w' => (∃ v, r = .returned v ∧ OwnG w w' v []) ∧ Below w.heap.size w w' := by
  obtain ⟨i0, hi0, hz0, hs0, hb0⟩ := info_parts info_graph
  have hmk : ∀ W : World, (Instr.makeSlice 42 (.int .i64 0) (.int .i64 0)).run Try.prog W = .ok (.slice (some ⟨W.heap.size, 0, none⟩) 0 0) (W.alloc (.cells (madeCells #[.int .i64 0, .int .u32 0] (0 * 2)) 33)) := fun W => by
    have hr := run_make (P := Try.prog) W 42 33 i0 (.agg #[.int .i64 0, .int .u32 0]) Try.underlying42 hi0 hz0 .i64 .i64 ((0 : Nat) : Int) ((0 : Nat) : Int) (by omega) (by omega) (by rw [hb0]; omega) (by omega)
    simp only [Int.toNat_natCast, hs0] at hr
    exact hr
  clear hi0 hz0 hs0 hb0
  go_enter Try.func8, Try.ntmps8
  go_wp2
  go_loopw [4] (fun i wr => i = .int .i64 0 ∧ Below w.heap.size w wr) (fun _ _ => 0)
  case atStart => exact ⟨rfl, by (repeat (first | exact Below.refl _ _ | assumption | refine bchain (by assumption) ?_ | refine balloc ?_ _ | apply Below.drew | apply below_drewN | (refine Below.alloc ?_ (by (try simp) <;> omega) _) | (refine Below.setCell ?_ (by (try simp) <;> omega) _)))⟩
  case round =>
    obtain ⟨rfl, hb⟩ := hrel
    go_wp2
    go_ret
    exact ⟨⟨_, rfl, ownG_zero2 _ _ _⟩, hb⟩
set_option maxHeartbeats 1000000 in
theorem toGo_some (b off cap : Nat) (gs : List (Int × Int)) (h1 : 0 < gs.length) (h2 : gs.length ≤ cap) (hm : gs.length ≤ 1048576) (hb : b < w.heap.size) (hc : ∀ i, i < gs.length → GCell w b off (gAt gs i) i) :
    Calls Try.prog 8 #[.slice (some ⟨b, off, none⟩) gs.length cap] w fun r w' => (∃ v, r = .returned v ∧ OwnG w w' v gs) ∧ Below w.heap.size w w' := by
  obtain ⟨i0, hi0, hz0, hs0, hb0⟩ := info_parts info_graph
  obtain ⟨O, hO⟩ : ∃ O, O = Obj.cells (madeCells #[.int .i64 0, .int .u32 0] (gs.length * 2)) 33 := ⟨_, rfl⟩
  obtain ⟨n, hn⟩ : ∃ n, n = gs.length := ⟨_, rfl⟩
  rw [← hn] at h1 h2 hm hO ⊢
  have hmk : ∀ W : World, (Instr.makeSlice 42 (.int .i64 n) (.int .i64 n)).run Try.prog W = .ok (.slice (some ⟨W.heap.size, 0, none⟩) n n) (W.alloc O) := fun W => by
    have hr := run_make (P := Try.prog) W 42 33 i0 (.agg #[.int .i64 0, .int .u32 0]) Try.underlying42 hi0 hz0 .i64 .i64 (n : Int) (n : Int) (by omega) (by omega) (by rw [hb0]; omega) (by omega)
    simp only [Int.toNat_natCast, hs0] at hr
    rw [hO]
    exact hr
  clear hi0 hz0 hs0 hb0
  replace hO := Lib.hid hO
  replace hn := Lib.hid hn
  replace hc := Lib.hid hc
  go_enter Try.func8, Try.ntmps8
  go_wp2
  go_loopw [4] (fun i wr => ∃ k : Nat, k ≤ n ∧ i = .int .i64 k ∧ HalfG wr w.heap.size k gs ∧ (∀ o, wr.frozen? ⟨w.heap.size, o, none⟩ = false) ∧ w.heap.size < wr.heap.size ∧ Below w.heap.size w wr) (fun i _ => n - (intOf i).toNat)
  case atStart => exact ⟨0, by omega, rfl, by rw [hO.out]; exact madeG _ _ _ _ _ rfl hn.out.symm, fun o => by rw [hO.out]; simp, by simp, by (repeat (first | exact Below.refl _ _ | assumption | refine bchain (by assumption) ?_ | refine balloc ?_ _ | apply Below.drew | apply below_drewN | (refine Below.alloc ?_ (by (try simp) <;> omega) _) | (refine Below.setCell ?_ (by (try simp) <;> omega) _)))⟩
  case round =>
    obtain ⟨k, hk, rfl, hh, hf, hz, hB⟩ := hrel
    by_cases hlt : k < n
    · have hg := hc.out k (by have := hn.out; omega)
      obtain ⟨x, y, hxy⟩ : ∃ x y, gAt gs k = (x, y) := ⟨_, _, rfl⟩
      have hs0 : wr.cell? ⟨b, off + k * 2, none⟩ = some (.int .i64 x) := by rw [hB.cell (p := ⟨b, _, none⟩) hb, hg.1, hxy]
      have hs1 : wr.cell? ⟨b, off + k * 2 + 1, none⟩ = some (.int .u32 y) := by rw [hB.cell (p := ⟨b, _, none⟩) hb, hg.2, hxy]
      have hset := Lib.hid (fun (W : World) (h : HalfG W w.heap.size k gs) => h.set (k := k) (by have := hn.out; omega))
      rw [hxy] at hset
      clear hg hxy
      replace hh := Lib.hid hh
      replace hf := Lib.hid hf
      go_wp2_with fail
      refine (toGraph_any _ x y).mono ?_
      rintro r3 w3 ⟨rfl, hb3⟩
      have hh3 := hh.out.below hb3 hz
      have hz3 := Nat.lt_of_lt_of_le hz hb3.size
      have ht := hh3 k (by have := hn.out; omega)
      rw [if_neg (by omega)] at ht
      have t0 : w3.cell? ⟨w.heap.size, k * 2, none⟩ = some (.int .i64 0) := by have := ht.1; rwa [Nat.zero_add] at this
      have t1 : w3.cell? ⟨w.heap.size, k * 2 + 1, none⟩ = some (.int .u32 0) := by have := ht.2; rwa [Nat.zero_add] at this
      have hf3 : ∀ o, w3.frozen? ⟨w.heap.size, o, none⟩ = false := fun o => (hb3.frozen (p := ⟨w.heap.size, o, none⟩) hz).trans (hf.out o)
      have f0 := hf3 (k * 2)
      have f1 := hf3 (k * 2 + 1)
      have hn2 := Lib.hid (hset.out w3 hh3)
      replace hf3 := Lib.hid hf3
      clear hh3 ht
      go_wp2
      go_roundw
      case rel => exact ⟨k + 1, by omega, by go_num, hn2.out, fun o => by simp [hf3.out o], by simp; omega, by (repeat (first | exact Below.refl _ _ | assumption | refine bchain (by assumption) ?_ | refine balloc ?_ _ | apply Below.drew | apply below_drewN | (refine Below.alloc ?_ (by (try simp) <;> omega) _) | (refine Below.setCell ?_ (by (try simp) <;> omega) _)))⟩
      case measure => simp [intOf]; omega
    · have hd := decide_eq_false (show ¬ ((k : Int) < (n : Int)) by omega)
      obtain rfl : k = n := by omega
      replace hh := Lib.hid hh
      replace hf := Lib.hid hf
      go_wp2
      go_ret
      refine ⟨⟨_, rfl, ?_⟩, hB⟩
      have e := hn.out
      subst e
      exact ⟨_, _, rfl, Nat.le_refl _, by omega, fun _ => ⟨w.heap.size, rfl, Nat.le_refl _, hz, cv_of_cells (fun i hi => by have := hh.out i hi; rw [if_pos hi] at this; exact this), hf.out⟩⟩
theorem toGo_any (v : Value) (gs : List (Int × Int)) (h : SlG w v gs) (hm : gs.length ≤ 1048576) :
    Calls Try.prog 8 #[v] w fun r w' => (∃ u, r = .returned u ∧ OwnG w w' u gs) ∧ Below w.heap.size w w' := by
  obtain ⟨a, cap, rfl, h1, h2, h3⟩ := h
  cases gs with
  | nil => exact toGo_empty w a cap
  | cons z zs =>
    obtain ⟨b, off, rfl, hb, hc⟩ := h3 (by simp)
    exact toGo_some w b off cap (z :: zs) (by simp) h1 hm hb hc
end
end Go.Proofs.Ytfnjgdocmfmfgab
/-
  LISTS OF TERMS IN A BLOCK OF THEIR OWN: what writes marks into such a list, and what asks for them.
-/
namespace Go.Proofs.Ytfnjgdocmfmfgab
open Go.RowKit
set_option maxRecDepth 100000

/-- the first t cells hold the numbers from k on -/
def mkT (k t : Nat) (f : Nat → Value) (c : Nat) : Value := if c < t then (if c % 5 = 2 then .int .u32 ((k : Int) + (c : Nat)) else .int .i64 ((k : Int) + (c : Nat))) else f c
theorem mkT_zero (k : Nat) (f : Nat → Value) (c : Nat) : mkT k 0 f c = f c := by unfold mkT; rw [if_neg (by omega)]
theorem mkT_out {k t : Nat} {f : Nat → Value} {c : Nat} (h : t ≤ c) : mkT k t f c = f c := by unfold mkT; rw [if_neg (by omega)]
theorem mkT_old (k t : Nat) (f : Nat → Value) (c : Nat) (h : c ≠ t) : mkT k (t + 1) f c = mkT k t f c := by
  unfold mkT
  by_cases h1 : c < t
  · rw [if_pos h1, if_pos (by omega)]
  · rw [if_neg h1, if_neg (by omega)]
theorem mkT_lo {k t : Nat} {f : Nat → Value} (h : t % 5 ≠ 2) : mkT k (t + 1) f t = .int .i64 ((k : Int) + (t : Nat)) := by unfold mkT; rw [if_pos (by omega), if_neg h]
theorem mkT_hi {k t : Nat} {f : Nat → Value} (h : t % 5 = 2) : mkT k (t + 1) f t = .int .u32 ((k : Int) + (t : Nat)) := by unfold mkT; rw [if_pos (by omega), if_pos h]
theorem mkT_lo' {k t N : Nat} {f : Nat → Value} (hN : t < N) (h : t % 5 ≠ 2) : mkT k N f t = .int .i64 ((k : Int) + (t : Nat)) := by unfold mkT; rw [if_pos hN, if_neg h]
theorem mkT_hi' {k t N : Nat} {f : Nat → Value} (hN : t < N) (h : t % 5 = 2) : mkT k N f t = .int .u32 ((k : Int) + (t : Nat)) := by unfold mkT; rw [if_pos hN, if_pos h]
theorem CV.loT {w : World} {B N k t : Nat} {f : Nat → Value} (h : CV w B N (mkT k t f)) (ht : t < N) (hs : t % 5 ≠ 2) {x : Int} (hx : x = (k : Int) + (t : Nat)) : CV (w.setCell ⟨B, t, none⟩ (.int .i64 x)) B N (mkT k (t + 1) f) :=
  h.set ht (by rw [hx]; exact mkT_lo hs) (fun i hi => mkT_old k t f i hi)
theorem CV.hiT {w : World} {B N k t : Nat} {f : Nat → Value} (h : CV w B N (mkT k t f)) (ht : t < N) (hs : t % 5 = 2) {x : Int} (hx : x = (k : Int) + (t : Nat)) : CV (w.setCell ⟨B, t, none⟩ (.int .u32 x)) B N (mkT k (t + 1) f) :=
  h.set ht (by rw [hx]; exact mkT_hi hs) (fun i hi => mkT_old k t f i hi)
section
variable (w : World)
end
end Go.Proofs.Ytfnjgdocmfmfgab
namespace Go.Proofs.Ytfnjgdocmfmfgab
open Go.RowKit
set_option maxRecDepth 100000
/-- terms as cells -/
def tsC (gs : List TE) : List Value := gs.flatMap fun g => [.int .i64 g.k, .int .i64 g.n, .int .u32 g.e, .int .i64 g.p, .int .i64 g.q]
theorem tsC_snoc (gs : List TE) (g : TE) : tsC (gs ++ [g]) = tsC gs ++ [.int .i64 g.k, .int .i64 g.n, .int .u32 g.e, .int .i64 g.p, .int .i64 g.q] := by simp [tsC]
theorem tsC_length (gs : List TE) : (tsC gs).length = gs.length * 5 := by
  induction gs with
  | nil => rfl
  | cons g gs ih => simp only [tsC, List.flatMap_cons, List.length_append, List.length_cons, List.length_nil] at ih ⊢; omega
theorem tsC_get : ∀ (gs : List TE) (i : Nat), i < gs.length → (tsC gs)[i * 5]? = some (.int .i64 (tAt gs i).k) ∧ (tsC gs)[i * 5 + 1]? = some (.int .i64 (tAt gs i).n) ∧ (tsC gs)[i * 5 + 2]? = some (.int .u32 (tAt gs i).e) ∧ (tsC gs)[i * 5 + 3]? = some (.int .i64 (tAt gs i).p) ∧ (tsC gs)[i * 5 + 4]? = some (.int .i64 (tAt gs i).q) := by
  intro gs
  induction gs with
  | nil => intro i hi; simp at hi
  | cons g gs ih =>
    intro i hi
    have e : tsC (g :: gs) = .int .i64 g.k :: .int .i64 g.n :: .int .u32 g.e :: .int .i64 g.p :: .int .i64 g.q :: tsC gs := rfl
    rw [e]
    cases i with
    | zero => exact ⟨rfl, rfl, rfl, rfl, rfl⟩
    | succ i =>
      have := ih i (by simpa using hi)
      have h5 : ∀ (a b c d f : Value) (l : List Value) (m : Nat), (a :: b :: c :: d :: f :: l)[m + 5]? = l[m]? := fun a b c d f l m => rfl
      rw [show (i + 1) * 5 = i * 5 + 5 by omega, show i * 5 + 5 + 1 = i * 5 + 1 + 5 by omega, show i * 5 + 5 + 2 = i * 5 + 2 + 5 by omega, show i * 5 + 5 + 3 = i * 5 + 3 + 5 by omega, show i * 5 + 5 + 4 = i * 5 + 4 + 5 by omega, h5, h5, h5, h5, h5]
      exact this
/-- in the world w the value v is a list of the terms gs, in memory that w0 did not have -/
def OwnT (w0 w : World) (v : Value) (gs : List TE) : Prop := OwnV w0 w v gs.length 5 (fun c => (tsC gs)[c]?.getD undef)
theorem OwnT.below {w0 w w' : World} {v : Value} {gs : List TE} (h : OwnT w0 w v gs) (hb : Below w.heap.size w w') : OwnT w0 w' v gs := OwnV.below h hb
theorem OwnT.mono {w0 w1 w : World} {v : Value} {gs : List TE} (h : OwnT w1 w v gs) (hz : w0.heap.size ≤ w1.heap.size) : OwnT w0 w v gs := OwnV.mono h hz
theorem OwnT.sl {w0 w : World} {v : Value} {gs : List TE} (h : OwnT w0 w v gs) : SlT w v gs := by
  obtain ⟨a, cap, rfl, h1, h2, h3⟩ := h
  refine ⟨a, cap, rfl, h1, h2, fun hne => ?_⟩
  obtain ⟨B, rfl, _, hB, hc, _⟩ := h3 (List.length_pos_iff.2 hne)
  refine ⟨B, 0, rfl, hB, fun i hi => ?_⟩
  obtain ⟨g0, g1, g2, g3, g4⟩ := tsC_get gs i hi
  have c0 : w.cell? ⟨B, i * 5, none⟩ = some ((tsC gs)[i * 5]?.getD undef) := hc (i * 5) (by omega)
  have c1 : w.cell? ⟨B, i * 5 + 1, none⟩ = some ((tsC gs)[i * 5 + 1]?.getD undef) := hc (i * 5 + 1) (by omega)
  have c2 : w.cell? ⟨B, i * 5 + 2, none⟩ = some ((tsC gs)[i * 5 + 2]?.getD undef) := hc (i * 5 + 2) (by omega)
  have c3 : w.cell? ⟨B, i * 5 + 3, none⟩ = some ((tsC gs)[i * 5 + 3]?.getD undef) := hc (i * 5 + 3) (by omega)
  have c4 : w.cell? ⟨B, i * 5 + 4, none⟩ = some ((tsC gs)[i * 5 + 4]?.getD undef) := hc (i * 5 + 4) (by omega)
  rw [g0] at c0
  rw [g1] at c1
  rw [g2] at c2
  rw [g3] at c3
  rw [g4] at c4
  unfold TCell
  rw [Nat.zero_add]
  exact ⟨c0, c1, c2, c3, c4⟩
theorem ownT_of_row {w0 w : World} {base : Nat} {e : TypeId} {v : Value} {gs : List TE} (h : w.ownsRow base e 5 v gs.length (tsC gs)) (hb : w0.heap.size ≤ base) : OwnT w0 w v gs := ownV_of_row h hb
theorem ownT_new {w0 w : World} {v : Value} {gs : List TE} (h : SlT w v gs) (hn : NewT w0 w v gs.length) : OwnT w0 w v gs := by
  obtain ⟨a, cap, rfl, h1, h2, h3⟩ := h
  obtain ⟨a', cap', e, hn⟩ := hn
  cases e
  refine ⟨a, cap, rfl, h1, h2, fun hl => ?_⟩
  obtain ⟨B, rfl, hB0, hB, hf⟩ := hn hl
  obtain ⟨b, off, e, _, hc⟩ := h3 (List.length_pos_iff.1 hl)
  cases e
  refine ⟨B, rfl, hB0, hB, fun c hc2 => ?_, hf⟩
  obtain ⟨i, r, hr, rfl⟩ : ∃ i r, r < 5 ∧ c = i * 5 + r := ⟨c / 5, c % 5, Nat.mod_lt _ (by omega), by omega⟩
  have hi : i < gs.length := by omega
  obtain ⟨g0, g1, g2, g3, g4⟩ := tsC_get gs i hi
  have ht := hc i hi
  unfold TCell at ht
  rw [Nat.zero_add] at ht
  obtain ⟨t0, t1, t2, t3, t4⟩ := ht
  match r, hr with
  | 0, _ => show w.cell? ⟨B, i * 5, none⟩ = some ((tsC gs)[i * 5]?.getD undef); rw [t0, g0]; rfl
  | 1, _ => show w.cell? ⟨B, i * 5 + 1, none⟩ = some ((tsC gs)[i * 5 + 1]?.getD undef); rw [t1, g1]; rfl
  | 2, _ => show w.cell? ⟨B, i * 5 + 2, none⟩ = some ((tsC gs)[i * 5 + 2]?.getD undef); rw [t2, g2]; rfl
  | 3, _ => show w.cell? ⟨B, i * 5 + 3, none⟩ = some ((tsC gs)[i * 5 + 3]?.getD undef); rw [t3, g3]; rfl
  | 4, _ => show w.cell? ⟨B, i * 5 + 4, none⟩ = some ((tsC gs)[i * 5 + 4]?.getD undef); rw [t4, g4]; rfl
theorem ownT_nil {w0 w : World} : OwnT w0 w (.slice none 0 0) [] := ownV_nil
end Go.Proofs.Ytfnjgdocmfmfgab
/-
  SUMS OF FLAGS AS RESULTS: copied, compared, marked.
-/
namespace Go.Proofs.Ytfnjgdocmfmfgab
open Go.RowKit
set_option maxRecDepth 100000

def sumV (n e s : Int) (u : Value) : Value := .agg #[.int .i64 n, .int .u32 e, .int .i64 s, u]
/-- a sum and a code are handed back, the sum in memory of the call's own -/
def RetS (W : World) (X : SM) (c : Int) (r : Ending) (w' : World) : Prop := (∃ u, r = .returned (.tuple #[.agg #[.int .i64 X.n, .int .u32 X.e, .int .i64 X.s, u], .int .i64 c]) ∧ OwnT W w' u X.ts) ∧ Below W.heap.size W w'
/-- a sum's box -/
structure SB (W : World) (B : Nat) (n e s : Int) (u : Value) : Prop where
  lt : B < W.heap.size
  c0 : W.cell? ⟨B, 0, none⟩ = some (.int .i64 n)
  c1 : W.cell? ⟨B, 1, none⟩ = some (.int .u32 e)
  c2 : W.cell? ⟨B, 2, none⟩ = some (.int .i64 s)
  c3 : W.cell? ⟨B, 3, none⟩ = some (u)
  fz : ∀ o, W.frozen? ⟨B, o, none⟩ = false
theorem SB.drew {W : World} {B : Nat} {n e s : Int} {u : Value} (h : SB W B n e s u) : SB W.drew B n e s u := ⟨h.lt, h.c0, h.c1, h.c2, h.c3, h.fz⟩
theorem SB.below {W W' : World} {B : Nat} {n e s : Int} {u : Value} (h : SB W B n e s u) (hb : Below W.heap.size W W') : SB W' B n e s u :=
  ⟨Nat.lt_of_lt_of_le h.lt hb.size, (hb.cell (p := ⟨B, 0, none⟩) h.lt).trans h.c0, (hb.cell (p := ⟨B, 1, none⟩) h.lt).trans h.c1, (hb.cell (p := ⟨B, 2, none⟩) h.lt).trans h.c2, (hb.cell (p := ⟨B, 3, none⟩) h.lt).trans h.c3, fun o => (hb.frozen (p := ⟨B, o, none⟩) h.lt).trans (h.fz o)⟩
theorem SB.made (W : World) (n e s : Int) (u : Value) (t : TypeId) : SB (W.alloc (.cells #[.int .i64 n, .int .u32 e, .int .i64 s, u] t)) W.heap.size n e s u :=
  ⟨by simp, by rw [World.cell?_alloc_new]; rfl, by rw [World.cell?_alloc_new]; rfl, by rw [World.cell?_alloc_new]; rfl, by rw [World.cell?_alloc_new]; rfl, fun o => by simp⟩
theorem SB.other {W : World} {B : Nat} {n e s : Int} {u : Value} (h : SB W B n e s u) {a : Addr} (v : Value) (hp : a.block ≠ B) : SB (W.setCell a v) B n e s u := by
  have hs : (W.setCell a v).heap[B]? = W.heap[B]? := Below.heap_setCell _ _ _ _ (by omega)
  exact ⟨by simpa using h.lt, (World.cell?_of_block (a := ⟨B, 0, none⟩) hs).trans h.c0, (World.cell?_of_block (a := ⟨B, 1, none⟩) hs).trans h.c1, (World.cell?_of_block (a := ⟨B, 2, none⟩) hs).trans h.c2, (World.cell?_of_block (a := ⟨B, 3, none⟩) hs).trans h.c3, fun o => by simp [h.fz o]⟩
theorem SB.putT {W : World} {B : Nat} {n e s : Int} {u : Value} (h : SB W B n e s u) (n' : Int) (e' : Int) : SB ((W.setCell ⟨B, 0, none⟩ (.int .i64 n')).setCell ⟨B, 1, none⟩ (.int .u32 e')) B n' e' s u :=
  ⟨by simpa using h.lt, ((World.cell?_setCell_other _ _ _ _ (by simp)).trans (World.cell?_setCell_same _ _ _ h.c0)), (World.cell?_setCell_same _ _ _ ((World.cell?_setCell_other _ _ _ _ (by simp)).trans h.c1)), ((World.cell?_setCell_other _ _ _ _ (by simp)).trans ((World.cell?_setCell_other _ _ _ _ (by simp)).trans h.c2)), ((World.cell?_setCell_other _ _ _ _ (by simp)).trans ((World.cell?_setCell_other _ _ _ _ (by simp)).trans h.c3)), fun o => by simp [h.fz o]⟩
theorem SB.putN {W : World} {B : Nat} {n e s : Int} {u : Value} (h : SB W B n e s u) (s' : Int) : SB (W.setCell ⟨B, 2, none⟩ (.int .i64 s')) B n e s' u :=
  ⟨by simpa using h.lt, ((World.cell?_setCell_other _ _ _ _ (by simp)).trans h.c0), ((World.cell?_setCell_other _ _ _ _ (by simp)).trans h.c1), (World.cell?_setCell_same _ _ _ h.c2), ((World.cell?_setCell_other _ _ _ _ (by simp)).trans h.c3), fun o => by simp [h.fz o]⟩
theorem SB.putL {W : World} {B : Nat} {n e s : Int} {u : Value} (h : SB W B n e s u) (u' : Value) : SB (W.setCell ⟨B, 3, none⟩ (u')) B n e s u' :=
  ⟨by simpa using h.lt, ((World.cell?_setCell_other _ _ _ _ (by simp)).trans h.c0), ((World.cell?_setCell_other _ _ _ _ (by simp)).trans h.c1), ((World.cell?_setCell_other _ _ _ _ (by simp)).trans h.c2), (World.cell?_setCell_same _ _ _ h.c3), fun o => by simp [h.fz o]⟩
theorem SB.all {W : World} {B : Nat} {n e s : Int} {u : Value} (h : SB W B n e s u) (n' : Int) (e' : Int) (s' : Int) (u' : Value) : SB ((((W.setCell ⟨B, 0, none⟩ (.int .i64 n')).setCell ⟨B, 1, none⟩ (.int .u32 e')).setCell ⟨B, 2, none⟩ (.int .i64 s')).setCell ⟨B, 3, none⟩ (u')) B n' e' s' u' :=
  ⟨by simpa using h.lt, ((World.cell?_setCell_other _ _ _ _ (by simp)).trans ((World.cell?_setCell_other _ _ _ _ (by simp)).trans ((World.cell?_setCell_other _ _ _ _ (by simp)).trans (World.cell?_setCell_same _ _ _ h.c0)))), ((World.cell?_setCell_other _ _ _ _ (by simp)).trans ((World.cell?_setCell_other _ _ _ _ (by simp)).trans (World.cell?_setCell_same _ _ _ ((World.cell?_setCell_other _ _ _ _ (by simp)).trans h.c1)))), ((World.cell?_setCell_other _ _ _ _ (by simp)).trans (World.cell?_setCell_same _ _ _ ((World.cell?_setCell_other _ _ _ _ (by simp)).trans ((World.cell?_setCell_other _ _ _ _ (by simp)).trans h.c2)))), (World.cell?_setCell_same _ _ _ ((World.cell?_setCell_other _ _ _ _ (by simp)).trans ((World.cell?_setCell_other _ _ _ _ (by simp)).trans ((World.cell?_setCell_other _ _ _ _ (by simp)).trans h.c3)))), fun o => by simp [h.fz o]⟩
theorem SB.chg {W W' : World} {B : Nat} {n e s : Int} {u : Value} {Own : Nat → Prop} (h : SB W B n e s u) (hc : Chg Own W W') (hn : ¬ Own B) : SB W' B n e s u := by
  have hs := hc.same B h.lt hn
  exact ⟨Nat.lt_of_lt_of_le h.lt hc.size, (World.cell?_of_block (a := ⟨B, 0, none⟩) hs).trans h.c0, (World.cell?_of_block (a := ⟨B, 1, none⟩) hs).trans h.c1, (World.cell?_of_block (a := ⟨B, 2, none⟩) hs).trans h.c2, (World.cell?_of_block (a := ⟨B, 3, none⟩) hs).trans h.c3, fun o => by have := h.fz o; unfold World.frozen? at this ⊢; rw [hs]; exact this⟩
/-- a sum is put into a new box -/
theorem SB.put (W : World) (n e s : Int) (u : Value) (t : TypeId) : SB (((((W.alloc (.cells #[.int .i64 0, .int .u32 0, .int .i64 0, .slice none 0 0] t)).setCell ⟨W.heap.size, 0, none⟩ (.int .i64 n)).setCell ⟨W.heap.size, 1, none⟩ (.int .u32 e)).setCell ⟨W.heap.size, 2, none⟩ (.int .i64 s)).setCell ⟨W.heap.size, 3, none⟩ u) W.heap.size n e s u := (SB.made W 0 0 0 (.slice none 0 0) t).all n e s u
theorem below_put (W : World) (n e s : Int) (u : Value) (t : TypeId) : Below W.heap.size W (((((W.alloc (.cells #[.int .i64 0, .int .u32 0, .int .i64 0, .slice none 0 0] t)).setCell ⟨W.heap.size, 0, none⟩ (.int .i64 n)).setCell ⟨W.heap.size, 1, none⟩ (.int .u32 e)).setCell ⟨W.heap.size, 2, none⟩ (.int .i64 s)).setCell ⟨W.heap.size, 3, none⟩ u) :=
  ((((balloc (Below.refl _ _) _).setCell (p := ⟨W.heap.size, 0, none⟩) (Nat.le_refl _) _).setCell (p := ⟨W.heap.size, 1, none⟩) (Nat.le_refl _) _).setCell (p := ⟨W.heap.size, 2, none⟩) (Nat.le_refl _) _).setCell (p := ⟨W.heap.size, 3, none⟩) (Nat.le_refl _) _
theorem OwnT.four {w W5 W : World} {B : Nat} {u : Value} {ts : List TE} (h : OwnT W5 W u ts) (hz5 : B < W5.heap.size) (hw5 : w.heap.size ≤ W5.heap.size) (a b c d : Value) :
    OwnT w ((((W.setCell ⟨B, 0, none⟩ a).setCell ⟨B, 1, none⟩ b).setCell ⟨B, 2, none⟩ c).setCell ⟨B, 3, none⟩ d) u ts := by
  have hs : ∀ (A : World) (x : Addr) (v : Value), x.block < W5.heap.size → OwnT W5 A u ts → OwnT W5 (A.setCell x v) u ts := fun A x v hx h => OwnV.chg h (Chg.setCell (Own := fun b => b < W5.heap.size) _ _ _ hx) (fun b hb => hb)
  exact OwnT.mono (hs _ _ _ hz5 (hs _ _ _ hz5 (hs _ _ _ hz5 (hs _ _ _ hz5 h)))) hw5
section
variable (w : World)
theorem szS_ok (v : Value) (X : SM) (h : SumS w v X) (hm : X.ts.length ≤ 1048576) :
    Calls Try.prog 4 #[v, .int .i64 1048576] w fun r w' => r = .returned (.int .i64 (1048576 - (X.ts.length : Int))) ∧ Below w.heap.size w w' := by
  obtain ⟨n, e, s, ts⟩ := X
  obtain ⟨u, rfl, a, cap, rfl, _, _, _⟩ := h
  have hC := Lib.hid (fun W => szt_ok W a ts.length cap hm)
  have hl : ts.length ≤ 1048576 := hm
  obtain ⟨l, hld⟩ : ∃ l, ts.length = l := ⟨_, rfl⟩
  show Calls _ _ _ _ fun r w' => r = .returned (.int .i64 (1048576 - (ts.length : Int))) ∧ _
  show Calls _ _ #[.agg #[.int .i64 n, .int .u32 e, .int .i64 s, .slice a ts.length cap], _] _ _
  rw [hld] at hC hl ⊢
  clear hm hld
  go_enter Try.func4, Try.ntmps4
  go_wp2_with (go_at_call 14; refine (hC.out _).mono ?_; rintro r1 w1 ⟨rfl, rfl⟩)
  go_ret
  exact ⟨rfl, by (repeat (first | exact Below.refl _ _ | assumption | refine bchain (by assumption) ?_ | refine balloc ?_ _ | apply Below.drew | apply below_drewN | (refine Below.alloc ?_ (by (try simp) <;> omega) _) | (refine Below.setCell ?_ (by (try simp) <;> omega) _)))⟩
theorem szS_long (v : Value) (X : SM) (h : SumS w v X) (hm : 1048576 < X.ts.length) :
    Calls Try.prog 4 #[v, .int .i64 1048576] w fun r w' => r = .returned (.int .i64 (-1)) ∧ Below w.heap.size w w' := by
  obtain ⟨n, e, s, ts⟩ := X
  obtain ⟨u, rfl, a, cap, rfl, h1, h2, _⟩ := h
  have hl : 1048576 < ts.length := hm
  have hC := Lib.hid (fun W => szt_long W a ts.length cap hl (by have : ts.length ≤ cap := h1; omega))
  obtain ⟨l, hld⟩ : ∃ l, ts.length = l := ⟨_, rfl⟩
  show Calls _ _ #[.agg #[.int .i64 n, .int .u32 e, .int .i64 s, .slice a ts.length cap], _] _ _
  rw [hld] at hC ⊢
  clear hm hld hl h1 h2
  go_enter Try.func4, Try.ntmps4
  go_wp2_with (go_at_call 14; refine (hC.out _).mono ?_; rintro r1 w1 ⟨rfl, rfl⟩)
  go_ret
  exact ⟨rfl, by (repeat (first | exact Below.refl _ _ | assumption | refine bchain (by assumption) ?_ | refine balloc ?_ _ | apply Below.drew | apply below_drewN | (refine Below.alloc ?_ (by (try simp) <;> omega) _) | (refine Below.setCell ?_ (by (try simp) <;> omega) _)))⟩
theorem eqS_any (u v : Value) (X : SM) (h : SlT w u X.ts) (h' : SlT w v X.ts) (hm : X.ts.length ≤ 1048576) :
    Calls Try.prog 12 #[.agg #[.int .i64 X.n, .int .u32 X.e, .int .i64 X.s, u], .agg #[.int .i64 X.n, .int .u32 X.e, .int .i64 X.s, v]] w fun r w' => r = .returned (.bool true) ∧ Below w.heap.size w w' := by
  have hE := Lib.hid (fun W (hb : Below w.heap.size w W) => eqTs_any W u v X.ts (h.below hb) (h'.below hb) hm)
  obtain ⟨n, e, s, ts⟩ := X
  obtain ⟨a, cap, rfl, _⟩ := h
  obtain ⟨a', cap', rfl, _⟩ := h'
  have hG := Lib.hid (fun W => eqGraph_any W n e)
  dsimp only at hE hm ⊢
  obtain ⟨l, hld⟩ : ∃ l, ts.length = l := ⟨_, rfl⟩
  rw [hld] at hE ⊢
  clear hm hld
  go_enter Try.func12, Try.ntmps12
  go_wp2_with fail
  refine (hG.out _).mono ?_
  rintro r1 w1 ⟨rfl, hb1⟩
  obtain ⟨hc1, hz1⟩ := bkeep hb1 w.heap.size (by (try simp) <;> omega)
  obtain ⟨hc2, hz2⟩ := bkeep hb1 (w.heap.size + 1) (by (try simp) <;> omega)
  go_wp2_with fail
  refine (hE.out _ (by (repeat (first | exact Below.refl _ _ | assumption | refine bchain (by assumption) ?_ | refine balloc ?_ _ | apply Below.drew | apply below_drewN | (refine Below.alloc ?_ (by (try simp) <;> omega) _) | (refine Below.setCell ?_ (by (try simp) <;> omega) _))))).mono ?_
  rintro r2 w2 ⟨rfl, hb2⟩
  go_wp2
  go_ret
  exact ⟨rfl, by (repeat (first | exact Below.refl _ _ | assumption | refine bchain (by assumption) ?_ | refine balloc ?_ _ | apply Below.drew | apply below_drewN | (refine Below.alloc ?_ (by (try simp) <;> omega) _) | (refine Below.setCell ?_ (by (try simp) <;> omega) _)))⟩
theorem toS_any (v : Value) (X : SM) (h : SumS w v X) (hm : X.ts.length ≤ 1048576) :
    Calls Try.prog 7 #[v] w fun r w' => (∃ u, r = .returned (.agg #[.int .i64 X.n, .int .u32 X.e, .int .i64 X.s, u]) ∧ OwnT w w' u X.ts) ∧ Below w.heap.size w w' := by
  obtain ⟨n, e, s, ts⟩ := X
  obtain ⟨u, rfl, h⟩ := h
  have hT := Lib.hid (fun W (hb : Below w.heap.size w W) => toTs_any W u ts (h.below hb) hm)
  dsimp only at hm ⊢
  obtain ⟨a, cap, rfl, _⟩ := h
  obtain ⟨l, hld⟩ : ∃ l, ts.length = l := ⟨_, rfl⟩
  rw [hld] at hT ⊢
  clear hm
  replace hld := Lib.hid hld
  obtain ⟨W3, hW3⟩ : ∃ W3, W3 = ((w.alloc (.cells #[.int .i64 n, .int .u32 e, .int .i64 s, .slice a l cap] 27)).alloc (.cells #[.int .i64 0, .int .u32 0, .int .i64 0, .slice none 0 0] 40)).alloc (.cells #[.int .i64 0, .int .u32 0, .int .i64 0, .slice none 0 0] 40) := ⟨_, rfl⟩
  have hB3 : Below w.heap.size w W3 := by rw [hW3]; (repeat (first | exact Below.refl _ _ | assumption | refine bchain (by assumption) ?_ | refine balloc ?_ _ | apply Below.drew | apply below_drewN | (refine Below.alloc ?_ (by (try simp) <;> omega) _) | (refine Below.setCell ?_ (by (try simp) <;> omega) _)))
  have sz : ∀ (W : World) (o : Obj), (W.alloc o).heap.size = W.heap.size + 1 := fun W o => by simp
  have tA : SB W3 w.heap.size n e s (.slice a l cap) := by rw [hW3]; exact (((SB.made w n e s _ _).below (balloc (Below.refl _ _) _)).below (balloc (Below.refl _ _) _))
  have tR : SB W3 (w.heap.size + 1) 0 0 0 (.slice none 0 0) := by rw [hW3, ← sz w (.cells #[.int .i64 n, .int .u32 e, .int .i64 s, .slice a l cap] 27)]; exact (SB.made _ 0 0 0 _ 40).below (balloc (Below.refl _ _) _)
  have tO : SB W3 (w.heap.size + 1 + 1) 0 0 0 (.slice none 0 0) := by rw [hW3, ← sz w (.cells #[.int .i64 n, .int .u32 e, .int .i64 s, .slice a l cap] 27), ← sz _ (.cells #[.int .i64 0, .int .u32 0, .int .i64 0, .slice none 0 0] 40)]; exact SB.made _ 0 0 0 _ 40
  clear sz
  replace hW3 := Lib.hid hW3
  obtain ⟨ltA, a0, a1, a2, a3, _⟩ := id tA
  go_enter Try.func7, Try.ntmps7
  go_wp2_with fail
  rw [← hW3.out]
  go_wp2_with fail
  refine (toGraph_any _ n e).mono ?_
  rintro r1 w1 ⟨rfl, hb1⟩
  replace tA := tA.below hb1
  replace tR := tR.below hb1
  replace tO := tO.below hb1
  replace hB3 := bchain hb1 hB3
  clear hb1 a0 a1 a2 a3 ltA
  obtain ⟨ltA, a0, a1, a2, a3, _⟩ := id tA
  obtain ⟨ltO, o0, o1, o2, o3, fO⟩ := id tO
  obtain ⟨W5, hW5⟩ : ∃ W5, W5 = ((w1.setCell ⟨w.heap.size + 1 + 1, 0, none⟩ (.int .i64 n)).setCell ⟨w.heap.size + 1 + 1, 1, none⟩ (.int .u32 e)).setCell ⟨w.heap.size + 1 + 1, 2, none⟩ (.int .i64 s) := ⟨_, rfl⟩
  have kA : SB W5 w.heap.size n e s (.slice a l cap) := by rw [hW5]; exact (((tA.other _ (by show w.heap.size + 1 + 1 ≠ w.heap.size; omega)).other _ (by show w.heap.size + 1 + 1 ≠ w.heap.size; omega)).other _ (by show w.heap.size + 1 + 1 ≠ w.heap.size; omega))
  have kR : SB W5 (w.heap.size + 1) 0 0 0 (.slice none 0 0) := by rw [hW5]; exact (((tR.other _ (by show w.heap.size + 1 + 1 ≠ w.heap.size + 1; omega)).other _ (by show w.heap.size + 1 + 1 ≠ w.heap.size + 1; omega)).other _ (by show w.heap.size + 1 + 1 ≠ w.heap.size + 1; omega))
  have kO : SB W5 (w.heap.size + 1 + 1) n e s (.slice none 0 0) := by rw [hW5]; exact (tO.putT n e).putN s
  have kB : Below w.heap.size w W5 := by rw [hW5]; exact ((hB3.setCell (p := ⟨w.heap.size + 1 + 1, 0, none⟩) (by show w.heap.size ≤ w.heap.size + 1 + 1; omega) _).setCell (p := ⟨w.heap.size + 1 + 1, 1, none⟩) (by show w.heap.size ≤ w.heap.size + 1 + 1; omega) _).setCell (p := ⟨w.heap.size + 1 + 1, 2, none⟩) (by show w.heap.size ≤ w.heap.size + 1 + 1; omega) _
  obtain ⟨_, b0, b1, b2, b3, fB⟩ := id kO
  obtain ⟨_, d0, d1, d2, d3, _⟩ := id kA
  have hz5a : w.heap.size + 1 < W5.heap.size := kR.lt
  have hz5b : w.heap.size + 1 + 1 < W5.heap.size := kO.lt
  have hw5 : w.heap.size ≤ W5.heap.size := kB.size
  replace hW5 := Lib.hid hW5
  clear tA tR tO hB3
  go_wp2_with fail
  rw [← hW5.out]
  refine (hT.out _ (by (repeat (first | exact Below.refl _ _ | assumption | refine bchain (by assumption) ?_ | refine balloc ?_ _ | apply Below.drew | apply below_drewN | (refine Below.alloc ?_ (by (try simp) <;> omega) _) | (refine Below.setCell ?_ (by (try simp) <;> omega) _))))).mono ?_
  rintro r2 w2 ⟨⟨u2, rfl, hU, hN⟩, hb2⟩
  have hU := ownT_new hU (by rw [hld.out]; exact hN)
  clear hN
  obtain ⟨a2', cap2, rfl, _⟩ := id hU
  replace hU := Lib.hid hU
  replace kR := kR.below hb2
  replace kO := kO.below hb2
  replace kB := bchain hb2 kB
  clear a0 a1 a2 a3 ltA o0 o1 o2 o3 ltO fO kA b0 b1 b2 b3 d0 d1 d2 d3 fB
  obtain ⟨ltO, o0, o1, o2, o3, fO⟩ := id kO
  obtain ⟨ltR, u0, u1, u2, u3, fR⟩ := id kR
  obtain ⟨z, hz⟩ : ∃ z, ts.length = z := ⟨_, rfl⟩
  rw [hz]
  have hU2 : Hid (OwnT W5 w2 (.slice a2' z cap2) ts) := by have := hU.out; rw [hz] at this; exact this
  clear hU hz
  obtain ⟨W6, hW6⟩ : ∃ W6, W6 = w2.setCell ⟨w.heap.size + 1 + 1, 3, none⟩ (.slice a2' z cap2) := ⟨_, rfl⟩
  have jR : SB W6 (w.heap.size + 1) 0 0 0 (.slice none 0 0) := by rw [hW6]; exact (kR.other _ (by show w.heap.size + 1 + 1 ≠ w.heap.size + 1; omega))
  have jB : Below w.heap.size w W6 := by rw [hW6]; exact kB.setCell (p := ⟨w.heap.size + 1 + 1, 3, none⟩) (by show w.heap.size ≤ w.heap.size + 1 + 1; omega) _
  have jF := jR.all n e s (.slice a2' z cap2)
  have jBB := (((jB.setCell (p := ⟨w.heap.size + 1, 0, none⟩) (by show w.heap.size ≤ w.heap.size + 1; omega) (.int .i64 n)).setCell (p := ⟨w.heap.size + 1, 1, none⟩) (by show w.heap.size ≤ w.heap.size + 1; omega) (.int .u32 e)).setCell (p := ⟨w.heap.size + 1, 2, none⟩) (by show w.heap.size ≤ w.heap.size + 1; omega) (.int .i64 s)).setCell (p := ⟨w.heap.size + 1, 3, none⟩) (by show w.heap.size ≤ w.heap.size + 1; omega) (.slice a2' z cap2)
  clear kR kO kB jR jB
  go_wp2
  rw [← hW6]
  obtain ⟨WW, hWW⟩ : ∃ WW, WW = (((W6.setCell ⟨w.heap.size + 1, 0, none⟩ (.int .i64 n)).setCell ⟨w.heap.size + 1, 1, none⟩ (.int .u32 e)).setCell ⟨w.heap.size + 1, 2, none⟩ (.int .i64 s)).setCell ⟨w.heap.size + 1, 3, none⟩ (.slice a2' z cap2) := ⟨_, rfl⟩
  have hO : OwnT W5 WW (.slice a2' z cap2) ts := by
    rw [hWW, hW6]
    have hs : ∀ (A : World) (x : Addr) (u : Value), x.block < W5.heap.size → OwnT W5 A (.slice a2' z cap2) ts → OwnT W5 (A.setCell x u) (.slice a2' z cap2) ts := fun A x u hx h => OwnV.chg h (Chg.setCell (Own := fun b => b < W5.heap.size) _ _ _ hx) (fun b hb => hb)
    exact hs _ _ _ hz5a (hs _ _ _ hz5a (hs _ _ _ hz5a (hs _ _ _ hz5a (hs _ _ _ hz5b hU2.out))))
  rw [← hWW] at jF jBB ⊢
  clear hWW hW6
  obtain ⟨_, v0, v1, v2, v3, _⟩ := jF
  exact bodyPost_ret (v := .agg #[.int .i64 n, .int .u32 e, .int .i64 s, .slice a2' z cap2]) (by simp [results, Try.results7, go_sem, v0, v1, v2, v3]) rfl ⟨⟨_, rfl, hO.mono hw5⟩, jBB⟩
end
end Go.Proofs.Ytfnjgdocmfmfgab
namespace Go.Proofs.Ytfnjgdocmfmfgab
open Go.RowKit
set_option maxRecDepth 100000
/-- may a sum have a type with so many vertices, and a size -/
def frB (m s : Int) : Bool := decide (m ≤ 3 ∧ m ≤ s ∧ s ≤ 5)
section
variable (w : World)
theorem ihf_any (m f s : Int) :
    Calls Try.prog 41 #[.agg #[.int .i64 m, .int .u32 f], .int .i64 s] w fun r w' => r = .returned (.bool (frB m s)) ∧ Below w.heap.size w w' := by
  unfold frB
  by_cases h1 : m ≤ 3
  · by_cases h2 : m ≤ s
    · by_cases h3 : s ≤ 5
      · rw [decide_eq_true (show m ≤ 3 ∧ m ≤ s ∧ s ≤ 5 from ⟨h1, h2, h3⟩)]
        go_enter Try.func41, Try.ntmps41
        go_wp2
        go_ret
        exact ⟨rfl, by (repeat (first | exact Below.refl _ _ | assumption | refine bchain (by assumption) ?_ | refine balloc ?_ _ | apply Below.drew | apply below_drewN | (refine Below.alloc ?_ (by (try simp) <;> omega) _) | (refine Below.setCell ?_ (by (try simp) <;> omega) _)))⟩
      · rw [decide_eq_false (show ¬ (m ≤ 3 ∧ m ≤ s ∧ s ≤ 5) from fun c => h3 c.2.2)]
        go_enter Try.func41, Try.ntmps41
        go_wp2
        go_ret
        exact ⟨rfl, by (repeat (first | exact Below.refl _ _ | assumption | refine bchain (by assumption) ?_ | refine balloc ?_ _ | apply Below.drew | apply below_drewN | (refine Below.alloc ?_ (by (try simp) <;> omega) _) | (refine Below.setCell ?_ (by (try simp) <;> omega) _)))⟩
    · rw [decide_eq_false (show ¬ (m ≤ 3 ∧ m ≤ s ∧ s ≤ 5) from fun c => h2 c.2.1)]
      go_enter Try.func41, Try.ntmps41
      go_wp2
      go_ret
      exact ⟨rfl, by (repeat (first | exact Below.refl _ _ | assumption | refine bchain (by assumption) ?_ | refine balloc ?_ _ | apply Below.drew | apply below_drewN | (refine Below.alloc ?_ (by (try simp) <;> omega) _) | (refine Below.setCell ?_ (by (try simp) <;> omega) _)))⟩
  · rw [decide_eq_false (show ¬ (m ≤ 3 ∧ m ≤ s ∧ s ≤ 5) from fun c => h1 c.1)]
    go_enter Try.func41, Try.ntmps41
    go_wp2
    go_ret
    exact ⟨rfl, by (repeat (first | exact Below.refl _ _ | assumption | refine bchain (by assumption) ?_ | refine balloc ?_ _ | apply Below.drew | apply below_drewN | (refine Below.alloc ?_ (by (try simp) <;> omega) _) | (refine Below.setCell ?_ (by (try simp) <;> omega) _)))⟩
theorem sfr_any (m f s : Int) :
    Calls Try.prog 32 #[.agg #[.int .i64 m, .int .u32 f], .int .i64 s] w fun r w' => r = .returned (.bool (frB m s)) ∧ Below w.heap.size w w' := by
  unfold frB
  by_cases h1 : m ≤ 3
  · have hI := Lib.hid (fun W => show Calls Try.prog 37 #[.int .i64 s, .int .i64 m, .int .i64 5] W fun e w' => e = .returned (.bool (decide (m ≤ 3 ∧ m ≤ s ∧ s ≤ 5))) ∧ W = w' from by
      by_cases h2 : m ≤ s ∧ s ≤ 5
      · rw [decide_eq_true (show m ≤ 3 ∧ m ≤ s ∧ s ≤ 5 from ⟨h1, h2⟩)]; exact in_t W s m 5 h2.1 h2.2
      · rw [decide_eq_false (show ¬ (m ≤ 3 ∧ m ≤ s ∧ s ≤ 5) from fun c => h2 c.2)]; exact in_f W s m 5 (by omega))
    obtain ⟨b, hb⟩ : ∃ b, decide (m ≤ 3 ∧ m ≤ s ∧ s ≤ 5) = b := ⟨_, rfl⟩
    rw [hb] at hI ⊢
    clear hb
    go_enter Try.func32, Try.ntmps32
    go_wp2_with (go_at_call 37; refine (hI.out _).mono ?_; rintro r3 w3 ⟨rfl, rfl⟩)
    go_ret
    exact ⟨rfl, by (repeat (first | exact Below.refl _ _ | assumption | refine bchain (by assumption) ?_ | refine balloc ?_ _ | apply Below.drew | apply below_drewN | (refine Below.alloc ?_ (by (try simp) <;> omega) _) | (refine Below.setCell ?_ (by (try simp) <;> omega) _)))⟩
  · rw [decide_eq_false (show ¬ (m ≤ 3 ∧ m ≤ s ∧ s ≤ 5) from fun c => h1 c.1)]
    go_enter Try.func32, Try.ntmps32
    go_wp2
    go_ret
    exact ⟨rfl, by (repeat (first | exact Below.refl _ _ | assumption | refine bchain (by assumption) ?_ | refine balloc ?_ _ | apply Below.drew | apply below_drewN | (refine Below.alloc ?_ (by (try simp) <;> omega) _) | (refine Below.setCell ?_ (by (try simp) <;> omega) _)))⟩
end
end Go.Proofs.Ytfnjgdocmfmfgab
namespace Go.Proofs.Ytfnjgdocmfmfgab
open Go.RowKit
set_option maxRecDepth 100000
/-- the edges among the first k vertices -/
theorem and_first : ∀ k, k ≤ 3 → ∀ e, e < 1024 → e &&& (eMax k - 1) = onL e (List.range k) := by decide +kernel
theorem and_u32 (e m : Nat) (h1 : e < 4294967296) (h2 : m < 4294967296) : bits .and .u32 (e : Int) (m : Int) = ((e &&& m : Nat) : Int) := by
  rw [u32_and _ _ (by omega) (by omega) (by omega) (by omega)]
  simp
section
variable (w : World)
set_option maxHeartbeats 2000000 in
theorem ity_any (k n e : Nat) (h : VK k n e) :
    Calls Try.prog 67 #[.agg #[.int .i64 k, .int .i64 n, .int .u32 e]] w fun r w' => r = .returned (.agg #[.int .i64 k, .int .u32 (onL e (List.range k) : Nat)]) ∧ Below w.heap.size w w' := by
  have he : e < 1024 := by have := h.1.2.2.2; have := eMax_le n; simp at *; omega
  have hk3 : k ≤ 3 := by have := h.2.2.1; omega
  have hm := and_u32 e (eMax k - 1) (by omega) (by have := eMax_le k; omega)
  rw [and_first k hk3 e he] at hm
  obtain ⟨x, hx⟩ : ∃ x, onL e (List.range k) = x := ⟨_, rfl⟩
  rw [hx] at hm ⊢
  clear hx h
  go_enter Try.func67, Try.ntmps67
  go_wp2
  go_region_with (go_at_call 66; refine (ae_any _ k (by omega)).mono ?_; rintro r1 w1 ⟨rfl, rfl⟩)
  all_goals go_wp2
  all_goals exact bodyPost_ret (v := .agg #[.int .i64 k, .int .u32 x]) (by simp [results, Try.results67, go_sem]) rfl ⟨rfl, by (repeat (first | exact Below.refl _ _ | assumption | refine bchain (by assumption) ?_ | refine balloc ?_ _ | apply Below.drew | apply below_drewN | (refine Below.alloc ?_ (by (try simp) <;> omega) _) | (refine Below.setCell ?_ (by (try simp) <;> omega) _)))⟩
theorem ok_range : ∀ n, n ≤ 5 → ∀ k, k ≤ 3 → k ≤ n → okList n k (List.range k) = true := by decide +kernel
set_option maxHeartbeats 2000000 in
theorem sty_any (k n e : Nat) (h : VK k n e) :
    Calls Try.prog 55 #[.agg #[.int .i64 k, .int .i64 n, .int .u32 e]] w fun r w' => r = .returned (.agg #[.int .i64 k, .int .u32 (onL e (List.range k) : Nat)]) ∧ Below w.heap.size w w' := by
  have he : e < 1024 := by have := h.1.2.2.2; have := eMax_le n; simp at *; omega
  have hn5 : n ≤ 5 := by have := h.1.2.1; omega
  have hk3 : k ≤ 3 := by have := h.2.2.1; omega
  have hok := ok_range n hn5 k hk3 (by have := h.2.2.2; omega)
  have hS := Lib.hid (fun W v (hs : See (List.range k) v W) => sonL_any W v (List.range k) n k e hs hn5 (by omega) hok)
  obtain ⟨x, hx⟩ : ∃ x, onL e (List.range k) = x := ⟨_, rfl⟩
  rw [hx] at hS ⊢
  clear hx h hok
  go_enter Try.func55, Try.ntmps55
  go_wp2
  go_region_with (first
    | (go_at_call 56; refine (first_any _ k (by omega)).mono ?_; rintro r1 w1 ⟨⟨v, rfl, hO⟩, hb1⟩; have hsee := (hO.congr (fun i hi => lf_range k i hi)).see (by simp); replace hsee := Lib.hid hsee; clear hO; obtain ⟨hc1_0, hz1_0⟩ := bkeep hb1 w.heap.size (by (try simp) <;> omega); obtain ⟨hc1_1, hz1_1⟩ := bkeep hb1 (w.heap.size + 1) (by (try simp) <;> omega); have hf1_1 := bkeepz hb1 (w.heap.size + 1) (by (try simp) <;> omega))
    | (go_at_call 58; refine (hS.out _ _ hsee.out).mono ?_; rintro r2 w2 ⟨rfl, hb2⟩; obtain ⟨hc2_1, hz2_1⟩ := bkeep hb2 (w.heap.size + 1) hz1_1; have hf2_1 := bkeepz hb2 (w.heap.size + 1) hz1_1))
  all_goals go_wp2
  all_goals have h0 : w2.cell? ⟨w.heap.size + 1, 0, none⟩ = some (.int .i64 0) := by rw [hc2_1, hc1_1]; simp [go_sem]
  all_goals have h1 : w2.cell? ⟨w.heap.size + 1, 1, none⟩ = some (.int .u32 0) := by rw [hc2_1, hc1_1]; simp [go_sem]
  all_goals have h2 := twoCells h0 h1 (.int .i64 k) (.int .u32 x)
  all_goals exact bodyPost_ret (v := .agg #[.int .i64 k, .int .u32 x]) (by simp [results, Try.results55, go_sem, h2.1, h2.2]) rfl ⟨rfl, by (repeat (first | exact Below.refl _ _ | assumption | refine bchain (by assumption) ?_ | refine balloc ?_ _ | apply Below.drew | apply below_drewN | (refine Below.alloc ?_ (by (try simp) <;> omega) _) | (refine Below.setCell ?_ (by (try simp) <;> omega) _)))⟩
end
end Go.Proofs.Ytfnjgdocmfmfgab
/-
  SumOfFlag: both contracts.
-/
namespace Go.Proofs.Ytfnjgdocmfmfgab
open Go.RowKit
set_option maxRecDepth 100000
/-- what a cell holds -/
def cellOf (w : World) (a : Addr) : Value := (w.cell? a).getD undef
theorem cellOf_of {w : World} {a : Addr} {v : Value} (h : w.cell? a = some v) : w.cell? a = some (cellOf w a) := by unfold cellOf; rw [h]; rfl
/-- a flag's box, and a sum's behind it -/
def OneS (G : Nat) (k n e : Int) (A : World) : Prop := A.cell? ⟨G, 0, none⟩ = some (.int .i64 k) ∧ A.cell? ⟨G, 1, none⟩ = some (.int .i64 n) ∧ A.cell? ⟨G, 2, none⟩ = some (.int .u32 e) ∧
  A.cell? ⟨G + 1, 0, none⟩ = some (cellOf A ⟨G + 1, 0, none⟩) ∧ A.cell? ⟨G + 1, 1, none⟩ = some (cellOf A ⟨G + 1, 1, none⟩) ∧ A.cell? ⟨G + 1, 2, none⟩ = some (cellOf A ⟨G + 1, 2, none⟩) ∧ A.cell? ⟨G + 1, 3, none⟩ = some (cellOf A ⟨G + 1, 3, none⟩) ∧
  A.frozen? ⟨G + 1, 0, none⟩ = false ∧ A.frozen? ⟨G + 1, 1, none⟩ = false ∧ A.frozen? ⟨G + 1, 2, none⟩ = false ∧ A.frozen? ⟨G + 1, 3, none⟩ = false
structure One0 (w : World) (G : Nat) (k n e : Int) : Prop where
  fc : FC w G k n e
  sb : SB w (G + 1) 0 0 0 (.slice none 0 0)
theorem One0.below {w W : World} {G : Nat} {k n e : Int} (h : One0 w G k n e) (hb : Below w.heap.size w W) : One0 W G k n e := ⟨h.fc.below hb, h.sb.below hb⟩
theorem One0.s {w : World} {G : Nat} {k n e : Int} (h : One0 w G k n e) : OneS G k n e w := ⟨h.fc.c0, h.fc.c1, h.fc.c2, cellOf_of h.sb.c0, cellOf_of h.sb.c1, cellOf_of h.sb.c2, cellOf_of h.sb.c3, h.sb.fz _, h.sb.fz _, h.sb.fz _, h.sb.fz _⟩
theorem One0.held {w W S : World} {G : Nat} {k n e x y z : Int} {u : Value} (h : One0 w G k n e) (hb : Below w.heap.size w W) (hS : S = (((W.setCell ⟨G + 1, 0, none⟩ (.int .i64 x)).setCell ⟨G + 1, 1, none⟩ (.int .u32 y)).setCell ⟨G + 1, 2, none⟩ (.int .i64 z)).setCell ⟨G + 1, 3, none⟩ u) : OneS G k n e S := by
  have q := h.below hb
  have hs := q.sb.all x y z u
  have hf := (((q.fc.other (p := ⟨G + 1, 0, none⟩) (.int .i64 x) (by show G + 1 ≠ G; omega)).other (p := ⟨G + 1, 1, none⟩) (.int .u32 y) (by show G + 1 ≠ G; omega)).other (p := ⟨G + 1, 2, none⟩) (.int .i64 z) (by show G + 1 ≠ G; omega)).other (p := ⟨G + 1, 3, none⟩) u (by show G + 1 ≠ G; omega)
  subst hS
  exact ⟨hf.c0, hf.c1, hf.c2, cellOf_of hs.c0, cellOf_of hs.c1, cellOf_of hs.c2, cellOf_of hs.c3, hs.fz _, hs.fz _, hs.fz _, hs.fz _⟩
theorem One0.made (w : World) (k n e : Int) : One0 ((w.alloc (.cells #[.int .i64 k, .int .i64 n, .int .u32 e] 35)).alloc (.cells #[.int .i64 0, .int .u32 0, .int .i64 0, .slice none 0 0] 40)) w.heap.size k n e := by
  have sz : (w.alloc (.cells #[.int .i64 k, .int .i64 n, .int .u32 e] 35)).heap.size = w.heap.size + 1 := by simp
  refine ⟨(FC.made w k n e 35).below (balloc (Below.refl _ _) _), ?_⟩
  rw [← sz]
  exact SB.made _ 0 0 0 _ _
/-- a list of one term -/
theorem own_one (w0 w : World) (g : TE) (t : TypeId) (h : w0.heap.size ≤ w.heap.size) : OwnT w0 (w.alloc (.cells #[.int .i64 g.k, .int .i64 g.n, .int .u32 g.e, .int .i64 g.p, .int .i64 g.q] t)) (.slice (some ⟨w.heap.size, 0, none⟩) 1 1) [g] := by
  have b := TB.made w g.k g.n g.e g.p g.q t
  refine ⟨_, 1, rfl, Nat.le_refl _, by omega, fun _ => ⟨w.heap.size, rfl, h, b.lt, fun i hi => ?_, b.fz⟩⟩
  have hi : i < 5 := hi
  match i, hi with
  | 0, _ => exact b.c0
  | 1, _ => exact b.c1
  | 2, _ => exact b.c2
  | 3, _ => exact b.c3
  | 4, _ => exact b.c4
section
variable (w : World)
theorem iwh_any (x : Int) : Calls Try.prog 46 #[.int .i64 x] w fun r w' => r = .returned (.agg #[.int .i64 x, .int .i64 1]) ∧ Below w.heap.size w w' := by
  go_enter Try.func46, Try.ntmps46
  go_wp2
  exact bodyPost_ret (v := .agg #[.int .i64 x, .int .i64 1]) (by simp [results, Try.results46, go_sem]) rfl ⟨rfl, by (repeat (first | exact Below.refl _ _ | assumption | refine bchain (by assumption) ?_ | refine balloc ?_ _ | apply Below.drew | apply below_drewN | (refine Below.alloc ?_ (by (try simp) <;> omega) _) | (refine Below.setCell ?_ (by (try simp) <;> omega) _)))⟩
theorem iso_any (k n e : Int) : Calls Try.prog 68 #[.agg #[.int .i64 k, .int .i64 n, .int .u32 e]] w fun r w' => r = .returned (.int .i64 n) ∧ Below w.heap.size w w' := by
  go_enter Try.func68, Try.ntmps68
  go_wp2
  go_ret
  exact ⟨rfl, by (repeat (first | exact Below.refl _ _ | assumption | refine bchain (by assumption) ?_ | refine balloc ?_ _ | apply Below.drew | apply below_drewN | (refine Below.alloc ?_ (by (try simp) <;> omega) _) | (refine Below.setCell ?_ (by (try simp) <;> omega) _)))⟩
end
end Go.Proofs.Ytfnjgdocmfmfgab
namespace Go.Proofs.Ytfnjgdocmfmfgab
open Go.RowKit Go.Shelf
set_option maxRecDepth 100000
attribute [local go_sem] Oper.semAt_some
/-- has a flag a type and a size -/
def Fits (k n e : Nat) (m f s : Int) : Prop := (k : Int) = m ∧ ((onL e (List.range k) : Nat) : Int) = f ∧ (n : Int) = s
section
variable (w : World)
set_option maxHeartbeats 2000000 in
theorem iof_any (k n e : Nat) (m f s : Int) (h : VK k n e) (B : Bool) (hB : B = true ↔ Fits k n e m f s) :
    Calls Try.prog 43 #[.agg #[.int .i64 k, .int .i64 n, .int .u32 e], .agg #[.int .i64 m, .int .u32 f], .int .i64 s] w fun r w' => r = .returned (.bool B) ∧ Below w.heap.size w w' := by
  have hT := Lib.hid (fun W => ity_any W k n e h)
  unfold Fits at hB
  obtain ⟨t, ht⟩ : ∃ t, onL e (List.range k) = t := ⟨_, rfl⟩
  rw [ht] at hT hB
  clear ht h
  obtain ⟨W0, hW0⟩ : ∃ W0, W0 = (w.alloc (.cells #[.int .i64 (k : Int), .int .i64 (n : Int), .int .u32 (e : Int)] 35)).alloc (.cells #[.int .i64 m, .int .u32 f] 33) := ⟨_, rfl⟩
  have hB0 : Below w.heap.size w W0 := by rw [hW0]; (repeat (first | exact Below.refl _ _ | assumption | refine bchain (by assumption) ?_ | refine balloc ?_ _ | apply Below.drew | apply below_drewN | (refine Below.alloc ?_ (by (try simp) <;> omega) _) | (refine Below.setCell ?_ (by (try simp) <;> omega) _)))
  have hf : FC W0 w.heap.size k n e := by rw [hW0]; exact (FC.made w k n e 35).below (balloc (Below.refl _ _) _)
  have hz : w.heap.size + 1 < W0.heap.size := by rw [hW0]; simp
  have g0 : W0.cell? ⟨w.heap.size + 1, 0, none⟩ = some (.int .i64 m) := by rw [hW0, cNew _ _ _ _ _ (by simp)]; rfl
  have g1 : W0.cell? ⟨w.heap.size + 1, 1, none⟩ = some (.int .u32 f) := by rw [hW0, cNew _ _ _ _ _ (by simp)]; rfl
  have q0 := bw_cell hf.lt hf.c0
  have q1 := bw_cell hf.lt hf.c1
  have q2 := bw_cell hf.lt hf.c2
  have q3 := bw_cell hz g0
  have q4 := bw_cell hz g1
  replace hW0 := Lib.hid hW0
  clear g0 g1 hf hz
  by_cases c : (k : Int) = m ∧ (t : Int) = f
  · obtain ⟨rfl, rfl⟩ := c
    have hq : ∀ W, (Op.equalIn 10000 33 (.agg #[.int .i64 (k : Int), .int .u32 (t : Int)]) (.agg #[.int .i64 (k : Int), .int .u32 (t : Int)])).run Try.prog W = .ok true W := fun W => by rw [eqGrK]; simp
    obtain rfl : B = ((n : Int) == s) := by
      rw [Bool.eq_iff_iff, hB]
      simp
    clear hB
    go_enter Try.func43, Try.ntmps43
    go_wp2
    rw [← hW0.out]
    refine wp_region_below (by kernel_rfl) (by kernel_rfl) ?_
    iterate 1 (quiet_step (fail))
    refine wpQuiet_step (fun K hK => ?_)
    go_simp
    apply Exists.intro
    refine ⟨fun p => ?_, hK _ ?_⟩
    · exact bw_of (w := W0) (p := p) (hT.out p.W)
    clear hK K
    iterate 3 (quiet_step (fail))
    iterate 1 (quiet_step (fail))
    refine wpQuiet_step (fun K hK => ?_)
    go_simp
    apply Exists.intro
    refine ⟨fun p => ?_, hK _ ?_⟩
    · exact bw_of (w := W0) (p := p) (iso_any p.W k n e)
    clear hK K
    iterate 2 (quiet_step (fail))
    iterate 2 (quiet_step (fail))
    refine wpQuiet_nil ?_
    intro w3 hw'
    obtain ⟨⟨wx, hb_w3⟩, rfl⟩ := hw'
    go_wp2
    go_ret
    exact ⟨rfl, hB0.trans (hb_w3.mono hB0.size)⟩
  · have hq : ∀ W, (Op.equalIn 10000 33 (.agg #[.int .i64 (k : Int), .int .u32 (t : Int)]) (.agg #[.int .i64 m, .int .u32 f])).run Try.prog W = .ok false W := fun W => by
      rw [eqGrK]
      have : ((k : Int) == m && (t : Int) == f) = false := by
        rw [Bool.eq_false_iff]
        intro h
        simp at h
        exact c h
      rw [this]
    obtain rfl : B = false := by
      rw [Bool.eq_false_iff]
      intro c2
      exact c ⟨(hB.1 c2).1, (hB.1 c2).2.1⟩
    clear hB c
    go_enter Try.func43, Try.ntmps43
    go_wp2
    rw [← hW0.out]
    refine wp_region_below (by kernel_rfl) (by kernel_rfl) ?_
    iterate 1 (quiet_step (fail))
    refine wpQuiet_step (fun K hK => ?_)
    go_simp
    apply Exists.intro
    refine ⟨fun p => ?_, hK _ ?_⟩
    · exact bw_of (w := W0) (p := p) (hT.out p.W)
    clear hK K
    iterate 3 (quiet_step (fail))
    iterate 4 go_big_quiet_skip
    iterate 2 (quiet_step (fail))
    refine wpQuiet_nil ?_
    intro w3 hw'
    obtain ⟨⟨wx, hb_w3⟩, rfl⟩ := hw'
    go_wp2
    go_ret
    exact ⟨rfl, hB0.trans (hb_w3.mono hB0.size)⟩
set_option maxHeartbeats 2000000 in
theorem sof_any (k n e : Nat) (m f s : Int) (h : VK k n e) (B : Bool) (hB : B = true ↔ Fits k n e m f s) :
    Calls Try.prog 34 #[.agg #[.int .i64 k, .int .i64 n, .int .u32 e], .agg #[.int .i64 m, .int .u32 f], .int .i64 s] w fun r w' => r = .returned (.bool B) ∧ Below w.heap.size w w' := by
  have hT := Lib.hid (fun W => sty_any W k n e h)
  unfold Fits at hB
  obtain ⟨t, ht⟩ : ∃ t, onL e (List.range k) = t := ⟨_, rfl⟩
  rw [ht] at hT hB
  clear ht h
  obtain ⟨W0, hW0⟩ : ∃ W0, W0 = (w.alloc (.cells #[.int .i64 (k : Int), .int .i64 (n : Int), .int .u32 (e : Int)] 35)).alloc (.cells #[.int .i64 m, .int .u32 f] 33) := ⟨_, rfl⟩
  have hB0 : Below w.heap.size w W0 := by rw [hW0]; (repeat (first | exact Below.refl _ _ | assumption | refine bchain (by assumption) ?_ | refine balloc ?_ _ | apply Below.drew | apply below_drewN | (refine Below.alloc ?_ (by (try simp) <;> omega) _) | (refine Below.setCell ?_ (by (try simp) <;> omega) _)))
  have hf : FC W0 w.heap.size k n e := by rw [hW0]; exact (FC.made w k n e 35).below (balloc (Below.refl _ _) _)
  have hz : w.heap.size + 1 < W0.heap.size := by rw [hW0]; simp
  have g0 : W0.cell? ⟨w.heap.size + 1, 0, none⟩ = some (.int .i64 m) := by rw [hW0, cNew _ _ _ _ _ (by simp)]; rfl
  have g1 : W0.cell? ⟨w.heap.size + 1, 1, none⟩ = some (.int .u32 f) := by rw [hW0, cNew _ _ _ _ _ (by simp)]; rfl
  have q0 := bw_cell hf.lt hf.c0
  have q1 := bw_cell hf.lt hf.c1
  have q2 := bw_cell hf.lt hf.c2
  have q3 := bw_cell hz g0
  have q4 := bw_cell hz g1
  replace hW0 := Lib.hid hW0
  clear g0 g1 hf hz
  by_cases c : (k : Int) = m ∧ (t : Int) = f
  · obtain ⟨rfl, rfl⟩ := c
    have hq : ∀ W, (Op.equalIn 10000 33 (.agg #[.int .i64 (k : Int), .int .u32 (t : Int)]) (.agg #[.int .i64 (k : Int), .int .u32 (t : Int)])).run Try.prog W = .ok true W := fun W => by rw [eqGrK]; simp
    obtain rfl : B = ((n : Int) == s) := by
      rw [Bool.eq_iff_iff, hB]
      simp
    clear hB
    go_enter Try.func34, Try.ntmps34
    go_wp2
    rw [← hW0.out]
    refine wp_region_below (by kernel_rfl) (by kernel_rfl) ?_
    iterate 1 (quiet_step (fail))
    refine wpQuiet_step (fun K hK => ?_)
    go_simp
    apply Exists.intro
    refine ⟨fun p => ?_, hK _ ?_⟩
    · exact bw_of (w := W0) (p := p) (hT.out p.W)
    clear hK K
    iterate 3 (quiet_step (fail))
    iterate 5 (quiet_step (fail))
    iterate 2 (quiet_step (fail))
    refine wpQuiet_nil ?_
    intro w3 hw'
    obtain ⟨⟨wx, hb_w3⟩, rfl⟩ := hw'
    go_wp2
    go_ret
    exact ⟨rfl, hB0.trans (hb_w3.mono hB0.size)⟩
  · have hq : ∀ W, (Op.equalIn 10000 33 (.agg #[.int .i64 (k : Int), .int .u32 (t : Int)]) (.agg #[.int .i64 m, .int .u32 f])).run Try.prog W = .ok false W := fun W => by
      rw [eqGrK]
      have : ((k : Int) == m && (t : Int) == f) = false := by
        rw [Bool.eq_false_iff]
        intro h
        simp at h
        exact c h
      rw [this]
    obtain rfl : B = false := by
      rw [Bool.eq_false_iff]
      intro c2
      exact c ⟨(hB.1 c2).1, (hB.1 c2).2.1⟩
    clear hB c
    go_enter Try.func34, Try.ntmps34
    go_wp2
    rw [← hW0.out]
    refine wp_region_below (by kernel_rfl) (by kernel_rfl) ?_
    iterate 1 (quiet_step (fail))
    refine wpQuiet_step (fun K hK => ?_)
    go_simp
    apply Exists.intro
    refine ⟨fun p => ?_, hK _ ?_⟩
    · exact bw_of (w := W0) (p := p) (hT.out p.W)
    clear hK K
    iterate 3 (quiet_step (fail))
    iterate 5 go_big_quiet_skip
    iterate 2 (quiet_step (fail))
    refine wpQuiet_nil ?_
    intro w3 hw'
    obtain ⟨⟨wx, hb_w3⟩, rfl⟩ := hw'
    go_wp2
    go_ret
    exact ⟨rfl, hB0.trans (hb_w3.mono hB0.size)⟩
end
end Go.Proofs.Ytfnjgdocmfmfgab
/-
  Are two sums the same: the program's contract and the model's.
-/
namespace Go.Proofs.Ytfnjgdocmfmfgab
open Go.RowKit
set_option maxRecDepth 100000
theorem eqFrT (W : World) (n m e f : Int) : (Op.equalIn 10000 32 (.agg #[.int .i64 n, .int .i64 e]) (.agg #[.int .i64 m, .int .i64 f])).run Try.prog W = .ok (n == m && e == f) W := by
  have u3 := Try.underlying2
  have hS : Try.prog.underlying 32 = some (.struct (Try.prog.fieldsOf 32)) := by kernel_rfl
  have hp : Try.prog.stoodInHeld 32 = false := by kernel_rfl
  rw [show (10000 : Nat) = 9999 + 1 from rfl, run_equalIn_agg W 9999 32 _ _ hS hp]
  simp only [Program.fieldsOf, Try.underlying32]
  go_simp
  by_cases h1 : n = m <;> by_cases h2 : e = f <;> simp [h1, h2]
theorem eqTm (W : World) (x0 x1 x2 x3 x4 y0 y1 y2 y3 y4 : Int) : (Op.equalIn 10000 72 (.agg #[.int .i64 x0, .int .i64 x1, .int .u32 x2, .int .i64 x3, .int .i64 x4]) (.agg #[.int .i64 y0, .int .i64 y1, .int .u32 y2, .int .i64 y3, .int .i64 y4])).run Try.prog W = .ok ((x0 == y0 && (x1 == y1 && x2 == y2)) && (x3 == y3 && x4 == y4)) W := by
  have u3 := Try.underlying2
  have u4 := Try.underlying22
  have hS : Try.prog.underlying 72 = some (.struct (Try.prog.fieldsOf 72)) := by kernel_rfl
  have hp : Try.prog.stoodInHeld 72 = false := by kernel_rfl
  rw [show (10000 : Nat) = 9999 + 1 from rfl, run_equalIn_agg W 9999 72 _ _ hS hp]
  simp only [Program.fieldsOf, Try.underlying72]
  go_simp
  by_cases h1 : x0 = y0 <;> by_cases h2 : x1 = y1 <;> by_cases h3 : x2 = y2 <;> by_cases h4 : x3 = y3 <;> by_cases h5 : x4 = y4 <;> simp [h1, h2, h3, h4, h5]
theorem tAt_ext {xs ys : List TE} (hl : xs.length = ys.length) (h : ∀ i, i < xs.length → tAt xs i = tAt ys i) : xs = ys := by
  refine List.ext_getElem hl ?_
  intro i h1 h2
  have := h i h1
  simpa [tAt, List.getElem?_eq_getElem h1, List.getElem?_eq_getElem h2] using this
section
variable (w : World)
end
end Go.Proofs.Ytfnjgdocmfmfgab
namespace Go.Proofs.Ytfnjgdocmfmfgab
open Go.RowKit Go.Shelf
set_option maxRecDepth 100000
attribute [local go_sem] Oper.semAt_some
def Least (k n e : Nat) : Prop := leastK n k e = e
theorem SB.drewN {W : World} {B : Nat} {n e s : Int} {u : Value} (h : SB W B n e s u) (m : Nat) : SB (W.drewN m) B n e s u := ⟨h.lt, h.c0, h.c1, h.c2, h.c3, h.fz⟩
/-- is the term at i of a sum as it should be -/
def TOk (X : SM) (i : Nat) : Prop := VK (tAt X.ts i).k (tAt X.ts i).n (tAt X.ts i).e ∧ Fits (tAt X.ts i).k.toNat (tAt X.ts i).n.toNat (tAt X.ts i).e.toNat X.n X.e X.s ∧ Least (tAt X.ts i).k.toNat (tAt X.ts i).n.toNat (tAt X.ts i).e.toNat ∧
  Fr.VF (tAt X.ts i).p (tAt X.ts i).q ∧ (tAt X.ts i).p ≠ 0 ∧ (0 < i → (tAt X.ts (i - 1)).e < (tAt X.ts i).e)
def VSum (X : SM) : Prop := VG X.n X.e ∧ frB X.n X.s = true ∧ X.ts.length ≤ 64 ∧ ∀ i, i < X.ts.length → TOk X i
theorem vf_zero {p q : Int} (h : Fr.VF p q) : p = 0 ↔ (p = 0 ∧ q = 1) := by
  refine ⟨fun c => ⟨c, ?_⟩, fun c => c.1⟩
  subst c
  have h5 := h.2.2.2.2
  have h1 := h.1
  rw [Int.gcd_zero_left] at h5
  omega
section
variable (w : World)
set_option maxHeartbeats 8000000 in
theorem ivs_len (n e s : Int) (a : Option Addr) (l cap : Nat) (hl : 64 < l) (hl2 : l ≤ 9223372036854775807) (hv : VG n e) (hf : frB n s = true) :
    Calls Try.prog 23 #[.agg #[.int .i64 n, .int .u32 e, .int .i64 s, .slice a l cap]] w fun r w' => r = .returned (.bool false) ∧ Below w.heap.size w w' := by
  have hV := Lib.hid (fun W => valid_t W n e hv)
  have hF := Lib.hid (fun W => ihf_any W n e s)
  rw [hf] at hF
  clear hv hf
  go_enter Try.func23, Try.ntmps23
  go_wp2_with fail
  refine (hV.out _).mono ?_
  rintro r1 w1 ⟨rfl, hb1⟩
  obtain ⟨hc1, hz1⟩ := bkeep hb1 w.heap.size (by (try simp) <;> omega)
  go_wp2_with fail
  refine (hF.out _).mono ?_
  rintro r2 w2 ⟨rfl, hb2⟩
  obtain ⟨hc2, hz2⟩ := bkeep hb2 w.heap.size (by (try simp) <;> omega)
  go_wp2
  go_ret
  exact ⟨rfl, by (repeat (first | exact Below.refl _ _ | assumption | refine bchain (by assumption) ?_ | refine balloc ?_ _ | apply Below.drew | apply below_drewN | (refine Below.alloc ?_ (by (try simp) <;> omega) _) | (refine Below.setCell ?_ (by (try simp) <;> omega) _)))⟩
theorem ivs_frame (n e s : Int) (u : Value) (hv : VG n e) (hf : frB n s = false) :
    Calls Try.prog 23 #[.agg #[.int .i64 n, .int .u32 e, .int .i64 s, u]] w fun r w' => r = .returned (.bool false) ∧ Below w.heap.size w w' := by
  have hV := Lib.hid (fun W => valid_t W n e hv)
  have hF := Lib.hid (fun W => ihf_any W n e s)
  rw [hf] at hF
  clear hv hf
  go_enter Try.func23, Try.ntmps23
  go_wp2_with fail
  refine (hV.out _).mono ?_
  rintro r1 w1 ⟨rfl, hb1⟩
  obtain ⟨hc1, hz1⟩ := bkeep hb1 w.heap.size (by (try simp) <;> omega)
  go_wp2_with fail
  refine (hF.out _).mono ?_
  rintro r2 w2 ⟨rfl, hb2⟩
  go_wp2
  go_ret
  exact ⟨rfl, by (repeat (first | exact Below.refl _ _ | assumption | refine bchain (by assumption) ?_ | refine balloc ?_ _ | apply Below.drew | apply below_drewN | (refine Below.alloc ?_ (by (try simp) <;> omega) _) | (refine Below.setCell ?_ (by (try simp) <;> omega) _)))⟩
theorem ivs_type (n e s : Int) (u : Value) (he : e < 4294967296) (h0 : 0 ≤ e) (hv : ¬ VG n e) :
    Calls Try.prog 23 #[.agg #[.int .i64 n, .int .u32 e, .int .i64 s, u]] w fun r w' => r = .returned (.bool false) ∧ Below w.heap.size w w' := by
  have hV := Lib.hid (fun W => valid_f W n e he h0 hv)
  clear hv he h0
  go_enter Try.func23, Try.ntmps23
  go_wp2_with fail
  refine (hV.out _).mono ?_
  rintro r1 w1 ⟨rfl, hb1⟩
  go_wp2
  go_ret
  exact ⟨rfl, by (repeat (first | exact Below.refl _ _ | assumption | refine bchain (by assumption) ?_ | refine balloc ?_ _ | apply Below.drew | apply below_drewN | (refine Below.alloc ?_ (by (try simp) <;> omega) _) | (refine Below.setCell ?_ (by (try simp) <;> omega) _)))⟩
set_option maxHeartbeats 16000000 in
theorem ivs_ok (X : SM) (u : Value) (hS : SlT w u X.ts) (hbd : BdT X.ts) (hl : X.ts.length ≤ 64) (hv : VG X.n X.e) (hf : frB X.n X.s = true) (B : Bool) (hB0 : B = true ↔ ∀ i, i < X.ts.length → TOk X i) :
    Calls Try.prog 23 #[.agg #[.int .i64 X.n, .int .u32 X.e, .int .i64 X.s, u]] w fun r w' => r = .returned (.bool B) ∧ Below w.heap.size w w' := by
  obtain ⟨n, e, s, ts⟩ := X
  dsimp only at hS hbd hl hv hf hB0 ⊢
  unfold TOk at hB0
  dsimp only at hB0
  obtain ⟨a, cap, rfl, h1, h2, h3⟩ := hS
  have hV := Lib.hid (fun W => valid_t W n e hv)
  have hF := Lib.hid (fun W => ihf_any W n e s)
  rw [hf] at hF
  replace hB0 := Lib.hid hB0
  replace hbd := Lib.hid hbd
  obtain ⟨l, hld⟩ : ∃ l, ts.length = l := ⟨_, rfl⟩
  have h3b : Hid (0 < l → ∃ b off, a = some ⟨b, off, none⟩ ∧ b < w.heap.size ∧ ∀ i, i < l → TCell w b off (tAt ts i) i) := fun h => by rw [← hld] at h ⊢; exact h3 (List.length_pos_iff.1 h)
  rw [hld] at h1 hl hB0 ⊢
  replace hld := Lib.hid hld
  clear h3 hv hf
  obtain ⟨W0, hW0⟩ : ∃ W0, W0 = w.alloc (.cells #[.int .i64 n, .int .u32 e, .int .i64 s, .slice a l cap] 40) := ⟨_, rfl⟩
  have hb0 : Below w.heap.size w W0 := by rw [hW0]; (repeat (first | exact Below.refl _ _ | assumption | refine bchain (by assumption) ?_ | refine balloc ?_ _ | apply Below.drew | apply below_drewN | (refine Below.alloc ?_ (by (try simp) <;> omega) _) | (refine Below.setCell ?_ (by (try simp) <;> omega) _)))
  have k0 : SB W0 w.heap.size n e s (.slice a l cap) := by rw [hW0]; exact SB.made _ _ _ _ _ _
  replace hW0 := Lib.hid hW0
  obtain ⟨_, x0, x1, x2, x3, _⟩ := id k0
  go_enter Try.func23, Try.ntmps23
  go_wp2_with fail
  rw [← hW0.out]
  go_wp2_with fail
  refine (hV.out _).mono ?_
  rintro r1 w1 ⟨rfl, hb1⟩
  replace k0 := k0.below hb1
  replace hb0 := bchain hb1 hb0
  clear x0 x1 x2 x3 hb1
  obtain ⟨_, x0, x1, x2, x3, _⟩ := id k0
  go_wp2_with fail
  refine (hF.out _).mono ?_
  rintro r2 w2 ⟨rfl, hb2⟩
  replace k0 := k0.below hb2
  replace hb0 := bchain hb2 hb0
  clear x0 x1 x2 x3 hb2
  obtain ⟨_, x0, x1, x2, x3, _⟩ := id k0
  go_wp2
  go_loopw [3, 4, 5, 27] (fun _ _ _ i wr => ∃ k : Nat, k ≤ l ∧ i = .int .i64 k ∧ Hid (∀ j, j < k → TOk ⟨n, e, s, ts⟩ j) ∧ SB wr w.heap.size n e s (.slice a l cap) ∧ Below w.heap.size w wr) (fun _ _ _ i _ => l - (intOf i).toNat)
  case atStart => exact ⟨0, by omega, rfl, fun j hj => by omega, k0, hb0⟩
  case round =>
    clear k0 hb0 x0 x1 x2 x3
    obtain ⟨k, hk, rfl, hok, kr, hB⟩ := hrel
    obtain ⟨ltG, x0, x1, x2, x3, _⟩ := id kr
    by_cases hlt : k < l
    · obtain ⟨b, off, rfl, hb, hg⟩ := h3b.out (by omega)
      have hgk := hg k hlt
      have hbk := hbd.out k (by rw [hld.out]; exact hlt)
      obtain ⟨g, hBk⟩ : ∃ g, tAt ts k = g := ⟨_, rfl⟩
      have hBk2 := hBk
      obtain ⟨y0, y1, y2, y3, y4⟩ := g
      rw [hBk] at hgk hbk
      dsimp only at hbk
      have s0 : wr.cell? ⟨b, off + k * 5, none⟩ = some (.int .i64 y0) := by rw [hB.cell (p := ⟨b, _, none⟩) hb]; exact hgk.1
      have s1 : wr.cell? ⟨b, off + k * 5 + 1, none⟩ = some (.int .i64 y1) := by rw [hB.cell (p := ⟨b, _, none⟩) hb]; exact hgk.2.1
      have s2 : wr.cell? ⟨b, off + k * 5 + 2, none⟩ = some (.int .u32 y2) := by rw [hB.cell (p := ⟨b, _, none⟩) hb]; exact hgk.2.2.1
      have s3 : wr.cell? ⟨b, off + k * 5 + 3, none⟩ = some (.int .i64 y3) := by rw [hB.cell (p := ⟨b, _, none⟩) hb]; exact hgk.2.2.2.1
      have s4 : wr.cell? ⟨b, off + k * 5 + 4, none⟩ = some (.int .i64 y4) := by rw [hB.cell (p := ⟨b, _, none⟩) hb]; exact hgk.2.2.2.2
      have hkl : (k : Int) < (l : Int) := by omega
      have hk0 : (0 : Int) ≤ (k : Int) := by omega
      obtain ⟨W1, hW1⟩ : ∃ W1, W1 = (wr.alloc (.cells #[.int .i64 y0, .int .i64 y1, .int .u32 y2, .int .i64 y3, .int .i64 y4] 72)).alloc (.cells #[.int .i64 y0, .int .i64 y1, .int .u32 y2] 35) := ⟨_, rfl⟩
      have hBW : Below wr.heap.size wr W1 := by rw [hW1]; (repeat (first | exact Below.refl _ _ | assumption | refine bchain (by assumption) ?_ | refine balloc ?_ _ | apply Below.drew | apply below_drewN | (refine Below.alloc ?_ (by (try simp) <;> omega) _) | (refine Below.setCell ?_ (by (try simp) <;> omega) _)))
      have sz : (wr.alloc (.cells #[.int .i64 y0, .int .i64 y1, .int .u32 y2, .int .i64 y3, .int .i64 y4] 72)).heap.size = wr.heap.size + 1 := by simp
      have tb : TB W1 wr.heap.size y0 y1 y2 y3 y4 := by rw [hW1]; exact (TB.made wr _ _ _ _ _ _).below (balloc (Below.refl _ _) _)
      have fb : FC W1 (wr.heap.size + 1) y0 y1 y2 := by rw [hW1, ← sz]; exact FC.made _ _ _ _ _
      have kb := kr.below hBW
      replace hW1 := Lib.hid hW1
      clear sz hgk
      have q0 := bw_cell fb.lt fb.c0
      have q1 := bw_cell fb.lt fb.c1
      have q2 := bw_cell fb.lt fb.c2
      have q3 := bw_cell kb.lt kb.c0
      have q4 := bw_cell kb.lt kb.c1
      have q5 := bw_cell kb.lt kb.c2
      have hBz := hB.size
      go_wp2
      rw [← hW1.out]
      by_cases v1 : VK y0 y1 y2
      · obtain ⟨m0, m1, m2, rfl, rfl, rfl⟩ : ∃ a b c : Nat, y0 = a ∧ y1 = b ∧ y2 = c := ⟨y0.toNat, y1.toNat, y2.toNat, by have := v1.2.1; omega, by have := v1.1.1; omega, by omega⟩
        have hV1 := Lib.hid (fun W => ivk_t W m0 m1 m2 v1)
        by_cases v2 : Fits m0 m1 m2 n e s
        · have hV2 := Lib.hid (fun W => iof_any W m0 m1 m2 n e s v1 true ⟨fun _ => v2, fun _ => rfl⟩)
          have hV3 := Lib.hid (fun W => leastK_any W m0 m1 m2 v1)
          by_cases v3 : leastK m1 m0 m2 = m2
          · rw [v3] at hV3
            have hq : ∀ W, (Op.equalIn 10000 35 (.agg #[.int .i64 (m0 : Int), .int .i64 (m1 : Int), .int .u32 (m2 : Int)]) (.agg #[.int .i64 (m0 : Int), .int .i64 (m1 : Int), .int .u32 (m2 : Int)])).run Try.prog W = .ok true W := fun W => by rw [eqFl]; simp
            refine wp_region_below (by kernel_rfl) (by kernel_rfl) ?_
            iterate 1 (quiet_step (fail))
            refine wpQuiet_step (fun K hK => ?_)
            go_simp
            apply Exists.intro
            refine ⟨fun p => ?_, hK _ ?_⟩
            · exact bw_of (w := W1) (p := p) (hV1.out p.W)
            clear hK K
            iterate 2 (quiet_step (fail))
            iterate 5 (quiet_step (fail))
            refine wpQuiet_step (fun K hK => ?_)
            go_simp
            apply Exists.intro
            refine ⟨fun p => ?_, hK _ ?_⟩
            · exact bw_of (w := W1) (p := p) (hV2.out p.W)
            clear hK K
            iterate 1 (quiet_step (fail))
            iterate 2 (quiet_step (fail))
            iterate 1 (quiet_step (fail))
            refine wpQuiet_step (fun K hK => ?_)
            go_simp
            apply Exists.intro
            refine ⟨fun p => ?_, hK _ ?_⟩
            · exact bw_of (w := W1) (p := p) (hV3.out p.W)
            clear hK K
            iterate 2 (quiet_step (fail))
            iterate 1 (quiet_step (fail))
            refine wpQuiet_nil ?_
            intro w3 hw'
            obtain ⟨⟨wx, hb_w3⟩, rfl⟩ := hw'
            have tb3 := tb.below hb_w3
            have fb3 := fb.below hb_w3
            have kb3 := kb.below hb_w3
            have hb3 := hBW.trans (hb_w3.mono hBW.size)
            have q6 := bw_cell tb3.lt tb3.c3
            have q7 := bw_cell tb3.lt tb3.c4
            have hVF := Lib.hid (fun W => Fr.vf_any W y3 y4)
            clear q0 q1 q2 q3 q4 q5 hb_w3 hV1 hV2 hV3 tb fb kb hq x0 x1 x2 x3
            go_wp2
            by_cases v4 : Fr.VF y3 y4
            · rw [decide_eq_true v4] at hVF
              by_cases v5 : y3 = 0 ∧ y4 = 1
              · obtain ⟨rfl, rfl⟩ := v5
                have hq : ∀ W, (Op.equalIn 10000 32 (.agg #[.int .i64 0, .int .i64 1]) (.agg #[.int .i64 0, .int .i64 1])).run Try.prog W = .ok true W := fun W => by rw [eqFrT]; simp
                obtain rfl : B = false := by
                  rw [Bool.eq_false_iff]
                  intro c
                  have ht := (hB0.out.1 c) k hlt
                  rw [hBk] at ht
                  exact ht.2.2.2.2.1 rfl
                refine wp_region_below (by kernel_rfl) (by kernel_rfl) ?_
                iterate 2 (quiet_step (fail))
                refine wpQuiet_step (fun K hK => ?_)
                go_simp
                apply Exists.intro
                refine ⟨fun p => ?_, hK _ ?_⟩
                · exact bw_of (w := w3) (p := p) (hVF.out p.W)
                clear hK K
                iterate 2 (quiet_step (fail))
                iterate 2 (quiet_step (fail))
                refine wpQuiet_step (fun K hK => ?_)
                go_simp
                apply Exists.intro
                refine ⟨fun p => ?_, hK _ ?_⟩
                · exact bw_of (w := w3) (p := p) (iwh_any p.W 0)
                clear hK K
                iterate 1 (quiet_step (fail))
                iterate 1 (quiet_step (fail))
                refine wpQuiet_nil ?_
                intro w4 hw'
                obtain ⟨⟨wx, hb_w4⟩, rfl⟩ := hw'
                go_wp2
                go_ret
                exact ⟨rfl, hB.trans ((hb3.trans (hb_w4.mono hb3.size)).mono hBz)⟩
              · have hq : ∀ W, (Op.equalIn 10000 32 (.agg #[.int .i64 y3, .int .i64 y4]) (.agg #[.int .i64 0, .int .i64 1])).run Try.prog W = .ok false W := fun W => by
                  rw [eqFrT]
                  have : (y3 == 0 && y4 == 1) = false := by
                    rw [Bool.eq_false_iff]
                    intro h
                    simp at h
                    exact v5 h
                  rw [this]
                have hy3 : y3 ≠ 0 := fun c => v5 ((vf_zero v4).1 c)
                refine wp_region_below (by kernel_rfl) (by kernel_rfl) ?_
                iterate 2 (quiet_step (fail))
                refine wpQuiet_step (fun K hK => ?_)
                go_simp
                apply Exists.intro
                refine ⟨fun p => ?_, hK _ ?_⟩
                · exact bw_of (w := w3) (p := p) (hVF.out p.W)
                clear hK K
                iterate 2 (quiet_step (fail))
                iterate 2 (quiet_step (fail))
                refine wpQuiet_step (fun K hK => ?_)
                go_simp
                apply Exists.intro
                refine ⟨fun p => ?_, hK _ ?_⟩
                · exact bw_of (w := w3) (p := p) (iwh_any p.W 0)
                clear hK K
                iterate 1 (quiet_step (fail))
                iterate 1 (quiet_step (fail))
                refine wpQuiet_nil ?_
                intro w4 hw'
                obtain ⟨⟨wx, hb_w4⟩, rfl⟩ := hw'
                have kb4 := kb3.below hb_w4
                have fb4 := fb3.below hb_w4
                have hb4 := hb3.trans (hb_w4.mono hb3.size)
                clear q6 q7 hb_w4 hVF hq tb3 fb3 kb3 hb3
                obtain ⟨_, x0, x1, x2, x3, _⟩ := id kb4
                obtain ⟨_, f0, f1, f2⟩ := id fb4
                have hB4 := hB.trans (hb4.mono hBz)
                go_wp2
                by_cases hk1 : k = 0
                · subst hk1
                  go_quiet (fail)
                  have hok2 : Hid (∀ j, j < 0 + 1 → TOk ⟨n, e, s, ts⟩ j) := fun j hj => by
                    obtain rfl : j = 0 := by omega
                    unfold TOk
                    dsimp only
                    rw [hBk]
                    exact ⟨v1, by simpa using v2, by simpa [Least] using v3, v4, hy3, fun c => absurd c (by omega)⟩
                  go_wp2
                  go_roundw
                  case rel => exact ⟨0 + 1, by omega, by go_num, hok2, kb4.drewN _, below_drewN hB4 _⟩
                  case measure => simp [intOf]; omega
                · obtain ⟨k', rfl⟩ : ∃ k', k = k' + 1 := ⟨k - 1, by omega⟩
                  have hgp := hg k' (by omega)
                  obtain ⟨z0, z1, z2, z3, z4, hz⟩ : ∃ z0 z1 z2 z3 z4, tAt ts k' = ⟨z0, z1, z2, z3, z4⟩ := ⟨_, _, _, _, _, rfl⟩
                  rw [hz] at hgp
                  have e2 : w4.cell? ⟨b, off + k' * 5 + 2, none⟩ = some (.int .u32 z2) := (hB4.cell (p := ⟨b, _, none⟩) hb).trans hgp.2.2.1
                  have hz0 := hbd.out k' (by rw [hld.out]; omega)
                  rw [hz] at hz0
                  dsimp only at hz0
                  clear hgp hg
                  by_cases v6 : z2 < (m2 : Int)
                  · have hd6 : decide ((m2 : Int) ≤ z2) = false := decide_eq_false (by omega)
                    go_quiet (fail)
                    have hok2 : Hid (∀ j, j < k' + 1 + 1 → TOk ⟨n, e, s, ts⟩ j) := fun j hj => by
                      by_cases c : j = k' + 1
                      · subst c
                        unfold TOk
                        dsimp only
                        rw [hBk, Nat.add_sub_cancel, hz]
                        exact ⟨v1, by simpa using v2, by simpa [Least] using v3, v4, hy3, fun _ => v6⟩
                      · exact hok.out j (by omega)
                    go_wp2
                    go_roundw
                    case rel => exact ⟨k' + 1 + 1, by omega, by go_num, hok2, kb4.drewN _, below_drewN hB4 _⟩
                    case measure => simp [intOf]; omega
                  · have hd6 : decide ((m2 : Int) ≤ z2) = true := decide_eq_true (by omega)
                    obtain rfl : B = false := by
                      rw [Bool.eq_false_iff]
                      intro c
                      have ht := (hB0.out.1 c) (k' + 1) hlt
                      rw [hBk, Nat.add_sub_cancel, hz] at ht
                      exact v6 (ht.2.2.2.2.2 (by omega))
                    go_quiet (fail)
                    go_wp2
                    go_ret
                    exact ⟨rfl, below_drewN hB4 _⟩
            · rw [decide_eq_false v4] at hVF
              obtain rfl : B = false := by
                rw [Bool.eq_false_iff]
                intro c
                have ht := (hB0.out.1 c) k hlt
                rw [hBk] at ht
                exact v4 ht.2.2.2.1
              refine wp_region_below (by kernel_rfl) (by kernel_rfl) ?_
              iterate 2 (quiet_step (fail))
              refine wpQuiet_step (fun K hK => ?_)
              go_simp
              apply Exists.intro
              refine ⟨fun p => ?_, hK _ ?_⟩
              · exact bw_of (w := w3) (p := p) (hVF.out p.W)
              clear hK K
              iterate 2 (quiet_step (fail))
              iterate 4 go_big_quiet_skip
              iterate 1 (quiet_step (fail))
              refine wpQuiet_nil ?_
              intro w4 hw'
              obtain ⟨⟨wx, hb_w4⟩, rfl⟩ := hw'
              go_wp2
              go_ret
              exact ⟨rfl, hB.trans ((hb3.trans (hb_w4.mono hb3.size)).mono hBz)⟩
          · obtain ⟨z, hz⟩ : ∃ z, leastK m1 m0 m2 = z := ⟨_, rfl⟩
            rw [hz] at hV3 v3
            have hq : ∀ W, (Op.equalIn 10000 35 (.agg #[.int .i64 (m0 : Int), .int .i64 (m1 : Int), .int .u32 (z : Int)]) (.agg #[.int .i64 (m0 : Int), .int .i64 (m1 : Int), .int .u32 (m2 : Int)])).run Try.prog W = .ok false W := fun W => by
              rw [eqFl]
              have : ((m0 : Int) == (m0 : Int) && ((m1 : Int) == (m1 : Int) && (z : Int) == (m2 : Int))) = false := by
                rw [Bool.eq_false_iff]
                intro h
                simp at h
                exact v3 (by omega)
              rw [this]
            obtain rfl : B = false := by
              rw [Bool.eq_false_iff]
              intro c
              have ht := (hB0.out.1 c) k hlt
              rw [hBk] at ht
              exact v3 (by rw [← hz]; simpa [Least] using ht.2.2.1)
            clear hz
            refine wp_region_below (by kernel_rfl) (by kernel_rfl) ?_
            iterate 1 (quiet_step (fail))
            refine wpQuiet_step (fun K hK => ?_)
            go_simp
            apply Exists.intro
            refine ⟨fun p => ?_, hK _ ?_⟩
            · exact bw_of (w := W1) (p := p) (hV1.out p.W)
            clear hK K
            iterate 2 (quiet_step (fail))
            iterate 5 (quiet_step (fail))
            refine wpQuiet_step (fun K hK => ?_)
            go_simp
            apply Exists.intro
            refine ⟨fun p => ?_, hK _ ?_⟩
            · exact bw_of (w := W1) (p := p) (hV2.out p.W)
            clear hK K
            iterate 1 (quiet_step (fail))
            iterate 2 (quiet_step (fail))
            iterate 1 (quiet_step (fail))
            refine wpQuiet_step (fun K hK => ?_)
            go_simp
            apply Exists.intro
            refine ⟨fun p => ?_, hK _ ?_⟩
            · exact bw_of (w := W1) (p := p) (hV3.out p.W)
            clear hK K
            iterate 2 (quiet_step (fail))
            iterate 1 (quiet_step (fail))
            refine wpQuiet_nil ?_
            intro w3 hw'
            obtain ⟨⟨wx, hb_w3⟩, rfl⟩ := hw'
            go_wp2
            go_ret
            exact ⟨rfl, hB.trans ((hBW.trans (hb_w3.mono hBW.size)).mono hBz)⟩
        · have hV2 := Lib.hid (fun W => iof_any W m0 m1 m2 n e s v1 false ⟨fun c => (by cases c), fun c => absurd c v2⟩)
          obtain rfl : B = false := by
            rw [Bool.eq_false_iff]
            intro c
            have ht := (hB0.out.1 c) k hlt
            rw [hBk] at ht
            exact v2 (by simpa using ht.2.1)
          refine wp_region_below (by kernel_rfl) (by kernel_rfl) ?_
          iterate 1 (quiet_step (fail))
          refine wpQuiet_step (fun K hK => ?_)
          go_simp
          apply Exists.intro
          refine ⟨fun p => ?_, hK _ ?_⟩
          · exact bw_of (w := W1) (p := p) (hV1.out p.W)
          clear hK K
          iterate 2 (quiet_step (fail))
          iterate 5 (quiet_step (fail))
          refine wpQuiet_step (fun K hK => ?_)
          go_simp
          apply Exists.intro
          refine ⟨fun p => ?_, hK _ ?_⟩
          · exact bw_of (w := W1) (p := p) (hV2.out p.W)
          clear hK K
          iterate 1 (quiet_step (fail))
          iterate 2 (quiet_step (fail))
          iterate 4 go_big_quiet_skip
          iterate 1 (quiet_step (fail))
          refine wpQuiet_nil ?_
          intro w3 hw'
          obtain ⟨⟨wx, hb_w3⟩, rfl⟩ := hw'
          go_wp2
          go_ret
          exact ⟨rfl, hB.trans ((hBW.trans (hb_w3.mono hBW.size)).mono hBz)⟩
      · have hV1 := Lib.hid (fun W => ivk_f W y0 y1 y2 (by omega) (by omega) v1)
        obtain rfl : B = false := by
          rw [Bool.eq_false_iff]
          intro c
          have ht := (hB0.out.1 c) k hlt
          rw [hBk] at ht
          exact v1 ht.1
        refine wp_region_below (by kernel_rfl) (by kernel_rfl) ?_
        iterate 1 (quiet_step (fail))
        refine wpQuiet_step (fun K hK => ?_)
        go_simp
        apply Exists.intro
        refine ⟨fun p => ?_, hK _ ?_⟩
        · exact bw_of (w := W1) (p := p) (hV1.out p.W)
        clear hK K
        iterate 2 (quiet_step (fail))
        iterate 7 go_big_quiet_skip
        iterate 2 (quiet_step (fail))
        iterate 4 go_big_quiet_skip
        iterate 1 (quiet_step (fail))
        refine wpQuiet_nil ?_
        intro w3 hw'
        obtain ⟨⟨wx, hb_w3⟩, rfl⟩ := hw'
        go_wp2
        go_ret
        exact ⟨rfl, hB.trans ((hBW.trans (hb_w3.mono hBW.size)).mono hBz)⟩
    · obtain rfl : k = l := by omega
      have hd := decide_eq_false (show ¬ ((k : Int) < (k : Int)) by omega)
      obtain rfl : B = true := hB0.out.2 (fun i hi => hok.out i hi)
      go_wp2
      go_ret
      exact ⟨rfl, hB⟩
end
end Go.Proofs.Ytfnjgdocmfmfgab
/-
  Is a sum of flags valid: the model's contract.
-/
namespace Go.Proofs.Ytfnjgdocmfmfgab
open Go.RowKit Go.Shelf
set_option maxRecDepth 100000
attribute [local go_sem] Oper.semAt_some
section
variable (w : World)
theorem sv5_type (G : Nat) (n e s : Int) (a : Option Addr) (l cap : Nat) (c1 : SB w G n e s (.slice a l cap)) (he : e < 4294967296) (h0 : 0 ≤ e) (hv : ¬ VG n e) :
    Calls Try.prog 15 #[.pointer (some ⟨G, 0, none⟩)] w fun r w' => r = .returned (.bool false) ∧ Below w.heap.size w w' := by
  have hV := Lib.hid (fun W => ok_f W n e he h0 hv)
  have q0 := bw_cell c1.lt c1.c0
  have q1 := bw_cell c1.lt c1.c1
  have q2 := bw_cell c1.lt c1.c2
  have q3 := bw_cell c1.lt c1.c3
  clear hv he h0 c1
  go_enter Try.func15, Try.ntmps15
  go_wp2
  refine wp_region_below (by kernel_rfl) (by kernel_rfl) ?_
  iterate 4 (quiet_step (fail))
  refine wpQuiet_step (fun K hK => ?_)
  go_simp
  apply Exists.intro
  refine ⟨fun p => ?_, hK _ ?_⟩
  · exact bw_of (w := w) (p := p) (hV.out p.W)
  clear hK K
  iterate 2 (quiet_step (fail))
  iterate 10 go_big_quiet_skip
  iterate 2 (quiet_step (fail))
  iterate 6 go_big_quiet_skip
  iterate 1 (quiet_step (fail))
  refine wpQuiet_nil ?_
  intro w3 hw'
  obtain ⟨⟨wx, hb_w3⟩, rfl⟩ := hw'
  go_wp2
  go_ret
  exact ⟨rfl, hb_w3⟩
theorem sv5_frame (G : Nat) (n e s : Int) (a : Option Addr) (l cap : Nat) (c1 : SB w G n e s (.slice a l cap)) (hv : VG n e) (hf : frB n s = false) :
    Calls Try.prog 15 #[.pointer (some ⟨G, 0, none⟩)] w fun r w' => r = .returned (.bool false) ∧ Below w.heap.size w w' := by
  have hV := Lib.hid (fun W => ok_t W n e hv)
  have hF := Lib.hid (fun W => sfr_any W n e s)
  rw [hf] at hF
  have q0 := bw_cell c1.lt c1.c0
  have q1 := bw_cell c1.lt c1.c1
  have q2 := bw_cell c1.lt c1.c2
  have q3 := bw_cell c1.lt c1.c3
  clear hv hf c1
  go_enter Try.func15, Try.ntmps15
  go_wp2
  refine wp_region_below (by kernel_rfl) (by kernel_rfl) ?_
  iterate 4 (quiet_step (fail))
  refine wpQuiet_step (fun K hK => ?_)
  go_simp
  apply Exists.intro
  refine ⟨fun p => ?_, hK _ ?_⟩
  · exact bw_of (w := w) (p := p) (hV.out p.W)
  clear hK K
  iterate 2 (quiet_step (fail))
  iterate 8 (quiet_step (fail))
  refine wpQuiet_step (fun K hK => ?_)
  go_simp
  apply Exists.intro
  refine ⟨fun p => ?_, hK _ ?_⟩
  · exact bw_of (w := w) (p := p) (hF.out p.W)
  clear hK K
  iterate 1 (quiet_step (fail))
  iterate 2 (quiet_step (fail))
  iterate 6 go_big_quiet_skip
  iterate 1 (quiet_step (fail))
  refine wpQuiet_nil ?_
  intro w3 hw'
  obtain ⟨⟨wx, hb_w3⟩, rfl⟩ := hw'
  go_wp2
  go_ret
  exact ⟨rfl, hb_w3⟩
theorem sv5_len (G : Nat) (n e s : Int) (a : Option Addr) (l cap : Nat) (c1 : SB w G n e s (.slice a l cap)) (hl : 64 < l) (hl2 : l ≤ 9223372036854775807) (hv : VG n e) (hf : frB n s = true) :
    Calls Try.prog 15 #[.pointer (some ⟨G, 0, none⟩)] w fun r w' => r = .returned (.bool false) ∧ Below w.heap.size w w' := by
  have hV := Lib.hid (fun W => ok_t W n e hv)
  have hF := Lib.hid (fun W => sfr_any W n e s)
  rw [hf] at hF
  have q0 := bw_cell c1.lt c1.c0
  have q1 := bw_cell c1.lt c1.c1
  have q2 := bw_cell c1.lt c1.c2
  have q3 := bw_cell c1.lt c1.c3
  clear hv hf c1
  go_enter Try.func15, Try.ntmps15
  go_wp2
  refine wp_region_below (by kernel_rfl) (by kernel_rfl) ?_
  iterate 4 (quiet_step (fail))
  refine wpQuiet_step (fun K hK => ?_)
  go_simp
  apply Exists.intro
  refine ⟨fun p => ?_, hK _ ?_⟩
  · exact bw_of (w := w) (p := p) (hV.out p.W)
  clear hK K
  iterate 2 (quiet_step (fail))
  iterate 8 (quiet_step (fail))
  refine wpQuiet_step (fun K hK => ?_)
  go_simp
  apply Exists.intro
  refine ⟨fun p => ?_, hK _ ?_⟩
  · exact bw_of (w := w) (p := p) (hF.out p.W)
  clear hK K
  iterate 1 (quiet_step (fail))
  iterate 2 (quiet_step (fail))
  iterate 6 (quiet_step (fail))
  iterate 1 (quiet_step (fail))
  refine wpQuiet_nil ?_
  intro w3 hw'
  obtain ⟨⟨wx, hb_w3⟩, rfl⟩ := hw'
  go_wp2
  go_ret
  exact ⟨rfl, hb_w3⟩
set_option maxHeartbeats 16000000 in
theorem sv5_ok (G : Nat) (n e s : Int) (ts : List TE) (u : Value) (c1 : SB w G n e s u) (hS : SlT w u ts) (hbd : BdT ts) (hl : ts.length ≤ 64) (hv : VG n e) (hf : frB n s = true) (B : Bool) (hB0 : B = true ↔ ∀ i, i < ts.length → TOk ⟨n, e, s, ts⟩ i) :
    Calls Try.prog 15 #[.pointer (some ⟨G, 0, none⟩)] w fun r w' => r = .returned (.bool B) ∧ Below w.heap.size w w' := by
  unfold TOk at hB0
  dsimp only at hB0
  obtain ⟨a, cap, rfl, h1, h2, h3⟩ := hS
  have hV := Lib.hid (fun W => ok_t W n e hv)
  have hF := Lib.hid (fun W => sfr_any W n e s)
  rw [hf] at hF
  replace hB0 := Lib.hid hB0
  replace hbd := Lib.hid hbd
  obtain ⟨l, hld⟩ : ∃ l, ts.length = l := ⟨_, rfl⟩
  have h3b : Hid (0 < l → ∃ b off, a = some ⟨b, off, none⟩ ∧ b < w.heap.size ∧ ∀ i, i < l → TCell w b off (tAt ts i) i) := fun h => by rw [← hld] at h ⊢; exact h3 (List.length_pos_iff.1 h)
  rw [hld] at h1 hl hB0 c1
  replace hld := Lib.hid hld
  clear h3 hv hf
  have q0 := bw_cell c1.lt c1.c0
  have q1 := bw_cell c1.lt c1.c1
  have q2 := bw_cell c1.lt c1.c2
  have q3 := bw_cell c1.lt c1.c3
  go_enter Try.func15, Try.ntmps15
  go_wp2
  refine wp_region_below (by kernel_rfl) (by kernel_rfl) ?_
  iterate 4 (quiet_step (fail))
  refine wpQuiet_step (fun K hK => ?_)
  go_simp
  apply Exists.intro
  refine ⟨fun p => ?_, hK _ ?_⟩
  · exact bw_of (w := w) (p := p) (hV.out p.W)
  clear hK K
  iterate 2 (quiet_step (fail))
  iterate 8 (quiet_step (fail))
  refine wpQuiet_step (fun K hK => ?_)
  go_simp
  apply Exists.intro
  refine ⟨fun p => ?_, hK _ ?_⟩
  · exact bw_of (w := w) (p := p) (hF.out p.W)
  clear hK K
  iterate 1 (quiet_step (fail))
  iterate 2 (quiet_step (fail))
  iterate 6 (quiet_step (fail))
  iterate 1 (quiet_step (fail))
  refine wpQuiet_nil ?_
  intro w2 hw'
  obtain ⟨⟨wx, hb_w2⟩, rfl⟩ := hw'
  have c2 := c1.below hb_w2
  clear q0 q1 q2 q3 hV hF
  obtain ⟨_, x0, x1, x2, x3, _⟩ := id c2
  go_wp2
  go_loopw [3, 4] (fun i _ wr => ∃ k : Nat, k ≤ l ∧ i = .int .i64 k ∧ Hid (∀ j, j < k → TOk ⟨n, e, s, ts⟩ j) ∧ SB wr G n e s (.slice a l cap) ∧ Below w.heap.size w wr) (fun i _ _ => l - (intOf i).toNat)
  case atStart => exact ⟨0, by omega, rfl, fun j hj => by omega, c2, hb_w2⟩
  case round =>
    clear c2 x0 x1 x2 x3 hb_w2 c1
    obtain ⟨k, hk, rfl, hok, kr, hB⟩ := hrel
    obtain ⟨ltG, x0, x1, x2, x3, _⟩ := id kr
    by_cases hlt : k < l
    · obtain ⟨b, off, rfl, hb, hg⟩ := h3b.out (by omega)
      have hgk := hg k hlt
      have hbk := hbd.out k (by rw [hld.out]; exact hlt)
      obtain ⟨g, hBk⟩ : ∃ g, tAt ts k = g := ⟨_, rfl⟩
      obtain ⟨y0, y1, y2, y3, y4⟩ := g
      rw [hBk] at hgk hbk
      dsimp only at hbk
      have s0 : wr.cell? ⟨b, off + k * 5, none⟩ = some (.int .i64 y0) := by rw [hB.cell (p := ⟨b, _, none⟩) hb]; exact hgk.1
      have s1 : wr.cell? ⟨b, off + k * 5 + 1, none⟩ = some (.int .i64 y1) := by rw [hB.cell (p := ⟨b, _, none⟩) hb]; exact hgk.2.1
      have s2 : wr.cell? ⟨b, off + k * 5 + 2, none⟩ = some (.int .u32 y2) := by rw [hB.cell (p := ⟨b, _, none⟩) hb]; exact hgk.2.2.1
      have s3 : wr.cell? ⟨b, off + k * 5 + 3, none⟩ = some (.int .i64 y3) := by rw [hB.cell (p := ⟨b, _, none⟩) hb]; exact hgk.2.2.2.1
      have s4 : wr.cell? ⟨b, off + k * 5 + 4, none⟩ = some (.int .i64 y4) := by rw [hB.cell (p := ⟨b, _, none⟩) hb]; exact hgk.2.2.2.2
      have hkl : (k : Int) < (l : Int) := by omega
      have hk0 : (0 : Int) ≤ (k : Int) := by omega
      obtain ⟨W1, hW1⟩ : ∃ W1, W1 = wr.alloc (.cells #[.int .i64 y0, .int .i64 y1, .int .u32 y2] 35) := ⟨_, rfl⟩
      have hBW : Below wr.heap.size wr W1 := by rw [hW1]; (repeat (first | exact Below.refl _ _ | assumption | refine bchain (by assumption) ?_ | refine balloc ?_ _ | apply Below.drew | apply below_drewN | (refine Below.alloc ?_ (by (try simp) <;> omega) _) | (refine Below.setCell ?_ (by (try simp) <;> omega) _)))
      have fb : FC W1 wr.heap.size y0 y1 y2 := by rw [hW1]; exact FC.made _ _ _ _ _
      have kb := kr.below hBW
      replace hW1 := Lib.hid hW1
      clear hgk
      have q0 := bw_cell fb.lt fb.c0
      have q1 := bw_cell fb.lt fb.c1
      have q2 := bw_cell fb.lt fb.c2
      have q3 := bw_cell kb.lt kb.c0
      have q4 := bw_cell kb.lt kb.c1
      have q5 := bw_cell kb.lt kb.c2
      have q6 := bw_cell kb.lt kb.c3
      have hBz := hB.size
      have hbr : b < wr.heap.size := by omega
      have hVF := Lib.hid (fun W => Fr.ok_any W y3 y4)
      go_wp2
      rw [← hW1.out]
      clear x0 x1 x2 x3
      by_cases v1 : VK y0 y1 y2
      · obtain ⟨m0, m1, m2, rfl, rfl, rfl⟩ : ∃ a b c : Nat, y0 = a ∧ y1 = b ∧ y2 = c := ⟨y0.toNat, y1.toNat, y2.toNat, by have := v1.2.1; omega, by have := v1.1.1; omega, by omega⟩
        have hV1 := Lib.hid (fun W => sok_t W m0 m1 m2 v1)
        by_cases v2 : Fits m0 m1 m2 n e s
        · have hV2 := Lib.hid (fun W => sof_any W m0 m1 m2 n e s v1 true ⟨fun _ => v2, fun _ => rfl⟩)
          have hV3 := Lib.hid (fun W => sleastK_any W m0 m1 m2 v1)
          by_cases v3 : leastK m1 m0 m2 = m2
          · rw [v3] at hV3
            have hq : ∀ W, (Op.equalIn 10000 35 (.agg #[.int .i64 (m0 : Int), .int .i64 (m1 : Int), .int .u32 (m2 : Int)]) (.agg #[.int .i64 (m0 : Int), .int .i64 (m1 : Int), .int .u32 (m2 : Int)])).run Try.prog W = .ok true W := fun W => by rw [eqFl]; simp
            by_cases hk1 : k = 0
            · subst hk1
              refine wp_region_below (by kernel_rfl) (by kernel_rfl) ?_
              iterate 1 (quiet_step (fail))
              refine wpQuiet_step (fun K hK => ?_)
              go_simp
              apply Exists.intro
              refine ⟨fun p => ?_, hK _ ?_⟩
              · exact bw_of (w := W1) (p := p) (hV1.out p.W)
              clear hK K
              iterate 2 (quiet_step (fail))
              iterate 9 (quiet_step (fail))
              refine wpQuiet_step (fun K hK => ?_)
              go_simp
              apply Exists.intro
              refine ⟨fun p => ?_, hK _ ?_⟩
              · exact bw_of (w := W1) (p := p) (hV2.out p.W)
              clear hK K
              iterate 1 (quiet_step (fail))
              iterate 2 (quiet_step (fail))
              iterate 1 (quiet_step (fail))
              refine wpQuiet_step (fun K hK => ?_)
              go_simp
              apply Exists.intro
              refine ⟨fun p => ?_, hK _ ?_⟩
              · exact bw_of (w := W1) (p := p) (hV3.out p.W)
              clear hK K
              iterate 2 (quiet_step (fail))
              iterate 2 (quiet_step (fail))
              iterate 3 (quiet_step (fail))
              iterate 15 go_big_quiet_skip
              iterate 2 (quiet_step (fail))
              refine wpQuiet_nil ?_
              intro w3 hw'
              obtain ⟨⟨wx, hb_w3⟩, rfl⟩ := hw'
              have kb3 := kb.below hb_w3
              have hb3 := hBW.trans (hb_w3.mono hBW.size)
              have hB3 := hB.trans (hb3.mono hBz)
              have p3 : w3.cell? ⟨b, off + 0 * 5 + 3, none⟩ = some (.int .i64 y3) := (hb3.cell (p := ⟨b, _, none⟩) hbr).trans s3
              have p4 : w3.cell? ⟨b, off + 0 * 5 + 4, none⟩ = some (.int .i64 y4) := (hb3.cell (p := ⟨b, _, none⟩) hbr).trans s4
              obtain ⟨_, x0, x1, x2, x3, _⟩ := id kb3
              clear q0 q1 q2 q3 q4 q5 hb_w3 hV1 hV2 hV3 fb kb hq
              by_cases v4 : Fr.VF y3 y4
              · rw [decide_eq_true v4] at hVF
                go_wp2_with fail
                refine (hVF.out _).mono ?_
                rintro r4 w4 ⟨rfl, hb4⟩
                have kb4 := kb3.below hb4
                have hB4 := bchain hb4 hB3
                have u3 : w4.cell? ⟨b, off + 0 * 5 + 3, none⟩ = some (.int .i64 y3) := (hb4.cell (p := ⟨b, _, none⟩) (by show b < _; have := hB3.size; omega)).trans p3
                clear hb4 x0 x1 x2 x3 p3 p4
                obtain ⟨_, x0, x1, x2, x3, _⟩ := id kb4
                by_cases v5 : y3 = 0
                · subst v5
                  obtain rfl : B = false := by
                    rw [Bool.eq_false_iff]
                    intro c
                    have ht := (hB0.out.1 c) (0) hlt
                    rw [hBk] at ht
                    exact ht.2.2.2.2.1 rfl
                  go_wp2
                  go_ret
                  exact ⟨rfl, hB4⟩
                · have hy : (y3 == 0) = false := by simp; exact v5
                  have hok2 : Hid (∀ j, j < 0 + 1 → TOk ⟨n, e, s, ts⟩ j) := fun j hj => by
                    obtain rfl : j = 0 := by omega
                    unfold TOk
                    dsimp only
                    rw [hBk]
                    exact ⟨v1, by simpa using v2, by simpa [Least] using v3, v4, v5, fun c => absurd c (by omega)⟩
                  clear hok
                  go_wp2
                  go_roundw
                  case rel => exact ⟨0 + 1, by omega, by go_num, hok2, kb4, hB4⟩
                  case measure => simp [intOf]; omega
              · rw [decide_eq_false v4] at hVF
                obtain rfl : B = false := by
                  rw [Bool.eq_false_iff]
                  intro c
                  have ht := (hB0.out.1 c) (0) hlt
                  rw [hBk] at ht
                  exact v4 ht.2.2.2.1
                go_wp2_with fail
                refine (hVF.out _).mono ?_
                rintro r4 w4 ⟨rfl, hb4⟩
                go_wp2
                go_ret
                exact ⟨rfl, bchain hb4 hB3⟩
            · obtain ⟨k', rfl⟩ : ∃ k', k = k' + 1 := ⟨k - 1, by omega⟩
              have hgp := hg k' (by omega)
              obtain ⟨z0, z1, z2, z3, z4, hz⟩ : ∃ z0 z1 z2 z3 z4, tAt ts k' = ⟨z0, z1, z2, z3, z4⟩ := ⟨_, _, _, _, _, rfl⟩
              rw [hz] at hgp
              have e2 : W1.cell? ⟨b, off + k' * 5 + 2, none⟩ = some (.int .u32 z2) := ((hB.trans (hBW.mono hBz)).cell (p := ⟨b, _, none⟩) hb).trans hgp.2.2.1
              have q7 := bw_cell (show b < W1.heap.size by have := hBW.size; omega) e2
              have hz0 := hbd.out k' (by rw [hld.out]; omega)
              rw [hz] at hz0
              dsimp only at hz0
              clear hgp hg e2
              have hwk : IntKind.i64.wrap (k' : Int) = (k' : Int) := IntWalk.i64_in _ ⟨by omega, by omega⟩
              have hkk : (k' : Int) < (l : Int) := by omega
              by_cases v6 : z2 < (m2 : Int)
              · have hd6 : decide ((m2 : Int) ≤ z2) = false := decide_eq_false (by omega)
                refine wp_region_below (by kernel_rfl) (by kernel_rfl) ?_
                iterate 1 (quiet_step (fail))
                refine wpQuiet_step (fun K hK => ?_)
                go_simp
                apply Exists.intro
                refine ⟨fun p => ?_, hK _ ?_⟩
                · exact bw_of (w := W1) (p := p) (hV1.out p.W)
                clear hK K
                iterate 2 (quiet_step (fail))
                iterate 9 (quiet_step (fail))
                refine wpQuiet_step (fun K hK => ?_)
                go_simp
                apply Exists.intro
                refine ⟨fun p => ?_, hK _ ?_⟩
                · exact bw_of (w := W1) (p := p) (hV2.out p.W)
                clear hK K
                iterate 1 (quiet_step (fail))
                iterate 2 (quiet_step (fail))
                iterate 1 (quiet_step (fail))
                refine wpQuiet_step (fun K hK => ?_)
                go_simp
                apply Exists.intro
                refine ⟨fun p => ?_, hK _ ?_⟩
                · exact bw_of (w := W1) (p := p) (hV3.out p.W)
                clear hK K
                iterate 2 (quiet_step (fail))
                iterate 2 (quiet_step (fail))
                iterate 3 (quiet_step (fail))
                iterate 15 (quiet_step (fail))
                iterate 2 (quiet_step (fail))
                refine wpQuiet_nil ?_
                intro w3 hw'
                obtain ⟨⟨wx, hb_w3⟩, rfl⟩ := hw'
                clear q7
                have kb3 := kb.below hb_w3
                have hb3 := hBW.trans (hb_w3.mono hBW.size)
                have hB3 := hB.trans (hb3.mono hBz)
                have p3 : w3.cell? ⟨b, off + (k' + 1) * 5 + 3, none⟩ = some (.int .i64 y3) := (hb3.cell (p := ⟨b, _, none⟩) hbr).trans s3
                have p4 : w3.cell? ⟨b, off + (k' + 1) * 5 + 4, none⟩ = some (.int .i64 y4) := (hb3.cell (p := ⟨b, _, none⟩) hbr).trans s4
                obtain ⟨_, x0, x1, x2, x3, _⟩ := id kb3
                clear q0 q1 q2 q3 q4 q5 hb_w3 hV1 hV2 hV3 fb kb hq
                by_cases v4 : Fr.VF y3 y4
                · rw [decide_eq_true v4] at hVF
                  go_wp2_with fail
                  refine (hVF.out _).mono ?_
                  rintro r4 w4 ⟨rfl, hb4⟩
                  have kb4 := kb3.below hb4
                  have hB4 := bchain hb4 hB3
                  have u3 : w4.cell? ⟨b, off + (k' + 1) * 5 + 3, none⟩ = some (.int .i64 y3) := (hb4.cell (p := ⟨b, _, none⟩) (by show b < _; have := hB3.size; omega)).trans p3
                  clear hb4 x0 x1 x2 x3 p3 p4
                  obtain ⟨_, x0, x1, x2, x3, _⟩ := id kb4
                  by_cases v5 : y3 = 0
                  · subst v5
                    obtain rfl : B = false := by
                      rw [Bool.eq_false_iff]
                      intro c
                      have ht := (hB0.out.1 c) ((k' + 1)) hlt
                      rw [hBk] at ht
                      exact ht.2.2.2.2.1 rfl
                    go_wp2
                    go_ret
                    exact ⟨rfl, hB4⟩
                  · have hy : (y3 == 0) = false := by simp; exact v5
                    have hok2 : Hid (∀ j, j < (k' + 1) + 1 → TOk ⟨n, e, s, ts⟩ j) := fun j hj => by
                      by_cases c : j = k' + 1
                      · subst c
                        unfold TOk
                        dsimp only
                        rw [hBk, Nat.add_sub_cancel, hz]
                        exact ⟨v1, by simpa using v2, by simpa [Least] using v3, v4, v5, fun _ => v6⟩
                      · exact hok.out j (by omega)
                    clear hok
                    go_wp2
                    go_roundw
                    case rel => exact ⟨(k' + 1) + 1, by omega, by go_num, hok2, kb4, hB4⟩
                    case measure => simp [intOf]; omega
                · rw [decide_eq_false v4] at hVF
                  obtain rfl : B = false := by
                    rw [Bool.eq_false_iff]
                    intro c
                    have ht := (hB0.out.1 c) ((k' + 1)) hlt
                    rw [hBk] at ht
                    exact v4 ht.2.2.2.1
                  go_wp2_with fail
                  refine (hVF.out _).mono ?_
                  rintro r4 w4 ⟨rfl, hb4⟩
                  go_wp2
                  go_ret
                  exact ⟨rfl, bchain hb4 hB3⟩
              · have hd6 : decide ((m2 : Int) ≤ z2) = true := decide_eq_true (by omega)
                obtain rfl : B = false := by
                  rw [Bool.eq_false_iff]
                  intro c
                  have ht := (hB0.out.1 c) (k' + 1) hlt
                  rw [hBk, Nat.add_sub_cancel, hz] at ht
                  exact v6 (ht.2.2.2.2.2 (by omega))
                refine wp_region_below (by kernel_rfl) (by kernel_rfl) ?_
                iterate 1 (quiet_step (fail))
                refine wpQuiet_step (fun K hK => ?_)
                go_simp
                apply Exists.intro
                refine ⟨fun p => ?_, hK _ ?_⟩
                · exact bw_of (w := W1) (p := p) (hV1.out p.W)
                clear hK K
                iterate 2 (quiet_step (fail))
                iterate 9 (quiet_step (fail))
                refine wpQuiet_step (fun K hK => ?_)
                go_simp
                apply Exists.intro
                refine ⟨fun p => ?_, hK _ ?_⟩
                · exact bw_of (w := W1) (p := p) (hV2.out p.W)
                clear hK K
                iterate 1 (quiet_step (fail))
                iterate 2 (quiet_step (fail))
                iterate 1 (quiet_step (fail))
                refine wpQuiet_step (fun K hK => ?_)
                go_simp
                apply Exists.intro
                refine ⟨fun p => ?_, hK _ ?_⟩
                · exact bw_of (w := W1) (p := p) (hV3.out p.W)
                clear hK K
                iterate 2 (quiet_step (fail))
                iterate 2 (quiet_step (fail))
                iterate 3 (quiet_step (fail))
                iterate 15 (quiet_step (fail))
                iterate 2 (quiet_step (fail))
                refine wpQuiet_nil ?_
                intro w3 hw'
                obtain ⟨⟨wx, hb_w3⟩, rfl⟩ := hw'
                go_wp2
                go_ret
                exact ⟨rfl, hB.trans ((hBW.trans (hb_w3.mono hBW.size)).mono hBz)⟩
          · obtain ⟨z, hz⟩ : ∃ z, leastK m1 m0 m2 = z := ⟨_, rfl⟩
            rw [hz] at hV3 v3
            have hq : ∀ W, (Op.equalIn 10000 35 (.agg #[.int .i64 (m0 : Int), .int .i64 (m1 : Int), .int .u32 (z : Int)]) (.agg #[.int .i64 (m0 : Int), .int .i64 (m1 : Int), .int .u32 (m2 : Int)])).run Try.prog W = .ok false W := fun W => by
              rw [eqFl]
              have : ((m0 : Int) == (m0 : Int) && ((m1 : Int) == (m1 : Int) && (z : Int) == (m2 : Int))) = false := by
                rw [Bool.eq_false_iff]
                intro h
                simp at h
                exact v3 (by omega)
              rw [this]
            obtain rfl : B = false := by
              rw [Bool.eq_false_iff]
              intro c
              have ht := (hB0.out.1 c) k hlt
              rw [hBk] at ht
              exact v3 (by rw [← hz]; simpa [Least] using ht.2.2.1)
            clear hz
            refine wp_region_below (by kernel_rfl) (by kernel_rfl) ?_
            iterate 1 (quiet_step (fail))
            refine wpQuiet_step (fun K hK => ?_)
            go_simp
            apply Exists.intro
            refine ⟨fun p => ?_, hK _ ?_⟩
            · exact bw_of (w := W1) (p := p) (hV1.out p.W)
            clear hK K
            iterate 2 (quiet_step (fail))
            iterate 9 (quiet_step (fail))
            refine wpQuiet_step (fun K hK => ?_)
            go_simp
            apply Exists.intro
            refine ⟨fun p => ?_, hK _ ?_⟩
            · exact bw_of (w := W1) (p := p) (hV2.out p.W)
            clear hK K
            iterate 1 (quiet_step (fail))
            iterate 2 (quiet_step (fail))
            iterate 1 (quiet_step (fail))
            refine wpQuiet_step (fun K hK => ?_)
            go_simp
            apply Exists.intro
            refine ⟨fun p => ?_, hK _ ?_⟩
            · exact bw_of (w := W1) (p := p) (hV3.out p.W)
            clear hK K
            iterate 2 (quiet_step (fail))
            iterate 2 (quiet_step (fail))
            iterate 3 go_big_quiet_skip
            iterate 15 go_big_quiet_skip
            iterate 1 go_big_quiet_skip
            iterate 1 (quiet_step (fail))
            refine wpQuiet_nil ?_
            intro w3 hw'
            obtain ⟨⟨wx, hb_w3⟩, rfl⟩ := hw'
            go_wp2
            go_ret
            exact ⟨rfl, hB.trans ((hBW.trans (hb_w3.mono hBW.size)).mono hBz)⟩
        · have hV2 := Lib.hid (fun W => sof_any W m0 m1 m2 n e s v1 false ⟨fun c => (by cases c), fun c => absurd c v2⟩)
          obtain rfl : B = false := by
            rw [Bool.eq_false_iff]
            intro c
            have ht := (hB0.out.1 c) k hlt
            rw [hBk] at ht
            exact v2 (by simpa using ht.2.1)
          refine wp_region_below (by kernel_rfl) (by kernel_rfl) ?_
          iterate 1 (quiet_step (fail))
          refine wpQuiet_step (fun K hK => ?_)
          go_simp
          apply Exists.intro
          refine ⟨fun p => ?_, hK _ ?_⟩
          · exact bw_of (w := W1) (p := p) (hV1.out p.W)
          clear hK K
          iterate 2 (quiet_step (fail))
          iterate 9 (quiet_step (fail))
          refine wpQuiet_step (fun K hK => ?_)
          go_simp
          apply Exists.intro
          refine ⟨fun p => ?_, hK _ ?_⟩
          · exact bw_of (w := W1) (p := p) (hV2.out p.W)
          clear hK K
          iterate 1 (quiet_step (fail))
          iterate 2 (quiet_step (fail))
          iterate 4 go_big_quiet_skip
          iterate 2 (quiet_step (fail))
          iterate 3 go_big_quiet_skip
          iterate 15 go_big_quiet_skip
          iterate 1 go_big_quiet_skip
          iterate 1 (quiet_step (fail))
          refine wpQuiet_nil ?_
          intro w3 hw'
          obtain ⟨⟨wx, hb_w3⟩, rfl⟩ := hw'
          go_wp2
          go_ret
          exact ⟨rfl, hB.trans ((hBW.trans (hb_w3.mono hBW.size)).mono hBz)⟩
      · have hV1 := Lib.hid (fun W => sok_f W y0 y1 y2 (by omega) (by omega) v1)
        obtain rfl : B = false := by
          rw [Bool.eq_false_iff]
          intro c
          have ht := (hB0.out.1 c) k hlt
          rw [hBk] at ht
          exact v1 ht.1
        refine wp_region_below (by kernel_rfl) (by kernel_rfl) ?_
        iterate 1 (quiet_step (fail))
        refine wpQuiet_step (fun K hK => ?_)
        go_simp
        apply Exists.intro
        refine ⟨fun p => ?_, hK _ ?_⟩
        · exact bw_of (w := W1) (p := p) (hV1.out p.W)
        clear hK K
        iterate 2 (quiet_step (fail))
        iterate 11 go_big_quiet_skip
        iterate 2 (quiet_step (fail))
        iterate 4 go_big_quiet_skip
        iterate 2 (quiet_step (fail))
        iterate 3 go_big_quiet_skip
        iterate 15 go_big_quiet_skip
        iterate 1 go_big_quiet_skip
        iterate 1 (quiet_step (fail))
        refine wpQuiet_nil ?_
        intro w3 hw'
        obtain ⟨⟨wx, hb_w3⟩, rfl⟩ := hw'
        go_wp2
        go_ret
        exact ⟨rfl, hB.trans ((hBW.trans (hb_w3.mono hBW.size)).mono hBz)⟩
    · obtain rfl : k = l := by omega
      have hd := decide_eq_false (show ¬ ((k : Int) < (k : Int)) by omega)
      obtain rfl : B = true := hB0.out.2 (fun i hi => hok.out i hi)
      go_wp2
      go_ret
      exact ⟨rfl, hB⟩
end
end Go.Proofs.Ytfnjgdocmfmfgab
/-
  Which sums of flags are valid: the program's word and the model's.
-/
namespace Go.Proofs.Ytfnjgdocmfmfgab
open Go.RowKit
set_option maxRecDepth 100000
section
variable (w : World)
theorem ivs_any (X : SM) (u : Value) (hS : SlT w u X.ts) (hbd : BdS X) (B : Bool) (hB : B = true ↔ VSum X) :
    Calls Try.prog 23 #[.agg #[.int .i64 X.n, .int .u32 X.e, .int .i64 X.s, u]] w fun r w' => r = .returned (.bool B) ∧ Below w.heap.size w w' := by
  by_cases hv : VG X.n X.e
  · cases hf : frB X.n X.s with
    | false =>
      obtain rfl : B = false := by
        rw [Bool.eq_false_iff]; intro c; have := (hB.1 c).2.1; rw [hf] at this; cases this
      exact ivs_frame w X.n X.e X.s u hv hf
    | true =>
      by_cases hl : X.ts.length ≤ 64
      · exact ivs_ok w X u hS hbd.2.2 hl hv hf B (hB.trans ⟨fun c => c.2.2.2, fun c => ⟨hv, hf, hl, c⟩⟩)
      · obtain rfl : B = false := by
          rw [Bool.eq_false_iff]; intro c; exact hl (hB.1 c).2.2.1
        obtain ⟨a, cap, rfl, h1, h2, _⟩ := hS
        exact ivs_len w X.n X.e X.s a X.ts.length cap (by omega) (by omega) hv hf
  · obtain rfl : B = false := by
      rw [Bool.eq_false_iff]; intro c; exact hv (hB.1 c).1
    exact ivs_type w X.n X.e X.s u hbd.2.1 hbd.1 hv
theorem sv5_any (X : SM) (u : Value) (G : Nat) (c1 : SB w G X.n X.e X.s u) (hS : SlT w u X.ts) (hbd : BdS X) (B : Bool) (hB : B = true ↔ VSum X) :
    Calls Try.prog 15 #[.pointer (some ⟨G, 0, none⟩)] w fun r w' => r = .returned (.bool B) ∧ Below w.heap.size w w' := by
  obtain ⟨a, cap, hu, h1, h2, _⟩ := id hS
  by_cases hv : VG X.n X.e
  · cases hf : frB X.n X.s with
    | false =>
      obtain rfl : B = false := by
        rw [Bool.eq_false_iff]; intro c; have := (hB.1 c).2.1; rw [hf] at this; cases this
      exact sv5_frame w G X.n X.e X.s a _ cap (by rw [← hu]; exact c1) hv hf
    | true =>
      by_cases hl : X.ts.length ≤ 64
      · exact sv5_ok w G X.n X.e X.s X.ts u c1 hS hbd.2.2 hl hv hf B (hB.trans ⟨fun c => c.2.2.2, fun c => ⟨hv, hf, hl, c⟩⟩)
      · obtain rfl : B = false := by
          rw [Bool.eq_false_iff]; intro c; exact hl (hB.1 c).2.2.1
        exact sv5_len w G X.n X.e X.s a X.ts.length cap (by rw [← hu]; exact c1) (by omega) (by omega) hv hf
  · obtain rfl : B = false := by
      rw [Bool.eq_false_iff]; intro c; exact hv (hB.1 c).1
    exact sv5_type w G X.n X.e X.s a _ cap (by rw [← hu]; exact c1) hbd.2.1 hbd.1 hv
end
end Go.Proofs.Ytfnjgdocmfmfgab
namespace Go.Proofs.Ytfnjgdocmfmfgab
open Go.RowKit Go.Shelf
set_option maxRecDepth 100000
/-- a fraction's box -/
structure FrB (W : World) (B : Nat) (p q : Int) : Prop where
  lt : B < W.heap.size
  c0 : W.cell? ⟨B, 0, none⟩ = some (.int .i64 p)
  c1 : W.cell? ⟨B, 1, none⟩ = some (.int .i64 q)
  fz : ∀ o, W.frozen? ⟨B, o, none⟩ = false
theorem FrB.below {W W' : World} {B : Nat} {p q : Int} (h : FrB W B p q) (hb : Below W.heap.size W W') : FrB W' B p q :=
  ⟨Nat.lt_of_lt_of_le h.lt hb.size, (hb.cell (p := ⟨B, 0, none⟩) h.lt).trans h.c0, (hb.cell (p := ⟨B, 1, none⟩) h.lt).trans h.c1, fun o => (hb.frozen (p := ⟨B, o, none⟩) h.lt).trans (h.fz o)⟩
theorem FrB.made (W : World) (p q : Int) (t : TypeId) : FrB (W.alloc (.cells #[.int .i64 p, .int .i64 q] t)) W.heap.size p q :=
  ⟨by simp, by rw [World.cell?_alloc_new]; rfl, by rw [World.cell?_alloc_new]; rfl, fun o => by simp⟩
theorem FrB.put {W : World} {B : Nat} {p q : Int} (h : FrB W B p q) (p' q' : Int) : FrB ((W.setCell ⟨B, 0, none⟩ (.int .i64 p')).setCell ⟨B, 1, none⟩ (.int .i64 q')) B p' q' :=
  ⟨by simpa using h.lt, (World.cell?_setCell_other _ _ _ _ (by simp)).trans (World.cell?_setCell_same _ _ _ h.c0), World.cell?_setCell_same _ _ _ ((World.cell?_setCell_other _ _ _ _ (by simp)).trans h.c1), fun o => by simp [h.fz o]⟩
theorem FrB.drewN {W : World} {B : Nat} {p q : Int} (h : FrB W B p q) (m : Nat) : FrB (W.drewN m) B p q := ⟨h.lt, h.c0, h.c1, h.fz⟩
theorem FC.drewN {W : World} {B : Nat} {k n e : Int} (h : FC W B k n e) (m : Nat) : FC (W.drewN m) B k n e := ⟨h.lt, h.c0, h.c1, h.c2⟩
/-- has a term this flag -/
def isT (k n y : Int) (g : TE) : Bool := g.k == k && (g.n == n && g.e == y)
/-- the fraction of a flag -/
def coF (ts : List TE) (k n y : Int) : Int × Int := match ts.find? (isT k n y) with
  | some g => (g.p, g.q)
  | none => (0, 1)
theorem coF_hit {ts : List TE} {k n y : Int} {i : Nat} (hi : i < ts.length) (hn : ∀ j, j < i → isT k n y (tAt ts j) = false) (hh : isT k n y (tAt ts i) = true) : coF ts k n y = ((tAt ts i).p, (tAt ts i).q) := by
  have e : ts.find? (isT k n y) = some (tAt ts i) := by
    rw [List.find?_eq_some_iff_getElem]
    refine ⟨hh, i, hi, by simp [tAt, List.getElem?_eq_getElem hi], fun j hj => ?_⟩
    have := hn j hj
    simp [tAt, List.getElem?_eq_getElem (show j < ts.length by omega)] at this
    simp [this]
  unfold coF
  rw [e]
theorem coF_miss {ts : List TE} {k n y : Int} (hn : ∀ j, j < ts.length → isT k n y (tAt ts j) = false) : coF ts k n y = (0, 1) := by
  have e : ts.find? (isT k n y) = none := by
    rw [List.find?_eq_none]
    intro g hg
    obtain ⟨j, hj, rfl⟩ := List.getElem_of_mem hg
    have := hn j hj
    simp [tAt, List.getElem?_eq_getElem hj] at this
    simp [this]
  unfold coF
  rw [e]
section
variable (w : World)
set_option maxHeartbeats 4000000 in
theorem ico_any (n e s k m y : Int) (ts : List TE) (u : Value) (hS : SlT w u ts) (hl64 : ts.length ≤ 64) (P Q : Int) (hPQ : coF ts k m y = (P, Q)) :
    Calls Try.prog 27 #[.agg #[.int .i64 n, .int .u32 e, .int .i64 s, u], .agg #[.int .i64 k, .int .i64 m, .int .u32 y]] w fun r w' => r = .returned (.agg #[.int .i64 P, .int .i64 Q]) ∧ Below w.heap.size w w' := by
  obtain ⟨a, cap, rfl, h1, h2, h3⟩ := hS
  replace hPQ := Lib.hid hPQ
  obtain ⟨l, hld⟩ : ∃ l, ts.length = l := ⟨_, rfl⟩
  have h3b : Hid (0 < l → ∃ b off, a = some ⟨b, off, none⟩ ∧ b < w.heap.size ∧ ∀ i, i < l → TCell w b off (tAt ts i) i) := fun h => by rw [← hld] at h ⊢; exact h3 (List.length_pos_iff.1 h)
  rw [hld] at h1 hl64 ⊢
  replace hld := Lib.hid hld
  clear h3
  obtain ⟨W0, hW0⟩ : ∃ W0, W0 = ((w.alloc (.cells #[.int .i64 n, .int .u32 e, .int .i64 s, .slice a l cap] 40)).alloc (.cells #[.int .i64 k, .int .i64 m, .int .u32 y] 35)).alloc (.cells #[.int .i64 0, .int .i64 0] 32) := ⟨_, rfl⟩
  have hb0 : Below w.heap.size w W0 := by rw [hW0]; (repeat (first | exact Below.refl _ _ | assumption | refine bchain (by assumption) ?_ | refine balloc ?_ _ | apply Below.drew | apply below_drewN | (refine Below.alloc ?_ (by (try simp) <;> omega) _) | (refine Below.setCell ?_ (by (try simp) <;> omega) _)))
  have sz : ∀ (W : World) (o : Obj), (W.alloc o).heap.size = W.heap.size + 1 := fun W o => by simp
  have k0 : SB W0 w.heap.size n e s (.slice a l cap) := by rw [hW0]; exact ((SB.made _ _ _ _ _ _).below (balloc (Below.refl _ _) _)).below (balloc (Below.refl _ _) _)
  have f0 : FC W0 (w.heap.size + 1) k m y := by rw [hW0, ← sz w (.cells #[.int .i64 n, .int .u32 e, .int .i64 s, .slice a l cap] 40)]; exact (FC.made _ _ _ _ _).below (balloc (Below.refl _ _) _)
  have r0 : FrB W0 (w.heap.size + 1 + 1) 0 0 := by rw [hW0, ← sz w (.cells #[.int .i64 n, .int .u32 e, .int .i64 s, .slice a l cap] 40), ← sz _ (.cells #[.int .i64 k, .int .i64 m, .int .u32 y] 35)]; exact FrB.made _ _ _ _
  replace hW0 := Lib.hid hW0
  clear sz
  obtain ⟨_, x0, x1, x2, x3, _⟩ := id k0
  go_enter Try.func27, Try.ntmps27
  go_wp2_with fail
  rw [← hW0.out]
  go_wp2
  go_loopw [6, 10] (fun _ q wr => ∃ i : Nat, i ≤ l ∧ q = .int .i64 i ∧ (∀ j, j < i → isT k m y (tAt ts j) = false) ∧ FC wr (w.heap.size + 1) k m y ∧ FrB wr (w.heap.size + 1 + 1) 0 0 ∧ Below w.heap.size w wr) (fun _ q _ => l - (intOf q).toNat)
  case atStart => exact ⟨0, by omega, rfl, fun j hj => by omega, f0, r0, hb0⟩
  case round =>
    clear k0 f0 r0 hb0 x0 x1 x2 x3
    obtain ⟨i, hi, rfl, hno, hf, hr, hB⟩ := hrel
    replace hno := Lib.hid hno
    by_cases hlt : i < l
    · skip
      obtain ⟨b, off, rfl, hb, hg⟩ := h3b.out (by omega)
      have hgi := hg i hlt
      obtain ⟨g, hBk⟩ : ∃ g, tAt ts i = g := ⟨_, rfl⟩
      obtain ⟨y0, y1, y2, y3, y4⟩ := g
      rw [hBk] at hgi
      have s0 : wr.cell? ⟨b, off + i * 5, none⟩ = some (.int .i64 y0) := by rw [hB.cell (p := ⟨b, _, none⟩) hb]; exact hgi.1
      have s1 : wr.cell? ⟨b, off + i * 5 + 1, none⟩ = some (.int .i64 y1) := by rw [hB.cell (p := ⟨b, _, none⟩) hb]; exact hgi.2.1
      have s2 : wr.cell? ⟨b, off + i * 5 + 2, none⟩ = some (.int .u32 y2) := by rw [hB.cell (p := ⟨b, _, none⟩) hb]; exact hgi.2.2.1
      have s3 : wr.cell? ⟨b, off + i * 5 + 3, none⟩ = some (.int .i64 y3) := by rw [hB.cell (p := ⟨b, _, none⟩) hb]; exact hgi.2.2.2.1
      have s4 : wr.cell? ⟨b, off + i * 5 + 4, none⟩ = some (.int .i64 y4) := by rw [hB.cell (p := ⟨b, _, none⟩) hb]; exact hgi.2.2.2.2
      have hkl : (i : Int) < (l : Int) := by omega
      have hk0 : (0 : Int) ≤ (i : Int) := by omega
      have hBz := hB.size
      clear hgi hg
      obtain ⟨W1, hW1⟩ : ∃ W1, W1 = wr.alloc (.cells #[.int .i64 y0, .int .i64 y1, .int .u32 y2, .int .i64 y3, .int .i64 y4] 72) := ⟨_, rfl⟩
      have hBW : Below wr.heap.size wr W1 := by rw [hW1]; (repeat (first | exact Below.refl _ _ | assumption | refine bchain (by assumption) ?_ | refine balloc ?_ _ | apply Below.drew | apply below_drewN | (refine Below.alloc ?_ (by (try simp) <;> omega) _) | (refine Below.setCell ?_ (by (try simp) <;> omega) _)))
      have tb : TB W1 wr.heap.size y0 y1 y2 y3 y4 := by rw [hW1]; exact TB.made _ _ _ _ _ _ _
      have hf1 := hf.below hBW
      have hr1 := hr.below hBW
      have hB1 := hB.trans (hBW.mono hBz)
      replace hW1 := Lib.hid hW1
      obtain ⟨zf, f0, f1, f2⟩ := id hf
      obtain ⟨zr, d0, d1, fR⟩ := id hr
      have hn1 : w.heap.size + 1 ≠ wr.heap.size := by omega
      have hn2 : w.heap.size + 1 + 1 ≠ wr.heap.size := by omega
      replace hr := Lib.hid hr
      clear hf hBW tb
      by_cases c : y0 = k ∧ y1 = m ∧ y2 = y
      · obtain ⟨rfl, rfl, rfl⟩ := c
        have hh := coF_hit (ts := ts) (by rw [hld.out]; exact hlt) hno.out (by rw [hBk]; simp [isT])
        rw [hPQ.out, hBk] at hh
        dsimp only at hh
        cases hh
        have hq : ∀ W, (Op.equalIn 10000 35 (.agg #[.int .i64 y0, .int .i64 y1, .int .u32 y2]) (.agg #[.int .i64 y0, .int .i64 y1, .int .u32 y2])).run Try.prog W = .ok true W := fun W => by rw [eqFl]; simp
        have hF := (hr.out.put P Q).below (balloc (Below.refl _ _) (.cells #[.int .i64 y0, .int .i64 y1, .int .u32 y2, .int .i64 P, .int .i64 Q] 72))
        have hBB := balloc ((hB.setCell (p := ⟨w.heap.size + 1 + 1, 0, none⟩) (by show w.heap.size ≤ w.heap.size + 1 + 1; omega) (.int .i64 P)).setCell (p := ⟨w.heap.size + 1 + 1, 1, none⟩) (by show w.heap.size ≤ w.heap.size + 1 + 1; omega) (.int .i64 Q)) (.cells #[.int .i64 y0, .int .i64 y1, .int .u32 y2, .int .i64 P, .int .i64 Q] 72)
        go_wp2
        obtain ⟨WW, hWW⟩ : ∃ WW, WW = ((wr.setCell ⟨w.heap.size + 1 + 1, 0, none⟩ (.int .i64 P)).setCell ⟨w.heap.size + 1 + 1, 1, none⟩ (.int .i64 Q)).alloc (.cells #[.int .i64 y0, .int .i64 y1, .int .u32 y2, .int .i64 P, .int .i64 Q] 72) := ⟨_, rfl⟩
        rw [← hWW] at hF hBB ⊢
        clear hWW
        obtain ⟨_, hF0, hF1, _⟩ := hF
        exact bodyPost_ret (v := .agg #[.int .i64 P, .int .i64 Q]) (by simp [results, Try.results27, go_sem, hF0, hF1]) rfl ⟨rfl, hBB⟩
      · have hq : ∀ W, (Op.equalIn 10000 35 (.agg #[.int .i64 y0, .int .i64 y1, .int .u32 y2]) (.agg #[.int .i64 k, .int .i64 m, .int .u32 y])).run Try.prog W = .ok false W := fun W => by
          rw [eqFl]
          have : (y0 == k && (y1 == m && y2 == y)) = false := by
            rw [Bool.eq_false_iff]
            intro h
            simp at h
            exact c h
          rw [this]
        have hno2 : ∀ j, j < i + 1 → isT k m y (tAt ts j) = false := fun j hj => by
          by_cases e : j = i
          · subst e
            rw [hBk, Bool.eq_false_iff]
            intro h
            simp [isT] at h
            exact c h
          · exact hno.out j (by omega)
        replace hno2 := Lib.hid hno2
        clear hno c
        go_wp2
        rw [← hW1.out]
        go_roundw
        case rel => exact ⟨i + 1, by omega, by go_num, hno2.out, hf1, hr1, hB1⟩
        case measure => simp [intOf]; omega
    · obtain rfl : i = l := by omega
      have hd := decide_eq_false (show ¬ ((i : Int) < (i : Int)) by omega)
      have hh := coF_miss (ts := ts) (fun j hj => hno.out j (by rw [← hld.out]; exact hj))
      rw [hPQ.out] at hh
      cases hh
      go_wp2_with fail
      refine (iwh_any _ 0).mono ?_
      rintro r3 w3 ⟨rfl, hb3⟩
      have hfb := hr.below hb3
      have hbw := bchain hb3 hB
      obtain ⟨_, d0, d1, fR⟩ := id hfb
      go_wp2
      have hF := hfb.put (0) (1)
      have hBB := ((hbw.setCell (p := ⟨w.heap.size + 1 + 1, 0, none⟩) (by show w.heap.size ≤ w.heap.size + 1 + 1; omega) (.int .i64 (0))).setCell (p := ⟨w.heap.size + 1 + 1, 1, none⟩) (by show w.heap.size ≤ w.heap.size + 1 + 1; omega) (.int .i64 (1)))
      obtain ⟨WW, hWW⟩ : ∃ WW, WW = ((w3.setCell ⟨w.heap.size + 1 + 1, 0, none⟩ (.int .i64 (0))).setCell ⟨w.heap.size + 1 + 1, 1, none⟩ (.int .i64 (1))) := ⟨_, rfl⟩
      rw [← hWW] at hF hBB ⊢
      clear hWW
      obtain ⟨_, hF0, hF1, _⟩ := hF
      exact bodyPost_ret (v := .agg #[.int .i64 (0), .int .i64 (1)]) (by simp [results, Try.results27, go_sem, hF0, hF1]) rfl ⟨rfl, hBB⟩
end
end Go.Proofs.Ytfnjgdocmfmfgab
/-
  CoefficientOf: both contracts.
-/
namespace Go.Proofs.Ytfnjgdocmfmfgab
open Go.RowKit Go.Shelf
set_option maxRecDepth 100000
attribute [local go_sem] Oper.semAt_some
def RetFr (W : World) (P Q c : Int) (r : Ending) (w' : World) : Prop := r = .returned (.tuple #[.agg #[.int .i64 P, .int .i64 Q], .int .i64 c]) ∧ Below W.heap.size W w'
theorem co_keep {w W : World} {G : Nat} {n e s k m y : Int} {u : Value} (h1 : SB w G n e s u) (h2 : FC w (G + 1) k m y) (h3 : FrB w (G + 1 + 1) 0 0) (hb : Below w.heap.size w W) :
    W.cell? ⟨G, 0, none⟩ = some (.int .i64 n) ∧ W.cell? ⟨G, 1, none⟩ = some (.int .u32 e) ∧ W.cell? ⟨G, 2, none⟩ = some (.int .i64 s) ∧ W.cell? ⟨G, 3, none⟩ = some u ∧
      W.cell? ⟨G + 1, 0, none⟩ = some (.int .i64 k) ∧ W.cell? ⟨G + 1, 1, none⟩ = some (.int .i64 m) ∧ W.cell? ⟨G + 1, 2, none⟩ = some (.int .u32 y) ∧
      W.cell? ⟨G + 1 + 1, 0, none⟩ = some (cellOf W ⟨G + 1 + 1, 0, none⟩) ∧ W.cell? ⟨G + 1 + 1, 1, none⟩ = some (cellOf W ⟨G + 1 + 1, 1, none⟩) ∧ W.frozen? ⟨G + 1 + 1, 0, none⟩ = false ∧ W.frozen? ⟨G + 1 + 1, 1, none⟩ = false := by
  have a := h1.below hb
  have b := h2.below hb
  have c := h3.below hb
  exact ⟨a.c0, a.c1, a.c2, a.c3, b.c0, b.c1, b.c2, cellOf_of c.c0, cellOf_of c.c1, c.fz _, c.fz _⟩
theorem co_held {w W S : World} {G : Nat} {n e s k m y p q : Int} {u : Value} (h1 : SB w G n e s u) (h2 : FC w (G + 1) k m y) (h3 : FrB w (G + 1 + 1) 0 0) (hb : Below w.heap.size w W) (hS : S = (W.setCell ⟨G + 1 + 1, 0, none⟩ (.int .i64 p)).setCell ⟨G + 1 + 1, 1, none⟩ (.int .i64 q)) :
    S.cell? ⟨G, 0, none⟩ = some (.int .i64 n) ∧ S.cell? ⟨G, 1, none⟩ = some (.int .u32 e) ∧ S.cell? ⟨G, 2, none⟩ = some (.int .i64 s) ∧ S.cell? ⟨G, 3, none⟩ = some u ∧
      S.cell? ⟨G + 1, 0, none⟩ = some (.int .i64 k) ∧ S.cell? ⟨G + 1, 1, none⟩ = some (.int .i64 m) ∧ S.cell? ⟨G + 1, 2, none⟩ = some (.int .u32 y) ∧
      S.cell? ⟨G + 1 + 1, 0, none⟩ = some (cellOf S ⟨G + 1 + 1, 0, none⟩) ∧ S.cell? ⟨G + 1 + 1, 1, none⟩ = some (cellOf S ⟨G + 1 + 1, 1, none⟩) ∧ S.frozen? ⟨G + 1 + 1, 0, none⟩ = false ∧ S.frozen? ⟨G + 1 + 1, 1, none⟩ = false := by
  have a := ((h1.below hb).other (a := ⟨G + 1 + 1, 0, none⟩) (.int .i64 p) (by show G + 1 + 1 ≠ G; omega)).other (a := ⟨G + 1 + 1, 1, none⟩) (.int .i64 q) (by show G + 1 + 1 ≠ G; omega)
  have b := ((h2.below hb).other (p := ⟨G + 1 + 1, 0, none⟩) (.int .i64 p) (by show G + 1 + 1 ≠ G + 1; omega)).other (p := ⟨G + 1 + 1, 1, none⟩) (.int .i64 q) (by show G + 1 + 1 ≠ G + 1; omega)
  have c := (h3.below hb).put p q
  subst hS
  exact ⟨a.c0, a.c1, a.c2, a.c3, b.c0, b.c1, b.c2, cellOf_of c.c0, cellOf_of c.c1, c.fz _, c.fz _⟩
section
variable (w : World)
theorem slz_any : Calls Try.prog 18 #[] w fun r w' => r = .returned (.agg #[.int .i64 0, .int .i64 1]) ∧ Below w.heap.size w w' := by
  go_enter Try.func18, Try.ntmps18
  go_wp2
  exact bodyPost_ret (v := .agg #[.int .i64 0, .int .i64 1]) (by simp [results, Try.results18, go_sem]) rfl ⟨rfl, by (repeat (first | exact Below.refl _ _ | assumption | refine bchain (by assumption) ?_ | refine balloc ?_ _ | apply Below.drew | apply below_drewN | (refine Below.alloc ?_ (by (try simp) <;> omega) _) | (refine Below.setCell ?_ (by (try simp) <;> omega) _)))⟩
theorem sc_sum (X : SM) (u : Value) (k m y : Int) (hS : SlT w u X.ts) (hbd : BdS X) (hv : ¬ VSum X) :
    Calls Try.prog 19 #[.agg #[.int .i64 X.n, .int .u32 X.e, .int .i64 X.s, u], .agg #[.int .i64 k, .int .i64 m, .int .u32 y]] w (RetFr w 0 0 1) := by
  have hV := Lib.hid (fun W G (hb : Below w.heap.size w W) c1 => sv5_any W X u G c1 (hS.below hb) hbd false ⟨fun c => (by cases c), fun c => absurd c hv⟩)
  obtain ⟨a, cap, rfl, _⟩ := id hS
  obtain ⟨l, hl⟩ : ∃ l, X.ts.length = l := ⟨_, rfl⟩
  rw [hl] at hV ⊢
  clear hl hS hbd hv
  obtain ⟨W0, hW0⟩ : ∃ W0, W0 = ((w.alloc (.cells #[.int .i64 X.n, .int .u32 X.e, .int .i64 X.s, .slice a l cap] 40)).alloc (.cells #[.int .i64 k, .int .i64 m, .int .u32 y] 35)).alloc (.cells #[.int .i64 0, .int .i64 0] 32) := ⟨_, rfl⟩
  have hb0 : Below w.heap.size w W0 := by rw [hW0]; (repeat (first | exact Below.refl _ _ | assumption | refine bchain (by assumption) ?_ | refine balloc ?_ _ | apply Below.drew | apply below_drewN | (refine Below.alloc ?_ (by (try simp) <;> omega) _) | (refine Below.setCell ?_ (by (try simp) <;> omega) _)))
  have sz : ∀ (W : World) (o : Obj), (W.alloc o).heap.size = W.heap.size + 1 := fun W o => by simp
  have k0 : SB W0 w.heap.size X.n X.e X.s (.slice a l cap) := by rw [hW0]; exact ((SB.made _ _ _ _ _ _).below (balloc (Below.refl _ _) _)).below (balloc (Below.refl _ _) _)
  have f0 : FC W0 (w.heap.size + 1) k m y := by rw [hW0, ← sz w (.cells #[.int .i64 X.n, .int .u32 X.e, .int .i64 X.s, .slice a l cap] 40)]; exact (FC.made _ _ _ _ _).below (balloc (Below.refl _ _) _)
  have r0 : FrB W0 (w.heap.size + 1 + 1) 0 0 := by rw [hW0, ← sz w (.cells #[.int .i64 X.n, .int .u32 X.e, .int .i64 X.s, .slice a l cap] 40), ← sz _ (.cells #[.int .i64 k, .int .i64 m, .int .u32 y] 35)]; exact FrB.made _ _ _ _
  replace hW0 := Lib.hid hW0
  clear sz
  obtain ⟨_, x0, x1, x2, x3, _⟩ := id k0
  go_enter Try.func19, Try.ntmps19
  go_wp2_with fail
  rw [← hW0.out]
  refine (hV.out _ _ hb0 k0).mono ?_
  rintro r1 w1 ⟨rfl, hb1⟩
  have k1 := k0.below hb1
  have f1 := f0.below hb1
  have r1 := r0.below hb1
  have b1 := bchain hb1 hb0
  clear hb1 x0 x1 x2 x3 k0 f0 r0 hb0
  have hfb := r1
  have hbw := b1
  obtain ⟨_, d0, d1, fR⟩ := id hfb
  go_wp2
  have hF := hfb.put (0) (0)
  have hBB := ((hbw.setCell (p := ⟨w.heap.size + 1 + 1, 0, none⟩) (by show w.heap.size ≤ w.heap.size + 1 + 1; omega) (.int .i64 (0))).setCell (p := ⟨w.heap.size + 1 + 1, 1, none⟩) (by show w.heap.size ≤ w.heap.size + 1 + 1; omega) (.int .i64 (0)))
  obtain ⟨WW, hWW⟩ : ∃ WW, WW = ((w1.setCell ⟨w.heap.size + 1 + 1, 0, none⟩ (.int .i64 (0))).setCell ⟨w.heap.size + 1 + 1, 1, none⟩ (.int .i64 (0))) := ⟨_, rfl⟩
  rw [← hWW] at hF hBB ⊢
  clear hWW
  obtain ⟨_, hF0, hF1, _⟩ := hF
  exact bodyPost_ret (v := .tuple #[.agg #[.int .i64 (0), .int .i64 (0)], .int .i64 1]) (by simp [results, Try.results19, go_sem, hF0, hF1]) rfl ⟨rfl, hBB⟩
theorem sc_flag (X : SM) (u : Value) (k m y : Int) (hS : SlT w u X.ts) (hbd : BdS X) (hv : VSum X) (hy : y < 4294967296) (hy0 : 0 ≤ y) (hk : ¬ VK k m y) :
    Calls Try.prog 19 #[.agg #[.int .i64 X.n, .int .u32 X.e, .int .i64 X.s, u], .agg #[.int .i64 k, .int .i64 m, .int .u32 y]] w (RetFr w 0 0 1) := by
  have hV := Lib.hid (fun W G (hb : Below w.heap.size w W) c1 => sv5_any W X u G c1 (hS.below hb) hbd true ⟨fun _ => hv, fun _ => rfl⟩)
  have hK := Lib.hid (fun W => sok_f W k m y hy hy0 hk)
  obtain ⟨a, cap, rfl, _⟩ := id hS
  obtain ⟨l, hl⟩ : ∃ l, X.ts.length = l := ⟨_, rfl⟩
  rw [hl] at hV ⊢
  clear hl hS hbd hv hy hy0 hk
  obtain ⟨W0, hW0⟩ : ∃ W0, W0 = ((w.alloc (.cells #[.int .i64 X.n, .int .u32 X.e, .int .i64 X.s, .slice a l cap] 40)).alloc (.cells #[.int .i64 k, .int .i64 m, .int .u32 y] 35)).alloc (.cells #[.int .i64 0, .int .i64 0] 32) := ⟨_, rfl⟩
  have hb0 : Below w.heap.size w W0 := by rw [hW0]; (repeat (first | exact Below.refl _ _ | assumption | refine bchain (by assumption) ?_ | refine balloc ?_ _ | apply Below.drew | apply below_drewN | (refine Below.alloc ?_ (by (try simp) <;> omega) _) | (refine Below.setCell ?_ (by (try simp) <;> omega) _)))
  have sz : ∀ (W : World) (o : Obj), (W.alloc o).heap.size = W.heap.size + 1 := fun W o => by simp
  have k0 : SB W0 w.heap.size X.n X.e X.s (.slice a l cap) := by rw [hW0]; exact ((SB.made _ _ _ _ _ _).below (balloc (Below.refl _ _) _)).below (balloc (Below.refl _ _) _)
  have f0 : FC W0 (w.heap.size + 1) k m y := by rw [hW0, ← sz w (.cells #[.int .i64 X.n, .int .u32 X.e, .int .i64 X.s, .slice a l cap] 40)]; exact (FC.made _ _ _ _ _).below (balloc (Below.refl _ _) _)
  have r0 : FrB W0 (w.heap.size + 1 + 1) 0 0 := by rw [hW0, ← sz w (.cells #[.int .i64 X.n, .int .u32 X.e, .int .i64 X.s, .slice a l cap] 40), ← sz _ (.cells #[.int .i64 k, .int .i64 m, .int .u32 y] 35)]; exact FrB.made _ _ _ _
  replace hW0 := Lib.hid hW0
  clear sz
  obtain ⟨_, x0, x1, x2, x3, _⟩ := id k0
  go_enter Try.func19, Try.ntmps19
  go_wp2_with fail
  rw [← hW0.out]
  refine (hV.out _ _ hb0 k0).mono ?_
  rintro r1 w1 ⟨rfl, hb1⟩
  have k1 := k0.below hb1
  have f1 := f0.below hb1
  have r1 := r0.below hb1
  have b1 := bchain hb1 hb0
  clear hb1 x0 x1 x2 x3 k0 f0 r0 hb0
  obtain ⟨_, e0, e1, e2⟩ := id f1
  go_wp2_with fail
  refine (hK.out _).mono ?_
  rintro r2 w2 ⟨rfl, hb2⟩
  have hfb := r1.below hb2
  have hbw := bchain hb2 b1
  obtain ⟨_, d0, d1, fR⟩ := id hfb
  go_wp2
  have hF := hfb.put (0) (0)
  have hBB := ((hbw.setCell (p := ⟨w.heap.size + 1 + 1, 0, none⟩) (by show w.heap.size ≤ w.heap.size + 1 + 1; omega) (.int .i64 (0))).setCell (p := ⟨w.heap.size + 1 + 1, 1, none⟩) (by show w.heap.size ≤ w.heap.size + 1 + 1; omega) (.int .i64 (0)))
  obtain ⟨WW, hWW⟩ : ∃ WW, WW = ((w2.setCell ⟨w.heap.size + 1 + 1, 0, none⟩ (.int .i64 (0))).setCell ⟨w.heap.size + 1 + 1, 1, none⟩ (.int .i64 (0))) := ⟨_, rfl⟩
  rw [← hWW] at hF hBB ⊢
  clear hWW
  obtain ⟨_, hF0, hF1, _⟩ := hF
  exact bodyPost_ret (v := .tuple #[.agg #[.int .i64 (0), .int .i64 (0)], .int .i64 1]) (by simp [results, Try.results19, go_sem, hF0, hF1]) rfl ⟨rfl, hBB⟩
theorem sc_fit (X : SM) (u : Value) (k m y : Nat) (hS : SlT w u X.ts) (hbd : BdS X) (hv : VSum X) (hk : VK k m y) (hf : ¬ Fits k m y X.n X.e X.s) :
    Calls Try.prog 19 #[.agg #[.int .i64 X.n, .int .u32 X.e, .int .i64 X.s, u], .agg #[.int .i64 k, .int .i64 m, .int .u32 y]] w (RetFr w 0 0 2) := by
  have hV := Lib.hid (fun W G (hb : Below w.heap.size w W) c1 => sv5_any W X u G c1 (hS.below hb) hbd true ⟨fun _ => hv, fun _ => rfl⟩)
  have hK := Lib.hid (fun W => sok_t W k m y hk)
  have hI := Lib.hid (fun W => sof_any W k m y X.n X.e X.s hk false ⟨fun c => (by cases c), fun c => absurd c hf⟩)
  obtain ⟨a, cap, rfl, _⟩ := id hS
  obtain ⟨l, hl⟩ : ∃ l, X.ts.length = l := ⟨_, rfl⟩
  rw [hl] at hV ⊢
  clear hl hS hbd hv hk hf
  obtain ⟨W0, hW0⟩ : ∃ W0, W0 = ((w.alloc (.cells #[.int .i64 X.n, .int .u32 X.e, .int .i64 X.s, .slice a l cap] 40)).alloc (.cells #[.int .i64 k, .int .i64 m, .int .u32 y] 35)).alloc (.cells #[.int .i64 0, .int .i64 0] 32) := ⟨_, rfl⟩
  have hb0 : Below w.heap.size w W0 := by rw [hW0]; (repeat (first | exact Below.refl _ _ | assumption | refine bchain (by assumption) ?_ | refine balloc ?_ _ | apply Below.drew | apply below_drewN | (refine Below.alloc ?_ (by (try simp) <;> omega) _) | (refine Below.setCell ?_ (by (try simp) <;> omega) _)))
  have sz : ∀ (W : World) (o : Obj), (W.alloc o).heap.size = W.heap.size + 1 := fun W o => by simp
  have k0 : SB W0 w.heap.size X.n X.e X.s (.slice a l cap) := by rw [hW0]; exact ((SB.made _ _ _ _ _ _).below (balloc (Below.refl _ _) _)).below (balloc (Below.refl _ _) _)
  have f0 : FC W0 (w.heap.size + 1) k m y := by rw [hW0, ← sz w (.cells #[.int .i64 X.n, .int .u32 X.e, .int .i64 X.s, .slice a l cap] 40)]; exact (FC.made _ _ _ _ _).below (balloc (Below.refl _ _) _)
  have r0 : FrB W0 (w.heap.size + 1 + 1) 0 0 := by rw [hW0, ← sz w (.cells #[.int .i64 X.n, .int .u32 X.e, .int .i64 X.s, .slice a l cap] 40), ← sz _ (.cells #[.int .i64 k, .int .i64 m, .int .u32 y] 35)]; exact FrB.made _ _ _ _
  replace hW0 := Lib.hid hW0
  clear sz
  obtain ⟨_, x0, x1, x2, x3, _⟩ := id k0
  go_enter Try.func19, Try.ntmps19
  go_wp2_with fail
  rw [← hW0.out]
  refine (hV.out _ _ hb0 k0).mono ?_
  rintro r1 w1 ⟨rfl, hb1⟩
  have k1 := k0.below hb1
  have f1 := f0.below hb1
  have r1 := r0.below hb1
  have b1 := bchain hb1 hb0
  clear hb1 x0 x1 x2 x3 k0 f0 r0 hb0
  obtain ⟨_, e0, e1, e2⟩ := id f1
  go_wp2_with fail
  refine (hK.out _).mono ?_
  rintro r2 w2 ⟨rfl, hb2⟩
  have k2 := k1.below hb2
  have f2 := f1.below hb2
  have r2 := r1.below hb2
  have b2 := bchain hb2 b1
  clear hb2 e0 e1 e2 k1 f1 r1 b1
  obtain ⟨_, e0, e1, e2⟩ := id f2
  obtain ⟨_, x0, x1, x2, x3, _⟩ := id k2
  go_wp2_with fail
  refine (hI.out _).mono ?_
  rintro r3 w3 ⟨rfl, hb3⟩
  have k3 := k2.below hb3
  have f3 := f2.below hb3
  have r3 := r2.below hb3
  have b3 := bchain hb3 b2
  clear hb3 e0 e1 e2 x0 x1 x2 x3 k2 f2 r2 b2
  have hfb := r3
  have hbw := b3
  obtain ⟨_, d0, d1, fR⟩ := id hfb
  go_wp2
  have hF := hfb.put (0) (0)
  have hBB := ((hbw.setCell (p := ⟨w.heap.size + 1 + 1, 0, none⟩) (by show w.heap.size ≤ w.heap.size + 1 + 1; omega) (.int .i64 (0))).setCell (p := ⟨w.heap.size + 1 + 1, 1, none⟩) (by show w.heap.size ≤ w.heap.size + 1 + 1; omega) (.int .i64 (0)))
  obtain ⟨WW, hWW⟩ : ∃ WW, WW = ((w3.setCell ⟨w.heap.size + 1 + 1, 0, none⟩ (.int .i64 (0))).setCell ⟨w.heap.size + 1 + 1, 1, none⟩ (.int .i64 (0))) := ⟨_, rfl⟩
  rw [← hWW] at hF hBB ⊢
  clear hWW
  obtain ⟨_, hF0, hF1, _⟩ := hF
  exact bodyPost_ret (v := .tuple #[.agg #[.int .i64 (0), .int .i64 (0)], .int .i64 2]) (by simp [results, Try.results19, go_sem, hF0, hF1]) rfl ⟨rfl, hBB⟩
set_option maxHeartbeats 8000000 in
theorem sc_ok (X : SM) (u : Value) (k m y0 : Nat) (hS : SlT w u X.ts) (hbd : BdS X) (hv : VSum X) (hk : VK k m y0) (hf : Fits k m y0 X.n X.e X.s) (P Q : Int) (hPQ : coF X.ts k m (leastK m k y0 : Nat) = (P, Q)) :
    Calls Try.prog 19 #[.agg #[.int .i64 X.n, .int .u32 X.e, .int .i64 X.s, u], .agg #[.int .i64 k, .int .i64 m, .int .u32 y0]] w (RetFr w P Q 0) := by
  have hV := Lib.hid (fun W G (hb : Below w.heap.size w W) c1 => sv5_any W X u G c1 (hS.below hb) hbd true ⟨fun _ => hv, fun _ => rfl⟩)
  have hK := Lib.hid (fun W => sok_t W k m y0 hk)
  have hI := Lib.hid (fun W => sof_any W k m y0 X.n X.e X.s hk true ⟨fun _ => hf, fun _ => rfl⟩)
  have hL := Lib.hid (fun W => sleastK_any W k m y0 hk)
  obtain ⟨y, hz⟩ : ∃ y, leastK m k y0 = y := ⟨_, rfl⟩
  rw [hz] at hL hPQ
  replace hPQ := Lib.hid hPQ
  have hl64 := hv.2.2.1
  obtain ⟨a, cap, hu, h1, h2, h3⟩ := id hS
  obtain ⟨l, hl⟩ : ∃ l, X.ts.length = l := ⟨_, rfl⟩
  have h3b : Hid (0 < l → ∃ b off, a = some ⟨b, off, none⟩ ∧ b < w.heap.size ∧ ∀ i, i < l → TCell w b off (tAt X.ts i) i) := fun h => by rw [← hl] at h ⊢; exact h3 (List.length_pos_iff.1 h)
  rw [hu] at hV ⊢
  rw [hl] at hV h1 hl64 ⊢
  have hld := Lib.hid hl
  clear hl hS hbd hv hk hf hz h3 hu
  obtain ⟨W0, hW0⟩ : ∃ W0, W0 = ((w.alloc (.cells #[.int .i64 X.n, .int .u32 X.e, .int .i64 X.s, .slice a l cap] 40)).alloc (.cells #[.int .i64 k, .int .i64 m, .int .u32 y0] 35)).alloc (.cells #[.int .i64 0, .int .i64 0] 32) := ⟨_, rfl⟩
  have hb0 : Below w.heap.size w W0 := by rw [hW0]; (repeat (first | exact Below.refl _ _ | assumption | refine bchain (by assumption) ?_ | refine balloc ?_ _ | apply Below.drew | apply below_drewN | (refine Below.alloc ?_ (by (try simp) <;> omega) _) | (refine Below.setCell ?_ (by (try simp) <;> omega) _)))
  have sz : ∀ (W : World) (o : Obj), (W.alloc o).heap.size = W.heap.size + 1 := fun W o => by simp
  have k0 : SB W0 w.heap.size X.n X.e X.s (.slice a l cap) := by rw [hW0]; exact ((SB.made _ _ _ _ _ _).below (balloc (Below.refl _ _) _)).below (balloc (Below.refl _ _) _)
  have f0 : FC W0 (w.heap.size + 1) k m y0 := by rw [hW0, ← sz w (.cells #[.int .i64 X.n, .int .u32 X.e, .int .i64 X.s, .slice a l cap] 40)]; exact (FC.made _ _ _ _ _).below (balloc (Below.refl _ _) _)
  have r0 : FrB W0 (w.heap.size + 1 + 1) 0 0 := by rw [hW0, ← sz w (.cells #[.int .i64 X.n, .int .u32 X.e, .int .i64 X.s, .slice a l cap] 40), ← sz _ (.cells #[.int .i64 k, .int .i64 m, .int .u32 y0] 35)]; exact FrB.made _ _ _ _
  replace hW0 := Lib.hid hW0
  clear sz
  obtain ⟨_, x0, x1, x2, x3, _⟩ := id k0
  go_enter Try.func19, Try.ntmps19
  go_wp2_with fail
  rw [← hW0.out]
  refine (hV.out _ _ hb0 k0).mono ?_
  rintro r1 w1 ⟨rfl, hb1⟩
  have k1 := k0.below hb1
  have f1 := f0.below hb1
  have r1 := r0.below hb1
  have b1 := bchain hb1 hb0
  clear hb1 x0 x1 x2 x3 k0 f0 r0 hb0
  obtain ⟨_, e0, e1, e2⟩ := id f1
  go_wp2_with fail
  refine (hK.out _).mono ?_
  rintro r2 w2 ⟨rfl, hb2⟩
  have k2 := k1.below hb2
  have f2 := f1.below hb2
  have r2 := r1.below hb2
  have b2 := bchain hb2 b1
  clear hb2 e0 e1 e2 k1 f1 r1 b1
  obtain ⟨_, e0, e1, e2⟩ := id f2
  obtain ⟨_, x0, x1, x2, x3, _⟩ := id k2
  go_wp2_with fail
  refine (hI.out _).mono ?_
  rintro r3 w3 ⟨rfl, hb3⟩
  have k3 := k2.below hb3
  have f3 := f2.below hb3
  have r3 := r2.below hb3
  have b3 := bchain hb3 b2
  clear hb3 e0 e1 e2 x0 x1 x2 x3 k2 f2 r2 b2
  obtain ⟨_, e0, e1, e2⟩ := id f3
  go_wp2_with fail
  refine (hL.out _).mono ?_
  rintro r4 w4 ⟨rfl, hb4⟩
  have k4 := k3.below hb4
  have r4 := r3.below hb4
  have b4 := bchain hb4 b3
  obtain ⟨W5, hW5⟩ : ∃ W5, W5 = w4.alloc (.cells #[.int .i64 (k : Int), .int .i64 (m : Int), .int .u32 (y : Int)] 35) := ⟨_, rfl⟩
  have hb45 : Below w4.heap.size w4 W5 := by rw [hW5]; (repeat (first | exact Below.refl _ _ | assumption | refine bchain (by assumption) ?_ | refine balloc ?_ _ | apply Below.drew | apply below_drewN | (refine Below.alloc ?_ (by (try simp) <;> omega) _) | (refine Below.setCell ?_ (by (try simp) <;> omega) _)))
  have k5 := k4.below hb45
  have r5 := r4.below hb45
  have b5 := bchain hb45 b4
  have f5 : FC W5 w4.heap.size k m y := by rw [hW5]; exact FC.made _ _ _ _ _
  clear hb4 hb45 e0 e1 e2 k3 f3 r3 b3 k4 r4 b4
  obtain ⟨_, x0, x1, x2, x3, _⟩ := id k5
  go_wp2_with fail
  rw [← hW5]
  replace hW5 := Lib.hid hW5
  go_loopw [7] (fun q wr => ∃ i : Nat, i ≤ l ∧ q = .int .i64 i ∧ (∀ j, j < i → isT k m y (tAt X.ts j) = false) ∧ SB wr w.heap.size X.n X.e X.s (.slice a l cap) ∧ FC wr w4.heap.size k m y ∧ FrB wr (w.heap.size + 1 + 1) 0 0 ∧ Below w.heap.size w wr) (fun q _ => l - (intOf q).toNat)
  case atStart => exact ⟨0, by omega, rfl, fun j hj => by omega, k5, f5, r5, b5⟩
  case round =>
    clear k5 f5 r5 b5 x0 x1 x2 x3
    obtain ⟨i, hi, rfl, hno, hk5, hf, hr, hB⟩ := hrel
    replace hno := Lib.hid hno
    obtain ⟨_, x0, x1, x2, x3, _⟩ := id hk5
    by_cases hlt : i < l
    · skip
      obtain ⟨b, off, rfl, hb, hg⟩ := h3b.out (by omega)
      have hgi := hg i hlt
      obtain ⟨g, hBk⟩ : ∃ g, tAt X.ts i = g := ⟨_, rfl⟩
      obtain ⟨yy0, y1, y2, y3, y4⟩ := g
      rw [hBk] at hgi
      have s0 : wr.cell? ⟨b, off + i * 5, none⟩ = some (.int .i64 yy0) := by rw [hB.cell (p := ⟨b, _, none⟩) hb]; exact hgi.1
      have s1 : wr.cell? ⟨b, off + i * 5 + 1, none⟩ = some (.int .i64 y1) := by rw [hB.cell (p := ⟨b, _, none⟩) hb]; exact hgi.2.1
      have s2 : wr.cell? ⟨b, off + i * 5 + 2, none⟩ = some (.int .u32 y2) := by rw [hB.cell (p := ⟨b, _, none⟩) hb]; exact hgi.2.2.1
      have s3 : wr.cell? ⟨b, off + i * 5 + 3, none⟩ = some (.int .i64 y3) := by rw [hB.cell (p := ⟨b, _, none⟩) hb]; exact hgi.2.2.2.1
      have s4 : wr.cell? ⟨b, off + i * 5 + 4, none⟩ = some (.int .i64 y4) := by rw [hB.cell (p := ⟨b, _, none⟩) hb]; exact hgi.2.2.2.2
      have hkl : (i : Int) < (l : Int) := by omega
      have hk0 : (0 : Int) ≤ (i : Int) := by omega
      have hBz := hB.size
      clear hgi hg
      obtain ⟨zf, f0, f1, f2⟩ := id hf
      obtain ⟨zr, d0, d1, fR⟩ := id hr
      by_cases c : yy0 = k ∧ y1 = m ∧ y2 = y
      · obtain ⟨rfl, rfl, rfl⟩ := c
        have hh := coF_hit (ts := X.ts) (by rw [hld.out]; exact hlt) hno.out (by rw [hBk]; simp [isT])
        rw [hPQ.out, hBk] at hh
        dsimp only at hh
        cases hh
        have hq : ∀ W, (Op.equalIn 10000 35 (.agg #[.int .i64 (k : Int), .int .i64 (m : Int), .int .u32 (y : Int)]) (.agg #[.int .i64 (k : Int), .int .i64 (m : Int), .int .u32 (y : Int)])).run Try.prog W = .ok true W := fun W => by rw [eqFl]; simp
        go_wp2
        go_quiet (fail)
        have hfb := hr.drewN nq
        have hbw := below_drewN hB nq
        obtain ⟨_, v0, v1, vR⟩ := id hfb
        go_wp2
        have hF := hfb.put (P) (Q)
        have hBB := ((hbw.setCell (p := ⟨w.heap.size + 1 + 1, 0, none⟩) (by show w.heap.size ≤ w.heap.size + 1 + 1; omega) (.int .i64 (P))).setCell (p := ⟨w.heap.size + 1 + 1, 1, none⟩) (by show w.heap.size ≤ w.heap.size + 1 + 1; omega) (.int .i64 (Q)))
        obtain ⟨WW, hWW⟩ : ∃ WW, WW = (((wr.drewN nq).setCell ⟨w.heap.size + 1 + 1, 0, none⟩ (.int .i64 (P))).setCell ⟨w.heap.size + 1 + 1, 1, none⟩ (.int .i64 (Q))) := ⟨_, rfl⟩
        rw [← hWW] at hF hBB ⊢
        clear hWW
        obtain ⟨_, hF0, hF1, _⟩ := hF
        exact bodyPost_ret (v := .tuple #[.agg #[.int .i64 (P), .int .i64 (Q)], .int .i64 0]) (by simp [results, Try.results19, go_sem, hF0, hF1]) rfl ⟨rfl, hBB⟩
      · have hq : ∀ W, (Op.equalIn 10000 35 (.agg #[.int .i64 yy0, .int .i64 y1, .int .u32 y2]) (.agg #[.int .i64 k, .int .i64 m, .int .u32 y])).run Try.prog W = .ok false W := fun W => by
          rw [eqFl]
          have : (yy0 == k && (y1 == m && y2 == y)) = false := by
            rw [Bool.eq_false_iff]
            intro h
            simp at h
            exact c h
          rw [this]
        have hno2 : ∀ j, j < i + 1 → isT k m y (tAt X.ts j) = false := fun j hj => by
          by_cases e : j = i
          · subst e
            rw [hBk, Bool.eq_false_iff]
            intro h
            simp [isT] at h
            exact c h
          · exact hno.out j (by omega)
        replace hno2 := Lib.hid hno2
        clear hno c
        go_wp2
        go_quiet (fail)
        go_wp2
        go_roundw
        case rel => exact ⟨i + 1, by omega, by go_num, hno2.out, hk5.drewN _, hf.drewN _, hr.drewN _, below_drewN hB _⟩
        case measure => simp [intOf]; omega
    · obtain rfl : i = l := by omega
      have hd := decide_eq_false (show ¬ ((i : Int) < (i : Int)) by omega)
      have hh := coF_miss (ts := X.ts) (fun j hj => hno.out j (by rw [← hld.out]; exact hj))
      rw [hPQ.out] at hh
      cases hh
      go_wp2_with fail
      refine (slz_any _).mono ?_
      rintro r6 w6 ⟨rfl, hb6⟩
      have hfb := hr.below hb6
      have hbw := bchain hb6 hB
      obtain ⟨_, d0, d1, fR⟩ := id hfb
      go_wp2
      have hF := hfb.put (0) (1)
      have hBB := ((hbw.setCell (p := ⟨w.heap.size + 1 + 1, 0, none⟩) (by show w.heap.size ≤ w.heap.size + 1 + 1; omega) (.int .i64 (0))).setCell (p := ⟨w.heap.size + 1 + 1, 1, none⟩) (by show w.heap.size ≤ w.heap.size + 1 + 1; omega) (.int .i64 (1)))
      obtain ⟨WW, hWW⟩ : ∃ WW, WW = ((w6.setCell ⟨w.heap.size + 1 + 1, 0, none⟩ (.int .i64 (0))).setCell ⟨w.heap.size + 1 + 1, 1, none⟩ (.int .i64 (1))) := ⟨_, rfl⟩
      rw [← hWW] at hF hBB ⊢
      clear hWW
      obtain ⟨_, hF0, hF1, _⟩ := hF
      exact bodyPost_ret (v := .tuple #[.agg #[.int .i64 (0), .int .i64 (1)], .int .i64 0]) (by simp [results, Try.results19, go_sem, hF0, hF1]) rfl ⟨rfl, hBB⟩
end
end Go.Proofs.Ytfnjgdocmfmfgab
