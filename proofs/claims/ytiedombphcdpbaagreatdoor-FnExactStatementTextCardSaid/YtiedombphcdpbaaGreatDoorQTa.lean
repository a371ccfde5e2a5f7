/-
  Tx, FrameC, Fmt, Tf, Fl, Prs, PrsS, Bw, GtS, Bd, GtI, Tg, STzero, KSmall, KTurn, KTurn1, KTurns, KLeast, KOrder, KSLeast, STone, KEq, STfits, STsame, STvalid, STvalidS, STv, in one text.
-/
import Derived.Test.YtiedombphcdpbaaGreatDoorBase
import Derived.Lib.Hide
import Derived.Lib.ItoaMem
import Derived.Lib.ItoaLen
import Derived.Laws.IdiomStrings
import Derived.Laws.Concat
import Derived.Deep.RegionHeld3
import Derived.IntWalk
import Derived.Deep.RegionWith
import Derived.Test.YtiedombphcdpbaaGreatDoorFrame
import Derived.OpenVars
import Derived.Handed
import Derived.Lay
import Derived.LaidMore
import Derived.Stop.Joined
import Derived.LaidLaws
import Derived.MakeChecks
import Derived.Lib.LaidTab
import Derived.Test.YtiedombphcdpbaaGreatDoorSh
import Derived.Test.YtiedombphcdpbaaGreatDoorRows
import Derived.Stop.LaidErr
import Derived.Test.YtiedombphcdpbaaGreatDoorFrVf
import Derived.Test.YtiedombphcdpbaaGreatDoorDeg
import Derived.RangeFuncBox
import Derived.OwnWalk
import Derived.OwnWalkIn
import Derived.StillTailTactics
import Derived.Test.YtiedombphcdpbaaGreatDoorKVal
import Derived.BigQuiet
import Derived.Deep.QuietTactic
import Derived.Lib.Builder
import Derived.Lib.FrozenHead
import Derived.Lib.OthersKept
import Derived.Laws.Externs
import Derived.RangeFuncOwn
import Derived.Test.YtiedombphcdpbaaGreatDoorSTown
import Derived.Test.YtiedombphcdpbaaGreatDoorPlain
import Derived.Test.YtiedombphcdpbaaGreatDoorSLeast
import Derived.Test.YtiedombphcdpbaaGreatDoorKSees
import Derived.Test.YtiedombphcdpbaaGreatDoorIter
import Derived.Test.YtiedombphcdpbaaGreatDoorLeast
import Derived.Deep.LoopGhost
import Derived.Laws.StructEq
import Derived.Laws.Tables
import Derived.KernelRfl
/-
  DECIMAL TEXTS: the model's Decimal gives the digits.
-/
namespace Go.Proofs.YtiedombphcdpbaaGreatDoor
open Go.RowKit
set_option maxRecDepth 100000
attribute [local go_sem] Oper.semAt_some
/-- a text of bytes -/
def tx (l : List UInt8) : ByteArray := ⟨l.toArray⟩
theorem tx_app (a b : List UInt8) : tx a ++ tx b = tx (a ++ b) := by
  apply ByteArray.ext
  simp [tx]
theorem tx_size (l : List UInt8) : (tx l).size = l.length := by simp [tx, ByteArray.size]
theorem dd_len {n : Nat} (h : n < 1000000000000000000) : (Lib.decDigits n).length ≤ 20 := by rw [Lib.decDigits_length]; exact Lib.nDigits_le20 n (by omega)
theorem dd_lt {n : Nat} (h : n < 10) : Lib.decDigits n = [UInt8.ofNat (48 + n)] := Lib.decDigits_one h
theorem dd_ge {n : Nat} (h : ¬ n < 10) : Lib.decDigits n = Lib.decDigits (n / 10) ++ [UInt8.ofNat (48 + n % 10)] := by rw [Lib.decDigits, dif_neg h]
theorem cv1 (W : World) (B d : Nat) (hd : d < 10) (h : W.cell? ⟨B, 0, none⟩ = some (.int .u8 (48 + (d : Int)))) :
    (convert 56 9 (.slice (some ⟨B, 0, none⟩) 1 1)).run Tryz.prog W = .ok (.string (tx [UInt8.ofNat (48 + d)])) W := by
  have hb : ((UInt8.ofNat (48 + d)).toNat : Int) = 48 + (d : Int) := by
    rw [UInt8.toNat_ofNat']
    omega
  exact run_convert_bytes_back (P := Tryz.prog) W 56 9 5 ⟨B, 0, none⟩ 1 [UInt8.ofNat (48 + d)] Tryz.underlying56 Tryz.underlying5 Tryz.underlying9 (fun j hj => by
    simp at hj
    subst hj
    show W.cell? ⟨B, 0, none⟩ = _
    rw [h]
    show some (Value.int .u8 (48 + (d : Int))) = some (Value.int .u8 ((UInt8.ofNat (48 + d)).toNat : Int))
    rw [hb])
theorem dec_lt (w : World) (n : Nat) (h : n < 10) :
    Calls Tryz.prog 51 #[.int .i64 n] w fun r w' => r = .returned (.string (tx (Lib.decDigits n))) ∧ Below w.heap.size w w' := by
  rw [dd_lt h]
  have h0 : ¬ (10 : Int) ≤ (n : Int) := by omega
  have hd : decide ((10 : Int) ≤ (n : Int)) = false := decide_eq_false h0
  have hw : (48 + (n : Int)) % 256 = 48 + (n : Int) := by omega
  have hw2 : IntKind.u8.wrap (48 + (n : Int)) = 48 + (n : Int) := by rw [IntKind.wrap_u8]; exact hw
  have hcv := cv1 (w.alloc (.cells #[.int .u8 (48 + (n : Int))] 5)) w.heap.size n h (by rw [World.cell?_alloc_new]; rfl)
  go_enter Tryz.func51, Tryz.ntmps51
  go_wp2
  go_ret
  exact ⟨rfl, by (repeat (first | exact Below.refl _ _ | assumption | refine bchain (by assumption) ?_ | refine balloc ?_ _ | apply Below.drew | apply below_drewN | (refine Below.alloc ?_ (by (try simp) <;> omega) _) | (refine Below.setCell ?_ (by (try simp) <;> omega) _)))⟩
set_option maxHeartbeats 1000000 in
theorem dec_any : ∀ (k : Nat) (w : World) (n : Nat), n < 10 ^ (k + 1) → k ≤ 17 →
    Calls Tryz.prog 51 #[.int .i64 n] w fun r w' => r = .returned (.string (tx (Lib.decDigits n))) ∧ Below w.heap.size w w'
  | 0, w, n, h, _ => dec_lt w n (by simpa using h)
  | k + 1, w, n, h, hk => by
    by_cases hn : n < 10
    · exact dec_lt w n hn
    · have hbd : n < 1000000000000000000 := by
        have : 10 ^ (k + 1 + 1) ≤ 10 ^ 18 := Nat.pow_le_pow_right (by omega) (by omega)
        have e : (10 : Nat) ^ 18 = 1000000000000000000 := by decide
        omega
      have hq : n / 10 < 10 ^ (k + 1) := by
        rw [Nat.pow_succ] at h
        omega
      have ih := Lib.hid (fun W => dec_any k W (n / 10) hq (by omega))
      rw [dd_ge hn, ← tx_app]
      have hm : n % 10 < 10 := Nat.mod_lt _ (by omega)
      have e1 : (n : Int) / 10 = ((n / 10 : Nat) : Int) := by omega
      have e2 : (n : Int) % 10 = ((n % 10 : Nat) : Int) := by omega
      have hcv := Lib.hid (fun W B h => cv1 W B (n % 10) hm h)
      obtain ⟨a, ha⟩ : ∃ a, n / 10 = a := ⟨_, rfl⟩
      obtain ⟨d, hd⟩ : ∃ d, n % 10 = d := ⟨_, rfl⟩
      rw [ha] at ih e1
      rw [hd] at hcv e2 hm
      rw [ha, hd]
      have hsum : ∀ W : World, (Op.stringOp .add (tx (Lib.decDigits a)) (tx [UInt8.ofNat (48 + d)])).run Tryz.prog W = .ok (.string (tx (Lib.decDigits a) ++ tx [UInt8.ofNat (48 + d)])) W := fun W => run_string_add W _ _ (by rw [tx_size]; have := dd_len (n := a) (by omega); omega) (by rw [tx_size]; simp)
      obtain ⟨t, ht⟩ : ∃ t, tx (Lib.decDigits a) = t := ⟨_, rfl⟩
      rw [ht] at ih hsum ⊢
      obtain ⟨u, hu⟩ : ∃ u, tx [UInt8.ofNat (48 + d)] = u := ⟨_, rfl⟩
      rw [hu] at hcv hsum ⊢
      have h10 : (10 : Int) ≤ (n : Int) := by omega
      have hw : (48 + (d : Int)) % 256 = 48 + (d : Int) := by omega
      have hcv2 := hcv.out
      have hcv3 : ∀ (W : World) (B : Nat), B = W.heap.size → (convert 56 9 (.slice (some ⟨B, 0, none⟩) 1 1)).run Tryz.prog (W.alloc (.cells #[.int .u8 (48 + (d : Int))] 5)) = .ok (.string u) (W.alloc (.cells #[.int .u8 (48 + (d : Int))] 5)) := fun W B hB => hcv2 _ B (by subst hB; rw [World.cell?_alloc_new]; rfl)
      have et1 : (n : Int).tdiv 10 = (a : Int) := by rw [Int.tdiv_eq_ediv_of_nonneg (by omega)]; exact e1
      have et2 : (n : Int).tmod 10 = (d : Int) := by rw [Int.tmod_eq_emod_of_nonneg (by omega)]; exact e2
      have ew1 : IntKind.i64.wrap (a : Int) = (a : Int) := IntWalk.i64_in _ (by omega)
      have ew2 : IntKind.i64.wrap (d : Int) = (d : Int) := IntWalk.i64_in _ (by omega)
      have ew3 : IntKind.i64.wrap (48 + (d : Int)) = 48 + (d : Int) := IntWalk.i64_in _ (by omega)
      have ew4 : IntKind.u8.wrap (48 + (d : Int)) = 48 + (d : Int) := by rw [IntKind.wrap_u8]; exact hw
      clear ha hd ht hu hq h hcv hn
      go_enter Tryz.func51, Tryz.ntmps51
      go_wp2
      go_region_with (go_at_call 51; (with_reducible refine (ih.out _).mono ?_); rintro r5 w5 ⟨rfl, hb5⟩; try (have hc5 := (hb5.cell (p := ⟨w.heap.size, 0, none⟩) (by simp)).trans (World.cell?_alloc_new _ _ _ _); simp at hc5))
      all_goals go_wp2
      all_goals go_ret
      all_goals exact ⟨rfl, by (repeat (first | exact Below.refl _ _ | assumption | refine bchain (by assumption) ?_ | refine balloc ?_ _ | apply Below.drew | apply below_drewN | (refine Below.alloc ?_ (by (try simp) <;> omega) _) | (refine Below.setCell ?_ (by (try simp) <;> omega) _)))⟩
end Go.Proofs.YtiedombphcdpbaaGreatDoor
/-
  THE FRAME OF A LAW'S ROW OVER LISTED VARIABLES (a card's row), ONCE: what it owes beside its walk. As 'Frame', but the row may list variables ('laid') and name some in the specification.
-/
namespace Go.Proofs.YtiedombphcdpbaaGreatDoor
open Go.ChangeShapes Go.WideShapes Go.ChangeAt Go.RowKit

section
variable {H : Type} {enc : TypeId × Value → H}

theorem trodAll_len {P : Program} {W : World} : ∀ (ts : List TypeId) (vs : List Value) (ds : List (DataW H)) (ps : List MemPlace), DataW.TrodAll enc P W 0 (fun _ => true) true ts vs ds ps → ds.length = ts.length := by
  intro ts
  induction ts with
  | nil => intro vs ds ps h; cases vs <;> cases ds <;> first | rfl | exact h.elim
  | cons t ts ih =>
    intro vs ds ps h
    cases vs with
    | nil => exact h.elim
    | cons v vs => cases ds with
      | nil => exact h.elim
      | cons d ds =>
        obtain ⟨_, q, _, h2, _⟩ := h
        simp [ih _ _ _ h2]
theorem trodVars_len {P : Program} {W : World} : ∀ (ns : List String) (gs : List (DataW H)) (ps : List MemPlace), DataW.TrodVars enc P W (fun _ => true) ns gs ps → gs.length = ns.length := by
  intro ns
  induction ns with
  | nil => intro gs ps h; cases gs <;> first | rfl | exact h.elim
  | cons n ns ih =>
    intro gs ps h
    cases gs with
    | nil => exact h.elim
    | cons d ds =>
      obtain ⟨_, _, _, _, _, q, _, _, _, _, h2, _⟩ := h
      simp [ih _ _ h2]

/-- the step from a law's walk to the row -/
theorem fr_liftC {C : Checked} {os : Os} {f : FuncId} {fn : Func} {s : ChangeSpec} {tb : TypeId} {laid : List (String × DataW Unit)}
    (own : ownKnob C.prog.godebug = none) (started : os.Started) (noInit : C.prog.inits.idxOf? f = none) (hfn : C.prog.funcs[f]? = some fn)
    (hl : laidOutB C.prog = true) (hv : varsRowed C.prog s.vars = true) (hp : (fn.params.toList.all fun t => C.prog.readableRec t && decide (t < C.prog.types.size)) = true)
    (hr : fn.resultTypes = #[tb]) (hb : C.prog.underlying tb = some .bool)
    (hs : ∀ ds gs : List (DataW H), ds.length = fn.params.size → gs.length = s.vars.length → s.fn H (ds ++ gs) = { results := [.lit (.bool true)], args := ds, vars := gs })
    (witness : ∃ (w : World) (tape : Tape) (i : Input), w.os = os ∧ (w.forCall tape i).Shaped C.prog ∧ i.vars = [] ∧ Input.okWide C.prog (w.forCall tape i) .any w.heap.size f i ∧
      ((s.pre enc C.prog fn [] false (w.forCall tape i).memory i.args ∧ laidMetH C.prog laid (w.forCall tape i).memory) ∧ sizedMet enc C.prog fn (OpenSpec.ofChange s) false (w.forCall tape i).memory i.args) ∧ ({} : Assume).holds C.prog (lone (Frame.enter C.prog f i.args .normal) [] (w.forCall tape i)))
    (walk : ∀ (W : World) (base : Nat) (args : Array Value) (ds gs : List (DataW H)) (p : List MemPlace),
      (∀ (j : Nat) t v, fn.params[j]? = some t → args[j]? = some v → Value.okWide C.prog W .any base t v) →
      DataW.TrodAll enc C.prog W 0 (fun _ => true) true fn.params.toList args.toList ds p → (∀ x ∈ p, x.block < W.heap.size) →
      (DataW.weightsEach C.prog (fn.params.toList ++ s.plain.varTypes C.prog) (ds ++ gs)).all (· ≤ reachBytes) = true → laidMetH C.prog laid W →
      Calls C.prog f args W fun e W' => e = .returned (.bool true) ∧ Below W.heap.size W W') :
    ReturnsInHanded {} C os f .any (fun w args => (s.pre enc C.prog fn [] false w args ∧ laidMetH C.prog laid w) ∧ sizedMet enc C.prog fn (OpenSpec.ofChange s) false w args) (s.post enc C.prog fn false true false false) := by
  refine returnsInHanded_of_change_and (X := fun w _ => laidMetH C.prog laid w) (fun _ _ _ hh h => laidMetH.of_heap hh h) own started noInit hfn witness ?_
  intro W base args ds gs before hval hW _ hsz hL _
  have hW' := hW
  obtain ⟨p, q, hA, hV, rfl, hfz, hnd⟩ := hW
  have hlt : ∀ x ∈ p, x.block < W.heap.size := fun x hx => hW'.lt x (List.mem_append_left _ hx)
  have hlen : ds.length = fn.params.size := by simpa using trodAll_len _ _ _ _ hA
  have hlenv : gs.length = s.vars.length := trodVars_len _ _ _ hV
  refine (walk W base args ds gs p hval hA hlt hsz hL).mono fun e W' ⟨he, hbe⟩ => ?_
  subst he
  refine ⟨_, rfl, ds, gs, p ++ q, [], p, q, hW', ?_, ?_, ?_, hbe.frame _, fun h => by cases h⟩
  · rw [hs ds gs hlen hlenv, hr]
    exact trodAll_mk1 (shut_bool hb true)
  · rw [hs ds gs hlen hlenv]
    exact fr_trodAll hl hbe _ _ _ _ hp hA hlt
  · rw [hs ds gs hlen hlenv]
    exact Below.trodVars hl hbe hv hV
end
#print axioms fr_liftC
end Go.Proofs.YtiedombphcdpbaaGreatDoor
/-
  FormatInt AT BASE 10: the table of powers of ten as the row's condition lays it; contracts.
-/
namespace Go.Proofs.YtiedombphcdpbaaGreatDoor
open Go.RowKit
set_option maxRecDepth 100000
attribute [local go_sem] Oper.semAt_some
/-- the table of powers of ten -/
def TabP (W : World) : Prop := Lib.TabIs Tryz.prog W "internal/strconv.uint64pow10" .u64 Lib.pow10Tab
theorem gP : Tryz.prog.globalNamed "internal/strconv.uint64pow10" = some 0 := by kernel_rfl
theorem TabP.below {W W' : World} (h : TabP W) (hb : Below W.heap.size W W') : TabP W' := by
  unfold TabP Lib.TabIs World.var? at h ⊢
  rw [gP] at h ⊢
  simp only [Option.bind_some] at h ⊢
  have hg : 0 < W.heap.size := by
    cases hh : W.heap[0]? with
    | none => rw [hh] at h; cases h
    | some o => exact (Array.getElem?_eq_some_iff.1 hh).1
  rw [hb.block _ hg]; exact h
theorem tabP_of_laid {W : World} {rest : List (String × DataW Unit)} (h : laidMet Tryz.prog (("internal/strconv.uint64pow10", Rows.laid_internal_strconv_uint64pow10) :: rest) W) : TabP W :=
  Lib.tabIs_of_head (zs := Lib.pow10Tab) gP (by kernel_rfl) Tryz.underlying143 Tryz.underlying131 (by kernel_rfl) (by kernel_rfl) h
theorem below_grow (w : World) (q : Nat) (os : Array Obj) : Below w.heap.size w (Sort.grow (w.drewN q) os) :=
  ⟨rfl, rfl, rfl, by simp [Sort.grow], fun i hi => by
    show ((w.drewN q).heap ++ os)[i]? = _
    rw [Array.getElem?_append_left (by show i < w.heap.size; omega)]
    rfl⟩
theorem fmt_any (w : World) (n : Nat) (h : n < 1000000000000000000) (hT : TabP w) :
    Calls Tryz.prog 38 #[.int .i64 n, .int .i64 10] w fun r w' => r = .returned (.string (tx (Lib.decDigits n))) ∧ Below w.heap.size w w' := by
  refine (Tryz.strconv_FormatInt_10 (n : Int) (by omega) (by omega) w hT).mono ?_
  rintro e w' ⟨rfl, k, os, rfl⟩
  rw [Lib.itoa_nonneg]
  exact ⟨rfl, below_grow w k os⟩
theorem fmt_int (w : World) (n : Int) (h : -1000000000000000000 < n) (h2 : n < 1000000000000000000) (hT : TabP w) :
    Calls Tryz.prog 38 #[.int .i64 n, .int .i64 10] w fun r w' => r = .returned (.string (tx (Lib.itoa n))) ∧ Below w.heap.size w w' := by
  refine (Tryz.strconv_FormatInt_10 n (by omega) (by omega) w hT).mono ?_
  rintro e w' ⟨rfl, k, os, rfl⟩
  exact ⟨rfl, below_grow w k os⟩
theorem itoa_len {n : Int} (h : -1000000000000000000 < n) (h2 : n < 1000000000000000000) : (Lib.itoa n).length ≤ 21 := Lib.itoa_length_le n (by omega) (by omega)
end Go.Proofs.YtiedombphcdpbaaGreatDoor
/-
  THE TEXT OF A FRACTION: the program's and the model's contracts.
-/
namespace Go.Proofs.YtiedombphcdpbaaGreatDoor
open Go.RowKit
set_option maxRecDepth 100000
attribute [local go_sem] Oper.semAt_some
def slB : ByteArray := { data := #[47] }
/-- the text of a valid fraction -/
def fText (p : Int) (q : Nat) : ByteArray := if q = 1 then tx (Lib.itoa p) else tx (Lib.itoa p) ++ (slB ++ tx (Lib.decDigits q))
theorem run_sl (q : Nat) (hq : q ≤ 1000000000) (s : ByteArray) (hs : s.size ≤ 100) : (∀ W : World, (Op.stringOp .add slB (tx (Lib.decDigits q))).run Tryz.prog W = .ok (.string (slB ++ tx (Lib.decDigits q))) W) ∧
    (∀ W : World, (Op.stringOp .add s (slB ++ tx (Lib.decDigits q))).run Tryz.prog W = .ok (.string (s ++ (slB ++ tx (Lib.decDigits q)))) W) := by
  have h1 := dd_len (n := q) (by omega)
  have e : slB.size = 1 := rfl
  refine ⟨fun W => run_string_add W _ _ (by omega) (by rw [tx_size]; omega), fun W => run_string_add W _ _ (by omega) (by rw [ByteArray.size_append, tx_size]; omega)⟩
section
variable (w : World)
theorem ift_f (p q : Int) (h : ¬ Fr.VF p q) :
    Calls Tryz.prog 18 #[.agg #[.int .i64 p, .int .i64 q]] w fun r w' => r = .returned (.string ⟨#[]⟩) ∧ Below w.heap.size w w' := by
  have hV := Lib.hid (fun W => Fr.vf_any W p q)
  rw [decide_eq_false h] at hV
  clear h
  go_enter Tryz.func18, Tryz.ntmps18
  go_wp2_with fail
  refine (hV.out _).mono ?_
  rintro r1 w1 ⟨rfl, hb1⟩
  go_wp2
  go_ret
  exact ⟨rfl, by (repeat (first | exact Below.refl _ _ | assumption | refine bchain (by assumption) ?_ | refine balloc ?_ _ | apply Below.drew | apply below_drewN | (refine Below.alloc ?_ (by (try simp) <;> omega) _) | (refine Below.setCell ?_ (by (try simp) <;> omega) _)))⟩
set_option maxHeartbeats 1000000 in
theorem ift_t (p : Int) (q : Nat) (hP : TabP w) (h : Fr.VF p q) :
    Calls Tryz.prog 18 #[.agg #[.int .i64 p, .int .i64 q]] w fun r w' => r = .returned (.string (fText p q)) ∧ Below w.heap.size w w' := by
  have hV := Lib.hid (fun W => Fr.vf_any W p q)
  rw [decide_eq_true h] at hV
  obtain ⟨hq1, hq2, hp1, hp2, _⟩ := h
  have hF := Lib.hid (fun W (h2 : Below w.heap.size w W) => fmt_int W p (by omega) (by omega) (hP.below h2))
  have hG := Lib.hid (fun W (h2 : Below w.heap.size w W) => fmt_any W q (by omega) (hP.below h2))
  obtain ⟨x1, x2⟩ := run_sl q (by omega) (tx (Lib.itoa p)) (by rw [tx_size]; have := itoa_len (n := p) (by omega) (by omega); omega)
  obtain ⟨W0, hW0⟩ : ∃ W0, W0 = w.alloc (.cells #[.int .i64 p, .int .i64 (q : Int)] 40) := ⟨_, rfl⟩
  have hB0 : Below w.heap.size w W0 := by rw [hW0]; (repeat (first | exact Below.refl _ _ | assumption | refine bchain (by assumption) ?_ | refine balloc ?_ _ | apply Below.drew | apply below_drewN | (refine Below.alloc ?_ (by (try simp) <;> omega) _) | (refine Below.setCell ?_ (by (try simp) <;> omega) _)))
  have hz0 : w.heap.size < W0.heap.size := by rw [hW0]; simp
  have hbx : Hid (∀ W, Below W0.heap.size W0 W → W.cell? ⟨w.heap.size, 0, none⟩ = some (.int .i64 p) ∧ W.cell? ⟨w.heap.size, 1, none⟩ = some (.int .i64 (q : Int))) := fun W h => by
    refine ⟨(h.cell (p := ⟨w.heap.size, 0, none⟩) hz0).trans ?_, (h.cell (p := ⟨w.heap.size, 1, none⟩) hz0).trans ?_⟩ <;> (rw [hW0, World.cell?_alloc_new]; rfl)
  replace hW0 := Lib.hid hW0
  obtain ⟨s2, hs2⟩ : ∃ s2, fText p q = s2 := ⟨_, rfl⟩
  rw [hs2]
  unfold fText at hs2
  obtain ⟨A, hA⟩ : ∃ A, tx (Lib.itoa p) = A := ⟨_, rfl⟩
  obtain ⟨B, hB⟩ : ∃ B, tx (Lib.decDigits q) = B := ⟨_, rfl⟩
  rw [hA] at hF x2 hs2
  rw [hB] at hG x1 x2 hs2
  have hsp : slB = { data := #[47] } := rfl
  rw [hsp] at x1 x2 hs2
  clear hA hB hsp hP
  obtain ⟨y0, y1⟩ := hbx.out W0 (Below.refl _ _)
  by_cases c : q = 1
  · rw [if_pos c] at hs2
    subst hs2
    have e3 : ((q : Int) != 1) = false := by simp; omega
    have e4 : ((q : Int) == 1) = true := by simp; omega
    clear c
    go_enter Tryz.func18, Tryz.ntmps18
    go_wp2_with fail
    rw [← hW0.out]
    go_wp2_with fail
    refine (hV.out _).mono ?_
    rintro r1 w1 ⟨rfl, hb1⟩
    clear y0 y1
    obtain ⟨y0, y1⟩ := hbx.out w1 hb1
    go_wp2_with fail
    refine (hF.out _ (bchain hb1 hB0)).mono ?_
    rintro r2 w2 ⟨rfl, hb2⟩
    clear y0 y1
    obtain ⟨y0, y1⟩ := hbx.out w2 (bchain hb2 hb1)
    go_wp2
    go_ret
    exact ⟨rfl, bchain (bchain hb2 hb1) hB0⟩
  · rw [if_neg c] at hs2
    subst hs2
    have e3 : ((q : Int) != 1) = true := by simp; omega
    have e4 : ((q : Int) == 1) = false := by simp; omega
    clear c
    go_enter Tryz.func18, Tryz.ntmps18
    go_wp2_with fail
    rw [← hW0.out]
    go_wp2_with fail
    refine (hV.out _).mono ?_
    rintro r1 w1 ⟨rfl, hb1⟩
    clear y0 y1
    obtain ⟨y0, y1⟩ := hbx.out w1 hb1
    go_wp2_with fail
    refine (hF.out _ (bchain hb1 hB0)).mono ?_
    rintro r2 w2 ⟨rfl, hb2⟩
    clear y0 y1
    have hb3 := bchain hb2 hb1
    obtain ⟨y0, y1⟩ := hbx.out w2 hb3
    go_wp2_with fail
    refine (hG.out _ (bchain hb3 hB0)).mono ?_
    rintro r4 w4 ⟨rfl, hb4⟩
    go_wp2
    go_ret
    exact ⟨rfl, bchain (bchain hb4 hb3) hB0⟩
theorem sabs_any (p : Int) (h : -9223372036854775808 < p) (h2 : p < 9223372036854775808) :
    Calls Tryz.prog 50 #[.int .i64 p] w fun r w' => r = .returned (.int .i64 (p.natAbs : Nat)) ∧ Below w.heap.size w w' := by
  by_cases c : p < 0
  · have e : -p = ((p.natAbs : Nat) : Int) := by omega
    have e2 : IntKind.i64.wrap (-p) = -p := IntWalk.i64_in _ (by omega)
    rw [← e]
    clear e
    go_enter Tryz.func50, Tryz.ntmps50
    go_wp2
    go_ret
    exact ⟨rfl, by (repeat (first | exact Below.refl _ _ | assumption | refine bchain (by assumption) ?_ | refine balloc ?_ _ | apply Below.drew | apply below_drewN | (refine Below.alloc ?_ (by (try simp) <;> omega) _) | (refine Below.setCell ?_ (by (try simp) <;> omega) _)))⟩
  · have e : p = ((p.natAbs : Nat) : Int) := by omega
    obtain ⟨k, hk⟩ : ∃ k : Nat, p = k := ⟨_, e⟩
    subst hk
    have hk2 : ((k : Int).natAbs : Nat) = k := by omega
    rw [hk2]
    clear e hk2
    go_enter Tryz.func50, Tryz.ntmps50
    go_wp2
    go_ret
    exact ⟨rfl, by (repeat (first | exact Below.refl _ _ | assumption | refine bchain (by assumption) ?_ | refine balloc ?_ _ | apply Below.drew | apply below_drewN | (refine Below.alloc ?_ (by (try simp) <;> omega) _) | (refine Below.setCell ?_ (by (try simp) <;> omega) _)))⟩
theorem itoa_abs (p : Int) : Lib.itoa p = if p < 0 then 45 :: Lib.decDigits p.natAbs else Lib.decDigits p.natAbs := by
  unfold Lib.itoa
  by_cases c : p < 0
  · rw [if_pos c, if_pos c]
  · rw [if_neg c, if_neg c]
    congr 1
    omega
theorem sft_f (p q : Int) (h : ¬ Fr.VF p q) :
    Calls Tryz.prog 29 #[.agg #[.int .i64 p, .int .i64 q]] w fun r w' => r = .returned (.string ⟨#[]⟩) ∧ Below w.heap.size w w' := by
  have hV := Lib.hid (fun W => Fr.ok_any W p q)
  rw [decide_eq_false h] at hV
  clear h
  go_enter Tryz.func29, Tryz.ntmps29
  go_wp2_with fail
  refine (hV.out _).mono ?_
  rintro r1 w1 ⟨rfl, hb1⟩
  go_wp2
  go_ret
  exact ⟨rfl, by (repeat (first | exact Below.refl _ _ | assumption | refine bchain (by assumption) ?_ | refine balloc ?_ _ | apply Below.drew | apply below_drewN | (refine Below.alloc ?_ (by (try simp) <;> omega) _) | (refine Below.setCell ?_ (by (try simp) <;> omega) _)))⟩
set_option maxHeartbeats 1000000 in
theorem sft_t (p : Int) (q : Nat) (h : Fr.VF p q) :
    Calls Tryz.prog 29 #[.agg #[.int .i64 p, .int .i64 q]] w fun r w' => r = .returned (.string (fText p q)) ∧ Below w.heap.size w w' := by
  have hV := Lib.hid (fun W => Fr.ok_any W p q)
  rw [decide_eq_true h] at hV
  obtain ⟨hq1, hq2, hp1, hp2, _⟩ := h
  have hab : p.natAbs ≤ 1000000000 := by omega
  have hS := Lib.hid (fun W => sabs_any W p (by omega) (by omega))
  have hF := Lib.hid (fun W => dec_any 10 W p.natAbs (by omega) (by omega))
  have hG := Lib.hid (fun W => dec_any 10 W q (by omega) (by omega))
  obtain ⟨x1, x2⟩ := run_sl q (by omega) (tx (Lib.itoa p)) (by rw [tx_size]; have := itoa_len (n := p) (by omega) (by omega); omega)
  have hmi : ∀ W : World, (Op.stringOp .add { data := #[45] } (tx (Lib.decDigits p.natAbs))).run Tryz.prog W = .ok (.string ({ data := #[45] } ++ tx (Lib.decDigits p.natAbs))) W := fun W =>
    run_string_add W _ _ (by show ((1 : Nat) : Int) ≤ _; omega) (by rw [tx_size]; have := dd_len (n := p.natAbs) (by omega); omega)
  have hit : tx (Lib.itoa p) = if p < 0 then { data := #[45] } ++ tx (Lib.decDigits p.natAbs) else tx (Lib.decDigits p.natAbs) := by
    rw [itoa_abs]
    by_cases c : p < 0
    · rw [if_pos c, if_pos c]
      exact (tx_app [45] _).symm
    · rw [if_neg c, if_neg c]
  obtain ⟨W0, hW0⟩ : ∃ W0, W0 = w.alloc (.cells #[.int .i64 p, .int .i64 (q : Int)] 40) := ⟨_, rfl⟩
  have hB0 : Below w.heap.size w W0 := by rw [hW0]; (repeat (first | exact Below.refl _ _ | assumption | refine bchain (by assumption) ?_ | refine balloc ?_ _ | apply Below.drew | apply below_drewN | (refine Below.alloc ?_ (by (try simp) <;> omega) _) | (refine Below.setCell ?_ (by (try simp) <;> omega) _)))
  have hz0 : w.heap.size < W0.heap.size := by rw [hW0]; simp
  have hbx : Hid (∀ W, Below W0.heap.size W0 W → W.cell? ⟨w.heap.size, 0, none⟩ = some (.int .i64 p) ∧ W.cell? ⟨w.heap.size, 1, none⟩ = some (.int .i64 (q : Int))) := fun W h => by
    refine ⟨(h.cell (p := ⟨w.heap.size, 0, none⟩) hz0).trans ?_, (h.cell (p := ⟨w.heap.size, 1, none⟩) hz0).trans ?_⟩ <;> (rw [hW0, World.cell?_alloc_new]; rfl)
  replace hW0 := Lib.hid hW0
  obtain ⟨s2, hs2⟩ : ∃ s2, fText p q = s2 := ⟨_, rfl⟩
  rw [hs2]
  unfold fText at hs2
  obtain ⟨N, hN⟩ : ∃ N, p.natAbs = N := ⟨_, rfl⟩
  rw [hN] at hS hF hmi hit
  obtain ⟨A, hA⟩ : ∃ A, tx (Lib.itoa p) = A := ⟨_, rfl⟩
  obtain ⟨B, hB⟩ : ∃ B, tx (Lib.decDigits q) = B := ⟨_, rfl⟩
  obtain ⟨D, hD⟩ : ∃ D, tx (Lib.decDigits N) = D := ⟨_, rfl⟩
  rw [hA] at x2 hs2 hit
  rw [hB] at hG x1 x2 hs2
  rw [hD] at hF hmi hit
  have hsp : slB = { data := #[47] } := rfl
  rw [hsp] at x1 x2 hs2
  clear hA hB hsp hD hN hab
  obtain ⟨y0, y1⟩ := hbx.out W0 (Below.refl _ _)
  by_cases hneg : p < 0
  all_goals
    first | rw [if_pos hneg] at hit | rw [if_neg hneg] at hit
    by_cases c : q = 1
  all_goals
    first | rw [if_pos c] at hs2 | rw [if_neg c] at hs2
    subst hs2
    have e3 : ((q : Int) != 1) = !decide (q = 1) := by
      rw [Bool.eq_iff_iff]; simp; omega
  all_goals
    first | rw [decide_eq_true c] at e3 | rw [decide_eq_false c] at e3
    replace c := Lib.hid c
    subst hit
    go_enter Tryz.func29, Tryz.ntmps29
    go_wp2_with fail
    rw [← hW0.out]
    go_wp2_with fail
    refine (hV.out _).mono ?_
    rintro r1 w1 ⟨rfl, hb1⟩
    clear y0 y1
    obtain ⟨y0, y1⟩ := hbx.out w1 hb1
    go_wp2_with fail
    refine (hS.out _).mono ?_
    rintro r2 w2 ⟨rfl, hb2⟩
    have hb3 := bchain hb2 hb1
    clear y0 y1
    obtain ⟨y0, y1⟩ := hbx.out w2 hb3
    go_wp2_with fail
    refine (hF.out _).mono ?_
    rintro r4 w4 ⟨rfl, hb4⟩
    have hb5 := bchain hb4 hb3
    clear y0 y1
    obtain ⟨y0, y1⟩ := hbx.out w4 hb5
    first
      | (go_wp2
         go_ret
         exact ⟨rfl, bchain hb5 hB0⟩)
      | (go_wp2_with fail
         refine (hG.out _).mono ?_
         rintro r6 w6 ⟨rfl, hb6⟩
         go_wp2
         go_ret
         exact ⟨rfl, bchain (bchain hb6 hb5) hB0⟩)
end
end Go.Proofs.YtiedombphcdpbaaGreatDoor
/-
  THE TEXT OF A FRACTION, as bytes.
-/
namespace Go.Proofs.YtiedombphcdpbaaGreatDoor
open Go.RowKit
set_option maxRecDepth 100000
attribute [local go_sem] Oper.semAt_some
/-- the bytes of a fraction's text -/
def frL (p : Int) (q : Nat) : List UInt8 := if q = 1 then Lib.itoa p else Lib.itoa p ++ 47 :: Lib.decDigits q
theorem fText_frL (p : Int) (q : Nat) : fText p q = tx (frL p q) := by
  unfold fText frL
  split
  · rfl
  · show tx _ ++ (tx [47] ++ tx _) = _
    rw [tx_app, tx_app]; rfl
theorem frL_len {p : Int} {q : Nat} (h : Fr.VF p q) : (frL p q).length ≤ 42 := by
  obtain ⟨h1, h2, h3, h4, _⟩ := h
  have a := itoa_len (n := p) (by omega) (by omega)
  have b := dd_len (n := q) (by omega)
  unfold frL
  split
  · omega
  · simp only [List.length_append, List.length_cons]; omega
end Go.Proofs.YtiedombphcdpbaaGreatDoor
/-
  LISTS OF PAIRS OF int64 THAT A CALL MADE: 'OwnA w0 w v ps'; PairsOf: the program's and the model's contracts.
-/
namespace Go.Proofs.YtiedombphcdpbaaGreatDoor
open Go.RowKit Go.Shelf
set_option maxRecDepth 100000
attribute [local go_sem] Oper.semAt_some

/-- n cells of a block in pairs, by a function -/
def CA (w : World) (B n : Nat) (f : Nat → Int × Int) : Prop := ∀ i, i < n → w.cell? ⟨B, i * 2, none⟩ = some (.int .i64 (f i).1) ∧ w.cell? ⟨B, i * 2 + 1, none⟩ = some (.int .i64 (f i).2)
theorem CA.below {w w' : World} {B n : Nat} {f : Nat → Int × Int} (h : CA w B n f) (hb : Below w.heap.size w w') (hB : B < w.heap.size) : CA w' B n f :=
  fun i hi => ⟨(hb.cell (p := ⟨B, _, none⟩) hB).trans (h i hi).1, (hb.cell (p := ⟨B, _, none⟩) hB).trans (h i hi).2⟩
theorem CA.congr {w : World} {B n : Nat} {f g : Nat → Int × Int} (h : CA w B n f) (hg : ∀ i, i < n → g i = f i) : CA w B n g := fun i hi => by rw [hg i hi]; exact h i hi
def OwnA (w0 w : World) (v : Value) (n : Nat) (f : Nat → Int × Int) : Prop :=
  ∃ (a : Option Addr) (cap : Nat), v = .slice a n cap ∧ (0 < n → ∃ B, a = some ⟨B, 0, none⟩ ∧ w0.heap.size ≤ B ∧ B < w.heap.size ∧ CA w B n f ∧ ∀ o, w.frozen? ⟨B, o, none⟩ = false)
theorem OwnA.below {w0 w w' : World} {v : Value} {n : Nat} {f : Nat → Int × Int} (h : OwnA w0 w v n f) (hb : Below w.heap.size w w') : OwnA w0 w' v n f := by
  obtain ⟨a, cap, e, h3⟩ := h
  refine ⟨a, cap, e, fun hz => ?_⟩
  obtain ⟨B, e2, h4, h5, h6, h7⟩ := h3 hz
  exact ⟨B, e2, h4, Nat.lt_of_lt_of_le h5 hb.size, h6.below hb h5, fun o => (hb.frozen (p := ⟨B, o, none⟩) h5).trans (h7 o)⟩
def flat (ps : List (Nat × Nat)) : List Value := ps.flatMap fun p => [.int .i64 (p.1 : Int), .int .i64 (p.2 : Int)]
theorem flat_snoc (ps : List (Nat × Nat)) (p : Nat × Nat) : flat (ps ++ [p]) = flat ps ++ [.int .i64 (p.1 : Int), .int .i64 (p.2 : Int)] := by simp [flat]
theorem flat_length (ps : List (Nat × Nat)) : (flat ps).length = ps.length * 2 := by
  induction ps with
  | nil => rfl
  | cons p ps ih => rw [show flat (p :: ps) = [.int .i64 (p.1 : Int), .int .i64 (p.2 : Int)] ++ flat ps from rfl, List.length_append, ih]; simp; omega
def pAt (ps : List (Nat × Nat)) (i : Nat) : Int × Int := (((ps[i]?.getD (0, 0)).1 : Nat), ((ps[i]?.getD (0, 0)).2 : Nat))
theorem flat_get (ps : List (Nat × Nat)) : ∀ i, i < ps.length → (flat ps)[i * 2]? = some (.int .i64 (pAt ps i).1) ∧ (flat ps)[i * 2 + 1]? = some (.int .i64 (pAt ps i).2) := by
  induction ps with
  | nil => intro i hi; simp at hi
  | cons p ps ih =>
    intro i hi
    rw [show flat (p :: ps) = .int .i64 (p.1 : Int) :: .int .i64 (p.2 : Int) :: flat ps from rfl]
    cases i with
    | zero => exact ⟨rfl, rfl⟩
    | succ i =>
      have := ih i (by simpa using hi)
      rw [show (i + 1) * 2 = i * 2 + 1 + 1 by omega]
      simpa [pAt] using this
theorem row_mono {w : World} {base base' : Nat} {e : TypeId} {size : Nat} {v : Value} {n : Nat} {xs : List Value} (h : w.ownsRow base e size v n xs) (hb : base' ≤ base) : w.ownsRow base' e size v n xs := by
  obtain ⟨hl, (h | ⟨g, cap, cur, e1, h1, h2⟩)⟩ := h
  · exact ⟨hl, .inl h⟩
  · exact ⟨hl, .inr ⟨g, cap, cur, e1, Nat.le_trans hb h1, h2⟩⟩
theorem ownA_of_row {w0 w : World} {base : Nat} {e : TypeId} {v : Value} {ps : List (Nat × Nat)} (h : w.ownsRow base e 2 v ps.length (flat ps)) (hb : w0.heap.size ≤ base) : OwnA w0 w v ps.length (pAt ps) := by
  obtain ⟨hl, (⟨rfl, h0⟩ | ⟨g, cap, cur, rfl, hg, hh, hn, hc, hs, hx⟩)⟩ := h
  · exact ⟨none, 0, by rw [h0], fun c => absurd c (by omega)⟩
  · have hcell : ∀ i, w.cell? ⟨g, i, none⟩ = cur[i]? := fun i => by simp [World.cell?, hh]
    have hat : ∀ j u, j < ps.length * 2 → (flat ps)[j]? = some u → cur[j]? = some u := fun j u hj hu => by
      have h1 : (cur.toList.take (ps.length * 2))[j]? = some u := by rw [hx]; exact hu
      rw [List.getElem?_take_of_lt hj] at h1
      simpa using h1
    refine ⟨some ⟨g, 0, none⟩, cap, rfl, fun _ => ⟨g, rfl, Nat.le_trans hb hg, (Array.getElem?_eq_some_iff.1 hh).1, fun i hi => ?_, fun o => by simp [World.frozen?, hh]⟩⟩
    obtain ⟨f0, f1⟩ := flat_get ps i hi
    exact ⟨(hcell _).trans (hat _ _ (by omega) f0), (hcell _).trans (hat _ _ (by omega) f1)⟩

/-- the pairs of all edges -/
def prE (n e : Nat) : List (Nat × Nat) := (prs n).filter fun p => jn e p.1 p.2
theorem prE_len (n e : Nat) (hn : n ≤ 5) : (prE n e).length ≤ 25 := by
  have h1 := List.length_filter_le (fun p : Nat × Nat => jn e p.1 p.2) (prs n)
  have h2 := prs_length n
  have h3 : n * n ≤ 5 * 5 := Nat.mul_le_mul hn hn
  unfold prE
  omega
theorem info_a2 : (Tryz.prog.info? 101).map (fun i => (i.zero, i.size, i.bytes)) = some (some (.agg #[.int .i64 0, .int .i64 0]), 2, 16) := by kernel_rfl

theorem below_putObj' {B : Nat} (A : World) (l : Nat) (o : Obj) (hl : B ≤ l) : Below B A (A.putObj l o) :=
  ⟨rfl, rfl, rfl, by simp [World.putObj], fun k hk => World.putObj_heap_other (by omega)⟩
section
variable (w : World)
end
end Go.Proofs.YtiedombphcdpbaaGreatDoor
namespace Go.Proofs.YtiedombphcdpbaaGreatDoor
open Go.RowKit
set_option maxRecDepth 100000
/-- the pairs before (i, j) that are edges -/
def prT (e j i : Nat) : List (Nat × Nat) := (prsTo j i).filter fun p => jn e p.1 p.2
theorem prT_end (e j : Nat) : prT e j j = prT e (j + 1) 0 := by simp [prT, prsTo, prs]
theorem prT_t {e i j : Nat} (h : jn e i j = true) : prT e j (i + 1) = prT e j i ++ [(i, j)] := by
  unfold prT; rw [prsTo_succ, List.filter_append]; simp [h]
theorem prT_f {e i j : Nat} (h : jn e i j = false) : prT e j (i + 1) = prT e j i := by
  unfold prT; rw [prsTo_succ, List.filter_append]; simp [h]
theorem prT_all (n e : Nat) : prT e n 0 = prE n e := by simp [prT, prE, prsTo_zero]
theorem prT_one (e : Nat) : prT e 1 0 = [] := rfl
theorem prT_len (e j i : Nat) (hj : j ≤ 5) (hi : i ≤ 5) : (prT e j i).length ≤ 30 := by
  have h1 := List.length_filter_le (fun p : Nat × Nat => jn e p.1 p.2) (prsTo j i)
  have h2 := prsTo_length j i
  have h3 : j * j ≤ 5 * 5 := Nat.mul_le_mul hj hj
  unfold prT
  omega
section
variable (w : World)
set_option maxHeartbeats 2000000 in
theorem sprs_any (n e : Nat) (h : VG n e) :
    Calls Tryz.prog 52 #[.agg #[.int .i64 n, .int .u32 e]] w fun r w' => (∃ v, r = .returned v ∧ OwnA w w' v (prE n e).length (pAt (prE n e))) ∧ Below w.heap.size w w' := by
  have he : e < 4294967296 := by have := h.2.2.2; have := eMax_le n; simp at *; omega
  have hn5 : n ≤ 5 := by have := h.2.1; omega
  obtain ⟨i0, hi, hz0, hz1, hz2⟩ := info_parts info_a2
  replace hi := Lib.hid hi
  replace hz0 := Lib.hid hz0
  replace hz1 := Lib.hid hz1
  replace hz2 := Lib.hid hz2
  have hbx := Lib.hid (show (w.alloc (.cells #[.int .i64 (n : Int), .int .u32 (e : Int)] 36)).cell? ⟨w.heap.size, 0, none⟩ = some (.int .i64 n) ∧ (w.alloc (.cells #[.int .i64 (n : Int), .int .u32 (e : Int)] 36)).cell? ⟨w.heap.size, 1, none⟩ = some (.int .u32 e) from ⟨by rw [cNew _ _ _ _ _ rfl]; rfl, by rw [cNew _ _ _ _ _ rfl]; rfl⟩)
  have s1 : ∀ (W : World) (o : Obj), (W.alloc o).heap.size = W.heap.size + 1 := fun W o => by simp
  replace s1 := Lib.hid s1
  go_enter Tryz.func52, Tryz.ntmps52
  go_wp2
  go_loopw [3, 4] (fun v s wr => ∃ j : Nat, 1 ≤ j ∧ (j ≤ n ∨ j = 1) ∧ s = .int .i64 j ∧ Hid (wr.ownsRow (w.heap.size + 1) 101 2 v (prT e j 0).length (flat (prT e j 0))) ∧ wr.cell? ⟨w.heap.size, 0, none⟩ = some (.int .i64 n) ∧ wr.cell? ⟨w.heap.size, 1, none⟩ = some (.int .u32 e) ∧ w.heap.size < wr.heap.size ∧ Below w.heap.size w wr) (fun _ s _ => n - (intOf s).toNat)
  case atStart =>
    refine ⟨1, by omega, .inr rfl, rfl, ?_, (cOld _ _ _ _ (by rw [s1.out]; omega)).trans hbx.out.1, (cOld _ _ _ _ (by rw [s1.out]; omega)).trans hbx.out.2, by rw [s1.out, s1.out]; omega, by (repeat (first | exact Below.refl _ _ | assumption | refine bchain (by assumption) ?_ | refine balloc ?_ _ | apply Below.drew | apply below_drewN | (refine Below.alloc ?_ (by (try simp) <;> omega) _) | (refine Below.setCell ?_ (by (try simp) <;> omega) _)))⟩
    show World.ownsRow _ _ _ _ _ _ _
    rw [prT_one]
    have := World.ownsRow_made (w.alloc (.cells #[.int .i64 (n : Int), .int .u32 (e : Int)] 36)) (base := w.heap.size + 1) (e := 101) (size := 2) #[] 0 (by rw [s1.out]; omega) (by omega) rfl
    rw [s1.out] at this
    exact this
  case round =>
    obtain ⟨j, hj1, hj, rfl, hown, c0, c1, hz, hb⟩ := hrel
    by_cases hlt : j < n
    · go_wp2
      obtain ⟨wo, rfl⟩ : ∃ wo : World, wo = wr := ⟨_, rfl⟩
      go_loopw [3, 5] (fun v s wr => ∃ i : Nat, i ≤ j ∧ s = .int .i64 i ∧ Hid (wr.ownsRow (w.heap.size + 1) 101 2 v (prT e j i).length (flat (prT e j i))) ∧ wr.cell? ⟨w.heap.size, 0, none⟩ = some (.int .i64 n) ∧ wr.cell? ⟨w.heap.size, 1, none⟩ = some (.int .u32 e) ∧ w.heap.size < wr.heap.size ∧ Below w.heap.size w wr) (fun _ s _ => j - (intOf s).toNat)
      case atStart => exact ⟨0, by omega, rfl, hown, c0, c1, hz, hb⟩
      case round =>
        clear c0 c1 hz hb hown
        obtain ⟨i, hi2, rfl, hown, c0, c1, hz, hb⟩ := hrel
        by_cases hlt2 : i < j
        · have hJ := Lib.hid (sjoined_any wr n e i j he (by omega) (by omega) (by omega))
          have hlen := prT_len e j i (by omega) (by omega)
          cases hbb : jn e i j
          · rw [hbb] at hJ
            have hnx := Lib.hid (prT_f hbb)
            clear hbb hlen
            go_wp2_with fail
            refine (hJ.out).mono ?_
            rintro r3 w3 ⟨rfl, hb3⟩
            obtain ⟨hc3_0, hz3_0⟩ := bkeep hb3 (w.heap.size) (by (try simp) <;> omega)
            have hown3 := hown.out.kept (row := none) (w' := w3) ⟨hb3.os, hb3.tape, hb3.output, hb3.size, fun k hk _ => hb3.block k hk⟩ (by cases (Value.ownBlock _) <;> simp)
            rw [← hnx.out] at hown3
            replace hown3 := Lib.hid hown3
            clear hown
            go_wp2
            go_roundw
            case rel => exact ⟨i + 1, by omega, by go_num, hown3, (hc3_0 0).trans c0, (hc3_0 1).trans c1, hz3_0, by (repeat (first | exact Below.refl _ _ | assumption | refine bchain (by assumption) ?_ | refine balloc ?_ _ | apply Below.drew | apply below_drewN | (refine Below.alloc ?_ (by (try simp) <;> omega) _) | (refine Below.setCell ?_ (by (try simp) <;> omega) _)))⟩
            case measure => simp [intOf]; omega
          · rw [hbb] at hJ
            have hnx := Lib.hid (prT_t hbb)
            clear hbb
            have hbd : ∀ W : World, (Instr.build 101 #[(0, .int .i64 (i : Int)), (1, .int .i64 (j : Int))]).run Tryz.prog W = .ok (.agg #[.int .i64 (i : Int), .int .i64 (j : Int)]) W := fun W => run_build W 101 _ _ (by kernel_rfl)
            go_wp2_with fail
            refine (hJ.out).mono ?_
            rintro r3 w3 ⟨rfl, hb3⟩
            obtain ⟨hc3_0, hz3_0⟩ := bkeep hb3 (w.heap.size) (by (try simp) <;> omega)
            have hown3 := Lib.hid (hown.out.kept (row := none) (w' := w3) ⟨hb3.os, hb3.tape, hb3.output, hb3.size, fun k hk _ => hb3.block k hk⟩ (by cases (Value.ownBlock _) <;> simp))
            clear hown
            have e0 := (hc3_0 0).trans c0
            have e1 := (hc3_0 1).trans c1
            have hB3 : Below w.heap.size w w3 := by (repeat (first | exact Below.refl _ _ | assumption | refine bchain (by assumption) ?_ | refine balloc ?_ _ | apply Below.drew | apply below_drewN | (refine Below.alloc ?_ (by (try simp) <;> omega) _) | (refine Below.setCell ?_ (by (try simp) <;> omega) _)))
            clear hc3_0 c0 c1
            go_wp2_with (at_builtin; refine wpList_append_own _ rfl _ _ 99 rfl (w.heap.size + 1) 101 i0 (.agg #[.int .i64 0, .int .i64 0]) 2 16 Tryz.underlying99 hi.out hz0.out hz1.out hz2.out rfl (by decide) _ _ _ rfl (hown3.out.alloc _) ⟨w3.heap.size, 0, none⟩ 1 1 [.int .i64 i, .int .i64 j] rfl rfl (fun q u hq => by match q, hq with
              | 0, hq => simp at hq; subst hq; rw [show (⟨w3.heap.size, 0, none⟩ : Addr).add 0 = ⟨w3.heap.size, 0, none⟩ from rfl, World.cell?_alloc_new]; rfl
              | 1, hq => simp at hq; subst hq; rw [show (⟨w3.heap.size, 0, none⟩ : Addr).add 1 = ⟨w3.heap.size, 1, none⟩ from rfl, World.cell?_alloc_new]; rfl
              | q + 2, hq => simp at hq) (fun u hu => by simp at hu; rcases hu with rfl | rfl <;> rfl) (by unfold maxLen; omega) (by omega) (by simp; omega) ?_; intro v' w4 hown' hgrow _)
            have hne : some w.heap.size ≠ Value.ownBlock _ := fun c => by
              have := (hown3.out.lt _ c.symm).1
              omega
            have f0 := hgrow.cell (a := ⟨w.heap.size, 0, none⟩) ((cOld _ _ _ _ hz3_0).trans e0) hne
            have f1 := hgrow.cell (a := ⟨w.heap.size, 1, none⟩) ((cOld _ _ _ _ hz3_0).trans e1) hne
            have hz4 : w.heap.size < w4.heap.size := by have := hgrow.size; simp at this; omega
            have hB4 : Below w.heap.size w w4 := (balloc hB3 _).grown hgrow (by simp; omega) (fun k hk => by have := (hown3.out.lt k hk).1; omega)
            have hown4 : Hid (w4.ownsRow (w.heap.size + 1) 101 2 v' (prT e j (i + 1)).length (flat (prT e j (i + 1)))) := by
              show World.ownsRow _ _ _ _ _ _ _
              rw [hnx.out, flat_snoc, List.length_append]
              exact hown'
            clear hown' hgrow hown3 hne e0 e1
            go_wp2
            go_roundw
            case rel => exact ⟨i + 1, by omega, by go_num, hown4, f0, f1, hz4, hB4⟩
            case measure => simp [intOf]; omega
        · obtain rfl : i = j := by omega
          have hdd := decide_eq_false (show ¬ ((i : Int) < (i : Int)) by omega)
          have hown3 := hown.out
          rw [prT_end] at hown3
          replace hown3 := Lib.hid hown3
          clear hown
          go_wp2
          go_roundw
          case rel => exact ⟨i + 1, by omega, .inl (by omega), by go_num, hown3, c0, c1, hz, hb⟩
          case measure => simp [intOf]; omega
    · have hdd := decide_eq_false (show ¬ ((j : Int) < (n : Int)) by omega)
      have hp : prT e j 0 = prE n e := by
        rcases hj with hj | hj
        · obtain rfl : j = n := by omega
          exact prT_all j e
        · subst hj
          have hn01 : n = 0 ∨ n = 1 := by omega
          rcases hn01 with rfl | rfl <;> rfl
      have hown2 := hown.out
      rw [hp] at hown2
      have hres := Lib.hid (ownA_of_row (w0 := w) hown2 (by omega))
      clear hown hown2 hp
      go_wp2
      go_ret
      exact ⟨⟨_, rfl, hres.out⟩, hb⟩
end
end Go.Proofs.YtiedombphcdpbaaGreatDoor
namespace Go.Proofs.YtiedombphcdpbaaGreatDoor
open Go.RowKit
set_option maxRecDepth 100000
/-- the worlds in which old blocks are as they were -/
structure BW (w : World) where
  W : World
  h : Below w.heap.size w W
instance (w : World) : Nonempty (BW w) := ⟨⟨w, Below.refl _ _⟩⟩
theorem wp_region_below {P : Program} {id : Nat} {Q : Exit → Act → World → Prop} {a : Act} {w : World} {l : List Oper} (hm : P.follows .mixedOrders = true) (hB : Region.lexB .any l.toArray = true)
    (h : wpQuiet P l.toArray (fun w' => ∃ p : BW w, w' = p.W) (fun a' => ∀ w', (∃ p : BW w, w' = p.W) → Q .normal a' w') l a) : (Code.region id l.toArray true).wp P Q a w :=
  wp_region_quiet (C := fun w' => ∃ p : BW w, w' = p.W) hm hB ⟨⟨_, (Below.refl _ w).drew⟩, rfl⟩ (by simpa using h)
theorem bw_of {P : Program} {f : FuncId} {args : Array Value} {w : World} {p : BW w} {v : Value} (h : Calls P f args p.W fun e w' => e = .returned v ∧ Below p.W.heap.size p.W w') : Calls P f args p.W fun e w' => e = .returned v ∧ ∃ q : BW w, w' = q.W :=
  h.mono fun _ w' ⟨he, hb⟩ => ⟨he, ⟨w', p.h.trans (hb.mono p.h.size)⟩, rfl⟩
theorem bw_cell {w : World} {B o : Nat} {v : Value} (hz : B < w.heap.size) (hc : w.cell? ⟨B, o, none⟩ = some v) (p : BW w) : p.W.cell? ⟨B, o, none⟩ = some v := old_cell hz hc p.h
end Go.Proofs.YtiedombphcdpbaaGreatDoor
/-
  THE TEXT OF A GRAPH: what it is, and the model's contract.
-/
namespace Go.Proofs.YtiedombphcdpbaaGreatDoor
open Go.RowKit
set_option maxRecDepth 100000
attribute [local go_sem] Oper.semAt_some
def gHead : List UInt8 := [103, 114, 97, 112, 104, 32]
/-- one pair's text -/
def gPair (p : Nat × Nat) : List UInt8 := 32 :: (Lib.decDigits p.1 ++ (45 :: Lib.decDigits p.2))
/-- the text of a graph with these pairs -/
def gText (n : Nat) (ps : List (Nat × Nat)) : List UInt8 := gHead ++ (Lib.decDigits n ++ ps.flatMap gPair)
theorem gText_nil (n : Nat) : gText n [] = gHead ++ Lib.decDigits n := by simp [gText]
theorem gText_snoc (n : Nat) (ps : List (Nat × Nat)) (p : Nat × Nat) : gText n (ps ++ [p]) = gText n ps ++ gPair p := by simp [gText]
theorem gPair_len {p : Nat × Nat} (h1 : p.1 < 1000000) (h2 : p.2 < 1000000) : (gPair p).length ≤ 42 := by
  have a := dd_len (n := p.1) (by omega)
  have b := dd_len (n := p.2) (by omega)
  simp [gPair]
  omega
theorem gText_len {n : Nat} (hn : n < 1000000) : ∀ {ps : List (Nat × Nat)}, (∀ p ∈ ps, p.1 < 1000000 ∧ p.2 < 1000000) → (gText n ps).length ≤ 26 + 42 * ps.length := by
  intro ps h
  have a := dd_len (n := n) (by omega)
  have k : (ps.flatMap gPair).length ≤ 42 * ps.length := by
    induction ps with
    | nil => simp
    | cons p ps ih =>
      have h1 := gPair_len (h p (by simp)).1 (h p (by simp)).2
      have h2 := ih (fun q hq => h q (by simp [hq]))
      simp only [List.flatMap_cons, List.length_append, List.length_cons]
      omega
  simp only [gText, List.length_append, gHead, List.length_cons, List.length_nil]
  omega
/-- the four sums of a pair's text -/
theorem run_pair (a b : Nat) (ha : a < 1000000) (hb : b < 1000000) (s : List UInt8) (hs : s.length ≤ 2000) :
    (∀ W : World, (Op.stringOp .add { data := #[32] } (tx (Lib.decDigits a))).run Tryz.prog W = .ok (.string (tx (32 :: Lib.decDigits a))) W) ∧
    (∀ W : World, (Op.stringOp .add (tx (32 :: Lib.decDigits a)) { data := #[45] }).run Tryz.prog W = .ok (.string (tx (32 :: (Lib.decDigits a ++ [45])))) W) ∧
    (∀ W : World, (Op.stringOp .add (tx (32 :: (Lib.decDigits a ++ [45]))) (tx (Lib.decDigits b))).run Tryz.prog W = .ok (.string (tx (gPair (a, b)))) W) ∧
    (∀ W : World, (Op.stringOp .add (tx s) (tx (gPair (a, b)))).run Tryz.prog W = .ok (.string (tx (s ++ gPair (a, b)))) W) := by
  have l1 := dd_len (n := a) (by omega)
  have l2 := dd_len (n := b) (by omega)
  have l3 := gPair_len (p := (a, b)) ha hb
  have e1 : ({ data := #[32] } : ByteArray) = tx [32] := rfl
  have e2 : ({ data := #[45] } : ByteArray) = tx [45] := rfl
  have x1 : tx [32] ++ tx (Lib.decDigits a) = tx (32 :: Lib.decDigits a) := tx_app _ _
  have x2 : tx (32 :: Lib.decDigits a) ++ tx [45] = tx (32 :: (Lib.decDigits a ++ [45])) := tx_app _ _
  have x3 : tx (32 :: (Lib.decDigits a ++ [45])) ++ tx (Lib.decDigits b) = tx (gPair (a, b)) := by rw [tx_app]; simp [gPair]
  refine ⟨fun W => ?_, fun W => ?_, fun W => ?_, fun W => ?_⟩
  · rw [e1, ← x1]; exact run_string_add W _ _ (by simp [tx_size]) (by simp [tx_size]; omega)
  · rw [e2, ← x2]; exact run_string_add W _ _ (by simp [tx_size]; omega) (by simp [tx_size])
  · rw [← x3]; exact run_string_add W _ _ (by simp [tx_size]; omega) (by simp [tx_size]; omega)
  · rw [← tx_app]; exact run_string_add W _ _ (by simp [tx_size]; omega) (by simp [tx_size]; omega)
theorem run_head (n : Nat) (hn : n < 1000000) : ∀ W : World, (Op.stringOp .add { data := #[103, 114, 97, 112, 104, 32] } (tx (Lib.decDigits n))).run Tryz.prog W = .ok (.string (tx (gText n []))) W := by
  intro W
  have l1 := dd_len (n := n) (by omega)
  have e1 : ({ data := #[103, 114, 97, 112, 104, 32] } : ByteArray) = tx gHead := rfl
  rw [e1, gText_nil, ← tx_app]
  exact run_string_add W _ _ (by rw [tx_size]; simp [gHead]) (by rw [tx_size]; omega)
section
variable (w : World)
theorem sgt_f (n e : Int) (hn : e < 4294967296) (he0 : 0 ≤ e) (h : ¬ VG n e) :
    Calls Tryz.prog 30 #[.agg #[.int .i64 n, .int .u32 e]] w fun r w' => r = .returned (.string ⟨#[]⟩) ∧ Below w.heap.size w w' := by
  go_enter Tryz.func30, Tryz.ntmps30
  go_wp2_with fail
  refine (ok_f _ n e hn he0 h).mono ?_
  rintro r1 w1 ⟨rfl, hb1⟩
  go_wp2
  go_ret
  exact ⟨rfl, by (repeat (first | exact Below.refl _ _ | assumption | refine bchain (by assumption) ?_ | refine balloc ?_ _ | apply Below.drew | apply below_drewN | (refine Below.alloc ?_ (by (try simp) <;> omega) _) | (refine Below.setCell ?_ (by (try simp) <;> omega) _)))⟩
theorem prs_small : ∀ n, n ≤ 5 → ∀ p ∈ prs n, p.1 < 5 ∧ p.2 < 5 := by decide
theorem prE_small {n e : Nat} (hn : n ≤ 5) : ∀ p ∈ prE n e, p.1 < 5 ∧ p.2 < 5 := fun p hp => prs_small n hn p (List.mem_filter.1 hp).1
set_option maxHeartbeats 2000000 in
theorem sgt_t (n e : Nat) (h : VG n e) :
    Calls Tryz.prog 30 #[.agg #[.int .i64 n, .int .u32 e]] w fun r w' => r = .returned (.string (tx (gText n (prE n e)))) ∧ Below w.heap.size w w' := by
  have hn5 : n ≤ 5 := by have := h.2.1; omega
  have hL := prE_len n e hn5
  have hsm := prE_small (n := n) (e := e) hn5
  have hD := Lib.hid (fun W a (ha : a < 1000000) => dec_any 5 W a (by omega) (by omega))
  have hN := Lib.hid (fun W => dec_any 5 W n (by omega) (by omega))
  have hV := Lib.hid (fun W => ok_t W n e h)
  have hP := Lib.hid (fun W => sprs_any W n e h)
  have hH := run_head n (by omega)
  obtain ⟨ps, hps⟩ : ∃ ps, prE n e = ps := ⟨_, rfl⟩
  rw [hps] at hL hsm hP ⊢
  replace hsm := Lib.hid hsm
  have hR := Lib.hid (fun k (hk : k < ps.length) => run_pair (ps[k]?.getD (0, 0)).1 (ps[k]?.getD (0, 0)).2 (by
      have := (hsm.out (ps[k]?.getD (0, 0)) (by rw [List.getElem?_eq_getElem hk]; exact List.getElem_mem hk)).1; omega) (by
      have := (hsm.out (ps[k]?.getD (0, 0)) (by rw [List.getElem?_eq_getElem hk]; exact List.getElem_mem hk)).2; omega) (gText n (ps.take k)) (by
      have := gText_len (n := n) (by omega) (ps := ps.take k) (fun p hp => by have := hsm.out p (List.mem_of_mem_take hp); omega)
      rw [List.length_take] at this
      omega))
  have hS := Lib.hid (fun k (hk : k < ps.length) => show gText n (ps.take k) ++ gPair ((ps[k]?.getD (0, 0)).1, (ps[k]?.getD (0, 0)).2) = gText n (ps.take (k + 1)) by
      rw [List.take_add_one, ← gText_snoc, List.getElem?_eq_getElem hk]; rfl)
  have hE := Lib.hid (show ps.take ps.length = ps from List.take_length)
  obtain ⟨W0, hW0⟩ : ∃ W0, W0 = w.alloc (.cells #[.int .i64 (n : Int), .int .u32 (e : Int)] 36) := ⟨_, rfl⟩
  have hB0 : Below w.heap.size w W0 := by rw [hW0]; (repeat (first | exact Below.refl _ _ | assumption | refine bchain (by assumption) ?_ | refine balloc ?_ _ | apply Below.drew | apply below_drewN | (refine Below.alloc ?_ (by (try simp) <;> omega) _) | (refine Below.setCell ?_ (by (try simp) <;> omega) _)))
  have hz0 : w.heap.size < W0.heap.size := by rw [hW0]; simp
  have hbx : Hid (∀ W, Below W0.heap.size W0 W → W.cell? ⟨w.heap.size, 0, none⟩ = some (.int .i64 n) ∧ W.cell? ⟨w.heap.size, 1, none⟩ = some (.int .u32 e)) := fun W h => by
    refine ⟨(h.cell (p := ⟨w.heap.size, 0, none⟩) hz0).trans ?_, (h.cell (p := ⟨w.heap.size, 1, none⟩) hz0).trans ?_⟩ <;> (rw [hW0, World.cell?_alloc_new]; rfl)
  replace hW0 := Lib.hid hW0
  clear h hps hn5
  obtain ⟨y0, y1⟩ := hbx.out W0 (Below.refl _ _)
  obtain ⟨T0, hT0⟩ : ∃ T0, tx (gText n []) = T0 := ⟨_, rfl⟩
  rw [hT0] at hH
  obtain ⟨DN, hDN⟩ : ∃ DN, tx (Lib.decDigits n) = DN := ⟨_, rfl⟩
  rw [hDN] at hH hN
  clear hDN
  go_enter Tryz.func30, Tryz.ntmps30
  go_wp2_with fail
  rw [← hW0.out]
  go_wp2_with fail
  refine (hV.out _).mono ?_
  rintro r1 w1 ⟨rfl, hb1⟩
  clear y0 y1
  obtain ⟨y0, y1⟩ := hbx.out w1 hb1
  go_wp2_with fail
  refine (hN.out _).mono ?_
  rintro r2 w2 ⟨rfl, hb2⟩
  have hb3 := bchain hb2 hb1
  clear y0 y1
  obtain ⟨y0, y1⟩ := hbx.out w2 hb3
  go_wp2_with fail
  refine (hP.out _).mono ?_
  rintro r4 w4 ⟨⟨v, rfl, a, cap, rfl, hv⟩, hb4⟩
  have hb5 := bchain hb4 hb3
  clear y0 y1 hb1 hb2 hb3 hH
  replace hv := Lib.hid hv
  go_wp2
  go_loopw [3, 5] (fun s i wr => ∃ k : Nat, k ≤ ps.length ∧ i = .int .i64 k ∧ s = .string (tx (gText n (ps.take k))) ∧ Below w4.heap.size w4 wr) (fun _ i _ => ps.length - (intOf i).toNat)
  case atStart => exact ⟨0, by omega, rfl, by rw [← hT0]; rfl, Below.refl _ _⟩
  case round =>
    obtain ⟨k, hk, rfl, rfl, hbr⟩ := hrel
    by_cases hlt : k < ps.length
    · obtain ⟨B, rfl, hB1, hB2, hca, _⟩ := hv.out (by omega)
      obtain ⟨d0, d1⟩ := hca k hlt
      have hz : B < wr.heap.size := Nat.lt_of_lt_of_le hB2 hbr.size
      have q0 := bw_cell hz ((hbr.cell (p := ⟨B, k * 2, none⟩) hB2).trans d0)
      have q1 := bw_cell hz ((hbr.cell (p := ⟨B, k * 2 + 1, none⟩) hB2).trans d1)
      obtain ⟨x1, x2, x3, x4⟩ := hR.out k hlt
      rw [hS.out k hlt] at x4
      have hp : (ps[k]?.getD (0, 0)).1 < 5 ∧ (ps[k]?.getD (0, 0)).2 < 5 := hsm.out (ps[k]?.getD (0, 0)) (by rw [List.getElem?_eq_getElem hlt]; exact List.getElem_mem hlt)
      simp only [pAt] at q0 q1
      obtain ⟨i, hi⟩ : ∃ i, (ps[k]?.getD (0, 0)).1 = i := ⟨_, rfl⟩
      obtain ⟨j, hj⟩ : ∃ j, (ps[k]?.getD (0, 0)).2 = j := ⟨_, rfl⟩
      rw [hi] at q0 x1 x2 x3 x4 hp
      rw [hj] at q1 x3 x4 hp
      have hDi := Lib.hid (fun W => hD.out W i (by omega))
      have hDj := Lib.hid (fun W => hD.out W j (by omega))
      have hm : ps.length ≤ 25 := hL
      clear hi hj d0 d1 hca
      obtain ⟨t1, ht1⟩ : ∃ t, tx (gText n (ps.take k)) = t := ⟨_, rfl⟩
      obtain ⟨t2, ht2⟩ : ∃ t, tx (gText n (ps.take (k + 1))) = t := ⟨_, rfl⟩
      obtain ⟨t3, ht3⟩ : ∃ t, tx (Lib.decDigits i) = t := ⟨_, rfl⟩
      obtain ⟨t4, ht4⟩ : ∃ t, tx (Lib.decDigits j) = t := ⟨_, rfl⟩
      obtain ⟨t5, ht5⟩ : ∃ t, tx (32 :: Lib.decDigits i) = t := ⟨_, rfl⟩
      obtain ⟨t6, ht6⟩ : ∃ t, tx (32 :: (Lib.decDigits i ++ [45])) = t := ⟨_, rfl⟩
      obtain ⟨t7, ht7⟩ : ∃ t, tx (gPair (i, j)) = t := ⟨_, rfl⟩
      rw [ht1] at x4
      rw [ht2] at x4
      rw [ht3] at x1 hDi
      rw [ht4] at x3 hDj
      rw [ht5] at x1 x2
      rw [ht6] at x2 x3
      rw [ht7] at x3 x4
      rw [ht1]
      clear ht3 ht4 ht5 ht6 ht7
      have hdd := decide_eq_true (show ((k : Int) < (ps.length : Int)) by omega)
      go_wp2
      refine wp_region_below (by kernel_rfl) (by kernel_rfl) ?_
      iterate 6 (quiet_step (fail))
      refine wpQuiet_step (fun K hK => ?_)
      go_simp
      apply Exists.intro
      refine ⟨fun p => ?_, hK _ ?_⟩
      · exact bw_of (w := wr) (p := p) (hDi.out p.W)
      clear hK K
      iterate 2 (quiet_step (fail))
      iterate 5 (quiet_step (fail))
      refine wpQuiet_step (fun K hK => ?_)
      go_simp
      apply Exists.intro
      refine ⟨fun p => ?_, hK _ ?_⟩
      · exact bw_of (w := wr) (p := p) (hDj.out p.W)
      clear hK K
      iterate 2 (quiet_step (fail))
      iterate 1 (quiet_step (fail))
      refine wpQuiet_nil ?_
      intro w6 hw'
      obtain ⟨⟨wx, hb_w6⟩, rfl⟩ := hw'
      go_wp2
      go_roundw
      case rel => exact ⟨k + 1, by omega, by go_num, by rw [ht2], hbr.trans (hb_w6.mono hbr.size)⟩
      case measure => simp [intOf]; omega
    · obtain rfl : k = ps.length := by omega
      have hdd := decide_eq_false (show ¬ ((ps.length : Int) < (ps.length : Int)) by omega)
      rw [hE.out]
      go_wp2
      go_ret
      exact ⟨rfl, bchain (bchain hbr hb5) hB0⟩
end
end Go.Proofs.YtiedombphcdpbaaGreatDoor
/-
  A strings.Builder THAT THE CALL LAID: copyCheck and WriteString (the cut's text refuses one way of copyCheck, so the shelf's own contracts do not lie here; that way is never gone).
-/
namespace Go.Proofs.YtiedombphcdpbaaGreatDoor
open Go.RowKit
set_option maxRecDepth 100000
/-- the builder at block b holds these bytes; what it has laid lies from b on -/
def BdAt (w : World) (b : Nat) (l : List UInt8) : Prop := Lib.IsBuilderF 58 5 b b (Lib.byteCells l) w
theorem bd_size : (Tryz.prog.info? 58).map (·.size) = some 2 := by kernel_rfl
theorem bd_lies : liesAt Tryz.prog Tryz.prog.depth 58 (2 / Tryz.prog.cellsOf 58) 0 58 1 = true := by kernel_rfl
theorem info_u8 : (Tryz.prog.info? 5).map (fun i => (i.zero, i.size, i.bytes)) = some (some (.int .u8 0), 1, 1) := by kernel_rfl
theorem BdAt.alloc {w : World} {b : Nat} {l : List UInt8} (h : BdAt w b l) (o : Obj) : BdAt (w.alloc o) b l := Lib.IsBuilderF.alloc h o
theorem BdAt.fresh (w : World) : BdAt (w.alloc (.cells #[.pointer none, .slice none 0 0] 58)) w.heap.size [] := .of (Lib.fresh_isBuilder _ _ w)
theorem bdF_kept {w w' : World} {b : Nat} {p : Value} {xs : List Value} {row : Option Nat} (h : Lib.BuilderAtF 58 5 b b p xs w) (hg : w.grownBy w' row) (hr : ∀ r, row = some r → ∃ o : Obj, w.heap[r]? = some o ∧ o.isCells = false) : Lib.BuilderAtF 58 5 b b p xs w' := by
  obtain ⟨h1, v, h2, h3, h4⟩ := h
  have hlt : b < w.heap.size := (Array.getElem?_eq_some_iff.1 h2).1
  refine ⟨h1, v, ?_, h3.kept hg (Classical.byContradiction fun hc => ?_), h4⟩
  · rw [hg.block b hlt (fun e => ?_)]
    · exact h2
    · obtain ⟨o, ho, hk⟩ := hr b e.symm
      rw [h2] at ho
      obtain rfl := Option.some.inj ho
      cases hk
  · rw [not_or] at hc
    obtain ⟨g, hv⟩ := Option.ne_none_iff_exists'.1 hc.1
    have e2 : v.ownBlock = row := Classical.byContradiction hc.2
    obtain ⟨o, ho, hk⟩ := hr g (by rw [← e2, hv])
    obtain ⟨c, fz, hc2⟩ := Lib.ownsRowF_kind h3 g hv
    rw [hc2] at ho
    obtain rfl := Option.some.inj ho
    cases hk
theorem BdAt.kept {w w' : World} {b : Nat} {l : List UInt8} {row : Option Nat} (h : BdAt w b l) (hg : w.grownBy w' row) (hr : ∀ r, row = some r → ∃ o : Obj, w.heap[r]? = some o ∧ o.isCells = false) : BdAt w' b l :=
  h.elim (fun x => .inl (bdF_kept x hg hr)) (fun x => .inr (bdF_kept x hg hr))
theorem BdAt.below {w w' : World} {b : Nat} {l : List UInt8} (h : BdAt w b l) (hb : Below w.heap.size w w') : BdAt w' b l :=
  h.kept (row := none) ⟨hb.os, hb.tape, hb.output, hb.size, fun k hk _ => hb.block k hk⟩ (fun _ e => by cases e)
theorem BdAt.lt {w : World} {b : Nat} {l : List UInt8} (h : BdAt w b l) : b < w.heap.size := by
  rcases h with ⟨_, v, h2, _⟩ | ⟨_, v, h2, _⟩ <;> exact (Array.getElem?_eq_some_iff.1 h2).1
section
variable (w : World)
theorem bd_check (b : Nat) (xs : List Value) (h : Lib.IsBuilderF 58 5 b b xs w) :
    Calls Tryz.prog 37 #[.pointer (some ⟨b, 0, none⟩)] w fun e w' => e = .returned (.tuple #[]) ∧ (Lib.BuilderAtF 58 5 b b (.pointer (some ⟨b, 0, none⟩)) xs w' ∧ Below b w w' ∧ Lib.OthersKept 5 (some b) w w') := by
  obtain ⟨j, hj, hjs⟩ := Option.map_eq_some_iff.1 bd_size
  rcases h with h | h
  · have h0 := h.cell0
    have hsh := h.shape
    have hfz := h.frozen0
    go_enter Tryz.func37, Tryz.ntmps37
    go_wp2
    rw [Lib.run_to_unsafe w ⟨b, 0, none⟩ Tryz.underlying55 Tryz.underlying110 hj (by rw [hjs]; decide) hsh (Nat.zero_lt_succ 1)]
    simp only [Result.andThen]
    rw [Oper.upon_value]
    go_wp2
    rw [run_callFunc_extern Tryz.func62 (by kernel_rfl) (by kernel_rfl) (by kernel_rfl) (e := Extern.AbiNoEscape.same) (by kernel_rfl)]
    rw [Lib.run_noEscape]
    simp only [Result.andThen]
    rw [Oper.upon_value]
    go_wp2
    rw [Lib.run_from_unsafe w ⟨b, 0, none⟩ Tryz.underlying110 Tryz.underlying55 hj hsh bd_lies]
    simp only [Result.andThen]
    rw [Oper.upon_value]
    go_wp2
    go_end0
    exact ⟨rfl, h.used _, (Below.refl b w).setCell (p := ⟨b, 0, none⟩) h.1 _, (Lib.OthersKept.refl _ _ w).setCell ⟨b, 0, none⟩ rfl _⟩
  · have h0 := h.cell0
    go_enter Tryz.func37, Tryz.ntmps37
    go_wp2
    rw [Lib.run_neq_ptr_same w _ Tryz.underlying55 hj]
    go_wp2
    go_end0
    exact ⟨rfl, h, Below.refl b _, Lib.OthersKept.refl _ _ _⟩
set_option maxHeartbeats 2000000 in
theorem bd_write (b : Nat) (l s : List UInt8) (h : BdAt w b l) (hl : l.length + s.length ≤ 1000000) :
    Calls Tryz.prog 17 #[.pointer (some ⟨b, 0, none⟩), .string ⟨s.toArray⟩] w fun e w' => e = .returned (.tuple #[.int .i64 s.length, .nilIface]) ∧ BdAt w' b (l ++ s) ∧ Below b w w' ∧ Lib.OthersKept 5 (some b) w w' := by
  obtain ⟨i0, hi, hz0, hz1, hz2⟩ := info_parts info_u8
  have hbw := h.lt
  have hs : (⟨s.toArray⟩ : ByteArray).size = s.length := by simp [ByteArray.size]
  replace h : Lib.IsBuilderF 58 5 b b (Lib.byteCells l) w := h
  go_enter Tryz.func17, Tryz.ntmps17
  go_wp2_with fail
  refine (bd_check _ b _ h).mono ?_
  rintro e w1 ⟨rfl, h1, hb1, hk1⟩
  obtain ⟨hB, v, hbk, hown, hne⟩ := h1
  have c0 : w1.cell? ⟨b, 0, none⟩ = some (.pointer (some ⟨b, 0, none⟩)) := by rw [Lib.cell_of_heap hbk]; rfl
  have c1 : w1.cell? ⟨b, 1, none⟩ = some v := by rw [Lib.cell_of_heap hbk]; rfl
  have hlt : b < w1.heap.size := (Array.getElem?_eq_some_iff.1 hbk).1
  have hln := Lib.byteCells_length l
  go_wp2_with (at_builtin; refine Lib.wpList_append_own_stringF _ rfl _ _ 56 9 rfl b 5 i0 Tryz.underlying56 Tryz.underlying9 hi hz0 hz1 hz2 _ _ _ rfl hown ⟨s.toArray⟩ rfl ?c3 ?c4 ?c5 ?_)
  case c3 => rw [hs, hln]; unfold maxLen; omega
  case c4 => rw [hs, hln]; omega
  case c5 => omega
  intro v' w2 hown' hgrow _
  have hb2 : w2.heap[b]? = some (.cells #[.pointer (some ⟨b, 0, none⟩), v] 58 (0, 0)) := (hgrow.block b hlt (fun e => hne e.symm)).trans hbk
  have d0 : w2.cell? ⟨b, 0, none⟩ = some (.pointer (some ⟨b, 0, none⟩)) := by rw [Lib.cell_of_heap hb2]; rfl
  have d1 : w2.cell? ⟨b, 1, none⟩ = some v := by rw [Lib.cell_of_heap hb2]; rfl
  have f1 : w2.frozen? ⟨b, 1, none⟩ = false := Lib.frozen_of_heap hb2 1
  obtain ⟨ao, n', cap, rfl⟩ : ∃ ao n' cap, v' = .slice ao n' cap := by
    rcases hown'.2 with ⟨hv, _⟩ | ⟨g, cap, cur, fz, hv, _⟩
    · exact ⟨_, _, _, hv⟩
    · exact ⟨_, _, _, hv⟩
  go_wp2
  go_ret2
  refine ⟨rfl, .inr ?_, ?_, (hk1.grown hgrow (Lib.ownsRowF_kind hown)).setCell ⟨b, 1, none⟩ rfl _⟩
  · refine Lib.BuilderAtF.put hB hb2 ?_ (by decide)
    rw [Lib.byteCells_append, List.length_append, show Lib.byteCells s = Lib.strCells ⟨s.toArray⟩ from rfl, Lib.strCells_length, hs, hln]
    exact hown'
  · exact (hb1.grown hgrow (by omega) (fun k hk => (hown.lt k hk).1)).setCell (p := ⟨b, 1, none⟩) hB _
end
end Go.Proofs.YtiedombphcdpbaaGreatDoor
/-
  THE TEXT OF A GRAPH: the program's contract.
-/
namespace Go.Proofs.YtiedombphcdpbaaGreatDoor
open Go.RowKit
set_option maxRecDepth 100000
attribute [local go_sem] Oper.semAt_some
/-- the two boxes that edgesOf lays -/
def EB (W : World) (B : Nat) (n e : Int) : Prop := W.heap[B]? = some (.cells #[.int .i64 n, .int .u32 e] 36) ∧ ∃ T : TypeId, T ≠ 5 ∧ W.heap[B + 1]? = some (.cells #[.func (.func 67) #[] #[]] T)
theorem EB.kept {w w' : World} {B : Nat} {n e : Int} {row : Option Nat} (h : EB w B n e) (hg : w.grownBy w' row) (hr : ∀ r, row = some r → ∃ o : Obj, w.heap[r]? = some o ∧ o.isCells = false) : EB w' B n e := by
  obtain ⟨h1, T, hT, h2⟩ := h
  have k1 : B < w.heap.size := (Array.getElem?_eq_some_iff.1 h1).1
  have k2 : B + 1 < w.heap.size := (Array.getElem?_eq_some_iff.1 h2).1
  refine ⟨(hg.block _ k1 fun c => ?_).trans h1, T, hT, (hg.block _ k2 fun c => ?_).trans h2⟩
  · obtain ⟨o, ho, hk⟩ := hr _ c.symm
    rw [h1] at ho
    obtain rfl := Option.some.inj ho
    cases hk
  · obtain ⟨o, ho, hk⟩ := hr _ c.symm
    rw [h2] at ho
    obtain rfl := Option.some.inj ho
    cases hk
theorem EB.below {w w' : World} {B : Nat} {n e : Int} (h : EB w B n e) (hb : Below w.heap.size w w') : EB w' B n e :=
  h.kept (row := none) (below_grown hb) (fun _ c => by cases c)
theorem EB.others {w w' : World} {B b : Nat} {n e : Int} (h : EB w B n e) (hk : Lib.OthersKept 5 (some b) w w') (h1 : B ≠ b) (h2 : B + 1 ≠ b) : EB w' B n e := by
  obtain ⟨k1, T, hT, k2⟩ := h
  exact ⟨hk _ _ k1 (fun c => h1 (Option.some.inj c)) (fun c fz e => by have := (Obj.cells.inj e).2.1; exact absurd this (by decide)), T, hT, hk _ _ k2 (fun c => h2 (Option.some.inj c)) (fun c fz e => by have := (Obj.cells.inj e).2.1; exact absurd this hT)⟩
theorem EB.kp {w w' : World} {B : Nat} {n e : Int} (h : EB w B n e) (h' : EB w' B n e) (hs : w.heap.size ≤ w'.heap.size) : False ∨ (w.heap.size ≤ w'.heap.size ∧ w'.heap[B]? = w.heap[B]?) := .inr ⟨hs, by rw [h.1, h'.1]⟩
theorem keepsFrom_others {W W' : World} {B b : Nat} {l : List UInt8} (hk : Lib.OthersKept 5 (some b) W W') (hb : BdAt W b l) (hs : W.heap.size ≤ W'.heap.size) : KeepsFrom B W W' := by
  refine ⟨hs, fun k o _ hk' ho => hk k o hk' (fun c => ?_) (fun c fz e => by subst e; cases ho)⟩
  obtain rfl := Option.some.inj c
  rcases hb with ⟨_, v, h2, _⟩ | ⟨_, v, h2, _⟩ <;> (rw [h2] at hk'; obtain rfl := Option.some.inj hk'; cases ho)
theorem keepsFrom_below {W W' : World} {B : Nat} (h : Below W.heap.size W W') : KeepsFrom B W W' := .of_grownBy (below_grown h) (fun _ c => by cases c)
section
variable (w : World)
theorem bd_put (b : Nat) (l s : List UInt8) (h : BdAt w b l) (hl : l.length + s.length ≤ 1000000) :
    Calls Tryz.prog 17 #[.pointer (some ⟨b, 0, none⟩), .string (tx s)] w fun e w' => e = .returned (.tuple #[.int .i64 s.length, .nilIface]) ∧ BdAt w' b (l ++ s) ∧ Below b w w' ∧ Lib.OthersKept 5 (some b) w w' := bd_write w b l s h hl
theorem bd_string (b : Nat) (l : List UInt8) (h : BdAt w b l) :
    Calls Tryz.prog 21 #[.pointer (some ⟨b, 0, none⟩)] w fun e w' => e = .returned (.string (tx l)) ∧ Below b w w' ∧ Lib.OthersKept 5 (some b) w w' :=
  (Tryz.Builder_String_any_k b b l w h (Nat.le_of_lt h.lt)).mono fun _ _ ⟨h1, _, h2, h3⟩ => ⟨h1, h2, h3⟩
theorem eo_obj (n e : Int) :
    Calls Tryz.prog 40 #[.agg #[.int .i64 n, .int .u32 e]] w fun r w' => ∃ Bg, r = .returned (.func (.func 85) #[] #[.pointer (some ⟨Bg, 0, none⟩), .pointer (some ⟨Bg + 1, 0, none⟩)]) ∧
      w.heap.size ≤ Bg ∧ Below w.heap.size w w' ∧ Bg + 2 ≤ w'.heap.size ∧ EB w' Bg n e := by
  have hp : ∀ W, Calls Tryz.prog 66 #[.agg #[.int .i64 n, .int .u32 e], .func (.func 67) #[] #[]] W fun r w' => r = .returned (.func (.func 85) #[] #[.pointer (some ⟨W.heap.size, 0, none⟩), .pointer (some ⟨W.heap.size + 1, 0, none⟩)]) ∧ Below W.heap.size W w' ∧ W.heap.size + 2 ≤ w'.heap.size ∧ EB w' W.heap.size n e := fun w => by
    go_enter Tryz.func66, Tryz.ntmps66
    go_wp2
    go_ret
    have hh : ∀ T : TypeId, ((w.alloc (.cells #[.int .i64 n, .int .u32 e] 36)).alloc (.cells #[.func (.func 67) #[] #[]] T)).heap[w.heap.size + 1]? = some (.cells #[.func (.func 67) #[] #[]] T) := fun T => by
      have := World.alloc_heap_new (w.alloc (.cells #[.int .i64 n, .int .u32 e] 36)) (.cells #[.func (.func 67) #[] #[]] T)
      rwa [World.size_alloc] at this
    refine ⟨rfl, by (repeat (first | exact Below.refl _ _ | assumption | refine bchain (by assumption) ?_ | refine balloc ?_ _ | apply Below.drew | apply below_drewN | (refine Below.alloc ?_ (by (try simp) <;> omega) _) | (refine Below.setCell ?_ (by (try simp) <;> omega) _))), by simp, ?_, ?_⟩
    · rw [Below.heap_alloc _ _ _ (by simp)]; exact World.alloc_heap_new w _
    · exact ⟨_, by decide, hh _⟩
  replace hp := Lib.hid hp
  go_enter Tryz.func40, Tryz.ntmps40
  go_wp2_with fail
  refine (hp.out _).mono ?_
  rintro r1 w1 ⟨rfl, hb1, hz, hE⟩
  have e1 : (w.alloc (.cells #[.int .i64 n, .int .u32 e] 36)).heap.size = w.heap.size + 1 := by simp
  rw [e1] at hE hz
  go_wp2
  go_ret
  exact ⟨w.heap.size + 1, rfl, by omega, by (repeat (first | exact Below.refl _ _ | assumption | refine bchain (by assumption) ?_ | refine balloc ?_ _ | apply Below.drew | apply below_drewN | (refine Below.alloc ?_ (by (try simp) <;> omega) _) | (refine Below.setCell ?_ (by (try simp) <;> omega) _))), by omega, hE⟩
theorem igt_f (n e : Int) (hn : e < 4294967296) (he0 : 0 ≤ e) (h : ¬ VG n e) :
    Calls Tryz.prog 19 #[.agg #[.int .i64 n, .int .u32 e]] w fun r w' => r = .returned (.string ⟨#[]⟩) ∧ Below w.heap.size w w' := by
  go_enter Tryz.func19, Tryz.ntmps19
  go_wp2_with fail
  refine (valid_f _ n e hn he0 h).mono ?_
  rintro r1 w1 ⟨rfl, hb1⟩
  go_wp2
  go_ret
  exact ⟨rfl, by (repeat (first | exact Below.refl _ _ | assumption | refine bchain (by assumption) ?_ | refine balloc ?_ _ | apply Below.drew | apply below_drewN | (refine Below.alloc ?_ (by (try simp) <;> omega) _) | (refine Below.setCell ?_ (by (try simp) <;> omega) _)))⟩
set_option maxHeartbeats 2000000 in
theorem igt_t (n e : Nat) (h : VG n e) (hT : TabP w) :
    Calls Tryz.prog 19 #[.agg #[.int .i64 n, .int .u32 e]] w fun r w' => r = .returned (.string (tx (gText n (prE n e)))) ∧ Below w.heap.size w w' := by
  have he : e < 4294967296 := by have := h.2.2.2; have := eMax_le n; simp at *; omega
  have hn5 : n ≤ 5 := by have := h.2.1; omega
  have hL := prE_len n e hn5
  have hV := Lib.hid (fun W => valid_t W n e h)
  have hF := Lib.hid (fun W (h2 : Below w.heap.size w W) a (ha : a < 1000000) => fmt_any W a (by omega) (hT.below h2))
  have hN := Lib.hid (fun W (h2 : Below w.heap.size w W) => hF.out W h2 n (by omega))
  have hH := run_head n (by omega)
  have hO := Lib.hid (fun W => eo_obj W n e)
  obtain ⟨W0, hW0⟩ : ∃ W0, W0 = w.alloc (.cells #[.int .i64 (n : Int), .int .u32 (e : Int)] 36) := ⟨_, rfl⟩
  have hB0 : Below w.heap.size w W0 := by rw [hW0]; (repeat (first | exact Below.refl _ _ | assumption | refine bchain (by assumption) ?_ | refine balloc ?_ _ | apply Below.drew | apply below_drewN | (refine Below.alloc ?_ (by (try simp) <;> omega) _) | (refine Below.setCell ?_ (by (try simp) <;> omega) _)))
  have hz0 : w.heap.size < W0.heap.size := by rw [hW0]; simp
  have hbx : Hid (∀ W, Below W0.heap.size W0 W → W.cell? ⟨w.heap.size, 0, none⟩ = some (.int .i64 n) ∧ W.cell? ⟨w.heap.size, 1, none⟩ = some (.int .u32 e)) := fun W h => by
    refine ⟨(h.cell (p := ⟨w.heap.size, 0, none⟩) hz0).trans ?_, (h.cell (p := ⟨w.heap.size, 1, none⟩) hz0).trans ?_⟩ <;> (rw [hW0, World.cell?_alloc_new]; rfl)
  replace hW0 := Lib.hid hW0
  obtain ⟨y0, y1⟩ := hbx.out W0 (Below.refl _ _)
  obtain ⟨DN, hDN⟩ : ∃ DN, tx (Lib.decDigits n) = DN := ⟨_, rfl⟩
  rw [hDN] at hH hN
  clear hDN
  replace hT := Lib.hid hT
  refine (callsIn_wide (n := 5)).1 ?_
  refine callsIn_of_wp_marks Tryz.func19 rfl trivial ?_ rfl
  simp only [Tryz.ntmps19, List.size_toArray, List.length_cons, List.length_nil, Nat.reduceAdd, Nat.reduceSub, Array.replicate_succ, Array.replicate_zero, List.push_toArray, List.append_toArray, List.nil_append, List.cons_append]
  gi_wp2_with fail
  rw [← hW0.out]
  gi_wp2_with fail
  refine ⟨trivial, ?_⟩
  gi_at_call 39
  refine (callsIn_wide.2 (hV.out _)).mono ?_
  rintro r1 w1 ⟨rfl, hb1⟩
  clear y0 y1
  obtain ⟨y0, y1⟩ := hbx.out (w1.alloc (.cells #[.pointer none, .slice none 0 0] 58)) (balloc hb1 _)
  gi_wp2_with fail
  refine ⟨trivial, ?_⟩
  gi_at_call 38
  refine (callsIn_wide.2 (hN.out _ (bchain (balloc hb1 _) hB0))).mono ?_
  rintro r2 w2 ⟨rfl, hb2⟩
  have hbd2 := (BdAt.fresh w1).below hb2
  have hb3 : Below W0.heap.size W0 w2 := bchain hb2 (balloc hb1 _)
  have hzb := hb1.size
  have hzc := hb2.size
  rw [World.size_alloc] at hzc
  clear y0 y1 hb1 hb2
  obtain ⟨y0, y1⟩ := hbx.out w2 hb3
  obtain ⟨b, hb⟩ : ∃ b, w1.heap.size = b := ⟨_, rfl⟩
  rw [hb] at hbd2 hzb hzc ⊢
  clear hb
  have hbd2' := Lib.hid hbd2
  clear hbd2
  gi_wp2_with fail
  refine ⟨trivial, ?_⟩
  gi_at_call 17
  refine (callsIn_wide.2 (bd_put _ b [] (gText n []) hbd2'.out (by rw [gText_nil]; have := dd_len (n := n) (by omega); simp [gHead]; omega))).mono ?_
  rintro r3 w3 ⟨rfl, hbd3, hbb3, _⟩
  have hb4 : Below W0.heap.size W0 w3 := hb3.trans (hbb3.mono hzb)
  have hzd := hbb3.size
  clear y0 y1 hb3
  obtain ⟨y0, y1⟩ := hbx.out w3 hb4
  replace hbd3 := Lib.hid (show BdAt w3 b (gText n []) from hbd3)
  gi_wp2_with fail
  refine ⟨trivial, ?_⟩
  gi_at_call 40
  refine (callsIn_wide.2 (hO.out _)).mono ?_
  rintro r4 w4 ⟨Bg, rfl, hBg, hb5, hz4, hE⟩
  have hb6 : Below W0.heap.size W0 w4 := bchain hb5 hb4
  have hbd4 := Lib.hid (hbd3.out.below hb5)
  have hze := hb5.size
  have g0 : w4.cell? ⟨Bg, 0, none⟩ = some (.int .i64 n) := by rw [Lib.cell_of_heap hE.1]; rfl
  have g1 : w4.cell? ⟨Bg, 1, none⟩ = some (.int .u32 e) := by rw [Lib.cell_of_heap hE.1]; rfl
  have ga : w4.cell? ⟨Bg + 1, 0, none⟩ = some (.func (.func 67) #[] #[]) := by
    obtain ⟨_, T, _, h2⟩ := hE
    rw [Lib.cell_of_heap h2]; rfl
  have hbBg : b < Bg := by omega
  clear y0 y1 hb5 hb4 hbd3
  have hPS := pj_stops 4 (by omega) n e hn5 (fun i j => jn e i j) Bg (Bg + 1) w4 (by omega) (by omega) g0 g1 ga (fun W i j hij hj => joined_any W n e i j he (by omega) hj)
  clear g0 g1 ga
  gi_wp2_with fail
  refine wpIn_rangeFunc_ownG rfl (by omega) (gf := 85) (lb := #[.pointer (some ⟨Bg, 0, none⟩), .pointer (some ⟨Bg + 1, 0, none⟩)]) rfl trivial (enters_of Tryz.func85 (by kernel_rfl) rfl)
    hPS
    Kp2.trans (Kp2.put (by omega) (by omega)) (Below.refl _ _) (fun _ => rfl)
    (fun pre W => (BdAt W b (gText n (vals pre)) ∧ EB W Bg n e) ∧ (w4.heap.size ≤ W.heap.size ∧ Below W0.heap.size W0 W))
    (fun _ _ _ => False)
    (OwnFrom.and (fun s W W' row hs hg hr => ⟨hs.1.kept hg (fun r e => (hr r e).2), hs.2.kept hg (fun r e => (hr r e).2)⟩) (OwnFrom.and (fun _ _ _ _ hs hg _ => Nat.le_trans hs hg.size) (ownFrom_below (Nat.le_refl _) hb6.size)))
    (fun _ _ _ _ _ hs _ _ => hs)
    ⟨⟨hbd4.out, hE⟩, Nat.le_refl _, hb6⟩
    (fun x => { tmps := #[.agg #[.int .i64 n, .int .u32 e], .pointer (some ⟨w.heap.size, 0, none⟩), .string { data := #[] }, .pointer (some ⟨b, 0, none⟩), .int .i64 (x.1.1 : Nat), .int .i64 (x.1.2 : Nat), .agg #[.int .i64 n, .int .u32 e], .bool true, .bool false, .pointer (some ⟨w.heap.size, 0, none⟩), .int .i64 n, .string DN, .string (tx (gText n [])), .tuple #[.int .i64 (gText n []).length, .nilIface], .agg #[.int .i64 n, .int .u32 e],
      .func (.func 85) #[] #[.pointer (some ⟨Bg, 0, none⟩), .pointer (some ⟨Bg + 1, 0, none⟩)], .int .i64 (x.1.1 : Nat), .int .i64 (x.1.2 : Nat), undef, undef, undef, undef, undef, undef, undef, undef, undef], defers := [] }) ?assign ?body ?done ?stop
  case assign =>
    intro l x W K hK
    gi_wp2
    exact hK
  case body =>
    rintro l pre ⟨⟨i, j⟩, hij, hj⟩ W ⟨⟨hbd, hEW⟩, hWz, hB⟩ hlen
    dsimp only at hij hj ⊢
    obtain ⟨x1, x2, x3, _⟩ := run_pair i j (by omega) (by omega) [] (by simp)
    have hgl := gText_len (n := n) (by omega) (ps := vals pre) (fun p hp => by
      obtain ⟨q, _, rfl⟩ := List.mem_map.1 hp
      have := q.2
      omega)
    rw [vals_length] at hgl
    have hgp := gPair_len (p := (i, j)) (by show i < _; omega) (by show j < _; omega)
    have hnx : gText n (vals (pre ++ [⟨(i, j), hij, hj⟩])) = gText n (vals pre) ++ gPair (i, j) := by rw [vals_snoc, gText_snoc]
    have hFi := Lib.hid (fun W h => hF.out W h i (by omega))
    have hFj := Lib.hid (fun W h => hF.out W h j (by omega))
    have hnx' := Lib.hid hnx
    have hgl' := Lib.hid (show (gText n (vals pre)).length + (gPair (i, j)).length ≤ 1000000 by omega)
    have hbd' := Lib.hid hbd
    have hEW' := Lib.hid hEW
    have hWz' := Lib.hid hWz
    clear hnx hgl hgp hbd hEW hWz
    gi_wp2_with fail
    refine ⟨trivial, ?_⟩
    gi_at_call 38
    refine (CallsIn.inRound l (callsIn_wide.2 (hFi.out _ (bchain hB hB0)))).mono ?_
    rintro r5 w5 ⟨rfl, hb5⟩
    gi_wp2_with fail
    refine ⟨trivial, ?_⟩
    gi_at_call 38
    refine (CallsIn.inRound l (callsIn_wide.2 (hFj.out _ (bchain (bchain hb5 hB) hB0)))).mono ?_
    rintro r6 w6 ⟨rfl, hb6'⟩
    have hx6 : Below W.heap.size W w6 := bchain hb6' hb5
    gi_wp2_with fail
    refine ⟨trivial, ?_⟩
    gi_at_call 17
    have hbd6 := hbd'.out.below hx6
    have hE6 := hEW'.out.below hx6
    refine (CallsIn.inRound l (callsIn_wide.2 (bd_put _ b _ (gPair (i, j)) hbd6 hgl'.out))).mono ?_
    rintro r7 w7 ⟨rfl, hbd7, hb7, hk7⟩
    have hE7 := hE6.others hk7 (by omega) (by omega)
    gi_wp2
    refine ⟨(keepsFrom_below hx6).trans (keepsFrom_others hk7 hbd6 hb7.size), ⟨Nat.le_trans hx6.size hb7.size, by rw [hE7.1, hEW'.out.1], ?_⟩, ⟨by rw [hnx'.out]; exact hbd7, hE7⟩, Nat.le_trans hWz'.out (Nat.le_trans hx6.size hb7.size), (bchain hx6 hB).trans (hb7.mono hzb)⟩
    have m1 : w6.heap[Bg + 1]? = W.heap[Bg + 1]? := hx6.block _ (by have := hWz'.out; omega)
    obtain ⟨_, T, hT2, h2⟩ := hE6
    rw [← m1, h2]
    exact hk7 _ _ h2 (fun c => by have := Option.some.inj c; omega) (fun c fz e => by have := (Obj.cells.inj e).2.1; exact absurd this hT2)
  case done =>
    rintro D xs W hD hS ⟨⟨hbd, hEW⟩, hWz, hB⟩ hK
    have hx : vals xs = prE n e := hS
    rw [hx] at hbd
    have hDb : D ≠ b := by omega
    have hbd' := Lib.hid hbd
    have hbS := Lib.hid (bd_string W b _ hbd)
    clear hbd hEW
    gi_wp2_with fail
    refine ⟨trivial, ?_⟩
    gi_at_call 21
    refine (callsIn_wide.2 hbS.out).mono ?_
    rintro r8 w8 ⟨rfl, hb8, hk8⟩
    have hK8 : w8.heap[D]? = some (.deferred (some [])) := hk8 _ _ hK (fun c => hDb (Option.some.inj c)) (fun _ _ c => by cases c)
    have hbe := Lib.hid (bchain (hB.trans (hb8.mono hzb)) hB0 |>.trans (below_putObj' w8 D (.deferred none) (B := w.heap.size) (by omega)))
    gi_wp2
    refine ⟨by simp, .inl ⟨_, _, rfl, run_takeDeferred hK8, ?_⟩⟩
    exact ⟨_, results_tmp rfl _ _ _, rfl, hbe.out⟩
  case stop =>
    rintro D c pre W _ _ h _
    exact h.elim
end
end Go.Proofs.YtiedombphcdpbaaGreatDoor
/-
  TEXTS PUT TOGETHER; the texts of graphs and fractions on both sides.
-/
namespace Go.Proofs.YtiedombphcdpbaaGreatDoor
open Go.RowKit
set_option maxRecDepth 100000
attribute [local go_sem] Oper.semAt_some
theorem run_cat (a b : List UInt8) (ha : a.length ≤ 1000000) (hb : b.length ≤ 1000000) : ∀ W : World, (Op.stringOp .add (tx a) (tx b)).run Tryz.prog W = .ok (.string (tx (a ++ b))) W := fun W => by
  rw [← tx_app]
  exact run_string_add W _ _ (by rw [tx_size]; omega) (by rw [tx_size]; omega)
def gT (n e : Int) : List UInt8 := gText n.toNat (prE n.toNat e.toNat)
theorem gT_len {n e : Int} (h : VG n e) : (gT n e).length ≤ 2000 := by
  obtain ⟨n', rfl⟩ : ∃ k : Nat, n = k := ⟨n.toNat, by have := h.1; omega⟩
  have hn5 : n' ≤ 5 := by have := h.2.1; omega
  have h1 := gText_len (n := n') (by omega) (ps := prE n' e.toNat) (fun p hp => by have := prE_small hn5 p hp; omega)
  have h2 := prE_len n' e.toNat hn5
  unfold gT
  rw [Int.toNat_natCast]
  omega
theorem sgT_any (W : World) {n e : Int} (h : VG n e) : Calls Tryz.prog 30 #[.agg #[.int .i64 n, .int .u32 e]] W fun r w' => r = .returned (.string (tx (gT n e))) ∧ Below W.heap.size W w' := by
  obtain ⟨n', rfl⟩ : ∃ k : Nat, n = k := ⟨n.toNat, by have := h.1; omega⟩
  obtain ⟨e', rfl⟩ : ∃ k : Nat, e = k := ⟨e.toNat, by have := h.2.2.1; omega⟩
  exact sgt_t W n' e' h
theorem igT_any (W : World) {n e : Int} (h : VG n e) (hT : TabP W) : Calls Tryz.prog 19 #[.agg #[.int .i64 n, .int .u32 e]] W fun r w' => r = .returned (.string (tx (gT n e))) ∧ Below W.heap.size W w' := by
  obtain ⟨n', rfl⟩ : ∃ k : Nat, n = k := ⟨n.toNat, by have := h.1; omega⟩
  obtain ⟨e', rfl⟩ : ∃ k : Nat, e = k := ⟨e.toNat, by have := h.2.2.1; omega⟩
  exact igt_t W n' e' h hT
theorem sfT_any (W : World) {p q : Int} (h : Fr.VF p q) : Calls Tryz.prog 29 #[.agg #[.int .i64 p, .int .i64 q]] W fun r w' => r = .returned (.string (tx (frL p q.toNat))) ∧ Below W.heap.size W w' := by
  obtain ⟨q', rfl⟩ : ∃ k : Nat, q = k := ⟨q.toNat, by have := h.1; omega⟩
  rw [Int.toNat_natCast, ← fText_frL]
  exact sft_t W p q' h
theorem ifT_any (W : World) {p q : Int} (h : Fr.VF p q) (hT : TabP W) : Calls Tryz.prog 18 #[.agg #[.int .i64 p, .int .i64 q]] W fun r w' => r = .returned (.string (tx (frL p q.toNat))) ∧ Below W.heap.size W w' := by
  obtain ⟨q', rfl⟩ : ∃ k : Nat, q = k := ⟨q.toNat, by have := h.1; omega⟩
  rw [Int.toNat_natCast, ← fText_frL]
  exact ift_t W p q' hT h
theorem frL_len' {p q : Int} (h : Fr.VF p q) : (frL p q.toNat).length ≤ 42 := by
  obtain ⟨q', rfl⟩ : ∃ k : Nat, q = k := ⟨q.toNat, by have := h.1; omega⟩
  rw [Int.toNat_natCast]
  exact frL_len h
end Go.Proofs.YtiedombphcdpbaaGreatDoor
/-
  ZeroSum: both contracts.
-/
namespace Go.Proofs.YtiedombphcdpbaaGreatDoor
open Go.RowKit
set_option maxRecDepth 100000
/-- may a sum have a type with so many vertices, and a size -/
def frB (m s : Int) : Bool := decide (m ≤ 3 ∧ m ≤ s ∧ s ≤ 5)
section
variable (w : World)
theorem ihf_any (m f s : Int) :
    Calls Tryz.prog 55 #[.agg #[.int .i64 m, .int .u32 f], .int .i64 s] w fun r w' => r = .returned (.bool (frB m s)) ∧ Below w.heap.size w w' := by
  unfold frB
  by_cases h1 : m ≤ 3
  · by_cases h2 : m ≤ s
    · by_cases h3 : s ≤ 5
      · rw [decide_eq_true (show m ≤ 3 ∧ m ≤ s ∧ s ≤ 5 from ⟨h1, h2, h3⟩)]
        go_enter Tryz.func55, Tryz.ntmps55
        go_wp2
        go_ret
        exact ⟨rfl, by (repeat (first | exact Below.refl _ _ | assumption | refine bchain (by assumption) ?_ | refine balloc ?_ _ | apply Below.drew | apply below_drewN | (refine Below.alloc ?_ (by (try simp) <;> omega) _) | (refine Below.setCell ?_ (by (try simp) <;> omega) _)))⟩
      · rw [decide_eq_false (show ¬ (m ≤ 3 ∧ m ≤ s ∧ s ≤ 5) from fun c => h3 c.2.2)]
        go_enter Tryz.func55, Tryz.ntmps55
        go_wp2
        go_ret
        exact ⟨rfl, by (repeat (first | exact Below.refl _ _ | assumption | refine bchain (by assumption) ?_ | refine balloc ?_ _ | apply Below.drew | apply below_drewN | (refine Below.alloc ?_ (by (try simp) <;> omega) _) | (refine Below.setCell ?_ (by (try simp) <;> omega) _)))⟩
    · rw [decide_eq_false (show ¬ (m ≤ 3 ∧ m ≤ s ∧ s ≤ 5) from fun c => h2 c.2.1)]
      go_enter Tryz.func55, Tryz.ntmps55
      go_wp2
      go_ret
      exact ⟨rfl, by (repeat (first | exact Below.refl _ _ | assumption | refine bchain (by assumption) ?_ | refine balloc ?_ _ | apply Below.drew | apply below_drewN | (refine Below.alloc ?_ (by (try simp) <;> omega) _) | (refine Below.setCell ?_ (by (try simp) <;> omega) _)))⟩
  · rw [decide_eq_false (show ¬ (m ≤ 3 ∧ m ≤ s ∧ s ≤ 5) from fun c => h1 c.1)]
    go_enter Tryz.func55, Tryz.ntmps55
    go_wp2
    go_ret
    exact ⟨rfl, by (repeat (first | exact Below.refl _ _ | assumption | refine bchain (by assumption) ?_ | refine balloc ?_ _ | apply Below.drew | apply below_drewN | (refine Below.alloc ?_ (by (try simp) <;> omega) _) | (refine Below.setCell ?_ (by (try simp) <;> omega) _)))⟩
theorem sfr_any (m f s : Int) :
    Calls Tryz.prog 44 #[.agg #[.int .i64 m, .int .u32 f], .int .i64 s] w fun r w' => r = .returned (.bool (frB m s)) ∧ Below w.heap.size w w' := by
  unfold frB
  by_cases h1 : m ≤ 3
  · have hI := Lib.hid (fun W => show Calls Tryz.prog 48 #[.int .i64 s, .int .i64 m, .int .i64 5] W fun e w' => e = .returned (.bool (decide (m ≤ 3 ∧ m ≤ s ∧ s ≤ 5))) ∧ W = w' from by
      by_cases h2 : m ≤ s ∧ s ≤ 5
      · rw [decide_eq_true (show m ≤ 3 ∧ m ≤ s ∧ s ≤ 5 from ⟨h1, h2⟩)]; exact in_t W s m 5 h2.1 h2.2
      · rw [decide_eq_false (show ¬ (m ≤ 3 ∧ m ≤ s ∧ s ≤ 5) from fun c => h2 c.2)]; exact in_f W s m 5 (by omega))
    obtain ⟨b, hb⟩ : ∃ b, decide (m ≤ 3 ∧ m ≤ s ∧ s ≤ 5) = b := ⟨_, rfl⟩
    rw [hb] at hI ⊢
    clear hb
    go_enter Tryz.func44, Tryz.ntmps44
    go_wp2_with (go_at_call 48; refine (hI.out _).mono ?_; rintro r3 w3 ⟨rfl, rfl⟩)
    go_ret
    exact ⟨rfl, by (repeat (first | exact Below.refl _ _ | assumption | refine bchain (by assumption) ?_ | refine balloc ?_ _ | apply Below.drew | apply below_drewN | (refine Below.alloc ?_ (by (try simp) <;> omega) _) | (refine Below.setCell ?_ (by (try simp) <;> omega) _)))⟩
  · rw [decide_eq_false (show ¬ (m ≤ 3 ∧ m ≤ s ∧ s ≤ 5) from fun c => h1 c.1)]
    go_enter Tryz.func44, Tryz.ntmps44
    go_wp2
    go_ret
    exact ⟨rfl, by (repeat (first | exact Below.refl _ _ | assumption | refine bchain (by assumption) ?_ | refine balloc ?_ _ | apply Below.drew | apply below_drewN | (refine Below.alloc ?_ (by (try simp) <;> omega) _) | (refine Below.setCell ?_ (by (try simp) <;> omega) _)))⟩
end
end Go.Proofs.YtiedombphcdpbaaGreatDoor
namespace Go.Proofs.YtiedombphcdpbaaGreatDoor
open Go.RowKit
set_option maxRecDepth 100000
/-- the edges among the first k vertices -/
theorem and_first : ∀ k, k ≤ 3 → ∀ e, e < 1024 → e &&& (eMax k - 1) = onL e (List.range k) := by decide +kernel
theorem and_u32 (e m : Nat) (h1 : e < 4294967296) (h2 : m < 4294967296) : bits .and .u32 (e : Int) (m : Int) = ((e &&& m : Nat) : Int) := by
  rw [u32_and _ _ (by omega) (by omega) (by omega) (by omega)]
  simp
section
variable (w : World)
set_option maxHeartbeats 2000000 in
theorem ity_any (k n e : Nat) (h : VK k n e) :
    Calls Tryz.prog 77 #[.agg #[.int .i64 k, .int .i64 n, .int .u32 e]] w fun r w' => r = .returned (.agg #[.int .i64 k, .int .u32 (onL e (List.range k) : Nat)]) ∧ Below w.heap.size w w' := by
  have he : e < 1024 := by have := h.1.2.2.2; have := eMax_le n; simp at *; omega
  have hk3 : k ≤ 3 := by have := h.2.2.1; omega
  have hm := and_u32 e (eMax k - 1) (by omega) (by have := eMax_le k; omega)
  rw [and_first k hk3 e he] at hm
  obtain ⟨x, hx⟩ : ∃ x, onL e (List.range k) = x := ⟨_, rfl⟩
  rw [hx] at hm ⊢
  clear hx h
  go_enter Tryz.func77, Tryz.ntmps77
  go_wp2
  go_region_with (go_at_call 65; refine (ae_any _ k (by omega)).mono ?_; rintro r1 w1 ⟨rfl, rfl⟩)
  all_goals go_wp2
  all_goals exact bodyPost_ret (v := .agg #[.int .i64 k, .int .u32 x]) (by simp [results, Tryz.results77, go_sem]) rfl ⟨rfl, by (repeat (first | exact Below.refl _ _ | assumption | refine bchain (by assumption) ?_ | refine balloc ?_ _ | apply Below.drew | apply below_drewN | (refine Below.alloc ?_ (by (try simp) <;> omega) _) | (refine Below.setCell ?_ (by (try simp) <;> omega) _)))⟩
theorem ok_range : ∀ n, n ≤ 5 → ∀ k, k ≤ 3 → k ≤ n → okList n k (List.range k) = true := by decide +kernel
set_option maxHeartbeats 2000000 in
theorem sty_any (k n e : Nat) (h : VK k n e) :
    Calls Tryz.prog 70 #[.agg #[.int .i64 k, .int .i64 n, .int .u32 e]] w fun r w' => r = .returned (.agg #[.int .i64 k, .int .u32 (onL e (List.range k) : Nat)]) ∧ Below w.heap.size w w' := by
  have he : e < 1024 := by have := h.1.2.2.2; have := eMax_le n; simp at *; omega
  have hn5 : n ≤ 5 := by have := h.1.2.1; omega
  have hk3 : k ≤ 3 := by have := h.2.2.1; omega
  have hok := ok_range n hn5 k hk3 (by have := h.2.2.2; omega)
  have hS := Lib.hid (fun W v (hs : See (List.range k) v W) => sonL_any W v (List.range k) n k e hs hn5 (by omega) hok)
  obtain ⟨x, hx⟩ : ∃ x, onL e (List.range k) = x := ⟨_, rfl⟩
  rw [hx] at hS ⊢
  clear hx h hok
  go_enter Tryz.func70, Tryz.ntmps70
  go_wp2
  go_region_with (first
    | (go_at_call 71; refine (first_any _ k (by omega)).mono ?_; rintro r1 w1 ⟨⟨v, rfl, hO⟩, hb1⟩; have hsee := (hO.congr (fun i hi => lf_range k i hi)).see (by simp); replace hsee := Lib.hid hsee; clear hO; obtain ⟨hc1_0, hz1_0⟩ := bkeep hb1 w.heap.size (by (try simp) <;> omega); obtain ⟨hc1_1, hz1_1⟩ := bkeep hb1 (w.heap.size + 1) (by (try simp) <;> omega); have hf1_1 := bkeepz hb1 (w.heap.size + 1) (by (try simp) <;> omega))
    | (go_at_call 73; refine (hS.out _ _ hsee.out).mono ?_; rintro r2 w2 ⟨rfl, hb2⟩; obtain ⟨hc2_1, hz2_1⟩ := bkeep hb2 (w.heap.size + 1) hz1_1; have hf2_1 := bkeepz hb2 (w.heap.size + 1) hz1_1))
  all_goals go_wp2
  all_goals have h0 : w2.cell? ⟨w.heap.size + 1, 0, none⟩ = some (.int .i64 0) := by rw [hc2_1, hc1_1]; simp [go_sem]
  all_goals have h1 : w2.cell? ⟨w.heap.size + 1, 1, none⟩ = some (.int .u32 0) := by rw [hc2_1, hc1_1]; simp [go_sem]
  all_goals have h2 := twoCells h0 h1 (.int .i64 k) (.int .u32 x)
  all_goals exact bodyPost_ret (v := .agg #[.int .i64 k, .int .u32 x]) (by simp [results, Tryz.results70, go_sem, h2.1, h2.2]) rfl ⟨rfl, by (repeat (first | exact Below.refl _ _ | assumption | refine bchain (by assumption) ?_ | refine balloc ?_ _ | apply Below.drew | apply below_drewN | (refine Below.alloc ?_ (by (try simp) <;> omega) _) | (refine Below.setCell ?_ (by (try simp) <;> omega) _)))⟩
end
end Go.Proofs.YtiedombphcdpbaaGreatDoor
/-
  A FLAG WITH ITS UNLABELLED VERTICES IN EVERY ORDER: the program's iterator.
-/
namespace Go.Proofs.YtiedombphcdpbaaGreatDoor
open Go.RowKit Go.Shelf
set_option maxRecDepth 100000
attribute [local go_sem] Oper.semAt_some

/-- the orders of n vertices that keep the first k -/
def turns (n k : Nat) : List (List Nat) := ext n (n - k) (List.range k)
theorem turns_all : ∀ n, n ≤ 5 → ∀ k, k ≤ 3 → k ≤ n → (turns n k).all (okList n n) = true := by decide +kernel
theorem turns_ok {n k : Nat} (hn : n ≤ 5) (hk : k ≤ 3) (hkn : k ≤ n) {x : List Nat} (hx : x ∈ turns n k) : okList n n x = true := List.all_eq_true.1 (turns_all n hn k hk hkn) x hx
/-- what the closure promises the iterator -/
def RoundsC (Y Fb : Nat) (L : List (List Nat)) (B0 : Nat) (J Jx : List (List Nat) → World → Prop) : Prop :=
  ∀ pre x rest v W1, L = pre ++ x :: rest → J pre W1 → SlI W1 v (zl x) → Calls Tryz.prog 93 #[v, .pointer (some ⟨Y, 0, none⟩), .pointer (some ⟨Fb, 0, none⟩)] W1 fun e W' =>
    (e = .returned (.bool true) ∧ J (pre ++ [x]) W' ∧ Upper B0 W1 W') ∨ (e = .returned (.bool false) ∧ Jx (pre ++ [x]) W')

set_option maxHeartbeats 1000000 in
theorem llc_zero (n k B B0 Y Fb : Nat) (hk : k ≤ 5) (hB : B0 ≤ B) (L : List (List Nat)) (J Jx : List (List Nat) → World → Prop) (hY : RoundsC Y Fb L B0 J Jx)
    (p : List Nat) (pre rest : List (List Nat)) (W : World) (hp : p.length = k) (hL : L = pre ++ [p] ++ rest) (h0 : J pre W) (hM : LMem W B k p) :
    Calls Tryz.prog 91 #[.int .i64 n, .int .i64 k, .slice (some ⟨B, 0, none⟩) k k, .func (.func 93) #[] #[.pointer (some ⟨Y, 0, none⟩), .pointer (some ⟨Fb, 0, none⟩)]] W fun e W' =>
      (e = .returned (.bool true) ∧ J (pre ++ [p]) W' ∧ LMem W' B k p) ∨ (e = .returned (.bool false) ∧ ∃ q, Jx q W') := by
  have hR := hY pre p rest _ W (by rw [hL]; simp) h0 (hM.sl (by omega))
  rw [hp] at hR
  replace hR := Lib.hid hR
  replace hM := Lib.hid hM
  clear hL h0 hp hY
  go_enter Tryz.func91, Tryz.ntmps91
  go_wp2_with (go_at_call 93; refine (hR.out).mono ?_; rintro e w1 (⟨rfl, hJ1, hu1⟩ | ⟨rfl, hx1⟩))
  · go_ret
    exact .inl ⟨rfl, hJ1, hM.out.upper hu1 hB⟩
  · go_ret
    exact .inr ⟨rfl, _, hx1⟩

set_option maxHeartbeats 4000000 in
theorem llc_in (n k B B0 Y Fb : Nat) (hn : n ≤ 5) (hk : k ≤ 5) (hB : B0 ≤ B) (L : List (List Nat)) (J Jx : List (List Nat) → World → Prop) (hJ : Under B0 J) (hY : RoundsC Y Fb L B0 J Jx) (m : Nat) :
    ∀ (p : List Nat) (pl : Nat) (pre rest : List (List Nat)) (W : World), p.length = pl → pl + m = k → L = pre ++ ext n m p ++ rest → J pre W → LMem W B k p →
    Calls Tryz.prog 91 #[.int .i64 n, .int .i64 k, .slice (some ⟨B, 0, none⟩) pl k, .func (.func 93) #[] #[.pointer (some ⟨Y, 0, none⟩), .pointer (some ⟨Fb, 0, none⟩)]] W fun e W' =>
      (e = .returned (.bool true) ∧ J (pre ++ ext n m p) W' ∧ LMem W' B k p) ∨ (e = .returned (.bool false) ∧ ∃ q, Jx q W') := by
  induction m with
  | zero =>
    intro p pl pre rest W hpl hp hL h0 hM
    obtain rfl : pl = k := hp
    exact llc_zero n pl B B0 Y Fb hk hB L J Jx hY p pre rest W hpl hL h0 hM
  | succ m ih =>
    intro p pl pre rest W hpl hp hL h0 hM
    obtain ⟨i0, hi0, hs0⟩ := info_i64s
    have hlt : pl < k := by omega
    have hne : ((pl : Int) == (k : Int)) = false := by simp; omega
    replace hY := Lib.hid hY
    replace ih := Lib.hid ih
    replace hL := Lib.hid hL
    replace hJ := Lib.hid hJ
    replace hM := Lib.hid hM
    replace h0 := Lib.hid h0
    replace hpl := Lib.hid hpl
    replace hp := Lib.hid hp
    replace hi0 := Lib.hid hi0
    replace hs0 := Lib.hid hs0
    go_enter Tryz.func91, Tryz.ntmps91
    go_wp2
    go_loopw [9, 18] (fun _ c wr => ∃ j : Nat, j ≤ n ∧ c = .int .i64 j ∧ J (pre ++ extTo n m p j) wr ∧ LMem wr B k p) (fun _ c _ => n - (intOf c).toNat)
    case atStart => exact ⟨0, by omega, rfl, by rw [extTo_zero, List.append_nil]; exact h0.out, hM.out⟩
    case round =>
      obtain ⟨j, hj, rfl, hJj, hMj⟩ := hrel
      by_cases hlt2 : j < n
      · have hC := contains_any wr _ p j (hMj.sl (by omega)) (by have := hpl.out; omega)
        rw [hpl.out] at hC
        replace hJj := Lib.hid hJj
        have hM0 := Lib.hid hMj
        cases hb : p.contains j
        · rw [hb] at hC
          replace hC := Lib.hid hC
          have hx := Lib.hid (extTo_f (n := n) (m := m) hb)
          obtain ⟨z, hz⟩ := hMj.cells pl hlt
          have hfz := hMj.free pl hlt
          have hBl := hMj.lt
          obtain ⟨t, ht⟩ := extTo_pre (n := n) (m := m) (p := p) (j := j + 1) (by omega)
          have hcall := Lib.hid (fun W2 hJ2 hM2 => ih.out (p ++ [j]) (pl + 1) (pre ++ extTo n m p j) (t ++ rest) W2 (by simp [hpl.out]) (by have := hp.out; omega) (by rw [hL.out, ht, hx.out]; simp [List.append_assoc]) hJ2 hM2)
          have hJ2 := Lib.hid (hJ.out _ _ _ hJj.out (show Below B0 wr ((wr.setCell ⟨B, pl, none⟩ (.int .i64 (j : Int))).alloc (.cells #[.int .i64 (j : Int)] 2)) from ((Below.refl B0 wr).setCell (p := ⟨B, pl, none⟩) hB _).alloc (by simp; omega) _))
          have hM2 := hM0.out.push (by have := hpl.out; omega) j
          rw [hpl.out] at hM2
          replace hM2 := Lib.hid (hM2.below (balloc (Below.refl _ _) (.cells #[.int .i64 (j : Int)] 2)))
          clear hb hMj ht
          go_wp2_with (first
            | (go_at_call 100; refine (hC.out).mono ?_; rintro r3 w3 ⟨rfl, rfl⟩)
            | (go_at_call 91; refine (hcall.out _ hJ2.out hM2.out).mono ?_; rintro r4 w4 (⟨rfl, hJ4, hM4⟩ | ⟨rfl, hx4⟩)))
          · go_roundw
            case rel => exact ⟨j + 1, by omega, by go_num, by rw [hx.out, ← List.append_assoc]; exact hJ4, hM4.pop⟩
            case measure => simp [intOf]; omega
          · go_ret
            exact .inr ⟨rfl, hx4⟩
        · rw [hb] at hC
          replace hC := Lib.hid hC
          have hx := Lib.hid (extTo_t (n := n) (m := m) hb)
          clear hb hMj
          go_wp2_with (go_at_call 100; refine (hC.out).mono ?_; rintro r3 w3 ⟨rfl, rfl⟩)
          go_roundw
          case rel => exact ⟨j + 1, by omega, by go_num, by rw [hx.out]; exact hJj.out, hM0.out⟩
          case measure => simp [intOf]; omega
      · obtain rfl : j = n := by omega
        have hdd := decide_eq_false (show ¬ ((j : Int) < (j : Int)) by omega)
        replace hJj := Lib.hid hJj
        replace hMj := Lib.hid hMj
        go_wp2
        go_ret
        exact .inl ⟨rfl, by rw [← extTo_end]; exact hJj.out, hMj.out⟩

section
variable (w : World)
theorem to_any (k n e : Int) :
    Calls Tryz.prog 79 #[.agg #[.int .i64 k, .int .i64 n, .int .u32 e]] w fun r w' => ∃ B, r = .returned (.func (.func 90) #[] #[.pointer (some ⟨B, 0, none⟩)]) ∧ w.heap.size ≤ B ∧ FC w' B k n e ∧ Below w.heap.size w w' := by
  go_enter Tryz.func79, Tryz.ntmps79
  go_wp2
  go_ret
  exact ⟨w.heap.size, rfl, Nat.le_refl _, FC.made w k n e _, by (repeat (first | exact Below.refl _ _ | assumption | refine bchain (by assumption) ?_ | refine balloc ?_ _ | apply Below.drew | apply below_drewN | (refine Below.alloc ?_ (by (try simp) <;> omega) _) | (refine Below.setCell ?_ (by (try simp) <;> omega) _)))⟩

set_option maxHeartbeats 1000000 in
theorem labels_any (k n e : Nat) (hk : k ≤ n) (hn : n ≤ 5) :
    Calls Tryz.prog 92 #[.agg #[.int .i64 k, .int .i64 n, .int .u32 e]] w fun r w' => ∃ B, r = .returned (.slice (some ⟨B, 0, none⟩) k n) ∧ w.heap.size ≤ B ∧ LMem w' B n (List.range k) ∧ Below w.heap.size w w' := by
  obtain ⟨O, hO⟩ : ∃ O, O = Obj.cells (madeCells #[.int .i64 0] n) 2 := ⟨_, rfl⟩
  obtain ⟨i0, hi0, hz0, hs0, hb0⟩ := info_parts info_i64
  have hmk : ∀ W : World, (Instr.makeSlice 119 (.int .i64 k) (.int .i64 n)).run Tryz.prog W = .ok (.slice (some ⟨W.heap.size, 0, none⟩) k n) (W.alloc O) := fun W => by
    have hr := run_make (P := Tryz.prog) W 119 2 i0 (.int .i64 0) Tryz.underlying119 hi0 hz0 .i64 .i64 (k : Int) (n : Int) (by omega) (by omega) (by rw [hb0]; omega) (by omega)
    simp only [Int.toNat_natCast, hs0, Nat.mul_one] at hr
    rw [hO]
    exact hr
  obtain ⟨wf, hwf⟩ : ∃ wf, wf = w.alloc (.cells #[.int .i64 k, .int .i64 n, .int .u32 e] 85) := ⟨_, rfl⟩
  have hM := LMem.made wf n 2 (fun i hi => by simp [madeCells, hi, Nat.mod_one])
  rw [← hO] at hM
  have hM0 := Lib.hid hM
  clear hM hi0 hz0 hs0 hb0
  replace hO := Lib.hid hO
  subst hwf
  go_enter Tryz.func92, Tryz.ntmps92
  go_wp2
  go_loopw [4, 13] (fun _ i wr => ∃ j : Nat, j ≤ k ∧ i = .int .i64 j ∧ LMem wr (w.heap.size + 1) n (List.range j) ∧ Below w.heap.size w wr) (fun _ i _ => k - (intOf i).toNat)
  case atStart =>
    have h := hM0.out
    simp only [World.size_alloc] at h
    exact ⟨0, by omega, rfl, h, by (repeat (first | exact Below.refl _ _ | assumption | refine bchain (by assumption) ?_ | refine balloc ?_ _ | apply Below.drew | apply below_drewN | (refine Below.alloc ?_ (by (try simp) <;> omega) _) | (refine Below.setCell ?_ (by (try simp) <;> omega) _)))⟩
  case round =>
    obtain ⟨j, hj, rfl, hM, hb⟩ := hrel
    by_cases hlt : j < k
    · obtain ⟨z, hz⟩ := hM.cells j (by omega)
      have hfz := hM.free j (by omega)
      have hp := hM.push (by simp; omega) j
      rw [List.length_range] at hp
      rw [← List.range_succ] at hp
      replace hp := Lib.hid hp
      replace hM := Lib.hid hM
      go_wp2
      go_roundw
      case rel => exact ⟨j + 1, by omega, by go_num, hp.out, hb.setCell (p := ⟨w.heap.size + 1, j, none⟩) (by show w.heap.size ≤ w.heap.size + 1; omega) _⟩
      case measure => simp [intOf]; omega
    · obtain rfl : j = k := by omega
      have hdd := decide_eq_false (show ¬ ((j : Int) < (j : Int)) by omega)
      replace hM := Lib.hid hM
      go_wp2
      go_ret
      exact ⟨_, rfl, by omega, hM.out, hb⟩

set_option maxHeartbeats 2000000 in
theorem tt_any (nn l Y Fb k n e : Nat) (x : List Nat) (v : Value) (hS : SlI w v (zl x)) (hn5 : n ≤ 5) (he : e < 4294967296) (hx : okList n n x = true) (hf : FC w Fb k n e) (hYl : Y < w.heap.size) (hy : w.cell? ⟨Y, 0, none⟩ = some (.func (.yield l) #[] #[])) (R : Bool → World → Prop)
    (hY : ∀ m W2, Below w.heap.size w W2 → YieldAt Fence.wide m Tryz.prog l #[.agg #[.int .i64 k, .int .i64 n, .int .u32 (onL e x : Nat)]] W2 fun e W' => ∃ b : Bool, e = .returned (.bool b) ∧ R b W') :
    CallsIn Fence.wide nn Tryz.prog 93 #[v, .pointer (some ⟨Y, 0, none⟩), .pointer (some ⟨Fb, 0, none⟩)] w fun e W' => ∃ b : Bool, e = .returned (.bool b) ∧ R b W' := by
  have hOn := Lib.hid (ionL_any w.drew v x n n e hS hn5 he hx)
  obtain ⟨y, hyy⟩ : ∃ y : Nat, onL e x = y := ⟨_, rfl⟩
  rw [hyy] at hOn hY
  replace hY := Lib.hid hY
  obtain ⟨q0, q1, q2, q3⟩ := hf
  clear hyy hS hx
  refine callsIn_of_wp Tryz.func93 rfl trivial ?_ rfl
  simp only [Tryz.ntmps93, List.size_toArray, List.length_cons, List.length_nil, Nat.reduceAdd, Nat.reduceSub, Array.replicate_succ, Array.replicate_zero, List.push_toArray, List.append_toArray, List.nil_append, List.cons_append]
  gi_wp2
  gi_region_with (first
    | (refine ⟨trivial, fun h => (by cases h), ?_⟩; gi_at_call 94; refine (callsIn_wide.2 hOn.out).mono ?_; rintro r3 w3 ⟨rfl, hb3⟩; obtain ⟨hc3, hz3⟩ := bkeep hb3 Fb q0; obtain ⟨hd3, hz4⟩ := bkeep hb3 Y hYl; obtain ⟨fn, tmps, assign, body, hy3, hR⟩ := hY.out (nn - 1) w3 (by (repeat (first | exact Below.refl _ _ | assumption | refine bchain (by assumption) ?_ | refine balloc ?_ _ | apply Below.drew | apply below_drewN | (refine Below.alloc ?_ (by (try simp) <;> omega) _) | (refine Below.setCell ?_ (by (try simp) <;> omega) _)))))
    | (refine ⟨fun h => (by cases h), hR.mono ?_⟩; rintro e4 w4 ⟨b4, rfl, hr4⟩))
  all_goals gi_wp2
  all_goals go_ret
  all_goals exact ⟨b4, rfl, hr4⟩
end
end Go.Proofs.YtiedombphcdpbaaGreatDoor
/-
  A FLAG WITH ITS UNLABELLED VERTICES IN EVERY ORDER: the walk of the program's iterator around its recursion.
-/
namespace Go.Proofs.YtiedombphcdpbaaGreatDoor
open Go.RowKit Go.Shelf
set_option maxRecDepth 100000

set_option maxHeartbeats 1000000 in
theorem turn1_any (k n e Fb l : Nat) (hkn : k ≤ n) (hn5 : n ≤ 5) (W : World) (hF : FC W Fb k n e) (Q : World → Prop) (hQ : ∀ w', Q w' → FC w' Fb k n e)
    (hcall : ∀ B W3, W.heap.size + 1 ≤ B → Below (W.alloc (.cells #[.func (.yield l) #[] #[]] 92)).heap.size (W.alloc (.cells #[.func (.yield l) #[] #[]] 92)) W3 → LMem W3 B n (List.range k) →
      Calls Tryz.prog 91 #[.int .i64 n, .int .i64 n, .slice (some ⟨B, 0, none⟩) k n, .func (.func 93) #[] #[.pointer (some ⟨W.heap.size, 0, none⟩), .pointer (some ⟨Fb, 0, none⟩)]] W3 fun e w' => ∃ b : Bool, e = .returned (.bool b) ∧ Q w') :
    Calls Tryz.prog 90 #[.func (.yield l) #[] #[], .pointer (some ⟨Fb, 0, none⟩)] W fun e w' => (∃ v, e = .returned v) ∧ Q w' := by
  have f2 : FC (W.alloc (.cells #[.func (.yield l) #[] #[]] 92)) Fb k n e := hF.below ((Below.refl _ W).alloc (Nat.le_refl _) _)
  obtain ⟨q0, q1, q2, q3⟩ := f2
  replace hcall := Lib.hid hcall
  clear hF
  replace hQ := Lib.hid hQ
  go_enter Tryz.func90, Tryz.ntmps90
  go_wp2
  go_region_held3 (fun A => A.cell? ⟨Fb, 0, none⟩ = some (.int .i64 k) ∧ A.cell? ⟨Fb, 1, none⟩ = some (.int .i64 n) ∧ A.cell? ⟨Fb, 2, none⟩ = some (.int .u32 e))
    (first | exact ⟨qf.c0, qf.c1, qf.c2⟩ | exact ⟨old_cell q0 q1 (by (repeat (first | exact Below.refl _ _ | assumption | refine bchain (by assumption) ?_ | refine balloc ?_ _ | apply Below.drew | apply below_drewN | (refine Below.alloc ?_ (by (try simp) <;> omega) _) | (refine Below.setCell ?_ (by (try simp) <;> omega) _)))), old_cell q0 q2 (by (repeat (first | exact Below.refl _ _ | assumption | refine bchain (by assumption) ?_ | refine balloc ?_ _ | apply Below.drew | apply below_drewN | (refine Below.alloc ?_ (by (try simp) <;> omega) _) | (refine Below.setCell ?_ (by (try simp) <;> omega) _)))), old_cell q0 q3 (by (repeat (first | exact Below.refl _ _ | assumption | refine bchain (by assumption) ?_ | refine balloc ?_ _ | apply Below.drew | apply below_drewN | (refine Below.alloc ?_ (by (try simp) <;> omega) _) | (refine Below.setCell ?_ (by (try simp) <;> omega) _))))⟩)
    (first
    | (go_at_call 92; refine (labels_any _ k n e hkn hn5).mono ?_; rintro r3 w3 ⟨B, rfl, hB3, hM3, hb3⟩; replace hM3 := Lib.hid hM3)
    | (go_at_call 91; refine (hcall.out _ _ (by have := hB3; simp at this; omega) (by (repeat (first | exact Below.refl _ _ | assumption | refine bchain (by assumption) ?_ | refine balloc ?_ _ | apply Below.drew | apply below_drewN | (refine Below.alloc ?_ (by (try simp) <;> omega) _) | (refine Below.setCell ?_ (by (try simp) <;> omega) _)))) hM3.out).mono ?_; rintro r4 w4 ⟨b4, rfl, hg4⟩; have qf := hQ.out w4 hg4))
  all_goals go_wp2
  all_goals go_end0
  all_goals exact ⟨⟨_, rfl⟩, hg4⟩
end Go.Proofs.YtiedombphcdpbaaGreatDoor
/-
  A FLAG WITH ITS UNLABELLED VERTICES IN EVERY ORDER: what the program's iterator yields.
-/
namespace Go.Proofs.YtiedombphcdpbaaGreatDoor
open Go.RowKit Go.Shelf
set_option maxRecDepth 100000
attribute [local go_sem] Oper.semAt_some

/-- what the iterator tells of its value -/
def SeeK (k n e : Nat) (x : List Nat) (v : Value) (_ : World) : Prop := v = .agg #[.int .i64 k, .int .i64 n, .int .u32 (onL e x : Nat)]
theorem SeeK.below (k n e : Nat) (x : List Nat) (v : Value) (A A' : World) (h : SeeK k n e x v A) (_ : Below A.heap.size A A') : SeeK k n e x v A' := h
theorem SeeK.cellular (k n e : Nat) (x : List Nat) (v : Value) : Cellular (SeeK k n e x v) := fun _ _ _ _ h _ _ => h
theorem yield_mono {F : Fence} {m : Nat} {P : Program} {l : Nat} {args : Array Value} {W : World} {R R' : Ending → World → Prop} (h : YieldAt F m P l args W R) (hR : ∀ e w, R e w → R' e w) : YieldAt F m P l args W R' := by
  obtain ⟨fn, tmps, assign, body, hy, hr⟩ := h
  exact ⟨fn, tmps, assign, body, hy, hr.mono hR⟩
theorem VK.nums {k n e : Nat} (h : VK k n e) : e < 1024 ∧ n ≤ 5 ∧ k ≤ 3 ∧ k ≤ n := by
  have h1 := h.1.2.2.2
  have h2 := eMax_le n
  have h3 := h.1.2.1
  have h4 := h.2.2.1
  have h5 := h.2.2.2
  simp at h1
  omega

set_option maxHeartbeats 4000000 in
theorem turns_sees (k n e : Nat) (h : VK k n e) (nn Fb : Nat) (w : World) :
    SeqSeesI Fence.wide nn Tryz.prog 90 #[.pointer (some ⟨Fb, 0, none⟩)] (fun A => FC A Fb k n e) (SeeK k n e) (turns n k) w := fun l J Jx W _ hJ _ hJi hJxi hY h0 => by
  obtain ⟨he, hn5, hk3, hkn⟩ := h.nums
  have f1 := hJi _ _ h0
  obtain ⟨Y, hYd⟩ : ∃ Y, Y = W.heap.size := ⟨_, rfl⟩
  obtain ⟨O, hO⟩ : ∃ O, O = Obj.cells #[.func (.yield l) #[] #[]] 92 := ⟨_, rfl⟩
  obtain ⟨J', hJ'd⟩ : ∃ J' : List (List Nat) → World → Prop, J' = fun pre A => J pre A ∧ A.cell? ⟨Y, 0, none⟩ = some (.func (.yield l) #[] #[]) ∧ Y < A.heap.size := ⟨_, rfl⟩
  have hJ' : Under (Y + 1) J' := by
    subst hJ'd
    rintro s A A' ⟨a1, a2, a3⟩ hb
    exact ⟨hJ _ _ _ a1 (hb.mono (by omega)), (hb.cell (p := ⟨Y, 0, none⟩) (by show Y < Y + 1; omega)).trans a2, Nat.lt_of_lt_of_le a3 hb.size⟩
  have hR : RoundsC Y Fb (turns n k) (Y + 1) J' Jx := by
    subst hJ'd
    rintro pre x rest v W1 hL ⟨a1, a2, a3⟩ hs
    have hx := turns_ok hn5 hk3 hkn (x := x) (by rw [hL]; simp)
    refine ((callsIn_wide (n := nn)).1 (tt_any W1 nn l Y Fb k n e x v hs hn5 (by omega) hx (hJi _ _ a1) a3 a2 (fun b W' => if b then J (pre ++ [x]) W' ∧ W'.cell? ⟨Y, 0, none⟩ = some (.func (.yield l) #[] #[]) ∧ Y < W'.heap.size ∧ Upper (Y + 1) W1 W' else Jx (pre ++ [x]) W') ?_)).mono ?_
    · intro m W2 hb2
      have hb3 : Below W.heap.size W1 W2 := hb2.mono (by omega)
      refine anyDepth (yield_mono (hY pre x rest _ W2 hL (hJ _ _ _ a1 hb3) rfl) ?_)
      rintro e' W' (⟨rfl, hj, hu⟩ | ⟨rfl, hx⟩)
      · have hz : Y < W2.heap.size := Nat.lt_of_lt_of_le a3 hb2.size
        have hc : W2.cell? ⟨Y, 0, none⟩ = some (.func (.yield l) #[] #[]) := (hb2.cell (p := ⟨Y, 0, none⟩) a3).trans a2
        exact ⟨true, rfl, hj, (World.cell?_of_block (a := ⟨Y, 0, none⟩) (hu.same Y (by omega) hz)).trans hc, Nat.lt_of_lt_of_le hz hu.size, (Upper.of_below hb2).trans (hu.mono (by omega))⟩
      · exact ⟨false, rfl, hx⟩
    · rintro e' W' ⟨b, rfl, hb⟩
      cases b
      · exact .inr ⟨rfl, hb⟩
      · exact .inl ⟨rfl, ⟨hb.1, hb.2.1, hb.2.2.1⟩, hb.2.2.2⟩
  have hcall := Lib.hid (fun B W3 (hB : Y + 1 ≤ B) (hj : J' [] W3) (hM : LMem W3 B n (List.range k)) => (llc_in n n B (Y + 1) Y Fb hn5 hn5 hB (turns n k) J' Jx hJ' hR (n - k) (List.range k) k [] [] W3 (by simp) (by omega) (by simp [turns]) hj hM).mono (R' := fun e w' => ∃ b : Bool, e = .returned (.bool b) ∧ (J (turns n k) w' ∨ ∃ q, Jx q w')) (by
    subst hJ'd
    rintro e w' (⟨h1, h2, _⟩ | ⟨h1, h2⟩)
    · exact ⟨_, h1, .inl h2.1⟩
    · exact ⟨_, h1, .inr h2⟩))
  have hj0 : J' [] (W.alloc O) := by
    subst hJ'd
    exact ⟨hJ _ _ _ h0 ((Below.refl _ W).alloc (Nat.le_refl _) _), by rw [hYd, hO, World.cell?_alloc_new]; rfl, by simp; omega⟩
  have hjw := fun W3 (hb : Below (W.alloc O).heap.size (W.alloc O) W3) => hJ' [] (W.alloc O) W3 hj0 (hb.mono (by simp; omega))
  refine callsIn_wide.2 (turn1_any k n e Fb l hkn hn5 W f1 (fun w' => J (turns n k) w' ∨ ∃ q, Jx q w') (fun w' hw => hw.elim (hJi _ _) (fun ⟨q, hq⟩ => hJxi q _ hq)) fun B W3 hB hb hM => ?_)
  rw [← hO] at hb
  rw [← hYd] at hB ⊢
  exact hcall.out B W3 hB (hjw W3 hb) hM
end Go.Proofs.YtiedombphcdpbaaGreatDoor
/-
  THE LEAST FLAG THAT IS ALIKE: the program's contract.
-/
namespace Go.Proofs.YtiedombphcdpbaaGreatDoor
open Go.RowKit Go.Shelf
set_option maxRecDepth 100000
attribute [local go_sem] Oper.semAt_some

/-- the edges of the least flag that is alike -/
def leastK (n k e : Nat) : Nat := minE e (turns n k)
/-- the boxes of a walk for the least flag: the result's and the least one's -/
structure PK (W : World) (G : Nat) (k n acc : Int) : Prop where
  r : FC W (G + 1) 0 0 0
  p : FC W (G + 2) k n acc
  fr : ∀ i, W.frozen? ⟨G + 1, i, none⟩ = false
  fp : ∀ i, W.frozen? ⟨G + 2, i, none⟩ = false
theorem PK.block {W W' : World} {G : Nat} {k n acc : Int} (h : PK W G k n acc) (hz : W.heap.size ≤ W'.heap.size) (h1 : W'.heap[G + 1]? = W.heap[G + 1]?) (h2 : W'.heap[G + 2]? = W.heap[G + 2]?) : PK W' G k n acc :=
  ⟨h.r.block hz h1, h.p.block hz h2, fun i => (World.frozen?_of_block (a := ⟨G + 1, i, none⟩) h1).trans (h.fr i), fun i => (World.frozen?_of_block (a := ⟨G + 2, i, none⟩) h2).trans (h.fp i)⟩
theorem PK.under {W W' : World} {G B : Nat} {k n acc : Int} (h : PK W G k n acc) (hb : Below B W W') (hB : G + 2 < B) : PK W' G k n acc := h.block hb.size (hb.block _ (by omega)) (hb.block _ hB)
theorem PK.set {W : World} {G : Nat} {k n acc : Int} (h : PK W G k n acc) (x : Int) : PK (W.setCell ⟨G + 2, 2, none⟩ (.int .u32 x)) G k n x where
  r := h.r.other _ (by show G + 2 ≠ G + 1; omega)
  p := ⟨by have := h.p.lt; simpa using this, (World.cell?_setCell_other _ _ _ _ (by simp)).trans h.p.c0, (World.cell?_setCell_other _ _ _ _ (by simp)).trans h.p.c1, World.cell?_setCell_same _ _ _ h.p.c2⟩
  fr := fun i => by rw [World.frozen?_setCell]; exact h.fr i
  fp := fun i => by rw [World.frozen?_setCell]; exact h.fp i
theorem PK.begin (w : World) (k n e : Int) (c : Int) (l acc : Int) (t : TypeId) : PK (((w.alloc (.cells #[.int .i64 k, .int .i64 n, .int .u32 e] t)).alloc (.cells #[.int .i64 0, .int .i64 0, .int .u32 0] t)).alloc (.cells #[.int .i64 c, .int .i64 l, .int .u32 acc] t)) w.heap.size c l acc := by
  have s1 : ∀ (W : World) (o : Obj), (W.alloc o).heap.size = W.heap.size + 1 := fun W o => by simp
  have hr := (FC.made (w.alloc (.cells #[.int .i64 k, .int .i64 n, .int .u32 e] t)) 0 0 0 t).below ((Below.refl _ _).alloc (Nat.le_refl _) (.cells #[.int .i64 c, .int .i64 l, .int .u32 acc] t))
  have hp := FC.made ((w.alloc (.cells #[.int .i64 k, .int .i64 n, .int .u32 e] t)).alloc (.cells #[.int .i64 0, .int .i64 0, .int .u32 0] t)) c l acc t
  rw [s1] at hr
  rw [s1, s1] at hp
  refine ⟨hr, hp, fun i => ?_, fun i => ?_⟩
  · rw [fOld _ _ _ _ (by rw [s1, s1]; omega), fNew _ _ _ _ _ (by rw [s1])]
  · rw [fNew _ _ _ _ _ (by rw [s1, s1])]
theorem FC.cellular (B : Nat) (k n e : Int) : Cellular (fun W => FC W B k n e) := fun A l o o' h hl ho =>
  ⟨by have := h.lt; simpa [World.putObj] using this, cellular_cell _ _ A l o o' h.c0 hl ho, cellular_cell _ _ A l o o' h.c1 hl ho, cellular_cell _ _ A l o o' h.c2 hl ho⟩
section
variable (w : World)
set_option maxHeartbeats 4000000 in
theorem leastK_any (k n e : Nat) (h : VK k n e) :
    Calls Tryz.prog 58 #[.agg #[.int .i64 k, .int .i64 n, .int .u32 e]] w fun r w' => r = .returned (.agg #[.int .i64 k, .int .i64 n, .int .u32 (leastK n k e : Nat)]) ∧ Below w.heap.size w w' := by
  obtain ⟨he, hn5, hk3, hkn⟩ := h.nums
  refine (callsIn_wide (n := 5)).1 ?_
  refine callsIn_of_wp_marks Tryz.func58 rfl trivial ?_ rfl
  simp only [Tryz.ntmps58, List.size_toArray, List.length_cons, List.length_nil, Nat.reduceAdd, Nat.reduceSub, Array.replicate_succ, Array.replicate_zero, List.push_toArray, List.append_toArray, List.nil_append, List.cons_append]
  gi_wp2_with (refine ⟨trivial, ?_⟩; gi_at_call 79; refine (callsIn_wide.2 (to_any _ k n e)).mono ?_; rintro r1 w1 ⟨B, rfl, hBge, hFB, hb1⟩)
  have hP := (PK.begin w k n e k n e 85).under hb1 (by simp)
  have hB1 : Below w.heap.size w w1 := by (repeat (first | exact Below.refl _ _ | assumption | refine bchain (by assumption) ?_ | refine balloc ?_ _ | apply Below.drew | apply below_drewN | (refine Below.alloc ?_ (by (try simp) <;> omega) _) | (refine Below.setCell ?_ (by (try simp) <;> omega) _)))
  have e3 : (((w.alloc (.cells #[.int .i64 (k : Int), .int .i64 (n : Int), .int .u32 (e : Int)] 85)).alloc (.cells #[.int .i64 0, .int .i64 0, .int .u32 0] 85)).alloc (.cells #[.int .i64 (k : Int), .int .i64 (n : Int), .int .u32 (e : Int)] 85)).heap.size = w.heap.size + 3 := by simp
  rw [e3] at hBge
  clear e3 hb1
  obtain ⟨G, hG⟩ : ∃ G, w.heap.size = G := ⟨_, rfl⟩
  rw [hG] at hP hB1 hBge ⊢
  have hBl := hFB.lt
  refine wpIn_range_seesI rfl (by omega) (gf := 90) (lb := #[.pointer (some ⟨B, 0, none⟩)]) rfl trivial (enters_of Tryz.func90 (by kernel_rfl) rfl)
    (turns_sees k n e h 4 B w1) (Below.refl _ _) rfl (SeeK.below k n e) (SeeK.cellular k n e)
    (fun pre W => PK W G k n (minE e pre : Nat) ∧ FC W B k n e ∧ Below G w W)
    (fun _ _ _ => False)
    (fun s A hs => hs.2.1) (fun _ _ _ h => h.elim)
    (fun s A A' hs hb => ⟨hs.1.under hb (by omega), hs.2.1.under hb hBl, hs.2.2.trans (hb.mono (by omega))⟩)
    (fun _ _ _ _ hs _ => hs)
    ⟨hP, hFB, hB1⟩
    (fun v a' W => ∃ Gb y : Nat, v = .agg #[.int .i64 k, .int .i64 n, .int .u32 y] ∧ FC W Gb k n y ∧ a' = { tmps := #[.agg #[.int .i64 k, .int .i64 n, .int .u32 e], .pointer (some ⟨G, 0, none⟩), .pointer (some ⟨G + 1, 0, none⟩), .pointer (some ⟨G + 1 + 1, 0, none⟩), .pointer (some ⟨Gb, 0, none⟩), .agg #[.int .i64 k, .int .i64 n, .int .u32 e], .agg #[.int .i64 k, .int .i64 n, .int .u32 e],
      .func (.func 90) #[] #[.pointer (some ⟨B, 0, none⟩)], v, undef, undef, undef, undef, undef, undef, undef, undef, undef, undef], defers := [] })
    (fun v a' A l o o' h hl ho => by obtain ⟨Gb, y, h1, h2, h3⟩ := h; exact ⟨Gb, y, h1, FC.cellular Gb k n y A l o o' h2 hl ho, h3⟩) ?assign ?body ?done ?stop
  case assign =>
    intro l x v W K hv hK
    obtain rfl : v = _ := hv
    gi_wp2
    exact hK _ _ ((Below.refl _ _).alloc (Nat.le_refl _) _) ⟨W.heap.size, onL e x, rfl, FC.made W k n _ _, rfl⟩
  case body =>
    clear hP
    rintro l pre x rest v a' W hl _ hL ⟨hP, hFB, hB⟩ hS ⟨Gb, y, hv, hFG, rfl⟩
    have hy : onL e x = y := by
      have hS' : v = _ := hS
      rw [hv] at hS'
      simp at hS'
      omega
    have hnx := minE_snoc e pre x
    rw [hy] at hnx
    obtain ⟨z, hz⟩ : ∃ z : Nat, minE e pre = z := ⟨_, rfl⟩
    rw [hz] at hP hnx
    have hfin : ∀ f : Int, f = (min z y : Nat) → Upper w1.heap.size W (W.setCell ⟨G + 1 + 1, 2, none⟩ (.int .u32 f)) ∧ (PK (W.setCell ⟨G + 1 + 1, 2, none⟩ (.int .u32 f)) G k n (minE e (pre ++ [x]) : Nat) ∧ FC (W.setCell ⟨G + 1 + 1, 2, none⟩ (.int .u32 f)) B k n e ∧ Below G w (W.setCell ⟨G + 1 + 1, 2, none⟩ (.int .u32 f))) := fun f hf => by
      refine ⟨Upper.setCell _ _ _ (by show G + 2 < _; omega), ?_, hFB.other _ (by show G + 2 ≠ B; omega), hB.setCell (p := ⟨G + 2, 2, none⟩) (by show G ≤ G + 2; omega) _⟩
      rw [hnx, ← hf]
      exact hP.set f
    replace hfin := Lib.hid hfin
    obtain ⟨p0, p1, p2, p3⟩ := hP.p
    have pf := hP.fp 2
    obtain ⟨g0, g1, g2, g3⟩ := hFG
    clear hP hnx hS hv hFB hL hB1 hy hz
    gi_wp2
    all_goals exact hfin.out _ (by rw [Nat.min_def]; split <;> omega)
  case done =>
    rintro D W hD ⟨hP, hFB, hB⟩ hK
    obtain ⟨y, hy⟩ : ∃ y : Nat, leastK n k e = y := ⟨_, rfl⟩
    rw [show minE e (turns n k) = y from hy] at hP
    obtain ⟨p0, p1, p2, p3⟩ := hP.p
    have pf0 := hP.fr 0
    have pf1 := hP.fr 1
    have pf2 := hP.fr 2
    obtain ⟨r0, r1, r2, r3⟩ := hP.r
    have hr := hP.r.put k n y
    replace hy := Lib.hid hy
    clear hP hFB
    gi_wp2
    have hK' := (KeepsOthers.setCell ((W.setCell ⟨G + 1, 0, none⟩ (.int .i64 k)).setCell ⟨G + 1, 1, none⟩ (.int .i64 n)) ⟨G + 1, 2, none⟩ (.int .u32 y)).same D _ ((KeepsOthers.setCell (W.setCell ⟨G + 1, 0, none⟩ (.int .i64 k)) ⟨G + 1, 1, none⟩ (.int .i64 n)).same D _ ((KeepsOthers.setCell W ⟨G + 1, 0, none⟩ (.int .i64 k)).same D _ hK rfl) rfl) rfl
    have hB3 := ((hB.setCell (p := ⟨G + 1, 0, none⟩) (by show G ≤ G + 1; omega) (.int .i64 k)).setCell (p := ⟨G + 1, 1, none⟩) (by show G ≤ G + 1; omega) (.int .i64 n)).setCell (p := ⟨G + 1, 2, none⟩) (by show G ≤ G + 1; omega) (.int .u32 y)
    obtain ⟨W3, hW3⟩ : ∃ W3, W3 = ((W.setCell ⟨G + 1, 0, none⟩ (.int .i64 k)).setCell ⟨G + 1, 1, none⟩ (.int .i64 n)).setCell ⟨G + 1, 2, none⟩ (.int .u32 y) := ⟨_, rfl⟩
    rw [← hW3] at hK' hB3 hr ⊢
    clear hW3 hK hB p0 p1 p2 p3 r0 r1 r2 r3 pf0 pf1 pf2
    refine ⟨by simp, .inl ⟨_, _, rfl, run_takeDeferred hK', ?_⟩⟩
    obtain ⟨_, c0, c1, c2⟩ := FC.cellular (G + 1) k n y W3 D _ (.deferred none) hr hK' rfl
    refine ⟨.agg #[.int .i64 k, .int .i64 n, .int .u32 y], by simp [results, Tryz.results58, go_sem, c0, c1, c2], by rw [hy.out], ?_⟩
    rw [hG]
    exact hB3.trans (below_putObj _ _ _ (by omega))
  case stop =>
    rintro D c pre W _ h _
    exact h.elim
end
end Go.Proofs.YtiedombphcdpbaaGreatDoor
/-
  THE MODEL'S ORDER OF A FLAG'S VERTICES: the labelled ones as they are, the others in an order of their own.
-/
namespace Go.Proofs.YtiedombphcdpbaaGreatDoor
open Go.RowKit Go.Shelf
set_option maxRecDepth 100000

/-- the first k vertices, then those of y -/
def ordK (k : Nat) (y : List Nat) : List Nat := List.range k ++ y.map fun v => k + v
def rowK (k : Nat) (y : List Nat) (j : Nat) : List Value := ((List.range k).map fun i => .int .i64 ((i : Nat) : Int)) ++ (List.range j).map fun i => .int .i64 ((k : Int) + (y[i]?.getD 0 : Nat))
theorem rowK_succ (k : Nat) (y : List Nat) (j : Nat) : rowK k y (j + 1) = rowK k y j ++ [.int .i64 ((k : Int) + (y[j]?.getD 0 : Nat))] := by
  simp [rowK, List.range_succ, List.append_assoc]
theorem rowK_zero (k : Nat) (y : List Nat) : rowK k y 0 = (List.range k).map fun i => .int .i64 ((i : Nat) : Int) := by simp [rowK]
theorem rowK_end (k : Nat) (y : List Nat) : rowK k y y.length = (List.range (k + y.length)).map fun i => .int .i64 (lf (ordK k y) i) := by
  apply List.ext_getElem
  · simp [rowK]
  · intro i h1 h2
    simp [rowK] at h1
    rcases Nat.lt_or_ge i k with h | h
    · simp only [rowK, lf, ordK]
      rw [List.getElem_append_left (by simpa using h), List.getElem_map, List.getElem_map, List.getElem_range, List.getElem_range, List.getElem?_append_left (by simpa using h), List.getElem?_range h]
      rfl
    · simp only [rowK, lf, ordK]
      rw [List.getElem_append_right (by simpa using h), List.getElem_map, List.getElem_map, List.getElem_range, List.getElem_range, List.getElem?_append_right (by simpa using h)]
      simp only [List.length_map, List.length_range, List.getElem?_map]
      rw [List.getElem?_eq_getElem (by omega)]
      simp
section
variable (w : World)
set_option maxHeartbeats 1000000 in
theorem first_row (n : Nat) (hn : n ≤ 5) :
    Calls Tryz.prog 71 #[.int .i64 n] w fun r w' => (∃ v, r = .returned v ∧ Hid (w'.ownsRow w.heap.size 2 1 v n ((List.range n).map fun i => .int .i64 ((i : Nat) : Int)))) ∧ Below w.heap.size w w' := by
  obtain ⟨i0, hi, hz0, hz1, hz2⟩ := info_parts info_i64
  replace hi := Lib.hid hi
  replace hz0 := Lib.hid hz0
  replace hz1 := Lib.hid hz1
  replace hz2 := Lib.hid hz2
  go_enter Tryz.func71, Tryz.ntmps71
  go_wp2
  go_loopw [3, 4] (fun v i wr => ∃ j : Nat, j ≤ n ∧ i = .int .i64 j ∧ Hid (wr.ownsRow w.heap.size 2 1 v j ((List.range j).map fun i => .int .i64 ((i : Nat) : Int))) ∧ Below w.heap.size w wr) (fun _ i _ => n - (intOf i).toNat)
  case atStart => exact ⟨0, by omega, rfl, World.ownsRow_made w #[] 0 (Nat.le_refl _) (by omega) rfl, by (repeat (first | exact Below.refl _ _ | assumption | refine bchain (by assumption) ?_ | refine balloc ?_ _ | apply Below.drew | apply below_drewN | (refine Below.alloc ?_ (by (try simp) <;> omega) _) | (refine Below.setCell ?_ (by (try simp) <;> omega) _)))⟩
  case round =>
    obtain ⟨j, hj, rfl, hown, hb⟩ := hrel
    by_cases hlt : j < n
    · have hge := hb.size
      go_wp2_with (at_builtin; refine wpList_append_own _ rfl _ _ 119 rfl w.heap.size 2 i0 (.int .i64 0) 1 8 Tryz.underlying119 hi.out hz0.out hz1.out hz2.out rfl (by decide) _ _ _ rfl (hown.out.alloc _) ⟨wr.heap.size, 0, none⟩ 1 1 [.int .i64 j] rfl rfl (fun q u hq => by cases q with | zero => simp at hq; subst hq; rw [show (⟨wr.heap.size, 0, none⟩ : Addr).add 0 = ⟨wr.heap.size, 0, none⟩ from rfl, World.cell?_alloc_new]; rfl | succ q => simp at hq) (fun u hu => by simp at hu; subst hu; rfl) (by unfold maxLen; omega) (by omega) (by simp; omega) ?_; intro v' w1 hown' hgrow _)
      have hown2 : Hid (w1.ownsRow w.heap.size 2 1 v' (j + 1) ((List.range (j + 1)).map fun i => .int .i64 ((i : Nat) : Int))) := by
        show w1.ownsRow w.heap.size 2 1 v' (j + 1) _
        rw [List.range_succ, List.map_append]
        exact hown'
      have hb2 : Below w.heap.size w w1 := (hb.alloc hge _).grown hgrow (by simp; omega) (fun k hk => (hown.out.lt k hk).1)
      clear hown' hgrow hown
      go_wp2
      go_roundw
      case rel => exact ⟨j + 1, by omega, by go_num, hown2, hb2⟩
      case measure => simp [intOf]; omega
    · obtain rfl : j = n := by omega
      have hdd := decide_eq_false (show ¬ ((j : Int) < (j : Int)) by omega)
      go_wp2
      go_ret
      exact ⟨⟨_, rfl, hown⟩, hb⟩

set_option maxHeartbeats 2000000 in
theorem order_any (k m : Nat) (y : List Nat) (v : Value) (hS : See y v w) (hy : y.length = m) (hk : k ≤ 5) (hm : m ≤ 5) (hlt5 : ∀ i, i < m → y[i]?.getD 0 ≤ 5) :
    Calls Tryz.prog 74 #[.int .i64 k, v] w fun r w' => (∃ v, r = .returned v ∧ OwnI w w' v (k + m) (lf (ordK k y))) ∧ Below w.heap.size w w' := by
  obtain ⟨i0, hi, hz0, hz1, hz2⟩ := info_parts info_i64
  obtain ⟨a, cap, rfl, h1, h2, h3⟩ := hS
  rw [zl_length, hy]
  have hc : ∀ i, i < m → ∃ b off, a = some ⟨b, off, none⟩ ∧ b < w.heap.size ∧ w.cell? ⟨b, off + i, none⟩ = some (.int .i64 (y[i]?.getD 0 : Nat)) := fun i him => by
    obtain ⟨b, off, e, hb, hc⟩ := h3 (by intro c; rw [← List.length_eq_zero_iff, zl_length] at c; omega)
    exact ⟨b, off, e, hb, by rw [hc i (by rw [zl_length]; omega), zl_get]⟩
  have hrow := rowK_end k y
  rw [hy] at hrow
  replace hrow := Lib.hid hrow
  replace hc := Lib.hid hc
  replace hi := Lib.hid hi
  replace hz0 := Lib.hid hz0
  replace hz1 := Lib.hid hz1
  replace hz2 := Lib.hid hz2
  replace hlt5 := Lib.hid hlt5
  clear h1 h2 h3 hy
  go_enter Tryz.func74, Tryz.ntmps74
  go_wp2_with (go_at_call 71; refine (first_row _ k hk).mono ?_; rintro r1 w1 ⟨⟨v1, rfl, hown0⟩, hb1⟩)
  go_loopw [5, 6] (fun v i wr => ∃ j : Nat, j ≤ m ∧ i = .int .i64 j ∧ Hid (wr.ownsRow w.heap.size 2 1 v (k + j) (rowK k y j)) ∧ Below w.heap.size w wr) (fun _ i _ => m - (intOf i).toNat)
  case atStart => exact ⟨0, by omega, rfl, by rw [rowK_zero]; exact hown0, by (repeat (first | exact Below.refl _ _ | assumption | refine bchain (by assumption) ?_ | refine balloc ?_ _ | apply Below.drew | apply below_drewN | (refine Below.alloc ?_ (by (try simp) <;> omega) _) | (refine Below.setCell ?_ (by (try simp) <;> omega) _)))⟩
  case round =>
    obtain ⟨j, hj, rfl, hown, hb⟩ := hrel
    by_cases hlt : j < m
    · have hge := hb.size
      obtain ⟨b, off, rfl, hbl, hcell⟩ := hc.out j hlt
      have hcw := (hb.cell (p := ⟨b, off + j, none⟩) hbl).trans hcell
      have hyl := hlt5.out j hlt
      have hsc := Lib.hid (rowK_succ k y j)
      obtain ⟨z, hz⟩ : ∃ z : Nat, y[j]?.getD 0 = z := ⟨_, rfl⟩
      rw [hz] at hcw hyl hsc
      clear hz hcell
      go_wp2_with (at_builtin; refine wpList_append_own _ rfl _ _ 119 rfl w.heap.size 2 i0 (.int .i64 0) 1 8 Tryz.underlying119 hi.out hz0.out hz1.out hz2.out rfl (by decide) _ _ _ rfl (hown.out.alloc _) ⟨wr.heap.size, 0, none⟩ 1 1 [.int .i64 ((k : Int) + z)] rfl rfl (fun q u hq => by cases q with | zero => simp at hq; subst hq; rw [show (⟨wr.heap.size, 0, none⟩ : Addr).add 0 = ⟨wr.heap.size, 0, none⟩ from rfl, World.cell?_alloc_new]; rfl | succ q => simp at hq) (fun u hu => by simp at hu; subst hu; rfl) (by unfold maxLen; omega) (by omega) (by simp; omega) ?_; intro v' w2 hown' hgrow _)
      have hown2 : Hid (w2.ownsRow w.heap.size 2 1 v' (k + (j + 1)) (rowK k y (j + 1))) := by
        show w2.ownsRow w.heap.size 2 1 v' (k + (j + 1)) _
        rw [hsc.out]
        exact hown'
      have hb2 : Below w.heap.size w w2 := (hb.alloc hge _).grown hgrow (by simp; omega) (fun k hk => (hown.out.lt k hk).1)
      clear hown' hgrow hown
      go_wp2
      go_roundw
      case rel => exact ⟨j + 1, by omega, by go_num, hown2, hb2⟩
      case measure => simp [intOf]; omega
    · obtain rfl : j = m := by omega
      have hdd := decide_eq_false (show ¬ ((j : Int) < (j : Int)) by omega)
      go_wp2
      go_ret
      refine ⟨⟨_, rfl, own_of_row (by rw [← hrow.out]; exact hown.out)⟩, hb⟩
end
end Go.Proofs.YtiedombphcdpbaaGreatDoor
/-
  THE LEAST FLAG THAT IS ALIKE: the model's contract.
-/
namespace Go.Proofs.YtiedombphcdpbaaGreatDoor
open Go.RowKit Go.Shelf
set_option maxRecDepth 100000

/-- all old blocks behind a call that only makes new ones: as rules for 'simp' -/
theorem keepAll {W W1 : World} (hb : Below W.heap.size W W1) (b o : Nat) (h : b < W.heap.size) : W1.cell? ⟨b, o, none⟩ = W.cell? ⟨b, o, none⟩ := (bkeep hb b h).1 o
theorem keepFz {W W1 : World} (hb : Below W.heap.size W W1) (b o : Nat) (h : b < W.heap.size) : W1.frozen? ⟨b, o, none⟩ = W.frozen? ⟨b, o, none⟩ := bkeepz hb b h o
theorem keepLt {W W1 : World} (hb : Below W.heap.size W W1) (b : Nat) (h : b < W.heap.size) : b < W1.heap.size := (bkeep hb b h).2
theorem turns_map : ∀ n, n ≤ 5 → ∀ k, k ≤ 3 → k ≤ n → turns n k = (lists (n - k) (n - k)).map (ordK k) := by decide +kernel
theorem PK.put {W : World} {G : Nat} {k n acc : Int} (h : PK W G k n acc) (x : Int) : PK ((W.setCell ⟨G + 2, 1, none⟩ (.int .i64 n)).setCell ⟨G + 2, 2, none⟩ (.int .u32 x)) G k n x where
  r := (h.r.other _ (by show G + 2 ≠ G + 1; omega)).other _ (by show G + 2 ≠ G + 1; omega)
  p := ⟨by have := h.p.lt; simpa using this, (World.cell?_setCell_other _ _ _ _ (by simp)).trans ((World.cell?_setCell_other _ _ _ _ (by simp)).trans h.p.c0), (World.cell?_setCell_other _ _ _ _ (by simp)).trans (World.cell?_setCell_same _ _ _ h.p.c1),
    World.cell?_setCell_same _ _ _ ((World.cell?_setCell_other _ _ _ _ (by simp)).trans h.p.c2)⟩
  fr := fun i => by rw [World.frozen?_setCell, World.frozen?_setCell]; exact h.fr i
  fp := fun i => by rw [World.frozen?_setCell, World.frozen?_setCell]; exact h.fp i

set_option maxHeartbeats 4000000 in
theorem sleastK_any (w : World) (k n e : Nat) (h : VK k n e) :
    Calls Tryz.prog 47 #[.agg #[.int .i64 k, .int .i64 n, .int .u32 e]] w fun r w' => r = .returned (.agg #[.int .i64 k, .int .i64 n, .int .u32 (leastK n k e : Nat)]) ∧ Below w.heap.size w w' := by
  obtain ⟨he, hn5, hk3, hkn⟩ := h.nums
  obtain ⟨m, hm⟩ : ∃ m, n - k = m := ⟨_, rfl⟩
  have hsub : ((n : Int) - (k : Int)) = (m : Int) := by omega
  go_enter Tryz.func47, Tryz.ntmps47
  go_wp2_with fail
  refine (first_any _ m (by omega)).mono ?_
  rintro r1 w1 ⟨⟨v, rfl, hO⟩, hb1⟩
  have hP := PK.begin w k n e k n e 85
  have s1 : ∀ (W : World) (o : Obj), (W.alloc o).heap.size = W.heap.size + 1 := fun W o => by simp
  have hF0 := ((FC.made w k n e 85).below ((Below.refl _ _).alloc (Nat.le_refl _) (.cells #[.int .i64 0, .int .i64 0, .int .u32 0] 85))).below ((Below.refl _ _).alloc (Nat.le_refl _) (.cells #[.int .i64 (k : Int), .int .i64 (n : Int), .int .u32 (e : Int)] 85))
  have hB0 : Below w.heap.size w (((w.alloc (.cells #[.int .i64 (k : Int), .int .i64 (n : Int), .int .u32 (e : Int)] 85)).alloc (.cells #[.int .i64 0, .int .i64 0, .int .u32 0] 85)).alloc (.cells #[.int .i64 (k : Int), .int .i64 (n : Int), .int .u32 (e : Int)] 85)) := by (repeat (first | exact Below.refl _ _ | assumption | refine bchain (by assumption) ?_ | refine balloc ?_ _ | apply Below.drew | apply below_drewN | (refine Below.alloc ?_ (by (try simp) <;> omega) _) | (refine Below.setCell ?_ (by (try simp) <;> omega) _)))
  obtain ⟨G, hG⟩ : ∃ G, w.heap.size = G := ⟨_, rfl⟩
  rw [hG] at hP hB0 hF0
  obtain ⟨w0, hw0⟩ : ∃ w0, w0 = (((w.alloc (.cells #[.int .i64 (k : Int), .int .i64 (n : Int), .int .u32 (e : Int)] 85)).alloc (.cells #[.int .i64 0, .int .i64 0, .int .u32 0] 85)).alloc (.cells #[.int .i64 (k : Int), .int .i64 (n : Int), .int .u32 (e : Int)] 85)) := ⟨_, rfl⟩
  rw [← hw0] at hP hO hb1 hB0 hF0
  have hGz : G + 2 < w0.heap.size := hP.p.lt
  have hP1 := Lib.hid (hP.under hb1 hGz)
  have hF1 := Lib.hid (hF0.below hb1)
  have hB1 := Lib.hid (hB0.trans (hb1.mono (by omega)))
  replace hO := Lib.hid (hO.congr (fun i hi => lf_range m i hi))
  have hlm : (lists m m).length = (lists m m).length := rfl
  have hend0 : minE e ((lists m m).map (ordK k)) = leastK n k e := by unfold leastK; rw [turns_map n hn5 k hk3 hkn, hm]
  have hokm : ∀ y ∈ lists m m, okList n n (ordK k y) = true := fun y hy => turns_ok hn5 hk3 hkn (by rw [turns_map n hn5 k hk3 hkn, hm]; exact List.mem_map_of_mem hy)
  rw [hG]
  clear hw0 hP hb1 hB0 hF0 s1 hlm
  replace hG := Lib.hid hG
  replace hend0 := Lib.hid hend0
  replace hokm := Lib.hid hokm
  have hm5 : m ≤ 5 := by omega
  replace hm := Lib.hid hm
  replace h := Lib.hid h
  obtain ⟨T, hT⟩ : ∃ T : List (List Nat) → World → Prop, T = fun pre W => PK W G k n (minE e (pre.map (ordK k)) : Nat) ∧ FC W G k n e ∧ Below G w W := ⟨_, rfl⟩
  go_wp2_with fail
  go_loopg [5] ((lists m m).length) (fun c s wr => SlHead w0 v m m T c s wr)
  case atStart =>
    have hf := lists_first m hm5 m (Nat.le_refl _)
    refine .inl ⟨0, _, (List.getElem?_eq_some_iff.1 hf).1, by omega, rfl, hf, hO.out, ?_⟩
    rw [hT]
    exact ⟨hP1.out, hF1.out, hB1.out⟩
  case round =>
    rcases hrel with ⟨j, x, hj, hc, rfl, hx, hOx, hTx⟩ | ⟨hc, rfl, hTx⟩
    · have hTx' := hTx
      rw [hT] at hTx'
      obtain ⟨hPx, hFx, hBx⟩ := hTx'
      have hokx := lists_ok hm5 hm5 (x := x) (List.mem_of_getElem? hx)
      have hok := hokm.out x (List.mem_of_getElem? hx)
      have hst := lists_step hm5 (Nat.le_refl _) hj hx
      have hxm := ok_length hokx
      have hOr := Lib.hid (fun W (hW : Below wr.heap.size wr W) => order_any W k m x v ((hOx.below hW).see hxm) hxm (by omega) hm5 (fun i hi => by have := ok_lt hokx hi; omega))
      have hOn := Lib.hid (fun W u (hs : See (ordK k x) u W) => sonL_any W u (ordK k x) n n e hs hn5 (by omega) hok)
      have hol : (ordK k x).length = k + m := by simp [ordK, hxm]
      have hle := minE_le e (((lists m m).take j).map (ordK k))
      have hyl := onL_lt e (ordK k x) (by rw [ok_length hok]; exact hn5)
      have hnx : minE e (((lists m m).take (j + 1)).map (ordK k)) = min (minE e (((lists m m).take j).map (ordK k))) (onL e (ordK k x)) := by rw [take_snoc' hx, List.map_append, List.map_cons, List.map_nil, minE_snoc]
      obtain ⟨y, hy⟩ : ∃ y, onL e (ordK k x) = y := ⟨_, rfl⟩
      obtain ⟨z, hz⟩ : ∃ z, minE e (((lists m m).take j).map (ordK k)) = z := ⟨_, rfl⟩
      rw [hy] at hOn hnx hyl
      rw [hz] at hPx hnx hle
      clear hy hz hTx
      obtain ⟨f0, f1, f2, f3⟩ := id hFx
      obtain ⟨p0, p1, p2, p3⟩ := hPx.p
      have pf1 := hPx.fp 1
      have pf2 := hPx.fp 2
      replace hx := Lib.hid hx
      replace hst := Lib.hid hst
      replace hnx := Lib.hid hnx
      replace hPx := Lib.hid hPx
      replace hFx := Lib.hid hFx
      replace hOx := Lib.hid hOx
      replace hc := Lib.hid hc
      replace hok := Lib.hid hok
      replace hokx := Lib.hid hokx
      replace hol := Lib.hid hol
      replace hxm := Lib.hid hxm
      replace hB1 : Below G w w1 := hB1.out
      go_wp2_with fail
      go_cut [6] from 15 to 38 (fun s6 wx => ∃ A : Nat, s6 = .pointer (some ⟨A, 0, none⟩) ∧ wr.heap.size ≤ A ∧ A < wx.heap.size ∧ wx.cell? ⟨A, 0, none⟩ = some (.int .i64 n) ∧ wx.cell? ⟨A, 1, none⟩ = some (.int .u32 y) ∧ Below wr.heap.size wr wx)
      case first =>
        have hA0 : ∀ (c : Array Value) (t : TypeId) (i : Nat), (wr.drew.alloc (.cells c t)).cell? ⟨wr.heap.size, i, none⟩ = c[i]? := fun c t i => World.cell?_alloc_new wr.drew c t i
        have hF0 : ∀ (c : Array Value) (t : TypeId) (i : Nat), (wr.drew.alloc (.cells c t)).frozen? ⟨wr.heap.size, i, none⟩ = false := fun c t i => by
          have := (show ∀ W : World, (W.alloc (.cells c t)).frozen? ⟨W.heap.size, i, none⟩ = false from fun W => by simp) wr.drew
          exact this
        go_region_held3 (fun A => A.cell? ⟨G, 0, none⟩ = some (.int .i64 k) ∧ A.cell? ⟨G, 1, none⟩ = some (.int .i64 n) ∧ A.cell? ⟨G, 2, none⟩ = some (.int .u32 e))
          (exact ⟨old_cell f0 f1 (by (repeat (first | exact Below.refl _ _ | assumption | refine bchain (by assumption) ?_ | refine balloc ?_ _ | apply Below.drew | apply below_drewN | (refine Below.alloc ?_ (by (try simp) <;> omega) _) | (refine Below.setCell ?_ (by (try simp) <;> omega) _)))), old_cell f0 f2 (by (repeat (first | exact Below.refl _ _ | assumption | refine bchain (by assumption) ?_ | refine balloc ?_ _ | apply Below.drew | apply below_drewN | (refine Below.alloc ?_ (by (try simp) <;> omega) _) | (refine Below.setCell ?_ (by (try simp) <;> omega) _)))), old_cell f0 f3 (by (repeat (first | exact Below.refl _ _ | assumption | refine bchain (by assumption) ?_ | refine balloc ?_ _ | apply Below.drew | apply below_drewN | (refine Below.alloc ?_ (by (try simp) <;> omega) _) | (refine Below.setCell ?_ (by (try simp) <;> omega) _))))⟩)
          (first
          | (go_at_call 74; refine (hOr.out _ (by (repeat (first | exact Below.refl _ _ | assumption | refine bchain (by assumption) ?_ | refine balloc ?_ _ | apply Below.drew | apply below_drewN | (refine Below.alloc ?_ (by (try simp) <;> omega) _) | (refine Below.setCell ?_ (by (try simp) <;> omega) _))))).mono ?_; rintro r3 w3 ⟨⟨u, rfl, hOu⟩, hb3⟩; replace hOu := Lib.hid (hOu.see hol.out); have hk3 := keepAll hb3; have hf3 := keepFz hb3; have hz3 := keepLt hb3; have hs3 := hb3.size; try (simp at hs3); try (rw [Nat.add_one_le_iff] at hs3))
          | (go_at_call 73; refine (hOn.out _ _ (See.below _ _ _ _ hOu.out (by (repeat (first | exact Below.refl _ _ | assumption | refine bchain (by assumption) ?_ | refine balloc ?_ _ | apply Below.drew | apply below_drewN | (refine Below.alloc ?_ (by (try simp) <;> omega) _) | (refine Below.setCell ?_ (by (try simp) <;> omega) _)))))).mono ?_; rintro r4 w4 ⟨rfl, hb4⟩; have hk4 := keepAll hb4; have hf4 := keepFz hb4; have hz4 := keepLt hb4; have hs4 := hb4.size; try (simp at hs4); try (rw [Nat.add_one_le_iff] at hs4)))
        all_goals (go_wp2_with fail; go_meet; exact ⟨_, rfl, by (try simp) <;> omega, by (try simp) <;> omega, by first | (simp; done) | exact (twoCells (a := .int .i64 0) (b := .int .u32 0) (by simp [*]) (by simp [*]) _ _).1, by first | (simp; done) | exact (twoCells (a := .int .i64 0) (b := .int .u32 0) (by simp [*]) (by simp [*]) _ _).2, by (repeat (first | exact Below.refl _ _ | assumption | refine bchain (by assumption) ?_ | refine balloc ?_ _ | apply Below.drew | apply below_drewN | (refine Below.alloc ?_ (by (try simp) <;> omega) _) | (refine Below.setCell ?_ (by (try simp) <;> omega) _)))⟩)
      case rest =>
        obtain ⟨A, rfl, hA, hAl, a0, a1, hbx⟩ := hcut
        have hPw := hPx.out.under hbx p0
        have hFw := hFx.out.below hbx
        have hOw := Lib.hid (hOx.out.below hbx)
        have hBw : Below G w wc := hBx.trans (hbx.mono (by omega))
        clear f0 f1 f2 f3 p0 p1 p2 p3 pf1 pf2 hPx hFx hOx hBx hOr hOn
        obtain ⟨f0, f1, f2, f3⟩ := id hFw
        obtain ⟨p0, p1, p2, p3⟩ := hPw.p
        have pf1 := hPw.fp 1
        have pf2 := hPw.fp 2
        have hend : ∀ (e4 : Ending) (W w4 : World) (f : Nat), NextAt m m w0 v x W e4 w4 → f = minE e (((lists m m).take (j + 1)).map (ordK k)) → PK W G k n f → FC W G k n e → Below G w W →
            ∃ ok : Bool, e4 = .returned (.bool ok) ∧ Hid (∃ c', c' < gk ∧ SlHead w0 v m m T c' (.bool ok) w4) := fun e4 W w4 f hN hf hPW hFW hBW => by
          rcases hN with ⟨x', hy, he4, hyk, hOy, hbN⟩ | ⟨hy, he4, hbN⟩
          · rw [hst.out] at hy
            have hj1 := (List.getElem?_eq_some_iff.1 hy).1
            exact ⟨true, he4, (lists m m).length - (j + 1), by have := hc.out; omega, .inl ⟨j + 1, x', hj1, rfl, rfl, hy, hOy, by rw [hT]; dsimp only; rw [← hf]; exact ⟨hPW.under hbN hGz, hFW.under hbN (by omega), hBW.trans (hbN.mono (by omega))⟩⟩⟩
          · rw [hst.out] at hy
            have hj1 : (lists m m).length ≤ j + 1 := by simpa using hy
            rw [List.take_of_length_le hj1] at hf
            exact ⟨false, he4, 0, by have := hc.out; omega, .inr ⟨rfl, rfl, by rw [hT]; dsimp only; rw [← hf]; exact ⟨hPW.under hbN hGz, hFW.under hbN (by omega), hBW.trans (hbN.mono (by omega))⟩⟩⟩
        replace hend := Lib.hid hend
        replace hPw := Lib.hid hPw
        replace hFw := Lib.hid hFw
        by_cases hlt : y < z
        · have hd : decide ((y : Int) < (z : Int)) = true := by simpa using hlt
          go_wp2_with fail
          refine (next_any _ w0 v m m x ((hOw.out.sets (by omega)).sets (by omega)) hm5 hm5 hokx.out).mono ?_
          rintro r4 w4 hN
          obtain ⟨ok, rfl, hE⟩ := hend.out r4 _ w4 y hN (by rw [hnx.out]; omega) (hPw.out.put y) ((hFw.out.other _ (by show G + 1 + 1 ≠ G; omega)).other _ (by show G + 1 + 1 ≠ G; omega)) (by (repeat (first | exact Below.refl _ _ | assumption | refine bchain (by assumption) ?_ | refine balloc ?_ _ | apply Below.drew | apply below_drewN | (refine Below.alloc ?_ (by (try simp) <;> omega) _) | (refine Below.setCell ?_ (by (try simp) <;> omega) _))))
          clear hN
          go_wp2
          obtain ⟨c', hc1, hc2⟩ := hE.out
          go_roundg c'
          case measure => exact hc1
          case rel => exact hc2
        · have hd : decide ((y : Int) < (z : Int)) = false := by simpa using hlt
          go_wp2_with fail
          refine (next_any _ w0 v m m x hOw.out hm5 hm5 hokx.out).mono ?_
          rintro r4 w4 hN
          obtain ⟨ok, rfl, hE⟩ := hend.out r4 _ w4 z hN (by rw [hnx.out]; omega) hPw.out hFw.out hBw
          clear hN
          go_wp2
          obtain ⟨c', hc1, hc2⟩ := hE.out
          go_roundg c'
          case measure => exact hc1
          case rel => exact hc2
    · obtain ⟨y, hy⟩ : ∃ y : Nat, leastK n k e = y := ⟨_, rfl⟩
      rw [hT] at hTx
      obtain ⟨hPx, hFx, hBx⟩ := hTx
      rw [hend0.out, hy] at hPx
      obtain ⟨p0, p1, p2, p3⟩ := hPx.p
      obtain ⟨r0, r1, r2, r3⟩ := hPx.r
      have pf0 := hPx.fr 0
      have pf1 := hPx.fr 1
      have pf2 := hPx.fr 2
      have hr := hPx.r.put k n y
      have hB3 := ((hBx.setCell (p := ⟨G + 1, 0, none⟩) (by show G ≤ G + 1; omega) (.int .i64 k)).setCell (p := ⟨G + 1, 1, none⟩) (by show G ≤ G + 1; omega) (.int .i64 n)).setCell (p := ⟨G + 1, 2, none⟩) (by show G ≤ G + 1; omega) (.int .u32 y)
      replace hy := Lib.hid hy
      clear hPx hFx hBx
      replace hB1 : Below G w w1 := hB1.out
      go_wp2
      obtain ⟨W3, hW3⟩ : ∃ W3, W3 = ((wr.setCell ⟨G + 1, 0, none⟩ (.int .i64 k)).setCell ⟨G + 1, 1, none⟩ (.int .i64 n)).setCell ⟨G + 1, 2, none⟩ (.int .u32 y) := ⟨_, rfl⟩
      rw [← hW3] at hB3 hr ⊢
      clear hW3 p0 p1 p2 p3 r0 r1 r2 r3 pf0 pf1 pf2
      obtain ⟨_, c0, c1, c2⟩ := hr
      refine bodyPost_ret (v := .agg #[.int .i64 k, .int .i64 n, .int .u32 y]) (by simp [results, Tryz.results47, go_sem, c0, c1, c2]) rfl ⟨by rw [hy.out], ?_⟩
      rw [hG.out]
      exact hB3
end Go.Proofs.YtiedombphcdpbaaGreatDoor
/-
  SumOfFlag: both contracts.
-/
namespace Go.Proofs.YtiedombphcdpbaaGreatDoor
open Go.RowKit
set_option maxRecDepth 100000
/-- what a cell holds -/
def cellOf (w : World) (a : Addr) : Value := (w.cell? a).getD undef
theorem cellOf_of {w : World} {a : Addr} {v : Value} (h : w.cell? a = some v) : w.cell? a = some (cellOf w a) := by unfold cellOf; rw [h]; rfl
/-- a flag's box, and a sum's behind it -/
def OneS (G : Nat) (k n e : Int) (A : World) : Prop := A.cell? ⟨G, 0, none⟩ = some (.int .i64 k) ∧ A.cell? ⟨G, 1, none⟩ = some (.int .i64 n) ∧ A.cell? ⟨G, 2, none⟩ = some (.int .u32 e) ∧
  A.cell? ⟨G + 1, 0, none⟩ = some (cellOf A ⟨G + 1, 0, none⟩) ∧ A.cell? ⟨G + 1, 1, none⟩ = some (cellOf A ⟨G + 1, 1, none⟩) ∧ A.cell? ⟨G + 1, 2, none⟩ = some (cellOf A ⟨G + 1, 2, none⟩) ∧ A.cell? ⟨G + 1, 3, none⟩ = some (cellOf A ⟨G + 1, 3, none⟩) ∧
  A.frozen? ⟨G + 1, 0, none⟩ = false ∧ A.frozen? ⟨G + 1, 1, none⟩ = false ∧ A.frozen? ⟨G + 1, 2, none⟩ = false ∧ A.frozen? ⟨G + 1, 3, none⟩ = false
structure One0 (w : World) (G : Nat) (k n e : Int) : Prop where
  fc : FC w G k n e
  sb : SB w (G + 1) 0 0 0 (.slice none 0 0)
theorem One0.below {w W : World} {G : Nat} {k n e : Int} (h : One0 w G k n e) (hb : Below w.heap.size w W) : One0 W G k n e := ⟨h.fc.below hb, h.sb.below hb⟩
theorem One0.s {w : World} {G : Nat} {k n e : Int} (h : One0 w G k n e) : OneS G k n e w := ⟨h.fc.c0, h.fc.c1, h.fc.c2, cellOf_of h.sb.c0, cellOf_of h.sb.c1, cellOf_of h.sb.c2, cellOf_of h.sb.c3, h.sb.fz _, h.sb.fz _, h.sb.fz _, h.sb.fz _⟩
theorem One0.held {w W S : World} {G : Nat} {k n e x y z : Int} {u : Value} (h : One0 w G k n e) (hb : Below w.heap.size w W) (hS : S = (((W.setCell ⟨G + 1, 0, none⟩ (.int .i64 x)).setCell ⟨G + 1, 1, none⟩ (.int .u32 y)).setCell ⟨G + 1, 2, none⟩ (.int .i64 z)).setCell ⟨G + 1, 3, none⟩ u) : OneS G k n e S := by
  have q := h.below hb
  have hs := q.sb.all x y z u
  have hf := (((q.fc.other (p := ⟨G + 1, 0, none⟩) (.int .i64 x) (by show G + 1 ≠ G; omega)).other (p := ⟨G + 1, 1, none⟩) (.int .u32 y) (by show G + 1 ≠ G; omega)).other (p := ⟨G + 1, 2, none⟩) (.int .i64 z) (by show G + 1 ≠ G; omega)).other (p := ⟨G + 1, 3, none⟩) u (by show G + 1 ≠ G; omega)
  subst hS
  exact ⟨hf.c0, hf.c1, hf.c2, cellOf_of hs.c0, cellOf_of hs.c1, cellOf_of hs.c2, cellOf_of hs.c3, hs.fz _, hs.fz _, hs.fz _, hs.fz _⟩
theorem One0.made (w : World) (k n e : Int) : One0 ((w.alloc (.cells #[.int .i64 k, .int .i64 n, .int .u32 e] 85)).alloc (.cells #[.int .i64 0, .int .u32 0, .int .i64 0, .slice none 0 0] 39)) w.heap.size k n e := by
  have sz : (w.alloc (.cells #[.int .i64 k, .int .i64 n, .int .u32 e] 85)).heap.size = w.heap.size + 1 := by simp
  refine ⟨(FC.made w k n e 85).below (balloc (Below.refl _ _) _), ?_⟩
  rw [← sz]
  exact SB.made _ 0 0 0 _ _
/-- a list of one term -/
theorem own_one (w0 w : World) (g : TE) (t : TypeId) (h : w0.heap.size ≤ w.heap.size) : OwnT w0 (w.alloc (.cells #[.int .i64 g.k, .int .i64 g.n, .int .u32 g.e, .int .i64 g.p, .int .i64 g.q] t)) (.slice (some ⟨w.heap.size, 0, none⟩) 1 1) [g] := by
  have b := TB.made w g.k g.n g.e g.p g.q t
  refine ⟨_, 1, rfl, Nat.le_refl _, by omega, fun _ => ⟨w.heap.size, rfl, h, b.lt, fun i hi => ?_, b.fz⟩⟩
  have hi : i < 5 := hi
  match i, hi with
  | 0, _ => exact b.c0
  | 1, _ => exact b.c1
  | 2, _ => exact b.c2
  | 3, _ => exact b.c3
  | 4, _ => exact b.c4
section
variable (w : World)
theorem iwh_any (x : Int) : Calls Tryz.prog 59 #[.int .i64 x] w fun r w' => r = .returned (.agg #[.int .i64 x, .int .i64 1]) ∧ Below w.heap.size w w' := by
  go_enter Tryz.func59, Tryz.ntmps59
  go_wp2
  exact bodyPost_ret (v := .agg #[.int .i64 x, .int .i64 1]) (by simp [results, Tryz.results59, go_sem]) rfl ⟨rfl, by (repeat (first | exact Below.refl _ _ | assumption | refine bchain (by assumption) ?_ | refine balloc ?_ _ | apply Below.drew | apply below_drewN | (refine Below.alloc ?_ (by (try simp) <;> omega) _) | (refine Below.setCell ?_ (by (try simp) <;> omega) _)))⟩
theorem iso_any (k n e : Int) : Calls Tryz.prog 78 #[.agg #[.int .i64 k, .int .i64 n, .int .u32 e]] w fun r w' => r = .returned (.int .i64 n) ∧ Below w.heap.size w w' := by
  go_enter Tryz.func78, Tryz.ntmps78
  go_wp2
  go_ret
  exact ⟨rfl, by (repeat (first | exact Below.refl _ _ | assumption | refine bchain (by assumption) ?_ | refine balloc ?_ _ | apply Below.drew | apply below_drewN | (refine Below.alloc ?_ (by (try simp) <;> omega) _) | (refine Below.setCell ?_ (by (try simp) <;> omega) _)))⟩
end
end Go.Proofs.YtiedombphcdpbaaGreatDoor
namespace Go.Proofs.YtiedombphcdpbaaGreatDoor
open Go.RowKit
set_option maxRecDepth 100000
theorem eqGrK (W : World) (n m e f : Int) : (Op.equalIn 10000 36 (.agg #[.int .i64 n, .int .u32 e]) (.agg #[.int .i64 m, .int .u32 f])).run Tryz.prog W = .ok (n == m && e == f) W := by
  have u3 := Tryz.underlying2
  have u4 := Tryz.underlying23
  have hS : Tryz.prog.underlying 36 = some (.struct (Tryz.prog.fieldsOf 36)) := by kernel_rfl
  have hp : Tryz.prog.stoodInHeld 36 = false := by kernel_rfl
  rw [show (10000 : Nat) = 9999 + 1 from rfl, run_equalIn_agg W 9999 36 _ _ hS hp]
  simp only [Program.fieldsOf, Tryz.underlying36]
  go_simp
  by_cases h1 : n = m <;> by_cases h2 : e = f <;> simp [h1, h2]
theorem eqFl (W : World) (k l n m e f : Int) : (Op.equalIn 10000 85 (.agg #[.int .i64 k, .int .i64 n, .int .u32 e]) (.agg #[.int .i64 l, .int .i64 m, .int .u32 f])).run Tryz.prog W = .ok (k == l && (n == m && e == f)) W := by
  have u3 := Tryz.underlying2
  have u4 := Tryz.underlying23
  have hS : Tryz.prog.underlying 85 = some (.struct (Tryz.prog.fieldsOf 85)) := by kernel_rfl
  have hp : Tryz.prog.stoodInHeld 85 = false := by kernel_rfl
  rw [show (10000 : Nat) = 9999 + 1 from rfl, run_equalIn_agg W 9999 85 _ _ hS hp]
  simp only [Program.fieldsOf, Tryz.underlying85]
  go_simp
  by_cases h1 : k = l <;> by_cases h2 : n = m <;> by_cases h3 : e = f <;> simp [h1, h2, h3]
end Go.Proofs.YtiedombphcdpbaaGreatDoor
/-
  Has a flag a type and a size: the program's contract and the model's.
-/
namespace Go.Proofs.YtiedombphcdpbaaGreatDoor
open Go.RowKit Go.Shelf
set_option maxRecDepth 100000
attribute [local go_sem] Oper.semAt_some
/-- has a flag a type and a size -/
def Fits (k n e : Nat) (m f s : Int) : Prop := (k : Int) = m ∧ ((onL e (List.range k) : Nat) : Int) = f ∧ (n : Int) = s
section
variable (w : World)
set_option maxHeartbeats 2000000 in
theorem iof_any (k n e : Nat) (m f s : Int) (h : VK k n e) (B : Bool) (hB : B = true ↔ Fits k n e m f s) :
    Calls Tryz.prog 57 #[.agg #[.int .i64 k, .int .i64 n, .int .u32 e], .agg #[.int .i64 m, .int .u32 f], .int .i64 s] w fun r w' => r = .returned (.bool B) ∧ Below w.heap.size w w' := by
  have hT := Lib.hid (fun W => ity_any W k n e h)
  unfold Fits at hB
  obtain ⟨t, ht⟩ : ∃ t, onL e (List.range k) = t := ⟨_, rfl⟩
  rw [ht] at hT hB
  clear ht h
  obtain ⟨W0, hW0⟩ : ∃ W0, W0 = (w.alloc (.cells #[.int .i64 (k : Int), .int .i64 (n : Int), .int .u32 (e : Int)] 85)).alloc (.cells #[.int .i64 m, .int .u32 f] 36) := ⟨_, rfl⟩
  have hB0 : Below w.heap.size w W0 := by rw [hW0]; (repeat (first | exact Below.refl _ _ | assumption | refine bchain (by assumption) ?_ | refine balloc ?_ _ | apply Below.drew | apply below_drewN | (refine Below.alloc ?_ (by (try simp) <;> omega) _) | (refine Below.setCell ?_ (by (try simp) <;> omega) _)))
  have hf : FC W0 w.heap.size k n e := by rw [hW0]; exact (FC.made w k n e 85).below (balloc (Below.refl _ _) _)
  have hz : w.heap.size + 1 < W0.heap.size := by rw [hW0]; simp
  have g0 : W0.cell? ⟨w.heap.size + 1, 0, none⟩ = some (.int .i64 m) := by rw [hW0, cNew _ _ _ _ _ (by simp)]; rfl
  have g1 : W0.cell? ⟨w.heap.size + 1, 1, none⟩ = some (.int .u32 f) := by rw [hW0, cNew _ _ _ _ _ (by simp)]; rfl
  have q0 := bw_cell hf.lt hf.c0
  have q1 := bw_cell hf.lt hf.c1
  have q2 := bw_cell hf.lt hf.c2
  have q3 := bw_cell hz g0
  have q4 := bw_cell hz g1
  replace hW0 := Lib.hid hW0
  clear g0 g1 hf hz
  by_cases c : (k : Int) = m ∧ (t : Int) = f
  · obtain ⟨rfl, rfl⟩ := c
    have hq : ∀ W, (Op.equalIn 10000 36 (.agg #[.int .i64 (k : Int), .int .u32 (t : Int)]) (.agg #[.int .i64 (k : Int), .int .u32 (t : Int)])).run Tryz.prog W = .ok true W := fun W => by rw [eqGrK]; simp
    obtain rfl : B = ((n : Int) == s) := by
      rw [Bool.eq_iff_iff, hB]
      simp
    clear hB
    go_enter Tryz.func57, Tryz.ntmps57
    go_wp2
    rw [← hW0.out]
    refine wp_region_below (by kernel_rfl) (by kernel_rfl) ?_
    iterate 1 (quiet_step (fail))
    refine wpQuiet_step (fun K hK => ?_)
    go_simp
    apply Exists.intro
    refine ⟨fun p => ?_, hK _ ?_⟩
    · exact bw_of (w := W0) (p := p) (hT.out p.W)
    clear hK K
    iterate 3 (quiet_step (fail))
    iterate 1 (quiet_step (fail))
    refine wpQuiet_step (fun K hK => ?_)
    go_simp
    apply Exists.intro
    refine ⟨fun p => ?_, hK _ ?_⟩
    · exact bw_of (w := W0) (p := p) (iso_any p.W k n e)
    clear hK K
    iterate 2 (quiet_step (fail))
    iterate 2 (quiet_step (fail))
    refine wpQuiet_nil ?_
    intro w3 hw'
    obtain ⟨⟨wx, hb_w3⟩, rfl⟩ := hw'
    go_wp2
    go_ret
    exact ⟨rfl, hB0.trans (hb_w3.mono hB0.size)⟩
  · have hq : ∀ W, (Op.equalIn 10000 36 (.agg #[.int .i64 (k : Int), .int .u32 (t : Int)]) (.agg #[.int .i64 m, .int .u32 f])).run Tryz.prog W = .ok false W := fun W => by
      rw [eqGrK]
      have : ((k : Int) == m && (t : Int) == f) = false := by
        rw [Bool.eq_false_iff]
        intro h
        simp at h
        exact c h
      rw [this]
    obtain rfl : B = false := by
      rw [Bool.eq_false_iff]
      intro c2
      exact c ⟨(hB.1 c2).1, (hB.1 c2).2.1⟩
    clear hB c
    go_enter Tryz.func57, Tryz.ntmps57
    go_wp2
    rw [← hW0.out]
    refine wp_region_below (by kernel_rfl) (by kernel_rfl) ?_
    iterate 1 (quiet_step (fail))
    refine wpQuiet_step (fun K hK => ?_)
    go_simp
    apply Exists.intro
    refine ⟨fun p => ?_, hK _ ?_⟩
    · exact bw_of (w := W0) (p := p) (hT.out p.W)
    clear hK K
    iterate 3 (quiet_step (fail))
    iterate 4 go_big_quiet_skip
    iterate 2 (quiet_step (fail))
    refine wpQuiet_nil ?_
    intro w3 hw'
    obtain ⟨⟨wx, hb_w3⟩, rfl⟩ := hw'
    go_wp2
    go_ret
    exact ⟨rfl, hB0.trans (hb_w3.mono hB0.size)⟩
set_option maxHeartbeats 2000000 in
theorem sof_any (k n e : Nat) (m f s : Int) (h : VK k n e) (B : Bool) (hB : B = true ↔ Fits k n e m f s) :
    Calls Tryz.prog 46 #[.agg #[.int .i64 k, .int .i64 n, .int .u32 e], .agg #[.int .i64 m, .int .u32 f], .int .i64 s] w fun r w' => r = .returned (.bool B) ∧ Below w.heap.size w w' := by
  have hT := Lib.hid (fun W => sty_any W k n e h)
  unfold Fits at hB
  obtain ⟨t, ht⟩ : ∃ t, onL e (List.range k) = t := ⟨_, rfl⟩
  rw [ht] at hT hB
  clear ht h
  obtain ⟨W0, hW0⟩ : ∃ W0, W0 = (w.alloc (.cells #[.int .i64 (k : Int), .int .i64 (n : Int), .int .u32 (e : Int)] 85)).alloc (.cells #[.int .i64 m, .int .u32 f] 36) := ⟨_, rfl⟩
  have hB0 : Below w.heap.size w W0 := by rw [hW0]; (repeat (first | exact Below.refl _ _ | assumption | refine bchain (by assumption) ?_ | refine balloc ?_ _ | apply Below.drew | apply below_drewN | (refine Below.alloc ?_ (by (try simp) <;> omega) _) | (refine Below.setCell ?_ (by (try simp) <;> omega) _)))
  have hf : FC W0 w.heap.size k n e := by rw [hW0]; exact (FC.made w k n e 85).below (balloc (Below.refl _ _) _)
  have hz : w.heap.size + 1 < W0.heap.size := by rw [hW0]; simp
  have g0 : W0.cell? ⟨w.heap.size + 1, 0, none⟩ = some (.int .i64 m) := by rw [hW0, cNew _ _ _ _ _ (by simp)]; rfl
  have g1 : W0.cell? ⟨w.heap.size + 1, 1, none⟩ = some (.int .u32 f) := by rw [hW0, cNew _ _ _ _ _ (by simp)]; rfl
  have q0 := bw_cell hf.lt hf.c0
  have q1 := bw_cell hf.lt hf.c1
  have q2 := bw_cell hf.lt hf.c2
  have q3 := bw_cell hz g0
  have q4 := bw_cell hz g1
  replace hW0 := Lib.hid hW0
  clear g0 g1 hf hz
  by_cases c : (k : Int) = m ∧ (t : Int) = f
  · obtain ⟨rfl, rfl⟩ := c
    have hq : ∀ W, (Op.equalIn 10000 36 (.agg #[.int .i64 (k : Int), .int .u32 (t : Int)]) (.agg #[.int .i64 (k : Int), .int .u32 (t : Int)])).run Tryz.prog W = .ok true W := fun W => by rw [eqGrK]; simp
    obtain rfl : B = ((n : Int) == s) := by
      rw [Bool.eq_iff_iff, hB]
      simp
    clear hB
    go_enter Tryz.func46, Tryz.ntmps46
    go_wp2
    rw [← hW0.out]
    refine wp_region_below (by kernel_rfl) (by kernel_rfl) ?_
    iterate 1 (quiet_step (fail))
    refine wpQuiet_step (fun K hK => ?_)
    go_simp
    apply Exists.intro
    refine ⟨fun p => ?_, hK _ ?_⟩
    · exact bw_of (w := W0) (p := p) (hT.out p.W)
    clear hK K
    iterate 3 (quiet_step (fail))
    iterate 5 (quiet_step (fail))
    iterate 2 (quiet_step (fail))
    refine wpQuiet_nil ?_
    intro w3 hw'
    obtain ⟨⟨wx, hb_w3⟩, rfl⟩ := hw'
    go_wp2
    go_ret
    exact ⟨rfl, hB0.trans (hb_w3.mono hB0.size)⟩
  · have hq : ∀ W, (Op.equalIn 10000 36 (.agg #[.int .i64 (k : Int), .int .u32 (t : Int)]) (.agg #[.int .i64 m, .int .u32 f])).run Tryz.prog W = .ok false W := fun W => by
      rw [eqGrK]
      have : ((k : Int) == m && (t : Int) == f) = false := by
        rw [Bool.eq_false_iff]
        intro h
        simp at h
        exact c h
      rw [this]
    obtain rfl : B = false := by
      rw [Bool.eq_false_iff]
      intro c2
      exact c ⟨(hB.1 c2).1, (hB.1 c2).2.1⟩
    clear hB c
    go_enter Tryz.func46, Tryz.ntmps46
    go_wp2
    rw [← hW0.out]
    refine wp_region_below (by kernel_rfl) (by kernel_rfl) ?_
    iterate 1 (quiet_step (fail))
    refine wpQuiet_step (fun K hK => ?_)
    go_simp
    apply Exists.intro
    refine ⟨fun p => ?_, hK _ ?_⟩
    · exact bw_of (w := W0) (p := p) (hT.out p.W)
    clear hK K
    iterate 3 (quiet_step (fail))
    iterate 5 go_big_quiet_skip
    iterate 2 (quiet_step (fail))
    refine wpQuiet_nil ?_
    intro w3 hw'
    obtain ⟨⟨wx, hb_w3⟩, rfl⟩ := hw'
    go_wp2
    go_ret
    exact ⟨rfl, hB0.trans (hb_w3.mono hB0.size)⟩
end
end Go.Proofs.YtiedombphcdpbaaGreatDoor
/-
  Are two sums the same: the program's contract and the model's.
-/
namespace Go.Proofs.YtiedombphcdpbaaGreatDoor
open Go.RowKit
set_option maxRecDepth 100000
theorem eqFrT (W : World) (n m e f : Int) : (Op.equalIn 10000 40 (.agg #[.int .i64 n, .int .i64 e]) (.agg #[.int .i64 m, .int .i64 f])).run Tryz.prog W = .ok (n == m && e == f) W := by
  have u3 := Tryz.underlying2
  have hS : Tryz.prog.underlying 40 = some (.struct (Tryz.prog.fieldsOf 40)) := by kernel_rfl
  have hp : Tryz.prog.stoodInHeld 40 = false := by kernel_rfl
  rw [show (10000 : Nat) = 9999 + 1 from rfl, run_equalIn_agg W 9999 40 _ _ hS hp]
  simp only [Program.fieldsOf, Tryz.underlying40]
  go_simp
  by_cases h1 : n = m <;> by_cases h2 : e = f <;> simp [h1, h2]
theorem eqTm (W : World) (x0 x1 x2 x3 x4 y0 y1 y2 y3 y4 : Int) : (Op.equalIn 10000 87 (.agg #[.int .i64 x0, .int .i64 x1, .int .u32 x2, .int .i64 x3, .int .i64 x4]) (.agg #[.int .i64 y0, .int .i64 y1, .int .u32 y2, .int .i64 y3, .int .i64 y4])).run Tryz.prog W = .ok ((x0 == y0 && (x1 == y1 && x2 == y2)) && (x3 == y3 && x4 == y4)) W := by
  have u3 := Tryz.underlying2
  have u4 := Tryz.underlying23
  have hS : Tryz.prog.underlying 87 = some (.struct (Tryz.prog.fieldsOf 87)) := by kernel_rfl
  have hp : Tryz.prog.stoodInHeld 87 = false := by kernel_rfl
  rw [show (10000 : Nat) = 9999 + 1 from rfl, run_equalIn_agg W 9999 87 _ _ hS hp]
  simp only [Program.fieldsOf, Tryz.underlying87]
  go_simp
  by_cases h1 : x0 = y0 <;> by_cases h2 : x1 = y1 <;> by_cases h3 : x2 = y2 <;> by_cases h4 : x3 = y3 <;> by_cases h5 : x4 = y4 <;> simp [h1, h2, h3, h4, h5]
theorem tAt_ext {xs ys : List TE} (hl : xs.length = ys.length) (h : ∀ i, i < xs.length → tAt xs i = tAt ys i) : xs = ys := by
  refine List.ext_getElem hl ?_
  intro i h1 h2
  have := h i h1
  simpa [tAt, List.getElem?_eq_getElem h1, List.getElem?_eq_getElem h2] using this
section
variable (w : World)
end
end Go.Proofs.YtiedombphcdpbaaGreatDoor
namespace Go.Proofs.YtiedombphcdpbaaGreatDoor
open Go.RowKit Go.Shelf
set_option maxRecDepth 100000
attribute [local go_sem] Oper.semAt_some
def Least (k n e : Nat) : Prop := leastK n k e = e
theorem SB.drewN {W : World} {B : Nat} {n e s : Int} {u : Value} (h : SB W B n e s u) (m : Nat) : SB (W.drewN m) B n e s u := ⟨h.lt, h.c0, h.c1, h.c2, h.c3, h.fz⟩
/-- is the term at i of a sum as it should be -/
def TOk (X : SM) (i : Nat) : Prop := VK (tAt X.ts i).k (tAt X.ts i).n (tAt X.ts i).e ∧ Fits (tAt X.ts i).k.toNat (tAt X.ts i).n.toNat (tAt X.ts i).e.toNat X.n X.e X.s ∧ Least (tAt X.ts i).k.toNat (tAt X.ts i).n.toNat (tAt X.ts i).e.toNat ∧
  Fr.VF (tAt X.ts i).p (tAt X.ts i).q ∧ (tAt X.ts i).p ≠ 0 ∧ (0 < i → (tAt X.ts (i - 1)).e < (tAt X.ts i).e)
def VSum (X : SM) : Prop := VG X.n X.e ∧ frB X.n X.s = true ∧ X.ts.length ≤ 64 ∧ ∀ i, i < X.ts.length → TOk X i
theorem vf_zero {p q : Int} (h : Fr.VF p q) : p = 0 ↔ (p = 0 ∧ q = 1) := by
  refine ⟨fun c => ⟨c, ?_⟩, fun c => c.1⟩
  subst c
  have h5 := h.2.2.2.2
  have h1 := h.1
  rw [Int.gcd_zero_left] at h5
  omega
section
variable (w : World)
set_option maxHeartbeats 8000000 in
theorem ivs_len (n e s : Int) (a : Option Addr) (l cap : Nat) (hl : 64 < l) (hl2 : l ≤ 9223372036854775807) (hv : VG n e) (hf : frB n s = true) :
    Calls Tryz.prog 35 #[.agg #[.int .i64 n, .int .u32 e, .int .i64 s, .slice a l cap]] w fun r w' => r = .returned (.bool false) ∧ Below w.heap.size w w' := by
  have hV := Lib.hid (fun W => valid_t W n e hv)
  have hF := Lib.hid (fun W => ihf_any W n e s)
  rw [hf] at hF
  clear hv hf
  go_enter Tryz.func35, Tryz.ntmps35
  go_wp2_with fail
  refine (hV.out _).mono ?_
  rintro r1 w1 ⟨rfl, hb1⟩
  obtain ⟨hc1, hz1⟩ := bkeep hb1 w.heap.size (by (try simp) <;> omega)
  go_wp2_with fail
  refine (hF.out _).mono ?_
  rintro r2 w2 ⟨rfl, hb2⟩
  obtain ⟨hc2, hz2⟩ := bkeep hb2 w.heap.size (by (try simp) <;> omega)
  go_wp2
  go_ret
  exact ⟨rfl, by (repeat (first | exact Below.refl _ _ | assumption | refine bchain (by assumption) ?_ | refine balloc ?_ _ | apply Below.drew | apply below_drewN | (refine Below.alloc ?_ (by (try simp) <;> omega) _) | (refine Below.setCell ?_ (by (try simp) <;> omega) _)))⟩
theorem ivs_frame (n e s : Int) (u : Value) (hv : VG n e) (hf : frB n s = false) :
    Calls Tryz.prog 35 #[.agg #[.int .i64 n, .int .u32 e, .int .i64 s, u]] w fun r w' => r = .returned (.bool false) ∧ Below w.heap.size w w' := by
  have hV := Lib.hid (fun W => valid_t W n e hv)
  have hF := Lib.hid (fun W => ihf_any W n e s)
  rw [hf] at hF
  clear hv hf
  go_enter Tryz.func35, Tryz.ntmps35
  go_wp2_with fail
  refine (hV.out _).mono ?_
  rintro r1 w1 ⟨rfl, hb1⟩
  obtain ⟨hc1, hz1⟩ := bkeep hb1 w.heap.size (by (try simp) <;> omega)
  go_wp2_with fail
  refine (hF.out _).mono ?_
  rintro r2 w2 ⟨rfl, hb2⟩
  go_wp2
  go_ret
  exact ⟨rfl, by (repeat (first | exact Below.refl _ _ | assumption | refine bchain (by assumption) ?_ | refine balloc ?_ _ | apply Below.drew | apply below_drewN | (refine Below.alloc ?_ (by (try simp) <;> omega) _) | (refine Below.setCell ?_ (by (try simp) <;> omega) _)))⟩
theorem ivs_type (n e s : Int) (u : Value) (he : e < 4294967296) (h0 : 0 ≤ e) (hv : ¬ VG n e) :
    Calls Tryz.prog 35 #[.agg #[.int .i64 n, .int .u32 e, .int .i64 s, u]] w fun r w' => r = .returned (.bool false) ∧ Below w.heap.size w w' := by
  have hV := Lib.hid (fun W => valid_f W n e he h0 hv)
  clear hv he h0
  go_enter Tryz.func35, Tryz.ntmps35
  go_wp2_with fail
  refine (hV.out _).mono ?_
  rintro r1 w1 ⟨rfl, hb1⟩
  go_wp2
  go_ret
  exact ⟨rfl, by (repeat (first | exact Below.refl _ _ | assumption | refine bchain (by assumption) ?_ | refine balloc ?_ _ | apply Below.drew | apply below_drewN | (refine Below.alloc ?_ (by (try simp) <;> omega) _) | (refine Below.setCell ?_ (by (try simp) <;> omega) _)))⟩
set_option maxHeartbeats 16000000 in
theorem ivs_ok (X : SM) (u : Value) (hS : SlT w u X.ts) (hbd : BdT X.ts) (hl : X.ts.length ≤ 64) (hv : VG X.n X.e) (hf : frB X.n X.s = true) (B : Bool) (hB0 : B = true ↔ ∀ i, i < X.ts.length → TOk X i) :
    Calls Tryz.prog 35 #[.agg #[.int .i64 X.n, .int .u32 X.e, .int .i64 X.s, u]] w fun r w' => r = .returned (.bool B) ∧ Below w.heap.size w w' := by
  obtain ⟨n, e, s, ts⟩ := X
  dsimp only at hS hbd hl hv hf hB0 ⊢
  unfold TOk at hB0
  dsimp only at hB0
  obtain ⟨a, cap, rfl, h1, h2, h3⟩ := hS
  have hV := Lib.hid (fun W => valid_t W n e hv)
  have hF := Lib.hid (fun W => ihf_any W n e s)
  rw [hf] at hF
  replace hB0 := Lib.hid hB0
  replace hbd := Lib.hid hbd
  obtain ⟨l, hld⟩ : ∃ l, ts.length = l := ⟨_, rfl⟩
  have h3b : Hid (0 < l → ∃ b off, a = some ⟨b, off, none⟩ ∧ b < w.heap.size ∧ ∀ i, i < l → TCell w b off (tAt ts i) i) := fun h => by rw [← hld] at h ⊢; exact h3 (List.length_pos_iff.1 h)
  rw [hld] at h1 hl hB0 ⊢
  replace hld := Lib.hid hld
  clear h3 hv hf
  obtain ⟨W0, hW0⟩ : ∃ W0, W0 = w.alloc (.cells #[.int .i64 n, .int .u32 e, .int .i64 s, .slice a l cap] 39) := ⟨_, rfl⟩
  have hb0 : Below w.heap.size w W0 := by rw [hW0]; (repeat (first | exact Below.refl _ _ | assumption | refine bchain (by assumption) ?_ | refine balloc ?_ _ | apply Below.drew | apply below_drewN | (refine Below.alloc ?_ (by (try simp) <;> omega) _) | (refine Below.setCell ?_ (by (try simp) <;> omega) _)))
  have k0 : SB W0 w.heap.size n e s (.slice a l cap) := by rw [hW0]; exact SB.made _ _ _ _ _ _
  replace hW0 := Lib.hid hW0
  obtain ⟨_, x0, x1, x2, x3, _⟩ := id k0
  go_enter Tryz.func35, Tryz.ntmps35
  go_wp2_with fail
  rw [← hW0.out]
  go_wp2_with fail
  refine (hV.out _).mono ?_
  rintro r1 w1 ⟨rfl, hb1⟩
  replace k0 := k0.below hb1
  replace hb0 := bchain hb1 hb0
  clear x0 x1 x2 x3 hb1
  obtain ⟨_, x0, x1, x2, x3, _⟩ := id k0
  go_wp2_with fail
  refine (hF.out _).mono ?_
  rintro r2 w2 ⟨rfl, hb2⟩
  replace k0 := k0.below hb2
  replace hb0 := bchain hb2 hb0
  clear x0 x1 x2 x3 hb2
  obtain ⟨_, x0, x1, x2, x3, _⟩ := id k0
  go_wp2
  go_loopw [3, 4, 5, 27] (fun _ _ _ i wr => ∃ k : Nat, k ≤ l ∧ i = .int .i64 k ∧ Hid (∀ j, j < k → TOk ⟨n, e, s, ts⟩ j) ∧ SB wr w.heap.size n e s (.slice a l cap) ∧ Below w.heap.size w wr) (fun _ _ _ i _ => l - (intOf i).toNat)
  case atStart => exact ⟨0, by omega, rfl, fun j hj => by omega, k0, hb0⟩
  case round =>
    clear k0 hb0 x0 x1 x2 x3
    obtain ⟨k, hk, rfl, hok, kr, hB⟩ := hrel
    obtain ⟨ltG, x0, x1, x2, x3, _⟩ := id kr
    by_cases hlt : k < l
    · obtain ⟨b, off, rfl, hb, hg⟩ := h3b.out (by omega)
      have hgk := hg k hlt
      have hbk := hbd.out k (by rw [hld.out]; exact hlt)
      obtain ⟨g, hBk⟩ : ∃ g, tAt ts k = g := ⟨_, rfl⟩
      have hBk2 := hBk
      obtain ⟨y0, y1, y2, y3, y4⟩ := g
      rw [hBk] at hgk hbk
      dsimp only at hbk
      have s0 : wr.cell? ⟨b, off + k * 5, none⟩ = some (.int .i64 y0) := by rw [hB.cell (p := ⟨b, _, none⟩) hb]; exact hgk.1
      have s1 : wr.cell? ⟨b, off + k * 5 + 1, none⟩ = some (.int .i64 y1) := by rw [hB.cell (p := ⟨b, _, none⟩) hb]; exact hgk.2.1
      have s2 : wr.cell? ⟨b, off + k * 5 + 2, none⟩ = some (.int .u32 y2) := by rw [hB.cell (p := ⟨b, _, none⟩) hb]; exact hgk.2.2.1
      have s3 : wr.cell? ⟨b, off + k * 5 + 3, none⟩ = some (.int .i64 y3) := by rw [hB.cell (p := ⟨b, _, none⟩) hb]; exact hgk.2.2.2.1
      have s4 : wr.cell? ⟨b, off + k * 5 + 4, none⟩ = some (.int .i64 y4) := by rw [hB.cell (p := ⟨b, _, none⟩) hb]; exact hgk.2.2.2.2
      have hkl : (k : Int) < (l : Int) := by omega
      have hk0 : (0 : Int) ≤ (k : Int) := by omega
      obtain ⟨W1, hW1⟩ : ∃ W1, W1 = (wr.alloc (.cells #[.int .i64 y0, .int .i64 y1, .int .u32 y2, .int .i64 y3, .int .i64 y4] 87)).alloc (.cells #[.int .i64 y0, .int .i64 y1, .int .u32 y2] 85) := ⟨_, rfl⟩
      have hBW : Below wr.heap.size wr W1 := by rw [hW1]; (repeat (first | exact Below.refl _ _ | assumption | refine bchain (by assumption) ?_ | refine balloc ?_ _ | apply Below.drew | apply below_drewN | (refine Below.alloc ?_ (by (try simp) <;> omega) _) | (refine Below.setCell ?_ (by (try simp) <;> omega) _)))
      have sz : (wr.alloc (.cells #[.int .i64 y0, .int .i64 y1, .int .u32 y2, .int .i64 y3, .int .i64 y4] 87)).heap.size = wr.heap.size + 1 := by simp
      have tb : TB W1 wr.heap.size y0 y1 y2 y3 y4 := by rw [hW1]; exact (TB.made wr _ _ _ _ _ _).below (balloc (Below.refl _ _) _)
      have fb : FC W1 (wr.heap.size + 1) y0 y1 y2 := by rw [hW1, ← sz]; exact FC.made _ _ _ _ _
      have kb := kr.below hBW
      replace hW1 := Lib.hid hW1
      clear sz hgk
      have q0 := bw_cell fb.lt fb.c0
      have q1 := bw_cell fb.lt fb.c1
      have q2 := bw_cell fb.lt fb.c2
      have q3 := bw_cell kb.lt kb.c0
      have q4 := bw_cell kb.lt kb.c1
      have q5 := bw_cell kb.lt kb.c2
      have hBz := hB.size
      go_wp2
      rw [← hW1.out]
      by_cases v1 : VK y0 y1 y2
      · obtain ⟨m0, m1, m2, rfl, rfl, rfl⟩ : ∃ a b c : Nat, y0 = a ∧ y1 = b ∧ y2 = c := ⟨y0.toNat, y1.toNat, y2.toNat, by have := v1.2.1; omega, by have := v1.1.1; omega, by omega⟩
        have hV1 := Lib.hid (fun W => ivk_t W m0 m1 m2 v1)
        by_cases v2 : Fits m0 m1 m2 n e s
        · have hV2 := Lib.hid (fun W => iof_any W m0 m1 m2 n e s v1 true ⟨fun _ => v2, fun _ => rfl⟩)
          have hV3 := Lib.hid (fun W => leastK_any W m0 m1 m2 v1)
          by_cases v3 : leastK m1 m0 m2 = m2
          · rw [v3] at hV3
            have hq : ∀ W, (Op.equalIn 10000 85 (.agg #[.int .i64 (m0 : Int), .int .i64 (m1 : Int), .int .u32 (m2 : Int)]) (.agg #[.int .i64 (m0 : Int), .int .i64 (m1 : Int), .int .u32 (m2 : Int)])).run Tryz.prog W = .ok true W := fun W => by rw [eqFl]; simp
            refine wp_region_below (by kernel_rfl) (by kernel_rfl) ?_
            iterate 1 (quiet_step (fail))
            refine wpQuiet_step (fun K hK => ?_)
            go_simp
            apply Exists.intro
            refine ⟨fun p => ?_, hK _ ?_⟩
            · exact bw_of (w := W1) (p := p) (hV1.out p.W)
            clear hK K
            iterate 2 (quiet_step (fail))
            iterate 5 (quiet_step (fail))
            refine wpQuiet_step (fun K hK => ?_)
            go_simp
            apply Exists.intro
            refine ⟨fun p => ?_, hK _ ?_⟩
            · exact bw_of (w := W1) (p := p) (hV2.out p.W)
            clear hK K
            iterate 1 (quiet_step (fail))
            iterate 2 (quiet_step (fail))
            iterate 1 (quiet_step (fail))
            refine wpQuiet_step (fun K hK => ?_)
            go_simp
            apply Exists.intro
            refine ⟨fun p => ?_, hK _ ?_⟩
            · exact bw_of (w := W1) (p := p) (hV3.out p.W)
            clear hK K
            iterate 2 (quiet_step (fail))
            iterate 1 (quiet_step (fail))
            refine wpQuiet_nil ?_
            intro w3 hw'
            obtain ⟨⟨wx, hb_w3⟩, rfl⟩ := hw'
            have tb3 := tb.below hb_w3
            have fb3 := fb.below hb_w3
            have kb3 := kb.below hb_w3
            have hb3 := hBW.trans (hb_w3.mono hBW.size)
            have q6 := bw_cell tb3.lt tb3.c3
            have q7 := bw_cell tb3.lt tb3.c4
            have hVF := Lib.hid (fun W => Fr.vf_any W y3 y4)
            clear q0 q1 q2 q3 q4 q5 hb_w3 hV1 hV2 hV3 tb fb kb hq x0 x1 x2 x3
            go_wp2
            by_cases v4 : Fr.VF y3 y4
            · rw [decide_eq_true v4] at hVF
              by_cases v5 : y3 = 0 ∧ y4 = 1
              · obtain ⟨rfl, rfl⟩ := v5
                have hq : ∀ W, (Op.equalIn 10000 40 (.agg #[.int .i64 0, .int .i64 1]) (.agg #[.int .i64 0, .int .i64 1])).run Tryz.prog W = .ok true W := fun W => by rw [eqFrT]; simp
                obtain rfl : B = false := by
                  rw [Bool.eq_false_iff]
                  intro c
                  have ht := (hB0.out.1 c) k hlt
                  rw [hBk] at ht
                  exact ht.2.2.2.2.1 rfl
                refine wp_region_below (by kernel_rfl) (by kernel_rfl) ?_
                iterate 2 (quiet_step (fail))
                refine wpQuiet_step (fun K hK => ?_)
                go_simp
                apply Exists.intro
                refine ⟨fun p => ?_, hK _ ?_⟩
                · exact bw_of (w := w3) (p := p) (hVF.out p.W)
                clear hK K
                iterate 2 (quiet_step (fail))
                iterate 2 (quiet_step (fail))
                refine wpQuiet_step (fun K hK => ?_)
                go_simp
                apply Exists.intro
                refine ⟨fun p => ?_, hK _ ?_⟩
                · exact bw_of (w := w3) (p := p) (iwh_any p.W 0)
                clear hK K
                iterate 1 (quiet_step (fail))
                iterate 1 (quiet_step (fail))
                refine wpQuiet_nil ?_
                intro w4 hw'
                obtain ⟨⟨wx, hb_w4⟩, rfl⟩ := hw'
                go_wp2
                go_ret
                exact ⟨rfl, hB.trans ((hb3.trans (hb_w4.mono hb3.size)).mono hBz)⟩
              · have hq : ∀ W, (Op.equalIn 10000 40 (.agg #[.int .i64 y3, .int .i64 y4]) (.agg #[.int .i64 0, .int .i64 1])).run Tryz.prog W = .ok false W := fun W => by
                  rw [eqFrT]
                  have : (y3 == 0 && y4 == 1) = false := by
                    rw [Bool.eq_false_iff]
                    intro h
                    simp at h
                    exact v5 h
                  rw [this]
                have hy3 : y3 ≠ 0 := fun c => v5 ((vf_zero v4).1 c)
                refine wp_region_below (by kernel_rfl) (by kernel_rfl) ?_
                iterate 2 (quiet_step (fail))
                refine wpQuiet_step (fun K hK => ?_)
                go_simp
                apply Exists.intro
                refine ⟨fun p => ?_, hK _ ?_⟩
                · exact bw_of (w := w3) (p := p) (hVF.out p.W)
                clear hK K
                iterate 2 (quiet_step (fail))
                iterate 2 (quiet_step (fail))
                refine wpQuiet_step (fun K hK => ?_)
                go_simp
                apply Exists.intro
                refine ⟨fun p => ?_, hK _ ?_⟩
                · exact bw_of (w := w3) (p := p) (iwh_any p.W 0)
                clear hK K
                iterate 1 (quiet_step (fail))
                iterate 1 (quiet_step (fail))
                refine wpQuiet_nil ?_
                intro w4 hw'
                obtain ⟨⟨wx, hb_w4⟩, rfl⟩ := hw'
                have kb4 := kb3.below hb_w4
                have fb4 := fb3.below hb_w4
                have hb4 := hb3.trans (hb_w4.mono hb3.size)
                clear q6 q7 hb_w4 hVF hq tb3 fb3 kb3 hb3
                obtain ⟨_, x0, x1, x2, x3, _⟩ := id kb4
                obtain ⟨_, f0, f1, f2⟩ := id fb4
                have hB4 := hB.trans (hb4.mono hBz)
                go_wp2
                by_cases hk1 : k = 0
                · subst hk1
                  go_quiet (fail)
                  have hok2 : Hid (∀ j, j < 0 + 1 → TOk ⟨n, e, s, ts⟩ j) := fun j hj => by
                    obtain rfl : j = 0 := by omega
                    unfold TOk
                    dsimp only
                    rw [hBk]
                    exact ⟨v1, by simpa using v2, by simpa [Least] using v3, v4, hy3, fun c => absurd c (by omega)⟩
                  go_wp2
                  go_roundw
                  case rel => exact ⟨0 + 1, by omega, by go_num, hok2, kb4.drewN _, below_drewN hB4 _⟩
                  case measure => simp [intOf]; omega
                · obtain ⟨k', rfl⟩ : ∃ k', k = k' + 1 := ⟨k - 1, by omega⟩
                  have hgp := hg k' (by omega)
                  obtain ⟨z0, z1, z2, z3, z4, hz⟩ : ∃ z0 z1 z2 z3 z4, tAt ts k' = ⟨z0, z1, z2, z3, z4⟩ := ⟨_, _, _, _, _, rfl⟩
                  rw [hz] at hgp
                  have e2 : w4.cell? ⟨b, off + k' * 5 + 2, none⟩ = some (.int .u32 z2) := (hB4.cell (p := ⟨b, _, none⟩) hb).trans hgp.2.2.1
                  have hz0 := hbd.out k' (by rw [hld.out]; omega)
                  rw [hz] at hz0
                  dsimp only at hz0
                  clear hgp hg
                  by_cases v6 : z2 < (m2 : Int)
                  · have hd6 : decide ((m2 : Int) ≤ z2) = false := decide_eq_false (by omega)
                    go_quiet (fail)
                    have hok2 : Hid (∀ j, j < k' + 1 + 1 → TOk ⟨n, e, s, ts⟩ j) := fun j hj => by
                      by_cases c : j = k' + 1
                      · subst c
                        unfold TOk
                        dsimp only
                        rw [hBk, Nat.add_sub_cancel, hz]
                        exact ⟨v1, by simpa using v2, by simpa [Least] using v3, v4, hy3, fun _ => v6⟩
                      · exact hok.out j (by omega)
                    go_wp2
                    go_roundw
                    case rel => exact ⟨k' + 1 + 1, by omega, by go_num, hok2, kb4.drewN _, below_drewN hB4 _⟩
                    case measure => simp [intOf]; omega
                  · have hd6 : decide ((m2 : Int) ≤ z2) = true := decide_eq_true (by omega)
                    obtain rfl : B = false := by
                      rw [Bool.eq_false_iff]
                      intro c
                      have ht := (hB0.out.1 c) (k' + 1) hlt
                      rw [hBk, Nat.add_sub_cancel, hz] at ht
                      exact v6 (ht.2.2.2.2.2 (by omega))
                    go_quiet (fail)
                    go_wp2
                    go_ret
                    exact ⟨rfl, below_drewN hB4 _⟩
            · rw [decide_eq_false v4] at hVF
              obtain rfl : B = false := by
                rw [Bool.eq_false_iff]
                intro c
                have ht := (hB0.out.1 c) k hlt
                rw [hBk] at ht
                exact v4 ht.2.2.2.1
              refine wp_region_below (by kernel_rfl) (by kernel_rfl) ?_
              iterate 2 (quiet_step (fail))
              refine wpQuiet_step (fun K hK => ?_)
              go_simp
              apply Exists.intro
              refine ⟨fun p => ?_, hK _ ?_⟩
              · exact bw_of (w := w3) (p := p) (hVF.out p.W)
              clear hK K
              iterate 2 (quiet_step (fail))
              iterate 4 go_big_quiet_skip
              iterate 1 (quiet_step (fail))
              refine wpQuiet_nil ?_
              intro w4 hw'
              obtain ⟨⟨wx, hb_w4⟩, rfl⟩ := hw'
              go_wp2
              go_ret
              exact ⟨rfl, hB.trans ((hb3.trans (hb_w4.mono hb3.size)).mono hBz)⟩
          · obtain ⟨z, hz⟩ : ∃ z, leastK m1 m0 m2 = z := ⟨_, rfl⟩
            rw [hz] at hV3 v3
            have hq : ∀ W, (Op.equalIn 10000 85 (.agg #[.int .i64 (m0 : Int), .int .i64 (m1 : Int), .int .u32 (z : Int)]) (.agg #[.int .i64 (m0 : Int), .int .i64 (m1 : Int), .int .u32 (m2 : Int)])).run Tryz.prog W = .ok false W := fun W => by
              rw [eqFl]
              have : ((m0 : Int) == (m0 : Int) && ((m1 : Int) == (m1 : Int) && (z : Int) == (m2 : Int))) = false := by
                rw [Bool.eq_false_iff]
                intro h
                simp at h
                exact v3 (by omega)
              rw [this]
            obtain rfl : B = false := by
              rw [Bool.eq_false_iff]
              intro c
              have ht := (hB0.out.1 c) k hlt
              rw [hBk] at ht
              exact v3 (by rw [← hz]; simpa [Least] using ht.2.2.1)
            clear hz
            refine wp_region_below (by kernel_rfl) (by kernel_rfl) ?_
            iterate 1 (quiet_step (fail))
            refine wpQuiet_step (fun K hK => ?_)
            go_simp
            apply Exists.intro
            refine ⟨fun p => ?_, hK _ ?_⟩
            · exact bw_of (w := W1) (p := p) (hV1.out p.W)
            clear hK K
            iterate 2 (quiet_step (fail))
            iterate 5 (quiet_step (fail))
            refine wpQuiet_step (fun K hK => ?_)
            go_simp
            apply Exists.intro
            refine ⟨fun p => ?_, hK _ ?_⟩
            · exact bw_of (w := W1) (p := p) (hV2.out p.W)
            clear hK K
            iterate 1 (quiet_step (fail))
            iterate 2 (quiet_step (fail))
            iterate 1 (quiet_step (fail))
            refine wpQuiet_step (fun K hK => ?_)
            go_simp
            apply Exists.intro
            refine ⟨fun p => ?_, hK _ ?_⟩
            · exact bw_of (w := W1) (p := p) (hV3.out p.W)
            clear hK K
            iterate 2 (quiet_step (fail))
            iterate 1 (quiet_step (fail))
            refine wpQuiet_nil ?_
            intro w3 hw'
            obtain ⟨⟨wx, hb_w3⟩, rfl⟩ := hw'
            go_wp2
            go_ret
            exact ⟨rfl, hB.trans ((hBW.trans (hb_w3.mono hBW.size)).mono hBz)⟩
        · have hV2 := Lib.hid (fun W => iof_any W m0 m1 m2 n e s v1 false ⟨fun c => (by cases c), fun c => absurd c v2⟩)
          obtain rfl : B = false := by
            rw [Bool.eq_false_iff]
            intro c
            have ht := (hB0.out.1 c) k hlt
            rw [hBk] at ht
            exact v2 (by simpa using ht.2.1)
          refine wp_region_below (by kernel_rfl) (by kernel_rfl) ?_
          iterate 1 (quiet_step (fail))
          refine wpQuiet_step (fun K hK => ?_)
          go_simp
          apply Exists.intro
          refine ⟨fun p => ?_, hK _ ?_⟩
          · exact bw_of (w := W1) (p := p) (hV1.out p.W)
          clear hK K
          iterate 2 (quiet_step (fail))
          iterate 5 (quiet_step (fail))
          refine wpQuiet_step (fun K hK => ?_)
          go_simp
          apply Exists.intro
          refine ⟨fun p => ?_, hK _ ?_⟩
          · exact bw_of (w := W1) (p := p) (hV2.out p.W)
          clear hK K
          iterate 1 (quiet_step (fail))
          iterate 2 (quiet_step (fail))
          iterate 4 go_big_quiet_skip
          iterate 1 (quiet_step (fail))
          refine wpQuiet_nil ?_
          intro w3 hw'
          obtain ⟨⟨wx, hb_w3⟩, rfl⟩ := hw'
          go_wp2
          go_ret
          exact ⟨rfl, hB.trans ((hBW.trans (hb_w3.mono hBW.size)).mono hBz)⟩
      · have hV1 := Lib.hid (fun W => ivk_f W y0 y1 y2 (by omega) (by omega) v1)
        obtain rfl : B = false := by
          rw [Bool.eq_false_iff]
          intro c
          have ht := (hB0.out.1 c) k hlt
          rw [hBk] at ht
          exact v1 ht.1
        refine wp_region_below (by kernel_rfl) (by kernel_rfl) ?_
        iterate 1 (quiet_step (fail))
        refine wpQuiet_step (fun K hK => ?_)
        go_simp
        apply Exists.intro
        refine ⟨fun p => ?_, hK _ ?_⟩
        · exact bw_of (w := W1) (p := p) (hV1.out p.W)
        clear hK K
        iterate 2 (quiet_step (fail))
        iterate 7 go_big_quiet_skip
        iterate 2 (quiet_step (fail))
        iterate 4 go_big_quiet_skip
        iterate 1 (quiet_step (fail))
        refine wpQuiet_nil ?_
        intro w3 hw'
        obtain ⟨⟨wx, hb_w3⟩, rfl⟩ := hw'
        go_wp2
        go_ret
        exact ⟨rfl, hB.trans ((hBW.trans (hb_w3.mono hBW.size)).mono hBz)⟩
    · obtain rfl : k = l := by omega
      have hd := decide_eq_false (show ¬ ((k : Int) < (k : Int)) by omega)
      obtain rfl : B = true := hB0.out.2 (fun i hi => hok.out i hi)
      go_wp2
      go_ret
      exact ⟨rfl, hB⟩
end
end Go.Proofs.YtiedombphcdpbaaGreatDoor
/-
  Is a sum of flags valid: the model's contract.
-/
namespace Go.Proofs.YtiedombphcdpbaaGreatDoor
open Go.RowKit Go.Shelf
set_option maxRecDepth 100000
attribute [local go_sem] Oper.semAt_some
section
variable (w : World)
theorem sv5_type (G : Nat) (n e s : Int) (a : Option Addr) (l cap : Nat) (c1 : SB w G n e s (.slice a l cap)) (he : e < 4294967296) (h0 : 0 ≤ e) (hv : ¬ VG n e) :
    Calls Tryz.prog 27 #[.pointer (some ⟨G, 0, none⟩)] w fun r w' => r = .returned (.bool false) ∧ Below w.heap.size w w' := by
  have hV := Lib.hid (fun W => ok_f W n e he h0 hv)
  have q0 := bw_cell c1.lt c1.c0
  have q1 := bw_cell c1.lt c1.c1
  have q2 := bw_cell c1.lt c1.c2
  have q3 := bw_cell c1.lt c1.c3
  clear hv he h0 c1
  go_enter Tryz.func27, Tryz.ntmps27
  go_wp2
  refine wp_region_below (by kernel_rfl) (by kernel_rfl) ?_
  iterate 4 (quiet_step (fail))
  refine wpQuiet_step (fun K hK => ?_)
  go_simp
  apply Exists.intro
  refine ⟨fun p => ?_, hK _ ?_⟩
  · exact bw_of (w := w) (p := p) (hV.out p.W)
  clear hK K
  iterate 2 (quiet_step (fail))
  iterate 10 go_big_quiet_skip
  iterate 2 (quiet_step (fail))
  iterate 6 go_big_quiet_skip
  iterate 1 (quiet_step (fail))
  refine wpQuiet_nil ?_
  intro w3 hw'
  obtain ⟨⟨wx, hb_w3⟩, rfl⟩ := hw'
  go_wp2
  go_ret
  exact ⟨rfl, hb_w3⟩
theorem sv5_frame (G : Nat) (n e s : Int) (a : Option Addr) (l cap : Nat) (c1 : SB w G n e s (.slice a l cap)) (hv : VG n e) (hf : frB n s = false) :
    Calls Tryz.prog 27 #[.pointer (some ⟨G, 0, none⟩)] w fun r w' => r = .returned (.bool false) ∧ Below w.heap.size w w' := by
  have hV := Lib.hid (fun W => ok_t W n e hv)
  have hF := Lib.hid (fun W => sfr_any W n e s)
  rw [hf] at hF
  have q0 := bw_cell c1.lt c1.c0
  have q1 := bw_cell c1.lt c1.c1
  have q2 := bw_cell c1.lt c1.c2
  have q3 := bw_cell c1.lt c1.c3
  clear hv hf c1
  go_enter Tryz.func27, Tryz.ntmps27
  go_wp2
  refine wp_region_below (by kernel_rfl) (by kernel_rfl) ?_
  iterate 4 (quiet_step (fail))
  refine wpQuiet_step (fun K hK => ?_)
  go_simp
  apply Exists.intro
  refine ⟨fun p => ?_, hK _ ?_⟩
  · exact bw_of (w := w) (p := p) (hV.out p.W)
  clear hK K
  iterate 2 (quiet_step (fail))
  iterate 8 (quiet_step (fail))
  refine wpQuiet_step (fun K hK => ?_)
  go_simp
  apply Exists.intro
  refine ⟨fun p => ?_, hK _ ?_⟩
  · exact bw_of (w := w) (p := p) (hF.out p.W)
  clear hK K
  iterate 1 (quiet_step (fail))
  iterate 2 (quiet_step (fail))
  iterate 6 go_big_quiet_skip
  iterate 1 (quiet_step (fail))
  refine wpQuiet_nil ?_
  intro w3 hw'
  obtain ⟨⟨wx, hb_w3⟩, rfl⟩ := hw'
  go_wp2
  go_ret
  exact ⟨rfl, hb_w3⟩
theorem sv5_len (G : Nat) (n e s : Int) (a : Option Addr) (l cap : Nat) (c1 : SB w G n e s (.slice a l cap)) (hl : 64 < l) (hl2 : l ≤ 9223372036854775807) (hv : VG n e) (hf : frB n s = true) :
    Calls Tryz.prog 27 #[.pointer (some ⟨G, 0, none⟩)] w fun r w' => r = .returned (.bool false) ∧ Below w.heap.size w w' := by
  have hV := Lib.hid (fun W => ok_t W n e hv)
  have hF := Lib.hid (fun W => sfr_any W n e s)
  rw [hf] at hF
  have q0 := bw_cell c1.lt c1.c0
  have q1 := bw_cell c1.lt c1.c1
  have q2 := bw_cell c1.lt c1.c2
  have q3 := bw_cell c1.lt c1.c3
  clear hv hf c1
  go_enter Tryz.func27, Tryz.ntmps27
  go_wp2
  refine wp_region_below (by kernel_rfl) (by kernel_rfl) ?_
  iterate 4 (quiet_step (fail))
  refine wpQuiet_step (fun K hK => ?_)
  go_simp
  apply Exists.intro
  refine ⟨fun p => ?_, hK _ ?_⟩
  · exact bw_of (w := w) (p := p) (hV.out p.W)
  clear hK K
  iterate 2 (quiet_step (fail))
  iterate 8 (quiet_step (fail))
  refine wpQuiet_step (fun K hK => ?_)
  go_simp
  apply Exists.intro
  refine ⟨fun p => ?_, hK _ ?_⟩
  · exact bw_of (w := w) (p := p) (hF.out p.W)
  clear hK K
  iterate 1 (quiet_step (fail))
  iterate 2 (quiet_step (fail))
  iterate 6 (quiet_step (fail))
  iterate 1 (quiet_step (fail))
  refine wpQuiet_nil ?_
  intro w3 hw'
  obtain ⟨⟨wx, hb_w3⟩, rfl⟩ := hw'
  go_wp2
  go_ret
  exact ⟨rfl, hb_w3⟩
set_option maxHeartbeats 16000000 in
theorem sv5_ok (G : Nat) (n e s : Int) (ts : List TE) (u : Value) (c1 : SB w G n e s u) (hS : SlT w u ts) (hbd : BdT ts) (hl : ts.length ≤ 64) (hv : VG n e) (hf : frB n s = true) (B : Bool) (hB0 : B = true ↔ ∀ i, i < ts.length → TOk ⟨n, e, s, ts⟩ i) :
    Calls Tryz.prog 27 #[.pointer (some ⟨G, 0, none⟩)] w fun r w' => r = .returned (.bool B) ∧ Below w.heap.size w w' := by
  unfold TOk at hB0
  dsimp only at hB0
  obtain ⟨a, cap, rfl, h1, h2, h3⟩ := hS
  have hV := Lib.hid (fun W => ok_t W n e hv)
  have hF := Lib.hid (fun W => sfr_any W n e s)
  rw [hf] at hF
  replace hB0 := Lib.hid hB0
  replace hbd := Lib.hid hbd
  obtain ⟨l, hld⟩ : ∃ l, ts.length = l := ⟨_, rfl⟩
  have h3b : Hid (0 < l → ∃ b off, a = some ⟨b, off, none⟩ ∧ b < w.heap.size ∧ ∀ i, i < l → TCell w b off (tAt ts i) i) := fun h => by rw [← hld] at h ⊢; exact h3 (List.length_pos_iff.1 h)
  rw [hld] at h1 hl hB0 c1
  replace hld := Lib.hid hld
  clear h3 hv hf
  have q0 := bw_cell c1.lt c1.c0
  have q1 := bw_cell c1.lt c1.c1
  have q2 := bw_cell c1.lt c1.c2
  have q3 := bw_cell c1.lt c1.c3
  go_enter Tryz.func27, Tryz.ntmps27
  go_wp2
  refine wp_region_below (by kernel_rfl) (by kernel_rfl) ?_
  iterate 4 (quiet_step (fail))
  refine wpQuiet_step (fun K hK => ?_)
  go_simp
  apply Exists.intro
  refine ⟨fun p => ?_, hK _ ?_⟩
  · exact bw_of (w := w) (p := p) (hV.out p.W)
  clear hK K
  iterate 2 (quiet_step (fail))
  iterate 8 (quiet_step (fail))
  refine wpQuiet_step (fun K hK => ?_)
  go_simp
  apply Exists.intro
  refine ⟨fun p => ?_, hK _ ?_⟩
  · exact bw_of (w := w) (p := p) (hF.out p.W)
  clear hK K
  iterate 1 (quiet_step (fail))
  iterate 2 (quiet_step (fail))
  iterate 6 (quiet_step (fail))
  iterate 1 (quiet_step (fail))
  refine wpQuiet_nil ?_
  intro w2 hw'
  obtain ⟨⟨wx, hb_w2⟩, rfl⟩ := hw'
  have c2 := c1.below hb_w2
  clear q0 q1 q2 q3 hV hF
  obtain ⟨_, x0, x1, x2, x3, _⟩ := id c2
  go_wp2
  go_loopw [3, 4] (fun i _ wr => ∃ k : Nat, k ≤ l ∧ i = .int .i64 k ∧ Hid (∀ j, j < k → TOk ⟨n, e, s, ts⟩ j) ∧ SB wr G n e s (.slice a l cap) ∧ Below w.heap.size w wr) (fun i _ _ => l - (intOf i).toNat)
  case atStart => exact ⟨0, by omega, rfl, fun j hj => by omega, c2, hb_w2⟩
  case round =>
    clear c2 x0 x1 x2 x3 hb_w2 c1
    obtain ⟨k, hk, rfl, hok, kr, hB⟩ := hrel
    obtain ⟨ltG, x0, x1, x2, x3, _⟩ := id kr
    by_cases hlt : k < l
    · obtain ⟨b, off, rfl, hb, hg⟩ := h3b.out (by omega)
      have hgk := hg k hlt
      have hbk := hbd.out k (by rw [hld.out]; exact hlt)
      obtain ⟨g, hBk⟩ : ∃ g, tAt ts k = g := ⟨_, rfl⟩
      obtain ⟨y0, y1, y2, y3, y4⟩ := g
      rw [hBk] at hgk hbk
      dsimp only at hbk
      have s0 : wr.cell? ⟨b, off + k * 5, none⟩ = some (.int .i64 y0) := by rw [hB.cell (p := ⟨b, _, none⟩) hb]; exact hgk.1
      have s1 : wr.cell? ⟨b, off + k * 5 + 1, none⟩ = some (.int .i64 y1) := by rw [hB.cell (p := ⟨b, _, none⟩) hb]; exact hgk.2.1
      have s2 : wr.cell? ⟨b, off + k * 5 + 2, none⟩ = some (.int .u32 y2) := by rw [hB.cell (p := ⟨b, _, none⟩) hb]; exact hgk.2.2.1
      have s3 : wr.cell? ⟨b, off + k * 5 + 3, none⟩ = some (.int .i64 y3) := by rw [hB.cell (p := ⟨b, _, none⟩) hb]; exact hgk.2.2.2.1
      have s4 : wr.cell? ⟨b, off + k * 5 + 4, none⟩ = some (.int .i64 y4) := by rw [hB.cell (p := ⟨b, _, none⟩) hb]; exact hgk.2.2.2.2
      have hkl : (k : Int) < (l : Int) := by omega
      have hk0 : (0 : Int) ≤ (k : Int) := by omega
      obtain ⟨W1, hW1⟩ : ∃ W1, W1 = wr.alloc (.cells #[.int .i64 y0, .int .i64 y1, .int .u32 y2] 85) := ⟨_, rfl⟩
      have hBW : Below wr.heap.size wr W1 := by rw [hW1]; (repeat (first | exact Below.refl _ _ | assumption | refine bchain (by assumption) ?_ | refine balloc ?_ _ | apply Below.drew | apply below_drewN | (refine Below.alloc ?_ (by (try simp) <;> omega) _) | (refine Below.setCell ?_ (by (try simp) <;> omega) _)))
      have fb : FC W1 wr.heap.size y0 y1 y2 := by rw [hW1]; exact FC.made _ _ _ _ _
      have kb := kr.below hBW
      replace hW1 := Lib.hid hW1
      clear hgk
      have q0 := bw_cell fb.lt fb.c0
      have q1 := bw_cell fb.lt fb.c1
      have q2 := bw_cell fb.lt fb.c2
      have q3 := bw_cell kb.lt kb.c0
      have q4 := bw_cell kb.lt kb.c1
      have q5 := bw_cell kb.lt kb.c2
      have q6 := bw_cell kb.lt kb.c3
      have hBz := hB.size
      have hbr : b < wr.heap.size := by omega
      have hVF := Lib.hid (fun W => Fr.ok_any W y3 y4)
      go_wp2
      rw [← hW1.out]
      clear x0 x1 x2 x3
      by_cases v1 : VK y0 y1 y2
      · obtain ⟨m0, m1, m2, rfl, rfl, rfl⟩ : ∃ a b c : Nat, y0 = a ∧ y1 = b ∧ y2 = c := ⟨y0.toNat, y1.toNat, y2.toNat, by have := v1.2.1; omega, by have := v1.1.1; omega, by omega⟩
        have hV1 := Lib.hid (fun W => sok_t W m0 m1 m2 v1)
        by_cases v2 : Fits m0 m1 m2 n e s
        · have hV2 := Lib.hid (fun W => sof_any W m0 m1 m2 n e s v1 true ⟨fun _ => v2, fun _ => rfl⟩)
          have hV3 := Lib.hid (fun W => sleastK_any W m0 m1 m2 v1)
          by_cases v3 : leastK m1 m0 m2 = m2
          · rw [v3] at hV3
            have hq : ∀ W, (Op.equalIn 10000 85 (.agg #[.int .i64 (m0 : Int), .int .i64 (m1 : Int), .int .u32 (m2 : Int)]) (.agg #[.int .i64 (m0 : Int), .int .i64 (m1 : Int), .int .u32 (m2 : Int)])).run Tryz.prog W = .ok true W := fun W => by rw [eqFl]; simp
            by_cases hk1 : k = 0
            · subst hk1
              refine wp_region_below (by kernel_rfl) (by kernel_rfl) ?_
              iterate 1 (quiet_step (fail))
              refine wpQuiet_step (fun K hK => ?_)
              go_simp
              apply Exists.intro
              refine ⟨fun p => ?_, hK _ ?_⟩
              · exact bw_of (w := W1) (p := p) (hV1.out p.W)
              clear hK K
              iterate 2 (quiet_step (fail))
              iterate 9 (quiet_step (fail))
              refine wpQuiet_step (fun K hK => ?_)
              go_simp
              apply Exists.intro
              refine ⟨fun p => ?_, hK _ ?_⟩
              · exact bw_of (w := W1) (p := p) (hV2.out p.W)
              clear hK K
              iterate 1 (quiet_step (fail))
              iterate 2 (quiet_step (fail))
              iterate 1 (quiet_step (fail))
              refine wpQuiet_step (fun K hK => ?_)
              go_simp
              apply Exists.intro
              refine ⟨fun p => ?_, hK _ ?_⟩
              · exact bw_of (w := W1) (p := p) (hV3.out p.W)
              clear hK K
              iterate 2 (quiet_step (fail))
              iterate 2 (quiet_step (fail))
              iterate 3 (quiet_step (fail))
              iterate 15 go_big_quiet_skip
              iterate 2 (quiet_step (fail))
              refine wpQuiet_nil ?_
              intro w3 hw'
              obtain ⟨⟨wx, hb_w3⟩, rfl⟩ := hw'
              have kb3 := kb.below hb_w3
              have hb3 := hBW.trans (hb_w3.mono hBW.size)
              have hB3 := hB.trans (hb3.mono hBz)
              have p3 : w3.cell? ⟨b, off + 0 * 5 + 3, none⟩ = some (.int .i64 y3) := (hb3.cell (p := ⟨b, _, none⟩) hbr).trans s3
              have p4 : w3.cell? ⟨b, off + 0 * 5 + 4, none⟩ = some (.int .i64 y4) := (hb3.cell (p := ⟨b, _, none⟩) hbr).trans s4
              obtain ⟨_, x0, x1, x2, x3, _⟩ := id kb3
              clear q0 q1 q2 q3 q4 q5 hb_w3 hV1 hV2 hV3 fb kb hq
              by_cases v4 : Fr.VF y3 y4
              · rw [decide_eq_true v4] at hVF
                go_wp2_with fail
                refine (hVF.out _).mono ?_
                rintro r4 w4 ⟨rfl, hb4⟩
                have kb4 := kb3.below hb4
                have hB4 := bchain hb4 hB3
                have u3 : w4.cell? ⟨b, off + 0 * 5 + 3, none⟩ = some (.int .i64 y3) := (hb4.cell (p := ⟨b, _, none⟩) (by show b < _; have := hB3.size; omega)).trans p3
                clear hb4 x0 x1 x2 x3 p3 p4
                obtain ⟨_, x0, x1, x2, x3, _⟩ := id kb4
                by_cases v5 : y3 = 0
                · subst v5
                  obtain rfl : B = false := by
                    rw [Bool.eq_false_iff]
                    intro c
                    have ht := (hB0.out.1 c) (0) hlt
                    rw [hBk] at ht
                    exact ht.2.2.2.2.1 rfl
                  go_wp2
                  go_ret
                  exact ⟨rfl, hB4⟩
                · have hy : (y3 == 0) = false := by simp; exact v5
                  have hok2 : Hid (∀ j, j < 0 + 1 → TOk ⟨n, e, s, ts⟩ j) := fun j hj => by
                    obtain rfl : j = 0 := by omega
                    unfold TOk
                    dsimp only
                    rw [hBk]
                    exact ⟨v1, by simpa using v2, by simpa [Least] using v3, v4, v5, fun c => absurd c (by omega)⟩
                  clear hok
                  go_wp2
                  go_roundw
                  case rel => exact ⟨0 + 1, by omega, by go_num, hok2, kb4, hB4⟩
                  case measure => simp [intOf]; omega
              · rw [decide_eq_false v4] at hVF
                obtain rfl : B = false := by
                  rw [Bool.eq_false_iff]
                  intro c
                  have ht := (hB0.out.1 c) (0) hlt
                  rw [hBk] at ht
                  exact v4 ht.2.2.2.1
                go_wp2_with fail
                refine (hVF.out _).mono ?_
                rintro r4 w4 ⟨rfl, hb4⟩
                go_wp2
                go_ret
                exact ⟨rfl, bchain hb4 hB3⟩
            · obtain ⟨k', rfl⟩ : ∃ k', k = k' + 1 := ⟨k - 1, by omega⟩
              have hgp := hg k' (by omega)
              obtain ⟨z0, z1, z2, z3, z4, hz⟩ : ∃ z0 z1 z2 z3 z4, tAt ts k' = ⟨z0, z1, z2, z3, z4⟩ := ⟨_, _, _, _, _, rfl⟩
              rw [hz] at hgp
              have e2 : W1.cell? ⟨b, off + k' * 5 + 2, none⟩ = some (.int .u32 z2) := ((hB.trans (hBW.mono hBz)).cell (p := ⟨b, _, none⟩) hb).trans hgp.2.2.1
              have q7 := bw_cell (show b < W1.heap.size by have := hBW.size; omega) e2
              have hz0 := hbd.out k' (by rw [hld.out]; omega)
              rw [hz] at hz0
              dsimp only at hz0
              clear hgp hg e2
              have hwk : IntKind.i64.wrap (k' : Int) = (k' : Int) := IntWalk.i64_in _ ⟨by omega, by omega⟩
              have hkk : (k' : Int) < (l : Int) := by omega
              by_cases v6 : z2 < (m2 : Int)
              · have hd6 : decide ((m2 : Int) ≤ z2) = false := decide_eq_false (by omega)
                refine wp_region_below (by kernel_rfl) (by kernel_rfl) ?_
                iterate 1 (quiet_step (fail))
                refine wpQuiet_step (fun K hK => ?_)
                go_simp
                apply Exists.intro
                refine ⟨fun p => ?_, hK _ ?_⟩
                · exact bw_of (w := W1) (p := p) (hV1.out p.W)
                clear hK K
                iterate 2 (quiet_step (fail))
                iterate 9 (quiet_step (fail))
                refine wpQuiet_step (fun K hK => ?_)
                go_simp
                apply Exists.intro
                refine ⟨fun p => ?_, hK _ ?_⟩
                · exact bw_of (w := W1) (p := p) (hV2.out p.W)
                clear hK K
                iterate 1 (quiet_step (fail))
                iterate 2 (quiet_step (fail))
                iterate 1 (quiet_step (fail))
                refine wpQuiet_step (fun K hK => ?_)
                go_simp
                apply Exists.intro
                refine ⟨fun p => ?_, hK _ ?_⟩
                · exact bw_of (w := W1) (p := p) (hV3.out p.W)
                clear hK K
                iterate 2 (quiet_step (fail))
                iterate 2 (quiet_step (fail))
                iterate 3 (quiet_step (fail))
                iterate 15 (quiet_step (fail))
                iterate 2 (quiet_step (fail))
                refine wpQuiet_nil ?_
                intro w3 hw'
                obtain ⟨⟨wx, hb_w3⟩, rfl⟩ := hw'
                clear q7
                have kb3 := kb.below hb_w3
                have hb3 := hBW.trans (hb_w3.mono hBW.size)
                have hB3 := hB.trans (hb3.mono hBz)
                have p3 : w3.cell? ⟨b, off + (k' + 1) * 5 + 3, none⟩ = some (.int .i64 y3) := (hb3.cell (p := ⟨b, _, none⟩) hbr).trans s3
                have p4 : w3.cell? ⟨b, off + (k' + 1) * 5 + 4, none⟩ = some (.int .i64 y4) := (hb3.cell (p := ⟨b, _, none⟩) hbr).trans s4
                obtain ⟨_, x0, x1, x2, x3, _⟩ := id kb3
                clear q0 q1 q2 q3 q4 q5 hb_w3 hV1 hV2 hV3 fb kb hq
                by_cases v4 : Fr.VF y3 y4
                · rw [decide_eq_true v4] at hVF
                  go_wp2_with fail
                  refine (hVF.out _).mono ?_
                  rintro r4 w4 ⟨rfl, hb4⟩
                  have kb4 := kb3.below hb4
                  have hB4 := bchain hb4 hB3
                  have u3 : w4.cell? ⟨b, off + (k' + 1) * 5 + 3, none⟩ = some (.int .i64 y3) := (hb4.cell (p := ⟨b, _, none⟩) (by show b < _; have := hB3.size; omega)).trans p3
                  clear hb4 x0 x1 x2 x3 p3 p4
                  obtain ⟨_, x0, x1, x2, x3, _⟩ := id kb4
                  by_cases v5 : y3 = 0
                  · subst v5
                    obtain rfl : B = false := by
                      rw [Bool.eq_false_iff]
                      intro c
                      have ht := (hB0.out.1 c) ((k' + 1)) hlt
                      rw [hBk] at ht
                      exact ht.2.2.2.2.1 rfl
                    go_wp2
                    go_ret
                    exact ⟨rfl, hB4⟩
                  · have hy : (y3 == 0) = false := by simp; exact v5
                    have hok2 : Hid (∀ j, j < (k' + 1) + 1 → TOk ⟨n, e, s, ts⟩ j) := fun j hj => by
                      by_cases c : j = k' + 1
                      · subst c
                        unfold TOk
                        dsimp only
                        rw [hBk, Nat.add_sub_cancel, hz]
                        exact ⟨v1, by simpa using v2, by simpa [Least] using v3, v4, v5, fun _ => v6⟩
                      · exact hok.out j (by omega)
                    clear hok
                    go_wp2
                    go_roundw
                    case rel => exact ⟨(k' + 1) + 1, by omega, by go_num, hok2, kb4, hB4⟩
                    case measure => simp [intOf]; omega
                · rw [decide_eq_false v4] at hVF
                  obtain rfl : B = false := by
                    rw [Bool.eq_false_iff]
                    intro c
                    have ht := (hB0.out.1 c) ((k' + 1)) hlt
                    rw [hBk] at ht
                    exact v4 ht.2.2.2.1
                  go_wp2_with fail
                  refine (hVF.out _).mono ?_
                  rintro r4 w4 ⟨rfl, hb4⟩
                  go_wp2
                  go_ret
                  exact ⟨rfl, bchain hb4 hB3⟩
              · have hd6 : decide ((m2 : Int) ≤ z2) = true := decide_eq_true (by omega)
                obtain rfl : B = false := by
                  rw [Bool.eq_false_iff]
                  intro c
                  have ht := (hB0.out.1 c) (k' + 1) hlt
                  rw [hBk, Nat.add_sub_cancel, hz] at ht
                  exact v6 (ht.2.2.2.2.2 (by omega))
                refine wp_region_below (by kernel_rfl) (by kernel_rfl) ?_
                iterate 1 (quiet_step (fail))
                refine wpQuiet_step (fun K hK => ?_)
                go_simp
                apply Exists.intro
                refine ⟨fun p => ?_, hK _ ?_⟩
                · exact bw_of (w := W1) (p := p) (hV1.out p.W)
                clear hK K
                iterate 2 (quiet_step (fail))
                iterate 9 (quiet_step (fail))
                refine wpQuiet_step (fun K hK => ?_)
                go_simp
                apply Exists.intro
                refine ⟨fun p => ?_, hK _ ?_⟩
                · exact bw_of (w := W1) (p := p) (hV2.out p.W)
                clear hK K
                iterate 1 (quiet_step (fail))
                iterate 2 (quiet_step (fail))
                iterate 1 (quiet_step (fail))
                refine wpQuiet_step (fun K hK => ?_)
                go_simp
                apply Exists.intro
                refine ⟨fun p => ?_, hK _ ?_⟩
                · exact bw_of (w := W1) (p := p) (hV3.out p.W)
                clear hK K
                iterate 2 (quiet_step (fail))
                iterate 2 (quiet_step (fail))
                iterate 3 (quiet_step (fail))
                iterate 15 (quiet_step (fail))
                iterate 2 (quiet_step (fail))
                refine wpQuiet_nil ?_
                intro w3 hw'
                obtain ⟨⟨wx, hb_w3⟩, rfl⟩ := hw'
                go_wp2
                go_ret
                exact ⟨rfl, hB.trans ((hBW.trans (hb_w3.mono hBW.size)).mono hBz)⟩
          · obtain ⟨z, hz⟩ : ∃ z, leastK m1 m0 m2 = z := ⟨_, rfl⟩
            rw [hz] at hV3 v3
            have hq : ∀ W, (Op.equalIn 10000 85 (.agg #[.int .i64 (m0 : Int), .int .i64 (m1 : Int), .int .u32 (z : Int)]) (.agg #[.int .i64 (m0 : Int), .int .i64 (m1 : Int), .int .u32 (m2 : Int)])).run Tryz.prog W = .ok false W := fun W => by
              rw [eqFl]
              have : ((m0 : Int) == (m0 : Int) && ((m1 : Int) == (m1 : Int) && (z : Int) == (m2 : Int))) = false := by
                rw [Bool.eq_false_iff]
                intro h
                simp at h
                exact v3 (by omega)
              rw [this]
            obtain rfl : B = false := by
              rw [Bool.eq_false_iff]
              intro c
              have ht := (hB0.out.1 c) k hlt
              rw [hBk] at ht
              exact v3 (by rw [← hz]; simpa [Least] using ht.2.2.1)
            clear hz
            refine wp_region_below (by kernel_rfl) (by kernel_rfl) ?_
            iterate 1 (quiet_step (fail))
            refine wpQuiet_step (fun K hK => ?_)
            go_simp
            apply Exists.intro
            refine ⟨fun p => ?_, hK _ ?_⟩
            · exact bw_of (w := W1) (p := p) (hV1.out p.W)
            clear hK K
            iterate 2 (quiet_step (fail))
            iterate 9 (quiet_step (fail))
            refine wpQuiet_step (fun K hK => ?_)
            go_simp
            apply Exists.intro
            refine ⟨fun p => ?_, hK _ ?_⟩
            · exact bw_of (w := W1) (p := p) (hV2.out p.W)
            clear hK K
            iterate 1 (quiet_step (fail))
            iterate 2 (quiet_step (fail))
            iterate 1 (quiet_step (fail))
            refine wpQuiet_step (fun K hK => ?_)
            go_simp
            apply Exists.intro
            refine ⟨fun p => ?_, hK _ ?_⟩
            · exact bw_of (w := W1) (p := p) (hV3.out p.W)
            clear hK K
            iterate 2 (quiet_step (fail))
            iterate 2 (quiet_step (fail))
            iterate 3 go_big_quiet_skip
            iterate 15 go_big_quiet_skip
            iterate 1 go_big_quiet_skip
            iterate 1 (quiet_step (fail))
            refine wpQuiet_nil ?_
            intro w3 hw'
            obtain ⟨⟨wx, hb_w3⟩, rfl⟩ := hw'
            go_wp2
            go_ret
            exact ⟨rfl, hB.trans ((hBW.trans (hb_w3.mono hBW.size)).mono hBz)⟩
        · have hV2 := Lib.hid (fun W => sof_any W m0 m1 m2 n e s v1 false ⟨fun c => (by cases c), fun c => absurd c v2⟩)
          obtain rfl : B = false := by
            rw [Bool.eq_false_iff]
            intro c
            have ht := (hB0.out.1 c) k hlt
            rw [hBk] at ht
            exact v2 (by simpa using ht.2.1)
          refine wp_region_below (by kernel_rfl) (by kernel_rfl) ?_
          iterate 1 (quiet_step (fail))
          refine wpQuiet_step (fun K hK => ?_)
          go_simp
          apply Exists.intro
          refine ⟨fun p => ?_, hK _ ?_⟩
          · exact bw_of (w := W1) (p := p) (hV1.out p.W)
          clear hK K
          iterate 2 (quiet_step (fail))
          iterate 9 (quiet_step (fail))
          refine wpQuiet_step (fun K hK => ?_)
          go_simp
          apply Exists.intro
          refine ⟨fun p => ?_, hK _ ?_⟩
          · exact bw_of (w := W1) (p := p) (hV2.out p.W)
          clear hK K
          iterate 1 (quiet_step (fail))
          iterate 2 (quiet_step (fail))
          iterate 4 go_big_quiet_skip
          iterate 2 (quiet_step (fail))
          iterate 3 go_big_quiet_skip
          iterate 15 go_big_quiet_skip
          iterate 1 go_big_quiet_skip
          iterate 1 (quiet_step (fail))
          refine wpQuiet_nil ?_
          intro w3 hw'
          obtain ⟨⟨wx, hb_w3⟩, rfl⟩ := hw'
          go_wp2
          go_ret
          exact ⟨rfl, hB.trans ((hBW.trans (hb_w3.mono hBW.size)).mono hBz)⟩
      · have hV1 := Lib.hid (fun W => sok_f W y0 y1 y2 (by omega) (by omega) v1)
        obtain rfl : B = false := by
          rw [Bool.eq_false_iff]
          intro c
          have ht := (hB0.out.1 c) k hlt
          rw [hBk] at ht
          exact v1 ht.1
        refine wp_region_below (by kernel_rfl) (by kernel_rfl) ?_
        iterate 1 (quiet_step (fail))
        refine wpQuiet_step (fun K hK => ?_)
        go_simp
        apply Exists.intro
        refine ⟨fun p => ?_, hK _ ?_⟩
        · exact bw_of (w := W1) (p := p) (hV1.out p.W)
        clear hK K
        iterate 2 (quiet_step (fail))
        iterate 11 go_big_quiet_skip
        iterate 2 (quiet_step (fail))
        iterate 4 go_big_quiet_skip
        iterate 2 (quiet_step (fail))
        iterate 3 go_big_quiet_skip
        iterate 15 go_big_quiet_skip
        iterate 1 go_big_quiet_skip
        iterate 1 (quiet_step (fail))
        refine wpQuiet_nil ?_
        intro w3 hw'
        obtain ⟨⟨wx, hb_w3⟩, rfl⟩ := hw'
        go_wp2
        go_ret
        exact ⟨rfl, hB.trans ((hBW.trans (hb_w3.mono hBW.size)).mono hBz)⟩
    · obtain rfl : k = l := by omega
      have hd := decide_eq_false (show ¬ ((k : Int) < (k : Int)) by omega)
      obtain rfl : B = true := hB0.out.2 (fun i hi => hok.out i hi)
      go_wp2
      go_ret
      exact ⟨rfl, hB⟩
end
end Go.Proofs.YtiedombphcdpbaaGreatDoor
/-
  Which sums of flags are valid: the program's word and the model's.
-/
namespace Go.Proofs.YtiedombphcdpbaaGreatDoor
open Go.RowKit
set_option maxRecDepth 100000
section
variable (w : World)
theorem ivs_any (X : SM) (u : Value) (hS : SlT w u X.ts) (hbd : BdS X) (B : Bool) (hB : B = true ↔ VSum X) :
    Calls Tryz.prog 35 #[.agg #[.int .i64 X.n, .int .u32 X.e, .int .i64 X.s, u]] w fun r w' => r = .returned (.bool B) ∧ Below w.heap.size w w' := by
  by_cases hv : VG X.n X.e
  · cases hf : frB X.n X.s with
    | false =>
      obtain rfl : B = false := by
        rw [Bool.eq_false_iff]; intro c; have := (hB.1 c).2.1; rw [hf] at this; cases this
      exact ivs_frame w X.n X.e X.s u hv hf
    | true =>
      by_cases hl : X.ts.length ≤ 64
      · exact ivs_ok w X u hS hbd.2.2 hl hv hf B (hB.trans ⟨fun c => c.2.2.2, fun c => ⟨hv, hf, hl, c⟩⟩)
      · obtain rfl : B = false := by
          rw [Bool.eq_false_iff]; intro c; exact hl (hB.1 c).2.2.1
        obtain ⟨a, cap, rfl, h1, h2, _⟩ := hS
        exact ivs_len w X.n X.e X.s a X.ts.length cap (by omega) (by omega) hv hf
  · obtain rfl : B = false := by
      rw [Bool.eq_false_iff]; intro c; exact hv (hB.1 c).1
    exact ivs_type w X.n X.e X.s u hbd.2.1 hbd.1 hv
theorem sv5_any (X : SM) (u : Value) (G : Nat) (c1 : SB w G X.n X.e X.s u) (hS : SlT w u X.ts) (hbd : BdS X) (B : Bool) (hB : B = true ↔ VSum X) :
    Calls Tryz.prog 27 #[.pointer (some ⟨G, 0, none⟩)] w fun r w' => r = .returned (.bool B) ∧ Below w.heap.size w w' := by
  obtain ⟨a, cap, hu, h1, h2, _⟩ := id hS
  by_cases hv : VG X.n X.e
  · cases hf : frB X.n X.s with
    | false =>
      obtain rfl : B = false := by
        rw [Bool.eq_false_iff]; intro c; have := (hB.1 c).2.1; rw [hf] at this; cases this
      exact sv5_frame w G X.n X.e X.s a _ cap (by rw [← hu]; exact c1) hv hf
    | true =>
      by_cases hl : X.ts.length ≤ 64
      · exact sv5_ok w G X.n X.e X.s X.ts u c1 hS hbd.2.2 hl hv hf B (hB.trans ⟨fun c => c.2.2.2, fun c => ⟨hv, hf, hl, c⟩⟩)
      · obtain rfl : B = false := by
          rw [Bool.eq_false_iff]; intro c; exact hl (hB.1 c).2.2.1
        exact sv5_len w G X.n X.e X.s a X.ts.length cap (by rw [← hu]; exact c1) (by omega) (by omega) hv hf
  · obtain rfl : B = false := by
      rw [Bool.eq_false_iff]; intro c; exact hv (hB.1 c).1
    exact sv5_type w G X.n X.e X.s a _ cap (by rw [← hu]; exact c1) hbd.2.1 hbd.1 hv
end
end Go.Proofs.YtiedombphcdpbaaGreatDoor
