/-
  Sx, Ri, Wr, Smi, StB, Qv, Forb, Qc, Qx, Qxi, QxB, in one text.
-/
import Derived.Test.YtiedombphcdpbaaGreatDoorQTa
import Derived.RegionTactic
import Derived.Deep.RegionWith
import Derived.KernelRfl
import Derived.Test.YtiedombphcdpbaaGreatDoorFree
import Derived.Test.YtiedombphcdpbaaGreatDoorGown
import Derived.Test.YtiedombphcdpbaaGreatDoorQt
/-
  THE TEXT OF A SUM: what it is, and the model's contract.
-/
namespace Go.Proofs.YtiedombphcdpbaaGreatDoor
open Go.RowKit
set_option maxRecDepth 100000
attribute [local go_sem] Oper.semAt_some
def sHead : List UInt8 := [115, 117, 109, 32]
def sH (X : SM) : List UInt8 := ((sHead ++ Lib.decDigits X.s.toNat) ++ [32] ++ gT X.n X.e) ++ [10]
def tT (g : TE) : List UInt8 := (frL g.p g.q.toNat ++ [32] ++ gT g.n g.e) ++ [10]
def sumT (X : SM) : Nat → List UInt8 | 0 => sH X | k + 1 => sumT X k ++ tT (tAt X.ts k)
theorem vs_s {X : SM} (h : VSum X) : ∃ s : Nat, X.s = s ∧ s ≤ 5 := by
  have h1 := h.2.1
  unfold frB at h1
  have h2 := of_decide_eq_true h1
  exact ⟨X.s.toNat, by have := h.1.1; omega, by omega⟩
theorem sH_len {X : SM} (h : VSum X) : (sH X).length ≤ 2100 := by
  obtain ⟨s, hs, h5⟩ := vs_s h
  have h1 := gT_len h.1
  have h2 := dd_len (n := s) (by omega)
  unfold sH
  rw [hs, Int.toNat_natCast]
  simp only [List.length_append, List.length_cons, List.length_nil, sHead]
  omega
theorem tT_len {g : TE} (h : VG g.n g.e) (hv : Fr.VF g.p g.q) : (tT g).length ≤ 2100 := by
  have h1 := gT_len h
  have h2 := frL_len' hv
  unfold tT
  simp only [List.length_append, List.length_cons, List.length_nil]
  omega
theorem sumT_len {X : SM} (h : VSum X) : ∀ k, k ≤ X.ts.length → (sumT X k).length ≤ 2100 * (k + 1) := by
  intro k
  induction k with
  | zero => intro _; exact sH_len h
  | succ k ih =>
    intro hk
    have h1 := ih (by omega)
    have ht := h.2.2.2 k (by omega)
    have h2 := tT_len ht.1.1 ht.2.2.2.1
    rw [sumT, List.length_append]
    omega
section
variable (w : World)
set_option maxHeartbeats 4000000 in
theorem slt_any (X : SM) (u : Value) (G : Nat) (hG : SB w G X.n X.e X.s u) (hS : SlT w u X.ts) (h : VSum X) :
    Calls Tryz.prog 31 #[.pointer (some ⟨G, 0, none⟩)] w fun r w' => r = .returned (.string (tx (sumT X X.ts.length))) ∧ Below w.heap.size w w' := by
  obtain ⟨s, hs, hs5⟩ := vs_s h
  have h64 := h.2.2.1
  have hD := Lib.hid (fun W => dec_any 5 W s (by omega) (by omega))
  have hGr := Lib.hid (fun W => sgT_any W h.1)
  have hgl := gT_len h.1
  have hdl := dd_len (n := s) (by omega)
  have x1 := run_cat sHead (Lib.decDigits s) (by simp [sHead]) (by omega)
  have x2 := run_cat (sHead ++ Lib.decDigits s) [32] (by simp [sHead]; omega) (by simp)
  have x3 := run_cat (sHead ++ Lib.decDigits s ++ [32]) (gT X.n X.e) (by simp [sHead]; omega) (by omega)
  have x4 := run_cat (sHead ++ Lib.decDigits s ++ [32] ++ gT X.n X.e) [10] (by simp [sHead]; omega) (by simp)
  rw [show sHead ++ Lib.decDigits s ++ [32] ++ gT X.n X.e ++ [10] = sumT X 0 by show _ = sH X; unfold sH; rw [hs]; rfl] at x4
  obtain ⟨a, cap, rfl, hcap, _, hcell⟩ := hS
  obtain ⟨l, hl⟩ : ∃ l, X.ts.length = l := ⟨_, rfl⟩
  have hT := Lib.hid (fun i (hi : i < l) => h.2.2.2 i (by omega))
  have hlen := Lib.hid (fun k (hk : k ≤ l) => sumT_len h k (by omega))
  have hcell' := Lib.hid (fun i (hi : i < l) => show ∃ b off, a = some ⟨b, off, none⟩ ∧ b < w.heap.size ∧ TCell w b off (tAt X.ts i) i by
    obtain ⟨b, off, e1, e2, e3⟩ := hcell (fun c => by rw [c] at hl; simp at hl; omega)
    exact ⟨b, off, e1, e2, e3 i (by omega)⟩)
  rw [hl] at hG h64 hcap ⊢
  clear hcell
  rw [hs] at hG
  have eS : ({ data := #[115, 117, 109, 32] } : ByteArray) = tx sHead := rfl
  have e32 : ({ data := #[32] } : ByteArray) = tx [32] := rfl
  have e10 : ({ data := #[10] } : ByteArray) = tx [10] := rfl
  go_enter Tryz.func31, Tryz.ntmps31
  rw [eS, e32, e10]
  obtain ⟨t32, ht32⟩ : ∃ t, tx [32] = t := ⟨_, rfl⟩
  obtain ⟨t10, ht10⟩ : ∃ t, tx [10] = t := ⟨_, rfl⟩
  obtain ⟨tS, htS⟩ : ∃ t, tx sHead = t := ⟨_, rfl⟩
  obtain ⟨tD, htD⟩ : ∃ t, tx (Lib.decDigits s) = t := ⟨_, rfl⟩
  obtain ⟨tG, htG⟩ : ∃ t, tx (gT X.n X.e) = t := ⟨_, rfl⟩
  obtain ⟨y1, hy1⟩ : ∃ t, tx (sHead ++ Lib.decDigits s) = t := ⟨_, rfl⟩
  obtain ⟨y2, hy2⟩ : ∃ t, tx (sHead ++ Lib.decDigits s ++ [32]) = t := ⟨_, rfl⟩
  obtain ⟨y3, hy3⟩ : ∃ t, tx (sHead ++ Lib.decDigits s ++ [32] ++ gT X.n X.e) = t := ⟨_, rfl⟩
  obtain ⟨y4, hy4⟩ : ∃ t, tx (sumT X 0) = t := ⟨_, rfl⟩
  rw [htS, htD, hy1] at x1
  rw [hy1, ht32, hy2] at x2
  rw [hy2, htG, hy3] at x3
  rw [hy3, ht10, hy4] at x4
  rw [htD] at hD
  rw [htG] at hGr
  rw [ht32, ht10, htS]
  replace ht32 := Lib.hid ht32
  replace ht10 := Lib.hid ht10
  clear htS htD htG hy1 hy2 hy3 hgl hdl hs h
  have q0 := bw_cell hG.lt hG.c0
  have q1 := bw_cell hG.lt hG.c1
  have q2 := bw_cell hG.lt hG.c2
  have q3 := bw_cell hG.lt hG.c3
  go_wp2_with fail
  refine wp_region_below (by kernel_rfl) (by kernel_rfl) ?_
  iterate 4 (quiet_step (fail))
  refine wpQuiet_step (fun K hK => ?_)
  go_simp
  apply Exists.intro
  refine ⟨fun p => ?_, hK _ ?_⟩
  · exact bw_of (w := w) (p := p) (hD.out p.W)
  clear hK K
  iterate 6 (quiet_step (fail))
  refine wpQuiet_step (fun K hK => ?_)
  go_simp
  apply Exists.intro
  refine ⟨fun p => ?_, hK _ ?_⟩
  · exact bw_of (w := w) (p := p) (hGr.out p.W)
  clear hK K
  iterate 3 (quiet_step (fail))
  refine wpQuiet_nil ?_
  intro w1 hw'
  obtain ⟨⟨wx, hb_w1⟩, rfl⟩ := hw'
  clear x1 x2 x3 x4 q0 q1 q2 q3
  go_wp2
  go_loopw [3, 4] (fun s i wr => ∃ k : Nat, k ≤ l ∧ i = .int .i64 k ∧ s = .string (tx (sumT X k)) ∧ Below w.heap.size w wr) (fun _ i _ => l - (intOf i).toNat)
  case atStart => exact ⟨0, by omega, rfl, by rw [hy4], hb_w1⟩
  case round =>
    obtain ⟨k, hk, rfl, rfl, hB⟩ := hrel
    have hGk := hG.below hB
    obtain ⟨_, c0, c1, c2, c3, _⟩ := id hGk
    by_cases hlt : k < l
    · have hd := decide_eq_true (show ((k : Int) < (l : Int)) by omega)
      obtain ⟨b, off, rfl, hb, d0, d1, d2, d3, d4⟩ := hcell'.out k hlt
      have ht := hT.out k hlt
      have hln := hlen.out k (by omega)
      have hsn : sumT X (k + 1) = sumT X k ++ tT (tAt X.ts k) := rfl
      obtain ⟨g, hg⟩ : ∃ g, tAt X.ts k = g := ⟨_, rfl⟩
      unfold TOk at ht
      rw [hg] at d0 d1 d2 d3 d4 ht hsn
      have hF := Lib.hid (fun W => sfT_any W ht.2.2.2.1)
      have hGg := Lib.hid (fun W => sgT_any W ht.1.1)
      have hfl := frL_len' ht.2.2.2.1
      have hgl := gT_len ht.1.1
      have x1 := run_cat (frL g.p g.q.toNat) [32] (by omega) (by simp)
      have x2 := run_cat (frL g.p g.q.toNat ++ [32]) (gT g.n g.e) (by simp; omega) (by omega)
      have x3 := run_cat (frL g.p g.q.toNat ++ [32] ++ gT g.n g.e) [10] (by simp; omega) (by simp)
      have x4 := run_cat (sumT X k) (tT g) (by omega) (by have := tT_len ht.1.1 ht.2.2.2.1; omega)
      rw [← hsn] at x4
      rw [show frL g.p g.q.toNat ++ [32] ++ gT g.n g.e ++ [10] = tT g from rfl] at x3
      have hz : b < wr.heap.size := Nat.lt_of_lt_of_le hb hB.size
      have p1 := bw_cell hz ((hB.cell (p := ⟨b, off + k * 5 + 1, none⟩) hb).trans d1)
      have p2 := bw_cell hz ((hB.cell (p := ⟨b, off + k * 5 + 2, none⟩) hb).trans d2)
      have p3 := bw_cell hz ((hB.cell (p := ⟨b, off + k * 5 + 3, none⟩) hb).trans d3)
      have p4 := bw_cell hz ((hB.cell (p := ⟨b, off + k * 5 + 4, none⟩) hb).trans d4)
      have q3 := bw_cell hGk.lt hGk.c3
      obtain ⟨z1, hz1⟩ : ∃ t, tx (sumT X k) = t := ⟨_, rfl⟩
      obtain ⟨z2, hz2⟩ : ∃ t, tx (sumT X (k + 1)) = t := ⟨_, rfl⟩
      obtain ⟨z3, hz3⟩ : ∃ t, tx (frL g.p g.q.toNat) = t := ⟨_, rfl⟩
      obtain ⟨z4, hz4⟩ : ∃ t, tx (frL g.p g.q.toNat ++ [32]) = t := ⟨_, rfl⟩
      obtain ⟨z5, hz5⟩ : ∃ t, tx (gT g.n g.e) = t := ⟨_, rfl⟩
      obtain ⟨z6, hz6⟩ : ∃ t, tx (frL g.p g.q.toNat ++ [32] ++ gT g.n g.e) = t := ⟨_, rfl⟩
      obtain ⟨z7, hz7⟩ : ∃ t, tx (tT g) = t := ⟨_, rfl⟩
      rw [hz3, ht32.out, hz4] at x1
      rw [hz4, hz5, hz6] at x2
      rw [hz6, ht10.out, hz7] at x3
      rw [hz1, hz7, hz2] at x4
      rw [hz3] at hF
      rw [hz5] at hGg
      rw [hz1]
      have hk0 : (0 : Int) ≤ (k : Int) := by omega
      have hk1 : (k : Int) < (l : Int) := by omega
      clear hz1 hz3 hz4 hz5 hz6 hz7 d0 d1 d2 d3 d4 ht hsn hfl hgl hln hg
      go_wp2_with fail
      refine wp_region_below (by kernel_rfl) (by kernel_rfl) ?_
      iterate 9 (quiet_step (fail))
      refine wpQuiet_step (fun K hK => ?_)
      go_simp
      apply Exists.intro
      refine ⟨fun p => ?_, hK _ ?_⟩
      · exact bw_of (w := wr) (p := p) (hF.out p.W)
      clear hK K
      iterate 10 (quiet_step (fail))
      refine wpQuiet_step (fun K hK => ?_)
      go_simp
      apply Exists.intro
      refine ⟨fun p => ?_, hK _ ?_⟩
      · exact bw_of (w := wr) (p := p) (hGg.out p.W)
      clear hK K
      iterate 4 (quiet_step (fail))
      refine wpQuiet_nil ?_
      intro w2 hw'
      obtain ⟨⟨wx, hb_w2⟩, rfl⟩ := hw'
      go_wp2
      go_roundw
      case rel => exact ⟨k + 1, by omega, by go_num, by rw [hz2], hB.trans (hb_w2.mono hB.size)⟩
      case measure => simp [intOf]; omega
    · have hd := decide_eq_false (show ¬ ((k : Int) < (l : Int)) by omega)
      obtain rfl : k = l := by omega
      obtain ⟨t, ht⟩ : ∃ t, tx (sumT X k) = t := ⟨_, rfl⟩
      rw [ht]
      go_wp2
      go_ret
      exact ⟨congrArg (fun t => Ending.returned (Value.string t)) ht.symm, hB⟩
end
end Go.Proofs.YtiedombphcdpbaaGreatDoor
/-
  A REGION THAT DRAWS ITS ORDER, BY AN INVARIANT: 'I f a w' says what holds when the operations with f have come up, in whatever order. Each operation is walked once.
-/
namespace Go.Proofs.YtiedombphcdpbaaGreatDoor
section
variable {P : Program} {ops : Array Oper} {Q : Exit → Act → World → Prop} {md : Region.Mode}
/-- each operation waits for earlier ones alone -/
def acyc (md : Region.Mode) (ops : Array Oper) : Bool := (List.range ops.size).all fun i => ((ops[i]?).map fun o => o.after.all fun e => !Region.binds md e || decide (e.on < i)).getD true
theorem acyc_spec (h : acyc md ops = true) {i : Nat} {o : Oper} (ho : ops[i]? = some o) {e : Edge} (he : e ∈ o.after) (hb : Region.binds md e = true) : e.on < i := by
  unfold acyc at h
  rw [List.all_eq_true] at h
  have hlt : i < ops.size := (Array.getElem?_eq_some_iff.1 ho).1
  have := h i (List.mem_range.2 hlt)
  rw [ho] at this
  simp only [Option.map_some, Option.getD_some] at this
  rw [Array.all_eq_true_iff_forall_mem] at this
  have h2 := this e he
  simp [hb] at h2
  exact h2
def fl (listed : Array Bool) (i : Nat) : Bool := listed.getD i false
def setf (f : Nat → Bool) (i k : Nat) : Bool := if k = i then true else f k
theorem fl_true {listed : Array Bool} {i : Nat} (h : i < listed.size) : listed.getD i true = fl listed i := by
  unfold fl
  simp [Array.getD_eq_getD_getElem?, Array.getElem?_eq_getElem h]
theorem fl_set {listed : Array Bool} {i : Nat} (hi : i < listed.size) : fl (listed.setIfInBounds i true) = setf (fl listed) i := by
  funext k
  unfold fl setf
  by_cases h : k = i
  · subst h; simp [hi]
  · rw [if_neg h]
    simp only [Array.getD_eq_getD_getElem?]
    rw [Array.getElem?_setIfInBounds_ne (Ne.symm h)]
theorem wpAny_inv (I : (Nat → Bool) → Act → World → Prop) (ha : acyc md ops = true)
    (hstep : ∀ i o f a w, ops[i]? = some o → f i = false → (∀ e ∈ o.after, Region.binds md e = true → f e.on = true) → I f a w → wpOp P ops Q i (fun a' w' => I (setf f i) a' w') a w)
    (hend : ∀ f a w, (∀ i, i < ops.size → f i = true) → I f a w → Q .normal a w) :
    ∀ (fuel : Nat) (listed : Array Bool) (a : Act) (w : World), listed.size = ops.size → ((List.range ops.size).filter fun i => !fl listed i).length ≤ fuel → I (fl listed) a w → wpAny P md ops Q fuel listed a w := by
  have hall : ∀ listed : Array Bool, listed.size = ops.size → Region.ready md ops listed = [] → ∀ i, i < ops.size → fl listed i = true := by
    intro listed hs hr i
    induction i using Nat.strongRecOn with
    | ind i ih =>
      intro hi
      cases hc : fl listed i with
      | true => rfl
      | false =>
        exfalso
        have ho : ops[i]? = some ops[i] := Array.getElem?_eq_getElem hi
        have hm : i ∈ Region.ready md ops listed := mem_ready.2 ⟨(fl_true (by omega)).trans hc, _, ho, fun e he hb => by
          have h1 := acyc_spec ha ho he hb
          have := ih e.on h1 (by omega)
          unfold fl at this
          exact this⟩
        rw [hr] at hm
        cases hm
  intro fuel
  induction fuel with
  | zero =>
    intro listed a w hs hc hI
    have hz : (List.range ops.size).filter (fun i => !fl listed i) = [] := List.eq_nil_of_length_eq_zero (by omega)
    have hr : Region.ready md ops listed = [] := by
      cases hre : Region.ready md ops listed with
      | nil => rfl
      | cons x xs =>
        exfalso
        have hm : x ∈ Region.ready md ops listed := by rw [hre]; simp
        obtain ⟨h0, o, ho, _⟩ := mem_ready.1 hm
        have hlt : x < ops.size := (Array.getElem?_eq_some_iff.1 ho).1
        have : x ∈ (List.range ops.size).filter (fun i => !fl listed i) := by
          rw [List.mem_filter, List.mem_range]
          refine ⟨hlt, ?_⟩
          rw [← fl_true (by omega), h0]
          rfl
        rw [hz] at this
        cases this
    exact ⟨hr, hend _ _ _ (hall listed hs hr) hI⟩
  | succ fuel ih =>
    intro listed a w hs hc hI
    refine ⟨fun hr => hend _ _ _ (hall listed hs hr) hI, fun i hi => ?_⟩
    obtain ⟨h0, o, ho, hdep⟩ := mem_ready.1 hi
    have hlt : i < ops.size := (Array.getElem?_eq_some_iff.1 ho).1
    have hf0 : fl listed i = false := (fl_true (by omega)).symm.trans h0
    refine wpOp_mono (fun a' w' h => ih _ a' w' (by simpa using hs) ?_ (by rw [fl_set (by omega)]; exact h)) (hstep i o (fl listed) a w ho hf0 (fun e he hb => by unfold fl; exact hdep e he hb) hI)
    rw [fl_set (by omega)]
    have hmem : i ∈ (List.range ops.size).filter (fun k => !fl listed k) := by
      rw [List.mem_filter, List.mem_range]
      exact ⟨hlt, by simp [hf0]⟩
    have hsub : (List.range ops.size).filter (fun k => !setf (fl listed) i k) = ((List.range ops.size).filter (fun k => !fl listed k)).filter (fun k => k != i) := by
      rw [List.filter_filter]
      apply List.filter_congr
      intro k _
      unfold setf
      by_cases h : k = i
      · simp [h]
      · simp [h]
    rw [hsub]
    have hlen : (((List.range ops.size).filter (fun k => !fl listed k)).filter (fun k => k != i)).length < ((List.range ops.size).filter (fun k => !fl listed k)).length := by
      rcases Nat.lt_or_ge (((List.range ops.size).filter (fun k => !fl listed k)).filter (fun k => k != i)).length ((List.range ops.size).filter (fun k => !fl listed k)).length with h | h
      · exact h
      · exfalso
        have h2 := List.length_filter_le (fun k => k != i) ((List.range ops.size).filter (fun k => !fl listed k))
        have h3 := List.length_filter_eq_length_iff.1 (Nat.le_antisymm h2 h) i hmem
        simp at h3
    omega
theorem wp_region_inv (I : (Nat → Bool) → Act → World → Prop) {id : Nat} {a : Act} {w : World} (hm : P.follows .mixedOrders = true) (ha : acyc .any ops = true) (h0 : I (fun _ => false) a w.drew)
    (hstep : ∀ i o f a w, ops[i]? = some o → f i = false → (∀ e ∈ o.after, Region.binds .any e = true → f e.on = true) → I f a w → wpOp P ops Q i (fun a' w' => I (setf f i) a' w') a w)
    (hend : ∀ f a w, (∀ i, i < ops.size → f i = true) → I f a w → Q .normal a w) : (Code.region id ops true).wp P Q a w := by
  refine wp_region_any hm (wpAny_inv I ha hstep hend _ _ _ _ (by simp) ?_ ?_)
  · exact Nat.le_trans (List.length_filter_le _ _) (by simp)
  · have : fl (Array.replicate ops.size false) = fun _ => false := by
      funext k
      unfold fl
      simp only [Array.getD_eq_getD_getElem?, Array.getElem?_replicate]
      split <;> rfl
    rw [this]
    exact h0
end
end Go.Proofs.YtiedombphcdpbaaGreatDoor
/-
  REGIONS THAT DRAW THEIR ORDER AND END IN A WRITE TO A BUILDER: their invariants.
-/
namespace Go.Proofs.YtiedombphcdpbaaGreatDoor
open Go.RowKit
set_option maxRecDepth 100000
/-- what holds when the operations with the flags have come up: a box, a builder that the last operation writes -/
structure W11 (n0 : Nat) (W3 : World) (b B : Nat) (O : Obj) (l l2 : List UInt8) (V0 V1 V2 V3 V4 V5 V6 V7 V8 V9 V10 : Value) (f : Nat → Bool) (t0 t1 t2 t3 t4 t5 t6 t7 t8 t9 t10 : Value) (W : World) : Prop where
  below : Below n0 W3 W
  box : W.heap[B]? = some O
  bd : ∃ t, BdAt W b t ∧ (f 10 = false → t = l) ∧ (f 10 = true → t = l2)
  h0 : f 0 = true → t0 = V0
  h1 : f 1 = true → t1 = V1
  h2 : f 2 = true → t2 = V2
  h3 : f 3 = true → t3 = V3
  h4 : f 4 = true → t4 = V4
  h5 : f 5 = true → t5 = V5
  h6 : f 6 = true → t6 = V6
  h7 : f 7 = true → t7 = V7
  h8 : f 8 = true → t8 = V8
  h9 : f 9 = true → t9 = V9
  h10 : f 10 = true → t10 = V10
section
variable {n0 : Nat} {W3 : World} {b B : Nat} {O : Obj} {l l2 : List UInt8} {V0 V1 V2 V3 V4 V5 V6 V7 V8 V9 V10 : Value} {f : Nat → Bool} {t0 t1 t2 t3 t4 t5 t6 t7 t8 t9 t10 : Value} {W : World}
theorem W11.p0 (h : W11 n0 W3 b B O l l2 V0 V1 V2 V3 V4 V5 V6 V7 V8 V9 V10 f t0 t1 t2 t3 t4 t5 t6 t7 t8 t9 t10 W) : W11 n0 W3 b B O l l2 V0 V1 V2 V3 V4 V5 V6 V7 V8 V9 V10 (setf f 0) V0 t1 t2 t3 t4 t5 t6 t7 t8 t9 t10 W :=
  ⟨h.below, h.box, h.bd, fun _ => rfl, fun c => h.h1 c, fun c => h.h2 c, fun c => h.h3 c, fun c => h.h4 c, fun c => h.h5 c, fun c => h.h6 c, fun c => h.h7 c, fun c => h.h8 c, fun c => h.h9 c, fun c => h.h10 c⟩
theorem W11.p1 (h : W11 n0 W3 b B O l l2 V0 V1 V2 V3 V4 V5 V6 V7 V8 V9 V10 f t0 t1 t2 t3 t4 t5 t6 t7 t8 t9 t10 W) : W11 n0 W3 b B O l l2 V0 V1 V2 V3 V4 V5 V6 V7 V8 V9 V10 (setf f 1) t0 V1 t2 t3 t4 t5 t6 t7 t8 t9 t10 W :=
  ⟨h.below, h.box, h.bd, fun c => h.h0 c, fun _ => rfl, fun c => h.h2 c, fun c => h.h3 c, fun c => h.h4 c, fun c => h.h5 c, fun c => h.h6 c, fun c => h.h7 c, fun c => h.h8 c, fun c => h.h9 c, fun c => h.h10 c⟩
theorem W11.p2 (h : W11 n0 W3 b B O l l2 V0 V1 V2 V3 V4 V5 V6 V7 V8 V9 V10 f t0 t1 t2 t3 t4 t5 t6 t7 t8 t9 t10 W) : W11 n0 W3 b B O l l2 V0 V1 V2 V3 V4 V5 V6 V7 V8 V9 V10 (setf f 2) t0 t1 V2 t3 t4 t5 t6 t7 t8 t9 t10 W :=
  ⟨h.below, h.box, h.bd, fun c => h.h0 c, fun c => h.h1 c, fun _ => rfl, fun c => h.h3 c, fun c => h.h4 c, fun c => h.h5 c, fun c => h.h6 c, fun c => h.h7 c, fun c => h.h8 c, fun c => h.h9 c, fun c => h.h10 c⟩
theorem W11.p3 (h : W11 n0 W3 b B O l l2 V0 V1 V2 V3 V4 V5 V6 V7 V8 V9 V10 f t0 t1 t2 t3 t4 t5 t6 t7 t8 t9 t10 W) : W11 n0 W3 b B O l l2 V0 V1 V2 V3 V4 V5 V6 V7 V8 V9 V10 (setf f 3) t0 t1 t2 V3 t4 t5 t6 t7 t8 t9 t10 W :=
  ⟨h.below, h.box, h.bd, fun c => h.h0 c, fun c => h.h1 c, fun c => h.h2 c, fun _ => rfl, fun c => h.h4 c, fun c => h.h5 c, fun c => h.h6 c, fun c => h.h7 c, fun c => h.h8 c, fun c => h.h9 c, fun c => h.h10 c⟩
theorem W11.p4 (h : W11 n0 W3 b B O l l2 V0 V1 V2 V3 V4 V5 V6 V7 V8 V9 V10 f t0 t1 t2 t3 t4 t5 t6 t7 t8 t9 t10 W) : W11 n0 W3 b B O l l2 V0 V1 V2 V3 V4 V5 V6 V7 V8 V9 V10 (setf f 4) t0 t1 t2 t3 V4 t5 t6 t7 t8 t9 t10 W :=
  ⟨h.below, h.box, h.bd, fun c => h.h0 c, fun c => h.h1 c, fun c => h.h2 c, fun c => h.h3 c, fun _ => rfl, fun c => h.h5 c, fun c => h.h6 c, fun c => h.h7 c, fun c => h.h8 c, fun c => h.h9 c, fun c => h.h10 c⟩
theorem W11.p5 (h : W11 n0 W3 b B O l l2 V0 V1 V2 V3 V4 V5 V6 V7 V8 V9 V10 f t0 t1 t2 t3 t4 t5 t6 t7 t8 t9 t10 W) : W11 n0 W3 b B O l l2 V0 V1 V2 V3 V4 V5 V6 V7 V8 V9 V10 (setf f 5) t0 t1 t2 t3 t4 V5 t6 t7 t8 t9 t10 W :=
  ⟨h.below, h.box, h.bd, fun c => h.h0 c, fun c => h.h1 c, fun c => h.h2 c, fun c => h.h3 c, fun c => h.h4 c, fun _ => rfl, fun c => h.h6 c, fun c => h.h7 c, fun c => h.h8 c, fun c => h.h9 c, fun c => h.h10 c⟩
theorem W11.p6 (h : W11 n0 W3 b B O l l2 V0 V1 V2 V3 V4 V5 V6 V7 V8 V9 V10 f t0 t1 t2 t3 t4 t5 t6 t7 t8 t9 t10 W) : W11 n0 W3 b B O l l2 V0 V1 V2 V3 V4 V5 V6 V7 V8 V9 V10 (setf f 6) t0 t1 t2 t3 t4 t5 V6 t7 t8 t9 t10 W :=
  ⟨h.below, h.box, h.bd, fun c => h.h0 c, fun c => h.h1 c, fun c => h.h2 c, fun c => h.h3 c, fun c => h.h4 c, fun c => h.h5 c, fun _ => rfl, fun c => h.h7 c, fun c => h.h8 c, fun c => h.h9 c, fun c => h.h10 c⟩
theorem W11.p7 (h : W11 n0 W3 b B O l l2 V0 V1 V2 V3 V4 V5 V6 V7 V8 V9 V10 f t0 t1 t2 t3 t4 t5 t6 t7 t8 t9 t10 W) : W11 n0 W3 b B O l l2 V0 V1 V2 V3 V4 V5 V6 V7 V8 V9 V10 (setf f 7) t0 t1 t2 t3 t4 t5 t6 V7 t8 t9 t10 W :=
  ⟨h.below, h.box, h.bd, fun c => h.h0 c, fun c => h.h1 c, fun c => h.h2 c, fun c => h.h3 c, fun c => h.h4 c, fun c => h.h5 c, fun c => h.h6 c, fun _ => rfl, fun c => h.h8 c, fun c => h.h9 c, fun c => h.h10 c⟩
theorem W11.p8 (h : W11 n0 W3 b B O l l2 V0 V1 V2 V3 V4 V5 V6 V7 V8 V9 V10 f t0 t1 t2 t3 t4 t5 t6 t7 t8 t9 t10 W) : W11 n0 W3 b B O l l2 V0 V1 V2 V3 V4 V5 V6 V7 V8 V9 V10 (setf f 8) t0 t1 t2 t3 t4 t5 t6 t7 V8 t9 t10 W :=
  ⟨h.below, h.box, h.bd, fun c => h.h0 c, fun c => h.h1 c, fun c => h.h2 c, fun c => h.h3 c, fun c => h.h4 c, fun c => h.h5 c, fun c => h.h6 c, fun c => h.h7 c, fun _ => rfl, fun c => h.h9 c, fun c => h.h10 c⟩
theorem W11.p9 (h : W11 n0 W3 b B O l l2 V0 V1 V2 V3 V4 V5 V6 V7 V8 V9 V10 f t0 t1 t2 t3 t4 t5 t6 t7 t8 t9 t10 W) : W11 n0 W3 b B O l l2 V0 V1 V2 V3 V4 V5 V6 V7 V8 V9 V10 (setf f 9) t0 t1 t2 t3 t4 t5 t6 t7 t8 V9 t10 W :=
  ⟨h.below, h.box, h.bd, fun c => h.h0 c, fun c => h.h1 c, fun c => h.h2 c, fun c => h.h3 c, fun c => h.h4 c, fun c => h.h5 c, fun c => h.h6 c, fun c => h.h7 c, fun c => h.h8 c, fun _ => rfl, fun c => h.h10 c⟩
theorem W11.world (h : W11 n0 W3 b B O l l2 V0 V1 V2 V3 V4 V5 V6 V7 V8 V9 V10 f t0 t1 t2 t3 t4 t5 t6 t7 t8 t9 t10 W) (h3 : n0 ≤ W3.heap.size) {W' : World} (hb : Below W.heap.size W W') : W11 n0 W3 b B O l l2 V0 V1 V2 V3 V4 V5 V6 V7 V8 V9 V10 f t0 t1 t2 t3 t4 t5 t6 t7 t8 t9 t10 W' :=
  ⟨h.below.trans (hb.mono (Nat.le_trans h3 h.below.size)), (hb.block _ (Array.getElem?_eq_some_iff.1 h.box).1).trans h.box, let ⟨t, k, k1, k2⟩ := h.bd; ⟨t, k.below hb, k1, k2⟩, fun c => h.h0 c, fun c => h.h1 c, fun c => h.h2 c, fun c => h.h3 c, fun c => h.h4 c, fun c => h.h5 c, fun c => h.h6 c, fun c => h.h7 c, fun c => h.h8 c, fun c => h.h9 c, fun c => h.h10 c⟩
theorem W11.write (h : W11 n0 W3 b B O l l2 V0 V1 V2 V3 V4 V5 V6 V7 V8 V9 V10 f t0 t1 t2 t3 t4 t5 t6 t7 t8 t9 t10 W) (hbn : n0 ≤ b) {W' : World} (hd : BdAt W' b l2) (hb : Below b W W') (hk : W'.heap[B]? = W.heap[B]?) : W11 n0 W3 b B O l l2 V0 V1 V2 V3 V4 V5 V6 V7 V8 V9 V10 (setf f 10) t0 t1 t2 t3 t4 t5 t6 t7 t8 t9 V10 W' :=
  ⟨h.below.trans (hb.mono hbn), hk.trans h.box, ⟨l2, hd, fun c => (by cases c), fun _ => rfl⟩, fun c => h.h0 c, fun c => h.h1 c, fun c => h.h2 c, fun c => h.h3 c, fun c => h.h4 c, fun c => h.h5 c, fun c => h.h6 c, fun c => h.h7 c, fun c => h.h8 c, fun c => h.h9 c, fun _ => rfl⟩
theorem W11.start (hd : BdAt W3 b l) (hB : W3.heap[B]? = some O) : W11 n0 W3 b B O l l2 V0 V1 V2 V3 V4 V5 V6 V7 V8 V9 V10 (fun _ => false) t0 t1 t2 t3 t4 t5 t6 t7 t8 t9 t10 W3.drew :=
  ⟨(Below.refl n0 W3).drew, hB, ⟨l, hd.below (Below.refl _ W3).drew, fun _ => rfl, fun c => (by cases c)⟩, fun c => (by cases c), fun c => (by cases c), fun c => (by cases c), fun c => (by cases c), fun c => (by cases c), fun c => (by cases c), fun c => (by cases c), fun c => (by cases c), fun c => (by cases c), fun c => (by cases c), fun c => (by cases c)⟩
theorem W11.at (h : W11 n0 W3 b B O l l2 V0 V1 V2 V3 V4 V5 V6 V7 V8 V9 V10 f t0 t1 t2 t3 t4 t5 t6 t7 t8 t9 t10 W) (hf : f 10 = false) : BdAt W b l := by
  obtain ⟨t, k, k1, _⟩ := h.bd
  rw [← k1 hf]; exact k
theorem W11.fin (h : W11 n0 W3 b B O l l2 V0 V1 V2 V3 V4 V5 V6 V7 V8 V9 V10 f t0 t1 t2 t3 t4 t5 t6 t7 t8 t9 t10 W) (hf : f 10 = true) : BdAt W b l2 := by
  obtain ⟨t, k, _, k2⟩ := h.bd
  rw [← k2 hf]; exact k
end
end Go.Proofs.YtiedombphcdpbaaGreatDoor
/-
  THE TEXT OF A SUM: the program's contract.
-/
namespace Go.Proofs.YtiedombphcdpbaaGreatDoor
open Go.RowKit
set_option maxRecDepth 100000
attribute [local go_sem] Oper.semAt_some
section
variable (w : World)
set_option maxHeartbeats 4000000 in
theorem ist_t (X : SM) (u : Value) (hS : SlT w u X.ts) (hbd : BdS X) (h : VSum X) (hT : TabP w) :
    Calls Tryz.prog 20 #[.agg #[.int .i64 X.n, .int .u32 X.e, .int .i64 X.s, u]] w fun r w' => r = .returned (.string (tx (sumT X X.ts.length))) ∧ Below w.heap.size w w' := by
  obtain ⟨s, hs, hs5⟩ := vs_s h
  have h64 := h.2.2.1
  have hV := Lib.hid (fun W (hb : Below w.heap.size w W) => ivs_any W X u (hS.below hb) hbd true (by simp [h]))
  have hFm := Lib.hid (fun W (hb : Below w.heap.size w W) => fmt_any W s (by omega) (hT.below hb))
  have hGr := Lib.hid (fun W (hb : Below w.heap.size w W) => igT_any W h.1 (hT.below hb))
  have hgl := gT_len h.1
  have hdl := dd_len (n := s) (by omega)
  have x1 := run_cat sHead (Lib.decDigits s) (by simp [sHead]) (by omega)
  have x2 := run_cat (sHead ++ Lib.decDigits s) [32] (by simp [sHead]; omega) (by simp)
  have x3 := run_cat (sHead ++ Lib.decDigits s ++ [32]) (gT X.n X.e) (by simp [sHead]; omega) (by omega)
  have x4 := run_cat (sHead ++ Lib.decDigits s ++ [32] ++ gT X.n X.e) [10] (by simp [sHead]; omega) (by simp)
  rw [show sHead ++ Lib.decDigits s ++ [32] ++ gT X.n X.e ++ [10] = sumT X 0 by show _ = sH X; unfold sH; rw [hs]; rfl] at x4
  obtain ⟨a, cap, rfl, hcap, _, hcell⟩ := hS
  obtain ⟨l, hl⟩ : ∃ l, X.ts.length = l := ⟨_, rfl⟩
  have hTk := Lib.hid (fun i (hi : i < l) => h.2.2.2 i (by omega))
  have hlen := Lib.hid (fun k (hk : k ≤ l) => sumT_len h k (by omega))
  have hcell' := Lib.hid (fun i (hi : i < l) => show ∃ b off, a = some ⟨b, off, none⟩ ∧ b < w.heap.size ∧ TCell w b off (tAt X.ts i) i by
    obtain ⟨b, off, e1, e2, e3⟩ := hcell (fun c => by rw [c] at hl; simp at hl; omega)
    exact ⟨b, off, e1, e2, e3 i (by omega)⟩)
  rw [hl] at h64 hcap hV ⊢
  clear hcell
  have eS : ({ data := #[115, 117, 109, 32] } : ByteArray) = tx sHead := rfl
  have e32 : ({ data := #[32] } : ByteArray) = tx [32] := rfl
  have e10 : ({ data := #[10] } : ByteArray) = tx [10] := rfl
  have hT' := Lib.hid (fun W (hb : Below w.heap.size w W) => hT.below hb)
  obtain ⟨W0, hW0⟩ : ∃ W0, W0 = w.alloc (.cells #[.int .i64 X.n, .int .u32 X.e, .int .i64 X.s, .slice a l cap] 39) := ⟨_, rfl⟩
  have hB0 : Below w.heap.size w W0 := by rw [hW0]; (repeat (first | exact Below.refl _ _ | assumption | refine bchain (by assumption) ?_ | refine balloc ?_ _ | apply Below.drew | apply below_drewN | (refine Below.alloc ?_ (by (try simp) <;> omega) _) | (refine Below.setCell ?_ (by (try simp) <;> omega) _)))
  have k0 : W0.heap[w.heap.size]? = some (.cells #[.int .i64 X.n, .int .u32 X.e, .int .i64 X.s, .slice a l cap] 39) := by rw [hW0]; exact World.alloc_heap_new _ _
  replace hW0 := Lib.hid hW0
  clear hT hbd
  rw [hs] at hV k0 hW0 ⊢
  go_enter Tryz.func20, Tryz.ntmps20
  rw [eS, e32, e10]
  obtain ⟨t32, ht32⟩ : ∃ t, tx [32] = t := ⟨_, rfl⟩
  obtain ⟨t10, ht10⟩ : ∃ t, tx [10] = t := ⟨_, rfl⟩
  obtain ⟨tS, htS⟩ : ∃ t, tx sHead = t := ⟨_, rfl⟩
  obtain ⟨tD, htD⟩ : ∃ t, tx (Lib.decDigits s) = t := ⟨_, rfl⟩
  obtain ⟨tG, htG⟩ : ∃ t, tx (gT X.n X.e) = t := ⟨_, rfl⟩
  obtain ⟨y1, hy1⟩ : ∃ t, tx (sHead ++ Lib.decDigits s) = t := ⟨_, rfl⟩
  obtain ⟨y2, hy2⟩ : ∃ t, tx (sHead ++ Lib.decDigits s ++ [32]) = t := ⟨_, rfl⟩
  obtain ⟨y3, hy3⟩ : ∃ t, tx (sHead ++ Lib.decDigits s ++ [32] ++ gT X.n X.e) = t := ⟨_, rfl⟩
  obtain ⟨y4, hy4⟩ : ∃ t, tx (sumT X 0) = t := ⟨_, rfl⟩
  rw [htS, htD, hy1] at x1
  rw [hy1, ht32, hy2] at x2
  rw [hy2, htG, hy3] at x3
  rw [hy3, ht10, hy4] at x4
  rw [htD] at hFm
  rw [htG] at hGr
  rw [ht32, ht10, htS]
  replace ht32 := Lib.hid ht32
  replace ht10 := Lib.hid ht10
  replace hy4 := Lib.hid hy4
  clear htS htD htG hy1 hy2 hy3 hgl hdl h
  replace hs := Lib.hid hs
  go_wp2_with fail
  rw [← hW0.out]
  have c0 : W0.cell? ⟨w.heap.size, 0, none⟩ = some (.int .i64 X.n) := by rw [Lib.cell_of_heap k0]; rfl
  have c1 : W0.cell? ⟨w.heap.size, 1, none⟩ = some (.int .u32 X.e) := by rw [Lib.cell_of_heap k0]; rfl
  have c2 : W0.cell? ⟨w.heap.size, 2, none⟩ = some (.int .i64 (s : Int)) := by rw [Lib.cell_of_heap k0]; rfl
  have c3 : W0.cell? ⟨w.heap.size, 3, none⟩ = some (.slice a l cap) := by rw [Lib.cell_of_heap k0]; rfl
  refine (hV.out _ hB0).mono ?_
  rintro r1 w1 ⟨rfl, hb1⟩
  have k1 := (hb1.block _ (Array.getElem?_eq_some_iff.1 k0).1).trans k0
  clear c0 c1 c2 c3 k0
  have hbd1 := BdAt.fresh w1
  have hzb := (bchain hb1 hB0).size
  obtain ⟨W3, hW3⟩ : ∃ W3, W3 = w1.alloc (.cells #[.pointer none, .slice none 0 0] 58) := ⟨_, rfl⟩
  have hB3 : Below w.heap.size w W3 := by rw [hW3]; exact balloc (bchain hb1 hB0) _
  have k3 : W3.heap[w.heap.size]? = some (.cells #[.int .i64 X.n, .int .u32 X.e, .int .i64 (s : Int), .slice a l cap] 39) := by rw [hW3, Below.heap_alloc _ _ _ (Array.getElem?_eq_some_iff.1 k1).1]; exact k1
  rw [← hW3] at hbd1
  obtain ⟨b, hb⟩ : ∃ b, w1.heap.size = b := ⟨_, rfl⟩
  rw [hb] at hbd1 hzb
  have hbB : w.heap.size ≠ b := by have := (Array.getElem?_eq_some_iff.1 k1).1; omega
  replace hb := Lib.hid hb
  replace hW3 := Lib.hid hW3
  replace hbd1 := Lib.hid hbd1
  go_wp2_with fail
  rw [← hW3.out, hb.out]
  have hWt := Lib.hid (fun W (hd : BdAt W b []) => bd_put W b [] (sumT X 0) hd (by have := hlen.out 0 (by omega); simp; omega))
  rw [hy4.out] at hWt
  have hw3 : w.heap.size ≤ W3.heap.size := hB3.size
  refine wp_region_inv (fun f ac W => ∃ t9 t10 t11 t12 t13 t14 t15 t16 t17 t18 t19, ac = { tmps := #[.agg #[.int .i64 X.n, .int .u32 X.e, .int .i64 (s : Int), .slice a l cap], .pointer (some ⟨w.heap.size, 0, none⟩), .string { data := #[] }, .pointer (some ⟨b, 0, none⟩), undef, undef, .agg #[.int .i64 X.n, .int .u32 X.e, .int .i64 (s : Int), .slice a l cap], .bool true, .bool false, t9, t10, t11, t12, t13, t14, t15, t16, t17, t18, t19, undef, undef, undef, undef, undef, undef, undef, undef, undef, undef, undef, undef, undef, undef, undef, undef, undef, undef, undef, undef], defers := [] } ∧ W11 (w.heap.size) W3 b w.heap.size (.cells #[.int .i64 X.n, .int .u32 X.e, .int .i64 (s : Int), .slice a l cap] 39) ([]) (sumT X 0) (.pointer (some ⟨w.heap.size, 2, none⟩)) (.int .i64 (s : Int)) (.string tD) (.string y1) (.string y2) (.pointer (some ⟨w.heap.size, 0, none⟩)) (.agg #[.int .i64 X.n, .int .u32 X.e]) (.string tG) (.string y3) (.string y4) (.tuple #[.int .i64 (sumT X 0).length, .nilIface]) f t9 t10 t11 t12 t13 t14 t15 t16 t17 t18 t19 W) (by kernel_rfl) (by kernel_rfl) ?start ?step ?last
  case start => exact ⟨_, _, _, _, _, _, _, _, _, _, _, rfl, W11.start hbd1.out k3⟩
  case step =>
    intro i o f ac W ho hf hdep hI
    obtain ⟨t9, t10, t11, t12, t13, t14, t15, t16, t17, t18, t19, rfl, hJ⟩ := hI
    have hi : i < 11 := (Array.getElem?_eq_some_iff.1 ho).1
    have hc : i = 0 ∨ i = 1 ∨ i = 2 ∨ i = 3 ∨ i = 4 ∨ i = 5 ∨ i = 6 ∨ i = 7 ∨ i = 8 ∨ i = 9 ∨ i = 10 := by omega
    clear hi
    rcases hc with rfl | rfl | rfl | rfl | rfl | rfl | rfl | rfl | rfl | rfl | rfl
    · obtain rfl := Option.some.inj ho
      refine wpOp_step rfl (fun K hK => ?_)
      go_simp
      exact hK _ _ ⟨_, _, _, _, _, _, _, _, _, _, _, rfl, hJ.p0⟩
    · obtain rfl := Option.some.inj ho
      have e0 : f 0 = true := hdep ⟨0, .data⟩ (by simp) (by decide)
      have x2 : W.cell? ⟨w.heap.size, 2, none⟩ = some (.int .i64 (s : Int)) := by rw [Lib.cell_of_heap hJ.box]; rfl
      obtain rfl := hJ.h0 e0
      refine wpOp_step rfl (fun K hK => ?_)
      go_simp
      exact hK _ _ ⟨_, _, _, _, _, _, _, _, _, _, _, rfl, hJ.p1⟩
    · obtain rfl := Option.some.inj ho
      have e1 : f 1 = true := hdep ⟨1, .data⟩ (by simp) (by decide)
      obtain rfl := hJ.h1 e1
      refine wpOp_step rfl (fun K hK => ?_)
      go_simp
      go_wp2_with (go_at_call 38; refine (hFm.out W (hB3.trans hJ.below)).mono ?_; rintro r3 w3 ⟨rfl, hb3⟩)
      exact ⟨_, _, _, _, _, _, _, _, _, _, _, rfl, (hJ.world (by omega) hb3).p2⟩
    · obtain rfl := Option.some.inj ho
      have e2 : f 2 = true := hdep ⟨2, .data⟩ (by simp) (by decide)
      obtain rfl := hJ.h2 e2
      refine wpOp_step rfl (fun K hK => ?_)
      go_simp
      exact hK _ _ ⟨_, _, _, _, _, _, _, _, _, _, _, rfl, hJ.p3⟩
    · obtain rfl := Option.some.inj ho
      have e3 : f 3 = true := hdep ⟨3, .data⟩ (by simp) (by decide)
      obtain rfl := hJ.h3 e3
      refine wpOp_step rfl (fun K hK => ?_)
      go_simp
      exact hK _ _ ⟨_, _, _, _, _, _, _, _, _, _, _, rfl, hJ.p4⟩
    · obtain rfl := Option.some.inj ho
      refine wpOp_step rfl (fun K hK => ?_)
      go_simp
      exact hK _ _ ⟨_, _, _, _, _, _, _, _, _, _, _, rfl, hJ.p5⟩
    · obtain rfl := Option.some.inj ho
      have e5 : f 5 = true := hdep ⟨5, .data⟩ (by simp) (by decide)
      have x0 : W.cell? ⟨w.heap.size, 0, none⟩ = some (.int .i64 X.n) := by rw [Lib.cell_of_heap hJ.box]; rfl
      have x1 : W.cell? ⟨w.heap.size, 1, none⟩ = some (.int .u32 X.e) := by rw [Lib.cell_of_heap hJ.box]; rfl
      obtain rfl := hJ.h5 e5
      refine wpOp_step rfl (fun K hK => ?_)
      go_simp
      exact hK _ _ ⟨_, _, _, _, _, _, _, _, _, _, _, rfl, hJ.p6⟩
    · obtain rfl := Option.some.inj ho
      have e6 : f 6 = true := hdep ⟨6, .data⟩ (by simp) (by decide)
      obtain rfl := hJ.h6 e6
      refine wpOp_step rfl (fun K hK => ?_)
      go_simp
      go_wp2_with (go_at_call 19; refine (hGr.out W (hB3.trans hJ.below)).mono ?_; rintro r3 w3 ⟨rfl, hb3⟩)
      exact ⟨_, _, _, _, _, _, _, _, _, _, _, rfl, (hJ.world (by omega) hb3).p7⟩
    · obtain rfl := Option.some.inj ho
      have e4 : f 4 = true := hdep ⟨4, .data⟩ (by simp) (by decide)
      have e7 : f 7 = true := hdep ⟨7, .data⟩ (by simp) (by decide)
      obtain rfl := hJ.h4 e4
      obtain rfl := hJ.h7 e7
      refine wpOp_step rfl (fun K hK => ?_)
      go_simp
      exact hK _ _ ⟨_, _, _, _, _, _, _, _, _, _, _, rfl, hJ.p8⟩
    · obtain rfl := Option.some.inj ho
      have e8 : f 8 = true := hdep ⟨8, .data⟩ (by simp) (by decide)
      obtain rfl := hJ.h8 e8
      refine wpOp_step rfl (fun K hK => ?_)
      go_simp
      exact hK _ _ ⟨_, _, _, _, _, _, _, _, _, _, _, rfl, hJ.p9⟩
    · obtain rfl := Option.some.inj ho
      have e9 : f 9 = true := hdep ⟨9, .data⟩ (by simp) (by decide)
      obtain rfl := hJ.h9 e9
      refine wpOp_step rfl (fun K hK => ?_)
      go_simp
      go_wp2_with (go_at_call 17; refine (hWt.out W (hJ.at hf)).mono ?_; rintro r3 w3 ⟨rfl, hd3, hb3, hk3⟩)
      exact ⟨_, _, _, _, _, _, _, _, _, _, _, rfl, hJ.write (by omega) hd3 hb3 ((hk3 _ _ hJ.box (fun c => hbB (Option.some.inj c)) (fun _ _ e => absurd (Obj.cells.inj e).2.1 (by decide))).trans hJ.box.symm)⟩
  case last =>
    intro f ac W hall hI
    obtain ⟨t9, t10, t11, t12, t13, t14, t15, t16, t17, t18, t19, rfl, hJ⟩ := hI
    obtain rfl := hJ.h0 (hall 0 (show 0 < 11 by decide))
    obtain rfl := hJ.h1 (hall 1 (show 1 < 11 by decide))
    obtain rfl := hJ.h2 (hall 2 (show 2 < 11 by decide))
    obtain rfl := hJ.h3 (hall 3 (show 3 < 11 by decide))
    obtain rfl := hJ.h4 (hall 4 (show 4 < 11 by decide))
    obtain rfl := hJ.h5 (hall 5 (show 5 < 11 by decide))
    obtain rfl := hJ.h6 (hall 6 (show 6 < 11 by decide))
    obtain rfl := hJ.h7 (hall 7 (show 7 < 11 by decide))
    obtain rfl := hJ.h8 (hall 8 (show 8 < 11 by decide))
    obtain rfl := hJ.h9 (hall 9 (show 9 < 11 by decide))
    obtain rfl := hJ.h10 (hall 10 (show 10 < 11 by decide))
    have hbd4 := hJ.fin (hall 10 (show 10 < 11 by decide))
    have k4 := hJ.box
    have hB4 : Below w.heap.size w W := hB3.trans hJ.below
    have c3 : W.cell? ⟨w.heap.size, 3, none⟩ = some (.slice a l cap) := by rw [Lib.cell_of_heap k4]; rfl
    clear hJ hall k3 hW3 x1 x2 x3 x4 hWt hFm hGr
    replace hbd4 := Lib.hid hbd4
    go_wp2_with fail
    go_loopw [23] (fun i wr => ∃ k : Nat, k ≤ l ∧ i = .int .i64 k ∧ BdAt wr b (sumT X k) ∧ Below w.heap.size w wr) (fun i _ => l - (intOf i).toNat)
    case atStart => exact ⟨0, by omega, rfl, hbd4.out, hB4⟩
    case round =>
      obtain ⟨k, hk, rfl, hbd, hB⟩ := hrel
      by_cases hlt : k < l
      · have hd := decide_eq_true (show ((k : Int) < (l : Int)) by omega)
        obtain ⟨bt, off, rfl, hbt, d0, d1, d2, d3, d4⟩ := hcell'.out k hlt
        have ht := hTk.out k hlt
        have hln := hlen.out k (by omega)
        have hsn : sumT X (k + 1) = sumT X k ++ tT (tAt X.ts k) := rfl
        obtain ⟨g, hg⟩ : ∃ g, tAt X.ts k = g := ⟨_, rfl⟩
        unfold TOk at ht
        rw [hg] at d0 d1 d2 d3 d4 ht hsn
        have hF := Lib.hid (fun W (hb : Below w.heap.size w W) => ifT_any W ht.2.2.2.1 (hT'.out W hb))
        have hGg := Lib.hid (fun W (hb : Below w.heap.size w W) => igT_any W ht.1.1 (hT'.out W hb))
        have hfl := frL_len' ht.2.2.2.1
        have hgl := gT_len ht.1.1
        have htl := tT_len ht.1.1 ht.2.2.2.1
        have x1 := run_cat (frL g.p g.q.toNat) [32] (by omega) (by simp)
        have x2 := run_cat (frL g.p g.q.toNat ++ [32]) (gT g.n g.e) (by simp; omega) (by omega)
        have x3 := run_cat (frL g.p g.q.toNat ++ [32] ++ gT g.n g.e) [10] (by simp; omega) (by simp)
        rw [show frL g.p g.q.toNat ++ [32] ++ gT g.n g.e ++ [10] = tT g from rfl] at x3
        have p0 := (hB.cell (p := ⟨bt, off + k * 5, none⟩) hbt).trans d0
        have p1 := (hB.cell (p := ⟨bt, off + k * 5 + 1, none⟩) hbt).trans d1
        have p2 := (hB.cell (p := ⟨bt, off + k * 5 + 2, none⟩) hbt).trans d2
        have p3 := (hB.cell (p := ⟨bt, off + k * 5 + 3, none⟩) hbt).trans d3
        have p4 := (hB.cell (p := ⟨bt, off + k * 5 + 4, none⟩) hbt).trans d4
        obtain ⟨z3, hz3⟩ : ∃ t, tx (frL g.p g.q.toNat) = t := ⟨_, rfl⟩
        obtain ⟨z4, hz4⟩ : ∃ t, tx (frL g.p g.q.toNat ++ [32]) = t := ⟨_, rfl⟩
        obtain ⟨z5, hz5⟩ : ∃ t, tx (gT g.n g.e) = t := ⟨_, rfl⟩
        obtain ⟨z6, hz6⟩ : ∃ t, tx (frL g.p g.q.toNat ++ [32] ++ gT g.n g.e) = t := ⟨_, rfl⟩
        obtain ⟨z7, hz7⟩ : ∃ t, tx (tT g) = t := ⟨_, rfl⟩
        rw [hz3, ht32.out, hz4] at x1
        rw [hz4, hz5, hz6] at x2
        rw [hz6, ht10.out, hz7] at x3
        rw [hz3] at hF
        rw [hz5] at hGg
        have hWt := Lib.hid (fun W (hd : BdAt W b (sumT X k)) => bd_put W b _ (tT g) hd (by omega))
        rw [hz7] at hWt
        have hk0 : (0 : Int) ≤ (k : Int) := by omega
        have hk1 : (k : Int) < (l : Int) := by omega
        obtain ⟨gk, gn, ge, gp, gq⟩ := g
        dsimp only at p0 p1 p2 p3 p4 hF hGg hWt hsn x1 x2 x3
        have hbA := hbd.alloc (.cells #[.int .i64 gk, .int .i64 gn, .int .u32 ge, .int .i64 gp, .int .i64 gq] 87)
        have hkA : (wr.alloc (.cells #[.int .i64 gk, .int .i64 gn, .int .u32 ge, .int .i64 gp, .int .i64 gq] 87)).heap[wr.heap.size]? = some (.cells #[.int .i64 gk, .int .i64 gn, .int .u32 ge, .int .i64 gp, .int .i64 gq] 87) := World.alloc_heap_new _ _
        have hBA : Below w.heap.size w (wr.alloc (.cells #[.int .i64 gk, .int .i64 gn, .int .u32 ge, .int .i64 gp, .int .i64 gq] 87)) := balloc hB _
        have hAb : wr.heap.size ≠ b := by have := hbd.lt; omega
        obtain ⟨A, hA⟩ : ∃ A, wr.heap.size = A := ⟨_, rfl⟩
        obtain ⟨W5, hW5⟩ : ∃ W5, wr.alloc (.cells #[.int .i64 gk, .int .i64 gn, .int .u32 ge, .int .i64 gp, .int .i64 gq] 87) = W5 := ⟨_, rfl⟩
        rw [hA, hW5] at hkA
        rw [hA] at hAb
        rw [hW5] at hbA hBA
        replace hA := Lib.hid hA
        replace hW5 := Lib.hid hW5
        replace hbA := Lib.hid hbA
        have hw5 : w.heap.size ≤ W5.heap.size := hBA.size
        clear hz3 hz4 hz5 hz6 hz7 d0 d1 d2 d3 d4 ht hfl hgl hln hg htl hbd
        go_wp2_with fail
        rw [hW5.out, hA.out]
        refine wp_region_inv (fun f ac W => ∃ t27 t28 t29 t30 t31 t32 t33 t34 t35 t36 t37, ac = { tmps := #[.agg #[.int .i64 X.n, .int .u32 X.e, .int .i64 (s : Int), .slice (some ⟨bt, off, none⟩) l cap], .pointer (some ⟨w.heap.size, 0, none⟩), .string { data := #[] }, .pointer (some ⟨b, 0, none⟩), undef, .pointer (some ⟨A, 0, none⟩), .agg #[.int .i64 X.n, .int .u32 X.e, .int .i64 (s : Int), .slice (some ⟨bt, off, none⟩) l cap], .bool true, .bool false, .pointer (some ⟨w.heap.size, 2, none⟩), .int .i64 (s : Int), .string tD, .string y1, .string y2, .pointer (some ⟨w.heap.size, 0, none⟩), .agg #[.int .i64 X.n, .int .u32 X.e], .string tG, .string y3, .string y4, .tuple #[.int .i64 (sumT X 0).length, .nilIface], .pointer (some ⟨w.heap.size, 3, none⟩), .slice (some ⟨bt, off, none⟩) l cap, .int .i64 (l : Int), .int .i64 (k : Int), .bool true, .pointer (some ⟨bt, off + k * 5, none⟩), .agg #[.int .i64 gk, .int .i64 gn, .int .u32 ge, .int .i64 gp, .int .i64 gq], t27, t28, t29, t30, t31, t32, t33, t34, t35, t36, t37, u38, undef], defers := [] } ∧ W11 (w.heap.size) W5 b A (.cells #[.int .i64 gk, .int .i64 gn, .int .u32 ge, .int .i64 gp, .int .i64 gq] 87) (sumT X k) (sumT X k ++ tT ⟨gk, gn, ge, gp, gq⟩) (.pointer (some ⟨A, 3, none⟩)) (.agg #[.int .i64 gp, .int .i64 gq]) (.string z3) (.string z4) (.pointer (some ⟨A, 0, none⟩)) (.pointer (some ⟨A, 1, none⟩)) (.agg #[.int .i64 gn, .int .u32 ge]) (.string z5) (.string z6) (.string z7) (.tuple #[.int .i64 (tT ⟨gk, gn, ge, gp, gq⟩).length, .nilIface]) f t27 t28 t29 t30 t31 t32 t33 t34 t35 t36 t37 W) (by kernel_rfl) (by kernel_rfl) ?start ?step ?last
        case start => exact ⟨_, _, _, _, _, _, _, _, _, _, _, rfl, W11.start hbA.out hkA⟩
        case step =>
          intro i o f ac W ho hf hdep hI
          obtain ⟨t27, t28, t29, t30, t31, t32, t33, t34, t35, t36, t37, rfl, hJ⟩ := hI
          have hi : i < 11 := (Array.getElem?_eq_some_iff.1 ho).1
          have hc : i = 0 ∨ i = 1 ∨ i = 2 ∨ i = 3 ∨ i = 4 ∨ i = 5 ∨ i = 6 ∨ i = 7 ∨ i = 8 ∨ i = 9 ∨ i = 10 := by omega
          clear hi
          rcases hc with rfl | rfl | rfl | rfl | rfl | rfl | rfl | rfl | rfl | rfl | rfl
          · obtain rfl := Option.some.inj ho
            refine wpOp_step rfl (fun K hK => ?_)
            go_simp
            exact hK _ _ ⟨_, _, _, _, _, _, _, _, _, _, _, rfl, hJ.p0⟩
          · obtain rfl := Option.some.inj ho
            have e0 : f 0 = true := hdep ⟨0, .data⟩ (by simp) (by decide)
            have x3 : W.cell? ⟨A, 3, none⟩ = some (.int .i64 gp) := by rw [Lib.cell_of_heap hJ.box]; rfl
            have x4 : W.cell? ⟨A, 4, none⟩ = some (.int .i64 gq) := by rw [Lib.cell_of_heap hJ.box]; rfl
            obtain rfl := hJ.h0 e0
            refine wpOp_step rfl (fun K hK => ?_)
            go_simp
            exact hK _ _ ⟨_, _, _, _, _, _, _, _, _, _, _, rfl, hJ.p1⟩
          · obtain rfl := Option.some.inj ho
            have e1 : f 1 = true := hdep ⟨1, .data⟩ (by simp) (by decide)
            obtain rfl := hJ.h1 e1
            refine wpOp_step rfl (fun K hK => ?_)
            go_simp
            go_wp2_with (go_at_call 18; refine (hF.out W (hBA.trans hJ.below)).mono ?_; rintro r3 w3 ⟨rfl, hb3⟩)
            exact ⟨_, _, _, _, _, _, _, _, _, _, _, rfl, (hJ.world (by omega) hb3).p2⟩
          · obtain rfl := Option.some.inj ho
            have e2 : f 2 = true := hdep ⟨2, .data⟩ (by simp) (by decide)
            obtain rfl := hJ.h2 e2
            refine wpOp_step rfl (fun K hK => ?_)
            go_simp
            exact hK _ _ ⟨_, _, _, _, _, _, _, _, _, _, _, rfl, hJ.p3⟩
          · obtain rfl := Option.some.inj ho
            refine wpOp_step rfl (fun K hK => ?_)
            go_simp
            exact hK _ _ ⟨_, _, _, _, _, _, _, _, _, _, _, rfl, hJ.p4⟩
          · obtain rfl := Option.some.inj ho
            have e4 : f 4 = true := hdep ⟨4, .data⟩ (by simp) (by decide)
            obtain rfl := hJ.h4 e4
            refine wpOp_step rfl (fun K hK => ?_)
            go_simp
            exact hK _ _ ⟨_, _, _, _, _, _, _, _, _, _, _, rfl, hJ.p5⟩
          · obtain rfl := Option.some.inj ho
            have e5 : f 5 = true := hdep ⟨5, .data⟩ (by simp) (by decide)
            have x1 : W.cell? ⟨A, 1, none⟩ = some (.int .i64 gn) := by rw [Lib.cell_of_heap hJ.box]; rfl
            have x2 : W.cell? ⟨A, 2, none⟩ = some (.int .u32 ge) := by rw [Lib.cell_of_heap hJ.box]; rfl
            obtain rfl := hJ.h5 e5
            refine wpOp_step rfl (fun K hK => ?_)
            go_simp
            exact hK _ _ ⟨_, _, _, _, _, _, _, _, _, _, _, rfl, hJ.p6⟩
          · obtain rfl := Option.some.inj ho
            have e6 : f 6 = true := hdep ⟨6, .data⟩ (by simp) (by decide)
            obtain rfl := hJ.h6 e6
            refine wpOp_step rfl (fun K hK => ?_)
            go_simp
            go_wp2_with (go_at_call 19; refine (hGg.out W (hBA.trans hJ.below)).mono ?_; rintro r3 w3 ⟨rfl, hb3⟩)
            exact ⟨_, _, _, _, _, _, _, _, _, _, _, rfl, (hJ.world (by omega) hb3).p7⟩
          · obtain rfl := Option.some.inj ho
            have e3 : f 3 = true := hdep ⟨3, .data⟩ (by simp) (by decide)
            have e7 : f 7 = true := hdep ⟨7, .data⟩ (by simp) (by decide)
            obtain rfl := hJ.h3 e3
            obtain rfl := hJ.h7 e7
            refine wpOp_step rfl (fun K hK => ?_)
            go_simp
            exact hK _ _ ⟨_, _, _, _, _, _, _, _, _, _, _, rfl, hJ.p8⟩
          · obtain rfl := Option.some.inj ho
            have e8 : f 8 = true := hdep ⟨8, .data⟩ (by simp) (by decide)
            obtain rfl := hJ.h8 e8
            refine wpOp_step rfl (fun K hK => ?_)
            go_simp
            exact hK _ _ ⟨_, _, _, _, _, _, _, _, _, _, _, rfl, hJ.p9⟩
          · obtain rfl := Option.some.inj ho
            have e9 : f 9 = true := hdep ⟨9, .data⟩ (by simp) (by decide)
            obtain rfl := hJ.h9 e9
            refine wpOp_step rfl (fun K hK => ?_)
            go_simp
            go_wp2_with (go_at_call 17; refine (hWt.out W (hJ.at hf)).mono ?_; rintro r3 w3 ⟨rfl, hd3, hb3, hk3⟩)
            exact ⟨_, _, _, _, _, _, _, _, _, _, _, rfl, hJ.write (by omega) hd3 hb3 ((hk3 _ _ hJ.box (fun c => hAb (Option.some.inj c)) (fun _ _ e => absurd (Obj.cells.inj e).2.1 (by decide))).trans hJ.box.symm)⟩
        case last =>
          intro f ac W hall hI
          obtain ⟨t27, t28, t29, t30, t31, t32, t33, t34, t35, t36, t37, rfl, hJ⟩ := hI
          obtain rfl := hJ.h0 (hall 0 (show 0 < 11 by decide))
          obtain rfl := hJ.h1 (hall 1 (show 1 < 11 by decide))
          obtain rfl := hJ.h2 (hall 2 (show 2 < 11 by decide))
          obtain rfl := hJ.h3 (hall 3 (show 3 < 11 by decide))
          obtain rfl := hJ.h4 (hall 4 (show 4 < 11 by decide))
          obtain rfl := hJ.h5 (hall 5 (show 5 < 11 by decide))
          obtain rfl := hJ.h6 (hall 6 (show 6 < 11 by decide))
          obtain rfl := hJ.h7 (hall 7 (show 7 < 11 by decide))
          obtain rfl := hJ.h8 (hall 8 (show 8 < 11 by decide))
          obtain rfl := hJ.h9 (hall 9 (show 9 < 11 by decide))
          obtain rfl := hJ.h10 (hall 10 (show 10 < 11 by decide))
          have hbd8 := Lib.hid (hJ.fin (hall 10 (show 10 < 11 by decide)))
          have hB8 : Below w.heap.size w W := hBA.trans hJ.below
          clear hJ hall
          go_wp2
          go_roundw
          case rel => exact ⟨k + 1, by omega, by go_num, by rw [hsn]; exact hbd8.out, hB8⟩
          case measure => simp [intOf]; omega
      · have hd := decide_eq_false (show ¬ ((k : Int) < (l : Int)) by omega)
        obtain rfl : k = l := by omega
        have hS := Lib.hid (bd_string wr b _ hbd)
        obtain ⟨t, ht⟩ : ∃ t, tx (sumT X k) = t := ⟨_, rfl⟩
        rw [ht] at hS
        replace hbd := Lib.hid hbd
        go_wp2_with fail
        refine hS.out.mono ?_
        rintro r2 w2 ⟨rfl, hb4, _⟩
        have hB4 := hB.trans (hb4.mono hzb)
        go_wp2
        go_ret
        exact ⟨congrArg (fun t => Ending.returned (Value.string t)) ht.symm, hB4⟩
end
end Go.Proofs.YtiedombphcdpbaaGreatDoor
/-
  THE TEXT OF A SUM: both sides.
-/
namespace Go.Proofs.YtiedombphcdpbaaGreatDoor
open Go.RowKit
set_option maxRecDepth 100000
section
variable (w : World)
theorem ist_f (X : SM) (u : Value) (hS : SlT w u X.ts) (hbd : BdS X) (h : ¬ VSum X) :
    Calls Tryz.prog 20 #[.agg #[.int .i64 X.n, .int .u32 X.e, .int .i64 X.s, u]] w fun r w' => r = .returned (.string ⟨#[]⟩) ∧ Below w.heap.size w w' := by
  have hV := Lib.hid (fun W (hb : Below w.heap.size w W) => ivs_any W X u (hS.below hb) hbd false (by simp [h]))
  obtain ⟨a, cap, rfl, _⟩ := hS
  have hB0 : Below w.heap.size w (w.alloc (.cells #[.int .i64 X.n, .int .u32 X.e, .int .i64 X.s, .slice a X.ts.length cap] 39)) := by (repeat (first | exact Below.refl _ _ | assumption | refine bchain (by assumption) ?_ | refine balloc ?_ _ | apply Below.drew | apply below_drewN | (refine Below.alloc ?_ (by (try simp) <;> omega) _) | (refine Below.setCell ?_ (by (try simp) <;> omega) _)))
  clear h hbd
  go_enter Tryz.func20, Tryz.ntmps20
  go_wp2_with fail
  refine (hV.out _ hB0).mono ?_
  rintro r1 w1 ⟨rfl, hb1⟩
  go_wp2
  go_ret
  exact ⟨rfl, bchain hb1 hB0⟩
end
end Go.Proofs.YtiedombphcdpbaaGreatDoor
namespace Go.Proofs.YtiedombphcdpbaaGreatDoor
open Go.RowKit Go.Shelf
set_option maxRecDepth 100000
attribute [local go_sem] Oper.semAt_some
/-- a sum within another box, from its cell 1 on -/
structure SC (W : World) (B : Nat) (n e s : Int) (u : Value) : Prop where
  lt : B < W.heap.size
  c0 : W.cell? ⟨B, 1, none⟩ = some (.int .i64 n)
  c1 : W.cell? ⟨B, 2, none⟩ = some (.int .u32 e)
  c2 : W.cell? ⟨B, 3, none⟩ = some (.int .i64 s)
  c3 : W.cell? ⟨B, 4, none⟩ = some (u)
  fz : True
theorem SC.below {W W' : World} {B : Nat} {n e s : Int} {u : Value} (h : SC W B n e s u) (hb : Below W.heap.size W W') : SC W' B n e s u :=
  ⟨Nat.lt_of_lt_of_le h.lt hb.size, (hb.cell (p := ⟨B, 1, none⟩) h.lt).trans h.c0, (hb.cell (p := ⟨B, 2, none⟩) h.lt).trans h.c1, (hb.cell (p := ⟨B, 3, none⟩) h.lt).trans h.c2, (hb.cell (p := ⟨B, 4, none⟩) h.lt).trans h.c3, trivial⟩
theorem SC.drew {W : World} {B : Nat} {n e s : Int} {u : Value} (h : SC W B n e s u) : SC W.drew B n e s u := ⟨h.lt, h.c0, h.c1, h.c2, h.c3, trivial⟩
section
variable (w : World)
theorem sv6_type (G : Nat) (n e s : Int) (a : Option Addr) (l cap : Nat) (c1 : SC w G n e s (.slice a l cap)) (he : e < 4294967296) (h0 : 0 ≤ e) (hv : ¬ VG n e) :
    Calls Tryz.prog 27 #[.pointer (some ⟨G, 1, none⟩)] w fun r w' => r = .returned (.bool false) ∧ Below w.heap.size w w' := by
  have hV := Lib.hid (fun W => ok_f W n e he h0 hv)
  have q0 := bw_cell c1.lt c1.c0
  have q1 := bw_cell c1.lt c1.c1
  have q2 := bw_cell c1.lt c1.c2
  have q3 := bw_cell c1.lt c1.c3
  clear hv he h0 c1
  go_enter Tryz.func27, Tryz.ntmps27
  go_wp2
  refine wp_region_below (by kernel_rfl) (by kernel_rfl) ?_
  iterate 4 (quiet_step (fail))
  refine wpQuiet_step (fun K hK => ?_)
  go_simp
  apply Exists.intro
  refine ⟨fun p => ?_, hK _ ?_⟩
  · exact bw_of (w := w) (p := p) (hV.out p.W)
  clear hK K
  iterate 2 (quiet_step (fail))
  iterate 10 go_big_quiet_skip
  iterate 2 (quiet_step (fail))
  iterate 6 go_big_quiet_skip
  iterate 1 (quiet_step (fail))
  refine wpQuiet_nil ?_
  intro w3 hw'
  obtain ⟨⟨wx, hb_w3⟩, rfl⟩ := hw'
  go_wp2
  go_ret
  exact ⟨rfl, hb_w3⟩
theorem sv6_frame (G : Nat) (n e s : Int) (a : Option Addr) (l cap : Nat) (c1 : SC w G n e s (.slice a l cap)) (hv : VG n e) (hf : frB n s = false) :
    Calls Tryz.prog 27 #[.pointer (some ⟨G, 1, none⟩)] w fun r w' => r = .returned (.bool false) ∧ Below w.heap.size w w' := by
  have hV := Lib.hid (fun W => ok_t W n e hv)
  have hF := Lib.hid (fun W => sfr_any W n e s)
  rw [hf] at hF
  have q0 := bw_cell c1.lt c1.c0
  have q1 := bw_cell c1.lt c1.c1
  have q2 := bw_cell c1.lt c1.c2
  have q3 := bw_cell c1.lt c1.c3
  clear hv hf c1
  go_enter Tryz.func27, Tryz.ntmps27
  go_wp2
  refine wp_region_below (by kernel_rfl) (by kernel_rfl) ?_
  iterate 4 (quiet_step (fail))
  refine wpQuiet_step (fun K hK => ?_)
  go_simp
  apply Exists.intro
  refine ⟨fun p => ?_, hK _ ?_⟩
  · exact bw_of (w := w) (p := p) (hV.out p.W)
  clear hK K
  iterate 2 (quiet_step (fail))
  iterate 8 (quiet_step (fail))
  refine wpQuiet_step (fun K hK => ?_)
  go_simp
  apply Exists.intro
  refine ⟨fun p => ?_, hK _ ?_⟩
  · exact bw_of (w := w) (p := p) (hF.out p.W)
  clear hK K
  iterate 1 (quiet_step (fail))
  iterate 2 (quiet_step (fail))
  iterate 6 go_big_quiet_skip
  iterate 1 (quiet_step (fail))
  refine wpQuiet_nil ?_
  intro w3 hw'
  obtain ⟨⟨wx, hb_w3⟩, rfl⟩ := hw'
  go_wp2
  go_ret
  exact ⟨rfl, hb_w3⟩
theorem sv6_len (G : Nat) (n e s : Int) (a : Option Addr) (l cap : Nat) (c1 : SC w G n e s (.slice a l cap)) (hl : 64 < l) (hl2 : l ≤ 9223372036854775807) (hv : VG n e) (hf : frB n s = true) :
    Calls Tryz.prog 27 #[.pointer (some ⟨G, 1, none⟩)] w fun r w' => r = .returned (.bool false) ∧ Below w.heap.size w w' := by
  have hV := Lib.hid (fun W => ok_t W n e hv)
  have hF := Lib.hid (fun W => sfr_any W n e s)
  rw [hf] at hF
  have q0 := bw_cell c1.lt c1.c0
  have q1 := bw_cell c1.lt c1.c1
  have q2 := bw_cell c1.lt c1.c2
  have q3 := bw_cell c1.lt c1.c3
  clear hv hf c1
  go_enter Tryz.func27, Tryz.ntmps27
  go_wp2
  refine wp_region_below (by kernel_rfl) (by kernel_rfl) ?_
  iterate 4 (quiet_step (fail))
  refine wpQuiet_step (fun K hK => ?_)
  go_simp
  apply Exists.intro
  refine ⟨fun p => ?_, hK _ ?_⟩
  · exact bw_of (w := w) (p := p) (hV.out p.W)
  clear hK K
  iterate 2 (quiet_step (fail))
  iterate 8 (quiet_step (fail))
  refine wpQuiet_step (fun K hK => ?_)
  go_simp
  apply Exists.intro
  refine ⟨fun p => ?_, hK _ ?_⟩
  · exact bw_of (w := w) (p := p) (hF.out p.W)
  clear hK K
  iterate 1 (quiet_step (fail))
  iterate 2 (quiet_step (fail))
  iterate 6 (quiet_step (fail))
  iterate 1 (quiet_step (fail))
  refine wpQuiet_nil ?_
  intro w3 hw'
  obtain ⟨⟨wx, hb_w3⟩, rfl⟩ := hw'
  go_wp2
  go_ret
  exact ⟨rfl, hb_w3⟩
set_option maxHeartbeats 16000000 in
theorem sv6_ok (G : Nat) (n e s : Int) (ts : List TE) (u : Value) (c1 : SC w G n e s u) (hS : SlT w u ts) (hbd : BdT ts) (hl : ts.length ≤ 64) (hv : VG n e) (hf : frB n s = true) (B : Bool) (hB0 : B = true ↔ ∀ i, i < ts.length → TOk ⟨n, e, s, ts⟩ i) :
    Calls Tryz.prog 27 #[.pointer (some ⟨G, 1, none⟩)] w fun r w' => r = .returned (.bool B) ∧ Below w.heap.size w w' := by
  unfold TOk at hB0
  dsimp only at hB0
  obtain ⟨a, cap, rfl, h1, h2, h3⟩ := hS
  have hV := Lib.hid (fun W => ok_t W n e hv)
  have hF := Lib.hid (fun W => sfr_any W n e s)
  rw [hf] at hF
  replace hB0 := Lib.hid hB0
  replace hbd := Lib.hid hbd
  obtain ⟨l, hld⟩ : ∃ l, ts.length = l := ⟨_, rfl⟩
  have h3b : Hid (0 < l → ∃ b off, a = some ⟨b, off, none⟩ ∧ b < w.heap.size ∧ ∀ i, i < l → TCell w b off (tAt ts i) i) := fun h => by rw [← hld] at h ⊢; exact h3 (List.length_pos_iff.1 h)
  rw [hld] at h1 hl hB0 c1
  replace hld := Lib.hid hld
  clear h3 hv hf
  have q0 := bw_cell c1.lt c1.c0
  have q1 := bw_cell c1.lt c1.c1
  have q2 := bw_cell c1.lt c1.c2
  have q3 := bw_cell c1.lt c1.c3
  go_enter Tryz.func27, Tryz.ntmps27
  go_wp2
  refine wp_region_below (by kernel_rfl) (by kernel_rfl) ?_
  iterate 4 (quiet_step (fail))
  refine wpQuiet_step (fun K hK => ?_)
  go_simp
  apply Exists.intro
  refine ⟨fun p => ?_, hK _ ?_⟩
  · exact bw_of (w := w) (p := p) (hV.out p.W)
  clear hK K
  iterate 2 (quiet_step (fail))
  iterate 8 (quiet_step (fail))
  refine wpQuiet_step (fun K hK => ?_)
  go_simp
  apply Exists.intro
  refine ⟨fun p => ?_, hK _ ?_⟩
  · exact bw_of (w := w) (p := p) (hF.out p.W)
  clear hK K
  iterate 1 (quiet_step (fail))
  iterate 2 (quiet_step (fail))
  iterate 6 (quiet_step (fail))
  iterate 1 (quiet_step (fail))
  refine wpQuiet_nil ?_
  intro w2 hw'
  obtain ⟨⟨wx, hb_w2⟩, rfl⟩ := hw'
  have c2 := c1.below hb_w2
  clear q0 q1 q2 q3 hV hF
  obtain ⟨_, x0, x1, x2, x3, _⟩ := id c2
  go_wp2
  go_loopw [3, 4] (fun i _ wr => ∃ k : Nat, k ≤ l ∧ i = .int .i64 k ∧ Hid (∀ j, j < k → TOk ⟨n, e, s, ts⟩ j) ∧ SC wr G n e s (.slice a l cap) ∧ Below w.heap.size w wr) (fun i _ _ => l - (intOf i).toNat)
  case atStart => exact ⟨0, by omega, rfl, fun j hj => by omega, c2, hb_w2⟩
  case round =>
    clear c2 x0 x1 x2 x3 hb_w2 c1
    obtain ⟨k, hk, rfl, hok, kr, hB⟩ := hrel
    obtain ⟨ltG, x0, x1, x2, x3, _⟩ := id kr
    by_cases hlt : k < l
    · obtain ⟨b, off, rfl, hb, hg⟩ := h3b.out (by omega)
      have hgk := hg k hlt
      have hbk := hbd.out k (by rw [hld.out]; exact hlt)
      obtain ⟨g, hBk⟩ : ∃ g, tAt ts k = g := ⟨_, rfl⟩
      obtain ⟨y0, y1, y2, y3, y4⟩ := g
      rw [hBk] at hgk hbk
      dsimp only at hbk
      have s0 : wr.cell? ⟨b, off + k * 5, none⟩ = some (.int .i64 y0) := by rw [hB.cell (p := ⟨b, _, none⟩) hb]; exact hgk.1
      have s1 : wr.cell? ⟨b, off + k * 5 + 1, none⟩ = some (.int .i64 y1) := by rw [hB.cell (p := ⟨b, _, none⟩) hb]; exact hgk.2.1
      have s2 : wr.cell? ⟨b, off + k * 5 + 2, none⟩ = some (.int .u32 y2) := by rw [hB.cell (p := ⟨b, _, none⟩) hb]; exact hgk.2.2.1
      have s3 : wr.cell? ⟨b, off + k * 5 + 3, none⟩ = some (.int .i64 y3) := by rw [hB.cell (p := ⟨b, _, none⟩) hb]; exact hgk.2.2.2.1
      have s4 : wr.cell? ⟨b, off + k * 5 + 4, none⟩ = some (.int .i64 y4) := by rw [hB.cell (p := ⟨b, _, none⟩) hb]; exact hgk.2.2.2.2
      have hkl : (k : Int) < (l : Int) := by omega
      have hk0 : (0 : Int) ≤ (k : Int) := by omega
      obtain ⟨W1, hW1⟩ : ∃ W1, W1 = wr.alloc (.cells #[.int .i64 y0, .int .i64 y1, .int .u32 y2] 85) := ⟨_, rfl⟩
      have hBW : Below wr.heap.size wr W1 := by rw [hW1]; (repeat (first | exact Below.refl _ _ | assumption | refine bchain (by assumption) ?_ | refine balloc ?_ _ | apply Below.drew | apply below_drewN | (refine Below.alloc ?_ (by (try simp) <;> omega) _) | (refine Below.setCell ?_ (by (try simp) <;> omega) _)))
      have fb : FC W1 wr.heap.size y0 y1 y2 := by rw [hW1]; exact FC.made _ _ _ _ _
      have kb := kr.below hBW
      replace hW1 := Lib.hid hW1
      clear hgk
      have q0 := bw_cell fb.lt fb.c0
      have q1 := bw_cell fb.lt fb.c1
      have q2 := bw_cell fb.lt fb.c2
      have q3 := bw_cell kb.lt kb.c0
      have q4 := bw_cell kb.lt kb.c1
      have q5 := bw_cell kb.lt kb.c2
      have q6 := bw_cell kb.lt kb.c3
      have hBz := hB.size
      have hbr : b < wr.heap.size := by omega
      have hVF := Lib.hid (fun W => Fr.ok_any W y3 y4)
      go_wp2
      rw [← hW1.out]
      clear x0 x1 x2 x3
      by_cases v1 : VK y0 y1 y2
      · obtain ⟨m0, m1, m2, rfl, rfl, rfl⟩ : ∃ a b c : Nat, y0 = a ∧ y1 = b ∧ y2 = c := ⟨y0.toNat, y1.toNat, y2.toNat, by have := v1.2.1; omega, by have := v1.1.1; omega, by omega⟩
        have hV1 := Lib.hid (fun W => sok_t W m0 m1 m2 v1)
        by_cases v2 : Fits m0 m1 m2 n e s
        · have hV2 := Lib.hid (fun W => sof_any W m0 m1 m2 n e s v1 true ⟨fun _ => v2, fun _ => rfl⟩)
          have hV3 := Lib.hid (fun W => sleastK_any W m0 m1 m2 v1)
          by_cases v3 : leastK m1 m0 m2 = m2
          · rw [v3] at hV3
            have hq : ∀ W, (Op.equalIn 10000 85 (.agg #[.int .i64 (m0 : Int), .int .i64 (m1 : Int), .int .u32 (m2 : Int)]) (.agg #[.int .i64 (m0 : Int), .int .i64 (m1 : Int), .int .u32 (m2 : Int)])).run Tryz.prog W = .ok true W := fun W => by rw [eqFl]; simp
            by_cases hk1 : k = 0
            · subst hk1
              refine wp_region_below (by kernel_rfl) (by kernel_rfl) ?_
              iterate 1 (quiet_step (fail))
              refine wpQuiet_step (fun K hK => ?_)
              go_simp
              apply Exists.intro
              refine ⟨fun p => ?_, hK _ ?_⟩
              · exact bw_of (w := W1) (p := p) (hV1.out p.W)
              clear hK K
              iterate 2 (quiet_step (fail))
              iterate 9 (quiet_step (fail))
              refine wpQuiet_step (fun K hK => ?_)
              go_simp
              apply Exists.intro
              refine ⟨fun p => ?_, hK _ ?_⟩
              · exact bw_of (w := W1) (p := p) (hV2.out p.W)
              clear hK K
              iterate 1 (quiet_step (fail))
              iterate 2 (quiet_step (fail))
              iterate 1 (quiet_step (fail))
              refine wpQuiet_step (fun K hK => ?_)
              go_simp
              apply Exists.intro
              refine ⟨fun p => ?_, hK _ ?_⟩
              · exact bw_of (w := W1) (p := p) (hV3.out p.W)
              clear hK K
              iterate 2 (quiet_step (fail))
              iterate 2 (quiet_step (fail))
              iterate 3 (quiet_step (fail))
              iterate 15 go_big_quiet_skip
              iterate 2 (quiet_step (fail))
              refine wpQuiet_nil ?_
              intro w3 hw'
              obtain ⟨⟨wx, hb_w3⟩, rfl⟩ := hw'
              have kb3 := kb.below hb_w3
              have hb3 := hBW.trans (hb_w3.mono hBW.size)
              have hB3 := hB.trans (hb3.mono hBz)
              have p3 : w3.cell? ⟨b, off + 0 * 5 + 3, none⟩ = some (.int .i64 y3) := (hb3.cell (p := ⟨b, _, none⟩) hbr).trans s3
              have p4 : w3.cell? ⟨b, off + 0 * 5 + 4, none⟩ = some (.int .i64 y4) := (hb3.cell (p := ⟨b, _, none⟩) hbr).trans s4
              obtain ⟨_, x0, x1, x2, x3, _⟩ := id kb3
              clear q0 q1 q2 q3 q4 q5 hb_w3 hV1 hV2 hV3 fb kb hq
              by_cases v4 : Fr.VF y3 y4
              · rw [decide_eq_true v4] at hVF
                go_wp2_with fail
                refine (hVF.out _).mono ?_
                rintro r4 w4 ⟨rfl, hb4⟩
                have kb4 := kb3.below hb4
                have hB4 := bchain hb4 hB3
                have u3 : w4.cell? ⟨b, off + 0 * 5 + 3, none⟩ = some (.int .i64 y3) := (hb4.cell (p := ⟨b, _, none⟩) (by show b < _; have := hB3.size; omega)).trans p3
                clear hb4 x0 x1 x2 x3 p3 p4
                obtain ⟨_, x0, x1, x2, x3, _⟩ := id kb4
                by_cases v5 : y3 = 0
                · subst v5
                  obtain rfl : B = false := by
                    rw [Bool.eq_false_iff]
                    intro c
                    have ht := (hB0.out.1 c) (0) hlt
                    rw [hBk] at ht
                    exact ht.2.2.2.2.1 rfl
                  go_wp2
                  go_ret
                  exact ⟨rfl, hB4⟩
                · have hy : (y3 == 0) = false := by simp; exact v5
                  have hok2 : Hid (∀ j, j < 0 + 1 → TOk ⟨n, e, s, ts⟩ j) := fun j hj => by
                    obtain rfl : j = 0 := by omega
                    unfold TOk
                    dsimp only
                    rw [hBk]
                    exact ⟨v1, by simpa using v2, by simpa [Least] using v3, v4, v5, fun c => absurd c (by omega)⟩
                  clear hok
                  go_wp2
                  go_roundw
                  case rel => exact ⟨0 + 1, by omega, by go_num, hok2, kb4, hB4⟩
                  case measure => simp [intOf]; omega
              · rw [decide_eq_false v4] at hVF
                obtain rfl : B = false := by
                  rw [Bool.eq_false_iff]
                  intro c
                  have ht := (hB0.out.1 c) (0) hlt
                  rw [hBk] at ht
                  exact v4 ht.2.2.2.1
                go_wp2_with fail
                refine (hVF.out _).mono ?_
                rintro r4 w4 ⟨rfl, hb4⟩
                go_wp2
                go_ret
                exact ⟨rfl, bchain hb4 hB3⟩
            · obtain ⟨k', rfl⟩ : ∃ k', k = k' + 1 := ⟨k - 1, by omega⟩
              have hgp := hg k' (by omega)
              obtain ⟨z0, z1, z2, z3, z4, hz⟩ : ∃ z0 z1 z2 z3 z4, tAt ts k' = ⟨z0, z1, z2, z3, z4⟩ := ⟨_, _, _, _, _, rfl⟩
              rw [hz] at hgp
              have e2 : W1.cell? ⟨b, off + k' * 5 + 2, none⟩ = some (.int .u32 z2) := ((hB.trans (hBW.mono hBz)).cell (p := ⟨b, _, none⟩) hb).trans hgp.2.2.1
              have q7 := bw_cell (show b < W1.heap.size by have := hBW.size; omega) e2
              have hz0 := hbd.out k' (by rw [hld.out]; omega)
              rw [hz] at hz0
              dsimp only at hz0
              clear hgp hg e2
              have hwk : IntKind.i64.wrap (k' : Int) = (k' : Int) := IntWalk.i64_in _ ⟨by omega, by omega⟩
              have hkk : (k' : Int) < (l : Int) := by omega
              by_cases v6 : z2 < (m2 : Int)
              · have hd6 : decide ((m2 : Int) ≤ z2) = false := decide_eq_false (by omega)
                refine wp_region_below (by kernel_rfl) (by kernel_rfl) ?_
                iterate 1 (quiet_step (fail))
                refine wpQuiet_step (fun K hK => ?_)
                go_simp
                apply Exists.intro
                refine ⟨fun p => ?_, hK _ ?_⟩
                · exact bw_of (w := W1) (p := p) (hV1.out p.W)
                clear hK K
                iterate 2 (quiet_step (fail))
                iterate 9 (quiet_step (fail))
                refine wpQuiet_step (fun K hK => ?_)
                go_simp
                apply Exists.intro
                refine ⟨fun p => ?_, hK _ ?_⟩
                · exact bw_of (w := W1) (p := p) (hV2.out p.W)
                clear hK K
                iterate 1 (quiet_step (fail))
                iterate 2 (quiet_step (fail))
                iterate 1 (quiet_step (fail))
                refine wpQuiet_step (fun K hK => ?_)
                go_simp
                apply Exists.intro
                refine ⟨fun p => ?_, hK _ ?_⟩
                · exact bw_of (w := W1) (p := p) (hV3.out p.W)
                clear hK K
                iterate 2 (quiet_step (fail))
                iterate 2 (quiet_step (fail))
                iterate 3 (quiet_step (fail))
                iterate 15 (quiet_step (fail))
                iterate 2 (quiet_step (fail))
                refine wpQuiet_nil ?_
                intro w3 hw'
                obtain ⟨⟨wx, hb_w3⟩, rfl⟩ := hw'
                clear q7
                have kb3 := kb.below hb_w3
                have hb3 := hBW.trans (hb_w3.mono hBW.size)
                have hB3 := hB.trans (hb3.mono hBz)
                have p3 : w3.cell? ⟨b, off + (k' + 1) * 5 + 3, none⟩ = some (.int .i64 y3) := (hb3.cell (p := ⟨b, _, none⟩) hbr).trans s3
                have p4 : w3.cell? ⟨b, off + (k' + 1) * 5 + 4, none⟩ = some (.int .i64 y4) := (hb3.cell (p := ⟨b, _, none⟩) hbr).trans s4
                obtain ⟨_, x0, x1, x2, x3, _⟩ := id kb3
                clear q0 q1 q2 q3 q4 q5 hb_w3 hV1 hV2 hV3 fb kb hq
                by_cases v4 : Fr.VF y3 y4
                · rw [decide_eq_true v4] at hVF
                  go_wp2_with fail
                  refine (hVF.out _).mono ?_
                  rintro r4 w4 ⟨rfl, hb4⟩
                  have kb4 := kb3.below hb4
                  have hB4 := bchain hb4 hB3
                  have u3 : w4.cell? ⟨b, off + (k' + 1) * 5 + 3, none⟩ = some (.int .i64 y3) := (hb4.cell (p := ⟨b, _, none⟩) (by show b < _; have := hB3.size; omega)).trans p3
                  clear hb4 x0 x1 x2 x3 p3 p4
                  obtain ⟨_, x0, x1, x2, x3, _⟩ := id kb4
                  by_cases v5 : y3 = 0
                  · subst v5
                    obtain rfl : B = false := by
                      rw [Bool.eq_false_iff]
                      intro c
                      have ht := (hB0.out.1 c) ((k' + 1)) hlt
                      rw [hBk] at ht
                      exact ht.2.2.2.2.1 rfl
                    go_wp2
                    go_ret
                    exact ⟨rfl, hB4⟩
                  · have hy : (y3 == 0) = false := by simp; exact v5
                    have hok2 : Hid (∀ j, j < (k' + 1) + 1 → TOk ⟨n, e, s, ts⟩ j) := fun j hj => by
                      by_cases c : j = k' + 1
                      · subst c
                        unfold TOk
                        dsimp only
                        rw [hBk, Nat.add_sub_cancel, hz]
                        exact ⟨v1, by simpa using v2, by simpa [Least] using v3, v4, v5, fun _ => v6⟩
                      · exact hok.out j (by omega)
                    clear hok
                    go_wp2
                    go_roundw
                    case rel => exact ⟨(k' + 1) + 1, by omega, by go_num, hok2, kb4, hB4⟩
                    case measure => simp [intOf]; omega
                · rw [decide_eq_false v4] at hVF
                  obtain rfl : B = false := by
                    rw [Bool.eq_false_iff]
                    intro c
                    have ht := (hB0.out.1 c) ((k' + 1)) hlt
                    rw [hBk] at ht
                    exact v4 ht.2.2.2.1
                  go_wp2_with fail
                  refine (hVF.out _).mono ?_
                  rintro r4 w4 ⟨rfl, hb4⟩
                  go_wp2
                  go_ret
                  exact ⟨rfl, bchain hb4 hB3⟩
              · have hd6 : decide ((m2 : Int) ≤ z2) = true := decide_eq_true (by omega)
                obtain rfl : B = false := by
                  rw [Bool.eq_false_iff]
                  intro c
                  have ht := (hB0.out.1 c) (k' + 1) hlt
                  rw [hBk, Nat.add_sub_cancel, hz] at ht
                  exact v6 (ht.2.2.2.2.2 (by omega))
                refine wp_region_below (by kernel_rfl) (by kernel_rfl) ?_
                iterate 1 (quiet_step (fail))
                refine wpQuiet_step (fun K hK => ?_)
                go_simp
                apply Exists.intro
                refine ⟨fun p => ?_, hK _ ?_⟩
                · exact bw_of (w := W1) (p := p) (hV1.out p.W)
                clear hK K
                iterate 2 (quiet_step (fail))
                iterate 9 (quiet_step (fail))
                refine wpQuiet_step (fun K hK => ?_)
                go_simp
                apply Exists.intro
                refine ⟨fun p => ?_, hK _ ?_⟩
                · exact bw_of (w := W1) (p := p) (hV2.out p.W)
                clear hK K
                iterate 1 (quiet_step (fail))
                iterate 2 (quiet_step (fail))
                iterate 1 (quiet_step (fail))
                refine wpQuiet_step (fun K hK => ?_)
                go_simp
                apply Exists.intro
                refine ⟨fun p => ?_, hK _ ?_⟩
                · exact bw_of (w := W1) (p := p) (hV3.out p.W)
                clear hK K
                iterate 2 (quiet_step (fail))
                iterate 2 (quiet_step (fail))
                iterate 3 (quiet_step (fail))
                iterate 15 (quiet_step (fail))
                iterate 2 (quiet_step (fail))
                refine wpQuiet_nil ?_
                intro w3 hw'
                obtain ⟨⟨wx, hb_w3⟩, rfl⟩ := hw'
                go_wp2
                go_ret
                exact ⟨rfl, hB.trans ((hBW.trans (hb_w3.mono hBW.size)).mono hBz)⟩
          · obtain ⟨z, hz⟩ : ∃ z, leastK m1 m0 m2 = z := ⟨_, rfl⟩
            rw [hz] at hV3 v3
            have hq : ∀ W, (Op.equalIn 10000 85 (.agg #[.int .i64 (m0 : Int), .int .i64 (m1 : Int), .int .u32 (z : Int)]) (.agg #[.int .i64 (m0 : Int), .int .i64 (m1 : Int), .int .u32 (m2 : Int)])).run Tryz.prog W = .ok false W := fun W => by
              rw [eqFl]
              have : ((m0 : Int) == (m0 : Int) && ((m1 : Int) == (m1 : Int) && (z : Int) == (m2 : Int))) = false := by
                rw [Bool.eq_false_iff]
                intro h
                simp at h
                exact v3 (by omega)
              rw [this]
            obtain rfl : B = false := by
              rw [Bool.eq_false_iff]
              intro c
              have ht := (hB0.out.1 c) k hlt
              rw [hBk] at ht
              exact v3 (by rw [← hz]; simpa [Least] using ht.2.2.1)
            clear hz
            refine wp_region_below (by kernel_rfl) (by kernel_rfl) ?_
            iterate 1 (quiet_step (fail))
            refine wpQuiet_step (fun K hK => ?_)
            go_simp
            apply Exists.intro
            refine ⟨fun p => ?_, hK _ ?_⟩
            · exact bw_of (w := W1) (p := p) (hV1.out p.W)
            clear hK K
            iterate 2 (quiet_step (fail))
            iterate 9 (quiet_step (fail))
            refine wpQuiet_step (fun K hK => ?_)
            go_simp
            apply Exists.intro
            refine ⟨fun p => ?_, hK _ ?_⟩
            · exact bw_of (w := W1) (p := p) (hV2.out p.W)
            clear hK K
            iterate 1 (quiet_step (fail))
            iterate 2 (quiet_step (fail))
            iterate 1 (quiet_step (fail))
            refine wpQuiet_step (fun K hK => ?_)
            go_simp
            apply Exists.intro
            refine ⟨fun p => ?_, hK _ ?_⟩
            · exact bw_of (w := W1) (p := p) (hV3.out p.W)
            clear hK K
            iterate 2 (quiet_step (fail))
            iterate 2 (quiet_step (fail))
            iterate 3 go_big_quiet_skip
            iterate 15 go_big_quiet_skip
            iterate 1 go_big_quiet_skip
            iterate 1 (quiet_step (fail))
            refine wpQuiet_nil ?_
            intro w3 hw'
            obtain ⟨⟨wx, hb_w3⟩, rfl⟩ := hw'
            go_wp2
            go_ret
            exact ⟨rfl, hB.trans ((hBW.trans (hb_w3.mono hBW.size)).mono hBz)⟩
        · have hV2 := Lib.hid (fun W => sof_any W m0 m1 m2 n e s v1 false ⟨fun c => (by cases c), fun c => absurd c v2⟩)
          obtain rfl : B = false := by
            rw [Bool.eq_false_iff]
            intro c
            have ht := (hB0.out.1 c) k hlt
            rw [hBk] at ht
            exact v2 (by simpa using ht.2.1)
          refine wp_region_below (by kernel_rfl) (by kernel_rfl) ?_
          iterate 1 (quiet_step (fail))
          refine wpQuiet_step (fun K hK => ?_)
          go_simp
          apply Exists.intro
          refine ⟨fun p => ?_, hK _ ?_⟩
          · exact bw_of (w := W1) (p := p) (hV1.out p.W)
          clear hK K
          iterate 2 (quiet_step (fail))
          iterate 9 (quiet_step (fail))
          refine wpQuiet_step (fun K hK => ?_)
          go_simp
          apply Exists.intro
          refine ⟨fun p => ?_, hK _ ?_⟩
          · exact bw_of (w := W1) (p := p) (hV2.out p.W)
          clear hK K
          iterate 1 (quiet_step (fail))
          iterate 2 (quiet_step (fail))
          iterate 4 go_big_quiet_skip
          iterate 2 (quiet_step (fail))
          iterate 3 go_big_quiet_skip
          iterate 15 go_big_quiet_skip
          iterate 1 go_big_quiet_skip
          iterate 1 (quiet_step (fail))
          refine wpQuiet_nil ?_
          intro w3 hw'
          obtain ⟨⟨wx, hb_w3⟩, rfl⟩ := hw'
          go_wp2
          go_ret
          exact ⟨rfl, hB.trans ((hBW.trans (hb_w3.mono hBW.size)).mono hBz)⟩
      · have hV1 := Lib.hid (fun W => sok_f W y0 y1 y2 (by omega) (by omega) v1)
        obtain rfl : B = false := by
          rw [Bool.eq_false_iff]
          intro c
          have ht := (hB0.out.1 c) k hlt
          rw [hBk] at ht
          exact v1 ht.1
        refine wp_region_below (by kernel_rfl) (by kernel_rfl) ?_
        iterate 1 (quiet_step (fail))
        refine wpQuiet_step (fun K hK => ?_)
        go_simp
        apply Exists.intro
        refine ⟨fun p => ?_, hK _ ?_⟩
        · exact bw_of (w := W1) (p := p) (hV1.out p.W)
        clear hK K
        iterate 2 (quiet_step (fail))
        iterate 11 go_big_quiet_skip
        iterate 2 (quiet_step (fail))
        iterate 4 go_big_quiet_skip
        iterate 2 (quiet_step (fail))
        iterate 3 go_big_quiet_skip
        iterate 15 go_big_quiet_skip
        iterate 1 go_big_quiet_skip
        iterate 1 (quiet_step (fail))
        refine wpQuiet_nil ?_
        intro w3 hw'
        obtain ⟨⟨wx, hb_w3⟩, rfl⟩ := hw'
        go_wp2
        go_ret
        exact ⟨rfl, hB.trans ((hBW.trans (hb_w3.mono hBW.size)).mono hBz)⟩
    · obtain rfl : k = l := by omega
      have hd := decide_eq_false (show ¬ ((k : Int) < (k : Int)) by omega)
      obtain rfl : B = true := hB0.out.2 (fun i hi => hok.out i hi)
      go_wp2
      go_ret
      exact ⟨rfl, hB⟩
theorem sv6_any (X : SM) (u : Value) (G : Nat) (c1 : SC w G X.n X.e X.s u) (hS : SlT w u X.ts) (hbd : BdS X) (B : Bool) (hB : B = true ↔ VSum X) :
    Calls Tryz.prog 27 #[.pointer (some ⟨G, 1, none⟩)] w fun r w' => r = .returned (.bool B) ∧ Below w.heap.size w w' := by
  obtain ⟨a, cap, hu, h1, h2, _⟩ := id hS
  by_cases hv : VG X.n X.e
  · cases hf : frB X.n X.s with
    | false =>
      obtain rfl : B = false := by
        rw [Bool.eq_false_iff]; intro c; have := (hB.1 c).2.1; rw [hf] at this; cases this
      exact sv6_frame w G X.n X.e X.s a _ cap (by rw [← hu]; exact c1) hv hf
    | true =>
      by_cases hl : X.ts.length ≤ 64
      · exact sv6_ok w G X.n X.e X.s X.ts u c1 hS hbd.2.2 hl hv hf B (hB.trans ⟨fun c => c.2.2.2, fun c => ⟨hv, hf, hl, c⟩⟩)
      · obtain rfl : B = false := by
          rw [Bool.eq_false_iff]; intro c; exact hl (hB.1 c).2.2.1
        exact sv6_len w G X.n X.e X.s a X.ts.length cap (by rw [← hu]; exact c1) (by omega) (by omega) hv hf
  · obtain rfl : B = false := by
      rw [Bool.eq_false_iff]; intro c; exact hv (hB.1 c).1
    exact sv6_type w G X.n X.e X.s a _ cap (by rw [← hu]; exact c1) hbd.2.1 hbd.1 hv
end
end Go.Proofs.YtiedombphcdpbaaGreatDoor
/-
  LISTS OF FORBIDDEN PARTS: the code that the program and the model tell.
-/
namespace Go.Proofs.YtiedombphcdpbaaGreatDoor
open Go.RowKit
set_option maxRecDepth 100000

theorem forb_both (gs : List (Int × Int)) (hm : gs.length ≤ 1048576) (hbd : Bd gs) : ∃ c : Int, (c = 0 → AllV gs ∧ gs.length ≤ 6) ∧ 0 ≤ c ∧ c ≤ 8 ∧
    (∀ W a cap, Lies W a gs → Calls Tryz.prog 34 #[.slice a gs.length cap] W fun r w' => r = .returned (.int .i64 c) ∧ Below W.heap.size W w') ∧
    (∀ W a cap, Lies W a gs → Calls Tryz.prog 26 #[.slice a gs.length cap] W fun r w' => r = .returned (.int .i64 c) ∧ Below W.heap.size W w') := by
  by_cases hV : AllV gs
  · by_cases h6 : gs.length ≤ 6
    · exact ⟨0, fun _ => ⟨hV, h6⟩, by omega, by omega, fun W a cap hc => cf_ok W a cap gs hm hc hbd hV h6, fun W a cap hc => sf_ok W a cap gs hm hc hbd hV h6⟩
    · exact ⟨3, fun c => by omega, by omega, by omega, fun W a cap hc => cf_long W a cap gs hm hc hbd hV (by omega), fun W a cap hc => sf_long W a cap gs hm hc hbd hV (by omega)⟩
  · obtain ⟨m, h1, h2, h3⟩ := not_allV hV
    exact ⟨1, fun c => by omega, by omega, by omega, fun W a cap hc => cf_f W a cap gs hm hc hbd m h1 h2 h3, fun W a cap hc => sf_f W a cap gs hm hc hbd m h1 h2 h3⟩
/-- a list of graphs that a call returns with a code -/
def RetG (W : World) (L : List (Int × Int)) (c : Int) (r : Ending) (w' : World) : Prop := (∃ u, r = .returned (.tuple #[u, .int .i64 c]) ∧ OwnG W w' u L) ∧ Below W.heap.size W w'
theorem ownG_made {w0 w : World} {B cap : Nat} : OwnG w0 w (.slice (some ⟨B, 0, none⟩) 0 cap) [] → True := fun _ => trivial
theorem ownG_zero (w0 w : World) (a : Option Addr) : OwnG w0 w (.slice a 0 0) [] := ⟨a, 0, rfl, by simp, by simp, fun c => absurd c (by simp)⟩
end Go.Proofs.YtiedombphcdpbaaGreatDoor
/-
  WHICH STATEMENTS ARE VALID: the program's word and the model's.
-/
namespace Go.Proofs.YtiedombphcdpbaaGreatDoor
open Go.RowKit
set_option maxRecDepth 100000
theorem forb_iff (gs : List (Int × Int)) (hm : gs.length ≤ 1048576) (hbd : Bd gs) : ∃ c : Int, (c = 0 ↔ AllV gs ∧ gs.length ≤ 6) ∧
    (∀ W a cap, Lies W a gs → Calls Tryz.prog 34 #[.slice a gs.length cap] W fun r w' => r = .returned (.int .i64 c) ∧ Below W.heap.size W w') ∧
    (∀ W a cap, Lies W a gs → Calls Tryz.prog 26 #[.slice a gs.length cap] W fun r w' => r = .returned (.int .i64 c) ∧ Below W.heap.size W w') := by
  by_cases hV : AllV gs
  · by_cases h6 : gs.length ≤ 6
    · exact ⟨0, ⟨fun _ => ⟨hV, h6⟩, fun _ => rfl⟩, fun W a cap hc => cf_ok W a cap gs hm hc hbd hV h6, fun W a cap hc => sf_ok W a cap gs hm hc hbd hV h6⟩
    · exact ⟨3, ⟨fun c => by omega, fun c => absurd c.2 h6⟩, fun W a cap hc => cf_long W a cap gs hm hc hbd hV (by omega), fun W a cap hc => sf_long W a cap gs hm hc hbd hV (by omega)⟩
  · obtain ⟨m, h1, h2, h3⟩ := not_allV hV
    exact ⟨1, ⟨fun c => by omega, fun c => absurd c.1 hV⟩, fun W a cap hc => cf_f W a cap gs hm hc hbd m h1 h2 h3, fun W a cap hc => sf_f W a cap gs hm hc hbd m h1 h2 h3⟩
/-- which statements are valid -/
def VQ (Y : QM) : Prop := (AllV Y.gs ∧ Y.gs.length ≤ 6) ∧ VSum Y.X ∧ Y.X.n = 0 ∧ Fr.VF Y.p Y.q
theorem QB.sc {W : World} {B : Nat} {z : Value} {n e s : Int} {u : Value} {p q : Int} (h : QB W B z n e s u p q) : SC W B n e s u := ⟨h.lt, h.c1, h.c2, h.c3, h.c4, trivial⟩
section
variable (w : World)
set_option maxHeartbeats 1000000 in
theorem ivq_any (Y : QM) (z u : Value) (hz : SlG w z Y.gs) (hu : SlT w u Y.X.ts) (hbd : BdQ Y) (hm : Y.gs.length ≤ 1048576) (B : Bool) (hB : B = true ↔ VQ Y) :
    Calls Tryz.prog 16 #[.agg #[z, .int .i64 Y.X.n, .int .u32 Y.X.e, .int .i64 Y.X.s, u, .int .i64 Y.p, .int .i64 Y.q]] w fun r w' => r = .returned (.bool B) ∧ Below w.heap.size w w' := by
  unfold VQ at hB
  obtain ⟨hbS, hbG⟩ := hbd
  obtain ⟨c, hc, hF, _⟩ := forb_iff Y.gs hm hbG
  rw [← hc] at hB
  have hVs := fun B1 hB1 => Lib.hid (fun W (hb : Below w.heap.size w W) => ivs_any W Y.X u (hu.below hb) hbS B1 hB1)
  have hVf := Lib.hid (fun W => Fr.vf_any W Y.p Y.q)
  obtain ⟨gs, X, p, q⟩ := Y
  dsimp only at hz hu hm hB hF hVs hVf ⊢
  obtain ⟨a, cap, rfl, hl⟩ := hz.lies
  have hF1 := Lib.hid (fun W (hb : Below w.heap.size w W) => hF W a cap (hl.below hb))
  obtain ⟨au, cu, rfl, _⟩ := id hu
  obtain ⟨l1, hl1⟩ : ∃ l, gs.length = l := ⟨_, rfl⟩
  obtain ⟨l2, hl2⟩ : ∃ l, X.ts.length = l := ⟨_, rfl⟩
  rw [hl1] at hF1 ⊢
  rw [hl2] at hVs ⊢
  obtain ⟨VS, hVS⟩ : ∃ VS, VSum X = VS := ⟨_, rfl⟩
  obtain ⟨VF, hVF⟩ : ∃ VF, Fr.VF p q = VF := ⟨_, rfl⟩
  rw [hVS, hVF] at hB
  rw [hVS] at hVs
  obtain ⟨n, e, s, ts⟩ := X
  dsimp only at hB hVs ⊢
  clear hc hF hbS hbG hz hu hm hl hl1 hl2 hVS
  obtain ⟨W0, hW0⟩ : ∃ W0, W0 = w.alloc (.cells #[.slice a l1 cap, .int .i64 n, .int .u32 e, .int .i64 s, .slice au l2 cu, .int .i64 p, .int .i64 q] 42) := ⟨_, rfl⟩
  have hb0 : Below w.heap.size w W0 := by rw [hW0]; (repeat (first | exact Below.refl _ _ | assumption | refine bchain (by assumption) ?_ | refine balloc ?_ _ | apply Below.drew | apply below_drewN | (refine Below.alloc ?_ (by (try simp) <;> omega) _) | (refine Below.setCell ?_ (by (try simp) <;> omega) _)))
  have k0 : QB W0 w.heap.size (.slice a l1 cap) n e s (.slice au l2 cu) p q := by rw [hW0]; exact QB.made _ _ _ _ _ _ _ _ _
  replace hW0 := Lib.hid hW0
  obtain ⟨_, x0, x1, x2, x3, x4, x5, x6, _⟩ := id k0
  by_cases h1 : c = 0
  · subst h1
    by_cases h2 : VS
    · have hV := hVs true ⟨fun _ => h2, fun _ => rfl⟩
      by_cases h3 : n = 0
      · subst h3
        have hB2 : decide (Fr.VF p q) = B := by
          rw [Bool.eq_iff_iff, decide_eq_true_iff, hVF, hB]
          exact ⟨fun h => ⟨rfl, h2, rfl, h⟩, fun h => h.2.2.2⟩
        rw [hB2] at hVf
        clear hB hB2 hVs hVF
        go_enter Tryz.func16, Tryz.ntmps16
        go_wp2_with fail
        rw [← hW0.out]
        go_wp2_with fail
        refine (hF1.out _ hb0).mono ?_
        rintro r1 w1 ⟨rfl, hb1⟩
        replace k0 := k0.below hb1
        replace hb0 := bchain hb1 hb0
        clear x0 x1 x2 x3 x4 x5 x6 hb1
        obtain ⟨_, x0, x1, x2, x3, x4, x5, x6, _⟩ := id k0
        go_wp2_with fail
        refine (hV.out _ hb0).mono ?_
        rintro r2 w2 ⟨rfl, hb2⟩
        replace k0 := k0.below hb2
        replace hb0 := bchain hb2 hb0
        clear x0 x1 x2 x3 x4 x5 x6 hb2
        obtain ⟨_, x0, x1, x2, x3, x4, x5, x6, _⟩ := id k0
        go_wp2_with fail
        refine (hVf.out _).mono ?_
        rintro r3 w3 ⟨rfl, hb3⟩
        go_wp2
        go_ret
        exact ⟨rfl, bchain hb3 hb0⟩
      · obtain rfl : B = false := by
          rw [Bool.eq_false_iff]; intro c; exact h3 (hB.1 c).2.2.1
        have d3 : (n == 0) = false := by simpa using h3
        clear hB hVs h3 hVF
        go_enter Tryz.func16, Tryz.ntmps16
        go_wp2_with fail
        rw [← hW0.out]
        go_wp2_with fail
        refine (hF1.out _ hb0).mono ?_
        rintro r1 w1 ⟨rfl, hb1⟩
        replace k0 := k0.below hb1
        replace hb0 := bchain hb1 hb0
        clear x0 x1 x2 x3 x4 x5 x6 hb1
        obtain ⟨_, x0, x1, x2, x3, x4, x5, x6, _⟩ := id k0
        go_wp2_with fail
        refine (hV.out _ hb0).mono ?_
        rintro r2 w2 ⟨rfl, hb2⟩
        replace k0 := k0.below hb2
        replace hb0 := bchain hb2 hb0
        clear x0 x1 x2 x3 x4 x5 x6 hb2
        obtain ⟨_, x0, x1, x2, x3, x4, x5, x6, _⟩ := id k0
        go_wp2
        go_ret
        exact ⟨rfl, hb0⟩
    · have hV := hVs false ⟨fun c => (by cases c), fun c => absurd c h2⟩
      obtain rfl : B = false := by
        rw [Bool.eq_false_iff]; intro c; exact h2 (hB.1 c).2.1
      clear hB hVs hVF
      go_enter Tryz.func16, Tryz.ntmps16
      go_wp2_with fail
      rw [← hW0.out]
      go_wp2_with fail
      refine (hF1.out _ hb0).mono ?_
      rintro r1 w1 ⟨rfl, hb1⟩
      replace k0 := k0.below hb1
      replace hb0 := bchain hb1 hb0
      clear x0 x1 x2 x3 x4 x5 x6 hb1
      obtain ⟨_, x0, x1, x2, x3, x4, x5, x6, _⟩ := id k0
      go_wp2_with fail
      refine (hV.out _ hb0).mono ?_
      rintro r2 w2 ⟨rfl, hb2⟩
      go_wp2
      go_ret
      exact ⟨rfl, bchain hb2 hb0⟩
  · obtain rfl : B = false := by
      rw [Bool.eq_false_iff]; intro c; exact h1 (hB.1 c).1
    have d1 : (c == 0) = false := by simpa using h1
    clear hB hVs h1 hVF
    go_enter Tryz.func16, Tryz.ntmps16
    go_wp2_with fail
    rw [← hW0.out]
    go_wp2_with fail
    refine (hF1.out _ hb0).mono ?_
    rintro r1 w1 ⟨rfl, hb1⟩
    go_wp2
    go_ret
    exact ⟨rfl, bchain hb1 hb0⟩
set_option maxHeartbeats 1000000 in
theorem s6q_any (Y : QM) (z u : Value) (G : Nat) (k0 : QB w G z Y.X.n Y.X.e Y.X.s u Y.p Y.q) (hz : SlG w z Y.gs) (hu : SlT w u Y.X.ts) (hbd : BdQ Y) (hm : Y.gs.length ≤ 1048576) (B : Bool) (hB : B = true ↔ VQ Y) :
    Calls Tryz.prog 11 #[.pointer (some ⟨G, 0, none⟩)] w fun r w' => r = .returned (.bool B) ∧ Below w.heap.size w w' := by
  unfold VQ at hB
  obtain ⟨hbS, hbG⟩ := hbd
  obtain ⟨c, hc, _, hF⟩ := forb_iff Y.gs hm hbG
  rw [← hc] at hB
  have hVs := fun B1 hB1 => Lib.hid (fun W (hb : Below w.heap.size w W) (c1 : SC W G Y.X.n Y.X.e Y.X.s u) => sv6_any W Y.X u G c1 (hu.below hb) hbS B1 hB1)
  have hVf := Lib.hid (fun W => Fr.ok_any W Y.p Y.q)
  obtain ⟨gs, X, p, q⟩ := Y
  dsimp only at hz hu hm hB hF hVs hVf k0 ⊢
  obtain ⟨a, cap, rfl, hl⟩ := hz.lies
  have hF1 := Lib.hid (fun W (hb : Below w.heap.size w W) => hF W a cap (hl.below hb))
  obtain ⟨l1, hl1⟩ : ∃ l, gs.length = l := ⟨_, rfl⟩
  rw [hl1] at hF1 k0
  obtain ⟨VS, hVS⟩ : ∃ VS, VSum X = VS := ⟨_, rfl⟩
  obtain ⟨VF, hVF⟩ : ∃ VF, Fr.VF p q = VF := ⟨_, rfl⟩
  rw [hVS, hVF] at hB
  rw [hVS] at hVs
  obtain ⟨n, e, s, ts⟩ := X
  dsimp only at hB hVs k0
  clear hc hF hbS hbG hz hu hm hl hl1 hVS
  have hb0 : Below w.heap.size w w := Below.refl _ _
  obtain ⟨_, x0, x1, x2, x3, x4, x5, x6, _⟩ := id k0
  by_cases h1 : c = 0
  · subst h1
    by_cases h2 : VS
    · have hV := hVs true ⟨fun _ => h2, fun _ => rfl⟩
      by_cases h3 : n = 0
      · subst h3
        have hB2 : decide (Fr.VF p q) = B := by
          rw [Bool.eq_iff_iff, decide_eq_true_iff, hVF, hB]
          exact ⟨fun h => ⟨rfl, h2, rfl, h⟩, fun h => h.2.2.2⟩
        rw [hB2] at hVf
        clear hB hB2 hVs hVF
        go_enter Tryz.func11, Tryz.ntmps11
        go_wp2_with fail
        refine (hF1.out _ hb0).mono ?_
        rintro r1 w1 ⟨rfl, hb1⟩
        replace k0 := k0.below hb1
        replace hb0 := bchain hb1 hb0
        clear x0 x1 x2 x3 x4 x5 x6 hb1
        obtain ⟨_, x0, x1, x2, x3, x4, x5, x6, _⟩ := id k0
        go_wp2_with fail
        refine (hV.out _ hb0 k0.sc).mono ?_
        rintro r2 w2 ⟨rfl, hb2⟩
        replace k0 := k0.below hb2
        replace hb0 := bchain hb2 hb0
        clear x0 x1 x2 x3 x4 x5 x6 hb2
        obtain ⟨_, x0, x1, x2, x3, x4, x5, x6, _⟩ := id k0
        go_wp2_with fail
        refine (hVf.out _).mono ?_
        rintro r3 w3 ⟨rfl, hb3⟩
        go_wp2
        go_ret
        exact ⟨rfl, bchain hb3 hb0⟩
      · obtain rfl : B = false := by
          rw [Bool.eq_false_iff]; intro c; exact h3 (hB.1 c).2.2.1
        have d3 : (n == 0) = false := by simpa using h3
        clear hB hVs h3 hVF
        go_enter Tryz.func11, Tryz.ntmps11
        go_wp2_with fail
        refine (hF1.out _ hb0).mono ?_
        rintro r1 w1 ⟨rfl, hb1⟩
        replace k0 := k0.below hb1
        replace hb0 := bchain hb1 hb0
        clear x0 x1 x2 x3 x4 x5 x6 hb1
        obtain ⟨_, x0, x1, x2, x3, x4, x5, x6, _⟩ := id k0
        go_wp2_with fail
        refine (hV.out _ hb0 k0.sc).mono ?_
        rintro r2 w2 ⟨rfl, hb2⟩
        replace k0 := k0.below hb2
        replace hb0 := bchain hb2 hb0
        clear x0 x1 x2 x3 x4 x5 x6 hb2
        obtain ⟨_, x0, x1, x2, x3, x4, x5, x6, _⟩ := id k0
        go_wp2
        go_ret
        exact ⟨rfl, hb0⟩
    · have hV := hVs false ⟨fun c => (by cases c), fun c => absurd c h2⟩
      obtain rfl : B = false := by
        rw [Bool.eq_false_iff]; intro c; exact h2 (hB.1 c).2.1
      clear hB hVs hVF
      go_enter Tryz.func11, Tryz.ntmps11
      go_wp2_with fail
      refine (hF1.out _ hb0).mono ?_
      rintro r1 w1 ⟨rfl, hb1⟩
      replace k0 := k0.below hb1
      replace hb0 := bchain hb1 hb0
      clear x0 x1 x2 x3 x4 x5 x6 hb1
      obtain ⟨_, x0, x1, x2, x3, x4, x5, x6, _⟩ := id k0
      go_wp2_with fail
      refine (hV.out _ hb0 k0.sc).mono ?_
      rintro r2 w2 ⟨rfl, hb2⟩
      go_wp2
      go_ret
      exact ⟨rfl, bchain hb2 hb0⟩
  · obtain rfl : B = false := by
      rw [Bool.eq_false_iff]; intro c; exact h1 (hB.1 c).1
    have d1 : (c == 0) = false := by simpa using h1
    clear hB hVs h1 hVF
    go_enter Tryz.func11, Tryz.ntmps11
    go_wp2_with fail
    refine (hF1.out _ hb0).mono ?_
    rintro r1 w1 ⟨rfl, hb1⟩
    go_wp2
    go_ret
    exact ⟨rfl, bchain hb1 hb0⟩
end
end Go.Proofs.YtiedombphcdpbaaGreatDoor
namespace Go.Proofs.YtiedombphcdpbaaGreatDoor
open Go.RowKit
set_option maxRecDepth 100000
attribute [local go_sem] Oper.semAt_some
def qHead : List UInt8 := [115, 116, 97, 116, 101, 109, 101, 110, 116, 32]
def wHead : List UInt8 := [119, 105, 116, 104, 111, 117, 116, 32]
def qH (p q : Int) : List UInt8 := (qHead ++ frL p q.toNat) ++ [10]
def wT (g : Int × Int) : List UInt8 := (wHead ++ gT g.1 g.2) ++ [10]
def qT (gs : List (Int × Int)) (p q : Int) : Nat → List UInt8 | 0 => qH p q | k + 1 => qT gs p q k ++ wT (gAt gs k)
theorem qH_len {p q : Int} (h : Fr.VF p q) : (qH p q).length ≤ 60 := by
  have h1 := frL_len' h
  unfold qH
  simp only [List.length_append, List.length_cons, List.length_nil, qHead]
  omega
theorem wT_len {g : Int × Int} (h : VG g.1 g.2) : (wT g).length ≤ 2020 := by
  have h1 := gT_len h
  unfold wT
  simp only [List.length_append, List.length_cons, List.length_nil, wHead]
  omega
theorem qT_len {gs : List (Int × Int)} {p q : Int} (h : AllV gs) (hv : Fr.VF p q) : ∀ k, k ≤ gs.length → (qT gs p q k).length ≤ 2020 * (k + 1) := by
  intro k
  induction k with
  | zero => intro _; have := qH_len hv; show (qH p q).length ≤ _; omega
  | succ k ih =>
    intro hk
    have h1 := ih (by omega)
    have h2 := wT_len (h k (by omega))
    rw [qT, List.length_append]
    omega
section
variable (w : World)
set_option maxHeartbeats 4000000 in
theorem slt6_any (X : SM) (u : Value) (G : Nat) (hG : SC w G X.n X.e X.s u) (hS : SlT w u X.ts) (h : VSum X) :
    Calls Tryz.prog 31 #[.pointer (some ⟨G, 1, none⟩)] w fun r w' => r = .returned (.string (tx (sumT X X.ts.length))) ∧ Below w.heap.size w w' := by
  obtain ⟨s, hs, hs5⟩ := vs_s h
  have h64 := h.2.2.1
  have hD := Lib.hid (fun W => dec_any 5 W s (by omega) (by omega))
  have hGr := Lib.hid (fun W => sgT_any W h.1)
  have hgl := gT_len h.1
  have hdl := dd_len (n := s) (by omega)
  have x1 := run_cat sHead (Lib.decDigits s) (by simp [sHead]) (by omega)
  have x2 := run_cat (sHead ++ Lib.decDigits s) [32] (by simp [sHead]; omega) (by simp)
  have x3 := run_cat (sHead ++ Lib.decDigits s ++ [32]) (gT X.n X.e) (by simp [sHead]; omega) (by omega)
  have x4 := run_cat (sHead ++ Lib.decDigits s ++ [32] ++ gT X.n X.e) [10] (by simp [sHead]; omega) (by simp)
  rw [show sHead ++ Lib.decDigits s ++ [32] ++ gT X.n X.e ++ [10] = sumT X 0 by show _ = sH X; unfold sH; rw [hs]; rfl] at x4
  obtain ⟨a, cap, rfl, hcap, _, hcell⟩ := hS
  obtain ⟨l, hl⟩ : ∃ l, X.ts.length = l := ⟨_, rfl⟩
  have hT := Lib.hid (fun i (hi : i < l) => h.2.2.2 i (by omega))
  have hlen := Lib.hid (fun k (hk : k ≤ l) => sumT_len h k (by omega))
  have hcell' := Lib.hid (fun i (hi : i < l) => show ∃ b off, a = some ⟨b, off, none⟩ ∧ b < w.heap.size ∧ TCell w b off (tAt X.ts i) i by
    obtain ⟨b, off, e1, e2, e3⟩ := hcell (fun c => by rw [c] at hl; simp at hl; omega)
    exact ⟨b, off, e1, e2, e3 i (by omega)⟩)
  rw [hl] at hG h64 hcap ⊢
  clear hcell
  rw [hs] at hG
  have eS : ({ data := #[115, 117, 109, 32] } : ByteArray) = tx sHead := rfl
  have e32 : ({ data := #[32] } : ByteArray) = tx [32] := rfl
  have e10 : ({ data := #[10] } : ByteArray) = tx [10] := rfl
  go_enter Tryz.func31, Tryz.ntmps31
  rw [eS, e32, e10]
  obtain ⟨t32, ht32⟩ : ∃ t, tx [32] = t := ⟨_, rfl⟩
  obtain ⟨t10, ht10⟩ : ∃ t, tx [10] = t := ⟨_, rfl⟩
  obtain ⟨tS, htS⟩ : ∃ t, tx sHead = t := ⟨_, rfl⟩
  obtain ⟨tD, htD⟩ : ∃ t, tx (Lib.decDigits s) = t := ⟨_, rfl⟩
  obtain ⟨tG, htG⟩ : ∃ t, tx (gT X.n X.e) = t := ⟨_, rfl⟩
  obtain ⟨y1, hy1⟩ : ∃ t, tx (sHead ++ Lib.decDigits s) = t := ⟨_, rfl⟩
  obtain ⟨y2, hy2⟩ : ∃ t, tx (sHead ++ Lib.decDigits s ++ [32]) = t := ⟨_, rfl⟩
  obtain ⟨y3, hy3⟩ : ∃ t, tx (sHead ++ Lib.decDigits s ++ [32] ++ gT X.n X.e) = t := ⟨_, rfl⟩
  obtain ⟨y4, hy4⟩ : ∃ t, tx (sumT X 0) = t := ⟨_, rfl⟩
  rw [htS, htD, hy1] at x1
  rw [hy1, ht32, hy2] at x2
  rw [hy2, htG, hy3] at x3
  rw [hy3, ht10, hy4] at x4
  rw [htD] at hD
  rw [htG] at hGr
  rw [ht32, ht10, htS]
  replace ht32 := Lib.hid ht32
  replace ht10 := Lib.hid ht10
  clear htS htD htG hy1 hy2 hy3 hgl hdl hs h
  have q0 := bw_cell hG.lt hG.c0
  have q1 := bw_cell hG.lt hG.c1
  have q2 := bw_cell hG.lt hG.c2
  have q3 := bw_cell hG.lt hG.c3
  go_wp2_with fail
  refine wp_region_below (by kernel_rfl) (by kernel_rfl) ?_
  iterate 4 (quiet_step (fail))
  refine wpQuiet_step (fun K hK => ?_)
  go_simp
  apply Exists.intro
  refine ⟨fun p => ?_, hK _ ?_⟩
  · exact bw_of (w := w) (p := p) (hD.out p.W)
  clear hK K
  iterate 6 (quiet_step (fail))
  refine wpQuiet_step (fun K hK => ?_)
  go_simp
  apply Exists.intro
  refine ⟨fun p => ?_, hK _ ?_⟩
  · exact bw_of (w := w) (p := p) (hGr.out p.W)
  clear hK K
  iterate 3 (quiet_step (fail))
  refine wpQuiet_nil ?_
  intro w1 hw'
  obtain ⟨⟨wx, hb_w1⟩, rfl⟩ := hw'
  clear x1 x2 x3 x4 q0 q1 q2 q3
  go_wp2
  go_loopw [3, 4] (fun s i wr => ∃ k : Nat, k ≤ l ∧ i = .int .i64 k ∧ s = .string (tx (sumT X k)) ∧ Below w.heap.size w wr) (fun _ i _ => l - (intOf i).toNat)
  case atStart => exact ⟨0, by omega, rfl, by rw [hy4], hb_w1⟩
  case round =>
    obtain ⟨k, hk, rfl, rfl, hB⟩ := hrel
    have hGk := hG.below hB
    obtain ⟨_, c0, c1, c2, c3, _⟩ := id hGk
    by_cases hlt : k < l
    · have hd := decide_eq_true (show ((k : Int) < (l : Int)) by omega)
      obtain ⟨b, off, rfl, hb, d0, d1, d2, d3, d4⟩ := hcell'.out k hlt
      have ht := hT.out k hlt
      have hln := hlen.out k (by omega)
      have hsn : sumT X (k + 1) = sumT X k ++ tT (tAt X.ts k) := rfl
      obtain ⟨g, hg⟩ : ∃ g, tAt X.ts k = g := ⟨_, rfl⟩
      unfold TOk at ht
      rw [hg] at d0 d1 d2 d3 d4 ht hsn
      have hF := Lib.hid (fun W => sfT_any W ht.2.2.2.1)
      have hGg := Lib.hid (fun W => sgT_any W ht.1.1)
      have hfl := frL_len' ht.2.2.2.1
      have hgl := gT_len ht.1.1
      have x1 := run_cat (frL g.p g.q.toNat) [32] (by omega) (by simp)
      have x2 := run_cat (frL g.p g.q.toNat ++ [32]) (gT g.n g.e) (by simp; omega) (by omega)
      have x3 := run_cat (frL g.p g.q.toNat ++ [32] ++ gT g.n g.e) [10] (by simp; omega) (by simp)
      have x4 := run_cat (sumT X k) (tT g) (by omega) (by have := tT_len ht.1.1 ht.2.2.2.1; omega)
      rw [← hsn] at x4
      rw [show frL g.p g.q.toNat ++ [32] ++ gT g.n g.e ++ [10] = tT g from rfl] at x3
      have hz : b < wr.heap.size := Nat.lt_of_lt_of_le hb hB.size
      have p1 := bw_cell hz ((hB.cell (p := ⟨b, off + k * 5 + 1, none⟩) hb).trans d1)
      have p2 := bw_cell hz ((hB.cell (p := ⟨b, off + k * 5 + 2, none⟩) hb).trans d2)
      have p3 := bw_cell hz ((hB.cell (p := ⟨b, off + k * 5 + 3, none⟩) hb).trans d3)
      have p4 := bw_cell hz ((hB.cell (p := ⟨b, off + k * 5 + 4, none⟩) hb).trans d4)
      have q3 := bw_cell hGk.lt hGk.c3
      obtain ⟨z1, hz1⟩ : ∃ t, tx (sumT X k) = t := ⟨_, rfl⟩
      obtain ⟨z2, hz2⟩ : ∃ t, tx (sumT X (k + 1)) = t := ⟨_, rfl⟩
      obtain ⟨z3, hz3⟩ : ∃ t, tx (frL g.p g.q.toNat) = t := ⟨_, rfl⟩
      obtain ⟨z4, hz4⟩ : ∃ t, tx (frL g.p g.q.toNat ++ [32]) = t := ⟨_, rfl⟩
      obtain ⟨z5, hz5⟩ : ∃ t, tx (gT g.n g.e) = t := ⟨_, rfl⟩
      obtain ⟨z6, hz6⟩ : ∃ t, tx (frL g.p g.q.toNat ++ [32] ++ gT g.n g.e) = t := ⟨_, rfl⟩
      obtain ⟨z7, hz7⟩ : ∃ t, tx (tT g) = t := ⟨_, rfl⟩
      rw [hz3, ht32.out, hz4] at x1
      rw [hz4, hz5, hz6] at x2
      rw [hz6, ht10.out, hz7] at x3
      rw [hz1, hz7, hz2] at x4
      rw [hz3] at hF
      rw [hz5] at hGg
      rw [hz1]
      have hk0 : (0 : Int) ≤ (k : Int) := by omega
      have hk1 : (k : Int) < (l : Int) := by omega
      clear hz1 hz3 hz4 hz5 hz6 hz7 d0 d1 d2 d3 d4 ht hsn hfl hgl hln hg
      go_wp2_with fail
      refine wp_region_below (by kernel_rfl) (by kernel_rfl) ?_
      iterate 9 (quiet_step (fail))
      refine wpQuiet_step (fun K hK => ?_)
      go_simp
      apply Exists.intro
      refine ⟨fun p => ?_, hK _ ?_⟩
      · exact bw_of (w := wr) (p := p) (hF.out p.W)
      clear hK K
      iterate 10 (quiet_step (fail))
      refine wpQuiet_step (fun K hK => ?_)
      go_simp
      apply Exists.intro
      refine ⟨fun p => ?_, hK _ ?_⟩
      · exact bw_of (w := wr) (p := p) (hGg.out p.W)
      clear hK K
      iterate 4 (quiet_step (fail))
      refine wpQuiet_nil ?_
      intro w2 hw'
      obtain ⟨⟨wx, hb_w2⟩, rfl⟩ := hw'
      go_wp2
      go_roundw
      case rel => exact ⟨k + 1, by omega, by go_num, by rw [hz2], hB.trans (hb_w2.mono hB.size)⟩
      case measure => simp [intOf]; omega
    · have hd := decide_eq_false (show ¬ ((k : Int) < (l : Int)) by omega)
      obtain rfl : k = l := by omega
      obtain ⟨t, ht⟩ : ∃ t, tx (sumT X k) = t := ⟨_, rfl⟩
      rw [ht]
      go_wp2
      go_ret
      exact ⟨congrArg (fun t => Ending.returned (Value.string t)) ht.symm, hB⟩
set_option maxHeartbeats 4000000 in
theorem sqs_any (gs : List (Int × Int)) (X : SM) (p q : Int) (z u : Value) (G : Nat) (k0 : QB w G z X.n X.e X.s u p q) (hz : SlG w z gs) (hu : SlT w u X.ts) (hA : AllV gs) (h6 : gs.length ≤ 6) (hX : VSum X) (hv : Fr.VF p q) :
    Calls Tryz.prog 12 #[.pointer (some ⟨G, 0, none⟩)] w fun r w' => r = .returned (.string (tx (qT gs p q gs.length ++ sumT X X.ts.length))) ∧ Below w.heap.size w w' := by
  have hF := Lib.hid (sfT_any w hv)
  have hfl := frL_len' hv
  have x1 := run_cat qHead (frL p q.toNat) (by simp [qHead]) (by omega)
  have x2 := run_cat (qHead ++ frL p q.toNat) [10] (by simp [qHead]; omega) (by simp)
  rw [show qHead ++ frL p q.toNat ++ [10] = qT gs p q 0 from rfl] at x2
  have hL := Lib.hid (fun W (hb : Below w.heap.size w W) => slt6_any W X u G ((k0.below hb).sc) (hu.below hb) hX)
  have hsl := sumT_len hX X.ts.length (Nat.le_refl _)
  have h64 := hX.2.2.1
  obtain ⟨tL, htL⟩ : ∃ t, tx (sumT X X.ts.length) = t := ⟨_, rfl⟩
  rw [htL] at hL
  obtain ⟨a, cap, rfl, hcap, _, hcell⟩ := hz
  obtain ⟨lg, hlg⟩ : ∃ l, gs.length = l := ⟨_, rfl⟩
  have hcell' := Lib.hid (fun i (hi : i < lg) => show ∃ b off, a = some ⟨b, off, none⟩ ∧ b < w.heap.size ∧ GCell w b off (gAt gs i) i by
    obtain ⟨b, off, e1, e2, e3⟩ := hcell (fun c => by rw [c] at hlg; simp at hlg; omega)
    exact ⟨b, off, e1, e2, e3 i (by omega)⟩)
  have hG := Lib.hid (fun i (hi : i < lg) => show VG (gAt gs i).1 (gAt gs i).2 from hA i (by omega))
  have hln := Lib.hid (fun k (hk : k ≤ lg) => qT_len hA hv k (by omega))
  have hfin := Lib.hid (run_cat (qT gs p q lg) (sumT X X.ts.length) (by have := hln.out lg (Nat.le_refl _); omega) (by omega))
  rw [hlg] at h6 hcap k0 ⊢
  clear hcell hsl
  have eQ : ({ data := #[115, 116, 97, 116, 101, 109, 101, 110, 116, 32] } : ByteArray) = tx qHead := rfl
  have eW : ({ data := #[119, 105, 116, 104, 111, 117, 116, 32] } : ByteArray) = tx wHead := rfl
  have e10 : ({ data := #[10] } : ByteArray) = tx [10] := rfl
  go_enter Tryz.func12, Tryz.ntmps12
  rw [eQ, eW, e10]
  obtain ⟨t10, ht10⟩ : ∃ t, tx [10] = t := ⟨_, rfl⟩
  obtain ⟨tQ, htQ⟩ : ∃ t, tx qHead = t := ⟨_, rfl⟩
  obtain ⟨tW, htW⟩ : ∃ t, tx wHead = t := ⟨_, rfl⟩
  obtain ⟨tF, htF⟩ : ∃ t, tx (frL p q.toNat) = t := ⟨_, rfl⟩
  obtain ⟨y1, hy1⟩ : ∃ t, tx (qHead ++ frL p q.toNat) = t := ⟨_, rfl⟩
  obtain ⟨y2, hy2⟩ : ∃ t, tx (qT gs p q 0) = t := ⟨_, rfl⟩
  rw [htQ, htF, hy1] at x1
  rw [hy1, ht10, hy2] at x2
  rw [htF] at hF
  rw [ht10, htQ, htW]
  replace ht10 := Lib.hid ht10
  replace htW := Lib.hid htW
  clear htQ htF hy1 hfl
  obtain ⟨_, c0, c1, c2, c3, c4, c5, c6, _⟩ := id k0
  go_wp2_with fail
  refine hF.out.mono ?_
  rintro r1 w1 ⟨rfl, hb1⟩
  clear c0 c1 c2 c3 c4 c5 c6 hF
  go_wp2
  go_loopw [3, 4] (fun s i wr => ∃ k : Nat, k ≤ lg ∧ i = .int .i64 k ∧ s = .string (tx (qT gs p q k)) ∧ Below w.heap.size w wr) (fun _ i _ => lg - (intOf i).toNat)
  case atStart => exact ⟨0, by omega, rfl, by rw [hy2], hb1⟩
  case round =>
    obtain ⟨k, hk, rfl, rfl, hB⟩ := hrel
    obtain ⟨_, c0, c1, c2, c3, c4, c5, c6, _⟩ := k0.below hB
    by_cases hlt : k < lg
    · have hd := decide_eq_true (show ((k : Int) < (lg : Int)) by omega)
      obtain ⟨b, off, rfl, hb, d0, d1⟩ := hcell'.out k hlt
      have hvg := hG.out k hlt
      have hl2 := hln.out k hk
      have hsn : qT gs p q (k + 1) = qT gs p q k ++ wT (gAt gs k) := rfl
      obtain ⟨gn, ge, hg⟩ : ∃ x y, gAt gs k = (x, y) := ⟨_, _, rfl⟩
      rw [hg] at d0 d1 hvg hsn
      dsimp only at d0 d1 hvg
      have hgl := gT_len hvg
      have hwl := wT_len (g := (gn, ge)) hvg
      have hGt := Lib.hid (fun W => sgT_any W hvg)
      have x1 := run_cat wHead (gT gn ge) (by simp [wHead]) (by omega)
      have x2 := run_cat (wHead ++ gT gn ge) [10] (by simp [wHead]; omega) (by simp)
      rw [show wHead ++ gT gn ge ++ [10] = wT (gn, ge) from rfl] at x2
      have x3 := run_cat (qT gs p q k) (wT (gn, ge)) (by omega) (by omega)
      rw [← hsn] at x3
      obtain ⟨z1, hz1⟩ : ∃ t, tx (qT gs p q k) = t := ⟨_, rfl⟩
      obtain ⟨z2, hz2⟩ : ∃ t, tx (qT gs p q (k + 1)) = t := ⟨_, rfl⟩
      obtain ⟨z3, hz3⟩ : ∃ t, tx (gT gn ge) = t := ⟨_, rfl⟩
      obtain ⟨z4, hz4⟩ : ∃ t, tx (wHead ++ gT gn ge) = t := ⟨_, rfl⟩
      obtain ⟨z5, hz5⟩ : ∃ t, tx (wT (gn, ge)) = t := ⟨_, rfl⟩
      rw [htW.out, hz3, hz4] at x1
      rw [hz4, ht10.out, hz5] at x2
      rw [hz1, hz5, hz2] at x3
      rw [hz3] at hGt
      rw [hz1]
      have p0 := (hB.cell (p := ⟨b, off + k * 2, none⟩) hb).trans d0
      have p1 := (hB.cell (p := ⟨b, off + k * 2 + 1, none⟩) hb).trans d1
      have hk0 : (0 : Int) ≤ (k : Int) := by omega
      clear hz1 hz3 hz4 hz5 d0 d1 hvg hsn hgl hwl hl2 hg
      go_wp2_with fail
      refine (hGt.out _).mono ?_
      rintro r2 w2 ⟨rfl, hb2⟩
      go_wp2
      go_roundw
      case rel => exact ⟨k + 1, by omega, by go_num, by rw [hz2], bchain hb2 hB⟩
      case measure => simp [intOf]; omega
    · have hd := decide_eq_false (show ¬ ((k : Int) < (lg : Int)) by omega)
      obtain rfl : k = lg := by omega
      have xf := hfin.out
      rw [htL] at xf
      obtain ⟨z1, hz1⟩ : ∃ t, tx (qT gs p q k) = t := ⟨_, rfl⟩
      obtain ⟨z2, hz2⟩ : ∃ t, tx (qT gs p q k ++ sumT X X.ts.length) = t := ⟨_, rfl⟩
      rw [hz1, hz2] at xf
      rw [hz1]
      go_wp2_with fail
      refine (hL.out _ hB).mono ?_
      rintro r2 w2 ⟨rfl, hb2⟩
      go_wp2
      go_ret
      exact ⟨congrArg (fun t => Ending.returned (Value.string t)) hz2.symm, bchain hb2 hB⟩
end
end Go.Proofs.YtiedombphcdpbaaGreatDoor
/-
  THE TEXT OF A STATEMENT: the program's contract.
-/
namespace Go.Proofs.YtiedombphcdpbaaGreatDoor
open Go.RowKit
set_option maxRecDepth 100000
attribute [local go_sem] Oper.semAt_some
section
variable (w : World)
set_option maxHeartbeats 4000000 in
theorem iqs_t (gs : List (Int × Int)) (X : SM) (p q : Int) (z u : Value) (hz : SlG w z gs) (hu : SlT w u X.ts) (hbd : BdQ ⟨gs, X, p, q⟩) (hQ : VQ ⟨gs, X, p, q⟩) (hT : TabP w) :
    Calls Tryz.prog 7 #[.agg #[z, .int .i64 X.n, .int .u32 X.e, .int .i64 X.s, u, .int .i64 p, .int .i64 q]] w fun r w' => r = .returned (.string (tx (qT gs p q gs.length ++ sumT X X.ts.length))) ∧ Below w.heap.size w w' := by
  obtain ⟨⟨hA, h6⟩, hX, h0, hv⟩ := id hQ
  dsimp only at hA h6 hX h0 hv
  have hV := Lib.hid (fun W (hb : Below w.heap.size w W) => ivq_any W ⟨gs, X, p, q⟩ z u (hz.below hb) (hu.below hb) hbd (by show gs.length ≤ _; omega) true (by simp [hQ]))
  have hF := Lib.hid (fun W (hb : Below w.heap.size w W) => ifT_any W hv (hT.below hb))
  have hS := Lib.hid (fun W (hb : Below w.heap.size w W) => ist_t W X u (hu.below hb) hbd.1 hX (hT.below hb))
  have hTb := Lib.hid (fun W (hb : Below w.heap.size w W) => hT.below hb)
  have hfl := frL_len' hv
  have x1 := run_cat qHead (frL p q.toNat) (by simp [qHead]) (by omega)
  have x2 := run_cat (qHead ++ frL p q.toNat) [10] (by simp [qHead]; omega) (by simp)
  rw [show qHead ++ frL p q.toNat ++ [10] = qT gs p q 0 from rfl] at x2
  have hsl := sumT_len hX X.ts.length (Nat.le_refl _)
  have h64 := hX.2.2.1
  obtain ⟨a, cap, rfl, hcap, _, hcell⟩ := hz
  obtain ⟨au, cu, rfl, _⟩ := id hu
  obtain ⟨lg, hlg⟩ : ∃ l, gs.length = l := ⟨_, rfl⟩
  obtain ⟨lt, hlt'⟩ : ∃ l, X.ts.length = l := ⟨_, rfl⟩
  have hcell' := Lib.hid (fun i (hi : i < lg) => show ∃ b off, a = some ⟨b, off, none⟩ ∧ b < w.heap.size ∧ GCell w b off (gAt gs i) i by
    obtain ⟨b, off, e1, e2, e3⟩ := hcell (fun c => by rw [c] at hlg; simp at hlg; omega)
    exact ⟨b, off, e1, e2, e3 i (by omega)⟩)
  have hG := Lib.hid (fun i (hi : i < lg) => show VG (gAt gs i).1 (gAt gs i).2 from hA i (by omega))
  have hln := Lib.hid (fun k (hk : k ≤ lg) => qT_len hA hv k (by omega))
  simp only [hlg, hlt'] at h6 hcap hV hS hsl h64 ⊢
  clear hcell hbd hQ hA hX h0 hv hT hu
  have eQ : ({ data := #[115, 116, 97, 116, 101, 109, 101, 110, 116, 32] } : ByteArray) = tx qHead := rfl
  have eW : ({ data := #[119, 105, 116, 104, 111, 117, 116, 32] } : ByteArray) = tx wHead := rfl
  have e10 : ({ data := #[10] } : ByteArray) = tx [10] := rfl
  obtain ⟨W0, hW0⟩ : ∃ W0, W0 = w.alloc (.cells #[.slice a lg cap, .int .i64 X.n, .int .u32 X.e, .int .i64 X.s, .slice au lt cu, .int .i64 p, .int .i64 q] 42) := ⟨_, rfl⟩
  have hB0 : Below w.heap.size w W0 := by rw [hW0]; (repeat (first | exact Below.refl _ _ | assumption | refine bchain (by assumption) ?_ | refine balloc ?_ _ | apply Below.drew | apply below_drewN | (refine Below.alloc ?_ (by (try simp) <;> omega) _) | (refine Below.setCell ?_ (by (try simp) <;> omega) _)))
  have k0 : W0.heap[w.heap.size]? = some (.cells #[.slice a lg cap, .int .i64 X.n, .int .u32 X.e, .int .i64 X.s, .slice au lt cu, .int .i64 p, .int .i64 q] 42) := by rw [hW0]; exact World.alloc_heap_new _ _
  replace hW0 := Lib.hid hW0
  go_enter Tryz.func7, Tryz.ntmps7
  rw [eQ, eW, e10]
  obtain ⟨t10, ht10⟩ : ∃ t, tx [10] = t := ⟨_, rfl⟩
  obtain ⟨tQ, htQ⟩ : ∃ t, tx qHead = t := ⟨_, rfl⟩
  obtain ⟨tW, htW⟩ : ∃ t, tx wHead = t := ⟨_, rfl⟩
  obtain ⟨tF, htF⟩ : ∃ t, tx (frL p q.toNat) = t := ⟨_, rfl⟩
  obtain ⟨tL, htL⟩ : ∃ t, tx (sumT X lt) = t := ⟨_, rfl⟩
  obtain ⟨y1, hy1⟩ : ∃ t, tx (qHead ++ frL p q.toNat) = t := ⟨_, rfl⟩
  obtain ⟨y2, hy2⟩ : ∃ t, tx (qT gs p q 0) = t := ⟨_, rfl⟩
  rw [htQ, htF, hy1] at x1
  rw [hy1, ht10, hy2] at x2
  rw [htF] at hF
  rw [htL] at hS
  rw [ht10, htQ, htW]
  replace ht10 := Lib.hid ht10
  replace htW := Lib.hid htW
  replace hy2 := Lib.hid hy2
  replace htL := Lib.hid htL
  clear htQ htF hy1 hfl
  go_wp2_with fail
  rw [← hW0.out]
  refine (hV.out _ hB0).mono ?_
  rintro r1 w1 ⟨rfl, hb1⟩
  have k1 := (hb1.block _ (Array.getElem?_eq_some_iff.1 k0).1).trans k0
  have hB1 := bchain hb1 hB0
  have hbd1 := BdAt.fresh w1
  have hzb := hB1.size
  have hwB : w.heap.size < w1.heap.size := (Array.getElem?_eq_some_iff.1 k1).1
  have c5 : w1.cell? ⟨w.heap.size, 5, none⟩ = some (.int .i64 p) := by rw [Lib.cell_of_heap k1]; rfl
  have c6 : w1.cell? ⟨w.heap.size, 6, none⟩ = some (.int .i64 q) := by rw [Lib.cell_of_heap k1]; rfl
  have hne : w.heap.size ≠ w1.heap.size := by omega
  have hne2 : w1.heap.size ≠ w.heap.size := by omega
  clear k0 hb1
  replace hbd1 := Lib.hid hbd1
  go_wp2_with fail
  refine (hF.out _ (balloc hB1 _)).mono ?_
  rintro r2 w2 ⟨rfl, hb2⟩
  have k2 : w2.heap[w.heap.size]? = some (.cells #[.slice a lg cap, .int .i64 X.n, .int .u32 X.e, .int .i64 X.s, .slice au lt cu, .int .i64 p, .int .i64 q] 42) := ((bchain hb2 (balloc (Below.refl _ w1) (.cells #[.pointer none, .slice none 0 0] 58))).block _ hwB).trans k1
  have hB2 := bchain hb2 (balloc hB1 _)
  have hbd2 := hbd1.out.below hb2
  obtain ⟨b, hb⟩ : ∃ b, w1.heap.size = b := ⟨_, rfl⟩
  rw [hb] at hbd2 hzb hne hne2 ⊢
  have hWt := Lib.hid (bd_put w2 b [] (qT gs p q 0) hbd2 (by have := hln.out 0 (by omega); simp; omega))
  rw [hy2.out] at hWt
  replace hbd2 := Lib.hid hbd2
  clear c5 c6 hb2 hb hbd1 k1
  go_wp2_with fail
  refine hWt.out.mono ?_
  rintro r3 w3 ⟨rfl, hbd3, hb3, hk3⟩
  have k3 := (hk3 _ _ k2 (fun c => hne (Option.some.inj c)) (fun _ _ e => absurd (Obj.cells.inj e).2.1 (by decide)))
  have hB3 := hB2.trans (hb3.mono hzb)
  have c0 : w3.cell? ⟨w.heap.size, 0, none⟩ = some (.slice a lg cap) := by rw [Lib.cell_of_heap k3]; rfl
  replace hbd3 := Lib.hid hbd3
  clear hk3 hb3 k2
  go_wp2_with fail
  go_loopw [18] (fun i wr => ∃ k : Nat, k ≤ lg ∧ i = .int .i64 k ∧ BdAt wr b (qT gs p q k) ∧ Below w.heap.size w wr ∧ wr.heap[w.heap.size]? = some (.cells #[.slice a lg cap, .int .i64 X.n, .int .u32 X.e, .int .i64 X.s, .slice au lt cu, .int .i64 p, .int .i64 q] 42)) (fun i _ => lg - (intOf i).toNat)
  case atStart => exact ⟨0, by omega, rfl, hbd3.out, hB3, k3⟩
  case round =>
    obtain ⟨k, hk, rfl, hbd, hB, kB⟩ := hrel
    by_cases hlt : k < lg
    · have hd := decide_eq_true (show ((k : Int) < (lg : Int)) by omega)
      obtain ⟨bt, off, rfl, hbt, d0, d1⟩ := hcell'.out k hlt
      have hvg := hG.out k hlt
      have hl2 := hln.out k hk
      have hsn : qT gs p q (k + 1) = qT gs p q k ++ wT (gAt gs k) := rfl
      obtain ⟨gn, ge, hg⟩ : ∃ x y, gAt gs k = (x, y) := ⟨_, _, rfl⟩
      rw [hg] at d0 d1 hvg hsn
      dsimp only at d0 d1 hvg
      have hgl := gT_len hvg
      have hwl := wT_len (g := (gn, ge)) hvg
      have hGt := Lib.hid (fun W (hb : Below w.heap.size w W) => igT_any W hvg (hTb.out W hb))
      have x1 := run_cat wHead (gT gn ge) (by simp [wHead]) (by omega)
      have x2 := run_cat (wHead ++ gT gn ge) [10] (by simp [wHead]; omega) (by simp)
      rw [show wHead ++ gT gn ge ++ [10] = wT (gn, ge) from rfl] at x2
      obtain ⟨z3, hz3⟩ : ∃ t, tx (gT gn ge) = t := ⟨_, rfl⟩
      obtain ⟨z4, hz4⟩ : ∃ t, tx (wHead ++ gT gn ge) = t := ⟨_, rfl⟩
      obtain ⟨z5, hz5⟩ : ∃ t, tx (wT (gn, ge)) = t := ⟨_, rfl⟩
      rw [htW.out, hz3, hz4] at x1
      rw [hz4, ht10.out, hz5] at x2
      rw [hz3] at hGt
      have p0 := (hB.cell (p := ⟨bt, off + k * 2, none⟩) hbt).trans d0
      have p1 := (hB.cell (p := ⟨bt, off + k * 2 + 1, none⟩) hbt).trans d1
      have hk0 : (0 : Int) ≤ (k : Int) := by omega
      have hWt2 := Lib.hid (fun W (hd : BdAt W b (qT gs p q k)) => bd_put W b _ (wT (gn, ge)) hd (by omega))
      rw [hz5] at hWt2
      have hbw := hbd.lt
      have hwr : w.heap.size < wr.heap.size := (Array.getElem?_eq_some_iff.1 kB).1
      have hbd' := Lib.hid hbd
      clear hz3 hz4 hz5 d0 d1 hvg hgl hwl hl2 hg hbd
      go_wp2_with fail
      refine (hGt.out _ (balloc hB _)).mono ?_
      rintro r4 w4 ⟨rfl, hb4⟩
      have hb4' : Below wr.heap.size wr w4 := bchain hb4 (balloc (Below.refl _ _) _)
      have hbd4 := hbd'.out.below hb4'
      have k4 := (hb4'.block _ hwr).trans kB
      have hB4 := bchain hb4' hB
      have hW4 := Lib.hid (hWt2.out w4 hbd4)
      replace hbd4 := Lib.hid hbd4
      clear hb4 hb4'
      go_wp2_with fail
      refine hW4.out.mono ?_
      rintro r5 w5 ⟨rfl, hbd5, hb5, hk5⟩
      have k5 := (hk5 _ _ k4 (fun c => hne (Option.some.inj c)) (fun _ _ e => absurd (Obj.cells.inj e).2.1 (by decide)))
      have hB5 := hB4.trans (hb5.mono hzb)
      replace hbd5 := Lib.hid hbd5
      clear hk5 hb5
      go_wp2
      go_roundw
      case rel => exact ⟨k + 1, by omega, by go_num, by rw [hsn]; exact hbd5.out, hB5, k5⟩
      case measure => simp [intOf]; omega
    · have hd := decide_eq_false (show ¬ ((k : Int) < (lg : Int)) by omega)
      obtain rfl : k = lg := by omega
      have c1 : wr.cell? ⟨w.heap.size, 1, none⟩ = some (.int .i64 X.n) := by rw [Lib.cell_of_heap kB]; rfl
      have c2 : wr.cell? ⟨w.heap.size, 2, none⟩ = some (.int .u32 X.e) := by rw [Lib.cell_of_heap kB]; rfl
      have c3 : wr.cell? ⟨w.heap.size, 3, none⟩ = some (.int .i64 X.s) := by rw [Lib.cell_of_heap kB]; rfl
      have c4 : wr.cell? ⟨w.heap.size, 4, none⟩ = some (.slice au lt cu) := by rw [Lib.cell_of_heap kB]; rfl
      have hl2 := hln.out k hk
      have hbd' := Lib.hid hbd
      clear hbd
      go_wp2_with fail
      refine (hS.out _ hB).mono ?_
      rintro r4 w4 ⟨rfl, hb4⟩
      have hB4 := bchain hb4 hB
      have hbd4 := hbd'.out.below hb4
      have hW4 := Lib.hid (bd_put w4 b _ (sumT X lt) hbd4 (by omega))
      rw [htL.out] at hW4
      replace hbd4 := Lib.hid hbd4
      clear hb4 c1 c2 c3 c4
      go_wp2_with fail
      refine hW4.out.mono ?_
      rintro r5 w5 ⟨rfl, hbd5, hb5, _⟩
      have hB5 := hB4.trans (hb5.mono hzb)
      have hSt := Lib.hid (bd_string w5 b _ hbd5)
      obtain ⟨t, ht⟩ : ∃ t, tx (qT gs p q k ++ sumT X lt) = t := ⟨_, rfl⟩
      rw [ht] at hSt
      replace hbd5 := Lib.hid hbd5
      clear hb5
      go_wp2_with fail
      refine hSt.out.mono ?_
      rintro r6 w6 ⟨rfl, hb6, _⟩
      have hB6 := hB5.trans (hb6.mono hzb)
      go_wp2
      go_ret
      exact ⟨congrArg (fun t => Ending.returned (Value.string t)) ht.symm, hB6⟩
end
end Go.Proofs.YtiedombphcdpbaaGreatDoor
/-
  THE TEXT OF A STATEMENT: both sides.
-/
namespace Go.Proofs.YtiedombphcdpbaaGreatDoor
open Go.RowKit
set_option maxRecDepth 100000
section
variable (w : World)
theorem iqs_f (gs : List (Int × Int)) (X : SM) (p q : Int) (z u : Value) (hz : SlG w z gs) (hu : SlT w u X.ts) (hbd : BdQ ⟨gs, X, p, q⟩) (hm : gs.length ≤ 1048576) (hQ : ¬ VQ ⟨gs, X, p, q⟩) :
    Calls Tryz.prog 7 #[.agg #[z, .int .i64 X.n, .int .u32 X.e, .int .i64 X.s, u, .int .i64 p, .int .i64 q]] w fun r w' => r = .returned (.string ⟨#[]⟩) ∧ Below w.heap.size w w' := by
  have hV := Lib.hid (fun W (hb : Below w.heap.size w W) => ivq_any W ⟨gs, X, p, q⟩ z u (hz.below hb) (hu.below hb) hbd hm false (by simp [hQ]))
  obtain ⟨a, cap, rfl, _⟩ := hz
  obtain ⟨au, cu, rfl, _⟩ := hu
  have hB0 : Below w.heap.size w (w.alloc (.cells #[.slice a gs.length cap, .int .i64 X.n, .int .u32 X.e, .int .i64 X.s, .slice au X.ts.length cu, .int .i64 p, .int .i64 q] 42)) := by (repeat (first | exact Below.refl _ _ | assumption | refine bchain (by assumption) ?_ | refine balloc ?_ _ | apply Below.drew | apply below_drewN | (refine Below.alloc ?_ (by (try simp) <;> omega) _) | (refine Below.setCell ?_ (by (try simp) <;> omega) _)))
  clear hbd hQ
  go_enter Tryz.func7, Tryz.ntmps7
  go_wp2_with fail
  refine (hV.out _ hB0).mono ?_
  rintro r1 w1 ⟨rfl, hb1⟩
  go_wp2
  go_ret
  exact ⟨rfl, bchain hb1 hB0⟩
theorem sqq_any (gs : List (Int × Int)) (X : SM) (p q : Int) (z u : Value) (hz : SlG w z gs) (hu : SlT w u X.ts) (hbd : BdQ ⟨gs, X, p, q⟩) (hm : gs.length ≤ 1048576) (s : ByteArray) (h1 : VQ ⟨gs, X, p, q⟩ → s = tx (qT gs p q gs.length ++ sumT X X.ts.length)) (h2 : ¬ VQ ⟨gs, X, p, q⟩ → s = ⟨#[]⟩) :
    Calls Tryz.prog 5 #[.agg #[z, .int .i64 X.n, .int .u32 X.e, .int .i64 X.s, u, .int .i64 p, .int .i64 q]] w fun r w' => r = .returned (.string s) ∧ Below w.heap.size w w' := by
  obtain ⟨b, hb⟩ : ∃ b : Bool, (b = true ↔ VQ ⟨gs, X, p, q⟩) := ⟨@decide (VQ ⟨gs, X, p, q⟩) (Classical.propDecidable _), by simp⟩
  have hV := Lib.hid (fun W G (hB : Below w.heap.size w W) k0 => s6q_any W ⟨gs, X, p, q⟩ z u G k0 (hz.below hB) (hu.below hB) hbd hm b hb)
  have hL := Lib.hid (fun W G (hB : Below w.heap.size w W) k0 (hQ : VQ ⟨gs, X, p, q⟩) => sqs_any W gs X p q z u G k0 (hz.below hB) (hu.below hB) hQ.1.1 hQ.1.2 hQ.2.1 hQ.2.2.2)
  obtain ⟨a, cap, rfl, _⟩ := hz
  obtain ⟨au, cu, rfl, _⟩ := hu
  obtain ⟨W0, hW0⟩ : ∃ W0, W0 = w.alloc (.cells #[.slice a gs.length cap, .int .i64 X.n, .int .u32 X.e, .int .i64 X.s, .slice au X.ts.length cu, .int .i64 p, .int .i64 q] 42) := ⟨_, rfl⟩
  have hB0 : Below w.heap.size w W0 := by rw [hW0]; (repeat (first | exact Below.refl _ _ | assumption | refine bchain (by assumption) ?_ | refine balloc ?_ _ | apply Below.drew | apply below_drewN | (refine Below.alloc ?_ (by (try simp) <;> omega) _) | (refine Below.setCell ?_ (by (try simp) <;> omega) _)))
  have k0 : QB W0 w.heap.size (.slice a gs.length cap) X.n X.e X.s (.slice au X.ts.length cu) p q := by rw [hW0]; exact QB.made _ _ _ _ _ _ _ _ _
  replace hW0 := Lib.hid hW0
  obtain ⟨l1, hl1⟩ : ∃ l, gs.length = l := ⟨_, rfl⟩
  obtain ⟨l2, hl2⟩ : ∃ l, X.ts.length = l := ⟨_, rfl⟩
  obtain ⟨t, ht⟩ : ∃ t, tx (qT gs p q gs.length ++ sumT X X.ts.length) = t := ⟨_, rfl⟩
  rw [ht] at hL h1
  clear ht
  simp only [hl1, hl2] at hV hL k0 hW0 hm ⊢
  clear hbd hl1 hl2
  go_enter Tryz.func5, Tryz.ntmps5
  go_wp2_with fail
  rw [← hW0.out]
  refine (hV.out _ _ hB0 k0).mono ?_
  rintro r1 w1 ⟨rfl, hb1⟩
  have hB1 := bchain hb1 hB0
  have k1 := Lib.hid (k0.below hb1)
  cases b
  · have hs := h2 (fun h => by have := hb.2 h; cases this)
    subst hs
    clear h1 h2 hb
    go_wp2
    go_ret
    exact ⟨rfl, hB1⟩
  · have hQ := hb.1 rfl
    have hs := h1 hQ
    subst hs
    have hC := Lib.hid (hL.out _ _ hB1 k1.out hQ)
    clear h1 h2 hb hQ
    go_wp2_with fail
    refine hC.out.mono ?_
    rintro r2 w2 ⟨rfl, hb2⟩
    go_wp2
    go_ret
    exact ⟨rfl, bchain hb2 hB1⟩
theorem qs_both (Y : QM) (hbd : BdQ Y) (hm : Y.gs.length ≤ 1048576) : ∃ s : ByteArray, (∀ W z u, SlG W z Y.gs → SlT W u Y.X.ts → Calls Tryz.prog 5 #[.agg #[z, .int .i64 Y.X.n, .int .u32 Y.X.e, .int .i64 Y.X.s, u, .int .i64 Y.p, .int .i64 Y.q]] W fun r w' => r = .returned (.string s) ∧ Below W.heap.size W w') ∧
    (∀ W z u, SlG W z Y.gs → SlT W u Y.X.ts → TabP W → Calls Tryz.prog 7 #[.agg #[z, .int .i64 Y.X.n, .int .u32 Y.X.e, .int .i64 Y.X.s, u, .int .i64 Y.p, .int .i64 Y.q]] W fun r w' => r = .returned (.string s) ∧ Below W.heap.size W w') := by
  by_cases h : VQ Y
  · exact ⟨_, fun W z u hz hu => sqq_any W Y.gs Y.X Y.p Y.q z u hz hu hbd hm _ (fun _ => rfl) (fun c => absurd h c), fun W z u hz hu hT => iqs_t W Y.gs Y.X Y.p Y.q z u hz hu hbd h hT⟩
  · exact ⟨⟨#[]⟩, fun W z u hz hu => sqq_any W Y.gs Y.X Y.p Y.q z u hz hu hbd hm _ (fun c => absurd c h) (fun _ => rfl), fun W z u hz hu _ => iqs_f W Y.gs Y.X Y.p Y.q z u hz hu hbd hm h⟩
end
end Go.Proofs.YtiedombphcdpbaaGreatDoor
