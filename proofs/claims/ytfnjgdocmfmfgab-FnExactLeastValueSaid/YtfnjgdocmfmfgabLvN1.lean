/-
  LvF, LvC, Ri, LvK, LvM, LvR, LvI, LvO, LvS, LvT, LvB, in one text.
-/
import Derived.Test.YtfnjgdocmfmfgabLvN2
import Derived.Test.YtfnjgdocmfmfgabAfAll
import Derived.RegionTactic
import Derived.Deep.RegionWith
import Derived.KernelRfl
import Derived.Deep.RegionHeld3
import Derived.Deep.DeepCutAuto
import Derived.StillTailTactics
/-
  LeastValue: plain facts; all free flags of a sum's type and size, both sides.
-/
namespace Go.Proofs.Ytfnjgdocmfmfgab
open Go.RowKit
set_option maxRecDepth 100000
theorem kE_ty {k t j : Nat} (hk : k ≤ 3) (ht : t < 2 ^ pc k) (hlt : kE t k j < 1024) : onL (kE t k j) (List.range k) = t := by
  rw [← and_first k hk _ hlt, eMax_pc k (by omega), Nat.and_two_pow_sub_one_eq_mod, kE_eq ht, Nat.mul_add_mod, Nat.mod_eq_of_lt ht]
theorem co_vf {X : SM} (hv : VSum X) (k n y : Int) : Fr.VF (coF X.ts k n y).1 (coF X.ts k n y).2 := by
  unfold coF
  split
  · rename_i g hg
    obtain ⟨i, hi, rfl⟩ := List.getElem_of_mem (List.mem_of_find?_eq_some hg)
    have h := (hv.2.2.2 i hi).2.2.2.1
    have e : tAt X.ts i = X.ts[i] := by simp [tAt, List.getElem?_eq_getElem hi]
    rw [e] at h
    exact h
  · exact ⟨by decide, by decide, by decide, by decide, by decide⟩
/-- is one fraction less than another one -/
def lt2 (a b : Int × Int) : Bool := decide (a.1 * b.2 < b.1 * a.2)
theorem vf_prod {a b : Int × Int} (ha : Fr.VF a.1 a.2) (hb : Fr.VF b.1 b.2) : -1000000000000000000 ≤ a.1 * b.2 ∧ a.1 * b.2 ≤ 1000000000000000000 := by
  obtain ⟨_, _, a1, a2, _⟩ := ha
  obtain ⟨b1, b2, _⟩ := hb
  constructor
  · have h1 : -1000000000 * b.2 ≤ a.1 * b.2 := Int.mul_le_mul_of_nonneg_right a1 (by omega)
    omega
  · have h1 : a.1 * b.2 ≤ 1000000000 * b.2 := Int.mul_le_mul_of_nonneg_right a2 (by omega)
    omega
/-- the first index of the least one of the first i -/
def bst (f : Nat → Int × Int) : Nat → Nat
  | 0 => 0
  | i + 1 => if i ≠ 0 ∧ lt2 (f i) (f (bst f i)) = true then i else bst f i
theorem bst_lt (f : Nat → Int × Int) : ∀ i, 0 < i → bst f i < i
  | 0, h => absurd h (by omega)
  | i + 1, _ => by
    unfold bst
    split
    · omega
    · by_cases c : i = 0
      · subst c; unfold bst; omega
      · have := bst_lt f i (by omega); omega
theorem bst_one (f : Nat → Int × Int) : bst f 1 = 0 := by unfold bst; simp [bst]
theorem bst_t {f : Nat → Int × Int} {i : Nat} (h : i ≠ 0) (h2 : lt2 (f i) (f (bst f i)) = true) : bst f (i + 1) = i := by
  rw [bst.eq_2]; simp [h, h2]
theorem bst_f {f : Nat → Int × Int} {i : Nat} (h2 : lt2 (f i) (f (bst f i)) = false) : bst f (i + 1) = bst f i := by
  rw [bst.eq_2]; simp [h2]
/-- the fraction of the flag at i of a list -/
def vaL (X : SM) (L : List (Int × Int × Int)) (i : Nat) : Int × Int := coF X.ts (kAt L i).1 (kAt L i).2.1 (kAt L i).2.2
/-- what such a list holds -/
def ElOk (X : SM) (L : List (Int × Int × Int)) : Prop := ∀ i, i < L.length → ∃ k s y : Nat, kAt L i = ((k : Int), (s : Int), (y : Int)) ∧ VK k s y ∧ Fits k s y X.n X.e X.s ∧ leastK s k y = y
theorem flL_isF {n k t m i : Nat} {gs : List (Int × Int)} (hi : i < (flL n k t gs m).length) : ∃ j, j < m ∧ isL n k t j = true ∧ kAt (flL n k t gs m) i = ((k : Int), (n : Int), ((kE t k j : Nat) : Int)) := by
  have hm : (flL n k t gs m)[i] ∈ flL n k t gs m := List.getElem_mem hi
  unfold flL at hm
  obtain ⟨j, hj, he⟩ := List.mem_map.1 hm
  rw [List.mem_filter, List.mem_range] at hj
  refine ⟨j, hj.1, ?_, by unfold kAt; rw [List.getElem?_eq_getElem hi]; exact he.symm⟩
  have := hj.2
  unfold isF at this
  simp only [Bool.and_eq_true] at this
  exact this.1
theorem el_ok {X : SM} (hv : VSum X) (hbd : BdS X) {gs : List (Int × Int)} : ElOk X (flL X.s.toNat X.n.toNat X.e.toNat gs (kM X.n.toNat X.s.toNat)) := fun i hi => by
  obtain ⟨hg, hf, _⟩ := hv
  unfold frB at hf
  rw [decide_eq_true_eq] at hf
  have h0 := hg.1
  have he : X.e.toNat < eMax X.n.toNat := by
    have h4 : X.e < (eMax X.n.toNat : Int) := by have := hg.2.2.2; simpa using this
    have := hbd.1
    omega
  obtain ⟨j, hj, hl, hq⟩ := flL_isF hi
  have ht2 : X.e.toNat < 2 ^ pc X.n.toNat := by rw [← eMax_pc X.n.toNat (by omega)]; exact he
  have hmx := kE_max (t := X.e.toNat) (k := X.n.toNat) (n := X.s.toNat) (by omega) (by omega) ht2 hj
  have hlt : kE X.e.toNat X.n.toNat j < 1024 := by have := eMax_le X.s.toNat; omega
  refine ⟨_, _, _, hq, VK.mk' (by omega) (by omega) (by omega) hmx, ⟨by omega, ?_, by omega⟩, ?_⟩
  · rw [kE_ty (by omega) ht2 hlt]
    have := hbd.1
    omega
  · unfold isL at hl
    simpa using hl
theorem lv_all (X : SM) (hv : VSum X) (hbd : BdS X) (gs : List (Int × Int)) (hm : gs.length ≤ 1048576) (hbg : Bd gs) : ∃ (L : List (Int × Int × Int)) (c q : Int), L.length ≤ 64 ∧ ElOk X L ∧ (q ≠ 0 → c = q) ∧
    (∀ W a cap, Lies W a gs → Calls Try.prog 16 #[.slice a gs.length cap] W fun r w' => r = .returned (.int .i64 q) ∧ Below W.heap.size W w') ∧
    (∀ W v, SlG W v gs → Calls Try.prog 17 #[.agg #[.int .i64 X.n, .int .u32 X.e], .int .i64 X.s, v] W (RetK W L c)) ∧
    (∀ W v, SlG W v gs → Calls Try.prog 24 #[.agg #[.int .i64 X.n, .int .u32 X.e], .int .i64 X.s, v] W (RetK W L c)) := by
  obtain ⟨hg, hf, _⟩ := id hv
  unfold frB at hf
  rw [decide_eq_true_eq] at hf
  have h0 := hg.1
  obtain ⟨q, hq0, _, _, hi, hs⟩ := forb_both gs hm hbg
  have hEl := el_ok hv hbd (gs := gs)
  obtain ⟨k, hk⟩ : ∃ x : Nat, X.n = x := ⟨X.n.toNat, by omega⟩
  obtain ⟨n, hn⟩ : ∃ x : Nat, X.s = x := ⟨X.s.toNat, by omega⟩
  obtain ⟨t, ht⟩ : ∃ x : Nat, X.e = x := ⟨X.e.toNat, by have := hbd.1; omega⟩
  rw [hk, hn, ht] at hEl ⊢
  simp only [Int.toNat_natCast] at hEl
  rw [hk, ht] at hg
  by_cases hc : q = 0
  · obtain ⟨hV, h6⟩ := hq0 hc
    have htm : t < eMax k := by have := hg.2.2.2; simpa using this
    have hi2 := fun W v hS => iaf_ok W k n t (by omega) (by omega) (by omega) htm v gs hS hm hbg hV h6
    have hs2 := fun W v hS => saf_ok W k n t (by omega) (by omega) (by omega) htm v gs hS hm hbg hV h6
    by_cases h64 : (flL n k t gs (kM k n)).length ≤ 64
    · exact ⟨flL n k t gs (kM k n), 0, q, h64, hEl, fun c => absurd hc c, fun W a cap hl => hs W a cap hl, fun W v hS => RetLim.both (hC := hs2 W v hS) 0 _ (.inl ⟨h64, rfl, rfl⟩), fun W v hS => RetLim.both (hC := hi2 W v hS) 0 _ (.inl ⟨h64, rfl, rfl⟩)⟩
    · exact ⟨[], 3, q, by simp, fun i hi => by simp at hi, fun c => absurd hc c, fun W a cap hl => hs W a cap hl, fun W v hS => RetLim.both (hC := hs2 W v hS) 3 _ (.inr ⟨by omega, rfl, rfl⟩), fun W v hS => RetLim.both (hC := hi2 W v hS) 3 _ (.inr ⟨by omega, rfl, rfl⟩)⟩
  · refine ⟨[], q, q, by simp, fun i hi => by simp at hi, fun _ => rfl, fun W a cap hl => hs W a cap hl, fun W v hS => ?_, fun W v hS => ?_⟩
    · obtain ⟨a, cap, rfl, hl⟩ := hS.lies
      have := saf_code W k n t q (.inl hc) hg _ (fun W' hW => hs W' a cap (hl.below hW))
      rw [if_neg hc] at this
      exact this
    · obtain ⟨a, cap, rfl, hl⟩ := hS.lies
      have := iaf_code W k n t q (.inl hc) hg a _ cap (fun W' hW => hi W' a cap (hl.below hW))
      rw [if_neg hc] at this
      exact this
end Go.Proofs.Ytfnjgdocmfmfgab
/-
  LeastValue: how fractions are held against each other, both sides.
-/
namespace Go.Proofs.Ytfnjgdocmfmfgab
open Go.RowKit Go.Shelf
set_option maxRecDepth 100000
attribute [local go_sem] Oper.semAt_some
def cmpI (x y : Int) : Int := if x < y then -1 else if y < x then 1 else 0
theorem cmpI_neg (x y : Int) : cmpI x y < 0 ↔ x < y := by unfold cmpI; split <;> (try split) <;> omega
section
variable (w : World)
theorem cmpC_any (x y : Int) :
    Calls Try.prog 28 #[.int .i64 x, .int .i64 y] w fun r w' => r = .returned (.int .i64 (cmpI x y)) ∧ Below w.heap.size w w' := by
  unfold cmpI
  by_cases h1 : x < y
  · rw [if_pos h1]
    go_enter Try.func28, Try.ntmps28
    go_wp2
    go_ret
    exact ⟨rfl, by (repeat (first | exact Below.refl _ _ | assumption | refine bchain (by assumption) ?_ | refine balloc ?_ _ | apply Below.drew | apply below_drewN | (refine Below.alloc ?_ (by (try simp) <;> omega) _) | (refine Below.setCell ?_ (by (try simp) <;> omega) _)))⟩
  · rw [if_neg h1]
    have hd := decide_eq_false h1
    by_cases h2 : y < x
    · rw [if_pos h2]
      go_enter Try.func28, Try.ntmps28
      go_wp2
      go_ret
      exact ⟨rfl, by (repeat (first | exact Below.refl _ _ | assumption | refine bchain (by assumption) ?_ | refine balloc ?_ _ | apply Below.drew | apply below_drewN | (refine Below.alloc ?_ (by (try simp) <;> omega) _) | (refine Below.setCell ?_ (by (try simp) <;> omega) _)))⟩
    · rw [if_neg h2]
      have hd2 := decide_eq_false h2
      go_enter Try.func28, Try.ntmps28
      go_wp2
      go_ret
      exact ⟨rfl, by (repeat (first | exact Below.refl _ _ | assumption | refine bchain (by assumption) ?_ | refine balloc ?_ _ | apply Below.drew | apply below_drewN | (refine Below.alloc ?_ (by (try simp) <;> omega) _) | (refine Below.setCell ?_ (by (try simp) <;> omega) _)))⟩
theorem scmp_any (a b : Int × Int) (ha : Fr.VF a.1 a.2) (hb : Fr.VF b.1 b.2) :
    Calls Try.prog 20 #[.agg #[.int .i64 a.1, .int .i64 a.2], .agg #[.int .i64 b.1, .int .i64 b.2]] w fun r w' => r = .returned (.int .i64 (cmpI (a.1 * b.2) (b.1 * a.2))) ∧ Below w.heap.size w w' := by
  obtain ⟨l1, u1⟩ := vf_prod ha hb
  obtain ⟨l2, u2⟩ := vf_prod hb ha
  obtain ⟨a1, a2⟩ := a
  obtain ⟨b1, b2⟩ := b
  dsimp only at l1 u1 l2 u2 ⊢
  have w1 : IntKind.i64.wrap (a1 * b2) = a1 * b2 := IntWalk.i64_in _ ⟨by omega, by omega⟩
  have w2 : IntKind.i64.wrap (b1 * a2) = b1 * a2 := IntWalk.i64_in _ ⟨by omega, by omega⟩
  obtain ⟨x, hx⟩ : ∃ x, a1 * b2 = x := ⟨_, rfl⟩
  obtain ⟨y, hy⟩ : ∃ y, b1 * a2 = y := ⟨_, rfl⟩
  rw [hx] at w1 ⊢
  rw [hy] at w2 ⊢
  clear ha hb l1 u1 l2 u2
  unfold cmpI
  by_cases h1 : x < y
  · rw [if_pos h1]
    go_enter Try.func20, Try.ntmps20
    go_wp2
    go_ret
    exact ⟨rfl, by (repeat (first | exact Below.refl _ _ | assumption | refine bchain (by assumption) ?_ | refine balloc ?_ _ | apply Below.drew | apply below_drewN | (refine Below.alloc ?_ (by (try simp) <;> omega) _) | (refine Below.setCell ?_ (by (try simp) <;> omega) _)))⟩
  · rw [if_neg h1]
    have hd := decide_eq_false h1
    by_cases h2 : y < x
    · rw [if_pos h2]
      go_enter Try.func20, Try.ntmps20
      go_wp2
      go_ret
      exact ⟨rfl, by (repeat (first | exact Below.refl _ _ | assumption | refine bchain (by assumption) ?_ | refine balloc ?_ _ | apply Below.drew | apply below_drewN | (refine Below.alloc ?_ (by (try simp) <;> omega) _) | (refine Below.setCell ?_ (by (try simp) <;> omega) _)))⟩
    · rw [if_neg h2]
      have hd2 := decide_eq_false h2
      go_enter Try.func20, Try.ntmps20
      go_wp2
      go_ret
      exact ⟨rfl, by (repeat (first | exact Below.refl _ _ | assumption | refine bchain (by assumption) ?_ | refine balloc ?_ _ | apply Below.drew | apply below_drewN | (refine Below.alloc ?_ (by (try simp) <;> omega) _) | (refine Below.setCell ?_ (by (try simp) <;> omega) _)))⟩
end
end Go.Proofs.Ytfnjgdocmfmfgab
/-
  A REGION THAT DRAWS ITS ORDER, BY AN INVARIANT: 'I f a w' says what holds when the operations with f have come up, in whatever order. Each operation is walked once.
-/
namespace Go.Proofs.Ytfnjgdocmfmfgab
section
variable {P : Program} {ops : Array Oper} {Q : Exit → Act → World → Prop} {md : Region.Mode}
/-- each operation waits for earlier ones alone -/
def acyc (md : Region.Mode) (ops : Array Oper) : Bool := (List.range ops.size).all fun i => ((ops[i]?).map fun o => o.after.all fun e => !Region.binds md e || decide (e.on < i)).getD true
theorem acyc_spec (h : acyc md ops = true) {i : Nat} {o : Oper} (ho : ops[i]? = some o) {e : Edge} (he : e ∈ o.after) (hb : Region.binds md e = true) : e.on < i := by
  unfold acyc at h
  rw [List.all_eq_true] at h
  have hlt : i < ops.size := (Array.getElem?_eq_some_iff.1 ho).1
  have := h i (List.mem_range.2 hlt)
  rw [ho] at this
  simp only [Option.map_some, Option.getD_some] at this
  rw [Array.all_eq_true_iff_forall_mem] at this
  have h2 := this e he
  simp [hb] at h2
  exact h2
def fl (listed : Array Bool) (i : Nat) : Bool := listed.getD i false
def setf (f : Nat → Bool) (i k : Nat) : Bool := if k = i then true else f k
theorem fl_true {listed : Array Bool} {i : Nat} (h : i < listed.size) : listed.getD i true = fl listed i := by
  unfold fl
  simp [Array.getD_eq_getD_getElem?, Array.getElem?_eq_getElem h]
theorem fl_set {listed : Array Bool} {i : Nat} (hi : i < listed.size) : fl (listed.setIfInBounds i true) = setf (fl listed) i := by
  funext k
  unfold fl setf
  by_cases h : k = i
  · subst h; simp [hi]
  · rw [if_neg h]
    simp only [Array.getD_eq_getD_getElem?]
    rw [Array.getElem?_setIfInBounds_ne (Ne.symm h)]
theorem wpAny_inv (I : (Nat → Bool) → Act → World → Prop) (ha : acyc md ops = true)
    (hstep : ∀ i o f a w, ops[i]? = some o → f i = false → (∀ e ∈ o.after, Region.binds md e = true → f e.on = true) → I f a w → wpOp P ops Q i (fun a' w' => I (setf f i) a' w') a w)
    (hend : ∀ f a w, (∀ i, i < ops.size → f i = true) → I f a w → Q .normal a w) :
    ∀ (fuel : Nat) (listed : Array Bool) (a : Act) (w : World), listed.size = ops.size → ((List.range ops.size).filter fun i => !fl listed i).length ≤ fuel → I (fl listed) a w → wpAny P md ops Q fuel listed a w := by
  have hall : ∀ listed : Array Bool, listed.size = ops.size → Region.ready md ops listed = [] → ∀ i, i < ops.size → fl listed i = true := by
    intro listed hs hr i
    induction i using Nat.strongRecOn with
    | ind i ih =>
      intro hi
      cases hc : fl listed i with
      | true => rfl
      | false =>
        exfalso
        have ho : ops[i]? = some ops[i] := Array.getElem?_eq_getElem hi
        have hm : i ∈ Region.ready md ops listed := mem_ready.2 ⟨(fl_true (by omega)).trans hc, _, ho, fun e he hb => by
          have h1 := acyc_spec ha ho he hb
          have := ih e.on h1 (by omega)
          unfold fl at this
          exact this⟩
        rw [hr] at hm
        cases hm
  intro fuel
  induction fuel with
  | zero =>
    intro listed a w hs hc hI
    have hz : (List.range ops.size).filter (fun i => !fl listed i) = [] := List.eq_nil_of_length_eq_zero (by omega)
    have hr : Region.ready md ops listed = [] := by
      cases hre : Region.ready md ops listed with
      | nil => rfl
      | cons x xs =>
        exfalso
        have hm : x ∈ Region.ready md ops listed := by rw [hre]; simp
        obtain ⟨h0, o, ho, _⟩ := mem_ready.1 hm
        have hlt : x < ops.size := (Array.getElem?_eq_some_iff.1 ho).1
        have : x ∈ (List.range ops.size).filter (fun i => !fl listed i) := by
          rw [List.mem_filter, List.mem_range]
          refine ⟨hlt, ?_⟩
          rw [← fl_true (by omega), h0]
          rfl
        rw [hz] at this
        cases this
    exact ⟨hr, hend _ _ _ (hall listed hs hr) hI⟩
  | succ fuel ih =>
    intro listed a w hs hc hI
    refine ⟨fun hr => hend _ _ _ (hall listed hs hr) hI, fun i hi => ?_⟩
    obtain ⟨h0, o, ho, hdep⟩ := mem_ready.1 hi
    have hlt : i < ops.size := (Array.getElem?_eq_some_iff.1 ho).1
    have hf0 : fl listed i = false := (fl_true (by omega)).symm.trans h0
    refine wpOp_mono (fun a' w' h => ih _ a' w' (by simpa using hs) ?_ (by rw [fl_set (by omega)]; exact h)) (hstep i o (fl listed) a w ho hf0 (fun e he hb => by unfold fl; exact hdep e he hb) hI)
    rw [fl_set (by omega)]
    have hmem : i ∈ (List.range ops.size).filter (fun k => !fl listed k) := by
      rw [List.mem_filter, List.mem_range]
      exact ⟨hlt, by simp [hf0]⟩
    have hsub : (List.range ops.size).filter (fun k => !setf (fl listed) i k) = ((List.range ops.size).filter (fun k => !fl listed k)).filter (fun k => k != i) := by
      rw [List.filter_filter]
      apply List.filter_congr
      intro k _
      unfold setf
      by_cases h : k = i
      · simp [h]
      · simp [h]
    rw [hsub]
    have hlen : (((List.range ops.size).filter (fun k => !fl listed k)).filter (fun k => k != i)).length < ((List.range ops.size).filter (fun k => !fl listed k)).length := by
      rcases Nat.lt_or_ge (((List.range ops.size).filter (fun k => !fl listed k)).filter (fun k => k != i)).length ((List.range ops.size).filter (fun k => !fl listed k)).length with h | h
      · exact h
      · exfalso
        have h2 := List.length_filter_le (fun k => k != i) ((List.range ops.size).filter (fun k => !fl listed k))
        have h3 := List.length_filter_eq_length_iff.1 (Nat.le_antisymm h2 h) i hmem
        simp at h3
    omega
theorem wp_region_inv (I : (Nat → Bool) → Act → World → Prop) {id : Nat} {a : Act} {w : World} (hm : P.follows .mixedOrders = true) (ha : acyc .any ops = true) (h0 : I (fun _ => false) a w.drew)
    (hstep : ∀ i o f a w, ops[i]? = some o → f i = false → (∀ e ∈ o.after, Region.binds .any e = true → f e.on = true) → I f a w → wpOp P ops Q i (fun a' w' => I (setf f i) a' w') a w)
    (hend : ∀ f a w, (∀ i, i < ops.size → f i = true) → I f a w → Q .normal a w) : (Code.region id ops true).wp P Q a w := by
  refine wp_region_any hm (wpAny_inv I ha hstep hend _ _ _ _ (by simp) ?_ ?_)
  · exact Nat.le_trans (List.length_filter_le _ _) (by simp)
  · have : fl (Array.replicate ops.size false) = fun _ => false := by
      funext k
      unfold fl
      simp only [Array.getD_eq_getD_getElem?, Array.getElem?_replicate]
      split <;> rfl
    rw [this]
    exact h0
end
end Go.Proofs.Ytfnjgdocmfmfgab
/-
  LeastValue: the program's closure.
-/
namespace Go.Proofs.Ytfnjgdocmfmfgab
open Go.RowKit Go.Shelf
set_option maxRecDepth 100000
attribute [local go_sem] Oper.semAt_some
/-- a fraction's new box -/
structure Bx (W0 W : World) (B : Nat) (p q : Int) : Prop where
  ge : W0.heap.size ≤ B
  lt : B < W.heap.size
  c0 : W.cell? ⟨B, 0, none⟩ = some (.int .i64 p)
  c1 : W.cell? ⟨B, 1, none⟩ = some (.int .i64 q)
  fz : ∀ o, W.frozen? ⟨B, o, none⟩ = false
theorem Bx.below {W0 W W' : World} {B : Nat} {p q : Int} (h : Bx W0 W B p q) (hb : Below W.heap.size W W') : Bx W0 W' B p q :=
  ⟨h.ge, Nat.lt_of_lt_of_le h.lt hb.size, (hb.cell (p := ⟨B, 0, none⟩) h.lt).trans h.c0, (hb.cell (p := ⟨B, 1, none⟩) h.lt).trans h.c1, fun o => (hb.frozen (p := ⟨B, o, none⟩) h.lt).trans (h.fz o)⟩
theorem Bx.put {W0 W : World} {B : Nat} {p q : Int} (h : Bx W0 W B p q) (p' q' : Int) : Bx W0 ((W.setCell ⟨B, 0, none⟩ (.int .i64 p')).setCell ⟨B, 1, none⟩ (.int .i64 q')) B p' q' :=
  ⟨h.ge, by simpa using h.lt, (World.cell?_setCell_other _ _ _ _ (by simp)).trans (World.cell?_setCell_same _ _ _ h.c0), World.cell?_setCell_same _ _ _ ((World.cell?_setCell_other _ _ _ _ (by simp)).trans h.c1), fun o => by simp [h.fz o]⟩
theorem Bx.other {W0 W : World} {B : Nat} {p q : Int} (h : Bx W0 W B p q) {a : Addr} (v : Value) (hp : a.block ≠ B) : Bx W0 (W.setCell a v) B p q := by
  have hs : (W.setCell a v).heap[B]? = W.heap[B]? := Below.heap_setCell _ _ _ _ (by omega)
  exact ⟨h.ge, by simpa using h.lt, (World.cell?_of_block (a := ⟨B, 0, none⟩) hs).trans h.c0, (World.cell?_of_block (a := ⟨B, 1, none⟩) hs).trans h.c1, fun o => by simp [h.fz o]⟩
theorem Bx.made {W0 W : World} (hb : Below W0.heap.size W0 W) (t : TypeId) : Bx W0 (W.alloc (.cells #[.int .i64 0, .int .i64 0] t)) W.heap.size 0 0 :=
  ⟨hb.size, by simp, by rw [World.cell?_alloc_new]; rfl, by rw [World.cell?_alloc_new]; rfl, fun o => by simp⟩
/-- what holds when the operations with the flags f0 .. f9 have come up -/
structure KJ (W0 : World) (XV F1 F2 : Value) (p q p' q' : Int) (f0 f1 f2 f3 f4 f5 f6 f7 f8 f9 : Bool) (t6 t7 t8 t9 t10 t11 t12 t13 : Value) (W : World) : Prop where
  below : Below W0.heap.size W0 W
  h0 : f0 = true → t8 = XV
  h1 : f1 = true → t9 = F1
  h2 : f2 = true → t10 = .agg #[.int .i64 p, .int .i64 q]
  h3 : f3 = true → t11 = XV
  h4 : f4 = true → t12 = F2
  h5 : f5 = true → t13 = .agg #[.int .i64 p', .int .i64 q']
  h6 : f6 = true → ∃ B : Nat, t6 = .pointer (some ⟨B, 0, none⟩) ∧ Bx W0 W B (if f8 then p else 0) (if f8 then q else 0)
  h7 : f7 = true → ∃ C : Nat, t7 = .pointer (some ⟨C, 0, none⟩) ∧ Bx W0 W C (if f9 then p' else 0) (if f9 then q' else 0)
  hn : f6 = true → f7 = true → t6 ≠ t7
  h8 : f8 = true → f6 = true
  h9 : f9 = true → f7 = true
section
variable {W0 : World} {XV F1 F2 : Value} {p q p' q' : Int} {f0 f1 f2 f3 f4 f5 f6 f7 f8 f9 : Bool} {t6 t7 t8 t9 t10 t11 t12 t13 : Value} {W : World}
theorem KJ.world (h : KJ W0 XV F1 F2 p q p' q' f0 f1 f2 f3 f4 f5 f6 f7 f8 f9 t6 t7 t8 t9 t10 t11 t12 t13 W) {W' : World} (hb : Below W.heap.size W W') : KJ W0 XV F1 F2 p q p' q' f0 f1 f2 f3 f4 f5 f6 f7 f8 f9 t6 t7 t8 t9 t10 t11 t12 t13 W' :=
  ⟨bchain hb h.below, h.h0, h.h1, h.h2, h.h3, h.h4, h.h5, fun c => let ⟨B, e, k⟩ := h.h6 c; ⟨B, e, k.below hb⟩, fun c => let ⟨B, e, k⟩ := h.h7 c; ⟨B, e, k.below hb⟩, h.hn, h.h8, h.h9⟩
theorem KJ.p0 (h : KJ W0 XV F1 F2 p q p' q' f0 f1 f2 f3 f4 f5 f6 f7 f8 f9 t6 t7 t8 t9 t10 t11 t12 t13 W) : KJ W0 XV F1 F2 p q p' q' true f1 f2 f3 f4 f5 f6 f7 f8 f9 t6 t7 (XV) t9 t10 t11 t12 t13 W :=
  ⟨h.below, fun _ => rfl, h.h1, h.h2, h.h3, h.h4, h.h5, h.h6, h.h7, h.hn, h.h8, h.h9⟩
theorem KJ.p1 (h : KJ W0 XV F1 F2 p q p' q' f0 f1 f2 f3 f4 f5 f6 f7 f8 f9 t6 t7 t8 t9 t10 t11 t12 t13 W) : KJ W0 XV F1 F2 p q p' q' f0 true f2 f3 f4 f5 f6 f7 f8 f9 t6 t7 t8 (F1) t10 t11 t12 t13 W :=
  ⟨h.below, h.h0, fun _ => rfl, h.h2, h.h3, h.h4, h.h5, h.h6, h.h7, h.hn, h.h8, h.h9⟩
theorem KJ.p2 (h : KJ W0 XV F1 F2 p q p' q' f0 f1 f2 f3 f4 f5 f6 f7 f8 f9 t6 t7 t8 t9 t10 t11 t12 t13 W) : KJ W0 XV F1 F2 p q p' q' f0 f1 true f3 f4 f5 f6 f7 f8 f9 t6 t7 t8 t9 (.agg #[.int .i64 p, .int .i64 q]) t11 t12 t13 W :=
  ⟨h.below, h.h0, h.h1, fun _ => rfl, h.h3, h.h4, h.h5, h.h6, h.h7, h.hn, h.h8, h.h9⟩
theorem KJ.p3 (h : KJ W0 XV F1 F2 p q p' q' f0 f1 f2 f3 f4 f5 f6 f7 f8 f9 t6 t7 t8 t9 t10 t11 t12 t13 W) : KJ W0 XV F1 F2 p q p' q' f0 f1 f2 true f4 f5 f6 f7 f8 f9 t6 t7 t8 t9 t10 (XV) t12 t13 W :=
  ⟨h.below, h.h0, h.h1, h.h2, fun _ => rfl, h.h4, h.h5, h.h6, h.h7, h.hn, h.h8, h.h9⟩
theorem KJ.p4 (h : KJ W0 XV F1 F2 p q p' q' f0 f1 f2 f3 f4 f5 f6 f7 f8 f9 t6 t7 t8 t9 t10 t11 t12 t13 W) : KJ W0 XV F1 F2 p q p' q' f0 f1 f2 f3 true f5 f6 f7 f8 f9 t6 t7 t8 t9 t10 t11 (F2) t13 W :=
  ⟨h.below, h.h0, h.h1, h.h2, h.h3, fun _ => rfl, h.h5, h.h6, h.h7, h.hn, h.h8, h.h9⟩
theorem KJ.p5 (h : KJ W0 XV F1 F2 p q p' q' f0 f1 f2 f3 f4 f5 f6 f7 f8 f9 t6 t7 t8 t9 t10 t11 t12 t13 W) : KJ W0 XV F1 F2 p q p' q' f0 f1 f2 f3 f4 true f6 f7 f8 f9 t6 t7 t8 t9 t10 t11 t12 (.agg #[.int .i64 p', .int .i64 q']) W :=
  ⟨h.below, h.h0, h.h1, h.h2, h.h3, h.h4, fun _ => rfl, h.h6, h.h7, h.hn, h.h8, h.h9⟩
theorem KJ.a6 (h : KJ W0 XV F1 F2 p q p' q' f0 f1 f2 f3 f4 f5 f6 f7 f8 f9 t6 t7 t8 t9 t10 t11 t12 t13 W) (hf : f6 = false) (t : TypeId) : KJ W0 XV F1 F2 p q p' q' f0 f1 f2 f3 f4 f5 true f7 f8 f9 (.pointer (some ⟨W.heap.size, 0, none⟩)) t7 t8 t9 t10 t11 t12 t13 (W.alloc (.cells #[.int .i64 0, .int .i64 0] t)) := by
  have hb : Below W.heap.size W (W.alloc (.cells #[.int .i64 0, .int .i64 0] t)) := balloc (Below.refl _ _) _
  have hs : ¬ (f8 = true) := fun c => by have := h.h8 c; rw [hf] at this; cases this
  exact ⟨bchain hb h.below, h.h0, h.h1, h.h2, h.h3, h.h4, h.h5, fun _ => ⟨W.heap.size, rfl, by rw [if_neg hs, if_neg hs]; exact Bx.made h.below _⟩, fun c => let ⟨B, e, k⟩ := h.h7 c; ⟨B, e, k.below hb⟩, fun _ c e => by
      obtain ⟨C, e2, k⟩ := h.h7 c
      rw [e2] at e
      injection e with e
      injection e with e
      injection e with e
      have := k.lt
      omega, fun _ => rfl, h.h9⟩
theorem KJ.a7 (h : KJ W0 XV F1 F2 p q p' q' f0 f1 f2 f3 f4 f5 f6 f7 f8 f9 t6 t7 t8 t9 t10 t11 t12 t13 W) (hf : f7 = false) (t : TypeId) : KJ W0 XV F1 F2 p q p' q' f0 f1 f2 f3 f4 f5 f6 true f8 f9 t6 (.pointer (some ⟨W.heap.size, 0, none⟩)) t8 t9 t10 t11 t12 t13 (W.alloc (.cells #[.int .i64 0, .int .i64 0] t)) := by
  have hb : Below W.heap.size W (W.alloc (.cells #[.int .i64 0, .int .i64 0] t)) := balloc (Below.refl _ _) _
  have hs : ¬ (f9 = true) := fun c => by have := h.h9 c; rw [hf] at this; cases this
  exact ⟨bchain hb h.below, h.h0, h.h1, h.h2, h.h3, h.h4, h.h5, fun c => let ⟨B, e, k⟩ := h.h6 c; ⟨B, e, k.below hb⟩, fun _ => ⟨W.heap.size, rfl, by rw [if_neg hs, if_neg hs]; exact Bx.made h.below _⟩, fun c _ e => by
      obtain ⟨C, e2, k⟩ := h.h6 c
      rw [e2] at e
      injection e with e
      injection e with e
      injection e with e
      have := k.lt
      omega, h.h8, fun _ => rfl⟩
theorem KJ.s8 (h : KJ W0 XV F1 F2 p q p' q' f0 f1 f2 f3 f4 f5 f6 f7 f8 f9 t6 t7 t8 t9 t10 t11 t12 t13 W) (h1 : f6 = true) {B : Nat} {x y : Int} (e0 : t6 = .pointer (some ⟨B, 0, none⟩)) (k0 : Bx W0 W B x y) : KJ W0 XV F1 F2 p q p' q' f0 f1 f2 f3 f4 f5 f6 f7 true f9 t6 t7 t8 t9 t10 t11 t12 t13 ((W.setCell ⟨B, 0, none⟩ (.int .i64 p)).setCell ⟨B, 1, none⟩ (.int .i64 q)) := by
  have ne : ∀ C, f7 = true → t7 = .pointer (some ⟨C, 0, none⟩) → B ≠ C := fun C c e hBC => h.hn h1 c (by rw [e0, e, hBC])
  have hb : Below W0.heap.size W0 ((W.setCell ⟨B, 0, none⟩ (.int .i64 p)).setCell ⟨B, 1, none⟩ (.int .i64 q)) := (h.below.setCell (p := ⟨B, 0, none⟩) k0.ge _).setCell (p := ⟨B, 1, none⟩) k0.ge _
  exact ⟨hb, h.h0, h.h1, h.h2, h.h3, h.h4, h.h5, fun _ => ⟨B, e0, by rw [if_pos rfl, if_pos rfl]; exact k0.put _ _⟩, fun c => let ⟨C, e, k⟩ := h.h7 c; ⟨C, e, (k.other _ (ne C c e)).other _ (ne C c e)⟩, h.hn, fun _ => h1, h.h9⟩
theorem KJ.s9 (h : KJ W0 XV F1 F2 p q p' q' f0 f1 f2 f3 f4 f5 f6 f7 f8 f9 t6 t7 t8 t9 t10 t11 t12 t13 W) (h1 : f7 = true) {B : Nat} {x y : Int} (e0 : t7 = .pointer (some ⟨B, 0, none⟩)) (k0 : Bx W0 W B x y) : KJ W0 XV F1 F2 p q p' q' f0 f1 f2 f3 f4 f5 f6 f7 f8 true t6 t7 t8 t9 t10 t11 t12 t13 ((W.setCell ⟨B, 0, none⟩ (.int .i64 p')).setCell ⟨B, 1, none⟩ (.int .i64 q')) := by
  have ne : ∀ C, f6 = true → t6 = .pointer (some ⟨C, 0, none⟩) → B ≠ C := fun C c e hBC => h.hn c h1 (by rw [e0, e, hBC])
  have hb : Below W0.heap.size W0 ((W.setCell ⟨B, 0, none⟩ (.int .i64 p')).setCell ⟨B, 1, none⟩ (.int .i64 q')) := (h.below.setCell (p := ⟨B, 0, none⟩) k0.ge _).setCell (p := ⟨B, 1, none⟩) k0.ge _
  exact ⟨hb, h.h0, h.h1, h.h2, h.h3, h.h4, h.h5, fun c => let ⟨C, e, k⟩ := h.h6 c; ⟨C, e, (k.other _ (ne C c e)).other _ (ne C c e)⟩, fun _ => ⟨B, e0, by rw [if_pos rfl, if_pos rfl]; exact k0.put _ _⟩, h.hn, h.h8, fun _ => h1⟩
end
section
variable (w : World)
set_option maxHeartbeats 4000000 in
theorem clv_any (X : SM) (u : Value) (hS : SlT w u X.ts) (hl : X.ts.length ≤ 64) (G : Nat) (hG : SB w G X.n X.e X.s u) (k s k' s' : Int) (y y' : Int) (P Q P' Q' : Int) (hP : coF X.ts k s y = (P, Q)) (hP' : coF X.ts k' s' y' = (P', Q')) (hv : Fr.VF P Q) (hv' : Fr.VF P' Q') :
    Calls Try.prog 26 #[.agg #[.int .i64 k, .int .i64 s, .int .u32 y], .agg #[.int .i64 k', .int .i64 s', .int .u32 y'], .pointer (some ⟨G, 0, none⟩)] w fun r w' => r = .returned (.int .i64 (cmpI (P * Q') (P' * Q))) ∧ Below w.heap.size w w' := by
  obtain ⟨l1, u1⟩ := vf_prod (a := (P, Q)) (b := (P', Q')) hv hv'
  obtain ⟨l2, u2⟩ := vf_prod (a := (P', Q')) (b := (P, Q)) hv' hv
  dsimp only at l1 u1 l2 u2
  have e1 : IntKind.i64.wrap (P * Q') = P * Q' := IntWalk.i64_in _ ⟨by omega, by omega⟩
  have e2 : IntKind.i64.wrap (P' * Q) = P' * Q := IntWalk.i64_in _ ⟨by omega, by omega⟩
  have h1 := Lib.hid (fun W (hb : Below w.heap.size w W) => ico_any W X.n X.e X.s k s y X.ts u (hS.below hb) hl P Q hP)
  have h2 := Lib.hid (fun W (hb : Below w.heap.size w W) => ico_any W X.n X.e X.s k' s' y' X.ts u (hS.below hb) hl P' Q' hP')
  have hGz := hG.lt
  obtain ⟨a, cap, rfl, _⟩ := id hS
  obtain ⟨len, hlen⟩ : ∃ len, X.ts.length = len := ⟨_, rfl⟩
  rw [hlen] at h1 h2 hG
  have hC := Lib.hid (fun W => cmpC_any W (P * Q') (P' * Q))
  obtain ⟨c, hc⟩ : ∃ c, cmpI (P * Q') (P' * Q) = c := ⟨_, rfl⟩
  rw [hc] at hC ⊢
  clear hc hS hl hlen hP hP' hv hv' l1 u1 l2 u2
  obtain ⟨W0, hW0⟩ : ∃ W0, W0 = (w.alloc (.cells #[.int .i64 k, .int .i64 s, .int .u32 y] 35)).alloc (.cells #[.int .i64 k', .int .i64 s', .int .u32 y'] 35) := ⟨_, rfl⟩
  have hb0 : Below w.heap.size w W0 := by rw [hW0]; (repeat (first | exact Below.refl _ _ | assumption | refine bchain (by assumption) ?_ | refine balloc ?_ _ | apply Below.drew | apply below_drewN | (refine Below.alloc ?_ (by (try simp) <;> omega) _) | (refine Below.setCell ?_ (by (try simp) <;> omega) _)))
  have sz : (w.alloc (.cells #[.int .i64 k, .int .i64 s, .int .u32 y] 35)).heap.size = w.heap.size + 1 := by simp
  have f1 : FC W0 w.heap.size k s y := by rw [hW0]; exact (FC.made _ _ _ _ _).below (balloc (Below.refl _ _) _)
  have f2 : FC W0 (w.heap.size + 1) k' s' y' := by rw [hW0, ← sz]; exact FC.made _ _ _ _ _
  have g0 := hG.below hb0
  clear sz hG
  replace hW0 := Lib.hid hW0
  obtain ⟨_, a0, a1, a2⟩ := id f1
  obtain ⟨hz2, b0, b1, b2⟩ := id f2
  obtain ⟨_, x0, x1, x2, x3, _⟩ := id g0
  replace f1 := Lib.hid f1
  replace f2 := Lib.hid f2
  replace g0 := Lib.hid g0
  go_enter Try.func26, Try.ntmps26
  go_upto_region 1 with fail
  rw [← hW0.out]
  go_cut [6, 7] (fun s6 s7 wx => ∃ B C : Nat, s6 = .pointer (some ⟨B, 0, none⟩) ∧ s7 = .pointer (some ⟨C, 0, none⟩) ∧ Below w.heap.size w wx ∧ B < wx.heap.size ∧ C < wx.heap.size ∧ wx.cell? ⟨B, 0, none⟩ = some (.int .i64 P) ∧ wx.cell? ⟨B, 1, none⟩ = some (.int .i64 Q) ∧ wx.cell? ⟨C, 0, none⟩ = some (.int .i64 P') ∧ wx.cell? ⟨C, 1, none⟩ = some (.int .i64 Q'))
  case first =>
    refine wp_region_inv (fun f ac W' => ∃ t6 t7 t8 t9 t10 t11 t12 t13, ac = { tmps := #[.agg #[.int .i64 k, .int .i64 s, .int .u32 y], .agg #[.int .i64 k', .int .i64 s', .int .u32 y'], .pointer (some ⟨G, 0, none⟩), .pointer (some ⟨w.heap.size, 0, none⟩), .pointer (some ⟨w.heap.size + 1, 0, none⟩), .int .i64 0, t6, t7, t8, t9, t10, t11, t12, t13, undef, undef, undef, undef, undef, undef, undef, undef, undef, undef, undef], defers := [] } ∧ KJ W0 (.agg #[.int .i64 X.n, .int .u32 X.e, .int .i64 X.s, .slice a len cap]) (.agg #[.int .i64 k, .int .i64 s, .int .u32 y]) (.agg #[.int .i64 k', .int .i64 s', .int .u32 y']) P Q P' Q' (f 0) (f 1) (f 2) (f 3) (f 4) (f 5) (f 6) (f 7) (f 8) (f 9) t6 t7 t8 t9 t10 t11 t12 t13 W') (by kernel_rfl) (by kernel_rfl) ?start ?step ?last
    case start => exact ⟨_, _, _, _, _, _, _, _, rfl, (Below.refl _ W0).drew, fun c => (by cases c), fun c => (by cases c), fun c => (by cases c), fun c => (by cases c), fun c => (by cases c), fun c => (by cases c), fun c => (by cases c), fun c => (by cases c), fun c => (by cases c), fun c => (by cases c), fun c => (by cases c)⟩
    case step =>
      intro i o f ac W' ho hf hdep hI
      obtain ⟨t6, t7, t8, t9, t10, t11, t12, t13, rfl, hJ⟩ := hI
      have hi : i < 10 := (Array.getElem?_eq_some_iff.1 ho).1
      have hc : i = 0 ∨ i = 1 ∨ i = 2 ∨ i = 3 ∨ i = 4 ∨ i = 5 ∨ i = 6 ∨ i = 7 ∨ i = 8 ∨ i = 9 := by omega
      clear hi
      rcases hc with rfl | rfl | rfl | rfl | rfl | rfl | rfl | rfl | rfl | rfl
      · obtain rfl := Option.some.inj ho
        obtain ⟨_, x0, x1, x2, x3, _⟩ := g0.out.below hJ.below
        refine wpOp_step rfl (fun K hK => ?_)
        go_simp
        refine hK _ _ ⟨_, _, _, _, _, _, _, _, rfl, ?_⟩
        show KJ W0 (.agg #[.int .i64 X.n, .int .u32 X.e, .int .i64 X.s, .slice a len cap]) (.agg #[.int .i64 k, .int .i64 s, .int .u32 y]) (.agg #[.int .i64 k', .int .i64 s', .int .u32 y']) P Q P' Q' true (f 1) (f 2) (f 3) (f 4) (f 5) (f 6) (f 7) (f 8) (f 9) t6 t7 (.agg #[.int .i64 X.n, .int .u32 X.e, .int .i64 X.s, .slice a len cap]) t9 t10 t11 t12 t13 W'
        exact hJ.p0
      · obtain rfl := Option.some.inj ho
        obtain ⟨_, a0, a1, a2⟩ := f1.out.below hJ.below
        refine wpOp_step rfl (fun K hK => ?_)
        go_simp
        refine hK _ _ ⟨_, _, _, _, _, _, _, _, rfl, ?_⟩
        show KJ W0 (.agg #[.int .i64 X.n, .int .u32 X.e, .int .i64 X.s, .slice a len cap]) (.agg #[.int .i64 k, .int .i64 s, .int .u32 y]) (.agg #[.int .i64 k', .int .i64 s', .int .u32 y']) P Q P' Q' (f 0) true (f 2) (f 3) (f 4) (f 5) (f 6) (f 7) (f 8) (f 9) t6 t7 t8 (.agg #[.int .i64 k, .int .i64 s, .int .u32 y]) t10 t11 t12 t13 W'
        exact hJ.p1
      · obtain rfl := Option.some.inj ho
        have e0 : f 0 = true := hdep ⟨0, .data⟩ (by simp) (by decide)
        have e1 : f 1 = true := hdep ⟨1, .data⟩ (by simp) (by decide)
        obtain rfl := hJ.h0 e0
        obtain rfl := hJ.h1 e1
        refine wpOp_step rfl (fun K hK => ?_)
        go_simp
        go_wp2_with (go_at_call 27; refine (h1.out _ (bchain hJ.below hb0)).mono ?_; rintro r3 w3 ⟨rfl, hb3⟩)
        exact ⟨_, _, _, _, _, _, _, _, rfl, (hJ.world hb3).p2⟩
      · obtain rfl := Option.some.inj ho
        obtain ⟨_, x0, x1, x2, x3, _⟩ := g0.out.below hJ.below
        refine wpOp_step rfl (fun K hK => ?_)
        go_simp
        refine hK _ _ ⟨_, _, _, _, _, _, _, _, rfl, ?_⟩
        show KJ W0 (.agg #[.int .i64 X.n, .int .u32 X.e, .int .i64 X.s, .slice a len cap]) (.agg #[.int .i64 k, .int .i64 s, .int .u32 y]) (.agg #[.int .i64 k', .int .i64 s', .int .u32 y']) P Q P' Q' (f 0) (f 1) (f 2) true (f 4) (f 5) (f 6) (f 7) (f 8) (f 9) t6 t7 t8 t9 t10 (.agg #[.int .i64 X.n, .int .u32 X.e, .int .i64 X.s, .slice a len cap]) t12 t13 W'
        exact hJ.p3
      · obtain rfl := Option.some.inj ho
        obtain ⟨_, b0, b1, b2⟩ := f2.out.below hJ.below
        refine wpOp_step rfl (fun K hK => ?_)
        go_simp
        refine hK _ _ ⟨_, _, _, _, _, _, _, _, rfl, ?_⟩
        show KJ W0 (.agg #[.int .i64 X.n, .int .u32 X.e, .int .i64 X.s, .slice a len cap]) (.agg #[.int .i64 k, .int .i64 s, .int .u32 y]) (.agg #[.int .i64 k', .int .i64 s', .int .u32 y']) P Q P' Q' (f 0) (f 1) (f 2) (f 3) true (f 5) (f 6) (f 7) (f 8) (f 9) t6 t7 t8 t9 t10 t11 (.agg #[.int .i64 k', .int .i64 s', .int .u32 y']) t13 W'
        exact hJ.p4
      · obtain rfl := Option.some.inj ho
        have e3 : f 3 = true := hdep ⟨3, .data⟩ (by simp) (by decide)
        have e4 : f 4 = true := hdep ⟨4, .data⟩ (by simp) (by decide)
        obtain rfl := hJ.h3 e3
        obtain rfl := hJ.h4 e4
        refine wpOp_step rfl (fun K hK => ?_)
        go_simp
        go_wp2_with (go_at_call 27; refine (h2.out _ (bchain hJ.below hb0)).mono ?_; rintro r3 w3 ⟨rfl, hb3⟩)
        exact ⟨_, _, _, _, _, _, _, _, rfl, (hJ.world hb3).p5⟩
      · obtain rfl := Option.some.inj ho
        refine wpOp_step rfl (fun K hK => ?_)
        go_simp
        refine hK _ _ ⟨_, _, _, _, _, _, _, _, rfl, ?_⟩
        exact hJ.a6 hf _
      · obtain rfl := Option.some.inj ho
        refine wpOp_step rfl (fun K hK => ?_)
        go_simp
        refine hK _ _ ⟨_, _, _, _, _, _, _, _, rfl, ?_⟩
        exact hJ.a7 hf _
      · obtain rfl := Option.some.inj ho
        have e6 : f 6 = true := hdep ⟨6, .data⟩ (by simp) (by decide)
        have e2 : f 2 = true := hdep ⟨2, .data⟩ (by simp) (by decide)
        obtain ⟨B, e0, k0⟩ := hJ.h6 e6
        obtain rfl := e0
        obtain rfl := hJ.h2 e2
        have z0 := k0.c0
        have z1 := k0.c1
        have zf := k0.fz
        refine wpOp_step rfl (fun K hK => ?_)
        go_simp
        refine hK _ _ ⟨_, _, _, _, _, _, _, _, rfl, ?_⟩
        exact hJ.s8 e6 rfl k0
      · obtain rfl := Option.some.inj ho
        have e7 : f 7 = true := hdep ⟨7, .data⟩ (by simp) (by decide)
        have e5 : f 5 = true := hdep ⟨5, .data⟩ (by simp) (by decide)
        obtain ⟨B, e0, k0⟩ := hJ.h7 e7
        obtain rfl := e0
        obtain rfl := hJ.h5 e5
        have z0 := k0.c0
        have z1 := k0.c1
        have zf := k0.fz
        refine wpOp_step rfl (fun K hK => ?_)
        go_simp
        refine hK _ _ ⟨_, _, _, _, _, _, _, _, rfl, ?_⟩
        exact hJ.s9 e7 rfl k0
    case last =>
      intro f ac W' hall hI
      obtain ⟨t6, t7, t8, t9, t10, t11, t12, t13, rfl, hJ⟩ := hI
      have e6 : f 6 = true := hall 6 (by decide)
      have e7 : f 7 = true := hall 7 (by decide)
      have e8 : f 8 = true := hall 8 (by decide)
      have e9 : f 9 = true := hall 9 (by decide)
      obtain ⟨B, rfl, kB⟩ := hJ.h6 e6
      obtain ⟨C, rfl, kC⟩ := hJ.h7 e7
      rw [e8, if_pos rfl, if_pos rfl] at kB
      rw [e9, if_pos rfl, if_pos rfl] at kC
      have hbw := bchain hJ.below hb0
      go_wp2_with fail
      go_meet
      exact ⟨_, _, rfl, rfl, hbw, kB.lt, kC.lt, kB.c0, kB.c1, kC.c0, kC.c1⟩
  case rest =>
    obtain ⟨B, C, rfl, rfl, hB1, hBz, hCz, p0, p1, r0, r1⟩ := hcut
    go_wp2_with fail
    refine (hC.out _).mono ?_
    rintro r5 w5 ⟨rfl, hb5⟩
    go_wp2
    go_ret
    exact ⟨rfl, bchain hb5 hB1⟩
end
end Go.Proofs.Ytfnjgdocmfmfgab
/-
  LeastValue: slices.MinFunc over the program's closure.
-/
namespace Go.Proofs.Ytfnjgdocmfmfgab
open Go.RowKit Go.Shelf
set_option maxRecDepth 100000
attribute [local go_sem] Oper.semAt_some
section
variable (w : World)
set_option maxHeartbeats 4000000 in
theorem mf_any (X : SM) (u : Value) (hS : SlT w u X.ts) (hv : VSum X) (G : Nat) (hG : SB w G X.n X.e X.s u) (v : Value) (L : List (Int × Int × Int)) (hL : SlK w v L) (h0 : 0 < L.length) (h64 : L.length ≤ 64) (a1 a2 a3 : Int) (ha : kAt L (bst (vaL X L) L.length) = (a1, a2, a3)) :
    Calls Try.prog 25 #[v, .func (.func 26) #[] #[.pointer (some ⟨G, 0, none⟩)]] w fun r w' => r = .returned (.agg #[.int .i64 a1, .int .i64 a2, .int .u32 a3]) ∧ Below w.heap.size w w' := by
  obtain ⟨a, cap, rfl, h1, h2, h3⟩ := hL
  obtain ⟨b, off, rfl, hb, hg⟩ := h3 (List.length_pos_iff.1 h0)
  have hl64 := hv.2.2.1
  have hVF := Lib.hid (fun i => co_vf hv (kAt L i).1 (kAt L i).2.1 (kAt L i).2.2)
  have hC := Lib.hid (fun (wr : World) (hB : Below w.heap.size w wr) (i j : Nat) (W : World) (hb : Below wr.heap.size wr W) => clv_any W X u ((hS.below hB).below hb) hl64 G ((hG.below hB).below hb) (kAt L i).1 (kAt L i).2.1 (kAt L j).1 (kAt L j).2.1 (kAt L i).2.2 (kAt L j).2.2 (vaL X L i).1 (vaL X L i).2 (vaL X L j).1 (vaL X L j).2 rfl rfl (hVF.out i) (hVF.out j))
  obtain ⟨f, hf⟩ : ∃ f, vaL X L = f := ⟨_, rfl⟩
  rw [hf] at ha hC
  replace hg := Lib.hid hg
  obtain ⟨n, hn⟩ : ∃ n, L.length = n := ⟨_, rfl⟩
  rw [hn] at h0 h64 h1 hg ha ⊢
  replace ha := Lib.hid ha
  clear hn hf hS hG hv hl64 hVF h3
  obtain ⟨x0, y0, z0, hq0⟩ : ∃ x y z, kAt L 0 = (x, y, z) := ⟨_, _, _, rfl⟩
  have hg0 := hg.out 0 h0
  unfold KCell at hg0
  rw [Nat.zero_mul, Nat.add_zero, hq0] at hg0
  obtain ⟨g0, g1, g2⟩ := hg0
  obtain ⟨W0, hW0⟩ : ∃ W0, W0 = (w.alloc (.cells #[.int .i64 0, .int .i64 0, .int .u32 0] 35)).alloc (.cells #[.int .i64 x0, .int .i64 y0, .int .u32 z0] 35) := ⟨_, rfl⟩
  have hb0 : Below w.heap.size w W0 := by rw [hW0]; (repeat (first | exact Below.refl _ _ | assumption | refine bchain (by assumption) ?_ | refine balloc ?_ _ | apply Below.drew | apply below_drewN | (refine Below.alloc ?_ (by (try simp) <;> omega) _) | (refine Below.setCell ?_ (by (try simp) <;> omega) _)))
  have sz : (w.alloc (.cells #[.int .i64 0, .int .i64 0, .int .u32 0] 35)).heap.size = w.heap.size + 1 := by simp
  have r0 : FC W0 w.heap.size 0 0 0 := by rw [hW0]; exact (FC.made _ 0 0 0 _).below (balloc (Below.refl _ _) _)
  have m0 : FC W0 (w.heap.size + 1) x0 y0 z0 := by rw [hW0, ← sz]; exact FC.made _ _ _ _ _
  have f0 : ∀ o, W0.frozen? ⟨w.heap.size, o, none⟩ = false := fun o => by rw [hW0]; simp
  have f1 : ∀ o, W0.frozen? ⟨w.heap.size + 1, o, none⟩ = false := fun o => by rw [hW0]; simp
  replace hW0 := Lib.hid hW0
  clear sz
  have hn1 : (1 : Int) ≤ (n : Int) := by omega
  have hn0 : (0 : Int) < (n : Int) := by omega
  have hd1 := decide_eq_false (show ¬ ((n : Int) < 1) by omega)
  go_enter Try.func25, Try.ntmps25
  go_wp2_with fail
  rw [← hW0.out]
  go_loopw [6] (fun i wr => ∃ k : Nat, 1 ≤ k ∧ k ≤ n ∧ i = .int .i64 k ∧ (∃ x y z, kAt L (bst f k) = (x, y, z) ∧ FC wr (w.heap.size + 1) x y z) ∧ FC wr w.heap.size 0 0 0 ∧ (∀ o, wr.frozen? ⟨w.heap.size, o, none⟩ = false) ∧ (∀ o, wr.frozen? ⟨w.heap.size + 1, o, none⟩ = false) ∧ Below w.heap.size w wr) (fun i _ => n - (intOf i).toNat)
  case atStart => exact ⟨1, by omega, by omega, rfl, ⟨x0, y0, z0, by rw [bst_one]; exact hq0, m0⟩, r0, f0, f1, hb0⟩
  case round =>
    clear r0 m0 f0 f1 hb0 g0 g1 g2
    obtain ⟨k, hk1, hk, rfl, ⟨x', y', z', hbst, hm⟩, hr, hf0, hf1, hB⟩ := hrel
    replace hf0 := Lib.hid hf0
    replace hf1 := Lib.hid hf1
    have hBz := hB.size
    by_cases hlt : k < n
    · obtain ⟨x, y, z, hxy⟩ : ∃ x y z, kAt L k = (x, y, z) := ⟨_, _, _, rfl⟩
      have hgk := hg.out k hlt
      unfold KCell at hgk
      rw [hxy] at hgk
      have hE := Lib.hid (hC.out wr hB k (bst f k))
      rw [hxy, hbst] at hE
      have s0 : wr.cell? ⟨b, off + k * 3, none⟩ = some (.int .i64 x) := by rw [hB.cell (p := ⟨b, _, none⟩) hb, hgk.1]
      have s1 : wr.cell? ⟨b, off + k * 3 + 1, none⟩ = some (.int .i64 y) := by rw [hB.cell (p := ⟨b, _, none⟩) hb, hgk.2.1]
      have s2 : wr.cell? ⟨b, off + k * 3 + 2, none⟩ = some (.int .u32 z) := by rw [hB.cell (p := ⟨b, _, none⟩) hb, hgk.2.2]
      have hbz : b < wr.heap.size := by omega
      have q0 := bw_cell hbz s0
      have q1 := bw_cell hbz s1
      have q2 := bw_cell hbz s2
      have p0 := bw_cell hm.lt hm.c0
      have p1 := bw_cell hm.lt hm.c1
      have p2 := bw_cell hm.lt hm.c2
      have hkl : (k : Int) < (n : Int) := by omega
      have hk0 : (0 : Int) ≤ (k : Int) := by omega
      obtain ⟨c, hc⟩ : ∃ c, cmpI ((f k).1 * (f (bst f k)).2) ((f (bst f k)).1 * (f k).2) = c := ⟨_, rfl⟩
      have hcl : Hid (c < 0 ↔ lt2 (f k) (f (bst f k)) = true) := by
        show _ ↔ _
        rw [← hc, cmpI_neg]
        unfold lt2
        simp
      dsimp only at hE
      rw [hc] at hE
      clear hgk hc
      by_cases hlt2 : c < 0
      · have hbk := Lib.hid (bst_t (show k ≠ 0 by omega) (hcl.out.1 hlt2))
        have hdc := decide_eq_true hlt2
        clear hcl hbst hlt2
        go_wp2_with fail
        refine wp_region_below (by kernel_rfl) (by kernel_rfl) ?_
        iterate 6 (quiet_step (fail))
        refine wpQuiet_step (fun K hK => ?_)
        go_simp
        apply Exists.intro
        refine ⟨fun p => ?_, hK _ ?_⟩
        · exact bw_of (w := wr) (p := p) (hE.out p.W p.h)
        clear hK K
        iterate 1 (quiet_step (fail))
        refine wpQuiet_nil ?_
        intro w3 hw'
        obtain ⟨⟨wx, hb_w3⟩, rfl⟩ := hw'
        clear q0 q1 q2 p0 p1 p2
        have t0 : w3.cell? ⟨b, off + k * 3, none⟩ = some (.int .i64 x) := (hb_w3.cell (p := ⟨b, _, none⟩) hbz).trans s0
        have t1 : w3.cell? ⟨b, off + k * 3 + 1, none⟩ = some (.int .i64 y) := (hb_w3.cell (p := ⟨b, _, none⟩) hbz).trans s1
        have t2 : w3.cell? ⟨b, off + k * 3 + 2, none⟩ = some (.int .u32 z) := (hb_w3.cell (p := ⟨b, _, none⟩) hbz).trans s2
        have hm3 := hm.below hb_w3
        have hr3 := hr.below hb_w3
        have hB3 := hB.trans (hb_w3.mono hBz)
        have hf03 : ∀ o, w3.frozen? ⟨w.heap.size, o, none⟩ = false := fun o => (hb_w3.frozen (p := ⟨_, o, none⟩) hr.lt).trans (hf0.out o)
        have hf13 : ∀ o, w3.frozen? ⟨w.heap.size + 1, o, none⟩ = false := fun o => (hb_w3.frozen (p := ⟨_, o, none⟩) hm.lt).trans (hf1.out o)
        have hmp := hm3.put x y z
        have hrp := ((hr3.other (p := ⟨w.heap.size + 1, 0, none⟩) (.int .i64 x) (by show w.heap.size + 1 ≠ w.heap.size; omega)).other (p := ⟨w.heap.size + 1, 1, none⟩) (.int .i64 y) (by show w.heap.size + 1 ≠ w.heap.size; omega)).other (p := ⟨w.heap.size + 1, 2, none⟩) (.int .u32 z) (by show w.heap.size + 1 ≠ w.heap.size; omega)
        have hBp := ((hB3.setCell (p := ⟨w.heap.size + 1, 0, none⟩) (by show w.heap.size ≤ w.heap.size + 1; omega) (.int .i64 x)).setCell (p := ⟨w.heap.size + 1, 1, none⟩) (by show w.heap.size ≤ w.heap.size + 1; omega) (.int .i64 y)).setCell (p := ⟨w.heap.size + 1, 2, none⟩) (by show w.heap.size ≤ w.heap.size + 1; omega) (.int .u32 z)
        have hf0p : Hid (∀ o, (((w3.setCell ⟨w.heap.size + 1, 0, none⟩ (.int .i64 x)).setCell ⟨w.heap.size + 1, 1, none⟩ (.int .i64 y)).setCell ⟨w.heap.size + 1, 2, none⟩ (.int .u32 z)).frozen? ⟨w.heap.size, o, none⟩ = false) := fun o => by simp [hf03 o]
        have hf1p : Hid (∀ o, (((w3.setCell ⟨w.heap.size + 1, 0, none⟩ (.int .i64 x)).setCell ⟨w.heap.size + 1, 1, none⟩ (.int .i64 y)).setCell ⟨w.heap.size + 1, 2, none⟩ (.int .u32 z)).frozen? ⟨w.heap.size + 1, o, none⟩ = false) := fun o => by simp [hf13 o]
        obtain ⟨_, e0, e1, e2⟩ := id hm3
        have j0 := hf13 0
        have j1 := hf13 1
        have j2 := hf13 2
        replace hf03 := Lib.hid hf03
        replace hf13 := Lib.hid hf13
        clear s0 s1 s2 hb_w3 hB3 hr3
        go_wp2
        go_roundw
        case rel => exact ⟨k + 1, by omega, by omega, by go_num, ⟨x, y, z, by rw [hbk.out]; exact hxy, hmp⟩, hrp, hf0p.out, hf1p.out, hBp⟩
        case measure => simp [intOf]; omega
      · have hbk := Lib.hid (bst_f (f := f) (i := k) (by rw [Bool.eq_false_iff]; exact fun h => hlt2 (hcl.out.2 h)))
        have hdc := decide_eq_false hlt2
        clear hcl hlt2
        go_wp2_with fail
        refine wp_region_below (by kernel_rfl) (by kernel_rfl) ?_
        iterate 6 (quiet_step (fail))
        refine wpQuiet_step (fun K hK => ?_)
        go_simp
        apply Exists.intro
        refine ⟨fun p => ?_, hK _ ?_⟩
        · exact bw_of (w := wr) (p := p) (hE.out p.W p.h)
        clear hK K
        iterate 1 (quiet_step (fail))
        refine wpQuiet_nil ?_
        intro w3 hw'
        obtain ⟨⟨wx, hb_w3⟩, rfl⟩ := hw'
        go_wp2
        go_roundw
        case rel => exact ⟨k + 1, by omega, by omega, by go_num, ⟨x', y', z', by rw [hbk.out]; exact hbst, hm.below hb_w3⟩, hr.below hb_w3, fun o => (hb_w3.frozen (p := ⟨_, o, none⟩) hr.lt).trans (hf0.out o), fun o => (hb_w3.frozen (p := ⟨_, o, none⟩) hm.lt).trans (hf1.out o), hB.trans (hb_w3.mono hBz)⟩
        case measure => simp [intOf]; omega
    · obtain rfl : k = n := by omega
      have hd := decide_eq_false (show ¬ ((k : Int) < (k : Int)) by omega)
      rw [ha.out] at hbst
      obtain ⟨rfl, rfl, rfl⟩ : a1 = x' ∧ a2 = y' ∧ a3 = z' := by injection hbst with h1 h2; injection h2 with h2 h3; exact ⟨h1, h2, h3⟩
      have hF := hr.put a1 a2 a3
      have hBB := ((hB.setCell (p := ⟨w.heap.size, 0, none⟩) (by show w.heap.size ≤ w.heap.size; omega) (.int .i64 a1)).setCell (p := ⟨w.heap.size, 1, none⟩) (by show w.heap.size ≤ w.heap.size; omega) (.int .i64 a2)).setCell (p := ⟨w.heap.size, 2, none⟩) (by show w.heap.size ≤ w.heap.size; omega) (.int .u32 a3)
      obtain ⟨_, e0, e1, e2⟩ := id hm
      obtain ⟨_, d0, d1', d2⟩ := id hr
      have j0 := hf0.out 0
      have j1 := hf0.out 1
      have j2 := hf0.out 2
      clear hbst
      go_wp2
      obtain ⟨WW, hWW⟩ : ∃ WW, WW = ((wr.setCell ⟨w.heap.size, 0, none⟩ (.int .i64 a1)).setCell ⟨w.heap.size, 1, none⟩ (.int .i64 a2)).setCell ⟨w.heap.size, 2, none⟩ (.int .u32 a3) := ⟨_, rfl⟩
      rw [← hWW] at hF hBB ⊢
      clear hWW
      obtain ⟨_, v0, v1, v2⟩ := hF
      exact bodyPost_ret (v := .agg #[.int .i64 a1, .int .i64 a2, .int .u32 a3]) (by simp [results, Try.results25, go_sem, v0, v1, v2]) rfl ⟨rfl, hBB⟩
end
end Go.Proofs.Ytfnjgdocmfmfgab
/-
  LeastValue: what both sides hand back.
-/
namespace Go.Proofs.Ytfnjgdocmfmfgab
open Go.RowKit Go.Shelf
set_option maxRecDepth 100000
attribute [local go_sem] Oper.semAt_some
def RetL (W : World) (p q k n e c : Int) (r : Ending) (w' : World) : Prop := r = .returned (.tuple #[.agg #[.int .i64 p, .int .i64 q], .agg #[.int .i64 k, .int .i64 n, .int .u32 e], .int .i64 c]) ∧ Below W.heap.size W w'
theorem FrB.other {W : World} {B : Nat} {p q : Int} (h : FrB W B p q) {a : Addr} (v : Value) (hp : a.block ≠ B) : FrB (W.setCell a v) B p q := by
  have hs : (W.setCell a v).heap[B]? = W.heap[B]? := Below.heap_setCell _ _ _ _ (by omega)
  exact ⟨by simpa using h.lt, (World.cell?_of_block (a := ⟨B, 0, none⟩) hs).trans h.c0, (World.cell?_of_block (a := ⟨B, 1, none⟩) hs).trans h.c1, fun o => by simp [h.fz o]⟩
/-- a flag's box that may be written -/
structure FZ (W : World) (B : Nat) (k n e : Int) : Prop where
  fc : FC W B k n e
  fz : ∀ o, W.frozen? ⟨B, o, none⟩ = false
theorem FZ.below {W W' : World} {B : Nat} {k n e : Int} (h : FZ W B k n e) (hb : Below W.heap.size W W') : FZ W' B k n e := ⟨h.fc.below hb, fun o => (hb.frozen (p := ⟨B, o, none⟩) h.fc.lt).trans (h.fz o)⟩
theorem FZ.made (W : World) (k n e : Int) (t : TypeId) : FZ (W.alloc (.cells #[.int .i64 k, .int .i64 n, .int .u32 e] t)) W.heap.size k n e := ⟨FC.made _ _ _ _ _, fun o => by simp⟩
theorem FZ.other {W : World} {B : Nat} {k n e : Int} (h : FZ W B k n e) {a : Addr} (v : Value) (hp : a.block ≠ B) : FZ (W.setCell a v) B k n e := ⟨h.fc.other v hp, fun o => by simp [h.fz o]⟩
theorem FrB.drew1 {W : World} {B : Nat} {p q : Int} (h : FrB W B p q) : FrB W.drew B p q := ⟨h.lt, h.c0, h.c1, h.fz⟩
theorem FC.drew1 {W : World} {B : Nat} {k n e : Int} (h : FC W B k n e) : FC W.drew B k n e := ⟨h.lt, h.c0, h.c1, h.c2⟩
theorem FZ.put {W : World} {B : Nat} {k n e : Int} (h : FZ W B k n e) (k' n' e' : Int) : FZ (((W.setCell ⟨B, 0, none⟩ (.int .i64 k')).setCell ⟨B, 1, none⟩ (.int .i64 n')).setCell ⟨B, 2, none⟩ (.int .u32 e')) B k' n' e' := ⟨h.fc.put k' n' e', fun o => by simp [h.fz o]⟩
end Go.Proofs.Ytfnjgdocmfmfgab
/-
  LeastValue: the program, where it tells a code.
-/
namespace Go.Proofs.Ytfnjgdocmfmfgab
open Go.RowKit Go.Shelf
set_option maxRecDepth 100000
attribute [local go_sem] Oper.semAt_some
section
variable (w : World)
set_option maxHeartbeats 1000000 in
theorem ilv_sum (X : SM) (u v : Value) (hS : SlT w u X.ts) (hbd : BdS X) (hv : ¬ VSum X) :
    Calls Try.prog 9 #[.agg #[.int .i64 X.n, .int .u32 X.e, .int .i64 X.s, u], v] w (RetL w 0 0 0 0 0 1) := by
  have hV := Lib.hid (fun W (hb : Below w.heap.size w W) => ivs_any W X u (hS.below hb) hbd false ⟨fun c => (by cases c), fun c => absurd c hv⟩)
  obtain ⟨a, cap, rfl, _⟩ := id hS
  obtain ⟨l, hl⟩ : ∃ l, X.ts.length = l := ⟨_, rfl⟩
  rw [hl] at hV ⊢
  clear hl hS hbd hv
  obtain ⟨W0, hW0⟩ : ∃ W0, W0 = ((w.alloc (.cells #[.int .i64 X.n, .int .u32 X.e, .int .i64 X.s, .slice a l cap] 40)).alloc (.cells #[.int .i64 0, .int .i64 0] 32)).alloc (.cells #[.int .i64 0, .int .i64 0, .int .u32 0] 35) := ⟨_, rfl⟩
  have hb0 : Below w.heap.size w W0 := by rw [hW0]; (repeat (first | exact Below.refl _ _ | assumption | refine bchain (by assumption) ?_ | refine balloc ?_ _ | apply Below.drew | apply below_drewN | (refine Below.alloc ?_ (by (try simp) <;> omega) _) | (refine Below.setCell ?_ (by (try simp) <;> omega) _)))
  have sz : ∀ (W : World) (o : Obj), (W.alloc o).heap.size = W.heap.size + 1 := fun W o => by simp
  have k0 : SB W0 w.heap.size X.n X.e X.s (.slice a l cap) := by rw [hW0]; exact ((SB.made _ _ _ _ _ _).below (balloc (Below.refl _ _) _)).below (balloc (Below.refl _ _) _)
  have hfb : FrB W0 (w.heap.size + 1) 0 0 := by rw [hW0, ← sz w (.cells #[.int .i64 X.n, .int .u32 X.e, .int .i64 X.s, .slice a l cap] 40)]; exact (FrB.made _ 0 0 _).below (balloc (Below.refl _ _) _)
  have hfc : FZ W0 (w.heap.size + 1 + 1) 0 0 0 := by rw [hW0, ← sz w (.cells #[.int .i64 X.n, .int .u32 X.e, .int .i64 X.s, .slice a l cap] 40), ← sz _ (.cells #[.int .i64 0, .int .i64 0] 32)]; exact FZ.made _ 0 0 0 _
  replace hW0 := Lib.hid hW0
  clear sz
  obtain ⟨_, x0, x1, x2, x3, _⟩ := id k0
  go_enter Try.func9, Try.ntmps9
  go_wp2_with fail
  rw [← hW0.out]
  go_wp2_with fail
  refine (hV.out _ hb0).mono ?_
  rintro r1 w1 ⟨rfl, hb1⟩
  replace k0 := k0.below hb1
  replace hfb := hfb.below hb1
  replace hfc := hfc.below hb1
  replace hb0 := bchain hb1 hb0
  clear hb1 x0 x1 x2 x3
  obtain ⟨_, x0, x1, x2, x3, _⟩ := id k0
  obtain ⟨_, d0, d1, fR⟩ := id hfb
  obtain ⟨⟨_, e0, e1, e2⟩, fK⟩ := id hfc
  have hbw := hb0
  go_wp2
  have hF := (((hfb.put (0) (0)).other (a := ⟨w.heap.size + 1 + 1, 0, none⟩) (.int .i64 (0)) (by show w.heap.size + 1 + 1 ≠ w.heap.size + 1; omega)).other (a := ⟨w.heap.size + 1 + 1, 1, none⟩) (.int .i64 (0)) (by show w.heap.size + 1 + 1 ≠ w.heap.size + 1; omega)).other (a := ⟨w.heap.size + 1 + 1, 2, none⟩) (.int .u32 (0)) (by show w.heap.size + 1 + 1 ≠ w.heap.size + 1; omega)
  have hK := ((hfc.fc.other (p := ⟨w.heap.size + 1, 0, none⟩) (.int .i64 (0)) (by show w.heap.size + 1 ≠ w.heap.size + 1 + 1; omega)).other (p := ⟨w.heap.size + 1, 1, none⟩) (.int .i64 (0)) (by show w.heap.size + 1 ≠ w.heap.size + 1 + 1; omega)).put (0) (0) (0)
  have hBB := (((((hbw.setCell (p := ⟨w.heap.size + 1, 0, none⟩) (by show w.heap.size ≤ w.heap.size + 1; omega) (.int .i64 (0))).setCell (p := ⟨w.heap.size + 1, 1, none⟩) (by show w.heap.size ≤ w.heap.size + 1; omega) (.int .i64 (0))).setCell (p := ⟨w.heap.size + 1 + 1, 0, none⟩) (by show w.heap.size ≤ w.heap.size + 1 + 1; omega) (.int .i64 (0))).setCell (p := ⟨w.heap.size + 1 + 1, 1, none⟩) (by show w.heap.size ≤ w.heap.size + 1 + 1; omega) (.int .i64 (0))).setCell (p := ⟨w.heap.size + 1 + 1, 2, none⟩) (by show w.heap.size ≤ w.heap.size + 1 + 1; omega) (.int .u32 (0)))
  obtain ⟨WW, hWW⟩ : ∃ WW, WW = (((((w1.setCell ⟨w.heap.size + 1, 0, none⟩ (.int .i64 (0))).setCell ⟨w.heap.size + 1, 1, none⟩ (.int .i64 (0))).setCell ⟨w.heap.size + 1 + 1, 0, none⟩ (.int .i64 (0))).setCell ⟨w.heap.size + 1 + 1, 1, none⟩ (.int .i64 (0))).setCell ⟨w.heap.size + 1 + 1, 2, none⟩ (.int .u32 (0))) := ⟨_, rfl⟩
  rw [← hWW] at hF hK hBB ⊢
  clear hWW
  obtain ⟨_, hF0, hF1, _⟩ := hF
  obtain ⟨_, hK0, hK1, hK2⟩ := hK
  exact bodyPost_ret (v := .tuple #[.agg #[.int .i64 (0), .int .i64 (0)], .agg #[.int .i64 (0), .int .i64 (0), .int .u32 (0)], .int .i64 (1)]) (by simp [results, Try.results9, go_sem, hF0, hF1, hK0, hK1, hK2]) rfl ⟨rfl, hBB⟩
set_option maxHeartbeats 1000000 in
theorem ilv_code (X : SM) (u v : Value) (hS : SlT w u X.ts) (hbd : BdS X) (hv : VSum X) (c : Int) (hc : c ≠ 0) (L : List (Int × Int × Int)) (hA0 : ∀ W, Below w.heap.size w W → Calls Try.prog 24 #[.agg #[.int .i64 X.n, .int .u32 X.e], .int .i64 X.s, v] W (RetK W L c)) :
    Calls Try.prog 9 #[.agg #[.int .i64 X.n, .int .u32 X.e, .int .i64 X.s, u], v] w (RetL w 0 0 0 0 0 c) := by
  have hV := Lib.hid (fun W (hb : Below w.heap.size w W) => ivs_any W X u (hS.below hb) hbd true ⟨fun _ => hv, fun _ => rfl⟩)
  have hA := Lib.hid hA0
  obtain ⟨a, cap, rfl, _⟩ := id hS
  obtain ⟨l, hl⟩ : ∃ l, X.ts.length = l := ⟨_, rfl⟩
  rw [hl] at hV ⊢
  have d1 : (c != 0) = true := by simpa using hc
  clear hl hS hbd hv hA0 hc
  obtain ⟨W0, hW0⟩ : ∃ W0, W0 = ((w.alloc (.cells #[.int .i64 X.n, .int .u32 X.e, .int .i64 X.s, .slice a l cap] 40)).alloc (.cells #[.int .i64 0, .int .i64 0] 32)).alloc (.cells #[.int .i64 0, .int .i64 0, .int .u32 0] 35) := ⟨_, rfl⟩
  have hb0 : Below w.heap.size w W0 := by rw [hW0]; (repeat (first | exact Below.refl _ _ | assumption | refine bchain (by assumption) ?_ | refine balloc ?_ _ | apply Below.drew | apply below_drewN | (refine Below.alloc ?_ (by (try simp) <;> omega) _) | (refine Below.setCell ?_ (by (try simp) <;> omega) _)))
  have sz : ∀ (W : World) (o : Obj), (W.alloc o).heap.size = W.heap.size + 1 := fun W o => by simp
  have k0 : SB W0 w.heap.size X.n X.e X.s (.slice a l cap) := by rw [hW0]; exact ((SB.made _ _ _ _ _ _).below (balloc (Below.refl _ _) _)).below (balloc (Below.refl _ _) _)
  have hfb : FrB W0 (w.heap.size + 1) 0 0 := by rw [hW0, ← sz w (.cells #[.int .i64 X.n, .int .u32 X.e, .int .i64 X.s, .slice a l cap] 40)]; exact (FrB.made _ 0 0 _).below (balloc (Below.refl _ _) _)
  have hfc : FZ W0 (w.heap.size + 1 + 1) 0 0 0 := by rw [hW0, ← sz w (.cells #[.int .i64 X.n, .int .u32 X.e, .int .i64 X.s, .slice a l cap] 40), ← sz _ (.cells #[.int .i64 0, .int .i64 0] 32)]; exact FZ.made _ 0 0 0 _
  replace hW0 := Lib.hid hW0
  clear sz
  obtain ⟨_, x0, x1, x2, x3, _⟩ := id k0
  go_enter Try.func9, Try.ntmps9
  go_wp2_with fail
  rw [← hW0.out]
  go_wp2_with fail
  refine (hV.out _ hb0).mono ?_
  rintro r1 w1 ⟨rfl, hb1⟩
  replace k0 := k0.below hb1
  replace hfb := hfb.below hb1
  replace hfc := hfc.below hb1
  replace hb0 := bchain hb1 hb0
  clear hb1 x0 x1 x2 x3
  obtain ⟨_, x0, x1, x2, x3, _⟩ := id k0
  go_wp2_with fail
  refine (hA.out _ hb0).mono ?_
  rintro r2 w2 ⟨⟨uL, rfl, hL⟩, hb2⟩
  obtain ⟨aL, cL, rfl, _⟩ := hL
  replace k0 := k0.below hb2
  replace hfb := hfb.below hb2
  replace hfc := hfc.below hb2
  replace hb0 := bchain hb2 hb0
  clear hb2 x0 x1 x2 x3
  obtain ⟨_, x0, x1, x2, x3, _⟩ := id k0
  obtain ⟨_, d0, d1, fR⟩ := id hfb
  obtain ⟨⟨_, e0, e1, e2⟩, fK⟩ := id hfc
  have hbw := hb0
  go_wp2
  have hF := (((hfb.put (0) (0)).other (a := ⟨w.heap.size + 1 + 1, 0, none⟩) (.int .i64 (0)) (by show w.heap.size + 1 + 1 ≠ w.heap.size + 1; omega)).other (a := ⟨w.heap.size + 1 + 1, 1, none⟩) (.int .i64 (0)) (by show w.heap.size + 1 + 1 ≠ w.heap.size + 1; omega)).other (a := ⟨w.heap.size + 1 + 1, 2, none⟩) (.int .u32 (0)) (by show w.heap.size + 1 + 1 ≠ w.heap.size + 1; omega)
  have hK := ((hfc.fc.other (p := ⟨w.heap.size + 1, 0, none⟩) (.int .i64 (0)) (by show w.heap.size + 1 ≠ w.heap.size + 1 + 1; omega)).other (p := ⟨w.heap.size + 1, 1, none⟩) (.int .i64 (0)) (by show w.heap.size + 1 ≠ w.heap.size + 1 + 1; omega)).put (0) (0) (0)
  have hBB := (((((hbw.setCell (p := ⟨w.heap.size + 1, 0, none⟩) (by show w.heap.size ≤ w.heap.size + 1; omega) (.int .i64 (0))).setCell (p := ⟨w.heap.size + 1, 1, none⟩) (by show w.heap.size ≤ w.heap.size + 1; omega) (.int .i64 (0))).setCell (p := ⟨w.heap.size + 1 + 1, 0, none⟩) (by show w.heap.size ≤ w.heap.size + 1 + 1; omega) (.int .i64 (0))).setCell (p := ⟨w.heap.size + 1 + 1, 1, none⟩) (by show w.heap.size ≤ w.heap.size + 1 + 1; omega) (.int .i64 (0))).setCell (p := ⟨w.heap.size + 1 + 1, 2, none⟩) (by show w.heap.size ≤ w.heap.size + 1 + 1; omega) (.int .u32 (0)))
  obtain ⟨WW, hWW⟩ : ∃ WW, WW = (((((w2.setCell ⟨w.heap.size + 1, 0, none⟩ (.int .i64 (0))).setCell ⟨w.heap.size + 1, 1, none⟩ (.int .i64 (0))).setCell ⟨w.heap.size + 1 + 1, 0, none⟩ (.int .i64 (0))).setCell ⟨w.heap.size + 1 + 1, 1, none⟩ (.int .i64 (0))).setCell ⟨w.heap.size + 1 + 1, 2, none⟩ (.int .u32 (0))) := ⟨_, rfl⟩
  rw [← hWW] at hF hK hBB ⊢
  clear hWW
  obtain ⟨_, hF0, hF1, _⟩ := hF
  obtain ⟨_, hK0, hK1, hK2⟩ := hK
  exact bodyPost_ret (v := .tuple #[.agg #[.int .i64 (0), .int .i64 (0)], .agg #[.int .i64 (0), .int .i64 (0), .int .u32 (0)], .int .i64 (c)]) (by simp [results, Try.results9, go_sem, hF0, hF1, hK0, hK1, hK2]) rfl ⟨rfl, hBB⟩
set_option maxHeartbeats 1000000 in
theorem ilv_nil (X : SM) (u v : Value) (hS : SlT w u X.ts) (hbd : BdS X) (hv : VSum X) (hA0 : ∀ W, Below w.heap.size w W → Calls Try.prog 24 #[.agg #[.int .i64 X.n, .int .u32 X.e], .int .i64 X.s, v] W (RetK W [] 0)) :
    Calls Try.prog 9 #[.agg #[.int .i64 X.n, .int .u32 X.e, .int .i64 X.s, u], v] w (RetL w 0 0 0 0 0 6) := by
  have hV := Lib.hid (fun W (hb : Below w.heap.size w W) => ivs_any W X u (hS.below hb) hbd true ⟨fun _ => hv, fun _ => rfl⟩)
  have hA := Lib.hid hA0
  obtain ⟨a, cap, rfl, _⟩ := id hS
  obtain ⟨l, hl⟩ : ∃ l, X.ts.length = l := ⟨_, rfl⟩
  rw [hl] at hV ⊢
  clear hl hS hbd hv hA0
  obtain ⟨W0, hW0⟩ : ∃ W0, W0 = ((w.alloc (.cells #[.int .i64 X.n, .int .u32 X.e, .int .i64 X.s, .slice a l cap] 40)).alloc (.cells #[.int .i64 0, .int .i64 0] 32)).alloc (.cells #[.int .i64 0, .int .i64 0, .int .u32 0] 35) := ⟨_, rfl⟩
  have hb0 : Below w.heap.size w W0 := by rw [hW0]; (repeat (first | exact Below.refl _ _ | assumption | refine bchain (by assumption) ?_ | refine balloc ?_ _ | apply Below.drew | apply below_drewN | (refine Below.alloc ?_ (by (try simp) <;> omega) _) | (refine Below.setCell ?_ (by (try simp) <;> omega) _)))
  have sz : ∀ (W : World) (o : Obj), (W.alloc o).heap.size = W.heap.size + 1 := fun W o => by simp
  have k0 : SB W0 w.heap.size X.n X.e X.s (.slice a l cap) := by rw [hW0]; exact ((SB.made _ _ _ _ _ _).below (balloc (Below.refl _ _) _)).below (balloc (Below.refl _ _) _)
  have hfb : FrB W0 (w.heap.size + 1) 0 0 := by rw [hW0, ← sz w (.cells #[.int .i64 X.n, .int .u32 X.e, .int .i64 X.s, .slice a l cap] 40)]; exact (FrB.made _ 0 0 _).below (balloc (Below.refl _ _) _)
  have hfc : FZ W0 (w.heap.size + 1 + 1) 0 0 0 := by rw [hW0, ← sz w (.cells #[.int .i64 X.n, .int .u32 X.e, .int .i64 X.s, .slice a l cap] 40), ← sz _ (.cells #[.int .i64 0, .int .i64 0] 32)]; exact FZ.made _ 0 0 0 _
  replace hW0 := Lib.hid hW0
  clear sz
  obtain ⟨_, x0, x1, x2, x3, _⟩ := id k0
  go_enter Try.func9, Try.ntmps9
  go_wp2_with fail
  rw [← hW0.out]
  go_wp2_with fail
  refine (hV.out _ hb0).mono ?_
  rintro r1 w1 ⟨rfl, hb1⟩
  replace k0 := k0.below hb1
  replace hfb := hfb.below hb1
  replace hfc := hfc.below hb1
  replace hb0 := bchain hb1 hb0
  clear hb1 x0 x1 x2 x3
  obtain ⟨_, x0, x1, x2, x3, _⟩ := id k0
  go_wp2_with fail
  refine (hA.out _ hb0).mono ?_
  rintro r2 w2 ⟨⟨uL, rfl, hL⟩, hb2⟩
  obtain ⟨aL, cL, rfl, _⟩ := hL
  rw [List.length_nil]
  replace k0 := k0.below hb2
  replace hfb := hfb.below hb2
  replace hfc := hfc.below hb2
  replace hb0 := bchain hb2 hb0
  clear hb2 x0 x1 x2 x3
  obtain ⟨_, x0, x1, x2, x3, _⟩ := id k0
  obtain ⟨_, d0, d1, fR⟩ := id hfb
  obtain ⟨⟨_, e0, e1, e2⟩, fK⟩ := id hfc
  have hbw := hb0
  go_wp2
  have hF := (((hfb.put (0) (0)).other (a := ⟨w.heap.size + 1 + 1, 0, none⟩) (.int .i64 (0)) (by show w.heap.size + 1 + 1 ≠ w.heap.size + 1; omega)).other (a := ⟨w.heap.size + 1 + 1, 1, none⟩) (.int .i64 (0)) (by show w.heap.size + 1 + 1 ≠ w.heap.size + 1; omega)).other (a := ⟨w.heap.size + 1 + 1, 2, none⟩) (.int .u32 (0)) (by show w.heap.size + 1 + 1 ≠ w.heap.size + 1; omega)
  have hK := ((hfc.fc.other (p := ⟨w.heap.size + 1, 0, none⟩) (.int .i64 (0)) (by show w.heap.size + 1 ≠ w.heap.size + 1 + 1; omega)).other (p := ⟨w.heap.size + 1, 1, none⟩) (.int .i64 (0)) (by show w.heap.size + 1 ≠ w.heap.size + 1 + 1; omega)).put (0) (0) (0)
  have hBB := (((((hbw.setCell (p := ⟨w.heap.size + 1, 0, none⟩) (by show w.heap.size ≤ w.heap.size + 1; omega) (.int .i64 (0))).setCell (p := ⟨w.heap.size + 1, 1, none⟩) (by show w.heap.size ≤ w.heap.size + 1; omega) (.int .i64 (0))).setCell (p := ⟨w.heap.size + 1 + 1, 0, none⟩) (by show w.heap.size ≤ w.heap.size + 1 + 1; omega) (.int .i64 (0))).setCell (p := ⟨w.heap.size + 1 + 1, 1, none⟩) (by show w.heap.size ≤ w.heap.size + 1 + 1; omega) (.int .i64 (0))).setCell (p := ⟨w.heap.size + 1 + 1, 2, none⟩) (by show w.heap.size ≤ w.heap.size + 1 + 1; omega) (.int .u32 (0)))
  obtain ⟨WW, hWW⟩ : ∃ WW, WW = (((((w2.setCell ⟨w.heap.size + 1, 0, none⟩ (.int .i64 (0))).setCell ⟨w.heap.size + 1, 1, none⟩ (.int .i64 (0))).setCell ⟨w.heap.size + 1 + 1, 0, none⟩ (.int .i64 (0))).setCell ⟨w.heap.size + 1 + 1, 1, none⟩ (.int .i64 (0))).setCell ⟨w.heap.size + 1 + 1, 2, none⟩ (.int .u32 (0))) := ⟨_, rfl⟩
  rw [← hWW] at hF hK hBB ⊢
  clear hWW
  obtain ⟨_, hF0, hF1, _⟩ := hF
  obtain ⟨_, hK0, hK1, hK2⟩ := hK
  exact bodyPost_ret (v := .tuple #[.agg #[.int .i64 (0), .int .i64 (0)], .agg #[.int .i64 (0), .int .i64 (0), .int .u32 (0)], .int .i64 (6)]) (by simp [results, Try.results9, go_sem, hF0, hF1, hK0, hK1, hK2]) rfl ⟨rfl, hBB⟩
end
end Go.Proofs.Ytfnjgdocmfmfgab
/-
  LeastValue: the program, where it has an answer.
-/
namespace Go.Proofs.Ytfnjgdocmfmfgab
open Go.RowKit Go.Shelf
set_option maxRecDepth 100000
attribute [local go_sem] Oper.semAt_some
/-- what the last region reads and writes: a sum, a flag; the two results' boxes -/
structure LK (W : World) (G B9 B1 B2 : Nat) (n e s : Int) (u : Value) (a b c : Int) : Prop where
  sb : SB W G n e s u
  fc : FC W B9 a b c
  f1 : ∃ p q, FrB W B1 p q
  f2 : ∃ k m y, FZ W B2 k m y
  d1 : G ≠ B1 ∧ G ≠ B2 ∧ B9 ≠ B1 ∧ B9 ≠ B2 ∧ B1 ≠ B2
section
variable {W W' : World} {G B9 B1 B2 : Nat} {n e s a b c : Int} {u : Value}
theorem LK.below (h : LK W G B9 B1 B2 n e s u a b c) (hb : Below W.heap.size W W') : LK W' G B9 B1 B2 n e s u a b c := by
  obtain ⟨h1, h2, ⟨p, q, h3⟩, ⟨k, m, y, h4⟩, d⟩ := h
  exact ⟨h1.below hb, h2.below hb, ⟨p, q, h3.below hb⟩, ⟨k, m, y, h4.below hb⟩, d⟩
theorem LK.put1 (h : LK W G B9 B1 B2 n e s u a b c) (p q : Int) : LK ((W.setCell ⟨B1, 0, none⟩ (.int .i64 p)).setCell ⟨B1, 1, none⟩ (.int .i64 q)) G B9 B1 B2 n e s u a b c := by
  obtain ⟨h1, h2, ⟨p', q', h3⟩, ⟨k, m, y, h4⟩, d⟩ := h
  exact ⟨((h1.other (a := ⟨B1, 0, none⟩) (.int .i64 p) (by show B1 ≠ G; omega)).other (a := ⟨B1, 1, none⟩) (.int .i64 q) (by show B1 ≠ G; omega)), ((h2.other (p := ⟨B1, 0, none⟩) (.int .i64 p) (by show B1 ≠ B9; omega)).other (p := ⟨B1, 1, none⟩) (.int .i64 q) (by show B1 ≠ B9; omega)), ⟨p, q, h3.put p q⟩, ⟨k, m, y, ((h4.other (a := ⟨B1, 0, none⟩) (.int .i64 p) (by show B1 ≠ B2; omega)).other (a := ⟨B1, 1, none⟩) (.int .i64 q) (by show B1 ≠ B2; omega))⟩, d⟩
theorem LK.put2 (h : LK W G B9 B1 B2 n e s u a b c) (k m y : Int) : LK (((W.setCell ⟨B2, 0, none⟩ (.int .i64 k)).setCell ⟨B2, 1, none⟩ (.int .i64 m)).setCell ⟨B2, 2, none⟩ (.int .u32 y)) G B9 B1 B2 n e s u a b c := by
  obtain ⟨h1, h2, ⟨p, q, h3⟩, ⟨k', m', y', h4⟩, d⟩ := h
  exact ⟨(((h1.other (a := ⟨B2, 0, none⟩) (.int .i64 k) (by show B2 ≠ G; omega)).other (a := ⟨B2, 1, none⟩) (.int .i64 m) (by show B2 ≠ G; omega)).other (a := ⟨B2, 2, none⟩) (.int .u32 y) (by show B2 ≠ G; omega)), (((h2.other (p := ⟨B2, 0, none⟩) (.int .i64 k) (by show B2 ≠ B9; omega)).other (p := ⟨B2, 1, none⟩) (.int .i64 m) (by show B2 ≠ B9; omega)).other (p := ⟨B2, 2, none⟩) (.int .u32 y) (by show B2 ≠ B9; omega)), ⟨p, q, (((h3.other (a := ⟨B2, 0, none⟩) (.int .i64 k) (by show B2 ≠ B1; omega)).other (a := ⟨B2, 1, none⟩) (.int .i64 m) (by show B2 ≠ B1; omega)).other (a := ⟨B2, 2, none⟩) (.int .u32 y) (by show B2 ≠ B1; omega))⟩, ⟨k, m, y, h4.put k m y⟩, d⟩
theorem LK.all (h : LK W G B9 B1 B2 n e s u a b c) : W.cell? ⟨G, 0, none⟩ = some (.int .i64 n) ∧ W.cell? ⟨G, 1, none⟩ = some (.int .u32 e) ∧ W.cell? ⟨G, 2, none⟩ = some (.int .i64 s) ∧ W.cell? ⟨G, 3, none⟩ = some u ∧
    W.cell? ⟨B9, 0, none⟩ = some (.int .i64 a) ∧ W.cell? ⟨B9, 1, none⟩ = some (.int .i64 b) ∧ W.cell? ⟨B9, 2, none⟩ = some (.int .u32 c) ∧
    W.cell? ⟨B1, 0, none⟩ = some (cellOf W ⟨B1, 0, none⟩) ∧ W.cell? ⟨B1, 1, none⟩ = some (cellOf W ⟨B1, 1, none⟩) ∧ W.frozen? ⟨B1, 0, none⟩ = false ∧ W.frozen? ⟨B1, 1, none⟩ = false ∧
    W.cell? ⟨B2, 0, none⟩ = some (cellOf W ⟨B2, 0, none⟩) ∧ W.cell? ⟨B2, 1, none⟩ = some (cellOf W ⟨B2, 1, none⟩) ∧ W.cell? ⟨B2, 2, none⟩ = some (cellOf W ⟨B2, 2, none⟩) ∧ W.frozen? ⟨B2, 0, none⟩ = false ∧ W.frozen? ⟨B2, 1, none⟩ = false ∧ W.frozen? ⟨B2, 2, none⟩ = false := by
  obtain ⟨h1, h2, ⟨p, q, h3⟩, ⟨k, m, y, h4⟩, _⟩ := h
  exact ⟨h1.c0, h1.c1, h1.c2, h1.c3, h2.c0, h2.c1, h2.c2, cellOf_of h3.c0, cellOf_of h3.c1, h3.fz _, h3.fz _, cellOf_of h4.fc.c0, cellOf_of h4.fc.c1, cellOf_of h4.fc.c2, h4.fz _, h4.fz _, h4.fz _⟩
theorem LK.fin12 (h : LK W G B9 B1 B2 n e s u a b c) (p q k m y : Int) : FrB (((((W.setCell ⟨B1, 0, none⟩ (.int .i64 p)).setCell ⟨B1, 1, none⟩ (.int .i64 q)).setCell ⟨B2, 0, none⟩ (.int .i64 k)).setCell ⟨B2, 1, none⟩ (.int .i64 m)).setCell ⟨B2, 2, none⟩ (.int .u32 y)) B1 p q ∧ FZ (((((W.setCell ⟨B1, 0, none⟩ (.int .i64 p)).setCell ⟨B1, 1, none⟩ (.int .i64 q)).setCell ⟨B2, 0, none⟩ (.int .i64 k)).setCell ⟨B2, 1, none⟩ (.int .i64 m)).setCell ⟨B2, 2, none⟩ (.int .u32 y)) B2 k m y := by
  obtain ⟨_, _, ⟨p', q', h3⟩, ⟨k', m', y', h4⟩, d⟩ := h
  exact ⟨((((h3.put p q).other (a := ⟨B2, 0, none⟩) (.int .i64 k) (by show B2 ≠ B1; omega)).other (a := ⟨B2, 1, none⟩) (.int .i64 m) (by show B2 ≠ B1; omega)).other (a := ⟨B2, 2, none⟩) (.int .u32 y) (by show B2 ≠ B1; omega)), ((h4.other (a := ⟨B1, 0, none⟩) (.int .i64 p) (by show B1 ≠ B2; omega)).other (a := ⟨B1, 1, none⟩) (.int .i64 q) (by show B1 ≠ B2; omega)).put k m y⟩
theorem LK.fin21 (h : LK W G B9 B1 B2 n e s u a b c) (p q k m y : Int) : FrB (((((W.setCell ⟨B2, 0, none⟩ (.int .i64 k)).setCell ⟨B2, 1, none⟩ (.int .i64 m)).setCell ⟨B2, 2, none⟩ (.int .u32 y)).setCell ⟨B1, 0, none⟩ (.int .i64 p)).setCell ⟨B1, 1, none⟩ (.int .i64 q)) B1 p q ∧ FZ (((((W.setCell ⟨B2, 0, none⟩ (.int .i64 k)).setCell ⟨B2, 1, none⟩ (.int .i64 m)).setCell ⟨B2, 2, none⟩ (.int .u32 y)).setCell ⟨B1, 0, none⟩ (.int .i64 p)).setCell ⟨B1, 1, none⟩ (.int .i64 q)) B2 k m y := by
  obtain ⟨_, _, ⟨p', q', h3⟩, ⟨k', m', y', h4⟩, d⟩ := h
  exact ⟨(((h3.other (a := ⟨B2, 0, none⟩) (.int .i64 k) (by show B2 ≠ B1; omega)).other (a := ⟨B2, 1, none⟩) (.int .i64 m) (by show B2 ≠ B1; omega)).other (a := ⟨B2, 2, none⟩) (.int .u32 y) (by show B2 ≠ B1; omega)).put p q, (((h4.put k m y).other (a := ⟨B1, 0, none⟩) (.int .i64 p) (by show B1 ≠ B2; omega)).other (a := ⟨B1, 1, none⟩) (.int .i64 q) (by show B1 ≠ B2; omega))⟩
end
section
variable (w : World)
set_option maxHeartbeats 4000000 in
theorem ilv_ok (X : SM) (u v : Value) (hS : SlT w u X.ts) (hbd : BdS X) (hv : VSum X) (L : List (Int × Int × Int)) (h0 : 0 < L.length) (h64 : L.length ≤ 64) (hA0 : ∀ W, Below w.heap.size w W → Calls Try.prog 24 #[.agg #[.int .i64 X.n, .int .u32 X.e], .int .i64 X.s, v] W (RetK W L 0))
    (a1 a2 a3 P Q : Int) (ha : kAt L (bst (vaL X L) L.length) = (a1, a2, a3)) (hPQ : coF X.ts a1 a2 a3 = (P, Q)) :
    Calls Try.prog 9 #[.agg #[.int .i64 X.n, .int .u32 X.e, .int .i64 X.s, u], v] w (RetL w P Q a1 a2 a3 0) := by
  have hV := Lib.hid (fun W (hb : Below w.heap.size w W) => ivs_any W X u (hS.below hb) hbd true ⟨fun _ => hv, fun _ => rfl⟩)
  have hA := Lib.hid hA0
  have hM := Lib.hid (fun W (hb : Below w.heap.size w W) (G : Nat) (hG : SB W G X.n X.e X.s u) (vL : Value) (hL : SlK W vL L) => mf_any W X u (hS.below hb) hv G hG vL L hL h0 h64 a1 a2 a3 ha)
  have hC := Lib.hid (fun W (hb : Below w.heap.size w W) => ico_any W X.n X.e X.s a1 a2 a3 X.ts u (hS.below hb) hv.2.2.1 P Q hPQ)
  obtain ⟨a, cap, rfl, _⟩ := id hS
  obtain ⟨l, hl⟩ : ∃ l, X.ts.length = l := ⟨_, rfl⟩
  rw [hl] at hV hM hC ⊢
  clear hl hS hbd hv hA0 ha hPQ
  obtain ⟨W0, hW0⟩ : ∃ W0, W0 = ((w.alloc (.cells #[.int .i64 X.n, .int .u32 X.e, .int .i64 X.s, .slice a l cap] 40)).alloc (.cells #[.int .i64 0, .int .i64 0] 32)).alloc (.cells #[.int .i64 0, .int .i64 0, .int .u32 0] 35) := ⟨_, rfl⟩
  have hb0 : Below w.heap.size w W0 := by rw [hW0]; (repeat (first | exact Below.refl _ _ | assumption | refine bchain (by assumption) ?_ | refine balloc ?_ _ | apply Below.drew | apply below_drewN | (refine Below.alloc ?_ (by (try simp) <;> omega) _) | (refine Below.setCell ?_ (by (try simp) <;> omega) _)))
  have sz : ∀ (W : World) (o : Obj), (W.alloc o).heap.size = W.heap.size + 1 := fun W o => by simp
  have k0 : SB W0 w.heap.size X.n X.e X.s (.slice a l cap) := by rw [hW0]; exact ((SB.made _ _ _ _ _ _).below (balloc (Below.refl _ _) _)).below (balloc (Below.refl _ _) _)
  have hfb : FrB W0 (w.heap.size + 1) 0 0 := by rw [hW0, ← sz w (.cells #[.int .i64 X.n, .int .u32 X.e, .int .i64 X.s, .slice a l cap] 40)]; exact (FrB.made _ 0 0 _).below (balloc (Below.refl _ _) _)
  have hfc : FZ W0 (w.heap.size + 1 + 1) 0 0 0 := by rw [hW0, ← sz w (.cells #[.int .i64 X.n, .int .u32 X.e, .int .i64 X.s, .slice a l cap] 40), ← sz _ (.cells #[.int .i64 0, .int .i64 0] 32)]; exact FZ.made _ 0 0 0 _
  replace hW0 := Lib.hid hW0
  clear sz
  obtain ⟨_, x0, x1, x2, x3, _⟩ := id k0
  go_enter Try.func9, Try.ntmps9
  go_wp2_with fail
  rw [← hW0.out]
  go_wp2_with fail
  refine (hV.out _ hb0).mono ?_
  rintro r1 w1 ⟨rfl, hb1⟩
  replace k0 := k0.below hb1
  replace hfb := hfb.below hb1
  replace hfc := hfc.below hb1
  replace hb0 := bchain hb1 hb0
  clear hb1 x0 x1 x2 x3
  obtain ⟨_, x0, x1, x2, x3, _⟩ := id k0
  go_wp2_with fail
  refine (hA.out _ hb0).mono ?_
  rintro r2 w2 ⟨⟨uL, rfl, hL⟩, hb2⟩
  have hL2 := Lib.hid hL.sl
  obtain ⟨aL, cL, rfl, _⟩ := hL
  obtain ⟨lL, hlL⟩ : ∃ l, L.length = l := ⟨_, rfl⟩
  rw [hlL] at hL2 h0 h64 ⊢
  have hd0 : ((lL : Int) == 0) = false := by simp; omega
  replace k0 := k0.below hb2
  replace hfb := hfb.below hb2
  replace hfc := hfc.below hb2
  replace hb0 := bchain hb2 hb0
  clear hb2 x0 x1 x2 x3
  obtain ⟨_, x0, x1, x2, x3, _⟩ := id k0
  go_wp2_with fail
  refine (hM.out _ hb0 _ k0 _ hL2.out).mono ?_
  rintro r3 w3 ⟨rfl, hb3⟩
  replace k0 := k0.below hb3
  replace hfb := hfb.below hb3
  replace hfc := hfc.below hb3
  replace hb0 := bchain hb3 hb0
  clear hb3 x0 x1 x2 x3
  obtain ⟨_, x0, x1, x2, x3, _⟩ := id k0
  obtain ⟨W9, hW9⟩ : ∃ W9, W9 = w3.alloc (.cells #[.int .i64 a1, .int .i64 a2, .int .u32 a3] 35) := ⟨_, rfl⟩
  have b9 : Below w3.heap.size w3 W9 := by rw [hW9]; exact balloc (Below.refl _ _) _
  have f9 : FC W9 w3.heap.size a1 a2 a3 := by rw [hW9]; exact FC.made _ _ _ _ _
  have hz9 : w.heap.size + 1 + 1 < w3.heap.size := hfc.fc.lt
  have hK := Lib.hid (show LK W9 w.heap.size w3.heap.size (w.heap.size + 1) (w.heap.size + 1 + 1) X.n X.e X.s (.slice a l cap) a1 a2 a3 from ⟨k0.below b9, f9, ⟨0, 0, hfb.below b9⟩, ⟨0, 0, 0, hfc.below b9⟩, ⟨by omega, by omega, by omega, by omega, by omega⟩⟩)
  have hb9 := bchain b9 hb0
  replace hW9 := Lib.hid hW9
  clear hL2 k0 hfb hfc hb0 b9 f9 x0 x1 x2 x3 hV hA hM
  go_upto_region 9 with fail
  rw [← hW9.out]
  go_cut [6] (fun s6 wx => s6 = .int .i64 0 ∧ FrB wx (w.heap.size + 1) P Q ∧ FZ wx (w.heap.size + 1 + 1) a1 a2 a3 ∧ Below w.heap.size w wx)
  case first =>
    obtain ⟨q0, q1, q2, q3, q4, q5, q6, q7, q8, q9, q10, q11, q12, q13, q14, q15, q16⟩ := hK.out.all
    go_region_held3 (fun A => A.cell? ⟨w.heap.size, 0, none⟩ = some (.int .i64 X.n) ∧ A.cell? ⟨w.heap.size, 1, none⟩ = some (.int .u32 X.e) ∧ A.cell? ⟨w.heap.size, 2, none⟩ = some (.int .i64 X.s) ∧ A.cell? ⟨w.heap.size, 3, none⟩ = some (.slice a l cap) ∧
        A.cell? ⟨w3.heap.size, 0, none⟩ = some (.int .i64 a1) ∧ A.cell? ⟨w3.heap.size, 1, none⟩ = some (.int .i64 a2) ∧ A.cell? ⟨w3.heap.size, 2, none⟩ = some (.int .u32 a3) ∧
        A.cell? ⟨w.heap.size + 1, 0, none⟩ = some (cellOf A ⟨w.heap.size + 1, 0, none⟩) ∧ A.cell? ⟨w.heap.size + 1, 1, none⟩ = some (cellOf A ⟨w.heap.size + 1, 1, none⟩) ∧ A.frozen? ⟨w.heap.size + 1, 0, none⟩ = false ∧ A.frozen? ⟨w.heap.size + 1, 1, none⟩ = false ∧
        A.cell? ⟨w.heap.size + 1 + 1, 0, none⟩ = some (cellOf A ⟨w.heap.size + 1 + 1, 0, none⟩) ∧ A.cell? ⟨w.heap.size + 1 + 1, 1, none⟩ = some (cellOf A ⟨w.heap.size + 1 + 1, 1, none⟩) ∧ A.cell? ⟨w.heap.size + 1 + 1, 2, none⟩ = some (cellOf A ⟨w.heap.size + 1 + 1, 2, none⟩) ∧ A.frozen? ⟨w.heap.size + 1 + 1, 0, none⟩ = false ∧ A.frozen? ⟨w.heap.size + 1 + 1, 1, none⟩ = false ∧ A.frozen? ⟨w.heap.size + 1 + 1, 2, none⟩ = false)
      (first
      | with_reducible exact (((hK.out.below (by (repeat (first | exact Below.refl _ _ | assumption | refine bchain (by assumption) ?_ | refine balloc ?_ _ | apply Below.drew | apply below_drewN | (refine Below.alloc ?_ (by (try simp) <;> omega) _) | (refine Below.setCell ?_ (by (try simp) <;> omega) _))))).put1 _ _).put2 _ _ _).all
      | with_reducible exact ((hK.out.below (by (repeat (first | exact Below.refl _ _ | assumption | refine bchain (by assumption) ?_ | refine balloc ?_ _ | apply Below.drew | apply below_drewN | (refine Below.alloc ?_ (by (try simp) <;> omega) _) | (refine Below.setCell ?_ (by (try simp) <;> omega) _))))).put1 _ _).all
      | with_reducible exact (hK.out.below (by (repeat (first | exact Below.refl _ _ | assumption | refine bchain (by assumption) ?_ | refine balloc ?_ _ | apply Below.drew | apply below_drewN | (refine Below.alloc ?_ (by (try simp) <;> omega) _) | (refine Below.setCell ?_ (by (try simp) <;> omega) _))))).all)
      (first | (go_at_call 27; with_reducible refine (hC.out _ (by (repeat (first | exact Below.refl _ _ | assumption | refine bchain (by assumption) ?_ | refine balloc ?_ _ | apply Below.drew | apply below_drewN | (refine Below.alloc ?_ (by (try simp) <;> omega) _) | (refine Below.setCell ?_ (by (try simp) <;> omega) _))))).mono ?_; rintro r5 w5 ⟨rfl, hb5⟩))
    all_goals (go_wp2_with fail; go_meet)
    all_goals exact ⟨rfl, ((hK.out.below (by (repeat (first | exact Below.refl _ _ | assumption | refine bchain (by assumption) ?_ | refine balloc ?_ _ | apply Below.drew | apply below_drewN | (refine Below.alloc ?_ (by (try simp) <;> omega) _) | (refine Below.setCell ?_ (by (try simp) <;> omega) _))))).fin12 _ _ _ _ _).1, ((hK.out.below (by (repeat (first | exact Below.refl _ _ | assumption | refine bchain (by assumption) ?_ | refine balloc ?_ _ | apply Below.drew | apply below_drewN | (refine Below.alloc ?_ (by (try simp) <;> omega) _) | (refine Below.setCell ?_ (by (try simp) <;> omega) _))))).fin12 _ _ _ _ _).2, by (repeat (first | exact Below.refl _ _ | assumption | refine bchain (by assumption) ?_ | refine balloc ?_ _ | apply Below.drew | apply below_drewN | (refine Below.alloc ?_ (by (try simp) <;> omega) _) | (refine Below.setCell ?_ (by (try simp) <;> omega) _)))⟩
  case rest =>
    obtain ⟨rfl, hF, hZ, hbw⟩ := hcut
    obtain ⟨_, hF0, hF1, _⟩ := hF
    obtain ⟨⟨_, hK0, hK1, hK2⟩, _⟩ := hZ
    go_wp2
    exact bodyPost_ret (v := .tuple #[.agg #[.int .i64 P, .int .i64 Q], .agg #[.int .i64 a1, .int .i64 a2, .int .u32 a3], .int .i64 0]) (by simp [results, Try.results9, go_sem, hF0, hF1, hK0, hK1, hK2]) rfl ⟨rfl, hbw⟩
end
end Go.Proofs.Ytfnjgdocmfmfgab
/-
  LeastValue: the model, where it tells a code.
-/
namespace Go.Proofs.Ytfnjgdocmfmfgab
open Go.RowKit Go.Shelf
set_option maxRecDepth 100000
attribute [local go_sem] Oper.semAt_some
section
variable (w : World)
set_option maxHeartbeats 1000000 in
theorem slv_sum (X : SM) (u v : Value) (hS : SlT w u X.ts) (hbd : BdS X) (hv : ¬ VSum X) :
    Calls Try.prog 6 #[.agg #[.int .i64 X.n, .int .u32 X.e, .int .i64 X.s, u], v] w (RetL w 0 0 0 0 0 1) := by
  have hV := Lib.hid (fun W G (hb : Below w.heap.size w W) c1 => sv5_any W X u G c1 (hS.below hb) hbd false ⟨fun c => (by cases c), fun c => absurd c hv⟩)
  obtain ⟨a, cap, rfl, _⟩ := id hS
  obtain ⟨l, hl⟩ : ∃ l, X.ts.length = l := ⟨_, rfl⟩
  rw [hl] at hV ⊢
  clear hl hS hbd hv
  obtain ⟨W0, hW0⟩ : ∃ W0, W0 = ((w.alloc (.cells #[.int .i64 X.n, .int .u32 X.e, .int .i64 X.s, .slice a l cap] 40)).alloc (.cells #[.int .i64 0, .int .i64 0] 32)).alloc (.cells #[.int .i64 0, .int .i64 0, .int .u32 0] 35) := ⟨_, rfl⟩
  have hb0 : Below w.heap.size w W0 := by rw [hW0]; (repeat (first | exact Below.refl _ _ | assumption | refine bchain (by assumption) ?_ | refine balloc ?_ _ | apply Below.drew | apply below_drewN | (refine Below.alloc ?_ (by (try simp) <;> omega) _) | (refine Below.setCell ?_ (by (try simp) <;> omega) _)))
  have sz : ∀ (W : World) (o : Obj), (W.alloc o).heap.size = W.heap.size + 1 := fun W o => by simp
  have k0 : SB W0 w.heap.size X.n X.e X.s (.slice a l cap) := by rw [hW0]; exact ((SB.made _ _ _ _ _ _).below (balloc (Below.refl _ _) _)).below (balloc (Below.refl _ _) _)
  have hfb : FrB W0 (w.heap.size + 1) 0 0 := by rw [hW0, ← sz w (.cells #[.int .i64 X.n, .int .u32 X.e, .int .i64 X.s, .slice a l cap] 40)]; exact (FrB.made _ 0 0 _).below (balloc (Below.refl _ _) _)
  have hfc : FZ W0 (w.heap.size + 1 + 1) 0 0 0 := by rw [hW0, ← sz w (.cells #[.int .i64 X.n, .int .u32 X.e, .int .i64 X.s, .slice a l cap] 40), ← sz _ (.cells #[.int .i64 0, .int .i64 0] 32)]; exact FZ.made _ 0 0 0 _
  replace hW0 := Lib.hid hW0
  clear sz
  obtain ⟨_, x0, x1, x2, x3, _⟩ := id k0
  go_enter Try.func6, Try.ntmps6
  go_wp2_with fail
  rw [← hW0.out]
  refine (hV.out _ _ hb0 k0).mono ?_
  rintro r1 w1 ⟨rfl, hb1⟩
  replace k0 := k0.below hb1
  replace hfb := hfb.below hb1
  replace hfc := hfc.below hb1
  replace hb0 := bchain hb1 hb0
  clear hb1 x0 x1 x2 x3
  obtain ⟨_, x0, x1, x2, x3, _⟩ := id k0
  obtain ⟨_, d0, d1, fR⟩ := id hfb
  obtain ⟨⟨_, e0, e1, e2⟩, fK⟩ := id hfc
  have hbw := hb0
  go_wp2
  have hF := (((hfb.put (0) (0)).other (a := ⟨w.heap.size + 1 + 1, 0, none⟩) (.int .i64 (0)) (by show w.heap.size + 1 + 1 ≠ w.heap.size + 1; omega)).other (a := ⟨w.heap.size + 1 + 1, 1, none⟩) (.int .i64 (0)) (by show w.heap.size + 1 + 1 ≠ w.heap.size + 1; omega)).other (a := ⟨w.heap.size + 1 + 1, 2, none⟩) (.int .u32 (0)) (by show w.heap.size + 1 + 1 ≠ w.heap.size + 1; omega)
  have hK := ((hfc.fc.other (p := ⟨w.heap.size + 1, 0, none⟩) (.int .i64 (0)) (by show w.heap.size + 1 ≠ w.heap.size + 1 + 1; omega)).other (p := ⟨w.heap.size + 1, 1, none⟩) (.int .i64 (0)) (by show w.heap.size + 1 ≠ w.heap.size + 1 + 1; omega)).put (0) (0) (0)
  have hBB := (((((hbw.setCell (p := ⟨w.heap.size + 1, 0, none⟩) (by show w.heap.size ≤ w.heap.size + 1; omega) (.int .i64 (0))).setCell (p := ⟨w.heap.size + 1, 1, none⟩) (by show w.heap.size ≤ w.heap.size + 1; omega) (.int .i64 (0))).setCell (p := ⟨w.heap.size + 1 + 1, 0, none⟩) (by show w.heap.size ≤ w.heap.size + 1 + 1; omega) (.int .i64 (0))).setCell (p := ⟨w.heap.size + 1 + 1, 1, none⟩) (by show w.heap.size ≤ w.heap.size + 1 + 1; omega) (.int .i64 (0))).setCell (p := ⟨w.heap.size + 1 + 1, 2, none⟩) (by show w.heap.size ≤ w.heap.size + 1 + 1; omega) (.int .u32 (0)))
  obtain ⟨WW, hWW⟩ : ∃ WW, WW = (((((w1.setCell ⟨w.heap.size + 1, 0, none⟩ (.int .i64 (0))).setCell ⟨w.heap.size + 1, 1, none⟩ (.int .i64 (0))).setCell ⟨w.heap.size + 1 + 1, 0, none⟩ (.int .i64 (0))).setCell ⟨w.heap.size + 1 + 1, 1, none⟩ (.int .i64 (0))).setCell ⟨w.heap.size + 1 + 1, 2, none⟩ (.int .u32 (0))) := ⟨_, rfl⟩
  rw [← hWW] at hF hK hBB ⊢
  clear hWW
  obtain ⟨_, hF0, hF1, _⟩ := hF
  obtain ⟨_, hK0, hK1, hK2⟩ := hK
  exact bodyPost_ret (v := .tuple #[.agg #[.int .i64 (0), .int .i64 (0)], .agg #[.int .i64 (0), .int .i64 (0), .int .u32 (0)], .int .i64 (1)]) (by simp [results, Try.results6, go_sem, hF0, hF1, hK0, hK1, hK2]) rfl ⟨rfl, hBB⟩
set_option maxHeartbeats 1000000 in
theorem slv_forb (X : SM) (u v : Value) (hS : SlT w u X.ts) (hbd : BdS X) (hv : VSum X) (q : Int) (hq : q ≠ 0) (hF0 : ∀ W, Below w.heap.size w W → Calls Try.prog 16 #[v] W fun r w' => r = .returned (.int .i64 q) ∧ Below W.heap.size W w') :
    Calls Try.prog 6 #[.agg #[.int .i64 X.n, .int .u32 X.e, .int .i64 X.s, u], v] w (RetL w 0 0 0 0 0 q) := by
  have hV := Lib.hid (fun W G (hb : Below w.heap.size w W) c1 => sv5_any W X u G c1 (hS.below hb) hbd true ⟨fun _ => hv, fun _ => rfl⟩)
  have hF := Lib.hid hF0
  obtain ⟨a, cap, rfl, _⟩ := id hS
  obtain ⟨l, hl⟩ : ∃ l, X.ts.length = l := ⟨_, rfl⟩
  rw [hl] at hV ⊢
  have d1 : (q != 0) = true := by simpa using hq
  clear hl hS hbd hv hF0 hq
  obtain ⟨W0, hW0⟩ : ∃ W0, W0 = ((w.alloc (.cells #[.int .i64 X.n, .int .u32 X.e, .int .i64 X.s, .slice a l cap] 40)).alloc (.cells #[.int .i64 0, .int .i64 0] 32)).alloc (.cells #[.int .i64 0, .int .i64 0, .int .u32 0] 35) := ⟨_, rfl⟩
  have hb0 : Below w.heap.size w W0 := by rw [hW0]; (repeat (first | exact Below.refl _ _ | assumption | refine bchain (by assumption) ?_ | refine balloc ?_ _ | apply Below.drew | apply below_drewN | (refine Below.alloc ?_ (by (try simp) <;> omega) _) | (refine Below.setCell ?_ (by (try simp) <;> omega) _)))
  have sz : ∀ (W : World) (o : Obj), (W.alloc o).heap.size = W.heap.size + 1 := fun W o => by simp
  have k0 : SB W0 w.heap.size X.n X.e X.s (.slice a l cap) := by rw [hW0]; exact ((SB.made _ _ _ _ _ _).below (balloc (Below.refl _ _) _)).below (balloc (Below.refl _ _) _)
  have hfb : FrB W0 (w.heap.size + 1) 0 0 := by rw [hW0, ← sz w (.cells #[.int .i64 X.n, .int .u32 X.e, .int .i64 X.s, .slice a l cap] 40)]; exact (FrB.made _ 0 0 _).below (balloc (Below.refl _ _) _)
  have hfc : FZ W0 (w.heap.size + 1 + 1) 0 0 0 := by rw [hW0, ← sz w (.cells #[.int .i64 X.n, .int .u32 X.e, .int .i64 X.s, .slice a l cap] 40), ← sz _ (.cells #[.int .i64 0, .int .i64 0] 32)]; exact FZ.made _ 0 0 0 _
  replace hW0 := Lib.hid hW0
  clear sz
  obtain ⟨_, x0, x1, x2, x3, _⟩ := id k0
  go_enter Try.func6, Try.ntmps6
  go_wp2_with fail
  rw [← hW0.out]
  refine (hV.out _ _ hb0 k0).mono ?_
  rintro r1 w1 ⟨rfl, hb1⟩
  replace k0 := k0.below hb1
  replace hfb := hfb.below hb1
  replace hfc := hfc.below hb1
  replace hb0 := bchain hb1 hb0
  clear hb1 x0 x1 x2 x3
  obtain ⟨_, x0, x1, x2, x3, _⟩ := id k0
  go_wp2_with fail
  refine (hF.out _ hb0).mono ?_
  rintro r2 w2 ⟨rfl, hb2⟩
  replace k0 := k0.below hb2
  replace hfb := hfb.below hb2
  replace hfc := hfc.below hb2
  replace hb0 := bchain hb2 hb0
  clear hb2 x0 x1 x2 x3
  obtain ⟨_, x0, x1, x2, x3, _⟩ := id k0
  obtain ⟨_, d0, d1, fR⟩ := id hfb
  obtain ⟨⟨_, e0, e1, e2⟩, fK⟩ := id hfc
  have hbw := hb0
  go_wp2
  have hF := (((hfb.put (0) (0)).other (a := ⟨w.heap.size + 1 + 1, 0, none⟩) (.int .i64 (0)) (by show w.heap.size + 1 + 1 ≠ w.heap.size + 1; omega)).other (a := ⟨w.heap.size + 1 + 1, 1, none⟩) (.int .i64 (0)) (by show w.heap.size + 1 + 1 ≠ w.heap.size + 1; omega)).other (a := ⟨w.heap.size + 1 + 1, 2, none⟩) (.int .u32 (0)) (by show w.heap.size + 1 + 1 ≠ w.heap.size + 1; omega)
  have hK := ((hfc.fc.other (p := ⟨w.heap.size + 1, 0, none⟩) (.int .i64 (0)) (by show w.heap.size + 1 ≠ w.heap.size + 1 + 1; omega)).other (p := ⟨w.heap.size + 1, 1, none⟩) (.int .i64 (0)) (by show w.heap.size + 1 ≠ w.heap.size + 1 + 1; omega)).put (0) (0) (0)
  have hBB := (((((hbw.setCell (p := ⟨w.heap.size + 1, 0, none⟩) (by show w.heap.size ≤ w.heap.size + 1; omega) (.int .i64 (0))).setCell (p := ⟨w.heap.size + 1, 1, none⟩) (by show w.heap.size ≤ w.heap.size + 1; omega) (.int .i64 (0))).setCell (p := ⟨w.heap.size + 1 + 1, 0, none⟩) (by show w.heap.size ≤ w.heap.size + 1 + 1; omega) (.int .i64 (0))).setCell (p := ⟨w.heap.size + 1 + 1, 1, none⟩) (by show w.heap.size ≤ w.heap.size + 1 + 1; omega) (.int .i64 (0))).setCell (p := ⟨w.heap.size + 1 + 1, 2, none⟩) (by show w.heap.size ≤ w.heap.size + 1 + 1; omega) (.int .u32 (0)))
  obtain ⟨WW, hWW⟩ : ∃ WW, WW = (((((w2.setCell ⟨w.heap.size + 1, 0, none⟩ (.int .i64 (0))).setCell ⟨w.heap.size + 1, 1, none⟩ (.int .i64 (0))).setCell ⟨w.heap.size + 1 + 1, 0, none⟩ (.int .i64 (0))).setCell ⟨w.heap.size + 1 + 1, 1, none⟩ (.int .i64 (0))).setCell ⟨w.heap.size + 1 + 1, 2, none⟩ (.int .u32 (0))) := ⟨_, rfl⟩
  rw [← hWW] at hF hK hBB ⊢
  clear hWW
  obtain ⟨_, hF0, hF1, _⟩ := hF
  obtain ⟨_, hK0, hK1, hK2⟩ := hK
  exact bodyPost_ret (v := .tuple #[.agg #[.int .i64 (0), .int .i64 (0)], .agg #[.int .i64 (0), .int .i64 (0), .int .u32 (0)], .int .i64 (q)]) (by simp [results, Try.results6, go_sem, hF0, hF1, hK0, hK1, hK2]) rfl ⟨rfl, hBB⟩
set_option maxHeartbeats 1000000 in
theorem slv_code (X : SM) (u v : Value) (hS : SlT w u X.ts) (hbd : BdS X) (hv : VSum X) (c : Int) (hc : c ≠ 0) (L : List (Int × Int × Int)) (hF0 : ∀ W, Below w.heap.size w W → Calls Try.prog 16 #[v] W fun r w' => r = .returned (.int .i64 0) ∧ Below W.heap.size W w') (hA0 : ∀ W, Below w.heap.size w W → Calls Try.prog 17 #[.agg #[.int .i64 X.n, .int .u32 X.e], .int .i64 X.s, v] W (RetK W L c)) :
    Calls Try.prog 6 #[.agg #[.int .i64 X.n, .int .u32 X.e, .int .i64 X.s, u], v] w (RetL w 0 0 0 0 0 c) := by
  have hV := Lib.hid (fun W G (hb : Below w.heap.size w W) c1 => sv5_any W X u G c1 (hS.below hb) hbd true ⟨fun _ => hv, fun _ => rfl⟩)
  have hF := Lib.hid hF0
  have hA := Lib.hid hA0
  obtain ⟨a, cap, rfl, _⟩ := id hS
  obtain ⟨l, hl⟩ : ∃ l, X.ts.length = l := ⟨_, rfl⟩
  rw [hl] at hV ⊢
  have d1 : (c != 0) = true := by simpa using hc
  clear hc
  clear hl hS hbd hv hF0 hA0
  obtain ⟨W0, hW0⟩ : ∃ W0, W0 = ((w.alloc (.cells #[.int .i64 X.n, .int .u32 X.e, .int .i64 X.s, .slice a l cap] 40)).alloc (.cells #[.int .i64 0, .int .i64 0] 32)).alloc (.cells #[.int .i64 0, .int .i64 0, .int .u32 0] 35) := ⟨_, rfl⟩
  have hb0 : Below w.heap.size w W0 := by rw [hW0]; (repeat (first | exact Below.refl _ _ | assumption | refine bchain (by assumption) ?_ | refine balloc ?_ _ | apply Below.drew | apply below_drewN | (refine Below.alloc ?_ (by (try simp) <;> omega) _) | (refine Below.setCell ?_ (by (try simp) <;> omega) _)))
  have sz : ∀ (W : World) (o : Obj), (W.alloc o).heap.size = W.heap.size + 1 := fun W o => by simp
  have k0 : SB W0 w.heap.size X.n X.e X.s (.slice a l cap) := by rw [hW0]; exact ((SB.made _ _ _ _ _ _).below (balloc (Below.refl _ _) _)).below (balloc (Below.refl _ _) _)
  have hfb : FrB W0 (w.heap.size + 1) 0 0 := by rw [hW0, ← sz w (.cells #[.int .i64 X.n, .int .u32 X.e, .int .i64 X.s, .slice a l cap] 40)]; exact (FrB.made _ 0 0 _).below (balloc (Below.refl _ _) _)
  have hfc : FZ W0 (w.heap.size + 1 + 1) 0 0 0 := by rw [hW0, ← sz w (.cells #[.int .i64 X.n, .int .u32 X.e, .int .i64 X.s, .slice a l cap] 40), ← sz _ (.cells #[.int .i64 0, .int .i64 0] 32)]; exact FZ.made _ 0 0 0 _
  replace hW0 := Lib.hid hW0
  clear sz
  obtain ⟨_, x0, x1, x2, x3, _⟩ := id k0
  go_enter Try.func6, Try.ntmps6
  go_wp2_with fail
  rw [← hW0.out]
  refine (hV.out _ _ hb0 k0).mono ?_
  rintro r1 w1 ⟨rfl, hb1⟩
  replace k0 := k0.below hb1
  replace hfb := hfb.below hb1
  replace hfc := hfc.below hb1
  replace hb0 := bchain hb1 hb0
  clear hb1 x0 x1 x2 x3
  obtain ⟨_, x0, x1, x2, x3, _⟩ := id k0
  go_wp2_with fail
  refine (hF.out _ hb0).mono ?_
  rintro r2 w2 ⟨rfl, hb2⟩
  replace k0 := k0.below hb2
  replace hfb := hfb.below hb2
  replace hfc := hfc.below hb2
  replace hb0 := bchain hb2 hb0
  clear hb2 x0 x1 x2 x3
  obtain ⟨_, x0, x1, x2, x3, _⟩ := id k0
  go_wp2_with fail
  refine (hA.out _ hb0).mono ?_
  rintro r3 w3 ⟨⟨uL, rfl, hL⟩, hb3⟩
  obtain ⟨aL, cL, rfl, _⟩ := hL
  replace k0 := k0.below hb3
  replace hfb := hfb.below hb3
  replace hfc := hfc.below hb3
  replace hb0 := bchain hb3 hb0
  clear hb3 x0 x1 x2 x3
  obtain ⟨_, x0, x1, x2, x3, _⟩ := id k0
  obtain ⟨_, d0, d1, fR⟩ := id hfb
  obtain ⟨⟨_, e0, e1, e2⟩, fK⟩ := id hfc
  have hbw := hb0
  go_wp2
  have hF := (((hfb.put (0) (0)).other (a := ⟨w.heap.size + 1 + 1, 0, none⟩) (.int .i64 (0)) (by show w.heap.size + 1 + 1 ≠ w.heap.size + 1; omega)).other (a := ⟨w.heap.size + 1 + 1, 1, none⟩) (.int .i64 (0)) (by show w.heap.size + 1 + 1 ≠ w.heap.size + 1; omega)).other (a := ⟨w.heap.size + 1 + 1, 2, none⟩) (.int .u32 (0)) (by show w.heap.size + 1 + 1 ≠ w.heap.size + 1; omega)
  have hK := ((hfc.fc.other (p := ⟨w.heap.size + 1, 0, none⟩) (.int .i64 (0)) (by show w.heap.size + 1 ≠ w.heap.size + 1 + 1; omega)).other (p := ⟨w.heap.size + 1, 1, none⟩) (.int .i64 (0)) (by show w.heap.size + 1 ≠ w.heap.size + 1 + 1; omega)).put (0) (0) (0)
  have hBB := (((((hbw.setCell (p := ⟨w.heap.size + 1, 0, none⟩) (by show w.heap.size ≤ w.heap.size + 1; omega) (.int .i64 (0))).setCell (p := ⟨w.heap.size + 1, 1, none⟩) (by show w.heap.size ≤ w.heap.size + 1; omega) (.int .i64 (0))).setCell (p := ⟨w.heap.size + 1 + 1, 0, none⟩) (by show w.heap.size ≤ w.heap.size + 1 + 1; omega) (.int .i64 (0))).setCell (p := ⟨w.heap.size + 1 + 1, 1, none⟩) (by show w.heap.size ≤ w.heap.size + 1 + 1; omega) (.int .i64 (0))).setCell (p := ⟨w.heap.size + 1 + 1, 2, none⟩) (by show w.heap.size ≤ w.heap.size + 1 + 1; omega) (.int .u32 (0)))
  obtain ⟨WW, hWW⟩ : ∃ WW, WW = (((((w3.setCell ⟨w.heap.size + 1, 0, none⟩ (.int .i64 (0))).setCell ⟨w.heap.size + 1, 1, none⟩ (.int .i64 (0))).setCell ⟨w.heap.size + 1 + 1, 0, none⟩ (.int .i64 (0))).setCell ⟨w.heap.size + 1 + 1, 1, none⟩ (.int .i64 (0))).setCell ⟨w.heap.size + 1 + 1, 2, none⟩ (.int .u32 (0))) := ⟨_, rfl⟩
  rw [← hWW] at hF hK hBB ⊢
  clear hWW
  obtain ⟨_, hF0, hF1, _⟩ := hF
  obtain ⟨_, hK0, hK1, hK2⟩ := hK
  exact bodyPost_ret (v := .tuple #[.agg #[.int .i64 (0), .int .i64 (0)], .agg #[.int .i64 (0), .int .i64 (0), .int .u32 (0)], .int .i64 (c)]) (by simp [results, Try.results6, go_sem, hF0, hF1, hK0, hK1, hK2]) rfl ⟨rfl, hBB⟩
set_option maxHeartbeats 1000000 in
theorem slv_nil (X : SM) (u v : Value) (hS : SlT w u X.ts) (hbd : BdS X) (hv : VSum X)  (hF0 : ∀ W, Below w.heap.size w W → Calls Try.prog 16 #[v] W fun r w' => r = .returned (.int .i64 0) ∧ Below W.heap.size W w') (hA0 : ∀ W, Below w.heap.size w W → Calls Try.prog 17 #[.agg #[.int .i64 X.n, .int .u32 X.e], .int .i64 X.s, v] W (RetK W [] 0)) :
    Calls Try.prog 6 #[.agg #[.int .i64 X.n, .int .u32 X.e, .int .i64 X.s, u], v] w (RetL w 0 0 0 0 0 6) := by
  have hV := Lib.hid (fun W G (hb : Below w.heap.size w W) c1 => sv5_any W X u G c1 (hS.below hb) hbd true ⟨fun _ => hv, fun _ => rfl⟩)
  have hF := Lib.hid hF0
  have hA := Lib.hid hA0
  obtain ⟨a, cap, rfl, _⟩ := id hS
  obtain ⟨l, hl⟩ : ∃ l, X.ts.length = l := ⟨_, rfl⟩
  rw [hl] at hV ⊢
  clear hl hS hbd hv hF0 hA0
  obtain ⟨W0, hW0⟩ : ∃ W0, W0 = ((w.alloc (.cells #[.int .i64 X.n, .int .u32 X.e, .int .i64 X.s, .slice a l cap] 40)).alloc (.cells #[.int .i64 0, .int .i64 0] 32)).alloc (.cells #[.int .i64 0, .int .i64 0, .int .u32 0] 35) := ⟨_, rfl⟩
  have hb0 : Below w.heap.size w W0 := by rw [hW0]; (repeat (first | exact Below.refl _ _ | assumption | refine bchain (by assumption) ?_ | refine balloc ?_ _ | apply Below.drew | apply below_drewN | (refine Below.alloc ?_ (by (try simp) <;> omega) _) | (refine Below.setCell ?_ (by (try simp) <;> omega) _)))
  have sz : ∀ (W : World) (o : Obj), (W.alloc o).heap.size = W.heap.size + 1 := fun W o => by simp
  have k0 : SB W0 w.heap.size X.n X.e X.s (.slice a l cap) := by rw [hW0]; exact ((SB.made _ _ _ _ _ _).below (balloc (Below.refl _ _) _)).below (balloc (Below.refl _ _) _)
  have hfb : FrB W0 (w.heap.size + 1) 0 0 := by rw [hW0, ← sz w (.cells #[.int .i64 X.n, .int .u32 X.e, .int .i64 X.s, .slice a l cap] 40)]; exact (FrB.made _ 0 0 _).below (balloc (Below.refl _ _) _)
  have hfc : FZ W0 (w.heap.size + 1 + 1) 0 0 0 := by rw [hW0, ← sz w (.cells #[.int .i64 X.n, .int .u32 X.e, .int .i64 X.s, .slice a l cap] 40), ← sz _ (.cells #[.int .i64 0, .int .i64 0] 32)]; exact FZ.made _ 0 0 0 _
  replace hW0 := Lib.hid hW0
  clear sz
  obtain ⟨_, x0, x1, x2, x3, _⟩ := id k0
  go_enter Try.func6, Try.ntmps6
  go_wp2_with fail
  rw [← hW0.out]
  refine (hV.out _ _ hb0 k0).mono ?_
  rintro r1 w1 ⟨rfl, hb1⟩
  replace k0 := k0.below hb1
  replace hfb := hfb.below hb1
  replace hfc := hfc.below hb1
  replace hb0 := bchain hb1 hb0
  clear hb1 x0 x1 x2 x3
  obtain ⟨_, x0, x1, x2, x3, _⟩ := id k0
  go_wp2_with fail
  refine (hF.out _ hb0).mono ?_
  rintro r2 w2 ⟨rfl, hb2⟩
  replace k0 := k0.below hb2
  replace hfb := hfb.below hb2
  replace hfc := hfc.below hb2
  replace hb0 := bchain hb2 hb0
  clear hb2 x0 x1 x2 x3
  obtain ⟨_, x0, x1, x2, x3, _⟩ := id k0
  go_wp2_with fail
  refine (hA.out _ hb0).mono ?_
  rintro r3 w3 ⟨⟨uL, rfl, hL⟩, hb3⟩
  obtain ⟨aL, cL, rfl, _⟩ := hL
  rw [List.length_nil]
  replace k0 := k0.below hb3
  replace hfb := hfb.below hb3
  replace hfc := hfc.below hb3
  replace hb0 := bchain hb3 hb0
  clear hb3 x0 x1 x2 x3
  obtain ⟨_, x0, x1, x2, x3, _⟩ := id k0
  obtain ⟨_, d0, d1, fR⟩ := id hfb
  obtain ⟨⟨_, e0, e1, e2⟩, fK⟩ := id hfc
  have hbw := hb0
  go_wp2
  have hF := (((hfb.put (0) (0)).other (a := ⟨w.heap.size + 1 + 1, 0, none⟩) (.int .i64 (0)) (by show w.heap.size + 1 + 1 ≠ w.heap.size + 1; omega)).other (a := ⟨w.heap.size + 1 + 1, 1, none⟩) (.int .i64 (0)) (by show w.heap.size + 1 + 1 ≠ w.heap.size + 1; omega)).other (a := ⟨w.heap.size + 1 + 1, 2, none⟩) (.int .u32 (0)) (by show w.heap.size + 1 + 1 ≠ w.heap.size + 1; omega)
  have hK := ((hfc.fc.other (p := ⟨w.heap.size + 1, 0, none⟩) (.int .i64 (0)) (by show w.heap.size + 1 ≠ w.heap.size + 1 + 1; omega)).other (p := ⟨w.heap.size + 1, 1, none⟩) (.int .i64 (0)) (by show w.heap.size + 1 ≠ w.heap.size + 1 + 1; omega)).put (0) (0) (0)
  have hBB := (((((hbw.setCell (p := ⟨w.heap.size + 1, 0, none⟩) (by show w.heap.size ≤ w.heap.size + 1; omega) (.int .i64 (0))).setCell (p := ⟨w.heap.size + 1, 1, none⟩) (by show w.heap.size ≤ w.heap.size + 1; omega) (.int .i64 (0))).setCell (p := ⟨w.heap.size + 1 + 1, 0, none⟩) (by show w.heap.size ≤ w.heap.size + 1 + 1; omega) (.int .i64 (0))).setCell (p := ⟨w.heap.size + 1 + 1, 1, none⟩) (by show w.heap.size ≤ w.heap.size + 1 + 1; omega) (.int .i64 (0))).setCell (p := ⟨w.heap.size + 1 + 1, 2, none⟩) (by show w.heap.size ≤ w.heap.size + 1 + 1; omega) (.int .u32 (0)))
  obtain ⟨WW, hWW⟩ : ∃ WW, WW = (((((w3.setCell ⟨w.heap.size + 1, 0, none⟩ (.int .i64 (0))).setCell ⟨w.heap.size + 1, 1, none⟩ (.int .i64 (0))).setCell ⟨w.heap.size + 1 + 1, 0, none⟩ (.int .i64 (0))).setCell ⟨w.heap.size + 1 + 1, 1, none⟩ (.int .i64 (0))).setCell ⟨w.heap.size + 1 + 1, 2, none⟩ (.int .u32 (0))) := ⟨_, rfl⟩
  rw [← hWW] at hF hK hBB ⊢
  clear hWW
  obtain ⟨_, hF0, hF1, _⟩ := hF
  obtain ⟨_, hK0, hK1, hK2⟩ := hK
  exact bodyPost_ret (v := .tuple #[.agg #[.int .i64 (0), .int .i64 (0)], .agg #[.int .i64 (0), .int .i64 (0), .int .u32 (0)], .int .i64 (6)]) (by simp [results, Try.results6, go_sem, hF0, hF1, hK0, hK1, hK2]) rfl ⟨rfl, hBB⟩
end
end Go.Proofs.Ytfnjgdocmfmfgab
/-
  LeastValue: the model, where it has an answer.
-/
namespace Go.Proofs.Ytfnjgdocmfmfgab
open Go.RowKit Go.Shelf
set_option maxRecDepth 100000
attribute [local go_sem] Oper.semAt_some
/-- a struct of two cells, stored over another one -/
theorem frTwoS {w : World} {B : Nat} {a b : Value} (h0 : w.cell? ⟨B, 0, none⟩ = some a) (h1 : w.cell? ⟨B, 1, none⟩ = some b) (x y : Value) :
    ((w.setCell ⟨B, 0, none⟩ x).setCell ⟨B, 1, none⟩ y).cell? ⟨B, 0, none⟩ = some x ∧ ((w.setCell ⟨B, 0, none⟩ x).setCell ⟨B, 1, none⟩ y).cell? ⟨B, 1, none⟩ = some y :=
  ⟨(World.cell?_setCell_other _ _ _ _ (by simp)).trans (World.cell?_setCell_same _ _ _ h0), World.cell?_setCell_same _ _ _ ((World.cell?_setCell_other _ _ _ _ (by simp)).trans h1)⟩
/-- what the last region reads and writes: a fraction, a flag of a list; the two results' boxes -/
structure LM (W : World) (G b o B1 B2 : Nat) (P Q x y z : Int) : Prop where
  fb : FrB W G P Q
  s0 : W.cell? ⟨b, o, none⟩ = some (.int .i64 x)
  s1 : W.cell? ⟨b, o + 1, none⟩ = some (.int .i64 y)
  s2 : W.cell? ⟨b, o + 2, none⟩ = some (.int .u32 z)
  f1 : ∃ p q, FrB W B1 p q
  f2 : ∃ k m y, FZ W B2 k m y
  d1 : G ≠ B1 ∧ G ≠ B2 ∧ b ≠ B1 ∧ b ≠ B2 ∧ B1 ≠ B2
section
variable {W W' : World} {G b o B1 B2 : Nat} {P Q x y z : Int}
theorem LM.drew (h : LM W G b o B1 B2 P Q x y z) : LM W.drew G b o B1 B2 P Q x y z := by
  obtain ⟨h1, s0, s1, s2, ⟨p, q, h3⟩, ⟨k, m, y', h4⟩, d⟩ := h
  exact ⟨⟨h1.lt, h1.c0, h1.c1, h1.fz⟩, s0, s1, s2, ⟨p, q, ⟨h3.lt, h3.c0, h3.c1, h3.fz⟩⟩, ⟨k, m, y', ⟨⟨h4.fc.lt, h4.fc.c0, h4.fc.c1, h4.fc.c2⟩, h4.fz⟩⟩, d⟩
theorem LM.put1 (h : LM W G b o B1 B2 P Q x y z) (p q : Int) : LM ((W.setCell ⟨B1, 0, none⟩ (.int .i64 p)).setCell ⟨B1, 1, none⟩ (.int .i64 q)) G b o B1 B2 P Q x y z := by
  obtain ⟨h1, s0, s1, s2, ⟨p', q', h3⟩, ⟨k, m, y', h4⟩, d⟩ := h
  exact ⟨((h1.other (a := ⟨B1, 0, none⟩) (.int .i64 p) (by show B1 ≠ G; omega)).other (a := ⟨B1, 1, none⟩) (.int .i64 q) (by show B1 ≠ G; omega)), (World.cell?_setCell_other _ _ _ _ (by simp <;> omega)).trans ((World.cell?_setCell_other _ _ _ _ (by simp <;> omega)).trans s0), (World.cell?_setCell_other _ _ _ _ (by simp <;> omega)).trans ((World.cell?_setCell_other _ _ _ _ (by simp <;> omega)).trans s1), (World.cell?_setCell_other _ _ _ _ (by simp <;> omega)).trans ((World.cell?_setCell_other _ _ _ _ (by simp <;> omega)).trans s2), ⟨p, q, h3.put p q⟩, ⟨k, m, y', ((h4.other (a := ⟨B1, 0, none⟩) (.int .i64 p) (by show B1 ≠ B2; omega)).other (a := ⟨B1, 1, none⟩) (.int .i64 q) (by show B1 ≠ B2; omega))⟩, d⟩
theorem LM.put2 (h : LM W G b o B1 B2 P Q x y z) (k m y' : Int) : LM (((W.setCell ⟨B2, 0, none⟩ (.int .i64 k)).setCell ⟨B2, 1, none⟩ (.int .i64 m)).setCell ⟨B2, 2, none⟩ (.int .u32 y')) G b o B1 B2 P Q x y z := by
  obtain ⟨h1, s0, s1, s2, ⟨p, q, h3⟩, ⟨k', m', y'', h4⟩, d⟩ := h
  exact ⟨(((h1.other (a := ⟨B2, 0, none⟩) (.int .i64 k) (by show B2 ≠ G; omega)).other (a := ⟨B2, 1, none⟩) (.int .i64 m) (by show B2 ≠ G; omega)).other (a := ⟨B2, 2, none⟩) (.int .u32 y') (by show B2 ≠ G; omega)), (World.cell?_setCell_other _ _ _ _ (by simp <;> omega)).trans ((World.cell?_setCell_other _ _ _ _ (by simp <;> omega)).trans ((World.cell?_setCell_other _ _ _ _ (by simp <;> omega)).trans s0)), (World.cell?_setCell_other _ _ _ _ (by simp <;> omega)).trans ((World.cell?_setCell_other _ _ _ _ (by simp <;> omega)).trans ((World.cell?_setCell_other _ _ _ _ (by simp <;> omega)).trans s1)), (World.cell?_setCell_other _ _ _ _ (by simp <;> omega)).trans ((World.cell?_setCell_other _ _ _ _ (by simp <;> omega)).trans ((World.cell?_setCell_other _ _ _ _ (by simp <;> omega)).trans s2)), ⟨p, q, (((h3.other (a := ⟨B2, 0, none⟩) (.int .i64 k) (by show B2 ≠ B1; omega)).other (a := ⟨B2, 1, none⟩) (.int .i64 m) (by show B2 ≠ B1; omega)).other (a := ⟨B2, 2, none⟩) (.int .u32 y') (by show B2 ≠ B1; omega))⟩, ⟨k, m, y', h4.put k m y'⟩, d⟩
theorem LM.all (h : LM W G b o B1 B2 P Q x y z) : W.cell? ⟨G, 0, none⟩ = some (.int .i64 P) ∧ W.cell? ⟨G, 1, none⟩ = some (.int .i64 Q) ∧
    W.cell? ⟨b, o, none⟩ = some (.int .i64 x) ∧ W.cell? ⟨b, o + 1, none⟩ = some (.int .i64 y) ∧ W.cell? ⟨b, o + 2, none⟩ = some (.int .u32 z) ∧
    W.cell? ⟨B1, 0, none⟩ = some (cellOf W ⟨B1, 0, none⟩) ∧ W.cell? ⟨B1, 1, none⟩ = some (cellOf W ⟨B1, 1, none⟩) ∧ W.frozen? ⟨B1, 0, none⟩ = false ∧ W.frozen? ⟨B1, 1, none⟩ = false ∧
    W.cell? ⟨B2, 0, none⟩ = some (cellOf W ⟨B2, 0, none⟩) ∧ W.cell? ⟨B2, 1, none⟩ = some (cellOf W ⟨B2, 1, none⟩) ∧ W.cell? ⟨B2, 2, none⟩ = some (cellOf W ⟨B2, 2, none⟩) ∧ W.frozen? ⟨B2, 0, none⟩ = false ∧ W.frozen? ⟨B2, 1, none⟩ = false ∧ W.frozen? ⟨B2, 2, none⟩ = false := by
  obtain ⟨h1, s0, s1, s2, ⟨p, q, h3⟩, ⟨k, m, y', h4⟩, _⟩ := h
  exact ⟨h1.c0, h1.c1, s0, s1, s2, cellOf_of h3.c0, cellOf_of h3.c1, h3.fz _, h3.fz _, cellOf_of h4.fc.c0, cellOf_of h4.fc.c1, cellOf_of h4.fc.c2, h4.fz _, h4.fz _, h4.fz _⟩
theorem LM.fin12 (h : LM W G b o B1 B2 P Q x y z) (p q k m y : Int) : FrB (((((W.setCell ⟨B1, 0, none⟩ (.int .i64 p)).setCell ⟨B1, 1, none⟩ (.int .i64 q)).setCell ⟨B2, 0, none⟩ (.int .i64 k)).setCell ⟨B2, 1, none⟩ (.int .i64 m)).setCell ⟨B2, 2, none⟩ (.int .u32 y)) B1 p q ∧ FZ (((((W.setCell ⟨B1, 0, none⟩ (.int .i64 p)).setCell ⟨B1, 1, none⟩ (.int .i64 q)).setCell ⟨B2, 0, none⟩ (.int .i64 k)).setCell ⟨B2, 1, none⟩ (.int .i64 m)).setCell ⟨B2, 2, none⟩ (.int .u32 y)) B2 k m y := by
  obtain ⟨_, _, _, _, ⟨p', q', h3⟩, ⟨k', m', y', h4⟩, d⟩ := h
  exact ⟨((((h3.put p q).other (a := ⟨B2, 0, none⟩) (.int .i64 k) (by show B2 ≠ B1; omega)).other (a := ⟨B2, 1, none⟩) (.int .i64 m) (by show B2 ≠ B1; omega)).other (a := ⟨B2, 2, none⟩) (.int .u32 y) (by show B2 ≠ B1; omega)), ((h4.other (a := ⟨B1, 0, none⟩) (.int .i64 p) (by show B1 ≠ B2; omega)).other (a := ⟨B1, 1, none⟩) (.int .i64 q) (by show B1 ≠ B2; omega)).put k m y⟩
theorem LM.fin21 (h : LM W G b o B1 B2 P Q x y z) (p q k m y : Int) : FrB (((((W.setCell ⟨B2, 0, none⟩ (.int .i64 k)).setCell ⟨B2, 1, none⟩ (.int .i64 m)).setCell ⟨B2, 2, none⟩ (.int .u32 y)).setCell ⟨B1, 0, none⟩ (.int .i64 p)).setCell ⟨B1, 1, none⟩ (.int .i64 q)) B1 p q ∧ FZ (((((W.setCell ⟨B2, 0, none⟩ (.int .i64 k)).setCell ⟨B2, 1, none⟩ (.int .i64 m)).setCell ⟨B2, 2, none⟩ (.int .u32 y)).setCell ⟨B1, 0, none⟩ (.int .i64 p)).setCell ⟨B1, 1, none⟩ (.int .i64 q)) B2 k m y := by
  obtain ⟨_, _, _, _, ⟨p', q', h3⟩, ⟨k', m', y', h4⟩, d⟩ := h
  exact ⟨(((h3.other (a := ⟨B2, 0, none⟩) (.int .i64 k) (by show B2 ≠ B1; omega)).other (a := ⟨B2, 1, none⟩) (.int .i64 m) (by show B2 ≠ B1; omega)).other (a := ⟨B2, 2, none⟩) (.int .u32 y) (by show B2 ≠ B1; omega)).put p q, (((h4.put k m y).other (a := ⟨B1, 0, none⟩) (.int .i64 p) (by show B1 ≠ B2; omega)).other (a := ⟨B1, 1, none⟩) (.int .i64 q) (by show B1 ≠ B2; omega))⟩
end
section
variable (w : World)
set_option maxHeartbeats 8000000 in
theorem slv_ok (X : SM) (u v : Value) (hS : SlT w u X.ts) (hbd : BdS X) (hv : VSum X) (L : List (Int × Int × Int)) (h0 : 0 < L.length) (h64 : L.length ≤ 64) (hEl : ElOk X L) (hF0 : ∀ W, Below w.heap.size w W → Calls Try.prog 16 #[v] W fun r w' => r = .returned (.int .i64 0) ∧ Below W.heap.size W w') (hA0 : ∀ W, Below w.heap.size w W → Calls Try.prog 17 #[.agg #[.int .i64 X.n, .int .u32 X.e], .int .i64 X.s, v] W (RetK W L 0))
    (a1 a2 a3 P Q : Int) (ha : kAt L (bst (vaL X L) L.length) = (a1, a2, a3)) (hPQ : coF X.ts a1 a2 a3 = (P, Q)) :
    Calls Try.prog 6 #[.agg #[.int .i64 X.n, .int .u32 X.e, .int .i64 X.s, u], v] w (RetL w P Q a1 a2 a3 0) := by
  have hV := Lib.hid (fun W G (hb : Below w.heap.size w W) c1 => sv5_any W X u G c1 (hS.below hb) hbd true ⟨fun _ => hv, fun _ => rfl⟩)
  have hF := Lib.hid hF0
  have hA := Lib.hid hA0
  have hVF := Lib.hid (fun i => co_vf hv (kAt L i).1 (kAt L i).2.1 (kAt L i).2.2)
  have hfin : Hid (vaL X L (bst (vaL X L) L.length) = (P, Q)) := by
    show _ = _
    rw [show vaL X L (bst (vaL X L) L.length) = coF X.ts (kAt L (bst (vaL X L) L.length)).1 (kAt L (bst (vaL X L) L.length)).2.1 (kAt L (bst (vaL X L) L.length)).2.2 from rfl, ha]
    exact hPQ
  have hCo : Hid (∀ i, i < L.length → ∃ k s y : Int, kAt L i = (k, s, y) ∧ ∀ W, Below w.heap.size w W → Calls Try.prog 19 #[.agg #[.int .i64 X.n, .int .u32 X.e, .int .i64 X.s, u], .agg #[.int .i64 k, .int .i64 s, .int .u32 y]] W fun r w' => r = .returned (.tuple #[.agg #[.int .i64 (vaL X L i).1, .int .i64 (vaL X L i).2], .int .i64 0]) ∧ Below W.heap.size W w') := fun i hi => by
    obtain ⟨k, s, y, hq, hvk, hfit, hle⟩ := hEl i hi
    refine ⟨k, s, y, hq, fun W hb => ?_⟩
    have := sc_ok W X u k s y (hS.below hb) hbd hv hvk hfit (vaL X L i).1 (vaL X L i).2 (by rw [hle]; unfold vaL; rw [hq])
    exact this
  obtain ⟨f, hf⟩ : ∃ f, vaL X L = f := ⟨_, rfl⟩
  rw [hf] at ha hfin hCo
  have hVf : Hid (∀ i, Fr.VF (f i).1 (f i).2) := by rw [← hf]; exact hVF.out
  have hbl := Lib.hid (bst_lt f L.length h0)
  obtain ⟨a, cap, rfl, _⟩ := id hS
  obtain ⟨l, hl⟩ : ∃ l, X.ts.length = l := ⟨_, rfl⟩
  rw [hl] at hV hCo ⊢
  clear hl hS hbd hv hF0 hA0 hEl hPQ hVF hf
  obtain ⟨W0, hW0⟩ : ∃ W0, W0 = ((w.alloc (.cells #[.int .i64 X.n, .int .u32 X.e, .int .i64 X.s, .slice a l cap] 40)).alloc (.cells #[.int .i64 0, .int .i64 0] 32)).alloc (.cells #[.int .i64 0, .int .i64 0, .int .u32 0] 35) := ⟨_, rfl⟩
  have hb0 : Below w.heap.size w W0 := by rw [hW0]; (repeat (first | exact Below.refl _ _ | assumption | refine bchain (by assumption) ?_ | refine balloc ?_ _ | apply Below.drew | apply below_drewN | (refine Below.alloc ?_ (by (try simp) <;> omega) _) | (refine Below.setCell ?_ (by (try simp) <;> omega) _)))
  have sz : ∀ (W : World) (o : Obj), (W.alloc o).heap.size = W.heap.size + 1 := fun W o => by simp
  have k0 : SB W0 w.heap.size X.n X.e X.s (.slice a l cap) := by rw [hW0]; exact ((SB.made _ _ _ _ _ _).below (balloc (Below.refl _ _) _)).below (balloc (Below.refl _ _) _)
  have hfb : FrB W0 (w.heap.size + 1) 0 0 := by rw [hW0, ← sz w (.cells #[.int .i64 X.n, .int .u32 X.e, .int .i64 X.s, .slice a l cap] 40)]; exact (FrB.made _ 0 0 _).below (balloc (Below.refl _ _) _)
  have hfc : FZ W0 (w.heap.size + 1 + 1) 0 0 0 := by rw [hW0, ← sz w (.cells #[.int .i64 X.n, .int .u32 X.e, .int .i64 X.s, .slice a l cap] 40), ← sz _ (.cells #[.int .i64 0, .int .i64 0] 32)]; exact FZ.made _ 0 0 0 _
  replace hW0 := Lib.hid hW0
  clear sz
  obtain ⟨_, x0, x1, x2, x3, _⟩ := id k0
  go_enter Try.func6, Try.ntmps6
  go_wp2_with fail
  rw [← hW0.out]
  refine (hV.out _ _ hb0 k0).mono ?_
  rintro r1 w1 ⟨rfl, hb1⟩
  replace k0 := k0.below hb1
  replace hfb := hfb.below hb1
  replace hfc := hfc.below hb1
  replace hb0 := bchain hb1 hb0
  clear hb1 x0 x1 x2 x3
  obtain ⟨_, x0, x1, x2, x3, _⟩ := id k0
  go_wp2_with fail
  refine (hF.out _ hb0).mono ?_
  rintro r2 w2 ⟨rfl, hb2⟩
  replace k0 := k0.below hb2
  replace hfb := hfb.below hb2
  replace hfc := hfc.below hb2
  replace hb0 := bchain hb2 hb0
  clear hb2 x0 x1 x2 x3
  obtain ⟨_, x0, x1, x2, x3, _⟩ := id k0
  go_wp2_with fail
  refine (hA.out _ hb0).mono ?_
  rintro r3 w3 ⟨⟨uL, rfl, hL⟩, hb3⟩
  obtain ⟨aL, cL, rfl, hL1, hL2, hL3⟩ := hL.sl
  obtain ⟨b, off, rfl, hbL, hg⟩ := hL3 (List.length_pos_iff.1 h0)
  have hbo : Hid (w.heap.size + 1 + 1 < b) := by
    have h1 := hfc.fc.lt
    have h2 := OwnV.block hL h0 (by rfl)
    have h3 : w2.heap.size ≤ b := h2.1
    show _ < _
    omega
  replace hg := Lib.hid hg
  obtain ⟨n, hn⟩ : ∃ n, L.length = n := ⟨_, rfl⟩
  rw [hn] at h0 h64 hL1 hg ha hbl hfin hCo ⊢
  have hd0 : ((n : Int) == 0) = false := by simp; omega
  replace k0 := k0.below hb3
  replace hfb := hfb.below hb3
  replace hfc := hfc.below hb3
  replace hb0 := bchain hb3 hb0
  clear hb3 x0 x1 x2 x3
  obtain ⟨_, x0, x1, x2, x3, _⟩ := id k0
  clear hL hL3 hn hV hF hA
  go_wp2_with fail
  refine (slz_any _).mono ?_
  rintro r4 w4 ⟨rfl, hb4⟩
  have hbw4 : b < w4.heap.size := by have := hb4.size; omega
  have hg4 : Hid (∀ i, i < n → KCell w4 b off (kAt L i) i) := fun i hi => ⟨(hb4.cell (p := ⟨b, _, none⟩) hbL).trans (hg.out i hi).1, (hb4.cell (p := ⟨b, _, none⟩) hbL).trans (hg.out i hi).2.1, (hb4.cell (p := ⟨b, _, none⟩) hbL).trans (hg.out i hi).2.2⟩
  clear hg
  replace k0 := k0.below hb4
  replace hfb := hfb.below hb4
  replace hfc := hfc.below hb4
  replace hb0 := bchain hb4 hb0
  clear hb4 x0 x1 x2 x3
  obtain ⟨_, x0, x1, x2, x3, _⟩ := id k0
  obtain ⟨W5, hW5⟩ : ∃ W5, W5 = w4.alloc (.cells #[.int .i64 0, .int .i64 1] 32) := ⟨_, rfl⟩
  have b5 : Below w4.heap.size w4 W5 := by rw [hW5]; exact balloc (Below.refl _ _) _
  have l5 : FrB W5 w4.heap.size 0 1 := by rw [hW5]; exact FrB.made _ 0 1 _
  replace hW5 := Lib.hid hW5
  have hk5 := k0.below b5
  have hfb5 := hfb.below b5
  have hfc5 := hfc.below b5
  have hb5 := bchain b5 hb0
  have hz4 : w.heap.size + 1 + 1 < w4.heap.size := hfc.fc.lt
  clear k0 hfb hfc hb0 x0 x1 x2 x3
  go_wp2_with fail
  rw [← hW5.out]
  go_loopw [10, 12, 13, 14] (fun s10 s12 _ _ wr => ∃ k : Nat, k ≤ n ∧ s12 = .int .i64 k ∧ s10 = .int .i64 (bst f k : Nat) ∧ (∃ p q, FrB wr w4.heap.size p q ∧ (k ≠ 0 → f (bst f k) = (p, q))) ∧ SB wr w.heap.size X.n X.e X.s (.slice a l cap) ∧ FrB wr (w.heap.size + 1) 0 0 ∧ FZ wr (w.heap.size + 1 + 1) 0 0 0 ∧ Below w4.heap.size w4 wr ∧ Below w.heap.size w wr) (fun _ s12 _ _ _ => n - (intOf s12).toNat)
  case atStart => exact ⟨0, by omega, rfl, rfl, ⟨0, 1, l5, fun h => absurd rfl h⟩, hk5, hfb5, hfc5, b5, hb5⟩
  case round =>
    clear l5 hk5 hfb5 hfc5 b5 hb5
    obtain ⟨k, hk, rfl, rfl, ⟨p, q, hl5, hpq⟩, hks, hfb, hfc, hB4, hB⟩ := hrel
    replace hpq := Lib.hid hpq
    by_cases hlt : k < n
    · obtain ⟨x, y, z, hxy, hCk⟩ := hCo.out k hlt
      obtain ⟨F1, F2, hFk⟩ : ∃ F1 F2, f k = (F1, F2) := ⟨_, _, rfl⟩
      rw [hFk] at hCk
      have hC1 := Lib.hid (fun W (hb : Below wr.heap.size wr W) => hCk W (bchain hb hB))
      dsimp only at hC1
      have hgk := hg4.out k hlt
      unfold KCell at hgk
      rw [hxy] at hgk
      have s0 : wr.cell? ⟨b, off + k * 3, none⟩ = some (.int .i64 x) := by rw [hB4.cell (p := ⟨b, _, none⟩) hbw4, hgk.1]
      have s1 : wr.cell? ⟨b, off + k * 3 + 1, none⟩ = some (.int .i64 y) := by rw [hB4.cell (p := ⟨b, _, none⟩) hbw4, hgk.2.1]
      have s2 : wr.cell? ⟨b, off + k * 3 + 2, none⟩ = some (.int .u32 z) := by rw [hB4.cell (p := ⟨b, _, none⟩) hbw4, hgk.2.2]
      have hbz : b < wr.heap.size := by have := hB4.size; omega
      have hcell : Hid (∀ A, Below wr.heap.size wr A → A.cell? ⟨b, off + k * 3, none⟩ = some (.int .i64 x) ∧ A.cell? ⟨b, off + k * 3 + 1, none⟩ = some (.int .i64 y) ∧ A.cell? ⟨b, off + k * 3 + 2, none⟩ = some (.int .u32 z)) := fun A h => ⟨(h.cell (p := ⟨b, _, none⟩) hbz).trans s0, (h.cell (p := ⟨b, _, none⟩) hbz).trans s1, (h.cell (p := ⟨b, _, none⟩) hbz).trans s2⟩
      have hkl : (k : Int) < (n : Int) := by omega
      have hk0 : (0 : Int) ≤ (k : Int) := by omega
      have hBz := hB.size
      obtain ⟨_, x0, x1, x2, x3, _⟩ := id hks
      have hks' := Lib.hid hks
      clear hgk hCk
      go_upto_region 16 with fail
      go_cut [13, 14] from 46 to 70 (fun s13 s14 wx => ∃ D : Nat, s13 = .pointer (some ⟨D, 0, none⟩) ∧ s14 = .int .i64 0 ∧ wr.heap.size ≤ D ∧ D < wx.heap.size ∧ wx.cell? ⟨D, 0, none⟩ = some (.int .i64 F1) ∧ wx.cell? ⟨D, 1, none⟩ = some (.int .i64 F2) ∧ Below wr.heap.size wr wx)
      case first =>
        have hA0 : ∀ (c : Array Value) (t : TypeId) (i : Nat), (wr.drew.alloc (.cells c t)).cell? ⟨wr.heap.size, i, none⟩ = c[i]? := fun c t i => World.cell?_alloc_new wr.drew c t i
        have hF0 : ∀ (c : Array Value) (t : TypeId) (i : Nat), (wr.drew.alloc (.cells c t)).frozen? ⟨wr.heap.size, i, none⟩ = false := fun c t i => by
          have := (show ∀ W : World, (W.alloc (.cells c t)).frozen? ⟨W.heap.size, i, none⟩ = false from fun W => by simp) wr.drew
          exact this
        go_region_held3 (fun A => (A.cell? ⟨w.heap.size, 0, none⟩ = some (.int .i64 X.n) ∧ A.cell? ⟨w.heap.size, 1, none⟩ = some (.int .u32 X.e) ∧ A.cell? ⟨w.heap.size, 2, none⟩ = some (.int .i64 X.s) ∧ A.cell? ⟨w.heap.size, 3, none⟩ = some (.slice a l cap)) ∧ A.cell? ⟨b, off + k * 3, none⟩ = some (.int .i64 x) ∧ A.cell? ⟨b, off + k * 3 + 1, none⟩ = some (.int .i64 y) ∧ A.cell? ⟨b, off + k * 3 + 2, none⟩ = some (.int .u32 z))
          (exact ⟨⟨(hks'.out.below (by (repeat (first | exact Below.refl _ _ | assumption | refine bchain (by assumption) ?_ | refine balloc ?_ _ | apply Below.drew | apply below_drewN | (refine Below.alloc ?_ (by (try simp) <;> omega) _) | (refine Below.setCell ?_ (by (try simp) <;> omega) _))))).c0, (hks'.out.below (by (repeat (first | exact Below.refl _ _ | assumption | refine bchain (by assumption) ?_ | refine balloc ?_ _ | apply Below.drew | apply below_drewN | (refine Below.alloc ?_ (by (try simp) <;> omega) _) | (refine Below.setCell ?_ (by (try simp) <;> omega) _))))).c1, (hks'.out.below (by (repeat (first | exact Below.refl _ _ | assumption | refine bchain (by assumption) ?_ | refine balloc ?_ _ | apply Below.drew | apply below_drewN | (refine Below.alloc ?_ (by (try simp) <;> omega) _) | (refine Below.setCell ?_ (by (try simp) <;> omega) _))))).c2, (hks'.out.below (by (repeat (first | exact Below.refl _ _ | assumption | refine bchain (by assumption) ?_ | refine balloc ?_ _ | apply Below.drew | apply below_drewN | (refine Below.alloc ?_ (by (try simp) <;> omega) _) | (refine Below.setCell ?_ (by (try simp) <;> omega) _))))).c3⟩, hcell.out _ (by (repeat (first | exact Below.refl _ _ | assumption | refine bchain (by assumption) ?_ | refine balloc ?_ _ | apply Below.drew | apply below_drewN | (refine Below.alloc ?_ (by (try simp) <;> omega) _) | (refine Below.setCell ?_ (by (try simp) <;> omega) _))))⟩)
          (first | (go_at_call 19; with_reducible refine (hC1.out _ (by (repeat (first | exact Below.refl _ _ | assumption | refine bchain (by assumption) ?_ | refine balloc ?_ _ | apply Below.drew | apply below_drewN | (refine Below.alloc ?_ (by (try simp) <;> omega) _) | (refine Below.setCell ?_ (by (try simp) <;> omega) _))))).mono ?_; rintro r6 w6 ⟨rfl, hb6⟩; have hk6 := keepAll hb6; have hf6 := keepFz hb6; have hz6 := keepLt hb6; have hs6 := hb6.size; try (simp at hs6); try (rw [Nat.add_one_le_iff] at hs6)))
        all_goals (go_wp2_with fail; go_meet; exact ⟨_, rfl, rfl, by (try simp) <;> omega, by (try simp) <;> omega, by first | (simp; done) | exact (frTwoS (a := .int .i64 0) (b := .int .i64 0) (by simp [*]) (by simp [*]) _ _).1, by first | (simp; done) | exact (frTwoS (a := .int .i64 0) (b := .int .i64 0) (by simp [*]) (by simp [*]) _ _).2, by (repeat (first | exact Below.refl _ _ | assumption | refine bchain (by assumption) ?_ | refine balloc ?_ _ | apply Below.drew | apply below_drewN | (refine Below.alloc ?_ (by (try simp) <;> omega) _) | (refine Below.setCell ?_ (by (try simp) <;> omega) _)))⟩)
      case rest =>
        obtain ⟨D, rfl, rfl, hD0, hD1, g0, g1, hDx⟩ := hcut
        rename World => wx
        have hks2 := hks'.out.below hDx
        have hl52 := hl5.below hDx
        have hfb2 := hfb.below hDx
        have hfc2 := hfc.below hDx
        have hB42 := hB4.trans (hDx.mono hB4.size)
        have hB2 := hB.trans (hDx.mono hBz)
        clear hks hks' hl5 hfb hfc hB4 hB s0 s1 s2 x0 x1 x2 x3 hcell hC1 hxy
        have hlz : w4.heap.size < wx.heap.size := hl52.lt
        by_cases hkz : k = 0
        · subst hkz
          obtain ⟨_, l0, l1, lf⟩ := id hl52
          have l5' := hl52.put F1 F2
          have hks3 := (hks2.other (a := ⟨w4.heap.size, 0, none⟩) (.int .i64 F1) (by show w4.heap.size ≠ w.heap.size; omega)).other (a := ⟨w4.heap.size, 1, none⟩) (.int .i64 F2) (by show w4.heap.size ≠ w.heap.size; omega)
          have hfb3 := (hfb2.other (a := ⟨w4.heap.size, 0, none⟩) (.int .i64 F1) (by show w4.heap.size ≠ w.heap.size + 1; omega)).other (a := ⟨w4.heap.size, 1, none⟩) (.int .i64 F2) (by show w4.heap.size ≠ w.heap.size + 1; omega)
          have hfc3 := (hfc2.other (a := ⟨w4.heap.size, 0, none⟩) (.int .i64 F1) (by show w4.heap.size ≠ w.heap.size + 1 + 1; omega)).other (a := ⟨w4.heap.size, 1, none⟩) (.int .i64 F2) (by show w4.heap.size ≠ w.heap.size + 1 + 1; omega)
          have hB43 := (hB42.setCell (p := ⟨w4.heap.size, 0, none⟩) (by show w4.heap.size ≤ w4.heap.size; omega) (.int .i64 F1)).setCell (p := ⟨w4.heap.size, 1, none⟩) (by show w4.heap.size ≤ w4.heap.size; omega) (.int .i64 F2)
          have hB3 := (hB2.setCell (p := ⟨w4.heap.size, 0, none⟩) (by show w.heap.size ≤ w4.heap.size; omega) (.int .i64 F1)).setCell (p := ⟨w4.heap.size, 1, none⟩) (by show w.heap.size ≤ w4.heap.size; omega) (.int .i64 F2)
          have hb1 : Hid (bst f (0 + 1) = 0) := bst_one f
          clear hks2 hl52 hfb2 hfc2 hB42 hB2 hpq
          go_wp2
          go_roundw
          case rel => exact ⟨0 + 1, by omega, by go_num, by rw [hb1.out], ⟨F1, F2, l5', fun _ => by rw [hb1.out]; exact hFk⟩, hks3, hfb3, hfc3, hB43, hB3⟩
          case measure => simp [intOf]; omega
        · have hpq2 := hpq.out hkz
          have hE := Lib.hid (scmp_any wx (f k) (f (bst f k)) (hVf.out k) (hVf.out (bst f k)))
          rw [hFk, hpq2] at hE
          dsimp only at hE
          obtain ⟨c, hc⟩ : ∃ c, cmpI (F1 * q) (p * F2) = c := ⟨_, rfl⟩
          have hcl : Hid (c < 0 ↔ lt2 (f k) (f (bst f k)) = true) := by
            show _ ↔ _
            rw [← hc, cmpI_neg, hFk, hpq2]
            unfold lt2
            simp
          rw [hc] at hE
          have dk : ((k : Int) == 0) = false := by simp; omega
          obtain ⟨_, l0, l1, lf⟩ := id hl52
          clear hc
          by_cases hlt2 : c < 0
          · have hbk := Lib.hid (bst_t hkz (hcl.out.1 hlt2))
            have hdc := decide_eq_true hlt2
            clear hcl hlt2 hpq hpq2
            go_wp2_with fail
            refine hE.out.mono ?_
            rintro r7 w7 ⟨rfl, hb7⟩
            have hl57 := hl52.below hb7
            have g0' := (hb7.cell (p := ⟨D, _, none⟩) hD1).trans g0
            have g1' := (hb7.cell (p := ⟨D, _, none⟩) hD1).trans g1
            have l5' := hl57.put F1 F2
            have hks3 := ((hks2.below hb7).other (a := ⟨w4.heap.size, 0, none⟩) (.int .i64 F1) (by show w4.heap.size ≠ w.heap.size; omega)).other (a := ⟨w4.heap.size, 1, none⟩) (.int .i64 F2) (by show w4.heap.size ≠ w.heap.size; omega)
            have hfb3 := ((hfb2.below hb7).other (a := ⟨w4.heap.size, 0, none⟩) (.int .i64 F1) (by show w4.heap.size ≠ w.heap.size + 1; omega)).other (a := ⟨w4.heap.size, 1, none⟩) (.int .i64 F2) (by show w4.heap.size ≠ w.heap.size + 1; omega)
            have hfc3 := ((hfc2.below hb7).other (a := ⟨w4.heap.size, 0, none⟩) (.int .i64 F1) (by show w4.heap.size ≠ w.heap.size + 1 + 1; omega)).other (a := ⟨w4.heap.size, 1, none⟩) (.int .i64 F2) (by show w4.heap.size ≠ w.heap.size + 1 + 1; omega)
            have hB43 := ((bchain hb7 hB42).setCell (p := ⟨w4.heap.size, 0, none⟩) (by show w4.heap.size ≤ w4.heap.size; omega) (.int .i64 F1)).setCell (p := ⟨w4.heap.size, 1, none⟩) (by show w4.heap.size ≤ w4.heap.size; omega) (.int .i64 F2)
            have hB3 := ((bchain hb7 hB2).setCell (p := ⟨w4.heap.size, 0, none⟩) (by show w.heap.size ≤ w4.heap.size; omega) (.int .i64 F1)).setCell (p := ⟨w4.heap.size, 1, none⟩) (by show w.heap.size ≤ w4.heap.size; omega) (.int .i64 F2)
            clear l0 l1 lf g0 g1 hks2 hl52 hfb2 hfc2 hB42 hB2 hb7
            obtain ⟨_, l0, l1, lf⟩ := id hl57
            clear hl57
            go_wp2
            go_roundw
            case rel => exact ⟨k + 1, by omega, by go_num, by rw [hbk.out], ⟨F1, F2, l5', fun _ => by rw [hbk.out]; exact hFk⟩, hks3, hfb3, hfc3, hB43, hB3⟩
            case measure => simp [intOf]; omega
          · have hbk := Lib.hid (bst_f (f := f) (i := k) (by rw [Bool.eq_false_iff]; exact fun h => hlt2 (hcl.out.2 h)))
            have hdc := decide_eq_false hlt2
            clear hcl hlt2 hpq
            replace hpq2 := Lib.hid hpq2
            go_wp2_with fail
            refine hE.out.mono ?_
            rintro r7 w7 ⟨rfl, hb7⟩
            go_wp2
            go_roundw
            case rel => exact ⟨k + 1, by omega, by go_num, by rw [hbk.out], ⟨p, q, hl52.below hb7, fun _ => by rw [hbk.out]; exact hpq2.out⟩, hks2.below hb7, hfb2.below hb7, hfc2.below hb7, bchain hb7 hB42, bchain hb7 hB2⟩
            case measure => simp [intOf]; omega
    · obtain rfl : k = n := by omega
      have hd := decide_eq_false (show ¬ ((k : Int) < (k : Int)) by omega)
      obtain ⟨rfl, rfl⟩ : p = P ∧ q = Q := by
        have h1 := hpq.out (by omega)
        rw [hfin.out] at h1
        injection h1 with h1 h2
        exact ⟨h1.symm, h2.symm⟩
      have hgk := hg4.out (bst f k) hbl.out
      unfold KCell at hgk
      rw [ha] at hgk
      have hbz : b < wr.heap.size := by have := hB4.size; omega
      have hjl : ((bst f k : Nat) : Int) < (k : Int) := by have := hbl.out; omega
      obtain ⟨j, hj⟩ : ∃ j, bst f k = j := ⟨_, rfl⟩
      rw [hj] at hgk hjl ⊢
      have hj0 : (0 : Int) ≤ (j : Int) := by omega
      have hbo2 := hbo.out
      have hM := Lib.hid (show LM wr w4.heap.size b (off + j * 3) (w.heap.size + 1) (w.heap.size + 1 + 1) p q a1 a2 a3 from ⟨hl5, (hB4.cell (p := ⟨b, _, none⟩) hbw4).trans hgk.1, (hB4.cell (p := ⟨b, off + j * 3 + 1, none⟩) hbw4).trans hgk.2.1, (hB4.cell (p := ⟨b, off + j * 3 + 2, none⟩) hbw4).trans hgk.2.2, ⟨0, 0, hfb⟩, ⟨0, 0, 0, hfc⟩, by omega⟩)
      have hkb := Lib.hid hB
      clear hpq hfin hCo hVf hbl hgk hks hfb hfc hl5 hg4 hj ha hB4 hB
      go_upto_region 20 with fail
      go_cut [6] (fun s6 wx => s6 = .int .i64 0 ∧ FrB wx (w.heap.size + 1) p q ∧ FC wx (w.heap.size + 1 + 1) a1 a2 a3 ∧ Below w.heap.size w wx)
      case first =>
        have hM' := Lib.hid hM.out.drew
        obtain ⟨q0, q1, q2, q3, q4, q5, q6, q7, q8, q9, q10, q11, q12, q13, q14⟩ := hM.out.all
        go_region_held3 (fun A => A.cell? ⟨w4.heap.size, 0, none⟩ = some (.int .i64 p) ∧ A.cell? ⟨w4.heap.size, 1, none⟩ = some (.int .i64 q) ∧
            A.cell? ⟨b, off + j * 3, none⟩ = some (.int .i64 a1) ∧ A.cell? ⟨b, off + j * 3 + 1, none⟩ = some (.int .i64 a2) ∧ A.cell? ⟨b, off + j * 3 + 2, none⟩ = some (.int .u32 a3) ∧
            A.cell? ⟨w.heap.size + 1, 0, none⟩ = some (cellOf A ⟨w.heap.size + 1, 0, none⟩) ∧ A.cell? ⟨w.heap.size + 1, 1, none⟩ = some (cellOf A ⟨w.heap.size + 1, 1, none⟩) ∧ A.frozen? ⟨w.heap.size + 1, 0, none⟩ = false ∧ A.frozen? ⟨w.heap.size + 1, 1, none⟩ = false ∧
            A.cell? ⟨w.heap.size + 1 + 1, 0, none⟩ = some (cellOf A ⟨w.heap.size + 1 + 1, 0, none⟩) ∧ A.cell? ⟨w.heap.size + 1 + 1, 1, none⟩ = some (cellOf A ⟨w.heap.size + 1 + 1, 1, none⟩) ∧ A.cell? ⟨w.heap.size + 1 + 1, 2, none⟩ = some (cellOf A ⟨w.heap.size + 1 + 1, 2, none⟩) ∧ A.frozen? ⟨w.heap.size + 1 + 1, 0, none⟩ = false ∧ A.frozen? ⟨w.heap.size + 1 + 1, 1, none⟩ = false ∧ A.frozen? ⟨w.heap.size + 1 + 1, 2, none⟩ = false)
          (first
          | with_reducible exact hM'.out.all
          | with_reducible exact (hM.out.put1 _ _).drew.all
          | with_reducible exact ((hM.out.put1 _ _).put2 _ _ _).drew.all)
          (fail)
        all_goals (go_wp2_with fail; go_meet)
        all_goals exact ⟨rfl, (hM.out.fin12 _ _ _ _ _).1.drew1, (hM.out.fin12 _ _ _ _ _).2.fc.drew1, (((((hkb.out.setCell (p := ⟨w.heap.size + 1, 0, none⟩) (by show w.heap.size ≤ w.heap.size + 1; omega) _).setCell (p := ⟨w.heap.size + 1, 1, none⟩) (by show w.heap.size ≤ w.heap.size + 1; omega) _).setCell (p := ⟨w.heap.size + 1 + 1, 0, none⟩) (by show w.heap.size ≤ w.heap.size + 1 + 1; omega) _).setCell (p := ⟨w.heap.size + 1 + 1, 1, none⟩) (by show w.heap.size ≤ w.heap.size + 1 + 1; omega) _).setCell (p := ⟨w.heap.size + 1 + 1, 2, none⟩) (by show w.heap.size ≤ w.heap.size + 1 + 1; omega) _).drew⟩
      case rest =>
        obtain ⟨rfl, hF, hZ, hbw⟩ := hcut
        obtain ⟨_, hF0, hF1, _⟩ := hF
        obtain ⟨_, hK0, hK1, hK2⟩ := hZ
        go_wp2
        exact bodyPost_ret (v := .tuple #[.agg #[.int .i64 p, .int .i64 q], .agg #[.int .i64 a1, .int .i64 a2, .int .u32 a3], .int .i64 0]) (by simp [results, Try.results6, go_sem, hF0, hF1, hK0, hK1, hK2]) rfl ⟨rfl, hbw⟩
end
end Go.Proofs.Ytfnjgdocmfmfgab
/-
  LeastValue: both sides answer alike.
-/
namespace Go.Proofs.Ytfnjgdocmfmfgab
open Go.RowKit
set_option maxRecDepth 100000
theorem lv_both (X : SM) (hbd : BdS X) (gs : List (Int × Int)) (hm : gs.length ≤ 1048576) (hbg : Bd gs) : ∃ P Q k n e c : Int,
    (∀ W u v, SlT W u X.ts → SlG W v gs → Calls Try.prog 6 #[.agg #[.int .i64 X.n, .int .u32 X.e, .int .i64 X.s, u], v] W (RetL W P Q k n e c)) ∧
    (∀ W u v, SlT W u X.ts → SlG W v gs → Calls Try.prog 9 #[.agg #[.int .i64 X.n, .int .u32 X.e, .int .i64 X.s, u], v] W (RetL W P Q k n e c)) := by
  by_cases hv : VSum X
  · obtain ⟨L, c, q, h64, hEl, hqc, hF, hAs, hAi⟩ := lv_all X hv hbd gs hm hbg
    by_cases hq : q = 0
    · subst hq
      by_cases hc : c = 0
      · subst hc
        by_cases hL : L.length = 0
        · obtain rfl : L = [] := List.length_eq_zero_iff.1 hL
          refine ⟨0, 0, 0, 0, 0, 6, fun W u v h hG => ?_, fun W u v h hG => ?_⟩
          · obtain ⟨a, cap, rfl, hl⟩ := id hG.lies
            exact slv_nil W X u _ h hbd hv (fun W' hb => hF W' a cap (hl.below hb)) (fun W' hb => hAs W' _ (hG.below hb))
          · exact ilv_nil W X u v h hbd hv (fun W' hb => hAi W' v (hG.below hb))
        · obtain ⟨a1, a2, a3, ha⟩ : ∃ a1 a2 a3, kAt L (bst (vaL X L) L.length) = (a1, a2, a3) := ⟨_, _, _, rfl⟩
          obtain ⟨P, Q, hPQ⟩ : ∃ P Q, coF X.ts a1 a2 a3 = (P, Q) := ⟨_, _, rfl⟩
          refine ⟨P, Q, a1, a2, a3, 0, fun W u v h hG => ?_, fun W u v h hG => ?_⟩
          · obtain ⟨a, cap, rfl, hl⟩ := id hG.lies
            exact slv_ok W X u _ h hbd hv L (by omega) h64 hEl (fun W' hb => hF W' a cap (hl.below hb)) (fun W' hb => hAs W' _ (hG.below hb)) a1 a2 a3 P Q ha hPQ
          · exact ilv_ok W X u v h hbd hv L (by omega) h64 (fun W' hb => hAi W' v (hG.below hb)) a1 a2 a3 P Q ha hPQ
      · refine ⟨0, 0, 0, 0, 0, c, fun W u v h hG => ?_, fun W u v h hG => ?_⟩
        · obtain ⟨a, cap, rfl, hl⟩ := id hG.lies
          exact slv_code W X u _ h hbd hv c hc L (fun W' hb => hF W' a cap (hl.below hb)) (fun W' hb => hAs W' _ (hG.below hb))
        · exact ilv_code W X u v h hbd hv c hc L (fun W' hb => hAi W' v (hG.below hb))
    · obtain rfl := hqc hq
      refine ⟨0, 0, 0, 0, 0, c, fun W u v h hG => ?_, fun W u v h hG => ?_⟩
      · obtain ⟨a, cap, rfl, hl⟩ := id hG.lies
        exact slv_forb W X u _ h hbd hv c hq (fun W' hb => hF W' a cap (hl.below hb))
      · exact ilv_code W X u v h hbd hv c hq L (fun W' hb => hAi W' v (hG.below hb))
  · exact ⟨0, 0, 0, 0, 0, 1, fun W u v h _ => slv_sum W X u v h hbd hv, fun W u v h _ => ilv_sum W X u v h hbd hv⟩
end Go.Proofs.Ytfnjgdocmfmfgab
