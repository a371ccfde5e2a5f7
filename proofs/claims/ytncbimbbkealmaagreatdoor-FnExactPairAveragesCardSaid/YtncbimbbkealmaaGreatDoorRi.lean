/-
  A REGION THAT DRAWS ITS ORDER, BY AN INVARIANT: 'I f a w' says what holds when the operations with f have come up, in whatever order. Each operation is walked once.
-/
import Derived.RegionTactic
import Derived.Deep.RegionWith
import Derived.KernelRfl
namespace Go.Proofs.YtncbimbbkealmaaGreatDoor
section
variable {P : Program} {ops : Array Oper} {Q : Exit → Act → World → Prop} {md : Region.Mode}
/-- each operation waits for earlier ones alone -/
def acyc (md : Region.Mode) (ops : Array Oper) : Bool := (List.range ops.size).all fun i => ((ops[i]?).map fun o => o.after.all fun e => !Region.binds md e || decide (e.on < i)).getD true
theorem acyc_spec (h : acyc md ops = true) {i : Nat} {o : Oper} (ho : ops[i]? = some o) {e : Edge} (he : e ∈ o.after) (hb : Region.binds md e = true) : e.on < i := by
  unfold acyc at h
  rw [List.all_eq_true] at h
  have hlt : i < ops.size := (Array.getElem?_eq_some_iff.1 ho).1
  have := h i (List.mem_range.2 hlt)
  rw [ho] at this
  simp only [Option.map_some, Option.getD_some] at this
  rw [Array.all_eq_true_iff_forall_mem] at this
  have h2 := this e he
  simp [hb] at h2
  exact h2
def fl (listed : Array Bool) (i : Nat) : Bool := listed.getD i false
def setf (f : Nat → Bool) (i k : Nat) : Bool := if k = i then true else f k
theorem fl_true {listed : Array Bool} {i : Nat} (h : i < listed.size) : listed.getD i true = fl listed i := by
  unfold fl
  simp [Array.getD_eq_getD_getElem?, Array.getElem?_eq_getElem h]
theorem fl_set {listed : Array Bool} {i : Nat} (hi : i < listed.size) : fl (listed.setIfInBounds i true) = setf (fl listed) i := by
  funext k
  unfold fl setf
  by_cases h : k = i
  · subst h; simp [hi]
  · rw [if_neg h]
    simp only [Array.getD_eq_getD_getElem?]
    rw [Array.getElem?_setIfInBounds_ne (Ne.symm h)]
theorem wpAny_inv (I : (Nat → Bool) → Act → World → Prop) (ha : acyc md ops = true)
    (hstep : ∀ i o f a w, ops[i]? = some o → f i = false → (∀ e ∈ o.after, Region.binds md e = true → f e.on = true) → I f a w → wpOp P ops Q i (fun a' w' => I (setf f i) a' w') a w)
    (hend : ∀ f a w, (∀ i, i < ops.size → f i = true) → I f a w → Q .normal a w) :
    ∀ (fuel : Nat) (listed : Array Bool) (a : Act) (w : World), listed.size = ops.size → ((List.range ops.size).filter fun i => !fl listed i).length ≤ fuel → I (fl listed) a w → wpAny P md ops Q fuel listed a w := by
  have hall : ∀ listed : Array Bool, listed.size = ops.size → Region.ready md ops listed = [] → ∀ i, i < ops.size → fl listed i = true := by
    intro listed hs hr i
    induction i using Nat.strongRecOn with
    | ind i ih =>
      intro hi
      cases hc : fl listed i with
      | true => rfl
      | false =>
        exfalso
        have ho : ops[i]? = some ops[i] := Array.getElem?_eq_getElem hi
        have hm : i ∈ Region.ready md ops listed := mem_ready.2 ⟨(fl_true (by omega)).trans hc, _, ho, fun e he hb => by
          have h1 := acyc_spec ha ho he hb
          have := ih e.on h1 (by omega)
          unfold fl at this
          exact this⟩
        rw [hr] at hm
        cases hm
  intro fuel
  induction fuel with
  | zero =>
    intro listed a w hs hc hI
    have hz : (List.range ops.size).filter (fun i => !fl listed i) = [] := List.eq_nil_of_length_eq_zero (by omega)
    have hr : Region.ready md ops listed = [] := by
      cases hre : Region.ready md ops listed with
      | nil => rfl
      | cons x xs =>
        exfalso
        have hm : x ∈ Region.ready md ops listed := by rw [hre]; simp
        obtain ⟨h0, o, ho, _⟩ := mem_ready.1 hm
        have hlt : x < ops.size := (Array.getElem?_eq_some_iff.1 ho).1
        have : x ∈ (List.range ops.size).filter (fun i => !fl listed i) := by
          rw [List.mem_filter, List.mem_range]
          refine ⟨hlt, ?_⟩
          rw [← fl_true (by omega), h0]
          rfl
        rw [hz] at this
        cases this
    exact ⟨hr, hend _ _ _ (hall listed hs hr) hI⟩
  | succ fuel ih =>
    intro listed a w hs hc hI
    refine ⟨fun hr => hend _ _ _ (hall listed hs hr) hI, fun i hi => ?_⟩
    obtain ⟨h0, o, ho, hdep⟩ := mem_ready.1 hi
    have hlt : i < ops.size := (Array.getElem?_eq_some_iff.1 ho).1
    have hf0 : fl listed i = false := (fl_true (by omega)).symm.trans h0
    refine wpOp_mono (fun a' w' h => ih _ a' w' (by simpa using hs) ?_ (by rw [fl_set (by omega)]; exact h)) (hstep i o (fl listed) a w ho hf0 (fun e he hb => by unfold fl; exact hdep e he hb) hI)
    rw [fl_set (by omega)]
    have hmem : i ∈ (List.range ops.size).filter (fun k => !fl listed k) := by
      rw [List.mem_filter, List.mem_range]
      exact ⟨hlt, by simp [hf0]⟩
    have hsub : (List.range ops.size).filter (fun k => !setf (fl listed) i k) = ((List.range ops.size).filter (fun k => !fl listed k)).filter (fun k => k != i) := by
      rw [List.filter_filter]
      apply List.filter_congr
      intro k _
      unfold setf
      by_cases h : k = i
      · simp [h]
      · simp [h]
    rw [hsub]
    have hlen : (((List.range ops.size).filter (fun k => !fl listed k)).filter (fun k => k != i)).length < ((List.range ops.size).filter (fun k => !fl listed k)).length := by
      rcases Nat.lt_or_ge (((List.range ops.size).filter (fun k => !fl listed k)).filter (fun k => k != i)).length ((List.range ops.size).filter (fun k => !fl listed k)).length with h | h
      · exact h
      · exfalso
        have h2 := List.length_filter_le (fun k => k != i) ((List.range ops.size).filter (fun k => !fl listed k))
        have h3 := List.length_filter_eq_length_iff.1 (Nat.le_antisymm h2 h) i hmem
        simp at h3
    omega
theorem wp_region_inv (I : (Nat → Bool) → Act → World → Prop) {id : Nat} {a : Act} {w : World} (hm : P.follows .mixedOrders = true) (ha : acyc .any ops = true) (h0 : I (fun _ => false) a w.drew)
    (hstep : ∀ i o f a w, ops[i]? = some o → f i = false → (∀ e ∈ o.after, Region.binds .any e = true → f e.on = true) → I f a w → wpOp P ops Q i (fun a' w' => I (setf f i) a' w') a w)
    (hend : ∀ f a w, (∀ i, i < ops.size → f i = true) → I f a w → Q .normal a w) : (Code.region id ops true).wp P Q a w := by
  refine wp_region_any hm (wpAny_inv I ha hstep hend _ _ _ _ (by simp) ?_ ?_)
  · exact Nat.le_trans (List.length_filter_le _ _) (by simp)
  · have : fl (Array.replicate ops.size false) = fun _ => false := by
      funext k
      unfold fl
      simp only [Array.getD_eq_getD_getElem?, Array.getElem?_replicate]
      split <;> rfl
    rw [this]
    exact h0
end
end Go.Proofs.YtncbimbbkealmaaGreatDoor
