/-
  A REGION THAT DRAWS ITS ORDER, IN A ROUND OF A LOOP OVER A FUNCTION, BY AN INVARIANT: as XRi; the steps are said without a fence. Over any program; for regions that defer nothing.
-/
import Derived.Test.YtncbimbbkealmaaGreatDoorRi
import Derived.OrdersIn
import Derived.TacticsIn
import Derived.TacticsInMore
import Derived.RangeFuncNested
namespace Go.Proofs.YtncbimbbkealmaaGreatDoor
def nodB (l : List Oper) : Bool := l.all fun o => match o.op with | .defer _ => false | _ => true
theorem nodB_spec {l : List Oper} (h : nodB l = true) {o : Oper} (ho : o ∈ l) : ∀ c, o.op ≠ .defer c := by
  intro c hc
  have := List.all_eq_true.1 h o ho
  rw [hc] at this
  cases this
section
variable {P : Program} {ops : Array Oper} {Q : Exit → Act → World → Prop} {md : Region.Mode}
/-- one operation, without a fence -/
def wpOpS (P : Program) (ops : Array Oper) (Q : Exit → Act → World → Prop) (i : Nat) (K : Act → World → Prop) (a : Act) (w : World) : Prop :=
  match ops[i]? with
  | none => K a w
  | some o => if Region.wanted o (yielded ops a.tmps) then o.wp P a w K Q else K (a.put o.dst undef) w
theorem wpOpS_step {i : Nat} {o : Oper} {K : Act → World → Prop} {a : Act} {w : World} (ho : ops[i]? = some o)
    (h : ∀ K' : Act → World → Prop, (∀ a w, K a w → K' a w) → if Region.wanted o (yielded ops a.tmps) = true then Oper.wp P o a w K' Q else K' (a.put o.dst undef) w) : wpOpS P ops Q i K a w := by
  unfold wpOpS
  rw [ho]
  exact h K (fun _ _ h => h)
theorem wpInR_of_wp {l n : Nat} {o : Oper} {a : Act} {w : World} {K : Act → World → Prop} (hd : ∀ c, o.op ≠ .defer c) (h : o.wp P a w K Q) : o.wpIn (Fence.wide.inRound l) n P a w K Q := by
  refine ⟨fun _ _ => trivial, ?_⟩
  rw [show (Fence.wide.inRound l).round = some l from rfl, Oper.semAt_some l _ _ hd]
  unfold Oper.wp at h
  generalize (execOp a.eval o).run P w = r at h ⊢
  cases r with
  | ok x w' =>
    cases x <;> simp only [Oper.upon] at h <;> simp only [Oper.uponIn]
    case enter f args => exact ⟨fun c => (by cases c), CallsIn.inRound l (callsIn_wide.2 h)⟩
    case row row args => exact ⟨fun c => (by cases c), fun c cs _ => let ⟨v, w', hr, s⟩ := h c cs; ⟨v, w', hr, stepsIn_wide.2 s⟩⟩
    all_goals exact h
  | halt x w' => cases x <;> simp only [Oper.upon] at h <;> simp only [Oper.uponIn] <;> exact h
theorem wpOpInR_of_S {l n i : Nat} {a : Act} {w : World} {K : Act → World → Prop} (hd : ∀ o, ops[i]? = some o → ∀ c, o.op ≠ .defer c) (h : wpOpS P ops Q i K a w) : wpOpIn (Fence.wide.inRound l) n P ops Q i K a w := by
  unfold wpOpS at h
  unfold wpOpIn
  split
  · rename_i ho; simp only [ho] at h; exact h
  · rename_i o ho
    simp only [ho] at h
    split
    · rename_i hw; simp only [hw, if_true] at h; exact wpInR_of_wp (hd o ho) h
    · rename_i hw; simp only [hw] at h; exact ⟨fun _ _ => trivial, h⟩
theorem wpOpS_mono {i : Nat} {a : Act} {w : World} {K K' : Act → World → Prop} (h : ∀ a w, K a w → K' a w) (hh : wpOpS P ops Q i K a w) : wpOpS P ops Q i K' a w := by
  unfold wpOpS at *
  split
  · rename_i ho; simp only [ho] at hh; exact h _ _ hh
  · rename_i o ho
    simp only [ho] at hh
    split
    · rename_i hw; simp only [hw, if_true] at hh; exact Oper.wp_mono h hh
    · rename_i hw; simp only [hw] at hh; exact h _ _ hh
theorem wpAnyIn_inv {l n : Nat} (I : (Nat → Bool) → Act → World → Prop) (ha : acyc md ops = true) (hd : nodB ops.toList = true)
    (hstep : ∀ i o f a w, ops[i]? = some o → f i = false → (∀ e ∈ o.after, Region.binds md e = true → f e.on = true) → I f a w → wpOpS P ops Q i (fun a' w' => I (setf f i) a' w') a w)
    (hend : ∀ f a w, (∀ i, i < ops.size → f i = true) → I f a w → Q .normal a w) :
    ∀ (fuel : Nat) (listed : Array Bool) (a : Act) (w : World), listed.size = ops.size → ((List.range ops.size).filter fun i => !fl listed i).length ≤ fuel → I (fl listed) a w → wpAnyIn (Fence.wide.inRound l) n P md ops Q fuel listed a w := by
  have hall : ∀ listed : Array Bool, listed.size = ops.size → Region.ready md ops listed = [] → ∀ i, i < ops.size → fl listed i = true := by
    intro listed hs hr i
    induction i using Nat.strongRecOn with
    | ind i ih =>
      intro hi
      cases hc : fl listed i with
      | true => rfl
      | false =>
        exfalso
        have ho : ops[i]? = some ops[i] := Array.getElem?_eq_getElem hi
        have hm : i ∈ Region.ready md ops listed := mem_ready.2 ⟨(fl_true (by omega)).trans hc, _, ho, fun e he hb => by
          have h1 := acyc_spec ha ho he hb
          have := ih e.on h1 (by omega)
          unfold fl at this
          exact this⟩
        rw [hr] at hm
        cases hm
  intro fuel
  induction fuel with
  | zero =>
    intro listed a w hs hc hI
    have hz : (List.range ops.size).filter (fun i => !fl listed i) = [] := List.eq_nil_of_length_eq_zero (by omega)
    have hr : Region.ready md ops listed = [] := by
      cases hre : Region.ready md ops listed with
      | nil => rfl
      | cons x xs =>
        exfalso
        have hm : x ∈ Region.ready md ops listed := by rw [hre]; simp
        obtain ⟨h0, o, ho, _⟩ := mem_ready.1 hm
        have hlt : x < ops.size := (Array.getElem?_eq_some_iff.1 ho).1
        have : x ∈ (List.range ops.size).filter (fun i => !fl listed i) := by
          rw [List.mem_filter, List.mem_range]
          refine ⟨hlt, ?_⟩
          rw [← fl_true (by omega), h0]
          rfl
        rw [hz] at this
        cases this
    exact ⟨hr, hend _ _ _ (hall listed hs hr) hI⟩
  | succ fuel ih =>
    intro listed a w hs hc hI
    refine ⟨fun hr => hend _ _ _ (hall listed hs hr) hI, fun i hi => ?_⟩
    obtain ⟨h0, o, ho, hdep⟩ := mem_ready.1 hi
    have hlt : i < ops.size := (Array.getElem?_eq_some_iff.1 ho).1
    have hf0 : fl listed i = false := (fl_true (by omega)).symm.trans h0
    have hnd : ∀ o, ops[i]? = some o → ∀ c, o.op ≠ .defer c := fun o ho => nodB_spec hd (by
      have h2 : ops.toList[i]? = some o := by simpa using ho
      exact List.mem_of_getElem? h2)
    refine wpOpInR_of_S hnd (wpOpS_mono (fun a' w' h => ih _ a' w' (by simpa using hs) ?_ (by rw [fl_set (by omega)]; exact h)) (hstep i o (fl listed) a w ho hf0 (fun e he hb => by unfold fl; exact hdep e he hb) hI))
    rw [fl_set (by omega)]
    have hmem : i ∈ (List.range ops.size).filter (fun k => !fl listed k) := by
      rw [List.mem_filter, List.mem_range]
      exact ⟨hlt, by simp [hf0]⟩
    have hsub : (List.range ops.size).filter (fun k => !setf (fl listed) i k) = ((List.range ops.size).filter (fun k => !fl listed k)).filter (fun k => k != i) := by
      rw [List.filter_filter]
      apply List.filter_congr
      intro k _
      unfold setf
      by_cases h : k = i
      · simp [h]
      · simp [h]
    rw [hsub]
    have hlen : (((List.range ops.size).filter (fun k => !fl listed k)).filter (fun k => k != i)).length < ((List.range ops.size).filter (fun k => !fl listed k)).length := by
      rcases Nat.lt_or_ge (((List.range ops.size).filter (fun k => !fl listed k)).filter (fun k => k != i)).length ((List.range ops.size).filter (fun k => !fl listed k)).length with h | h
      · exact h
      · exfalso
        have h2 := List.length_filter_le (fun k => k != i) ((List.range ops.size).filter (fun k => !fl listed k))
        have h3 := List.length_filter_eq_length_iff.1 (Nat.le_antisymm h2 h) i hmem
        simp at h3
    omega
theorem wpInR_region_inv {l n : Nat} (I : (Nat → Bool) → Act → World → Prop) {id : Nat} {a : Act} {w : World} (hm : P.follows .mixedOrders = true) (ha : acyc .any ops = true) (hd : nodB ops.toList = true) (h0 : I (fun _ => false) a w.drew)
    (hstep : ∀ i o f a w, ops[i]? = some o → f i = false → (∀ e ∈ o.after, Region.binds .any e = true → f e.on = true) → I f a w → wpOpS P ops Q i (fun a' w' => I (setf f i) a' w') a w)
    (hend : ∀ f a w, (∀ i, i < ops.size → f i = true) → I f a w → Q .normal a w) : (Code.region id ops true).wpIn (Fence.wide.inRound l) n P Q a w := by
  refine wpIn_region_any hm (wpAnyIn_inv I ha hd hstep hend _ _ _ _ (by simp) ?_ ?_)
  · exact Nat.le_trans (List.length_filter_le _ _) (by simp)
  · have : fl (Array.replicate ops.size false) = fun _ => false := by
      funext k
      unfold fl
      simp only [Array.getD_eq_getD_getElem?, Array.getElem?_replicate]
      split <;> rfl
    rw [this]
    exact h0
end
end Go.Proofs.YtncbimbbkealmaaGreatDoor
