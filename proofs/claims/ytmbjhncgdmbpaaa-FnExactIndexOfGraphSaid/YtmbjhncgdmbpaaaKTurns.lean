/-
  A FLAG WITH ITS UNLABELLED VERTICES IN EVERY ORDER: what the program's iterator yields.
-/
import Derived.Test.YtmbjhncgdmbpaaaKTurn1
namespace Go.Proofs.Ytmbjhncgdmbpaaa
open Go.RowKit Go.Shelf
set_option maxRecDepth 100000
attribute [local go_sem] Oper.semAt_some

/-- what the iterator tells of its value -/
def SeeK (k n e : Nat) (x : List Nat) (v : Value) (_ : World) : Prop := v = .agg #[.int .i64 k, .int .i64 n, .int .u32 (onL e x : Nat)]
theorem SeeK.below (k n e : Nat) (x : List Nat) (v : Value) (A A' : World) (h : SeeK k n e x v A) (_ : Below A.heap.size A A') : SeeK k n e x v A' := h
theorem SeeK.cellular (k n e : Nat) (x : List Nat) (v : Value) : Cellular (SeeK k n e x v) := fun _ _ _ _ h _ _ => h
theorem yield_mono {F : Fence} {m : Nat} {P : Program} {l : Nat} {args : Array Value} {W : World} {R R' : Ending → World → Prop} (h : YieldAt F m P l args W R) (hR : ∀ e w, R e w → R' e w) : YieldAt F m P l args W R' := by
  obtain ⟨fn, tmps, assign, body, hy, hr⟩ := h
  exact ⟨fn, tmps, assign, body, hy, hr.mono hR⟩
theorem VK.nums {k n e : Nat} (h : VK k n e) : e < 1024 ∧ n ≤ 5 ∧ k ≤ 3 ∧ k ≤ n := by
  have h1 := h.1.2.2.2
  have h2 := eMax_le n
  have h3 := h.1.2.1
  have h4 := h.2.2.1
  have h5 := h.2.2.2
  simp at h1
  omega

end Go.Proofs.Ytmbjhncgdmbpaaa
