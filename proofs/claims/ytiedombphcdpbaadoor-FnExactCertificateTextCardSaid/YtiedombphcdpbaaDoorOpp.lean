/-
  CONTRACT OF OppositeGraph, the program's (a loop over the iterator of pairs) and the model's; the plain fact that both are one.
-/
import Derived.Test.YtiedombphcdpbaaDoorPairs
import Derived.Test.YtiedombphcdpbaaDoorMade
namespace Go.Proofs.YtiedombphcdpbaaDoor
open Go.RowKit Go.Shelf
set_option maxRecDepth 100000
attribute [local go_sem] Oper.semAt_some

/-- the bits of some pairs -/
def foldE (ps : List (Nat × Nat)) : Nat := ps.foldl (fun acc p => acc ||| pb p.1 p.2) 0
theorem foldE_snoc (ps : List (Nat × Nat)) (p : Nat × Nat) : foldE (ps ++ [p]) = foldE ps ||| pb p.1 p.2 := by simp [foldE]
theorem foldE_lt {n : Nat} (hn : n ≤ 5) (xs : List (Pr n)) : foldE (vals xs) < 2 ^ 10 := by
  have : ∀ (ys : List (Pr n)) (a : Nat), a < 2 ^ 10 → (vals ys).foldl (fun acc p => acc ||| pb p.1 p.2) a < 2 ^ 10 := by
    intro ys
    induction ys with
    | nil => intro a h; exact h
    | cons y ys ih => intro a h; exact ih _ (Nat.or_lt_two_pow h (pb_lt y.1.1 y.1.2 y.2.1 (by have := y.2.2; omega)))
  exact this xs 0 (by omega)
/-- the bits of the opposite graph -/
def oppE (n e : Nat) : Nat := foldE ((prs n).filter fun p => !jn e p.1 p.2)
theorem oppE_eq : ∀ n, n ≤ 5 → ∀ e, e < eMax n → oppE n e = (eMax n - 1) ^^^ e := by decide +kernel

section
variable (w : World)
/-- the iterator, made: its two boxes -/
def PtMade (w w' : World) (n e : Int) (A : Nat) : Prop := Below w.heap.size w w' ∧ w.heap.size + 2 ≤ w'.heap.size ∧ w'.cell? ⟨w.heap.size, 0, none⟩ = some (.int .i64 n) ∧ w'.cell? ⟨w.heap.size, 1, none⟩ = some (.int .u32 e) ∧ w'.cell? ⟨w.heap.size + 1, 0, none⟩ = some (.func (.func A) #[] #[])
theorem pt_any (n e : Int) (A : Nat) :
    Calls Tryd.prog 119 #[.agg #[.int .i64 n, .int .u32 e], .func (.func A) #[] #[]] w fun r w' => r = .returned (.func (.func 145) #[] #[.pointer (some ⟨w.heap.size, 0, none⟩), .pointer (some ⟨w.heap.size + 1, 0, none⟩)]) ∧ PtMade w w' n e A := by
  go_enter Tryd.func119, Tryd.ntmps119
  go_wp2
  go_ret
  refine ⟨rfl, by (repeat (first | exact Below.refl _ _ | assumption | refine bchain (by assumption) ?_ | refine balloc ?_ _ | apply Below.drew | apply below_drewN | (refine Below.alloc ?_ (by (try simp) <;> omega) _) | (refine Below.setCell ?_ (by (try simp) <;> omega) _))), by simp, ?_, ?_, ?_⟩
  · rw [cOld _ _ _ _ (by simp), cNew _ _ _ _ _ rfl]; rfl
  · rw [cOld _ _ _ _ (by simp), cNew _ _ _ _ _ rfl]; rfl
  · rw [cNew _ _ _ _ _ (by simp)]; rfl

end
end Go.Proofs.YtiedombphcdpbaaDoor
