/-
  CONTRACT OF DegreesOf, the program's and the model's; the plain fact that both count the same.
-/
import Derived.Test.YtiedombphcdpbaaDoorOpp
import Derived.Test.YtiedombphcdpbaaDoorOwnI
namespace Go.Proofs.YtiedombphcdpbaaDoor
open Go.RowKit Go.Shelf
set_option maxRecDepth 100000
attribute [local go_sem] Oper.semAt_some

theorem cell_lt {W : World} {B o : Nat} {v : Value} (h : W.cell? ⟨B, o, none⟩ = some v) : B < W.heap.size := by
  unfold World.cell? at h
  rcases Nat.lt_or_ge B W.heap.size with h1 | h1
  · exact h1
  · simp [Array.getElem?_eq_none h1] at h
/-- how many of the pairs have the vertex v -/
def degs (ps : List (Nat × Nat)) (v : Nat) : Nat := ps.foldl (fun c p => c + (if v = p.1 then 1 else 0) + (if v = p.2 then 1 else 0)) 0
theorem degs_snoc (ps : List (Nat × Nat)) (p : Nat × Nat) (v : Nat) : degs (ps ++ [p]) v = degs ps v + (if v = p.1 then 1 else 0) + (if v = p.2 then 1 else 0) := by simp [degs]
theorem degs_le (ps : List (Nat × Nat)) (v : Nat) : degs ps v ≤ 2 * ps.length := by
  have : ∀ (qs : List (Nat × Nat)) (a : Nat), qs.foldl (fun c p => c + (if v = p.1 then 1 else 0) + (if v = p.2 then 1 else 0)) a ≤ a + 2 * qs.length := by
    intro qs
    induction qs with
    | nil => intro a; simp
    | cons q qs ih =>
      intro a
      refine Nat.le_trans (ih _) ?_
      simp only [List.length_cons]
      split <;> split <;> omega
  simpa [degs] using this ps 0
/-- how many of the vertices before m are joined to i -/
def cnt (e i : Nat) : Nat → Nat | 0 => 0 | m + 1 => cnt e i m + if i ≠ m ∧ jn e i m = true then 1 else 0
theorem cnt_le (e i m : Nat) : cnt e i m ≤ m := by
  induction m with
  | zero => simp [cnt]
  | succ m ih => simp only [cnt]; split <;> omega
def degE (n e v : Nat) : Nat := degs ((prs n).filter fun p => jn e p.1 p.2) v
theorem degE_eq : ∀ n, n ≤ 5 → ∀ e, e < eMax n → ∀ v, v < n → degE n e v = cnt e v n := by decide +kernel

section
variable (w : World)
theorem sjoined_self (n e i : Nat) :
    Calls Tryd.prog 96 #[.agg #[.int .i64 n, .int .u32 e], .int .i64 i, .int .i64 i] w fun r w' => r = .returned (.bool false) ∧ Below w.heap.size w w' := by
  have hd2 : ((i : Int) != (i : Int)) = false := by simp
  go_enter Tryd.func96, Tryd.ntmps96
  go_wp2
  go_quiet (fail)
  go_wp2
  go_ret
  exact ⟨rfl, by (repeat (first | exact Below.refl _ _ | assumption | refine bchain (by assumption) ?_ | refine balloc ?_ _ | apply Below.drew | apply below_drewN | (refine Below.alloc ?_ (by (try simp) <;> omega) _) | (refine Below.setCell ?_ (by (try simp) <;> omega) _)))⟩

theorem eo_any (n e : Int) :
    Calls Tryd.prog 81 #[.agg #[.int .i64 n, .int .u32 e]] w fun r w' => ∃ Bg, r = .returned (.func (.func 145) #[] #[.pointer (some ⟨Bg, 0, none⟩), .pointer (some ⟨Bg + 1, 0, none⟩)]) ∧
      w.heap.size ≤ Bg ∧ Below w.heap.size w w' ∧ Bg + 2 ≤ w'.heap.size ∧ w'.cell? ⟨Bg, 0, none⟩ = some (.int .i64 n) ∧ w'.cell? ⟨Bg, 1, none⟩ = some (.int .u32 e) ∧ w'.cell? ⟨Bg + 1, 0, none⟩ = some (.func (.func 120) #[] #[]) := by
  go_enter Tryd.func81, Tryd.ntmps81
  go_wp2_with fail
  refine (pt_any _ n e 120).mono ?_
  rintro r1 w1 ⟨rfl, hb1, hz, g0, g1, ga⟩
  have e1 : (w.alloc (.cells #[.int .i64 n, .int .u32 e] 37)).heap.size = w.heap.size + 1 := by simp
  go_wp2
  go_ret
  exact ⟨w.heap.size + 1, rfl, by omega, by (repeat (first | exact Below.refl _ _ | assumption | refine bchain (by assumption) ?_ | refine balloc ?_ _ | apply Below.drew | apply below_drewN | (refine Below.alloc ?_ (by (try simp) <;> omega) _) | (refine Below.setCell ?_ (by (try simp) <;> omega) _))), by omega, by rw [← e1]; exact g0, by rw [← e1]; exact g1, by rw [← e1]; exact ga⟩

end
end Go.Proofs.YtiedombphcdpbaaDoor
