/-
  A FLAG WITH ITS UNLABELLED VERTICES IN EVERY ORDER: the walk of the program's iterator around its recursion.
-/
import Derived.Test.YtiedombphcdpbaaDoorKTurn
import Derived.Deep.RegionHeld3
namespace Go.Proofs.YtiedombphcdpbaaDoor
open Go.RowKit Go.Shelf
set_option maxRecDepth 100000

set_option maxHeartbeats 1000000 in
theorem turn1_any (k n e Fb l : Nat) (hkn : k ≤ n) (hn5 : n ≤ 5) (W : World) (hF : FC W Fb k n e) (Q : World → Prop) (hQ : ∀ w', Q w' → FC w' Fb k n e)
    (hcall : ∀ B W3, W.heap.size + 1 ≤ B → Below (W.alloc (.cells #[.func (.yield l) #[] #[]] 126)).heap.size (W.alloc (.cells #[.func (.yield l) #[] #[]] 126)) W3 → LMem W3 B n (List.range k) →
      Calls Tryd.prog 136 #[.int .i64 n, .int .i64 n, .slice (some ⟨B, 0, none⟩) k n, .func (.func 138) #[] #[.pointer (some ⟨W.heap.size, 0, none⟩), .pointer (some ⟨Fb, 0, none⟩)]] W3 fun e w' => ∃ b : Bool, e = .returned (.bool b) ∧ Q w') :
    Calls Tryd.prog 135 #[.func (.yield l) #[] #[], .pointer (some ⟨Fb, 0, none⟩)] W fun e w' => (∃ v, e = .returned v) ∧ Q w' := by
  have f2 : FC (W.alloc (.cells #[.func (.yield l) #[] #[]] 126)) Fb k n e := hF.below ((Below.refl _ W).alloc (Nat.le_refl _) _)
  obtain ⟨q0, q1, q2, q3⟩ := f2
  replace hcall := Lib.hid hcall
  clear hF
  replace hQ := Lib.hid hQ
  go_enter Tryd.func135, Tryd.ntmps135
  go_wp2
  go_region_held3 (fun A => A.cell? ⟨Fb, 0, none⟩ = some (.int .i64 k) ∧ A.cell? ⟨Fb, 1, none⟩ = some (.int .i64 n) ∧ A.cell? ⟨Fb, 2, none⟩ = some (.int .u32 e))
    (first | exact ⟨qf.c0, qf.c1, qf.c2⟩ | exact ⟨old_cell q0 q1 (by (repeat (first | exact Below.refl _ _ | assumption | refine bchain (by assumption) ?_ | refine balloc ?_ _ | apply Below.drew | apply below_drewN | (refine Below.alloc ?_ (by (try simp) <;> omega) _) | (refine Below.setCell ?_ (by (try simp) <;> omega) _)))), old_cell q0 q2 (by (repeat (first | exact Below.refl _ _ | assumption | refine bchain (by assumption) ?_ | refine balloc ?_ _ | apply Below.drew | apply below_drewN | (refine Below.alloc ?_ (by (try simp) <;> omega) _) | (refine Below.setCell ?_ (by (try simp) <;> omega) _)))), old_cell q0 q3 (by (repeat (first | exact Below.refl _ _ | assumption | refine bchain (by assumption) ?_ | refine balloc ?_ _ | apply Below.drew | apply below_drewN | (refine Below.alloc ?_ (by (try simp) <;> omega) _) | (refine Below.setCell ?_ (by (try simp) <;> omega) _))))⟩)
    (first
    | (go_at_call 137; refine (labels_any _ k n e hkn hn5).mono ?_; rintro r3 w3 ⟨B, rfl, hB3, hM3, hb3⟩; replace hM3 := Lib.hid hM3)
    | (go_at_call 136; refine (hcall.out _ _ (by have := hB3; simp at this; omega) (by (repeat (first | exact Below.refl _ _ | assumption | refine bchain (by assumption) ?_ | refine balloc ?_ _ | apply Below.drew | apply below_drewN | (refine Below.alloc ?_ (by (try simp) <;> omega) _) | (refine Below.setCell ?_ (by (try simp) <;> omega) _)))) hM3.out).mono ?_; rintro r4 w4 ⟨b4, rfl, hg4⟩; have qf := hQ.out w4 hg4))
  all_goals go_wp2
  all_goals go_end0
  all_goals exact ⟨⟨_, rfl⟩, hg4⟩
end Go.Proofs.YtiedombphcdpbaaDoor
