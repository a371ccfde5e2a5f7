/-
  SquareMatrix: the program's contracts.
-/
import Derived.Test.YtdibcchhamapjacFMatP2
import Derived.Test.YtdibcchhamapjacFLimM
import Derived.Test.YtdibcchhamapjacFMR
import Derived.Test.YtdibcchhamapjacFList
namespace Go.Proofs.Ytdibcchhamapjac
open Go.RowKit
set_option maxRecDepth 100000

/-- the products of a list's fractions -/
def gS (xs : List (Int × Int)) (i j : Nat) : Int × Int := (mulF (gAt xs i) (gAt xs j)).getD (0, 0)
def oS (xs : List (Int × Int)) (i j : Nat) : Bool := (mulF (gAt xs i) (gAt xs j)).isSome
theorem two_oth {W : World} {G B o : Nat} {x y u : Value} (h : W.cell? ⟨B, o, none⟩ = some u) (hne : B ≠ G) : ((W.setCell ⟨G, 0, none⟩ x).setCell ⟨G, 1, none⟩ y).cell? ⟨B, o, none⟩ = some u :=
  (World.cell?_setCell_other _ _ _ _ (by intro c; injection c with c; exact hne c.symm)).trans ((World.cell?_setCell_other _ _ _ _ (by intro c; injection c with c; exact hne c.symm)).trans h)
section
variable (w : World)
set_option maxHeartbeats 2000000 in
theorem sqclo_any (a : Option Addr) (cap n : Nat) (xs : List (Int × Int)) (Xb i j : Nat) (hB : w.cell? ⟨Xb, 0, none⟩ = some (.slice a n cap)) (hn : xs.length = n) (hc : Lies w a xs) (hV : AllV xs) (hi : i < n) (hj : j < n) :
    Calls Try.prog 89 #[.int .i64 i, .int .i64 j, .pointer (some ⟨Xb, 0, none⟩)] w fun r w' => r = qe (mulF (gAt xs i) (gAt xs j)) ∧ Below w.heap.size w w' := by
  have hM := Lib.hid (fun W => times_any W (gAt xs i) (gAt xs j) (hV i (by omega)) (hV j (by omega)))
  obtain ⟨b, off, rfl, hb, hg⟩ := hc i (by omega)
  obtain ⟨b', off', hbb, hb', hg'⟩ := hc j (by omega)
  injection hbb with hbb
  injection hbb with e1 e2
  subst e1 e2
  obtain ⟨x, y, hxy⟩ : ∃ x y, gAt xs i = (x, y) := ⟨_, _, rfl⟩
  obtain ⟨x', y', hxy'⟩ : ∃ x y, gAt xs j = (x, y) := ⟨_, _, rfl⟩
  have l0 := World.block_lt_of_cell? w _ hB
  dsimp only at l0
  obtain ⟨wb, hwb⟩ : ∃ wb, wb = w.alloc (.cells #[.int .i64 0, .int .i64 0] 36) := ⟨_, rfl⟩
  have hBb : Below w.heap.size w wb := by rw [hwb]; exact (Below.refl _ w).alloc (Nat.le_refl _) _
  have hz : wb.heap.size = w.heap.size + 1 := by rw [hwb]; simp
  have c0 := (hBb.cell (p := ⟨Xb, 0, none⟩) l0).trans hB
  have s0 : wb.cell? ⟨b, off + i * 2, none⟩ = some (.int .i64 x) := by rw [hBb.cell (p := ⟨b, _, none⟩) hb, hg.1, hxy]
  have s1 : wb.cell? ⟨b, off + i * 2 + 1, none⟩ = some (.int .i64 y) := by rw [hBb.cell (p := ⟨b, _, none⟩) hb, hg.2, hxy]
  have t0 : wb.cell? ⟨b, off + j * 2, none⟩ = some (.int .i64 x') := by rw [hBb.cell (p := ⟨b, _, none⟩) hb, hg'.1, hxy']
  have t1 : wb.cell? ⟨b, off + j * 2 + 1, none⟩ = some (.int .i64 y') := by rw [hBb.cell (p := ⟨b, _, none⟩) hb, hg'.2, hxy']
  have zX : Xb < wb.heap.size := by omega
  have zb : b < wb.heap.size := by omega
  have nX : Xb ≠ w.heap.size := by omega
  have nb : b ≠ w.heap.size := by omega
  have zr : w.heap.size < wb.heap.size := by omega
  have r0 : wb.cell? ⟨w.heap.size, 0, none⟩ = some (.int .i64 0) := by rw [hwb]; simp
  have r1 : wb.cell? ⟨w.heap.size, 1, none⟩ = some (.int .i64 0) := by rw [hwb]; simp
  have rf : ∀ q, wb.frozen? ⟨w.heap.size, q, none⟩ = false := fun q => by rw [hwb]; simp
  have f0 := rf 0
  have f1 := rf 1
  have hin : (i : Int) < (n : Int) := by omega
  have hjn : (j : Int) < (n : Int) := by omega
  have hi0 : (0 : Int) ≤ (i : Int) := by omega
  have hj0 : (0 : Int) ≤ (j : Int) := by omega
  rw [hxy, hxy'] at hM ⊢
  obtain ⟨o, ho⟩ : ∃ o, mulF (x, y) (x', y') = o := ⟨_, rfl⟩
  rw [ho] at hM ⊢
  unfold fv at hM
  dsimp only at hM
  replace rf := Lib.hid rf
  replace hwb := Lib.hid hwb
  clear hc hV hB hg hg' hxy hxy' ho hb hb' hn
  go_enter Try.func89, Try.ntmps89
  go_wp2_with fail
  rw [← hwb.out]
  cases o with
  | none =>
    have hQ := Lib.hid (fun W => (hM.out W).mono fun e w' (h : e = qe none ∧ Below W.heap.size W w') => (show e = tooBig ∧ Below W.heap.size W w' from h))
    have hET : Ending.panicked [{ v := .iface 110 (.agg #[]), recovered := false }] = qe none := rfl
    clear hM
    unfold tooBig at hQ
    go_region_held2 (fun W => W.cell? ⟨Xb, 0, none⟩ = some (.slice (some ⟨b, off, none⟩) n cap) ∧ W.cell? ⟨b, off + i * 2, none⟩ = some (.int .i64 x) ∧ W.cell? ⟨b, off + i * 2 + 1, none⟩ = some (.int .i64 y) ∧ W.cell? ⟨b, off + j * 2, none⟩ = some (.int .i64 x') ∧ W.cell? ⟨b, off + j * 2 + 1, none⟩ = some (.int .i64 y') ∧ W.cell? ⟨w.heap.size, 0, none⟩ = some (cellOf W ⟨w.heap.size, 0, none⟩) ∧ W.cell? ⟨w.heap.size, 1, none⟩ = some (cellOf W ⟨w.heap.size, 1, none⟩) ∧ W.frozen? ⟨w.heap.size, 0, none⟩ = false ∧ W.frozen? ⟨w.heap.size, 1, none⟩ = false)
      (first | exact (Hid.out (p := False) (by assumption)).elim | exact ⟨old_cell zX c0 (by (repeat (first | exact Below.refl _ _ | assumption | refine bchain (by assumption) ?_ | refine balloc ?_ _ | apply Below.drew | apply below_drewN | (refine Below.alloc ?_ (by (try simp) <;> omega) _) | (refine Below.setCell ?_ (by (try simp) <;> omega) _)))), old_cell zb s0 (by (repeat (first | exact Below.refl _ _ | assumption | refine bchain (by assumption) ?_ | refine balloc ?_ _ | apply Below.drew | apply below_drewN | (refine Below.alloc ?_ (by (try simp) <;> omega) _) | (refine Below.setCell ?_ (by (try simp) <;> omega) _)))), old_cell zb s1 (by (repeat (first | exact Below.refl _ _ | assumption | refine bchain (by assumption) ?_ | refine balloc ?_ _ | apply Below.drew | apply below_drewN | (refine Below.alloc ?_ (by (try simp) <;> omega) _) | (refine Below.setCell ?_ (by (try simp) <;> omega) _)))), old_cell zb t0 (by (repeat (first | exact Below.refl _ _ | assumption | refine bchain (by assumption) ?_ | refine balloc ?_ _ | apply Below.drew | apply below_drewN | (refine Below.alloc ?_ (by (try simp) <;> omega) _) | (refine Below.setCell ?_ (by (try simp) <;> omega) _)))), old_cell zb t1 (by (repeat (first | exact Below.refl _ _ | assumption | refine bchain (by assumption) ?_ | refine balloc ?_ _ | apply Below.drew | apply below_drewN | (refine Below.alloc ?_ (by (try simp) <;> omega) _) | (refine Below.setCell ?_ (by (try simp) <;> omega) _)))), cellOf_of (old_cell zr r0 (by (repeat (first | exact Below.refl _ _ | assumption | refine bchain (by assumption) ?_ | refine balloc ?_ _ | apply Below.drew | apply below_drewN | (refine Below.alloc ?_ (by (try simp) <;> omega) _) | (refine Below.setCell ?_ (by (try simp) <;> omega) _))))), cellOf_of (old_cell zr r1 (by (repeat (first | exact Below.refl _ _ | assumption | refine bchain (by assumption) ?_ | refine balloc ?_ _ | apply Below.drew | apply below_drewN | (refine Below.alloc ?_ (by (try simp) <;> omega) _) | (refine Below.setCell ?_ (by (try simp) <;> omega) _))))), (Below.frozen (p := ⟨w.heap.size, 0, none⟩) (by (repeat (first | exact Below.refl _ _ | assumption | refine bchain (by assumption) ?_ | refine balloc ?_ _ | apply Below.drew | apply below_drewN | (refine Below.alloc ?_ (by (try simp) <;> omega) _) | (refine Below.setCell ?_ (by (try simp) <;> omega) _)))) zr).trans (rf.out 0), (Below.frozen (p := ⟨w.heap.size, 1, none⟩) (by (repeat (first | exact Below.refl _ _ | assumption | refine bchain (by assumption) ?_ | refine balloc ?_ _ | apply Below.drew | apply below_drewN | (refine Below.alloc ?_ (by (try simp) <;> omega) _) | (refine Below.setCell ?_ (by (try simp) <;> omega) _)))) zr).trans (rf.out 1)⟩)
      (first | (go_at_call 88; refine Or.elim (Classical.em (Hid False)) (fun hf => ?_) (fun _ => panicM_call (hQ.out _) (fun w3 hb3 => ⟨rfl, hET, by (repeat (first | exact Below.refl _ _ | assumption | refine bchain (by assumption) ?_ | refine balloc ?_ _ | apply Below.drew | apply below_drewN | (refine Below.alloc ?_ (by (try simp) <;> omega) _) | (refine Below.setCell ?_ (by (try simp) <;> omega) _)))⟩)); refine fakeM_call (v := .agg #[.int .i64 0, .int .i64 0]) (by assumption) ?_))
    all_goals exact (Hid.out (p := False) (by assumption)).elim
  | some m =>
    obtain ⟨m1, m2⟩ := m
    have hQ := Lib.hid (fun W => (hM.out W).mono fun e w' (h : e = qe (some (m1, m2)) ∧ Below W.heap.size W w') => (show e = .returned (.agg #[.int .i64 m1, .int .i64 m2]) ∧ Below W.heap.size W w' from h))
    clear hM
    go_region_held3 (fun W => W.cell? ⟨Xb, 0, none⟩ = some (.slice (some ⟨b, off, none⟩) n cap) ∧ W.cell? ⟨b, off + i * 2, none⟩ = some (.int .i64 x) ∧ W.cell? ⟨b, off + i * 2 + 1, none⟩ = some (.int .i64 y) ∧ W.cell? ⟨b, off + j * 2, none⟩ = some (.int .i64 x') ∧ W.cell? ⟨b, off + j * 2 + 1, none⟩ = some (.int .i64 y'))
      (first | exact ⟨two_oth v0 nX, two_oth v1 nb, two_oth v2 nb, two_oth v3 nb, two_oth v4 nb⟩ | exact ⟨old_cell zX c0 (by (repeat (first | exact Below.refl _ _ | assumption | refine bchain (by assumption) ?_ | refine balloc ?_ _ | apply Below.drew | apply below_drewN | (refine Below.alloc ?_ (by (try simp) <;> omega) _) | (refine Below.setCell ?_ (by (try simp) <;> omega) _)))), old_cell zb s0 (by (repeat (first | exact Below.refl _ _ | assumption | refine bchain (by assumption) ?_ | refine balloc ?_ _ | apply Below.drew | apply below_drewN | (refine Below.alloc ?_ (by (try simp) <;> omega) _) | (refine Below.setCell ?_ (by (try simp) <;> omega) _)))), old_cell zb s1 (by (repeat (first | exact Below.refl _ _ | assumption | refine bchain (by assumption) ?_ | refine balloc ?_ _ | apply Below.drew | apply below_drewN | (refine Below.alloc ?_ (by (try simp) <;> omega) _) | (refine Below.setCell ?_ (by (try simp) <;> omega) _)))), old_cell zb t0 (by (repeat (first | exact Below.refl _ _ | assumption | refine bchain (by assumption) ?_ | refine balloc ?_ _ | apply Below.drew | apply below_drewN | (refine Below.alloc ?_ (by (try simp) <;> omega) _) | (refine Below.setCell ?_ (by (try simp) <;> omega) _)))), old_cell zb t1 (by (repeat (first | exact Below.refl _ _ | assumption | refine bchain (by assumption) ?_ | refine balloc ?_ _ | apply Below.drew | apply below_drewN | (refine Below.alloc ?_ (by (try simp) <;> omega) _) | (refine Below.setCell ?_ (by (try simp) <;> omega) _))))⟩)
      (first | (go_at_call 88; refine (hQ.out _).mono ?_; rintro r3 w3 ⟨rfl, hb3⟩; have hb33 : Below wb.heap.size wb w3 := (by (repeat (first | exact Below.refl _ _ | assumption | refine bchain (by assumption) ?_ | refine balloc ?_ _ | apply Below.drew | apply below_drewN | (refine Below.alloc ?_ (by (try simp) <;> omega) _) | (refine Below.setCell ?_ (by (try simp) <;> omega) _)))); have v0 := old_cell zX c0 hb33; have v1 := old_cell zb s0 hb33; have v2 := old_cell zb s1 hb33; have v3 := old_cell zb t0 hb33; have v4 := old_cell zb t1 hb33; have g0 := old_cell zr r0 hb33; have g1 := old_cell zr r1 hb33; have gf := fun q => (hb33.frozen (p := ⟨w.heap.size, q, none⟩) zr).trans (rf.out q)))
    have h2 := twoCells g0 g1 (.int .i64 m1) (.int .i64 m2)
    have hbw : Below w.heap.size w w3 := hBb.trans (hb33.mono hBb.size)
    go_wp2
    exact bodyPost_ret (v := .agg #[.int .i64 m1, .int .i64 m2]) (by simp [results, Try.results89, go_sem, h2.1, h2.2]) rfl ⟨rfl, by (repeat (first | exact Below.refl _ _ | assumption | refine bchain (by assumption) ?_ | refine balloc ?_ _ | apply Below.drew | apply below_drewN | (refine Below.alloc ?_ (by (try simp) <;> omega) _) | (refine Below.setCell ?_ (by (try simp) <;> omega) _)))⟩
end
end Go.Proofs.Ytdibcchhamapjac
