/-
  THE FORM OF A MATRIX AND A LIST: the program's contract.
-/
import Derived.Test.YtonjmoiognbjbabFDotS
import Derived.Test.YtonjmoiognbjbabFVm
namespace Go.Proofs.Ytonjmoiognbjbab
open Go.RowKit
set_option maxRecDepth 100000

def formStep (m : List (List (Int × Int))) (xs : List (Int × Int)) (s : Int × Int) (k : Nat) : Option (Int × Int) :=
  (dotTo (rAt m k) xs (rAt m k).length).bind fun r => (mulF r (gAt xs k)).bind fun p => addF s p
def formTo (m : List (List (Int × Int))) (xs : List (Int × Int)) : Nat → Option (Int × Int) | 0 => some (0, 1) | k + 1 => (formTo m xs k).bind fun s => formStep m xs s k
theorem formTo_none {m : List (List (Int × Int))} {xs : List (Int × Int)} {k : Nat} (h : formTo m xs k = none) : ∀ n, k ≤ n → formTo m xs n = none := by
  intro n hn
  induction n with
  | zero => obtain rfl : k = 0 := by omega
            exact h
  | succ n ih =>
    by_cases e : k = n + 1
    · rw [← e]; exact h
    · rw [formTo, ih (by omega)]; rfl
/-- what the form is made of: a valid matrix, and a valid list that fits -/
structure Fit (m : List (List (Int × Int))) (xs : List (Int × Int)) : Prop where
  vm : VM m
  vl : AllV xs
  len : xs.length = m.length
theorem Fit.row {m : List (List (Int × Int))} {xs : List (Int × Int)} (h : Fit m xs) {k : Nat} (hk : k < m.length) : (rAt m k).length = xs.length ∧ AllV (rAt m k) :=
  ⟨by rw [(h.vm.2.1 k hk).1, h.len], (h.vm.2.1 k hk).2⟩
theorem formTo_vp {m : List (List (Int × Int))} {xs : List (Int × Int)} (h : Fit m xs) : ∀ k s, k ≤ m.length → formTo m xs k = some s → VP s
  | 0, s, _, e => by cases e; exact vp01
  | k + 1, s, hk, e => by
    have hr := h.row (show k < m.length by omega)
    rw [formTo] at e
    cases hs : formTo m xs k with
    | none => rw [hs] at e; cases e
    | some t =>
      rw [hs] at e
      unfold formStep at e
      simp only [Option.bind_some] at e
      cases hd : dotTo (rAt m k) xs (rAt m k).length with
      | none => rw [hd] at e; cases e
      | some r =>
        rw [hd] at e
        simp only [Option.bind_some] at e
        cases hp : mulF r (gAt xs k) with
        | none => rw [hp] at e; cases e
        | some p =>
          rw [hp] at e
          exact add_vp (formTo_vp h k t (by omega) hs) (mul_vp (dotTo_vp hr.2 h.vl hr.1 _ r (Nat.le_refl _) hd) (h.vl k (by have := h.len; omega)) hp) e
section
variable (w : World)
set_option maxHeartbeats 4000000 in
theorem iform_any (a a' : Option Addr) (cap cap' : Nat) (m : List (List (Int × Int))) (xs : List (Int × Int)) (hF : Fit m xs) (hR : Rows w a m) (hc' : Lies w a' xs) :
    Calls Try.prog 74 #[.slice a m.length cap, .slice a' xs.length cap'] w fun r w' => r = qe (formTo m xs m.length) ∧ Below w.heap.size w w' := by
  have h8 := hF.vm.1
  have hD := Lib.hid (fun W k (hk : k < m.length) a2 c2 (h1 : Lies W a2 (rAt m k)) (h2 : Lies W a' xs) => idot_any W a2 a' c2 cap' (rAt m k) xs (by have := (hF.row hk).1; have := hF.len; omega) (hF.row hk).1 h1 h2 (hF.row hk).2 hF.vl)
  have hM := Lib.hid (fun W k r (hk : k < m.length) (hd : dotTo (rAt m k) xs (rAt m k).length = some r) => times_any W r (gAt xs k) (dotTo_vp (hF.row hk).2 hF.vl (hF.row hk).1 _ r (Nat.le_refl _) hd) (hF.vl k (by have := hF.len; omega)))
  have hP := Lib.hid (fun W k s r p (hk : k < m.length) (hs : formTo m xs k = some s) (hd : dotTo (rAt m k) xs (rAt m k).length = some r) (hp : mulF r (gAt xs k) = some p) => plus_any W s p (formTo_vp hF k s (by omega) hs) (mul_vp (dotTo_vp (hF.row hk).2 hF.vl (hF.row hk).1 _ r (Nat.le_refl _) hd) (hF.vl k (by have := hF.len; omega)) hp))
  have hW := Lib.hid (fun W => whole_any W 0)
  have hrl := Lib.hid (fun k (hk : k < m.length) => (hF.row hk).1)
  have hxl := hF.len
  rw [hxl]
  obtain ⟨n, hn⟩ : ∃ n, n = m.length := ⟨_, rfl⟩
  rw [← hn] at hP hM hD h8 hrl hxl ⊢
  replace hR := Lib.hid hR
  replace hc' := Lib.hid hc'
  replace hn := Lib.hid hn
  replace hxl := Lib.hid hxl
  clear hF
  go_enter Try.func74, Try.ntmps74
  go_wp2_with fail
  refine (hW.out _).mono ?_
  rintro r1 w1 ⟨rfl, hb1⟩
  have hA : SumAt w (w1.alloc (.cells #[.int .i64 0, .int .i64 1] 25)) w1.heap.size (0, 1) := by
    have hs := hb1.size
    simp at hs
    refine ⟨by simp [go_sem], by simp [go_sem], fun o => by simp, by simp, ?_, ?_, ?_, by omega, by (repeat (first | exact Below.refl _ _ | assumption | refine bchain (by assumption) ?_ | refine balloc ?_ _ | apply Below.drew | apply below_drewN | (refine Below.alloc ?_ (by (try simp) <;> omega) _) | (refine Below.setCell ?_ (by (try simp) <;> omega) _)))⟩
    · exact (World.cell?_alloc_lt _ _ _ (by show w.heap.size < _; omega)).trans ((keepAll hb1 _ _ (by simp)).trans (by simp [go_sem]))
    · exact (World.cell?_alloc_lt _ _ _ (by show w.heap.size < _; omega)).trans ((keepAll hb1 _ _ (by simp)).trans (by simp [go_sem]))
    · intro o
      have h1 := keepFz hb1 w.heap.size o (by simp)
      have h2 := keepFz (balloc (Below.refl _ w1) (.cells #[.int .i64 0, .int .i64 1] 25)) w.heap.size o (by omega)
      exact h2.trans (h1.trans (by simp))
  replace hA := Lib.hid hA
  go_wp2
  go_loopw [6, 7, 11] (fun _ _ i wr => ∃ (k : Nat) (s : Int × Int), k ≤ n ∧ i = .int .i64 k ∧ formTo m xs k = some s ∧ SumAt w wr w1.heap.size s) (fun _ _ i _ => n - (intOf i).toNat)
  case atStart => exact ⟨0, (0, 1), by omega, rfl, rfl, hA.out⟩
  case round =>
    obtain ⟨k, s, hk, rfl, hs, hS⟩ := hrel
    clear hA hb1
    by_cases hlt : k < n
    · obtain ⟨b, off, rfl, hb, u, hu, hSu⟩ := hR.out k (by have := hn.out; omega)
      obtain ⟨b', off', rfl, hb', hg'⟩ := hc'.out k (by have := hxl.out; omega)
      have hB := hS.2.2.2.2.2.2.2.2
      have hbr : Below w.heap.size w wr.drew := by (repeat (first | exact Below.refl _ _ | assumption | refine bchain (by assumption) ?_ | refine balloc ?_ _ | apply Below.drew | apply below_drewN | (refine Below.alloc ?_ (by (try simp) <;> omega) _) | (refine Below.setCell ?_ (by (try simp) <;> omega) _)))
      have r0 : wr.cell? ⟨b, off + k, none⟩ = some u := (hB.cell (p := ⟨b, _, none⟩) hb).trans hu
      obtain ⟨a2, c2, rfl, hLi⟩ := (hSu.below hbr).lies
      have hCd := Lib.hid (hD.out wr.drew k hlt a2 c2 hLi (hc'.out.below hbr))
      have hCm := Lib.hid (fun W r hd => hM.out W k r hlt hd)
      have hCp := Lib.hid (fun W r p hd hp => hP.out W k s r p hlt hs hd hp)
      have hN : ∀ x, formStep m xs s k = x → formTo m xs (k + 1) = x := fun x hx => by rw [formTo, hs]; exact hx
      unfold formStep at hN
      have hrk := hrl.out k hlt
      obtain ⟨x', y', hxy'⟩ : ∃ x y, gAt xs k = (x, y) := ⟨_, _, rfl⟩
      have zs := hS.2.2.2.1
      have v0 : wr.cell? ⟨b', off' + k * 2, none⟩ = some (.int .i64 x') := by rw [hB.cell (p := ⟨b', _, none⟩) hb', hg'.1, hxy']
      have v1 : wr.cell? ⟨b', off' + k * 2 + 1, none⟩ = some (.int .i64 y') := by rw [hB.cell (p := ⟨b', _, none⟩) hb', hg'.2, hxy']
      have zy : b' < wr.heap.size := Nat.lt_of_lt_of_le hb' hB.size
      obtain ⟨o, ho⟩ : ∃ o, dotTo (rAt m k) xs (rAt m k).length = o := ⟨_, rfl⟩
      rw [ho] at hCd hCm hCp hN
      rw [hrk, hxl.out] at hCd
      rw [hrk, hxl.out] at r0
      obtain ⟨p, q⟩ := s
      have u0 := hS.1
      have u1 := hS.2.1
      have uf := hS.2.2.1
      dsimp only at u0 u1
      have hkn : (k : Int) < (n : Int) := by omega
      have hkn0 : (0 : Int) ≤ (k : Int) := by omega
      have hSb := Lib.hid hS
      have hBb := hB
      clear hS hg' ho hs hB hu hSu hLi hrk hbr
      go_upto_region 5 with fail
      cases o with
      | none =>
        replace hCd := Lib.hid (hCd.out.mono fun e w' (h : e = qe none ∧ Below wr.drew.heap.size wr.drew w') => (show e = tooBig ∧ Below wr.drew.heap.size wr.drew w' from h))
        unfold tooBig at hCd
        have hE : Ending.panicked [{ v := .iface 86 (.agg #[]), recovered := false }] = qe (formTo m xs n) := by rw [formTo_none (hN none rfl) n (by omega)]; rfl
        clear hCm hCp
        go_region_held2 (fun W => W.cell? ⟨w1.heap.size, 0, none⟩ = some (.int .i64 p) ∧ W.cell? ⟨w1.heap.size, 1, none⟩ = some (.int .i64 q) ∧ W.cell? ⟨b', off' + k * 2, none⟩ = some (.int .i64 x') ∧ W.cell? ⟨b', off' + k * 2 + 1, none⟩ = some (.int .i64 y'))
          (first | exact (Hid.out (p := False) (by assumption)).elim | exact ⟨old_cell zs u0 (by (repeat (first | exact Below.refl _ _ | assumption | refine bchain (by assumption) ?_ | refine balloc ?_ _ | apply Below.drew | apply below_drewN | (refine Below.alloc ?_ (by (try simp) <;> omega) _) | (refine Below.setCell ?_ (by (try simp) <;> omega) _)))), old_cell zs u1 (by (repeat (first | exact Below.refl _ _ | assumption | refine bchain (by assumption) ?_ | refine balloc ?_ _ | apply Below.drew | apply below_drewN | (refine Below.alloc ?_ (by (try simp) <;> omega) _) | (refine Below.setCell ?_ (by (try simp) <;> omega) _)))), old_cell zy v0 (by (repeat (first | exact Below.refl _ _ | assumption | refine bchain (by assumption) ?_ | refine balloc ?_ _ | apply Below.drew | apply below_drewN | (refine Below.alloc ?_ (by (try simp) <;> omega) _) | (refine Below.setCell ?_ (by (try simp) <;> omega) _)))), old_cell zy v1 (by (repeat (first | exact Below.refl _ _ | assumption | refine bchain (by assumption) ?_ | refine balloc ?_ _ | apply Below.drew | apply below_drewN | (refine Below.alloc ?_ (by (try simp) <;> omega) _) | (refine Below.setCell ?_ (by (try simp) <;> omega) _))))⟩)
          (first | (go_at_call 50; refine Or.elim (Classical.em (Hid False)) (fun hf => ?_) (fun _ => panic_call hCd.out (fun w3 hb3 => ⟨rfl, hE, by (repeat (first | exact Below.refl _ _ | assumption | refine bchain (by assumption) ?_ | refine balloc ?_ _ | apply Below.drew | apply below_drewN | (refine Below.alloc ?_ (by (try simp) <;> omega) _) | (refine Below.setCell ?_ (by (try simp) <;> omega) _)))⟩)); refine fake_call (v := .agg #[.int .i64 0, .int .i64 0]) (by assumption) ?_) | (go_at_call 79; refine fake_call (v := .agg #[.int .i64 0, .int .i64 0]) (by assumption) ?_) | (go_at_call 78; refine fake_call (v := .agg #[.int .i64 0, .int .i64 0]) (by assumption) ?_))
        all_goals exact (Hid.out (p := False) (by assumption)).elim
      | some d =>
        obtain ⟨d1, d2⟩ := d
        replace hCd := Lib.hid (hCd.out.mono fun e w' (h : e = qe (some (d1, d2)) ∧ Below wr.drew.heap.size wr.drew w') => (show e = .returned (.agg #[.int .i64 d1, .int .i64 d2]) ∧ Below wr.drew.heap.size wr.drew w' from h))
        have hQ := Lib.hid (fun W => hCm.out W (d1, d2) rfl)
        obtain ⟨o2, ho2⟩ : ∃ o2, mulF (d1, d2) (gAt xs k) = o2 := ⟨_, rfl⟩
        have hR2 := Lib.hid (fun W p hp => hCp.out W (d1, d2) p rfl hp)
        simp only [Option.bind_some] at hN
        rw [ho2] at hQ hR2 hN
        rw [hxy'] at hQ
        unfold fv at hQ
        dsimp only at hQ
        clear hCm hCp ho2
        cases o2 with
        | none =>
          replace hQ := Lib.hid (fun W => (hQ.out W).mono fun e w' (h : e = qe none ∧ Below W.heap.size W w') => (show e = tooBig ∧ Below W.heap.size W w' from h))
          unfold tooBig at hQ
          have hE : Ending.panicked [{ v := .iface 86 (.agg #[]), recovered := false }] = qe (formTo m xs n) := by rw [formTo_none (hN none rfl) n (by omega)]; rfl
          clear hR2
          go_region_held2 (fun W => W.cell? ⟨w1.heap.size, 0, none⟩ = some (.int .i64 p) ∧ W.cell? ⟨w1.heap.size, 1, none⟩ = some (.int .i64 q) ∧ W.cell? ⟨b', off' + k * 2, none⟩ = some (.int .i64 x') ∧ W.cell? ⟨b', off' + k * 2 + 1, none⟩ = some (.int .i64 y'))
            (first | exact (Hid.out (p := False) (by assumption)).elim | exact ⟨old_cell zs u0 (by (repeat (first | exact Below.refl _ _ | assumption | refine bchain (by assumption) ?_ | refine balloc ?_ _ | apply Below.drew | apply below_drewN | (refine Below.alloc ?_ (by (try simp) <;> omega) _) | (refine Below.setCell ?_ (by (try simp) <;> omega) _)))), old_cell zs u1 (by (repeat (first | exact Below.refl _ _ | assumption | refine bchain (by assumption) ?_ | refine balloc ?_ _ | apply Below.drew | apply below_drewN | (refine Below.alloc ?_ (by (try simp) <;> omega) _) | (refine Below.setCell ?_ (by (try simp) <;> omega) _)))), old_cell zy v0 (by (repeat (first | exact Below.refl _ _ | assumption | refine bchain (by assumption) ?_ | refine balloc ?_ _ | apply Below.drew | apply below_drewN | (refine Below.alloc ?_ (by (try simp) <;> omega) _) | (refine Below.setCell ?_ (by (try simp) <;> omega) _)))), old_cell zy v1 (by (repeat (first | exact Below.refl _ _ | assumption | refine bchain (by assumption) ?_ | refine balloc ?_ _ | apply Below.drew | apply below_drewN | (refine Below.alloc ?_ (by (try simp) <;> omega) _) | (refine Below.setCell ?_ (by (try simp) <;> omega) _))))⟩)
            (first | (go_at_call 50; refine hCd.out.mono ?_; rintro r w4 ⟨rfl, hb4⟩; have hS4 := Lib.hid (hSb.out.below (show Below wr.heap.size wr w4 by (repeat (first | exact Below.refl _ _ | assumption | refine bchain (by assumption) ?_ | refine balloc ?_ _ | apply Below.drew | apply below_drewN | (refine Below.alloc ?_ (by (try simp) <;> omega) _) | (refine Below.setCell ?_ (by (try simp) <;> omega) _))))); have q0 := hS4.out.1; have q1 := hS4.out.2.1; have q2 := hS4.out.2.2.1; dsimp only at q0 q1) | (go_at_call 79; refine Or.elim (Classical.em (Hid False)) (fun hf => ?_) (fun _ => panic_call (hQ.out _) (fun w3 hb3 => ⟨rfl, hE, by (repeat (first | exact Below.refl _ _ | assumption | refine bchain (by assumption) ?_ | refine balloc ?_ _ | apply Below.drew | apply below_drewN | (refine Below.alloc ?_ (by (try simp) <;> omega) _) | (refine Below.setCell ?_ (by (try simp) <;> omega) _)))⟩)); refine fake_call (v := .agg #[.int .i64 0, .int .i64 0]) (by assumption) ?_) | (go_at_call 78; refine fake_call (v := .agg #[.int .i64 0, .int .i64 0]) (by assumption) ?_))
          all_goals exact (Hid.out (p := False) (by assumption)).elim
        | some t =>
          obtain ⟨t1, t2⟩ := t
          replace hQ := Lib.hid (fun W => (hQ.out W).mono fun e w' (h : e = qe (some (t1, t2)) ∧ Below W.heap.size W w') => (show e = .returned (.agg #[.int .i64 t1, .int .i64 t2]) ∧ Below W.heap.size W w' from h))
          have hT := Lib.hid (fun W => hR2.out W (t1, t2) rfl)
          obtain ⟨o3, ho3⟩ : ∃ o3, addF (p, q) (t1, t2) = o3 := ⟨_, rfl⟩
          rw [ho3] at hT
          have hN3 := hN o3 ho3
          clear hR2 hN ho3
          unfold fv at hT
          dsimp only at hT
          cases o3 with
          | none =>
            replace hT := Lib.hid (fun W => (hT.out W).mono fun e w' (h : e = qe none ∧ Below W.heap.size W w') => (show e = tooBig ∧ Below W.heap.size W w' from h))
            unfold tooBig at hT
            have hE : Ending.panicked [{ v := .iface 86 (.agg #[]), recovered := false }] = qe (formTo m xs n) := by rw [formTo_none hN3 n (by omega)]; rfl
            go_region_held2 (fun W => W.cell? ⟨w1.heap.size, 0, none⟩ = some (.int .i64 p) ∧ W.cell? ⟨w1.heap.size, 1, none⟩ = some (.int .i64 q) ∧ W.cell? ⟨b', off' + k * 2, none⟩ = some (.int .i64 x') ∧ W.cell? ⟨b', off' + k * 2 + 1, none⟩ = some (.int .i64 y'))
              (first | exact (Hid.out (p := False) (by assumption)).elim | exact ⟨old_cell zs u0 (by (repeat (first | exact Below.refl _ _ | assumption | refine bchain (by assumption) ?_ | refine balloc ?_ _ | apply Below.drew | apply below_drewN | (refine Below.alloc ?_ (by (try simp) <;> omega) _) | (refine Below.setCell ?_ (by (try simp) <;> omega) _)))), old_cell zs u1 (by (repeat (first | exact Below.refl _ _ | assumption | refine bchain (by assumption) ?_ | refine balloc ?_ _ | apply Below.drew | apply below_drewN | (refine Below.alloc ?_ (by (try simp) <;> omega) _) | (refine Below.setCell ?_ (by (try simp) <;> omega) _)))), old_cell zy v0 (by (repeat (first | exact Below.refl _ _ | assumption | refine bchain (by assumption) ?_ | refine balloc ?_ _ | apply Below.drew | apply below_drewN | (refine Below.alloc ?_ (by (try simp) <;> omega) _) | (refine Below.setCell ?_ (by (try simp) <;> omega) _)))), old_cell zy v1 (by (repeat (first | exact Below.refl _ _ | assumption | refine bchain (by assumption) ?_ | refine balloc ?_ _ | apply Below.drew | apply below_drewN | (refine Below.alloc ?_ (by (try simp) <;> omega) _) | (refine Below.setCell ?_ (by (try simp) <;> omega) _))))⟩)
              (first | (go_at_call 50; refine hCd.out.mono ?_; rintro r w4 ⟨rfl, hb4⟩; have hS4 := Lib.hid (hSb.out.below (show Below wr.heap.size wr w4 by (repeat (first | exact Below.refl _ _ | assumption | refine bchain (by assumption) ?_ | refine balloc ?_ _ | apply Below.drew | apply below_drewN | (refine Below.alloc ?_ (by (try simp) <;> omega) _) | (refine Below.setCell ?_ (by (try simp) <;> omega) _)))))) | (go_at_call 79; refine (hQ.out _).mono ?_; rintro r w5 ⟨rfl, hb5⟩; have hS5 := Lib.hid (hS4.out.below (show Below w4.heap.size w4 w5 by (repeat (first | exact Below.refl _ _ | assumption | refine bchain (by assumption) ?_ | refine balloc ?_ _ | apply Below.drew | apply below_drewN | (refine Below.alloc ?_ (by (try simp) <;> omega) _) | (refine Below.setCell ?_ (by (try simp) <;> omega) _))))); have q0 := hS5.out.1; have q1 := hS5.out.2.1; have q2 := hS5.out.2.2.1; dsimp only at q0 q1) | (go_at_call 78; refine Or.elim (Classical.em (Hid False)) (fun hf => ?_) (fun _ => panic_call (hT.out _) (fun w3 hb3 => ⟨rfl, hE, by (repeat (first | exact Below.refl _ _ | assumption | refine bchain (by assumption) ?_ | refine balloc ?_ _ | apply Below.drew | apply below_drewN | (refine Below.alloc ?_ (by (try simp) <;> omega) _) | (refine Below.setCell ?_ (by (try simp) <;> omega) _)))⟩)); refine fake_call (v := .agg #[.int .i64 0, .int .i64 0]) (by assumption) ?_))
            all_goals exact (Hid.out (p := False) (by assumption)).elim
          | some z =>
            obtain ⟨z1, z2⟩ := z
            replace hT := Lib.hid (fun W => (hT.out W).mono fun e w' (h : e = qe (some (z1, z2)) ∧ Below W.heap.size W w') => (show e = .returned (.agg #[.int .i64 z1, .int .i64 z2]) ∧ Below W.heap.size W w' from h))
            go_region_with (first | (go_at_call 50; refine hCd.out.mono ?_; rintro r w4 ⟨rfl, hb4⟩; have hS4 := Lib.hid (hSb.out.below (show Below wr.heap.size wr w4 by (repeat (first | exact Below.refl _ _ | assumption | refine bchain (by assumption) ?_ | refine balloc ?_ _ | apply Below.drew | apply below_drewN | (refine Below.alloc ?_ (by (try simp) <;> omega) _) | (refine Below.setCell ?_ (by (try simp) <;> omega) _))))); have q0 := hS4.out.1; have q1 := hS4.out.2.1; have q3 := old_cell zy v0 (show Below wr.heap.size wr w4 by (repeat (first | exact Below.refl _ _ | assumption | refine bchain (by assumption) ?_ | refine balloc ?_ _ | apply Below.drew | apply below_drewN | (refine Below.alloc ?_ (by (try simp) <;> omega) _) | (refine Below.setCell ?_ (by (try simp) <;> omega) _)))); have q4 := old_cell zy v1 (show Below wr.heap.size wr w4 by (repeat (first | exact Below.refl _ _ | assumption | refine bchain (by assumption) ?_ | refine balloc ?_ _ | apply Below.drew | apply below_drewN | (refine Below.alloc ?_ (by (try simp) <;> omega) _) | (refine Below.setCell ?_ (by (try simp) <;> omega) _)))); dsimp only at q0 q1) | (go_at_call 79; refine (hQ.out _).mono ?_; rintro r w5 ⟨rfl, hb5⟩; have hS5 := Lib.hid (hS4.out.below (show Below w4.heap.size w4 w5 by (repeat (first | exact Below.refl _ _ | assumption | refine bchain (by assumption) ?_ | refine balloc ?_ _ | apply Below.drew | apply below_drewN | (refine Below.alloc ?_ (by (try simp) <;> omega) _) | (refine Below.setCell ?_ (by (try simp) <;> omega) _))))); have t0 := hS5.out.1; have t1 := hS5.out.2.1; dsimp only at t0 t1) | (go_at_call 78; refine (hT.out _).mono ?_; rintro r w6 ⟨rfl, hb6⟩; have hS6 := Lib.hid (hS5.out.below (show Below w5.heap.size w5 w6 by (repeat (first | exact Below.refl _ _ | assumption | refine bchain (by assumption) ?_ | refine balloc ?_ _ | apply Below.drew | apply below_drewN | (refine Below.alloc ?_ (by (try simp) <;> omega) _) | (refine Below.setCell ?_ (by (try simp) <;> omega) _))))); have p0 := hS6.out.1; have p1 := hS6.out.2.1; have p2 := hS6.out.2.2.1; dsimp only at p0 p1; have hst := Lib.hid (hS6.out.store (z1, z2))))
            all_goals go_wp2
            all_goals (go_roundw; (case rel => exact ⟨k + 1, (z1, z2), by omega, by go_num, hN3, hst.out⟩); (case measure => simp [intOf]; omega))
    · have hd := decide_eq_false (show ¬ ((k : Int) < (n : Int)) by omega)
      obtain rfl : k = n := by omega
      obtain ⟨p, q⟩ := s
      obtain ⟨h0, h1, h2, h3, h4, h5, h6, h7, h8⟩ := hS
      dsimp only at h0 h1
      have ht := twoCells h4 h5 (.int .i64 p) (.int .i64 q)
      go_wp2
      rw [hs]
      exact bodyPost_ret (v := .agg #[.int .i64 p, .int .i64 q]) (by simp [results, Try.results74, go_sem, ht.1, ht.2]) rfl ⟨rfl, by (repeat (first | exact Below.refl _ _ | assumption | refine bchain (by assumption) ?_ | refine balloc ?_ _ | apply Below.drew | apply below_drewN | (refine Below.alloc ?_ (by (try simp) <;> omega) _) | (refine Below.setCell ?_ (by (try simp) <;> omega) _)))⟩
end
end Go.Proofs.Ytonjmoiognbjbab
