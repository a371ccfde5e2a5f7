/-
  THE SUM OF PRODUCTS OF TWO LISTS OF VALID FRACTIONS: the program's and the model's contracts.
-/
import Derived.Test.YtonjmoiognbjbabFSum
import Derived.Deep.RegionHeld2
namespace Go.Proofs.Ytonjmoiognbjbab
open Go.RowKit
set_option maxRecDepth 100000

def dotStep (s x y : Int × Int) : Option (Int × Int) := (mulF x y).bind fun p => addF s p
def dotTo (xs ys : List (Int × Int)) : Nat → Option (Int × Int) | 0 => some (0, 1) | k + 1 => (dotTo xs ys k).bind fun s => dotStep s (gAt xs k) (gAt ys k)
theorem dotTo_none {xs ys : List (Int × Int)} {k : Nat} (h : dotTo xs ys k = none) : ∀ n, k ≤ n → dotTo xs ys n = none := by
  intro n hn
  induction n with
  | zero => obtain rfl : k = 0 := by omega
            exact h
  | succ n ih =>
    by_cases e : k = n + 1
    · rw [← e]; exact h
    · rw [dotTo, ih (by omega)]; rfl
theorem dotTo_vp {xs ys : List (Int × Int)} (hV : AllV xs) (hW : AllV ys) (hl : xs.length = ys.length) : ∀ k s, k ≤ xs.length → dotTo xs ys k = some s → VP s
  | 0, s, _, h => by cases h; exact vp01
  | k + 1, s, hk, h => by
    rw [dotTo] at h
    cases hs : dotTo xs ys k with
    | none => rw [hs] at h; cases h
    | some t =>
      rw [hs] at h
      unfold dotStep at h
      simp only [Option.bind_some] at h
      cases hp : mulF (gAt xs k) (gAt ys k) with
      | none => rw [hp] at h; cases h
      | some p => rw [hp] at h; exact add_vp (dotTo_vp hV hW hl k t (by omega) hs) (mul_vp (hV k (by omega)) (hW k (by omega)) hp) h
/-- a way of a region that is not gone -/
theorem fake_call {P : Program} {f : FuncId} {args : Array Value} {w : World} {Q : Ending → World → Prop} {v : Value} (hf : Hid False) (_ : Q (.returned v) w) : Calls P f args w Q := hf.out.elim
/-- a call that panics -/
theorem panic_call {P : Program} {f : FuncId} {args : Array Value} {w : World} {Q : Ending → World → Prop} {c : List PanicEntry} (h : Calls P f args w fun e w' => e = .panicked c ∧ Below w.heap.size w w')
    (hq : ∀ w', Below w.heap.size w w' → Q (.panicked c) w') : Calls P f args w Q := h.mono fun _ w' ⟨he, hb⟩ => by rw [he]; exact hq w' hb
section
variable (w : World)
set_option maxHeartbeats 2000000 in
theorem idot_any (a a' : Option Addr) (cap cap' : Nat) (xs ys : List (Int × Int)) (hm : xs.length ≤ 1048576) (hl : xs.length = ys.length) (hc : Lies w a xs) (hc' : Lies w a' ys) (hV : AllV xs) (hV' : AllV ys) :
    Calls Try.prog 50 #[.slice a xs.length cap, .slice a' ys.length cap'] w fun r w' => r = qe (dotTo xs ys xs.length) ∧ Below w.heap.size w w' := by
  have hM := Lib.hid (fun W k (hk : k < xs.length) => times_any W (gAt xs k) (gAt ys k) (hV k hk) (hV' k (by omega)))
  have hP := Lib.hid (fun W k s p (hk : k < xs.length) (hs : dotTo xs ys k = some s) (hp : mulF (gAt xs k) (gAt ys k) = some p) => plus_any W s p (dotTo_vp hV hV' hl k s (by omega) hs) (mul_vp (hV k hk) (hV' k (by omega)) hp))
  have hW := Lib.hid (fun W => whole_any W 0)
  rw [← hl]
  obtain ⟨n, hn⟩ : ∃ n, n = xs.length := ⟨_, rfl⟩
  rw [← hn] at hm hP hM hl ⊢
  replace hc := Lib.hid hc
  replace hc' := Lib.hid hc'
  replace hn := Lib.hid hn
  replace hl := Lib.hid hl
  clear hV hV'
  go_enter Try.func50, Try.ntmps50
  go_wp2_with fail
  refine (hW.out _).mono ?_
  rintro r1 w1 ⟨rfl, hb1⟩
  have hA : SumAt w (w1.alloc (.cells #[.int .i64 0, .int .i64 1] 25)) w1.heap.size (0, 1) := by
    have hs := hb1.size
    simp at hs
    refine ⟨by simp [go_sem], by simp [go_sem], fun o => by simp, by simp, ?_, ?_, ?_, by omega, by (repeat (first | exact Below.refl _ _ | assumption | refine bchain (by assumption) ?_ | refine balloc ?_ _ | apply Below.drew | apply below_drewN | (refine Below.alloc ?_ (by (try simp) <;> omega) _) | (refine Below.setCell ?_ (by (try simp) <;> omega) _)))⟩
    · exact (World.cell?_alloc_lt _ _ _ (by show w.heap.size < _; omega)).trans ((keepAll hb1 _ _ (by simp)).trans (by simp [go_sem]))
    · exact (World.cell?_alloc_lt _ _ _ (by show w.heap.size < _; omega)).trans ((keepAll hb1 _ _ (by simp)).trans (by simp [go_sem]))
    · intro o
      have h1 := keepFz hb1 w.heap.size o (by simp)
      have h2 := keepFz (balloc (Below.refl _ w1) (.cells #[.int .i64 0, .int .i64 1] 25)) w.heap.size o (by omega)
      exact h2.trans (h1.trans (by simp))
  replace hA := Lib.hid hA
  go_wp2
  go_loopw [6, 7, 11] (fun _ _ i wr => ∃ (k : Nat) (s : Int × Int), k ≤ n ∧ i = .int .i64 k ∧ dotTo xs ys k = some s ∧ SumAt w wr w1.heap.size s) (fun _ _ i _ => n - (intOf i).toNat)
  case atStart => exact ⟨0, (0, 1), by omega, rfl, rfl, hA.out⟩
  case round =>
    obtain ⟨k, s, hk, rfl, hs, hS⟩ := hrel
    clear hA hb1
    by_cases hlt : k < n
    · obtain ⟨b, off, rfl, hb, hg⟩ := hc.out k (by have := hn.out; omega)
      obtain ⟨b', off', rfl, hb', hg'⟩ := hc'.out k (by have := hl.out; omega)
      have hCm := Lib.hid (fun W => hM.out W k hlt)
      have hCp := Lib.hid (fun W p hp => hP.out W k s p hlt hs hp)
      have hN : ∀ x, dotStep s (gAt xs k) (gAt ys k) = x → dotTo xs ys (k + 1) = x := fun x hx => by rw [dotTo, hs]; exact hx
      unfold dotStep at hN
      obtain ⟨x, y, hxy⟩ : ∃ x y, gAt xs k = (x, y) := ⟨_, _, rfl⟩
      obtain ⟨x', y', hxy'⟩ : ∃ x y, gAt ys k = (x, y) := ⟨_, _, rfl⟩
      have hB := hS.2.2.2.2.2.2.2.2
      have hsz := hS.2.2.2.1
      have s0 : wr.cell? ⟨b, off + k * 2, none⟩ = some (.int .i64 x) := by rw [hB.cell (p := ⟨b, _, none⟩) hb, hg.1, hxy]
      have s1 : wr.cell? ⟨b, off + k * 2 + 1, none⟩ = some (.int .i64 y) := by rw [hB.cell (p := ⟨b, _, none⟩) hb, hg.2, hxy]
      have s0' : wr.cell? ⟨b', off' + k * 2, none⟩ = some (.int .i64 x') := by rw [hB.cell (p := ⟨b', _, none⟩) hb', hg'.1, hxy']
      have s1' : wr.cell? ⟨b', off' + k * 2 + 1, none⟩ = some (.int .i64 y') := by rw [hB.cell (p := ⟨b', _, none⟩) hb', hg'.2, hxy']
      have hbw' : b' < wr.heap.size := Nat.lt_of_lt_of_le hb' hB.size
      obtain ⟨o, ho⟩ : ∃ o, mulF (gAt xs k) (gAt ys k) = o := ⟨_, rfl⟩
      rw [ho] at hCm hCp hN
      rw [hxy, hxy'] at hCm
      obtain ⟨p, q⟩ := s
      have t0 := hS.1
      have t1 := hS.2.1
      have tf := hS.2.2.1
      unfold fv at hCm
      dsimp only at hCm t0 t1
      have hkn : (k : Int) < (n : Int) := by omega
      have hkn0 : (0 : Int) ≤ (k : Int) := by omega
      replace hS := Lib.hid hS
      clear hxy hxy' hg hg' ho hs hB
      obtain ⟨wb, hwb⟩ : ∃ wb, wb = wr.alloc (.cells #[.int .i64 x, .int .i64 y] 25) := ⟨_, rfl⟩
      have hSb := Lib.hid (hS.out.below (balloc (Below.refl _ wr) (.cells #[.int .i64 x, .int .i64 y] 25)))
      rw [← hwb] at hSb
      have zb : wr.heap.size < wb.heap.size := by rw [hwb]; simp
      have zs : w1.heap.size < wb.heap.size := by omega
      have zy : b' < wb.heap.size := by omega
      have u0 : wb.cell? ⟨w1.heap.size, 0, none⟩ = some (.int .i64 p) := by rw [hwb]; exact (World.cell?_alloc_lt _ _ _ hsz).trans t0
      have u1 : wb.cell? ⟨w1.heap.size, 1, none⟩ = some (.int .i64 q) := by rw [hwb]; exact (World.cell?_alloc_lt _ _ _ hsz).trans t1
      have v0 : wb.cell? ⟨b', off' + k * 2, none⟩ = some (.int .i64 x') := by rw [hwb]; exact (World.cell?_alloc_lt _ _ _ hbw').trans s0'
      have v1 : wb.cell? ⟨b', off' + k * 2 + 1, none⟩ = some (.int .i64 y') := by rw [hwb]; exact (World.cell?_alloc_lt _ _ _ hbw').trans s1'
      have y0 : wb.cell? ⟨wr.heap.size, 0, none⟩ = some (.int .i64 x) := by rw [hwb]; simp
      have y1 : wb.cell? ⟨wr.heap.size, 1, none⟩ = some (.int .i64 y) := by rw [hwb]; simp
      go_upto_region 5 with fail
      rw [← hwb]
      clear hwb
      have hBb := hSb.out.2.2.2.2.2.2.2.2
      have uf : ∀ o, wb.frozen? ⟨w1.heap.size, o, none⟩ = false := hSb.out.2.2.1
      cases o with
      | none =>
        have hQ := Lib.hid (fun W => (hCm.out W).mono fun e w' (h : e = qe none ∧ Below W.heap.size W w') => (show e = tooBig ∧ Below W.heap.size W w' from h))
        clear hCm hCp
        unfold tooBig at hQ
        have hE : Ending.panicked [{ v := .iface 86 (.agg #[]), recovered := false }] = qe (dotTo xs ys n) := by rw [dotTo_none (hN none rfl) n (by omega)]; rfl
        go_region_held2 (fun W => W.cell? ⟨w1.heap.size, 0, none⟩ = some (.int .i64 p) ∧ W.cell? ⟨w1.heap.size, 1, none⟩ = some (.int .i64 q) ∧ W.cell? ⟨wr.heap.size, 0, none⟩ = some (.int .i64 x) ∧ W.cell? ⟨wr.heap.size, 1, none⟩ = some (.int .i64 y) ∧ W.cell? ⟨b', off' + k * 2, none⟩ = some (.int .i64 x') ∧ W.cell? ⟨b', off' + k * 2 + 1, none⟩ = some (.int .i64 y'))
          (first | exact (Hid.out (p := False) (by assumption)).elim | exact ⟨old_cell zs u0 (by (repeat (first | exact Below.refl _ _ | assumption | refine bchain (by assumption) ?_ | refine balloc ?_ _ | apply Below.drew | apply below_drewN | (refine Below.alloc ?_ (by (try simp) <;> omega) _) | (refine Below.setCell ?_ (by (try simp) <;> omega) _)))), old_cell zs u1 (by (repeat (first | exact Below.refl _ _ | assumption | refine bchain (by assumption) ?_ | refine balloc ?_ _ | apply Below.drew | apply below_drewN | (refine Below.alloc ?_ (by (try simp) <;> omega) _) | (refine Below.setCell ?_ (by (try simp) <;> omega) _)))), old_cell zb y0 (by (repeat (first | exact Below.refl _ _ | assumption | refine bchain (by assumption) ?_ | refine balloc ?_ _ | apply Below.drew | apply below_drewN | (refine Below.alloc ?_ (by (try simp) <;> omega) _) | (refine Below.setCell ?_ (by (try simp) <;> omega) _)))), old_cell zb y1 (by (repeat (first | exact Below.refl _ _ | assumption | refine bchain (by assumption) ?_ | refine balloc ?_ _ | apply Below.drew | apply below_drewN | (refine Below.alloc ?_ (by (try simp) <;> omega) _) | (refine Below.setCell ?_ (by (try simp) <;> omega) _)))), old_cell zy v0 (by (repeat (first | exact Below.refl _ _ | assumption | refine bchain (by assumption) ?_ | refine balloc ?_ _ | apply Below.drew | apply below_drewN | (refine Below.alloc ?_ (by (try simp) <;> omega) _) | (refine Below.setCell ?_ (by (try simp) <;> omega) _)))), old_cell zy v1 (by (repeat (first | exact Below.refl _ _ | assumption | refine bchain (by assumption) ?_ | refine balloc ?_ _ | apply Below.drew | apply below_drewN | (refine Below.alloc ?_ (by (try simp) <;> omega) _) | (refine Below.setCell ?_ (by (try simp) <;> omega) _))))⟩)
          (first | (go_at_call 79; refine Or.elim (Classical.em (Hid False)) (fun hf => ?_) (fun _ => panic_call (hQ.out _) (fun w3 hb3 => ⟨rfl, hE, by (repeat (first | exact Below.refl _ _ | assumption | refine bchain (by assumption) ?_ | refine balloc ?_ _ | apply Below.drew | apply below_drewN | (refine Below.alloc ?_ (by (try simp) <;> omega) _) | (refine Below.setCell ?_ (by (try simp) <;> omega) _)))⟩)); refine fake_call (v := .agg #[.int .i64 0, .int .i64 0]) (by assumption) ?_) | (go_at_call 78; refine fake_call (v := .agg #[.int .i64 0, .int .i64 0]) (by assumption) ?_))
        all_goals exact (Hid.out (p := False) (by assumption)).elim
      | some m =>
        obtain ⟨m1, m2⟩ := m
        have hQ := Lib.hid (fun W => (hCm.out W).mono fun e w' (h : e = qe (some (m1, m2)) ∧ Below W.heap.size W w') => (show e = .returned (.agg #[.int .i64 m1, .int .i64 m2]) ∧ Below W.heap.size W w' from h))
        have hR := Lib.hid (fun W => hCp.out W (m1, m2) rfl)
        obtain ⟨o2, ho2⟩ : ∃ o2, addF (p, q) (m1, m2) = o2 := ⟨_, rfl⟩
        rw [ho2] at hR
        have hN3 := hN o2 ho2
        clear hCm hCp hN ho2
        unfold fv at hR
        dsimp only at hR
        cases o2 with
        | none =>
          have hR2 := Lib.hid (fun W => (hR.out W).mono fun e w' (h : e = qe none ∧ Below W.heap.size W w') => (show e = tooBig ∧ Below W.heap.size W w' from h))
          clear hR
          unfold tooBig at hR2
          have hE : Ending.panicked [{ v := .iface 86 (.agg #[]), recovered := false }] = qe (dotTo xs ys n) := by rw [dotTo_none hN3 n (by omega)]; rfl
          go_region_held2 (fun W => W.cell? ⟨w1.heap.size, 0, none⟩ = some (.int .i64 p) ∧ W.cell? ⟨w1.heap.size, 1, none⟩ = some (.int .i64 q) ∧ W.cell? ⟨wr.heap.size, 0, none⟩ = some (.int .i64 x) ∧ W.cell? ⟨wr.heap.size, 1, none⟩ = some (.int .i64 y) ∧ W.cell? ⟨b', off' + k * 2, none⟩ = some (.int .i64 x') ∧ W.cell? ⟨b', off' + k * 2 + 1, none⟩ = some (.int .i64 y'))
            (first | exact (Hid.out (p := False) (by assumption)).elim | exact ⟨old_cell zs u0 (by (repeat (first | exact Below.refl _ _ | assumption | refine bchain (by assumption) ?_ | refine balloc ?_ _ | apply Below.drew | apply below_drewN | (refine Below.alloc ?_ (by (try simp) <;> omega) _) | (refine Below.setCell ?_ (by (try simp) <;> omega) _)))), old_cell zs u1 (by (repeat (first | exact Below.refl _ _ | assumption | refine bchain (by assumption) ?_ | refine balloc ?_ _ | apply Below.drew | apply below_drewN | (refine Below.alloc ?_ (by (try simp) <;> omega) _) | (refine Below.setCell ?_ (by (try simp) <;> omega) _)))), old_cell zb y0 (by (repeat (first | exact Below.refl _ _ | assumption | refine bchain (by assumption) ?_ | refine balloc ?_ _ | apply Below.drew | apply below_drewN | (refine Below.alloc ?_ (by (try simp) <;> omega) _) | (refine Below.setCell ?_ (by (try simp) <;> omega) _)))), old_cell zb y1 (by (repeat (first | exact Below.refl _ _ | assumption | refine bchain (by assumption) ?_ | refine balloc ?_ _ | apply Below.drew | apply below_drewN | (refine Below.alloc ?_ (by (try simp) <;> omega) _) | (refine Below.setCell ?_ (by (try simp) <;> omega) _)))), old_cell zy v0 (by (repeat (first | exact Below.refl _ _ | assumption | refine bchain (by assumption) ?_ | refine balloc ?_ _ | apply Below.drew | apply below_drewN | (refine Below.alloc ?_ (by (try simp) <;> omega) _) | (refine Below.setCell ?_ (by (try simp) <;> omega) _)))), old_cell zy v1 (by (repeat (first | exact Below.refl _ _ | assumption | refine bchain (by assumption) ?_ | refine balloc ?_ _ | apply Below.drew | apply below_drewN | (refine Below.alloc ?_ (by (try simp) <;> omega) _) | (refine Below.setCell ?_ (by (try simp) <;> omega) _))))⟩)
            (first | (go_at_call 79; refine (hQ.out _).mono ?_; rintro r w3 ⟨rfl, hb3⟩; have hS3 := Lib.hid (hSb.out.below (show Below wb.heap.size wb w3 by (repeat (first | exact Below.refl _ _ | assumption | refine bchain (by assumption) ?_ | refine balloc ?_ _ | apply Below.drew | apply below_drewN | (refine Below.alloc ?_ (by (try simp) <;> omega) _) | (refine Below.setCell ?_ (by (try simp) <;> omega) _))))); have q0 := hS3.out.1; have q1 := hS3.out.2.1; have q2 := hS3.out.2.2.1; dsimp only at q0 q1) | (go_at_call 78; refine Or.elim (Classical.em (Hid False)) (fun hf => ?_) (fun _ => panic_call (hR2.out _) (fun w4 hb4 => ⟨rfl, hE, by (repeat (first | exact Below.refl _ _ | assumption | refine bchain (by assumption) ?_ | refine balloc ?_ _ | apply Below.drew | apply below_drewN | (refine Below.alloc ?_ (by (try simp) <;> omega) _) | (refine Below.setCell ?_ (by (try simp) <;> omega) _)))⟩)); refine fake_call (v := .agg #[.int .i64 0, .int .i64 0]) (by assumption) ?_))
          all_goals exact (Hid.out (p := False) (by assumption)).elim
        | some z =>
          obtain ⟨z1, z2⟩ := z
          have hR2 := Lib.hid (fun W => (hR.out W).mono fun e w' (h : e = qe (some (z1, z2)) ∧ Below W.heap.size W w') => (show e = .returned (.agg #[.int .i64 z1, .int .i64 z2]) ∧ Below W.heap.size W w' from h))
          clear hR
          go_region_with (first | (go_at_call 79; refine (hQ.out _).mono ?_; rintro r w3 ⟨rfl, hb3⟩; have hS3 := Lib.hid (hSb.out.below (show Below wb.heap.size wb w3 by (repeat (first | exact Below.refl _ _ | assumption | refine bchain (by assumption) ?_ | refine balloc ?_ _ | apply Below.drew | apply below_drewN | (refine Below.alloc ?_ (by (try simp) <;> omega) _) | (refine Below.setCell ?_ (by (try simp) <;> omega) _))))); have q0 := hS3.out.1; have q1 := hS3.out.2.1; dsimp only at q0 q1) | (go_at_call 78; refine (hR2.out _).mono ?_; rintro r w4 ⟨rfl, hb4⟩; have hS4 := Lib.hid (hS3.out.below (show Below w3.heap.size w3 w4 by (repeat (first | exact Below.refl _ _ | assumption | refine bchain (by assumption) ?_ | refine balloc ?_ _ | apply Below.drew | apply below_drewN | (refine Below.alloc ?_ (by (try simp) <;> omega) _) | (refine Below.setCell ?_ (by (try simp) <;> omega) _))))); have p0 := hS4.out.1; have p1 := hS4.out.2.1; have p2 := hS4.out.2.2.1; dsimp only at p0 p1; have hst := Lib.hid (hS4.out.store (z1, z2))))
          all_goals go_wp2
          all_goals (go_roundw; (case rel => exact ⟨k + 1, (z1, z2), by omega, by go_num, hN3, hst.out⟩); (case measure => simp [intOf]; omega))
    · have hd := decide_eq_false (show ¬ ((k : Int) < (n : Int)) by omega)
      obtain rfl : k = n := by omega
      obtain ⟨p, q⟩ := s
      obtain ⟨h0, h1, h2, h3, h4, h5, h6, h7, h8⟩ := hS
      dsimp only at h0 h1
      have ht := twoCells h4 h5 (.int .i64 p) (.int .i64 q)
      go_wp2
      rw [hs]
      exact bodyPost_ret (v := .agg #[.int .i64 p, .int .i64 q]) (by simp [results, Try.results50, go_sem, ht.1, ht.2]) rfl ⟨rfl, by (repeat (first | exact Below.refl _ _ | assumption | refine bchain (by assumption) ?_ | refine balloc ?_ _ | apply Below.drew | apply below_drewN | (refine Below.alloc ?_ (by (try simp) <;> omega) _) | (refine Below.setCell ?_ (by (try simp) <;> omega) _)))⟩

end
end Go.Proofs.Ytonjmoiognbjbab
