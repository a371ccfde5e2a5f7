/-
  WHICH MATRICES ARE VALID: the model's contract.
-/
import Derived.Test.YtdibcchhamapjacFVm
import Derived.Deep.DeepCutAuto
import Derived.BigQuiet
namespace Go.Proofs.Ytdibcchhamapjac
open Go.RowKit
set_option maxRecDepth 100000

/-- the place at a, b is valid, and the same as its mirror -/
def Pl (m : List (List (Int × Int))) (a b : Nat) : Prop := VP (gAt (rAt m a) b) ∧ gAt (rAt m a) b = gAt (rAt m b) a
theorem VM.pl {m : List (List (Int × Int))} (h : VM m) {a b : Nat} (ha : a < m.length) (hb : b < m.length) : Pl m a b := by
  refine ⟨(h.2.1 a ha).2 b (by rw [(h.2.1 a ha).1]; exact hb), ?_⟩
  rcases Nat.lt_trichotomy a b with c | c | c
  · exact (h.2.2.1 b a hb c).symm
  · rw [c]
  · exact h.2.2.1 a b ha c
/-- a world whose old blocks are as they were -/
structure BW (w : World) where
  W : World
  h : Below w.heap.size w W
instance (w : World) : Nonempty (BW w) := ⟨⟨w, Below.refl _ _⟩⟩
/-- A REGION THAT READS, WITH CALLEES THAT MAKE NEW BLOCKS ALONE: one walk in the text's order. -/
theorem wp_region_below {P : Program} {id : Nat} {Q : Exit → Act → World → Prop} {a : Act} {w : World} {l : List Oper} (hm : P.follows .mixedOrders = true) (hB : Region.lexB .any l.toArray = true)
    (h : wpQuiet P l.toArray (fun w' => ∃ p : BW w, w' = p.W) (fun a' => ∀ w', (∃ p : BW w, w' = p.W) → Q .normal a' w') l a) : (Code.region id l.toArray true).wp P Q a w :=
  wp_region_quiet (C := fun w' => ∃ p : BW w, w' = p.W) hm hB ⟨⟨_, (Below.refl _ w).drew⟩, rfl⟩ (by simpa using h)
theorem bw_of {P : Program} {f : FuncId} {args : Array Value} {w : World} {p : BW w} {v : Value} (h : Calls P f args p.W fun e w' => e = .returned v ∧ Below p.W.heap.size p.W w') : Calls P f args p.W fun e w' => e = .returned v ∧ ∃ q : BW w, w' = q.W :=
  h.mono fun _ w' ⟨he, hb⟩ => ⟨he, ⟨w', p.h.trans (hb.mono p.h.size)⟩, rfl⟩
theorem bw_cell {w : World} {B o : Nat} {v : Value} (hz : B < w.heap.size) (hc : w.cell? ⟨B, o, none⟩ = some v) (p : BW w) : p.W.cell? ⟨B, o, none⟩ = some v := old_cell hz hc p.h
section
variable (w : World)
set_option maxHeartbeats 4000000 in
theorem svm_any (v : Value) (m : List (List (Int × Int))) (hS : SlM w v m) (hm : m.length ≤ 1048576) (hr : ∀ i, i < m.length → (rAt m i).length ≤ 1048576) (B : Bool) (hBt : VM m → B = true) (hBf : ¬ VM m → B = false) :
    Calls Try.prog 45 #[v] w fun r w' => r = .returned (.bool B) ∧ Below w.heap.size w w' := by
  obtain ⟨a, cap, rfl, hR⟩ := hS.rows
  clear hS
  replace hBt := Lib.hid hBt
  replace hBf := Lib.hid hBf
  obtain ⟨l, hn⟩ : ∃ l, l = m.length := ⟨_, rfl⟩
  rw [← hn] at hm hr ⊢
  replace hR := Lib.hid hR
  replace hr := Lib.hid hr
  replace hn := Lib.hid hn
  by_cases h8 : l ≤ 8
  · have hd8 : decide ((8 : Int) < (l : Int)) = false := decide_eq_false (by omega)
    go_enter Try.func45, Try.ntmps45
    go_wp2
    go_loopw [3] (fun i wr => ∃ k : Nat, k ≤ l ∧ i = .int .i64 k ∧ (∀ j, j < k → (rAt m j).length = l) ∧ Below w.heap.size w wr) (fun i _ => l - (intOf i).toNat)
    case atStart => exact ⟨0, by omega, rfl, fun j hj => by omega, by (repeat (first | exact Below.refl _ _ | assumption | refine bchain (by assumption) ?_ | refine balloc ?_ _ | apply Below.drew | apply below_drewN | (refine Below.alloc ?_ (by (try simp) <;> omega) _) | (refine Below.setCell ?_ (by (try simp) <;> omega) _)))⟩
    case round =>
      obtain ⟨k, hk, rfl, hsq, hB⟩ := hrel
      by_cases hlt : k < l
      · obtain ⟨b, off, rfl, hb, u, hu, hSu⟩ := hR.out k (by have := hn.out; omega)
        have s0 : wr.cell? ⟨b, off + k, none⟩ = some u := (hB.cell (p := ⟨b, _, none⟩) hb).trans hu
        have hrk := hr.out k hlt
        obtain ⟨a2, c2, rfl, _⟩ := hSu
        obtain ⟨l2, hl2⟩ : ∃ l2, (rAt m k).length = l2 := ⟨_, rfl⟩
        have hkn : (k : Int) < (l : Int) := by omega
        rw [hl2] at s0 hrk
        clear hu
        replace hsq := Lib.hid hsq
        by_cases hlr : l2 = l
        · subst hlr
          have hnx := Lib.hid (show ∀ j, j < k + 1 → (rAt m j).length = l2 from fun j hj => by
            by_cases e : j = k
            · rw [e]; exact hl2
            · exact hsq.out j (by omega))
          clear hl2
          go_wp2
          go_roundw
          case rel => exact ⟨k + 1, by omega, by go_num, hnx.out, by (repeat (first | exact Below.refl _ _ | assumption | refine bchain (by assumption) ?_ | refine balloc ?_ _ | apply Below.drew | apply below_drewN | (refine Below.alloc ?_ (by (try simp) <;> omega) _) | (refine Below.setCell ?_ (by (try simp) <;> omega) _)))⟩
          case measure => simp [intOf]; omega
        · obtain rfl : B = false := hBf.out (fun c => hlr (by rw [← hl2, (c.2.1 k (by have := hn.out; omega)).1, hn.out]))
          have hne2 : ((l2 : Int) != (l : Int)) = true := by simp; omega
          clear hBt hBf hl2 hlr
          go_wp2
          go_ret
          exact ⟨rfl, by (repeat (first | exact Below.refl _ _ | assumption | refine bchain (by assumption) ?_ | refine balloc ?_ _ | apply Below.drew | apply below_drewN | (refine Below.alloc ?_ (by (try simp) <;> omega) _) | (refine Below.setCell ?_ (by (try simp) <;> omega) _)))⟩
      · have hd := decide_eq_false (show ¬ ((k : Int) < (l : Int)) by omega)
        obtain rfl : l = k := by omega
        replace hsq := Lib.hid hsq
        go_wp2
        go_loopw [4, 5] (fun i _ wr2 => ∃ k : Nat, k ≤ l ∧ i = .int .i64 k ∧ (∀ a b, a < k → b < l → Pl m a b) ∧ Below w.heap.size w wr2) (fun i _ _ => l - (intOf i).toNat)
        case atStart => exact ⟨0, by omega, rfl, fun a b h => by omega, by (repeat (first | exact Below.refl _ _ | assumption | refine bchain (by assumption) ?_ | refine balloc ?_ _ | apply Below.drew | apply below_drewN | (refine Below.alloc ?_ (by (try simp) <;> omega) _) | (refine Below.setCell ?_ (by (try simp) <;> omega) _)))⟩
        case round =>
          obtain ⟨k, hk2, rfl, hsy, hB2⟩ := hrel
          clear hlt hd hk
          by_cases hlt : k < l
          · obtain ⟨b, off, rfl, hb, u, hu, hSu⟩ := hR.out k (by have := hn.out; omega)
            have hlk : (rAt m k).length = l := hsq.out k hlt
            obtain ⟨a2, c2, rfl, hu1, hu2, hu3⟩ := hSu
            obtain ⟨b2, off2, rfl, hb2, hg⟩ := hu3 (by intro c; rw [c] at hlk; simp at hlk; omega)
            rw [hlk] at hu1 hu
            have hg2 := Lib.hid (fun i (hi : i < l) => hg i (by rw [hlk]; exact hi))
            have hkn : (k : Int) < (l : Int) := by omega
            have hkn0 : (0 : Int) ≤ (k : Int) := by omega
            clear hg hu3
            replace hu := Lib.hid hu
            replace hsy := Lib.hid hsy
            replace hlk := Lib.hid hlk
            go_wp2
            go_loopw [5] (fun i wr3 => ∃ j : Nat, j ≤ l ∧ i = .int .i64 j ∧ (∀ b, b < j → Pl m k b) ∧ Below w.heap.size w wr3) (fun i _ => l - (intOf i).toNat)
            case atStart => exact ⟨0, by omega, rfl, fun b h => by omega, by (repeat (first | exact Below.refl _ _ | assumption | refine bchain (by assumption) ?_ | refine balloc ?_ _ | apply Below.drew | apply below_drewN | (refine Below.alloc ?_ (by (try simp) <;> omega) _) | (refine Below.setCell ?_ (by (try simp) <;> omega) _)))⟩
            case round =>
              obtain ⟨j, hj, rfl, hsj, hB3⟩ := hrel
              by_cases hjl : j < l
              · obtain ⟨b', off', e', hb', u', hu', hSu'⟩ := hR.out j (by have := hn.out; omega)
                cases e'
                have s0 : wr.cell? ⟨b, off + k, none⟩ = some (.slice (some ⟨b2, off2, none⟩) l c2) := (hB3.cell (p := ⟨b, _, none⟩) hb).trans hu.out
                have s1 : wr.cell? ⟨b, off + j, none⟩ = some u' := (hB3.cell (p := ⟨b, _, none⟩) hb).trans hu'
                have hlj : (rAt m j).length = l := hsq.out j (by omega)
                obtain ⟨a3, c3, rfl, hv1, hv2, hv3⟩ := hSu'
                obtain ⟨b3, off3, rfl, hb3, hg'⟩ := hv3 (by intro c; rw [c] at hlj; simp at hlj; omega)
                rw [hlj] at hv1 s1
                have hgk := hg' k (by rw [hlj]; omega)
                have hgj := hg2.out j (by omega)
                obtain ⟨x, y, hxy⟩ : ∃ x y, gAt (rAt m k) j = (x, y) := ⟨_, _, rfl⟩
                obtain ⟨x', y', hxy'⟩ : ∃ x y, gAt (rAt m j) k = (x, y) := ⟨_, _, rfl⟩
                have e0 : wr.cell? ⟨b2, off2 + j * 2, none⟩ = some (.int .i64 x) := by rw [hB3.cell (p := ⟨b2, _, none⟩) hb2, hgj.1, hxy]
                have e1 : wr.cell? ⟨b2, off2 + j * 2 + 1, none⟩ = some (.int .i64 y) := by rw [hB3.cell (p := ⟨b2, _, none⟩) hb2, hgj.2, hxy]
                have e2 : wr.cell? ⟨b3, off3 + k * 2, none⟩ = some (.int .i64 x') := by rw [hB3.cell (p := ⟨b3, _, none⟩) hb3, hgk.1, hxy']
                have e3 : wr.cell? ⟨b3, off3 + k * 2 + 1, none⟩ = some (.int .i64 y') := by rw [hB3.cell (p := ⟨b3, _, none⟩) hb3, hgk.2, hxy']
                have zb : b < wr.heap.size := Nat.lt_of_lt_of_le hb hB3.size
                have zb2 : b2 < wr.heap.size := Nat.lt_of_lt_of_le hb2 hB3.size
                have zb3 : b3 < wr.heap.size := Nat.lt_of_lt_of_le hb3 hB3.size
                have hjn2 : (j : Int) < (l : Int) := by omega
                have hjn0 : (0 : Int) ≤ (j : Int) := by omega
                have hC := Lib.hid (fun W => ok_any W x y)
                clear hg' hgk hgj hu' hv3
                replace hsj := Lib.hid hsj
                replace hlj := Lib.hid hlj
                by_cases hok : VF x y
                · rw [decide_eq_true hok] at hC
                  by_cases he : x = x' ∧ y = y'
                  · obtain ⟨rfl, rfl⟩ := he
                    have hq : ∀ W, (Op.equalIn 10000 36 (.agg #[.int .i64 x, .int .i64 y]) (.agg #[.int .i64 x, .int .i64 y])).run Try.prog W = .ok true W := fun W => by rw [eqFr]; simp
                    have hne := Lib.hid (show Pl m k j from ⟨by rw [hxy]; exact hok, hxy.trans hxy'.symm⟩)
                    clear hxy hxy' hok
                    go_wp2
                    go_region_held3 (fun W => W.cell? ⟨b, off + k, none⟩ = some (.slice (some ⟨b2, off2, none⟩) l c2) ∧ W.cell? ⟨b2, off2 + j * 2, none⟩ = some (.int .i64 x) ∧ W.cell? ⟨b2, off2 + j * 2 + 1, none⟩ = some (.int .i64 y) ∧ W.cell? ⟨b, off + j, none⟩ = some (.slice (some ⟨b3, off3, none⟩) l c3) ∧ W.cell? ⟨b3, off3 + k * 2, none⟩ = some (.int .i64 x) ∧ W.cell? ⟨b3, off3 + k * 2 + 1, none⟩ = some (.int .i64 y))
                      (exact ⟨old_cell zb s0 (by (repeat (first | exact Below.refl _ _ | assumption | refine bchain (by assumption) ?_ | refine balloc ?_ _ | apply Below.drew | apply below_drewN | (refine Below.alloc ?_ (by (try simp) <;> omega) _) | (refine Below.setCell ?_ (by (try simp) <;> omega) _)))), old_cell zb2 e0 (by (repeat (first | exact Below.refl _ _ | assumption | refine bchain (by assumption) ?_ | refine balloc ?_ _ | apply Below.drew | apply below_drewN | (refine Below.alloc ?_ (by (try simp) <;> omega) _) | (refine Below.setCell ?_ (by (try simp) <;> omega) _)))), old_cell zb2 e1 (by (repeat (first | exact Below.refl _ _ | assumption | refine bchain (by assumption) ?_ | refine balloc ?_ _ | apply Below.drew | apply below_drewN | (refine Below.alloc ?_ (by (try simp) <;> omega) _) | (refine Below.setCell ?_ (by (try simp) <;> omega) _)))), old_cell zb s1 (by (repeat (first | exact Below.refl _ _ | assumption | refine bchain (by assumption) ?_ | refine balloc ?_ _ | apply Below.drew | apply below_drewN | (refine Below.alloc ?_ (by (try simp) <;> omega) _) | (refine Below.setCell ?_ (by (try simp) <;> omega) _)))), old_cell zb3 e2 (by (repeat (first | exact Below.refl _ _ | assumption | refine bchain (by assumption) ?_ | refine balloc ?_ _ | apply Below.drew | apply below_drewN | (refine Below.alloc ?_ (by (try simp) <;> omega) _) | (refine Below.setCell ?_ (by (try simp) <;> omega) _)))), old_cell zb3 e3 (by (repeat (first | exact Below.refl _ _ | assumption | refine bchain (by assumption) ?_ | refine balloc ?_ _ | apply Below.drew | apply below_drewN | (refine Below.alloc ?_ (by (try simp) <;> omega) _) | (refine Below.setCell ?_ (by (try simp) <;> omega) _))))⟩)
                      (first | (go_at_call 51; refine (hC.out _).mono ?_; rintro r w3 ⟨rfl, hb3⟩))
                    go_wp2
                    go_roundw
                    case rel => exact ⟨j + 1, by omega, by go_num, fun i hi => by
                      by_cases e : i = j
                      · rw [e]; exact hne.out
                      · exact hsj.out i (by omega), by (repeat (first | exact Below.refl _ _ | assumption | refine bchain (by assumption) ?_ | refine balloc ?_ _ | apply Below.drew | apply below_drewN | (refine Below.alloc ?_ (by (try simp) <;> omega) _) | (refine Below.setCell ?_ (by (try simp) <;> omega) _)))⟩
                    case measure => simp [intOf]; omega
                  · have hq : ∀ W, (Op.equalIn 10000 36 (.agg #[.int .i64 x, .int .i64 y]) (.agg #[.int .i64 x', .int .i64 y'])).run Try.prog W = .ok false W := fun W => by
                      rw [eqFr]
                      have : (x == x' && y == y') = false := by
                        rw [Bool.eq_false_iff]
                        intro h
                        simp at h
                        exact he h
                      rw [this]
                    obtain rfl : B = false := hBf.out (fun c => he (by have h := (c.pl (a := k) (b := j) (by have := hn.out; omega) (by have := hn.out; omega)).2; rw [hxy, hxy'] at h; cases h; exact ⟨rfl, rfl⟩))
                    clear he hxy hxy' hBt hBf hok
                    go_wp2
                    go_region_held3 (fun W => W.cell? ⟨b, off + k, none⟩ = some (.slice (some ⟨b2, off2, none⟩) l c2) ∧ W.cell? ⟨b2, off2 + j * 2, none⟩ = some (.int .i64 x) ∧ W.cell? ⟨b2, off2 + j * 2 + 1, none⟩ = some (.int .i64 y) ∧ W.cell? ⟨b, off + j, none⟩ = some (.slice (some ⟨b3, off3, none⟩) l c3) ∧ W.cell? ⟨b3, off3 + k * 2, none⟩ = some (.int .i64 x') ∧ W.cell? ⟨b3, off3 + k * 2 + 1, none⟩ = some (.int .i64 y'))
                      (exact ⟨old_cell zb s0 (by (repeat (first | exact Below.refl _ _ | assumption | refine bchain (by assumption) ?_ | refine balloc ?_ _ | apply Below.drew | apply below_drewN | (refine Below.alloc ?_ (by (try simp) <;> omega) _) | (refine Below.setCell ?_ (by (try simp) <;> omega) _)))), old_cell zb2 e0 (by (repeat (first | exact Below.refl _ _ | assumption | refine bchain (by assumption) ?_ | refine balloc ?_ _ | apply Below.drew | apply below_drewN | (refine Below.alloc ?_ (by (try simp) <;> omega) _) | (refine Below.setCell ?_ (by (try simp) <;> omega) _)))), old_cell zb2 e1 (by (repeat (first | exact Below.refl _ _ | assumption | refine bchain (by assumption) ?_ | refine balloc ?_ _ | apply Below.drew | apply below_drewN | (refine Below.alloc ?_ (by (try simp) <;> omega) _) | (refine Below.setCell ?_ (by (try simp) <;> omega) _)))), old_cell zb s1 (by (repeat (first | exact Below.refl _ _ | assumption | refine bchain (by assumption) ?_ | refine balloc ?_ _ | apply Below.drew | apply below_drewN | (refine Below.alloc ?_ (by (try simp) <;> omega) _) | (refine Below.setCell ?_ (by (try simp) <;> omega) _)))), old_cell zb3 e2 (by (repeat (first | exact Below.refl _ _ | assumption | refine bchain (by assumption) ?_ | refine balloc ?_ _ | apply Below.drew | apply below_drewN | (refine Below.alloc ?_ (by (try simp) <;> omega) _) | (refine Below.setCell ?_ (by (try simp) <;> omega) _)))), old_cell zb3 e3 (by (repeat (first | exact Below.refl _ _ | assumption | refine bchain (by assumption) ?_ | refine balloc ?_ _ | apply Below.drew | apply below_drewN | (refine Below.alloc ?_ (by (try simp) <;> omega) _) | (refine Below.setCell ?_ (by (try simp) <;> omega) _))))⟩)
                      (first | (go_at_call 51; refine (hC.out _).mono ?_; rintro r w3 ⟨rfl, hb3⟩))
                    go_wp2
                    go_ret
                    exact ⟨rfl, by (repeat (first | exact Below.refl _ _ | assumption | refine bchain (by assumption) ?_ | refine balloc ?_ _ | apply Below.drew | apply below_drewN | (refine Below.alloc ?_ (by (try simp) <;> omega) _) | (refine Below.setCell ?_ (by (try simp) <;> omega) _)))⟩
                · rw [decide_eq_false hok] at hC
                  obtain rfl : B = false := hBf.out (fun c => hok (by have h := (c.pl (a := k) (b := j) (by have := hn.out; omega) (by have := hn.out; omega)).1; rw [hxy] at h; exact h))
                  clear hxy hxy' hBt hBf hok
                  have q0 := bw_cell zb s0
                  have q1 := bw_cell zb2 e0
                  have q2 := bw_cell zb2 e1
                  clear e2 e3 s1 s0 e0 e1 hu hsy hlk hlj hsj hg2 hR hr
                  go_wp2
                  refine wp_region_below (by kernel_rfl) (by kernel_rfl) ?_
                  iterate 7 (quiet_step (fail))
                  refine wpQuiet_step (fun K hK => ?_)
                  go_simp
                  apply Exists.intro
                  refine ⟨fun p => ?_, hK _ ?_⟩
                  · exact bw_of (w := wr) (p := p) (hC.out p.W)
                  clear hK K
                  iterate 2 (quiet_step (fail))
                  iterate 15 go_big_quiet_skip
                  quiet_step (fail)
                  refine wpQuiet_nil ?_
                  intro _ hw'
                  obtain ⟨⟨W9, hb9⟩, rfl⟩ := hw'
                  go_wp2
                  go_ret
                  exact ⟨rfl, by (repeat (first | exact Below.refl _ _ | assumption | refine bchain (by assumption) ?_ | refine balloc ?_ _ | apply Below.drew | apply below_drewN | (refine Below.alloc ?_ (by (try simp) <;> omega) _) | (refine Below.setCell ?_ (by (try simp) <;> omega) _)))⟩
              · have hd := decide_eq_false (show ¬ ((j : Int) < (l : Int)) by omega)
                obtain rfl : l = j := by omega
                have hsn := Lib.hid (show ∀ a b, a < k + 1 → b < l → Pl m a b from fun a b h1 h2 => by
                  by_cases e : a = k
                  · subst e; exact hsj b h2
                  · exact hsy.out a b (by omega) h2)
                clear hsj
                go_wp2
                go_roundw
                case rel => exact ⟨k + 1, by omega, by go_num, hsn.out, by (repeat (first | exact Below.refl _ _ | assumption | refine bchain (by assumption) ?_ | refine balloc ?_ _ | apply Below.drew | apply below_drewN | (refine Below.alloc ?_ (by (try simp) <;> omega) _) | (refine Below.setCell ?_ (by (try simp) <;> omega) _)))⟩
                case measure => simp [intOf]; omega
          · have hd := decide_eq_false (show ¬ ((k : Int) < (l : Int)) by omega)
            obtain rfl : l = k := by omega
            obtain rfl : B = true := hBt.out ⟨by have := hn.out; omega, fun i hi => ⟨(hsq.out i (by have := hn.out; omega)).trans hn.out, fun j hj => (hsy i j (by have := hn.out; omega) (by have := hsq.out i (by have := hn.out; omega); omega)).1⟩,
              ⟨fun a b h1 h2 => (hsy a b (by have := hn.out; omega) (by have := hn.out; omega)).2, fun b h => by omega⟩⟩
            clear hsy hBt hBf
            go_wp2
            go_ret
            exact ⟨rfl, hB2⟩
  · have hd8 : decide ((8 : Int) < (l : Int)) = true := decide_eq_true (by omega)
    obtain rfl : B = false := hBf.out (fun c => h8 (by rw [hn.out]; exact c.1))
    clear hBt hBf
    go_enter Try.func45, Try.ntmps45
    go_wp2
    go_ret
    exact ⟨rfl, by (repeat (first | exact Below.refl _ _ | assumption | refine bchain (by assumption) ?_ | refine balloc ?_ _ | apply Below.drew | apply below_drewN | (refine Below.alloc ?_ (by (try simp) <;> omega) _) | (refine Below.setCell ?_ (by (try simp) <;> omega) _)))⟩
end
end Go.Proofs.Ytdibcchhamapjac
