/-
  SameMatrix: the program's and the model's contracts.
-/
import Derived.Test.YtonjmoiognbjbabFSame
namespace Go.Proofs.Ytonjmoiognbjbab
open Go.RowKit
set_option maxRecDepth 100000

/-- the rows of a list, where they lie -/
def Rows (w : World) (a : Option Addr) (m : List (List (Int × Int))) : Prop := ∀ i, i < m.length → ∃ b off, a = some ⟨b, off, none⟩ ∧ b < w.heap.size ∧ Row w b off (rAt m i) i
theorem SlM.rows {w : World} {v : Value} {m : List (List (Int × Int))} (h : SlM w v m) : ∃ a cap, v = .slice a m.length cap ∧ Rows w a m := by
  obtain ⟨a, cap, e, _, _, h3⟩ := h
  refine ⟨a, cap, e, fun i hi => ?_⟩
  obtain ⟨b, off, e2, hlt, hc⟩ := h3 (by intro c; rw [c] at hi; simp at hi)
  exact ⟨b, off, e2, hlt, hc i hi⟩
section
variable (w : World)
set_option maxHeartbeats 1000000 in
theorem eqfn_any (a a' : Option Addr) (cap cap' : Nat) (m n : List (List (Int × Int))) (hR : Rows w a m) (hR' : Rows w a' n) (hm : m.length ≤ 1048576) (hr : ∀ i, i < m.length → (rAt m i).length ≤ 1048576) :
    Calls Try.prog 53 #[.slice a m.length cap, .slice a' n.length cap', .func (.func 54) #[] #[]] w
      fun r w' => r = .returned (.bool (decide (m = n))) ∧ Below w.heap.size w w' := by
  obtain ⟨B, hBe⟩ : ∃ B, decide (m = n) = B := ⟨_, rfl⟩
  rw [hBe]
  replace hBe := Lib.hid hBe
  by_cases hl : m.length = n.length
  · rw [← hl]
    obtain ⟨l, hn⟩ : ∃ l, l = m.length := ⟨_, rfl⟩
    rw [← hn] at hm hr hl ⊢
    replace hR := Lib.hid hR
    replace hR' := Lib.hid hR'
    replace hr := Lib.hid hr
    replace hn := Lib.hid hn
    replace hl := Lib.hid hl
    go_enter Try.func53, Try.ntmps53
    go_wp2
    go_loopw [7, 8, 9, 17] (fun _ _ _ i wr => ∃ k : Nat, k ≤ l ∧ i = .int .i64 k ∧ (∀ j, j < k → rAt m j = rAt n j) ∧ Below w.heap.size w wr) (fun _ _ _ i _ => l - (intOf i).toNat)
    case atStart => exact ⟨0, by omega, rfl, fun j hj => by omega, by (repeat (first | exact Below.refl _ _ | assumption | refine bchain (by assumption) ?_ | refine balloc ?_ _ | apply Below.drew | apply below_drewN | (refine Below.alloc ?_ (by (try simp) <;> omega) _) | (refine Below.setCell ?_ (by (try simp) <;> omega) _)))⟩
    case round =>
      obtain ⟨k, hk, rfl, heq, hB⟩ := hrel
      by_cases hlt : k < l
      · obtain ⟨b, off, rfl, hb, u, hu, hSu⟩ := hR.out k (by have := hn.out; omega)
        obtain ⟨b', off', rfl, hb', u', hu', hSu'⟩ := hR'.out k (by have := hl.out; omega)
        have s0 : wr.cell? ⟨b, off + k, none⟩ = some u := (hB.cell (p := ⟨b, _, none⟩) hb).trans hu
        have s1 : wr.cell? ⟨b', off' + k, none⟩ = some u' := (hB.cell (p := ⟨b', _, none⟩) hb').trans hu'
        have hC := Lib.hid (sleq_any wr u u' (rAt m k) (rAt n k) (hSu.below hB) (hSu'.below hB) (hr.out k hlt))
        obtain ⟨a2, c2, rfl, _⟩ := hSu
        obtain ⟨a3, c3, rfl, _⟩ := hSu'
        obtain ⟨l2, hl2⟩ : ∃ l2, (rAt m k).length = l2 := ⟨_, rfl⟩
        obtain ⟨l3, hl3⟩ : ∃ l3, (rAt n k).length = l3 := ⟨_, rfl⟩
        rw [hl2] at hC s0
        rw [hl3] at hC s1
        have hkn : (k : Int) < (l : Int) := by omega
        have hkn0 : (0 : Int) ≤ (k : Int) := by omega
        clear hu hu' hl2 hl3
        replace heq := Lib.hid heq
        by_cases he : rAt m k = rAt n k
        · rw [decide_eq_true he] at hC
          replace he := Lib.hid he
          go_wp2_with fail
          refine hC.out.mono ?_
          rintro r3 w3 ⟨rfl, hb3⟩
          go_wp2
          go_roundw
          case rel => exact ⟨k + 1, by omega, by go_num, fun j hj => by
            by_cases e : j = k
            · rw [e]; exact he.out
            · exact heq.out j (by omega), by (repeat (first | exact Below.refl _ _ | assumption | refine bchain (by assumption) ?_ | refine balloc ?_ _ | apply Below.drew | apply below_drewN | (refine Below.alloc ?_ (by (try simp) <;> omega) _) | (refine Below.setCell ?_ (by (try simp) <;> omega) _)))⟩
          case measure => simp [intOf]; omega
        · rw [decide_eq_false he] at hC
          obtain rfl : B = false := hBe.out.symm.trans (decide_eq_false (fun c => he (by rw [c])))
          clear hBe he
          go_wp2_with fail
          refine hC.out.mono ?_
          rintro r3 w3 ⟨rfl, hb3⟩
          go_wp2
          go_ret
          exact ⟨rfl, by (repeat (first | exact Below.refl _ _ | assumption | refine bchain (by assumption) ?_ | refine balloc ?_ _ | apply Below.drew | apply below_drewN | (refine Below.alloc ?_ (by (try simp) <;> omega) _) | (refine Below.setCell ?_ (by (try simp) <;> omega) _)))⟩
      · have hd := decide_eq_false (show ¬ ((k : Int) < (l : Int)) by omega)
        obtain rfl : k = l := by omega
        obtain rfl : B = true := hBe.out.symm.trans (decide_eq_true (rAt_ext (hn.out.symm.trans hl.out) (fun i hi => heq i (by have := hn.out; omega))))
        clear heq hBe
        go_wp2
        go_ret
        exact ⟨rfl, hB⟩
  · obtain rfl : B = false := hBe.out.symm.trans (decide_eq_false (fun c => hl (by rw [c])))
    clear hBe
    obtain ⟨l, hn⟩ : ∃ l, l = m.length := ⟨_, rfl⟩
    obtain ⟨l', hn'⟩ : ∃ l, l = n.length := ⟨_, rfl⟩
    rw [← hn, ← hn'] at hl ⊢
    have hne2 : ((l : Int) != (l' : Int)) = true := by simp; omega
    clear hR hR' hn hn' hr hm
    go_enter Try.func53, Try.ntmps53
    go_wp2
    go_ret
    exact ⟨rfl, by (repeat (first | exact Below.refl _ _ | assumption | refine bchain (by assumption) ?_ | refine balloc ?_ _ | apply Below.drew | apply below_drewN | (refine Below.alloc ?_ (by (try simp) <;> omega) _) | (refine Below.setCell ?_ (by (try simp) <;> omega) _)))⟩
theorem ism_any (u v : Value) (m n : List (List (Int × Int))) (hS : SlM w u m) (hS' : SlM w v n) (hm : m.length ≤ 1048576) (hr : ∀ i, i < m.length → (rAt m i).length ≤ 1048576) :
    Calls Try.prog 26 #[u, v] w fun r w' => r = .returned (.bool (decide (m = n))) ∧ Below w.heap.size w w' := by
  obtain ⟨a, cap, rfl, hR⟩ := hS.rows
  obtain ⟨a', cap', rfl, hR'⟩ := hS'.rows
  have hC := Lib.hid (eqfn_any w a a' cap cap' m n hR hR' hm hr)
  obtain ⟨B, hBe⟩ : ∃ B, decide (m = n) = B := ⟨_, rfl⟩
  rw [hBe] at hC ⊢
  obtain ⟨l, hl⟩ : ∃ l, m.length = l := ⟨_, rfl⟩
  obtain ⟨l', hl'⟩ : ∃ l, n.length = l := ⟨_, rfl⟩
  rw [hl, hl'] at hC ⊢
  clear hS hS' hR hR' hr hm hl hl' hBe
  go_enter Try.func26, Try.ntmps26
  go_wp2_with fail
  refine hC.out.mono ?_
  rintro r3 w3 ⟨rfl, hb3⟩
  go_wp2
  go_ret
  exact ⟨rfl, by (repeat (first | exact Below.refl _ _ | assumption | refine bchain (by assumption) ?_ | refine balloc ?_ _ | apply Below.drew | apply below_drewN | (refine Below.alloc ?_ (by (try simp) <;> omega) _) | (refine Below.setCell ?_ (by (try simp) <;> omega) _)))⟩
set_option maxHeartbeats 2000000 in
theorem ssm_any (u v : Value) (m n : List (List (Int × Int))) (hS : SlM w u m) (hS' : SlM w v n) (hm : m.length ≤ 1048576) (hr : ∀ i, i < m.length → (rAt m i).length ≤ 1048576) :
    Calls Try.prog 25 #[u, v] w fun r w' => r = .returned (.bool (decide (m = n))) ∧ Below w.heap.size w w' := by
  obtain ⟨a, cap, rfl, hR⟩ := hS.rows
  obtain ⟨a', cap', rfl, hR'⟩ := hS'.rows
  clear hS hS'
  obtain ⟨B, hBe⟩ : ∃ B, decide (m = n) = B := ⟨_, rfl⟩
  rw [hBe]
  replace hBe := Lib.hid hBe
  by_cases hl : m.length = n.length
  · rw [← hl]
    obtain ⟨l, hn⟩ : ∃ l, l = m.length := ⟨_, rfl⟩
    rw [← hn] at hm hr hl ⊢
    replace hR := Lib.hid hR
    replace hR' := Lib.hid hR'
    replace hr := Lib.hid hr
    replace hn := Lib.hid hn
    replace hl := Lib.hid hl
    go_enter Try.func25, Try.ntmps25
    go_wp2
    go_loopw [5, 6] (fun i _ wr => ∃ k : Nat, k ≤ l ∧ i = .int .i64 k ∧ (∀ j, j < k → rAt m j = rAt n j) ∧ Below w.heap.size w wr) (fun i _ _ => l - (intOf i).toNat)
    case atStart => exact ⟨0, by omega, rfl, fun j hj => by omega, by (repeat (first | exact Below.refl _ _ | assumption | refine bchain (by assumption) ?_ | refine balloc ?_ _ | apply Below.drew | apply below_drewN | (refine Below.alloc ?_ (by (try simp) <;> omega) _) | (refine Below.setCell ?_ (by (try simp) <;> omega) _)))⟩
    case round =>
      obtain ⟨k, hk, rfl, heq, hB⟩ := hrel
      by_cases hlt : k < l
      · obtain ⟨b, off, rfl, hb, u, hu, hSu⟩ := hR.out k (by have := hn.out; omega)
        obtain ⟨b', off', rfl, hb', u', hu', hSu'⟩ := hR'.out k (by have := hl.out; omega)
        have s0 : wr.cell? ⟨b, off + k, none⟩ = some u := (hB.cell (p := ⟨b, _, none⟩) hb).trans hu
        have s1 : wr.cell? ⟨b', off' + k, none⟩ = some u' := (hB.cell (p := ⟨b', _, none⟩) hb').trans hu'
        have hrk := hr.out k hlt
        obtain ⟨a2, c2, rfl, hu1, hu2, hu3⟩ := hSu
        obtain ⟨a3, c3, rfl, hv1, hv2, hv3⟩ := hSu'
        obtain ⟨l2, hl2⟩ : ∃ l2, (rAt m k).length = l2 := ⟨_, rfl⟩
        obtain ⟨l3, hl3⟩ : ∃ l3, (rAt n k).length = l3 := ⟨_, rfl⟩
        rw [hl2] at hu1 hrk s0 hu
        rw [hl3] at hv1 s1 hu'
        have hkn : (k : Int) < (l : Int) := by omega
        have hkn0 : (0 : Int) ≤ (k : Int) := by omega
        replace heq := Lib.hid heq
        by_cases hlr : l2 = l3
        · subst hlr
          have hu4 : 0 < l2 → ∃ b off, a2 = some ⟨b, off, none⟩ ∧ b < w.heap.size ∧ ∀ i, i < l2 → GCell w b off (gAt (rAt m k) i) i := fun h => by rw [← hl2]; exact hu3 (by intro c; rw [c] at hl2; simp at hl2; omega)
          have hv4 : 0 < l2 → ∃ b off, a3 = some ⟨b, off, none⟩ ∧ b < w.heap.size ∧ ∀ i, i < l2 → GCell w b off (gAt (rAt n k) i) i := fun h => by rw [← hl3]; exact hv3 (by intro c; rw [c] at hl3; simp at hl3; omega)
          replace hu4 := Lib.hid hu4
          replace hv4 := Lib.hid hv4
          replace hl2 := Lib.hid hl2
          replace hl3 := Lib.hid hl3
          clear hu3 hv3
          replace hu := Lib.hid hu
          replace hu' := Lib.hid hu'
          go_wp2
          go_region_held3 (fun W => W.cell? ⟨b, off + k, none⟩ = some (.slice a2 l2 c2) ∧ W.cell? ⟨b', off' + k, none⟩ = some (.slice a3 l2 c3)) (exact ⟨s0, s1⟩) (fail)
          go_wp2
          go_loopw [6] (fun i wr2 => ∃ j : Nat, j ≤ l2 ∧ i = .int .i64 j ∧ (∀ i, i < j → gAt (rAt m k) i = gAt (rAt n k) i) ∧ Below w.heap.size w wr2) (fun i _ => l2 - (intOf i).toNat)
          case atStart => exact ⟨0, by omega, rfl, fun j hj => by omega, by (repeat (first | exact Below.refl _ _ | assumption | refine bchain (by assumption) ?_ | refine balloc ?_ _ | apply Below.drew | apply below_drewN | (refine Below.alloc ?_ (by (try simp) <;> omega) _) | (refine Below.setCell ?_ (by (try simp) <;> omega) _)))⟩
          case round =>
            obtain ⟨j, hj, rfl, heq2, hB2⟩ := hrel
            have s0' : wr.cell? ⟨b, off + k, none⟩ = some (.slice a2 l2 c2) := (hB2.cell (p := ⟨b, _, none⟩) hb).trans hu.out
            have s1' : wr.cell? ⟨b', off' + k, none⟩ = some (.slice a3 l2 c3) := (hB2.cell (p := ⟨b', _, none⟩) hb').trans hu'.out
            clear s0 s1
            by_cases hjl : j < l2
            · obtain ⟨b2, off2, rfl, hb2, hg⟩ := hu4.out (by omega)
              obtain ⟨b3, off3, rfl, hb3, hg'⟩ := hv4.out (by omega)
              obtain ⟨x, y, hxy⟩ : ∃ x y, gAt (rAt m k) j = (x, y) := ⟨_, _, rfl⟩
              obtain ⟨x', y', hxy'⟩ : ∃ x y, gAt (rAt n k) j = (x, y) := ⟨_, _, rfl⟩
              have e0 : wr.cell? ⟨b2, off2 + j * 2, none⟩ = some (.int .i64 x) := by rw [hB2.cell (p := ⟨b2, _, none⟩) hb2, (hg j hjl).1, hxy]
              have e1 : wr.cell? ⟨b2, off2 + j * 2 + 1, none⟩ = some (.int .i64 y) := by rw [hB2.cell (p := ⟨b2, _, none⟩) hb2, (hg j hjl).2, hxy]
              have e2 : wr.cell? ⟨b3, off3 + j * 2, none⟩ = some (.int .i64 x') := by rw [hB2.cell (p := ⟨b3, _, none⟩) hb3, (hg' j hjl).1, hxy']
              have e3 : wr.cell? ⟨b3, off3 + j * 2 + 1, none⟩ = some (.int .i64 y') := by rw [hB2.cell (p := ⟨b3, _, none⟩) hb3, (hg' j hjl).2, hxy']
              have hjn : (j : Int) < (l2 : Int) := by omega
              have hjn0 : (0 : Int) ≤ (j : Int) := by omega
              clear hg hg'
              replace heq2 := Lib.hid heq2
              by_cases he : x = x' ∧ y = y'
              · obtain ⟨rfl, rfl⟩ := he
                have hq : ∀ W, (Op.equalIn 10000 25 (.agg #[.int .i64 x, .int .i64 y]) (.agg #[.int .i64 x, .int .i64 y])).run Try.prog W = .ok true W := fun W => by rw [eqFr]; simp
                have hne := Lib.hid (hxy.trans hxy'.symm)
                clear hxy hxy'
                go_wp2
                go_region_held3 (fun W => W.cell? ⟨b, off + k, none⟩ = some (.slice (some ⟨b2, off2, none⟩) l2 c2) ∧ W.cell? ⟨b', off' + k, none⟩ = some (.slice (some ⟨b3, off3, none⟩) l2 c3) ∧ W.cell? ⟨b2, off2 + j * 2, none⟩ = some (.int .i64 x) ∧ W.cell? ⟨b2, off2 + j * 2 + 1, none⟩ = some (.int .i64 y) ∧ W.cell? ⟨b3, off3 + j * 2, none⟩ = some (.int .i64 x) ∧ W.cell? ⟨b3, off3 + j * 2 + 1, none⟩ = some (.int .i64 y))
                  (exact ⟨s0', s1', e0, e1, e2, e3⟩) (fail)
                go_wp2
                go_roundw
                case rel => exact ⟨j + 1, by omega, by go_num, fun i hi => by
                  by_cases e : i = j
                  · rw [e]; exact hne.out
                  · exact heq2.out i (by omega), by (repeat (first | exact Below.refl _ _ | assumption | refine bchain (by assumption) ?_ | refine balloc ?_ _ | apply Below.drew | apply below_drewN | (refine Below.alloc ?_ (by (try simp) <;> omega) _) | (refine Below.setCell ?_ (by (try simp) <;> omega) _)))⟩
                case measure => simp [intOf]; omega
              · have hq : ∀ W, (Op.equalIn 10000 25 (.agg #[.int .i64 x, .int .i64 y]) (.agg #[.int .i64 x', .int .i64 y'])).run Try.prog W = .ok false W := fun W => by
                  rw [eqFr]
                  have : (x == x' && y == y') = false := by
                    rw [Bool.eq_false_iff]
                    intro h
                    simp at h
                    exact he h
                  rw [this]
                have hd : decide (m = n) = false := decide_eq_false (fun c => he (by rw [c, hxy'] at hxy; cases hxy; exact ⟨rfl, rfl⟩))
                obtain rfl : B = false := hBe.out.symm.trans hd
                clear hd he hxy hxy' hBe
                go_wp2
                go_region_held3 (fun W => W.cell? ⟨b, off + k, none⟩ = some (.slice (some ⟨b2, off2, none⟩) l2 c2) ∧ W.cell? ⟨b', off' + k, none⟩ = some (.slice (some ⟨b3, off3, none⟩) l2 c3) ∧ W.cell? ⟨b2, off2 + j * 2, none⟩ = some (.int .i64 x) ∧ W.cell? ⟨b2, off2 + j * 2 + 1, none⟩ = some (.int .i64 y) ∧ W.cell? ⟨b3, off3 + j * 2, none⟩ = some (.int .i64 x') ∧ W.cell? ⟨b3, off3 + j * 2 + 1, none⟩ = some (.int .i64 y'))
                  (exact ⟨s0', s1', e0, e1, e2, e3⟩) (fail)
                go_wp2
                go_ret
                exact ⟨rfl, by (repeat (first | exact Below.refl _ _ | assumption | refine bchain (by assumption) ?_ | refine balloc ?_ _ | apply Below.drew | apply below_drewN | (refine Below.alloc ?_ (by (try simp) <;> omega) _) | (refine Below.setCell ?_ (by (try simp) <;> omega) _)))⟩
            · have hd := decide_eq_false (show ¬ ((j : Int) < (l2 : Int)) by omega)
              obtain rfl : j = l2 := by omega
              have hrow := Lib.hid (gAt_ext (hl2.out.trans hl3.out.symm) (fun i hi => heq2 i (by have := hl2.out; omega)))
              clear heq2
              go_wp2
              go_roundw
              case rel => exact ⟨k + 1, by omega, by go_num, fun i hi => by
                by_cases e : i = k
                · rw [e]; exact hrow.out
                · exact heq.out i (by omega), by (repeat (first | exact Below.refl _ _ | assumption | refine bchain (by assumption) ?_ | refine balloc ?_ _ | apply Below.drew | apply below_drewN | (refine Below.alloc ?_ (by (try simp) <;> omega) _) | (refine Below.setCell ?_ (by (try simp) <;> omega) _)))⟩
              case measure => simp [intOf]; omega
        · obtain rfl : B = false := hBe.out.symm.trans (decide_eq_false (fun c => hlr (by rw [← hl2, ← hl3, c])))
          have hne2 : ((l2 : Int) != (l3 : Int)) = true := by simp; omega
          clear hBe hl2 hl3 hu3 hv3 hu hu'
          go_wp2
          go_region_held3 (fun W => W.cell? ⟨b, off + k, none⟩ = some (.slice a2 l2 c2) ∧ W.cell? ⟨b', off' + k, none⟩ = some (.slice a3 l3 c3)) (exact ⟨s0, s1⟩) (fail)
          go_wp2
          go_ret
          exact ⟨rfl, by (repeat (first | exact Below.refl _ _ | assumption | refine bchain (by assumption) ?_ | refine balloc ?_ _ | apply Below.drew | apply below_drewN | (refine Below.alloc ?_ (by (try simp) <;> omega) _) | (refine Below.setCell ?_ (by (try simp) <;> omega) _)))⟩
      · have hd := decide_eq_false (show ¬ ((k : Int) < (l : Int)) by omega)
        obtain rfl : k = l := by omega
        obtain rfl : B = true := hBe.out.symm.trans (decide_eq_true (rAt_ext (hn.out.symm.trans hl.out) (fun i hi => heq i (by have := hn.out; omega))))
        clear heq hBe
        go_wp2
        go_ret
        exact ⟨rfl, hB⟩
  · obtain rfl : B = false := hBe.out.symm.trans (decide_eq_false (fun c => hl (by rw [c])))
    clear hBe
    obtain ⟨l, hn⟩ : ∃ l, l = m.length := ⟨_, rfl⟩
    obtain ⟨l', hn'⟩ : ∃ l, l = n.length := ⟨_, rfl⟩
    rw [← hn, ← hn'] at hl ⊢
    have hne2 : ((l : Int) != (l' : Int)) = true := by simp; omega
    clear hR hR' hn hn' hr hm
    go_enter Try.func25, Try.ntmps25
    go_wp2
    go_ret
    exact ⟨rfl, by (repeat (first | exact Below.refl _ _ | assumption | refine bchain (by assumption) ?_ | refine balloc ?_ _ | apply Below.drew | apply below_drewN | (refine Below.alloc ?_ (by (try simp) <;> omega) _) | (refine Below.setCell ?_ (by (try simp) <;> omega) _)))⟩
end
end Go.Proofs.Ytonjmoiognbjbab
