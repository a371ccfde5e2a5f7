/-
  WHICH MATRICES ARE VALID: the program's and the model's contracts.
-/
import Derived.Test.YtdibcchhamapjacFSameM
import Derived.Test.YtdibcchhamapjacFList
namespace Go.Proofs.Ytdibcchhamapjac
open Go.RowKit
set_option maxRecDepth 100000

/-- the first k rows are square and valid -/
def SqV (m : List (List (Int × Int))) (k : Nat) : Prop := ∀ i, i < k → (rAt m i).length = m.length ∧ AllV (rAt m i)
/-- what is before the row k, and before the place j of it, is the same as its mirror -/
def Sym (m : List (List (Int × Int))) (k j : Nat) : Prop := (∀ a b, a < k → b < a → gAt (rAt m a) b = gAt (rAt m b) a) ∧ ∀ b, b < j → gAt (rAt m k) b = gAt (rAt m b) k
def VM (m : List (List (Int × Int))) : Prop := m.length ≤ 8 ∧ SqV m m.length ∧ Sym m m.length 0
theorem SqV.succ {m : List (List (Int × Int))} {k : Nat} (h : SqV m k) (hk : (rAt m k).length = m.length ∧ AllV (rAt m k)) : SqV m (k + 1) := fun i hi => by
  by_cases e : i = k
  · rw [e]; exact hk
  · exact h i (by omega)
section
variable (w : World)
set_option maxHeartbeats 2000000 in
theorem ivm_any (v : Value) (m : List (List (Int × Int))) (hS : SlM w v m) (hm : m.length ≤ 1048576) (hr : ∀ i, i < m.length → (rAt m i).length ≤ 1048576) (B : Bool) (hBt : VM m → B = true) (hBf : ¬ VM m → B = false) :
    Calls Try.prog 47 #[v] w fun r w' => r = .returned (.bool B) ∧ Below w.heap.size w w' := by
  obtain ⟨a, cap, rfl, hR⟩ := hS.rows
  clear hS
  replace hBt := Lib.hid hBt
  replace hBf := Lib.hid hBf
  obtain ⟨l, hn⟩ : ∃ l, l = m.length := ⟨_, rfl⟩
  rw [← hn] at hm hr ⊢
  replace hR := Lib.hid hR
  replace hr := Lib.hid hr
  replace hn := Lib.hid hn
  by_cases h8 : l ≤ 8
  · have hd8 : decide ((8 : Int) < (l : Int)) = false := decide_eq_false (by omega)
    go_enter Try.func47, Try.ntmps47
    go_wp2
    go_loopw [4, 13] (fun _ i wr => ∃ k : Nat, k ≤ l ∧ i = .int .i64 k ∧ SqV m k ∧ Below w.heap.size w wr) (fun _ i _ => l - (intOf i).toNat)
    case atStart => exact ⟨0, by omega, rfl, fun j hj => by omega, by (repeat (first | exact Below.refl _ _ | assumption | refine bchain (by assumption) ?_ | refine balloc ?_ _ | apply Below.drew | apply below_drewN | (refine Below.alloc ?_ (by (try simp) <;> omega) _) | (refine Below.setCell ?_ (by (try simp) <;> omega) _)))⟩
    case round =>
      obtain ⟨k, hk, rfl, hsq, hB⟩ := hrel
      by_cases hlt : k < l
      · obtain ⟨b, off, rfl, hb, u, hu, hSu⟩ := hR.out k (by have := hn.out; omega)
        have s0 : wr.cell? ⟨b, off + k, none⟩ = some u := (hB.cell (p := ⟨b, _, none⟩) hb).trans hu
        have hrk := hr.out k hlt
        obtain ⟨a2, c2, rfl, hLi⟩ := (hSu.below hB).lies
        obtain ⟨l2, hl2⟩ : ∃ l2, (rAt m k).length = l2 := ⟨_, rfl⟩
        have hkn : (k : Int) < (l : Int) := by omega
        clear hu hSu
        replace hsq := Lib.hid hsq
        by_cases hlr : l2 = l
        · by_cases hV : AllV (rAt m k)
          · have hC := Lib.hid (av_t wr a2 c2 (rAt m k) hrk hLi hV)
            rw [hl2] at hC s0 hrk
            have hnx := Lib.hid (hsq.out.succ ⟨hl2.trans (hlr.trans hn.out), hV⟩)
            subst hlr
            clear hV hl2
            go_wp2_with fail
            refine hC.out.mono ?_
            rintro r3 w3 ⟨rfl, hb3⟩
            go_wp2
            go_roundw
            case rel => exact ⟨k + 1, by omega, by go_num, hnx.out, by (repeat (first | exact Below.refl _ _ | assumption | refine bchain (by assumption) ?_ | refine balloc ?_ _ | apply Below.drew | apply below_drewN | (refine Below.alloc ?_ (by (try simp) <;> omega) _) | (refine Below.setCell ?_ (by (try simp) <;> omega) _)))⟩
            case measure => simp [intOf]; omega
          · obtain ⟨mm, h1, h2, h3⟩ := not_allV hV
            have hC := Lib.hid (av_f wr a2 c2 (rAt m k) hrk hLi mm h1 h2 h3)
            rw [hl2] at hC s0 hrk
            obtain rfl : B = false := hBf.out (fun c => hV (c.2.1 k (by have := hn.out; omega)).2)
            subst hlr
            clear hV hl2 hBt hBf h1 h2 h3
            go_wp2_with fail
            refine hC.out.mono ?_
            rintro r3 w3 ⟨rfl, hb3⟩
            go_wp2
            go_ret
            exact ⟨rfl, by (repeat (first | exact Below.refl _ _ | assumption | refine bchain (by assumption) ?_ | refine balloc ?_ _ | apply Below.drew | apply below_drewN | (refine Below.alloc ?_ (by (try simp) <;> omega) _) | (refine Below.setCell ?_ (by (try simp) <;> omega) _)))⟩
        · rw [hl2] at s0
          obtain rfl : B = false := hBf.out (fun c => hlr (by rw [← hl2, (c.2.1 k (by have := hn.out; omega)).1, hn.out]))
          have hne2 : ((l2 : Int) != (l : Int)) = true := by simp; omega
          clear hBt hBf hl2 hlr hLi
          go_wp2
          go_ret
          exact ⟨rfl, by (repeat (first | exact Below.refl _ _ | assumption | refine bchain (by assumption) ?_ | refine balloc ?_ _ | apply Below.drew | apply below_drewN | (refine Below.alloc ?_ (by (try simp) <;> omega) _) | (refine Below.setCell ?_ (by (try simp) <;> omega) _)))⟩
      · have hd := decide_eq_false (show ¬ ((k : Int) < (l : Int)) by omega)
        obtain rfl : l = k := by omega
        replace hsq := Lib.hid hsq
        go_wp2
        go_loopw [5, 6, 7, 30] (fun _ _ _ i wr2 => ∃ k : Nat, k ≤ l ∧ i = .int .i64 k ∧ Sym m k 0 ∧ Below w.heap.size w wr2) (fun _ _ _ i _ => l - (intOf i).toNat)
        case atStart => exact ⟨0, by omega, rfl, ⟨fun a b h => by omega, fun b h => by omega⟩, by (repeat (first | exact Below.refl _ _ | assumption | refine bchain (by assumption) ?_ | refine balloc ?_ _ | apply Below.drew | apply below_drewN | (refine Below.alloc ?_ (by (try simp) <;> omega) _) | (refine Below.setCell ?_ (by (try simp) <;> omega) _)))⟩
        case round =>
          obtain ⟨k, hk2, rfl, hsy, hB2⟩ := hrel
          clear hlt hd hk
          by_cases hlt : k < l
          · obtain ⟨b, off, rfl, hb, u, hu, hSu⟩ := hR.out k (by have := hn.out; omega)
            have s0 : wr.cell? ⟨b, off + k, none⟩ = some u := (hB2.cell (p := ⟨b, _, none⟩) hb).trans hu
            have hlk : (rAt m k).length = l := (hsq.out k hlt).1.trans hn.out.symm
            obtain ⟨a2, c2, rfl, hu1, hu2, hu3⟩ := hSu
            obtain ⟨b2, off2, rfl, hb2, hg⟩ := hu3 (by intro c; rw [c] at hlk; simp at hlk; omega)
            rw [hlk] at hu1 s0
            have hg2 := Lib.hid (fun i (hi : i < l) => hg i (by rw [hlk]; exact hi))
            have hkn : (k : Int) < (l : Int) := by omega
            have hkn0 : (0 : Int) ≤ (k : Int) := by omega
            clear hu hg hu3
            replace hsy := Lib.hid hsy
            replace hlk := Lib.hid hlk
            go_wp2
            go_loopw [7, 36] (fun _ i wr3 => ∃ j : Nat, j ≤ k ∧ i = .int .i64 j ∧ Sym m k j ∧ Below w.heap.size w wr3) (fun _ i _ => k - (intOf i).toNat)
            case atStart => exact ⟨0, by omega, rfl, hsy.out, by (repeat (first | exact Below.refl _ _ | assumption | refine bchain (by assumption) ?_ | refine balloc ?_ _ | apply Below.drew | apply below_drewN | (refine Below.alloc ?_ (by (try simp) <;> omega) _) | (refine Below.setCell ?_ (by (try simp) <;> omega) _)))⟩
            case round =>
              obtain ⟨j, hj, rfl, hsj, hB3⟩ := hrel
              by_cases hjl : j < k
              · obtain ⟨b', off', e', hb', u', hu', hSu'⟩ := hR.out j (by have := hn.out; omega)
                cases e'
                have s1 : wr.cell? ⟨b, off + j, none⟩ = some u' := (hB3.cell (p := ⟨b, _, none⟩) hb).trans hu'
                have hlj : (rAt m j).length = l := (hsq.out j (by omega)).1.trans hn.out.symm
                obtain ⟨a3, c3, rfl, hv1, hv2, hv3⟩ := hSu'
                obtain ⟨b3, off3, rfl, hb3, hg'⟩ := hv3 (by intro c; rw [c] at hlj; simp at hlj; omega)
                rw [hlj] at hv1 s1
                have hgk := hg' k (by rw [hlj]; omega)
                have hgj := hg2.out j (by omega)
                obtain ⟨x, y, hxy⟩ : ∃ x y, gAt (rAt m k) j = (x, y) := ⟨_, _, rfl⟩
                obtain ⟨x', y', hxy'⟩ : ∃ x y, gAt (rAt m j) k = (x, y) := ⟨_, _, rfl⟩
                have e0 : wr.cell? ⟨b2, off2 + j * 2, none⟩ = some (.int .i64 x) := by rw [hB3.cell (p := ⟨b2, _, none⟩) hb2, hgj.1, hxy]
                have e1 : wr.cell? ⟨b2, off2 + j * 2 + 1, none⟩ = some (.int .i64 y) := by rw [hB3.cell (p := ⟨b2, _, none⟩) hb2, hgj.2, hxy]
                have e2 : wr.cell? ⟨b3, off3 + k * 2, none⟩ = some (.int .i64 x') := by rw [hB3.cell (p := ⟨b3, _, none⟩) hb3, hgk.1, hxy']
                have e3 : wr.cell? ⟨b3, off3 + k * 2 + 1, none⟩ = some (.int .i64 y') := by rw [hB3.cell (p := ⟨b3, _, none⟩) hb3, hgk.2, hxy']
                have hjn : (j : Int) < (k : Int) := by omega
                have hjn2 : (j : Int) < (l : Int) := by omega
                have hjn0 : (0 : Int) ≤ (j : Int) := by omega
                clear hg' hgk hgj hu' hv3
                replace hsj := Lib.hid hsj
                replace hlj := Lib.hid hlj
                by_cases he : x = x' ∧ y = y'
                · obtain ⟨rfl, rfl⟩ := he
                  have hq : ∀ W, (Op.equalIn 10000 36 (.agg #[.int .i64 x, .int .i64 y]) (.agg #[.int .i64 x, .int .i64 y])).run Try.prog W = .ok true W := fun W => by rw [eqFr]; simp
                  have hne := Lib.hid (hxy.trans hxy'.symm)
                  clear hxy hxy'
                  go_wp2
                  go_region_held3 (fun W => W.cell? ⟨b2, off2 + j * 2, none⟩ = some (.int .i64 x) ∧ W.cell? ⟨b2, off2 + j * 2 + 1, none⟩ = some (.int .i64 y) ∧ W.cell? ⟨b, off + j, none⟩ = some (.slice (some ⟨b3, off3, none⟩) l c3) ∧ W.cell? ⟨b3, off3 + k * 2, none⟩ = some (.int .i64 x) ∧ W.cell? ⟨b3, off3 + k * 2 + 1, none⟩ = some (.int .i64 y))
                    (exact ⟨e0, e1, s1, e2, e3⟩) (fail)
                  go_wp2
                  go_roundw
                  case rel => exact ⟨j + 1, by omega, by go_num, ⟨hsj.out.1, fun i hi => by
                    by_cases e : i = j
                    · rw [e]; exact hne.out
                    · exact hsj.out.2 i (by omega)⟩, by (repeat (first | exact Below.refl _ _ | assumption | refine bchain (by assumption) ?_ | refine balloc ?_ _ | apply Below.drew | apply below_drewN | (refine Below.alloc ?_ (by (try simp) <;> omega) _) | (refine Below.setCell ?_ (by (try simp) <;> omega) _)))⟩
                  case measure => simp [intOf]; omega
                · have hq : ∀ W, (Op.equalIn 10000 36 (.agg #[.int .i64 x, .int .i64 y]) (.agg #[.int .i64 x', .int .i64 y'])).run Try.prog W = .ok false W := fun W => by
                    rw [eqFr]
                    have : (x == x' && y == y') = false := by
                      rw [Bool.eq_false_iff]
                      intro h
                      simp at h
                      exact he h
                    rw [this]
                  obtain rfl : B = false := hBf.out (fun c => he (by have h := c.2.2.1 k j (by have := hn.out; omega) hjl; rw [hxy, hxy'] at h; cases h; exact ⟨rfl, rfl⟩))
                  clear he hxy hxy' hBt hBf
                  go_wp2
                  go_region_held3 (fun W => W.cell? ⟨b2, off2 + j * 2, none⟩ = some (.int .i64 x) ∧ W.cell? ⟨b2, off2 + j * 2 + 1, none⟩ = some (.int .i64 y) ∧ W.cell? ⟨b, off + j, none⟩ = some (.slice (some ⟨b3, off3, none⟩) l c3) ∧ W.cell? ⟨b3, off3 + k * 2, none⟩ = some (.int .i64 x') ∧ W.cell? ⟨b3, off3 + k * 2 + 1, none⟩ = some (.int .i64 y'))
                    (exact ⟨e0, e1, s1, e2, e3⟩) (fail)
                  go_wp2
                  go_ret
                  exact ⟨rfl, by (repeat (first | exact Below.refl _ _ | assumption | refine bchain (by assumption) ?_ | refine balloc ?_ _ | apply Below.drew | apply below_drewN | (refine Below.alloc ?_ (by (try simp) <;> omega) _) | (refine Below.setCell ?_ (by (try simp) <;> omega) _)))⟩
              · have hd := decide_eq_false (show ¬ ((j : Int) < (k : Int)) by omega)
                obtain rfl : j = k := by omega
                have hsn : Sym m (j + 1) 0 := ⟨fun a b h1 h2 => by
                  by_cases e : a = j
                  · subst e; exact hsj.2 b h2
                  · exact hsj.1 a b (by omega) h2, fun b h => by omega⟩
                replace hsn := Lib.hid hsn
                clear hsj
                go_wp2
                go_roundw
                case rel => exact ⟨j + 1, by omega, by go_num, hsn.out, by (repeat (first | exact Below.refl _ _ | assumption | refine bchain (by assumption) ?_ | refine balloc ?_ _ | apply Below.drew | apply below_drewN | (refine Below.alloc ?_ (by (try simp) <;> omega) _) | (refine Below.setCell ?_ (by (try simp) <;> omega) _)))⟩
                case measure => simp [intOf]; omega
          · have hd := decide_eq_false (show ¬ ((k : Int) < (l : Int)) by omega)
            obtain rfl : l = k := by omega
            obtain rfl : B = true := hBt.out ⟨by have := hn.out; omega, by rw [← hn.out]; exact hsq.out, by rw [← hn.out]; exact hsy⟩
            clear hsy hBt hBf
            go_wp2
            go_ret
            exact ⟨rfl, hB2⟩
  · have hd8 : decide ((8 : Int) < (l : Int)) = true := decide_eq_true (by omega)
    obtain rfl : B = false := hBf.out (fun c => h8 (by rw [hn.out]; exact c.1))
    clear hBt hBf
    go_enter Try.func47, Try.ntmps47
    go_wp2
    go_ret
    exact ⟨rfl, by (repeat (first | exact Below.refl _ _ | assumption | refine bchain (by assumption) ?_ | refine balloc ?_ _ | apply Below.drew | apply below_drewN | (refine Below.alloc ?_ (by (try simp) <;> omega) _) | (refine Below.setCell ?_ (by (try simp) <;> omega) _)))⟩
end
end Go.Proofs.Ytdibcchhamapjac
