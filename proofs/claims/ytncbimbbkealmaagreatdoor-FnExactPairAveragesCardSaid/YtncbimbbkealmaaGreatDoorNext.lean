/-
  THE MODEL'S WAY THROUGH THE LISTS: the first one, the step from one to the next, in place: contracts.
-/
import Derived.Test.YtncbimbbkealmaaGreatDoorLists
import Derived.Test.YtncbimbbkealmaaGreatDoorOwnI
namespace Go.Proofs.YtncbimbbkealmaaGreatDoor
open Go.RowKit
set_option maxRecDepth 100000

/-- a list as a function -/
def lf (x : List Nat) (i : Nat) : Int := ((x[i]?.getD 0 : Nat) : Int)
section
variable (w : World)
theorem among_some (b off cap u : Nat) (x : List Nat) (bb : Bool) (hbb : x.contains u = bb) (l : Nat) (hxl : x.length = l) (hl : l ≤ 1048576) (hc : ∀ i, i < l → w.cell? ⟨b, off + i, none⟩ = some (.int .i64 ((x[i]?.getD 0 : Nat) : Int))) :
    Calls Tryz.prog 63 #[.slice (some ⟨b, off, none⟩) l cap, .int .i64 u] w fun e w' => e = .returned (.bool bb) ∧ w = w' := by
  replace hc := Lib.hid hc
  have hin : ∀ k, k < l → x[k]?.getD 0 = u → bb = true := fun k hk e => by
    rw [← hbb]
    rw [List.getElem?_eq_getElem (by omega)] at e
    simp only [Option.getD_some] at e
    have : u ∈ x := by rw [← e]; exact List.getElem_mem _
    simpa using this
  have hout : (∀ k, k < l → x[k]?.getD 0 ≠ u) → bb = false := fun h => by
    rw [← hbb]
    rw [Bool.eq_false_iff]
    intro c
    have hm : u ∈ x := by simpa using c
    obtain ⟨k, hk, e⟩ := List.getElem_of_mem hm
    exact h k (by omega) (by rw [List.getElem?_eq_getElem hk]; simpa using e)
  replace hin := Lib.hid hin
  replace hout := Lib.hid hout
  replace hxl := Lib.hid hxl
  clear hbb
  go_enter Tryz.func63, Tryz.ntmps63
  go_wp2
  go_loop [5] (fun i => ∃ k : Nat, k ≤ l ∧ i = .int .i64 k ∧ Hid (∀ j, j < k → x[j]?.getD 0 ≠ u)) (fun i => l - (intOf i).toNat)
  case atStart => exact ⟨0, by omega, rfl, fun j hj => by omega⟩
  case round =>
    obtain ⟨k, hk, rfl, hn⟩ := hrel
    by_cases hlt : k < l
    · have hs := hc.out k hlt
      have hi2 := Lib.hid (hin.out k hlt)
      obtain ⟨z, hz⟩ : ∃ z : Nat, x[k]?.getD 0 = z := ⟨_, rfl⟩
      rw [hz] at hs hi2
      by_cases c : z = u
      · subst c
        obtain rfl := hi2.out rfl
        clear hin hout hi2
        replace hz := Lib.hid hz
        go_wp2
        go_ret
        exact ⟨rfl, rfl⟩
      · have hne : ((z : Int) == (u : Int)) = false := by simpa using fun d : (z : Int) = u => c (by omega)
        have hn2 : Hid (∀ j, j < k + 1 → x[j]?.getD 0 ≠ u) := fun j hj => by
          by_cases d : j = k
          · subst d; rw [hz]; exact c
          · exact hn j (by omega)
        clear hn hi2
        replace hz := Lib.hid hz
        go_wp2
        go_round
        case rel => exact ⟨k + 1, by omega, by go_num, hn2⟩
        case measure => simp [intOf]; omega
    · obtain rfl : k = l := by omega
      have hdd := decide_eq_false (show ¬ ((k : Int) < (k : Int)) by omega)
      obtain rfl := hout.out hn
      clear hin hout
      go_wp2
      go_ret
      exact ⟨rfl, rfl⟩
theorem among_zero (a : Option Addr) (cap u : Nat) :
    Calls Tryz.prog 63 #[.slice a 0 cap, .int .i64 u] w fun e w' => e = .returned (.bool false) ∧ w = w' := by
  go_enter Tryz.func63, Tryz.ntmps63
  go_wp2
  go_loop [5] (fun i => i = .int .i64 0) (fun i => 0)
  case atStart => rfl
  case round =>
    obtain rfl := hrel
    go_wp2
    go_ret
    exact ⟨rfl, rfl⟩

theorem next_zero (a : Option Addr) (cap : Nat) (n : Int) :
    Calls Tryz.prog 100 #[.slice a 0 cap, .int .i64 n] w fun e w' => e = .returned (.bool false) ∧ w = w' := by
  go_enter Tryz.func100, Tryz.ntmps100
  go_wp2
  go_loop [6] (fun i => i = .int .i64 (-1)) (fun i => 0)
  case atStart => rfl
  case round =>
    obtain rfl := hrel
    go_wp2
    go_ret
    exact ⟨rfl, rfl⟩
end

theorem only_refl (B : Nat) (w : World) : w.grownBy w (some B) := ⟨rfl, rfl, rfl, Nat.le_refl _, fun _ _ _ => rfl⟩
theorem only_set {a w : World} {B : Nat} (h : a.grownBy w (some B)) (o : Nat) (v : Value) : a.grownBy (w.setCell ⟨B, o, none⟩ v) (some B) :=
  ⟨h.os, h.tape, h.output, by simpa [World.setCell] using h.size, fun i hi hne => (Below.heap_setCell w _ v i (fun e => hne (by rw [e]))).trans (h.block i hi hne)⟩
theorem only_trans {a b c : World} {B : Nat} (h : a.grownBy b (some B)) (k : b.grownBy c (some B)) : a.grownBy c (some B) :=
  ⟨k.os.trans h.os, k.tape.trans h.tape, k.output.trans h.output, Nat.le_trans h.size k.size, fun i hi hne => (k.block i (Nat.lt_of_lt_of_le hi h.size) hne).trans (h.block i hi hne)⟩
theorem CF.list {w : World} {B k : Nat} {x : List Nat} {m u : Nat} (h : CF w B k (lf x)) (hm : m < k) (hx : x.length = k) : CF (w.setCell ⟨B, m, none⟩ (.int .i64 (u : Int))) B k (lf (x.set m u)) :=
  h.set hm (by unfold lf; rw [List.getElem?_set_self (by omega)]; rfl) (fun i hi => by unfold lf; rw [List.getElem?_set_ne (Ne.symm hi)])
def NextPost (n k B : Nat) (x : List Nat) (w : World) (e : Ending) (w' : World) : Prop :=
  (∃ y, nxt n x = some y ∧ e = .returned (.bool true) ∧ y.length = k ∧ CF w' B k (lf y) ∧ (∀ o, o < k → w'.frozen? ⟨B, o, none⟩ = false) ∧ w.grownBy w' (some B)) ∨ (nxt n x = none ∧ e = .returned (.bool false) ∧ w = w')
def AllIn (l : List Nat) (u : Nat) : Prop := ∀ v, v < u → l.contains v = true
def AllOver (l : List Nat) (a u : Nat) : Prop := ∀ v, a < v → v < u → l.contains v = true

set_option maxHeartbeats 4000000 in
theorem next_some (w : World) (B cap k n : Nat) (x : List Nat) (hxk : x.length = k) (hk1 : 1 ≤ k) (hk : k ≤ 5) (hn : n ≤ 5) (hcap : k ≤ cap) (hcm : cap ≤ 9223372036854775807) (hv : ∀ i, i < k → x[i]?.getD 0 < n)
    (hc : CF w B k (lf x)) (hf : ∀ o, o < k → w.frozen? ⟨B, o, none⟩ = false) :
    Calls Tryz.prog 100 #[.slice (some ⟨B, 0, none⟩) k cap, .int .i64 n] w fun e w' => NextPost n k B x w e w' := by
  replace hc := Lib.hid hc
  replace hf := Lib.hid hf
  replace hv := Lib.hid hv
  replace hxk := Lib.hid hxk
  go_enter Tryz.func100, Tryz.ntmps100
  go_wp2
  go_loop [6] (fun s => ∃ j : Nat, j ≤ k ∧ s = .int .i64 ((j : Int) - 1) ∧ Hid (nxtAt n x j = nxt n x)) (fun s => (intOf s + 1).toNat)
  case atStart => exact ⟨k, Nat.le_refl _, rfl, by show nxtAt n x k = nxtAt n x x.length; rw [hxk.out]⟩
  case round =>
    obtain ⟨j, hj, rfl, hnx⟩ := hrel
    cases j with
    | zero =>
      rw [show ((0 : Nat) : Int) - 1 = -1 from rfl]
      go_wp2
      go_ret
      exact .inr ⟨by rw [← hnx.out]; rfl, rfl, rfl⟩
    | succ i =>
      rw [show ((i + 1 : Nat) : Int) - 1 = (i : Int) from by omega]
      have hik : i < k := by omega
      have hcell := hc.out i hik
      have hfz := hf.out i hik
      have hvi := hv.out i hik
      unfold lf at hcell
      obtain ⟨a, ha⟩ : ∃ a : Nat, x[i]?.getD 0 = a := ⟨_, rfl⟩
      rw [ha] at hcell hvi
      replace ha := Lib.hid ha
      go_wp2
      go_loop [7] (fun s => ∃ v : Nat, v ≤ n ∧ a < v ∧ s = .int .i64 v ∧ Hid (AllOver (x.take i) a v)) (fun s => n - (intOf s).toNat)
      case atStart => exact ⟨a + 1, by omega, by omega, by go_num, fun v h1 h2 => by omega⟩
      case round =>
        obtain ⟨v, hvn, hav, rfl, hall⟩ := hrel
        by_cases hlt : v < n
        · have hA : ∃ bb, (x.take i).contains v = bb ∧ Calls Tryz.prog 63 #[.slice (some ⟨B, 0, none⟩) i cap, .int .i64 v] w fun e w' => e = .returned (.bool bb) ∧ w = w' := by
            refine ⟨_, rfl, ?_⟩
            exact among_some w B 0 cap v (x.take i) _ rfl i (by rw [List.length_take, hxk.out]; omega) (by omega) (fun q hq => by rw [Nat.zero_add, hc.out q (by omega)]; unfold lf; rw [List.getElem?_take_of_lt hq])
          obtain ⟨bb, hbb, hA⟩ := hA
          replace hA := Lib.hid hA
          cases bb
          · replace hbb := Lib.hid hbb
            obtain ⟨y, hy⟩ : ∃ y, y = x.set i v := ⟨_, rfl⟩
            have hyk : Hid (y.length = k) := by show y.length = k; rw [hy, List.length_set]; exact hxk.out
            have hC1 := Lib.hid (hc.out.list (m := i) (u := v) hik hxk.out)
            have hres : Hid (nxt n x = some (fillTo y i (k - 1 - i))) := by
              show nxt n x = _
              rw [← hnx.out, nxtAt_some (vfree_some hlt (by rw [ha.out]; exact hav) hbb.out (fun u h1 h2 => hall.out u (by rw [ha.out] at h1; exact h1) h2)), hxk.out, hy]
            rw [← hy] at hC1
            replace hy := Lib.hid hy
            clear hbb hall hnx ha
            go_wp2_with (go_at_call 63; refine (hA.out).mono ?_; rintro r3 w3 ⟨rfl, rfl⟩)
            go_loopw [8] (fun s wr => ∃ j : Nat, j ≤ k - 1 - i ∧ s = .int .i64 ((i + 1 + j : Nat) : Int) ∧ CF wr B k (lf (fillTo y i j)) ∧ (∀ o, o < k → wr.frozen? ⟨B, o, none⟩ = false) ∧ w.grownBy wr (some B)) (fun s _ => k - (intOf s).toNat)
            case atStart => exact ⟨0, by omega, by go_num, hC1.out, fun o ho => by rw [World.frozen?_setCell]; exact hf.out o ho, only_set (only_refl _ _) _ _⟩
            case round =>
              obtain ⟨j, hj2, rfl, hC, hF, hO⟩ := hrel
              obtain ⟨m, hm⟩ : ∃ m, m = i + 1 + j := ⟨_, rfl⟩
              rw [← hm]
              by_cases hlt3 : m < k
              · obtain ⟨Y, hY⟩ : ∃ Y, Y = fillTo y i j := ⟨_, rfl⟩
                rw [← hY] at hC
                have hYk : Hid (Y.length = k) := by show Y.length = k; rw [hY, fillTo_length]; exact hyk.out
                have hcm2 := hC m hlt3
                have hfm := hF m hlt3
                obtain ⟨z, hz⟩ : ∃ z, lf Y m = z := ⟨_, rfl⟩
                rw [hz] at hcm2
                clear hz
                replace hC := Lib.hid hC
                replace hF := Lib.hid hF
                replace hO := Lib.hid hO
                replace hY := Lib.hid hY
                replace hm := Lib.hid hm
                go_wp2
                go_loop [9] (fun s => ∃ u : Nat, u ≤ m ∧ s = .int .i64 u ∧ Hid (AllIn (Y.take m) u)) (fun s => k - (intOf s).toNat)
                case atStart => exact ⟨0, by omega, rfl, fun v hv => by omega⟩
                case round =>
                  obtain ⟨u, hu, rfl, hin⟩ := hrel
                  have hA2 : ∃ bb, (Y.take m).contains u = bb ∧ Calls Tryz.prog 63 #[.slice (some ⟨B, 0, none⟩) m cap, .int .i64 u] wr fun e w' => e = .returned (.bool bb) ∧ wr = w' := by
                    refine ⟨_, rfl, ?_⟩
                    exact among_some wr B 0 cap u (Y.take m) _ rfl m (by rw [List.length_take, hYk.out]; omega) (by omega) (fun q hq => by rw [Nat.zero_add, hC.out q (by omega)]; unfold lf; rw [List.getElem?_take_of_lt hq])
                  obtain ⟨bb, hbb, hA2⟩ := hA2
                  replace hA2 := Lib.hid hA2
                  cases bb
                  · have hff := Lib.hid (ffree_eq (x := Y) (m := m) (by rw [hYk.out]; omega) hbb hin.out)
                    have hC2 := hC.out.list (m := m) (u := u) hlt3 hYk.out
                    rw [show Y.set m u = fillTo y i (j + 1) from by rw [fillTo, ← hY.out, ← hm.out, hff.out]] at hC2
                    replace hC2 := Lib.hid hC2
                    clear hbb hin hff
                    go_wp2_with (go_at_call 63; refine (hA2.out).mono ?_; rintro r4 w4 ⟨rfl, rfl⟩)
                    go_roundw
                    case rel => exact ⟨j + 1, by have := hm.out; omega, by have := hm.out; go_num, hC2.out, fun o ho => by rw [World.frozen?_setCell]; exact hF.out o ho, only_set hO.out _ _⟩
                    case measure => simp [intOf]; omega
                  · have hin2 : AllIn (Y.take m) (u + 1) := fun v hv => by
                      by_cases c : v = u
                      · subst c; exact hbb
                      · exact hin.out v (by omega)
                    have hle : u + 1 ≤ m := by
                      have := range_le (u + 1) (Y.take m) hin2
                      rw [List.length_take] at this
                      omega
                    replace hin2 := Lib.hid hin2
                    clear hbb hin
                    go_wp2_with (go_at_call 63; refine (hA2.out).mono ?_; rintro r4 w4 ⟨rfl, rfl⟩)
                    go_round
                    case rel => exact ⟨u + 1, hle, by go_num, hin2⟩
                    case measure => simp [intOf]; omega
              · have hjk : j = k - 1 - i := by omega
                have hmk : m = k := by omega
                rw [hjk] at hC
                have hdd := decide_eq_false (show ¬ ((m : Int) < (k : Int)) by omega)
                replace hC := Lib.hid hC
                replace hF := Lib.hid hF
                replace hO := Lib.hid hO
                replace hm := Lib.hid hm
                replace hmk := Lib.hid hmk
                replace hjk := Lib.hid hjk
                go_wp2
                go_ret
                exact .inl ⟨_, hres.out, rfl, by rw [fillTo_length]; exact hyk.out, hC.out, hF.out, hO.out⟩
          · have hall2 : Hid (AllOver (x.take i) a (v + 1)) := fun u h1 h2 => by
              by_cases c : u = v
              · subst c; exact hbb
              · exact hall.out u h1 (by omega)
            clear hbb hall
            go_wp2_with (go_at_call 63; refine (hA.out).mono ?_; rintro r3 w3 ⟨rfl, rfl⟩)
            go_round
            case rel => exact ⟨v + 1, by omega, by omega, by go_num, hall2⟩
            case measure => simp [intOf]; omega
        · obtain rfl : v = n := by omega
          have hdd := decide_eq_false (show ¬ ((v : Int) < (v : Int)) by omega)
          have hnx2 : Hid (nxtAt v x i = nxt v x) := by
            show nxtAt v x i = _
            rw [← hnx.out, nxtAt_none (vfree_none (fun u h1 h2 => hall.out u (by rw [ha.out] at h1; exact h1) h2))]
          clear hnx hall
          go_wp2
          go_round
          case rel => exact ⟨i, by omega, rfl, hnx2⟩
          case measure => simp [intOf]
end Go.Proofs.YtncbimbbkealmaaGreatDoor
