/-
  l07Map: the model's next list: contract.
-/
import Derived.Test.YtfnjgdocmfmfgaaDg
import Derived.OwnWalk
namespace Go.Proofs.Ytfnjgdocmfmfgaa
open Go.RowKit
set_option maxRecDepth 100000
theorem only_refl (B : Nat) (w : World) : w.grownBy w (some B) := ⟨rfl, rfl, rfl, Nat.le_refl _, fun _ _ _ => rfl⟩
theorem only_set {a w : World} {B : Nat} (h : a.grownBy w (some B)) (o : Nat) (v : Value) : a.grownBy (w.setCell ⟨B, o, none⟩ v) (some B) :=
  ⟨h.os, h.tape, h.output, by simpa [World.setCell] using h.size, fun i hi hne => (Below.heap_setCell w _ v i (fun e => hne (by rw [e]))).trans (h.block i hi hne)⟩
/-- what the model's next list is -/
def NextM (b n k B : Nat) (w : World) (e : Ending) (w' : World) : Prop :=
  (k + 1 < b ^ n ∧ e = .returned (.bool true) ∧ NM w' B n (dg b n (k + 1)) ∧ w.grownBy w' (some B)) ∨ (b ^ n = k + 1 ∧ e = .returned (.bool false) ∧ w.grownBy w' (some B))
section
variable (w : World)
set_option maxHeartbeats 1000000 in
theorem map_any (b n k B : Nat) (hb : 0 < b) (hb4 : b ≤ 4) (hn5 : n ≤ 5) (hk : k < b ^ n) (hM : NM w B n (dg b n k)) :
    Calls Try.prog 101 #[.slice (some ⟨B, 0, none⟩) n n, .int .i64 b] w (NextM b n k B w) := by
  rw [← st_full] at hM
  replace hk := Lib.hid (Carry.start hk)
  go_enter Try.func101, Try.ntmps101
  go_wp2
  go_loopw [5] (fun i wr => ∃ m q : Nat, m ≤ n ∧ i = .int .i64 ((m : Int) - 1) ∧ Hid (Carry b n k m q) ∧ NM wr B n (st b n m q) ∧ w.grownBy wr (some B)) (fun i _ => (intOf i + 1).toNat)
  case atStart => exact ⟨n, k, Nat.le_refl _, by go_num, hk, hM, only_refl _ _⟩
  case round =>
    obtain ⟨m, q, hm, rfl, hC, hM, hO⟩ := hrel
    cases m with
    | zero =>
      rw [show ((0 : Nat) : Int) - 1 = -1 from rfl]
      have hlast := Lib.hid hC.out.last
      replace hM := Lib.hid hM
      replace hO := Lib.hid hO
      go_wp2
      go_ret
      exact .inr ⟨hlast.out, rfl, hO.out⟩
    | succ m =>
      rw [show ((m + 1 : Nat) : Int) - 1 = (m : Int) from by omega]
      have hmn : m < n := by omega
      have hcell := hM.val m hmn
      have hfz := hM.fz m hmn
      rw [st_at] at hcell
      have hr : q % b < b := Nat.mod_lt _ hb
      have hset := Lib.hid (fun v => hM.set hmn v)
      replace hM := Lib.hid hM
      replace hO := Lib.hid hO
      by_cases hlt : q % b + 1 < b
      · have hI := hC.out.inc hlt
        have hs := hset.out (q % b + 1)
        rw [st_inc _ _ _ _ hlt, hI.1] at hs
        replace hs := Lib.hid hs
        replace hI := Lib.hid hI
        obtain ⟨r, hr2⟩ : ∃ r, q % b = r := ⟨_, rfl⟩
        rw [hr2] at hcell hs hlt hr
        clear hset hr2
        go_wp2
        go_ret
        exact .inl ⟨hI.out.2, rfl, hs.out, only_set hO.out _ _⟩
      · have hD := Lib.hid (hC.out.down hb hlt)
        have hs := hset.out 0
        rw [st_zero _ _ _ _ hmn] at hs
        replace hs := Lib.hid hs
        obtain ⟨r, hr2⟩ : ∃ r, q % b = r := ⟨_, rfl⟩
        rw [hr2] at hcell hlt hr
        have hdd := decide_eq_false (show ¬ ((r : Int) + 1 < (b : Int)) by omega)
        clear hset hr2
        go_wp2
        go_roundw
        case rel => exact ⟨m, q / b, by omega, by go_num, hD, hs.out, only_set hO.out _ _⟩
        case measure => simp [intOf]
end
end Go.Proofs.Ytfnjgdocmfmfgaa
