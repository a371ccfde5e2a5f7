/-
  CONTRACTS OF CountLabelings: the program's and the model's.
-/
import Derived.Test.YtmbjhncgdmbpaabKFa
import Derived.Test.YtmbjhncgdmbpaabKLabs
import Derived.Test.YtmbjhncgdmbpaabKeptL
import Derived.Test.YtmbjhncgdmbpaabOrbL
import Derived.Test.YtmbjhncgdmbpaabKLabd
import Derived.Test.YtmbjhncgdmbpaabKSLabd
import Derived.Test.YtmbjhncgdmbpaabKSLeast
import Derived.Test.YtmbjhncgdmbpaabKEq
import Derived.Deep.RegionHeld3
namespace Go.Proofs.Ytmbjhncgdmbpaab
open Go.RowKit Go.Shelf
set_option maxRecDepth 100000

/-- do labels make the flag -/
def labP (n k e : Nat) (x : List Nat) : Bool := leastK n k (onL e (ordF n x)) == leastK n k e
def cL (n k e : Nat) (pre : List (List Nat)) : Nat := (pre.filter (labP n k e)).length
theorem cL_snoc (n k e : Nat) (pre : List (List Nat)) (x : List Nat) : cL n k e (pre ++ [x]) = cL n k e pre + if labP n k e x then 1 else 0 := by
  unfold cL
  rw [List.filter_append, List.length_append]
  cases h : labP n k e x <;> simp [h]
theorem cL_le (n k e : Nat) (pre : List (List Nat)) : cL n k e pre ≤ pre.length := List.length_filter_le _ _
theorem listsL_len : ∀ n, n ≤ 5 → ∀ k, k ≤ 5 → (lists n k).length ≤ 120 := by decide +kernel
theorem labP_eq {n k e : Nat} (h : VK k n e) {x : List Nat} (hx : x ∈ lists n k) : inS k n (tE n k e) k n (onL e (ordF n x)) = labP n k e x := by
  obtain ⟨_, hn, hk, hkn⟩ := h.nums
  have hok := ordF_ok hn hk (lists_ok hn (by omega) hx)
  have hV : VK k n (onL e (ordF n x)) := VK.mk' hn hk hkn (onL_ltP e hok hn)
  have ho := orb h hV
  unfold inS labP
  rw [Bool.eq_iff_iff]
  simp only [decide_true, Bool.true_and, decide_eq_true_eq, beq_iff_eq]
  exact ho
section
variable (w : World)
set_option maxHeartbeats 1000000 in
theorem clc_any (k n e M Ba Bf : Nat) (S : List Nat) (x : List Nat) (h : VK k n e) (hx : okList n k x = true) (hS : FSet w M k n S) (hF : FC w Bf k n e) (hBa : Ba < w.heap.size) (hA : w.cell? ⟨Ba, 0, none⟩ = some (.map (some M))) :
    Calls Try.prog 58 #[arr x, .pointer (some ⟨Ba, 0, none⟩), .pointer (some ⟨Bf, 0, none⟩)] w fun r w' => r = .returned (.bool (inS k n S k n (onL e (ordF n x)))) ∧ Below w.heap.size w w' := by
  obtain ⟨he, hn5, hk3, hkn⟩ := h.nums
  have hlt := onL_ltP e (ordF_ok hn5 hk3 hx) hn5
  have hle := eMax_le n
  obtain ⟨q0, q1, q2, q3⟩ := hF
  have hL := Lib.hid (fun W => labd_any W n e k x h.1 hk3 hx)
  obtain ⟨y, hy⟩ : ∃ y, onL e (ordF n x) = y := ⟨_, rfl⟩
  rw [hy] at hL hlt ⊢
  have hyl : y < 4294967296 := by omega
  obtain ⟨b, hb⟩ : ∃ b, inS k n S k n y = b := ⟨_, rfl⟩
  rw [hb]
  unfold arr at hL ⊢
  obtain ⟨x0, hx0⟩ : ∃ x0 : Nat, x[0]?.getD 0 = x0 := ⟨_, rfl⟩
  obtain ⟨x1, hx1⟩ : ∃ x1 : Nat, x[1]?.getD 0 = x1 := ⟨_, rfl⟩
  obtain ⟨x2, hx2⟩ : ∃ x2 : Nat, x[2]?.getD 0 = x2 := ⟨_, rfl⟩
  rw [hx0, hx1, hx2] at hL ⊢
  obtain ⟨W, hWd⟩ : ∃ W, W = w.alloc (.cells #[.int .i64 (x0 : Int), .int .i64 (x1 : Int), .int .i64 (x2 : Int)] 87) := ⟨_, rfl⟩
  have hBW : Below w.heap.size w W := by rw [hWd]; (repeat (first | exact Below.refl _ _ | assumption | refine bchain (by assumption) ?_ | refine balloc ?_ _ | apply Below.drew | apply below_drewN | (refine Below.alloc ?_ (by (try simp) <;> omega) _) | (refine Below.setCell ?_ (by (try simp) <;> omega) _)))
  have a0 : W.cell? ⟨Ba, 0, none⟩ = some (.map (some M)) := (hBW.cell (p := ⟨Ba, 0, none⟩) hBa).trans hA
  have b0 : W.cell? ⟨Bf, 0, none⟩ = some (.int .i64 k) := (hBW.cell (p := ⟨Bf, 0, none⟩) q0).trans q1
  have b1 : W.cell? ⟨Bf, 1, none⟩ = some (.int .i64 n) := (hBW.cell (p := ⟨Bf, 1, none⟩) q0).trans q2
  have b2 : W.cell? ⟨Bf, 2, none⟩ = some (.int .u32 e) := (hBW.cell (p := ⟨Bf, 2, none⟩) q0).trans q3
  have d0 : W.cell? ⟨w.heap.size, 0, none⟩ = some (.int .i64 x0) := by rw [hWd, cNew _ _ _ _ _ rfl]; rfl
  have d1 : W.cell? ⟨w.heap.size, 1, none⟩ = some (.int .i64 x1) := by rw [hWd, cNew _ _ _ _ _ rfl]; rfl
  have d2 : W.cell? ⟨w.heap.size, 2, none⟩ = some (.int .i64 x2) := by rw [hWd, cNew _ _ _ _ _ rfl]; rfl
  have hlook : ∀ W3, Below W.heap.size W W3 → (Instr.lookup 77 (.map (some M)) (.agg #[.int .i64 (k : Int), .int .i64 (n : Int), .int .u32 (y : Int)]) false).run Try.prog W3 = .ok (.bool b) W3 := fun W3 h3 => by
    have h4 := ((hS.below hBW).below h3).look k n y (by omega) hn5 hyl
    rw [hb] at h4
    exact h4
  replace hlook := Lib.hid hlook
  have hBfW : Bf < W.heap.size := Nat.lt_of_lt_of_le q0 hBW.size
  replace hb := Lib.hid hb
  replace hWd := Lib.hid hWd
  clear hx hy hlt h hS hx0 hx1 hx2 hle q0 q1 q2 q3 hA
  go_enter Try.func58, Try.ntmps58
  go_wp2
  rw [← hWd.out]
  have hwB : w.heap.size < W.heap.size := by rw [hWd.out]; simp
  have hBaW : Ba < W.heap.size := by omega
  go_region_held3 (fun A => A.cell? ⟨Ba, 0, none⟩ = some (.map (some M)) ∧ A.cell? ⟨Bf, 0, none⟩ = some (.int .i64 k) ∧ A.cell? ⟨Bf, 1, none⟩ = some (.int .i64 n) ∧ A.cell? ⟨Bf, 2, none⟩ = some (.int .u32 e) ∧ A.cell? ⟨w.heap.size, 0, none⟩ = some (.int .i64 x0) ∧ A.cell? ⟨w.heap.size, 1, none⟩ = some (.int .i64 x1) ∧ A.cell? ⟨w.heap.size, 2, none⟩ = some (.int .i64 x2))
    (exact ⟨old_cell hBaW a0 (by (repeat (first | exact Below.refl _ _ | assumption | refine bchain (by assumption) ?_ | refine balloc ?_ _ | apply Below.drew | apply below_drewN | (refine Below.alloc ?_ (by (try simp) <;> omega) _) | (refine Below.setCell ?_ (by (try simp) <;> omega) _)))), old_cell hBfW b0 (by (repeat (first | exact Below.refl _ _ | assumption | refine bchain (by assumption) ?_ | refine balloc ?_ _ | apply Below.drew | apply below_drewN | (refine Below.alloc ?_ (by (try simp) <;> omega) _) | (refine Below.setCell ?_ (by (try simp) <;> omega) _)))), old_cell hBfW b1 (by (repeat (first | exact Below.refl _ _ | assumption | refine bchain (by assumption) ?_ | refine balloc ?_ _ | apply Below.drew | apply below_drewN | (refine Below.alloc ?_ (by (try simp) <;> omega) _) | (refine Below.setCell ?_ (by (try simp) <;> omega) _)))), old_cell hBfW b2 (by (repeat (first | exact Below.refl _ _ | assumption | refine bchain (by assumption) ?_ | refine balloc ?_ _ | apply Below.drew | apply below_drewN | (refine Below.alloc ?_ (by (try simp) <;> omega) _) | (refine Below.setCell ?_ (by (try simp) <;> omega) _)))), old_cell hwB d0 (by (repeat (first | exact Below.refl _ _ | assumption | refine bchain (by assumption) ?_ | refine balloc ?_ _ | apply Below.drew | apply below_drewN | (refine Below.alloc ?_ (by (try simp) <;> omega) _) | (refine Below.setCell ?_ (by (try simp) <;> omega) _)))), old_cell hwB d1 (by (repeat (first | exact Below.refl _ _ | assumption | refine bchain (by assumption) ?_ | refine balloc ?_ _ | apply Below.drew | apply below_drewN | (refine Below.alloc ?_ (by (try simp) <;> omega) _) | (refine Below.setCell ?_ (by (try simp) <;> omega) _)))), old_cell hwB d2 (by (repeat (first | exact Below.refl _ _ | assumption | refine bchain (by assumption) ?_ | refine balloc ?_ _ | apply Below.drew | apply below_drewN | (refine Below.alloc ?_ (by (try simp) <;> omega) _) | (refine Below.setCell ?_ (by (try simp) <;> omega) _))))⟩)
    (first
    | (go_at_call 59; refine (hL.out _).mono ?_; rintro r3 w3 ⟨rfl, hb3⟩; have hlk := hlook.out w3 (by (repeat (first | exact Below.refl _ _ | assumption | refine bchain (by assumption) ?_ | refine balloc ?_ _ | apply Below.drew | apply below_drewN | (refine Below.alloc ?_ (by (try simp) <;> omega) _) | (refine Below.setCell ?_ (by (try simp) <;> omega) _))))))
  all_goals go_wp2
  all_goals go_ret
  all_goals exact ⟨rfl, by (repeat (first | exact Below.refl _ _ | assumption | refine bchain (by assumption) ?_ | refine balloc ?_ _ | apply Below.drew | apply below_drewN | (refine Below.alloc ?_ (by (try simp) <;> omega) _) | (refine Below.setCell ?_ (by (try simp) <;> omega) _)))⟩
theorem icl_inv (k n e : Int) (hn : e < 4294967296) (he0 : 0 ≤ e) (h : ¬ VK k n e) :
    Calls Try.prog 27 #[.agg #[.int .i64 k, .int .i64 n, .int .u32 e]] w fun r w' => r = .returned (.tuple #[.int .i64 0, .int .i64 1]) ∧ Below w.heap.size w w' := by
  go_enter Try.func27, Try.ntmps27
  go_wp2_with fail
  refine (ivk_f _ k n e hn he0 h).mono ?_
  rintro r1 w1 ⟨rfl, hb1⟩
  go_wp2
  go_ret2
  exact ⟨rfl, by (repeat (first | exact Below.refl _ _ | assumption | refine bchain (by assumption) ?_ | refine balloc ?_ _ | apply Below.drew | apply below_drewN | (refine Below.alloc ?_ (by (try simp) <;> omega) _) | (refine Below.setCell ?_ (by (try simp) <;> omega) _)))⟩
theorem scl_inv (k n e : Int) (hn : e < 4294967296) (he0 : 0 ≤ e) (h : ¬ VK k n e) :
    Calls Try.prog 26 #[.agg #[.int .i64 k, .int .i64 n, .int .u32 e]] w fun r w' => r = .returned (.tuple #[.int .i64 0, .int .i64 1]) ∧ Below w.heap.size w w' := by
  go_enter Try.func26, Try.ntmps26
  go_wp2_with fail
  refine (sok_f _ k n e hn he0 h).mono ?_
  rintro r1 w1 ⟨rfl, hb1⟩
  go_wp2
  go_ret2
  exact ⟨rfl, by (repeat (first | exact Below.refl _ _ | assumption | refine bchain (by assumption) ?_ | refine balloc ?_ _ | apply Below.drew | apply below_drewN | (refine Below.alloc ?_ (by (try simp) <;> omega) _) | (refine Below.setCell ?_ (by (try simp) <;> omega) _)))⟩
/-- a labelling as three numbers -/
def labE : KeptLE (List Nat) := ⟨fun x => ((x[0]?.getD 0 : Nat) : Int), fun x => ((x[1]?.getD 0 : Nat) : Int), fun x => ((x[2]?.getD 0 : Nat) : Int)⟩
set_option maxHeartbeats 1000000 in
theorem icl_ok (k n e : Nat) (h : VK k n e) :
    Calls Try.prog 27 #[.agg #[.int .i64 k, .int .i64 n, .int .u32 e]] w fun r w' => r = .returned (.tuple #[.int .i64 (cL n k e (lists n k) : Nat), .int .i64 0]) ∧ Below w.heap.size w w' := by
  obtain ⟨he, hn5, hk3, hkn⟩ := h.nums
  have hlen := listsL_len n hn5 k (by omega)
  have hK := fun (W : World) (B Ba Bf M : Nat) (hM : FSet W M k n (tE n k e)) (hF : FC W Bf k n e) (hBa : Ba < W.heap.size) (hA : W.cell? ⟨Ba, 0, none⟩ = some (.map (some M))) (hB : B + 1 < W.heap.size) (gn : W.cell? ⟨B, 0, none⟩ = some (.int .i64 n)) (gk : W.cell? ⟨B + 1, 0, none⟩ = some (.int .i64 k)) =>
    KeptL_any W labE 77 #[.pointer (some ⟨B, 0, none⟩), .pointer (some ⟨B + 1, 0, none⟩)] (fun _ => True) (lists n k) (by omega) (enters_of Try.func77 (by kernel_rfl) rfl)
      (fun nn W' hb => labs_own n k hn5 hk3 nn B (B + 1) W' (by have := hb.size; omega) (by have := hb.size; omega) ((hb.cell (p := ⟨B, 0, none⟩) (by show B < _; omega)).trans gn) ((hb.cell (p := ⟨B + 1, 0, none⟩) hB).trans gk))
      (fun _ _ => trivial) 58 #[.pointer (some ⟨Ba, 0, none⟩), .pointer (some ⟨Bf, 0, none⟩)] (enters_of Try.func58 (by kernel_rfl) rfl) (fun x => inS k n (tE n k e) k n (onL e (ordF n x)))
      (fun W' x hx hb => clc_any W' k n e M Ba Bf (tE n k e) x h (lists_ok hn5 (by omega) hx) (hM.below hb) (hF.below hb) (by have := hb.size; omega) ((hb.cell (p := ⟨Ba, 0, none⟩) hBa).trans hA))
  have hcnt : ((lists n k).filter (fun x => inS k n (tE n k e) k n (onL e (ordF n x)))).length = cL n k e (lists n k) := by
    unfold cL
    congr 1
    exact List.filter_congr (fun x hx => labP_eq h hx)
  rw [hcnt] at hK
  obtain ⟨c, hc⟩ : ∃ c, cL n k e (lists n k) = c := ⟨_, rfl⟩
  rw [hc] at hK ⊢
  replace hK := Lib.hid hK
  clear hc hcnt hlen
  have hF0 := FC.made w k n e 49
  go_enter Try.func27, Try.ntmps27
  go_wp2_with fail
  refine (ivk_t _ k n e h).mono ?_
  rintro r1 w1 ⟨rfl, hb1⟩
  obtain ⟨hc1_0, hz1_0⟩ := bkeep hb1 (w.heap.size) (by (try simp) <;> omega)
  have hF1 := hF0.below hb1
  go_wp2_with fail
  refine (fa_any _ k n e h).mono ?_
  rintro r2 w2 ⟨⟨M, rfl, hMge, hM2⟩, hb2⟩
  have hF2 := Lib.hid (hF1.below hb2)
  replace hM2 := Lib.hid hM2
  obtain ⟨hc2, hz2⟩ := bkeep hb2 w.heap.size (by (try simp) <;> omega)
  have hB2 : Below w.heap.size w w2 := by (repeat (first | exact Below.refl _ _ | assumption | refine bchain (by assumption) ?_ | refine balloc ?_ _ | apply Below.drew | apply below_drewN | (refine Below.alloc ?_ (by (try simp) <;> omega) _) | (refine Below.setCell ?_ (by (try simp) <;> omega) _)))
  clear hF0 hF1 hb1 hb2
  obtain ⟨W2, hW2⟩ : ∃ W2, W2 = w2.alloc (.cells #[.map (some M)] 77) := ⟨_, rfl⟩
  have hb2W : Below w2.heap.size w2 W2 := by rw [hW2]; (repeat (first | exact Below.refl _ _ | assumption | refine bchain (by assumption) ?_ | refine balloc ?_ _ | apply Below.drew | apply below_drewN | (refine Below.alloc ?_ (by (try simp) <;> omega) _) | (refine Below.setCell ?_ (by (try simp) <;> omega) _)))
  have hFW := hF2.out.below hb2W
  have hMW := Lib.hid (hM2.out.below hb2W)
  have hAW : W2.cell? ⟨w2.heap.size, 0, none⟩ = some (.map (some M)) := by rw [hW2, cNew _ _ _ _ _ rfl]; rfl
  have hzW : W2.heap.size = w2.heap.size + 1 := by rw [hW2]; simp
  have hBW : Below w.heap.size w W2 := by rw [hW2]; (repeat (first | exact Below.refl _ _ | assumption | refine bchain (by assumption) ?_ | refine balloc ?_ _ | apply Below.drew | apply below_drewN | (refine Below.alloc ?_ (by (try simp) <;> omega) _) | (refine Below.setCell ?_ (by (try simp) <;> omega) _)))
  obtain ⟨A0, hA0⟩ : ∃ A0, w2.heap.size = A0 := ⟨_, rfl⟩
  rw [hA0] at hAW hzW
  have hFW0 := Lib.hid hFW
  obtain ⟨q0, q1, q2, q3⟩ := hF2.out
  replace hW2 := Lib.hid hW2
  replace hA0 := Lib.hid hA0
  clear hF2 hM2 hb2W hB2 hc2 hFW
  go_wp2_with fail
  refine (labsO_any _ n k).mono ?_
  rintro r3 w3 ⟨B, rfl, hMd⟩
  rw [← hW2.out] at hMd
  obtain ⟨hb3, hB3, hBz, gn, gk⟩ := hMd
  have hk := Lib.hid (hK.out w3 B A0 w.heap.size M (hMW.out.below hb3) (hFW0.out.below hb3) (by have := hb3.size; omega) ((hb3.cell (p := ⟨A0, 0, none⟩) (by show A0 < _; omega)).trans hAW) hBz gn gk)
  have hB4 : Below w.heap.size w w3 := hBW.trans (hb3.mono (by have := hFW0.out.lt; omega))
  rw [hA0.out]
  clear hb3 gn gk q1 q2 q3 hAW hBW
  go_wp2_with fail
  refine (hk.out).mono ?_
  rintro r4 w4 ⟨⟨u, rfl, hown⟩, hb4⟩
  have hbw : Below w.heap.size w w4 := hB4.trans (hb4.mono hB4.size)
  clear hb4 hk hB4
  rcases hown.2 with ⟨rfl, rfl⟩ | ⟨g, cap, cur, rfl, _⟩
  all_goals go_wp2
  all_goals go_ret2
  all_goals exact ⟨rfl, hbw⟩

set_option maxHeartbeats 4000000 in
theorem firstS_any (k : Nat) (hk : k ≤ 5) :
    Calls Try.prog 53 #[.int .i64 k] w fun r w' => (∃ v, r = .returned v ∧ OwnI w w' v k (fun i => (i : Int)) ∧ ∃ ad cap, v = .slice (some ad) k cap) ∧ Below w.heap.size w w' := by
  rcases Nat.eq_zero_or_pos k with h0 | h0
  · subst h0
    go_enter Try.func53, Try.ntmps53
    go_wp2
    go_loopw [3, 4] (fun v i wr => i = .int .i64 0 ∧ v = .slice (some ⟨w.heap.size, 0, none⟩) 0 0 ∧ Below w.heap.size w wr) (fun _ _ _ => 0)
    case atStart => exact ⟨rfl, rfl, by (repeat (first | exact Below.refl _ _ | assumption | refine bchain (by assumption) ?_ | refine balloc ?_ _ | apply Below.drew | apply below_drewN | (refine Below.alloc ?_ (by (try simp) <;> omega) _) | (refine Below.setCell ?_ (by (try simp) <;> omega) _)))⟩
    case round =>
      obtain ⟨rfl, rfl, hb⟩ := hrel
      go_wp2
      go_ret
      exact ⟨⟨_, rfl, ⟨_, _, rfl, Nat.le_refl _, by omega, fun c => absurd c (by omega)⟩, _, _, rfl⟩, hb⟩
  · refine (first_any w k hk).mono ?_
    rintro r w' ⟨⟨v, rfl, hO⟩, hb⟩
    obtain ⟨a, cap, rfl, h1, h2, h3⟩ := id hO
    obtain ⟨B, rfl, _⟩ := h3 h0
    exact ⟨⟨_, rfl, hO, _, _, rfl⟩, hb⟩
end
end Go.Proofs.Ytmbjhncgdmbpaab
