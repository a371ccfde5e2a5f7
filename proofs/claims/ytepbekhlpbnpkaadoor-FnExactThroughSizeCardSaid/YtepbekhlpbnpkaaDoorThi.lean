/-
  ThroughSize: the program.
-/
import Derived.Test.YtepbekhlpbnpkaaDoorThA
import Derived.Test.YtepbekhlpbnpkaaDoorFdl
import Derived.Test.YtepbekhlpbnpkaaDoorFdB
import Derived.Deep.RegionHeld3
namespace Go.Proofs.YtepbekhlpbnpkaaDoor
open Go.RowKit Go.Shelf
set_option maxRecDepth 100000
attribute [local go_sem] Oper.semAt_some
/-- what checkTypes answers, with the list of two flags that is made for it -/
def CtA (k0 n0 e0 k n e c : Int) : Prop := ∀ (W : World) (B : Nat), B = W.heap.size → ∀ O, O = Obj.cells #[.int .i64 k0, .int .i64 n0, .int .u32 e0, .int .i64 k, .int .i64 n, .int .u32 e] 34 → Calls Tryd.prog 57 #[.slice (some ⟨B, 0, none⟩) 2 2] (W.alloc O) fun r w' => r = .returned (.int .i64 c) ∧ Below (W.alloc O).heap.size (W.alloc O) w'
section
variable (w : World)
theorem ithr_err (k0 n0 e0 k n e h c : Int) (hc : c = 1 ∨ c = 4) (hC : CtA k0 n0 e0 k n e c) :
    Calls Tryd.prog 34 #[.agg #[.int .i64 k0, .int .i64 n0, .int .u32 e0], .agg #[.int .i64 k, .int .i64 n, .int .u32 e], .int .i64 h] w fun r w' => r = .returned (.tuple #[.agg #[.int .i64 0, .int .i64 0], .int .i64 c]) ∧ Below w.heap.size w w' := by
  unfold CtA at hC
  replace hC := Lib.hid hC
  have kk0 := Lib.hid (fd0_made w k0 n0 e0 k n e)
  rcases hc with rfl | rfl
  all_goals
    go_enter Tryd.func34, Tryd.ntmps34
    go_wp2_with fail
    refine (hC.out _ _ (by simp) _ rfl).mono ?_
    rintro r3 w3 ⟨rfl, hb3⟩
    have kk := (kk0.out.below (balloc (Below.refl _ _) _)).below hb3
    obtain ⟨_, z0, z1, z2⟩ := id kk.r
    have z20 := z2 0
    have z21 := z2 1
    obtain ⟨_, F0, F1, _⟩ := kk.r.put 0 0
    go_wp2
    exact bodyPost_ret (v := .tuple #[.agg #[.int .i64 0, .int .i64 0], .int .i64 _]) (by simp [results, Tryd.results34, go_sem, F0, F1] <;> rfl) rfl ⟨rfl, by (repeat (first | exact Below.refl _ _ | assumption | refine bchain (by assumption) ?_ | refine balloc ?_ _ | apply Below.drew | apply below_drewN | (refine Below.alloc ?_ (by (try simp) <;> omega) _) | (refine Below.setCell ?_ (by (try simp) <;> omega) _)))⟩
theorem ithr_low (k0 n0 e0 k n e h : Int) (hlt : h < n0) (hC : CtA k0 n0 e0 k n e 0) :
    Calls Tryd.prog 34 #[.agg #[.int .i64 k0, .int .i64 n0, .int .u32 e0], .agg #[.int .i64 k, .int .i64 n, .int .u32 e], .int .i64 h] w fun r w' => r = .returned (.tuple #[.agg #[.int .i64 0, .int .i64 0], .int .i64 2]) ∧ Below w.heap.size w w' := by
  unfold CtA at hC
  replace hC := Lib.hid hC
  have kk0 := Lib.hid (fd0_made w k0 n0 e0 k n e)
  have hz1 := Lib.hid (fun W => siz_any W k0 n0 e0)
  have hd := decide_eq_true hlt
  go_enter Tryd.func34, Tryd.ntmps34
  go_wp2_with fail
  refine (hC.out _ _ (by simp) _ rfl).mono ?_
  rintro r3 w3 ⟨rfl, hb3⟩
  have kk := Lib.hid ((kk0.out.below (balloc (Below.refl _ _) _)).below hb3)
  obtain ⟨f0, f1, f2, f3⟩ := id kk.out.f
  go_wp2_with fail
  refine (hz1.out _).mono ?_
  rintro r4 w4 ⟨rfl, hb4⟩
  have k4 := kk.out.below hb4
  obtain ⟨_, z0, z1, z2⟩ := id k4.r
  have z20 := z2 0
  have z21 := z2 1
  obtain ⟨_, F0, F1, _⟩ := k4.r.put 0 0
  replace k4 := Lib.hid k4
  go_wp2
  exact bodyPost_ret (v := .tuple #[.agg #[.int .i64 0, .int .i64 0], .int .i64 _]) (by simp [results, Tryd.results34, go_sem, F0, F1] <;> rfl) rfl ⟨rfl, by (repeat (first | exact Below.refl _ _ | assumption | refine bchain (by assumption) ?_ | refine balloc ?_ _ | apply Below.drew | apply below_drewN | (refine Below.alloc ?_ (by (try simp) <;> omega) _) | (refine Below.setCell ?_ (by (try simp) <;> omega) _)))⟩
theorem ithr_high (k0 n0 e0 k n e h : Int) (hlt : ¬ h < n0) (hgt : n < h) (hC : CtA k0 n0 e0 k n e 0) :
    Calls Tryd.prog 34 #[.agg #[.int .i64 k0, .int .i64 n0, .int .u32 e0], .agg #[.int .i64 k, .int .i64 n, .int .u32 e], .int .i64 h] w fun r w' => r = .returned (.tuple #[.agg #[.int .i64 0, .int .i64 0], .int .i64 2]) ∧ Below w.heap.size w w' := by
  unfold CtA at hC
  replace hC := Lib.hid hC
  have kk0 := Lib.hid (fd0_made w k0 n0 e0 k n e)
  have hz1 := Lib.hid (fun W => siz_any W k0 n0 e0)
  have hz2 := Lib.hid (fun W => siz_any W k n e)
  have hd := decide_eq_false hlt
  have hd2 := decide_eq_true hgt
  go_enter Tryd.func34, Tryd.ntmps34
  go_wp2_with fail
  refine (hC.out _ _ (by simp) _ rfl).mono ?_
  rintro r3 w3 ⟨rfl, hb3⟩
  have kk := Lib.hid ((kk0.out.below (balloc (Below.refl _ _) _)).below hb3)
  obtain ⟨f0, f1, f2, f3⟩ := id kk.out.f
  go_wp2_with fail
  refine (hz1.out _).mono ?_
  rintro r4 w4 ⟨rfl, hb4⟩
  have k4 := Lib.hid (kk.out.below hb4)
  obtain ⟨g0, g1, g2, g3⟩ := id k4.out.g
  go_wp2_with fail
  refine (hz2.out _).mono ?_
  rintro r5 w5 ⟨rfl, hb5⟩
  have k5 := k4.out.below hb5
  obtain ⟨_, z0, z1, z2⟩ := id k5.r
  have z20 := z2 0
  have z21 := z2 1
  obtain ⟨_, F0, F1, _⟩ := k5.r.put 0 0
  replace k5 := Lib.hid k5
  go_wp2
  exact bodyPost_ret (v := .tuple #[.agg #[.int .i64 0, .int .i64 0], .int .i64 _]) (by simp [results, Tryd.results34, go_sem, F0, F1] <;> rfl) rfl ⟨rfl, by (repeat (first | exact Below.refl _ _ | assumption | refine bchain (by assumption) ?_ | refine balloc ?_ _ | apply Below.drew | apply below_drewN | (refine Below.alloc ?_ (by (try simp) <;> omega) _) | (refine Below.setCell ?_ (by (try simp) <;> omega) _)))⟩
theorem ithr_code (k n0 e0 n e h : Nat) (hf : VK k n0 e0) (hl : n0 ≤ h) (hr : h ≤ n) (hC : CtA k n0 e0 k n e 0) (hA : ∀ W, Calls Tryd.prog 67 #[.agg #[.int .i64 k, .int .u32 (onL e0 (List.range k) : Nat)], .int .i64 h, .slice none 0 0] W (RetK W [] 3)) :
    Calls Tryd.prog 34 #[.agg #[.int .i64 k, .int .i64 n0, .int .u32 e0], .agg #[.int .i64 k, .int .i64 n, .int .u32 e], .int .i64 h] w fun r w' => r = .returned (.tuple #[.agg #[.int .i64 0, .int .i64 0], .int .i64 3]) ∧ Below w.heap.size w w' := by
  unfold CtA at hC
  replace hC := Lib.hid hC
  replace hA := Lib.hid hA
  have kk0 := Lib.hid (fd0_made w k n0 e0 k n e)
  have hz1 := Lib.hid (fun W => siz_any W k n0 e0)
  have hz2 := Lib.hid (fun W => siz_any W k n e)
  have hTy := Lib.hid (fun W => ity_any W k n0 e0 hf)
  have hd := decide_eq_false (show ¬ ((h : Int) < (n0 : Int)) by omega)
  have hd2 := decide_eq_false (show ¬ ((n : Int) < (h : Int)) by omega)
  obtain ⟨t, ht⟩ : ∃ t, onL e0 (List.range k) = t := ⟨_, rfl⟩
  rw [ht] at hA hTy
  clear ht hf
  go_enter Tryd.func34, Tryd.ntmps34
  go_wp2_with fail
  refine (hC.out _ _ (by simp) _ rfl).mono ?_
  rintro r3 w3 ⟨rfl, hb3⟩
  have kk := Lib.hid ((kk0.out.below (balloc (Below.refl _ _) _)).below hb3)
  obtain ⟨f0, f1, f2, f3⟩ := id kk.out.f
  go_wp2_with fail
  refine (hz1.out _).mono ?_
  rintro r4 w4 ⟨rfl, hb4⟩
  have k4 := Lib.hid (kk.out.below hb4)
  obtain ⟨g0, g1, g2, g3⟩ := id k4.out.g
  go_wp2_with fail
  refine (hz2.out _).mono ?_
  rintro r5 w5 ⟨rfl, hb5⟩
  have k5 := Lib.hid (k4.out.below hb5)
  obtain ⟨p0, p1, p2, p3⟩ := id k5.out.f
  go_wp2_with fail
  refine (hTy.out _).mono ?_
  rintro r6 w6 ⟨rfl, hb6⟩
  go_wp2_with fail
  refine (hA.out _).mono ?_
  rintro r7 w7 ⟨⟨u, rfl, _⟩, hb7⟩
  have k7 := (k5.out.below hb6).below hb7
  obtain ⟨_, z0, z1, z2⟩ := id k7.r
  have z20 := z2 0
  have z21 := z2 1
  obtain ⟨_, F0, F1, _⟩ := k7.r.put 0 0
  replace k7 := Lib.hid k7
  go_wp2
  exact bodyPost_ret (v := .tuple #[.agg #[.int .i64 0, .int .i64 0], .int .i64 _]) (by simp [results, Tryd.results34, go_sem, F0, F1] <;> rfl) rfl ⟨rfl, by (repeat (first | exact Below.refl _ _ | assumption | refine bchain (by assumption) ?_ | refine balloc ?_ _ | apply Below.drew | apply below_drewN | (refine Below.alloc ?_ (by (try simp) <;> omega) _) | (refine Below.setCell ?_ (by (try simp) <;> omega) _)))⟩
end
end Go.Proofs.YtepbekhlpbnpkaaDoor
