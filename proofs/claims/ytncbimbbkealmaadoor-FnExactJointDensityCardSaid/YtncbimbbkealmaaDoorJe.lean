/-
  JointDensity: the program's errors, and its answer given jointDensity's.
-/
import Derived.Test.YtncbimbbkealmaaDoorJdM
import Derived.Deep.RegionHeld3
namespace Go.Proofs.YtncbimbbkealmaaDoor
open Go.RowKit Go.Shelf
set_option maxRecDepth 100000
attribute [local go_sem] Oper.semAt_some
theorem lies3 (W : World) (t : TypeId) (k0 n0 e0 k1 n1 e1 k n e : Int) :
    LiesK (W.alloc (.cells #[.int .i64 k0, .int .i64 n0, .int .u32 e0, .int .i64 k1, .int .i64 n1, .int .u32 e1, .int .i64 k, .int .i64 n, .int .u32 e] t)) (some ⟨W.heap.size, 0, none⟩) [(k0, n0, e0), (k1, n1, e1), (k, n, e)] := fun i hi => by
  refine ⟨W.heap.size, 0, rfl, by simp, ?_⟩
  have hi2 : i < 3 := hi
  match i, hi2 with
  | 0, _ => exact ⟨by rw [World.cell?_alloc_new]; rfl, by rw [World.cell?_alloc_new]; rfl, by rw [World.cell?_alloc_new]; rfl⟩
  | 1, _ => exact ⟨by rw [World.cell?_alloc_new]; rfl, by rw [World.cell?_alloc_new]; rfl, by rw [World.cell?_alloc_new]; rfl⟩
  | 2, _ => exact ⟨by rw [World.cell?_alloc_new]; rfl, by rw [World.cell?_alloc_new]; rfl, by rw [World.cell?_alloc_new]; rfl⟩
theorem allK3 {k0 n0 e0 k1 n1 e1 k n e : Int} : AllK [(k0, n0, e0), (k1, n1, e1), (k, n, e)] ↔ VK k0 n0 e0 ∧ VK k1 n1 e1 ∧ VK k n e := by
  constructor
  · exact fun h => ⟨h 0 (by simp), h 1 (by simp), h 2 (by simp)⟩
  · rintro ⟨h1, h2, h3⟩ i hi
    have hi2 : i < 3 := hi
    match i, hi2 with
    | 0, _ => exact h1
    | 1, _ => exact h2
    | 2, _ => exact h3
theorem sameK3 {f h g : Int × Int × Int} : SameK [f, h, g] ↔ tyI h = tyI f ∧ tyI g = tyI f := by
  constructor
  · exact fun q => ⟨q 1 (by simp), q 2 (by simp)⟩
  · rintro ⟨h1, h2⟩ i hi
    have hi2 : i < 3 := hi
    match i, hi2 with
    | 0, _ => rfl
    | 1, _ => exact h1
    | 2, _ => exact h2
/-- what checkTypes answers, with the list of three flags that is made for it -/
def Ct3 (k0 n0 e0 k1 n1 e1 k n e c : Int) : Prop := ∀ (W : World) (B : Nat), B = W.heap.size → ∀ O, O = Obj.cells #[.int .i64 k0, .int .i64 n0, .int .u32 e0, .int .i64 k1, .int .i64 n1, .int .u32 e1, .int .i64 k, .int .i64 n, .int .u32 e] 33 → Calls Tryd.prog 32 #[.slice (some ⟨B, 0, none⟩) 3 3] (W.alloc O) fun r w' => r = .returned (.int .i64 c) ∧ Below (W.alloc O).heap.size (W.alloc O) w'
theorem ict3 (k0 n0 e0 k1 n1 e1 k n e c : Int) (he0 : e0 < 4294967296) (h00 : 0 ≤ e0) (he1 : e1 < 4294967296) (h10 : 0 ≤ e1) (he : e < 4294967296) (h0 : 0 ≤ e) (h1 : ¬ (VK k0 n0 e0 ∧ VK k1 n1 e1 ∧ VK k n e) → c = 1) (h4 : VK k0 n0 e0 ∧ VK k1 n1 e1 ∧ VK k n e → ¬ (tyI (k1, n1, e1) = tyI (k0, n0, e0) ∧ tyI (k, n, e) = tyI (k0, n0, e0)) → c = 4) (hz : VK k0 n0 e0 ∧ VK k1 n1 e1 ∧ VK k n e → tyI (k1, n1, e1) = tyI (k0, n0, e0) ∧ tyI (k, n, e) = tyI (k0, n0, e0) → c = 0) : Ct3 k0 n0 e0 k1 n1 e1 k n e c := by
  intro W B hB O hO
  subst hB hO
  refine ict_any _ _ 3 [(k0, n0, e0), (k1, n1, e1), (k, n, e)] (by simp) (lies3 W _ k0 n0 e0 k1 n1 e1 k n e) (fun i hi => ?_) c (fun h => h1 (fun c => h (allK3.2 c))) (fun h h' => h4 (allK3.1 h) (fun c => h' (sameK3.2 c))) (fun h h' => hz (allK3.1 h) (sameK3.1 h'))
  have hi2 : i < 3 := hi
  match i, hi2 with
  | 0, _ => exact ⟨h00, he0⟩
  | 1, _ => exact ⟨h10, he1⟩
  | 2, _ => exact ⟨h0, he⟩
section
variable (w : World)
theorem ijd_err (k0 n0 e0 k1 n1 e1 k n e c : Int) (hc : c = 1 ∨ c = 4) (hC : Ct3 k0 n0 e0 k1 n1 e1 k n e c) :
    Calls Tryd.prog 10 #[.agg #[.int .i64 k0, .int .i64 n0, .int .u32 e0], .agg #[.int .i64 k1, .int .i64 n1, .int .u32 e1], .agg #[.int .i64 k, .int .i64 n, .int .u32 e]] w fun r w' => r = .returned (.tuple #[.agg #[.int .i64 0, .int .i64 0], .int .i64 c]) ∧ Below w.heap.size w w' := by
  unfold Ct3 at hC
  replace hC := Lib.hid hC
  have kk0 := Lib.hid (j0_made w k0 n0 e0 k1 n1 e1 k n e)
  rcases hc with rfl | rfl
  all_goals
    go_enter Tryd.func10, Tryd.ntmps10
    go_wp2_with fail
    refine (hC.out _ _ (by simp) _ rfl).mono ?_
    rintro r3 w3 ⟨rfl, hb3⟩
    have kk := (kk0.out.below (balloc (Below.refl _ _) _)).below hb3
    obtain ⟨_, z0, z1, z2⟩ := id kk.r
    have z20 := z2 0
    have z21 := z2 1
    obtain ⟨_, F0, F1, _⟩ := kk.r.put 0 0
    go_wp2
    exact bodyPost_ret (v := .tuple #[.agg #[.int .i64 0, .int .i64 0], .int .i64 _]) (by simp [results, Tryd.results10, go_sem, F0, F1] <;> rfl) rfl ⟨rfl, by (repeat (first | exact Below.refl _ _ | assumption | refine bchain (by assumption) ?_ | refine balloc ?_ _ | apply Below.drew | apply below_drewN | (refine Below.alloc ?_ (by (try simp) <;> omega) _) | (refine Below.setCell ?_ (by (try simp) <;> omega) _)))⟩
set_option maxHeartbeats 2000000 in
theorem ijd_rng (k n0 e0 n1 e1 n e : Nat) (h0 : k ≤ n0 ∧ n0 ≤ 5) (h1 : k ≤ n1 ∧ n1 ≤ 5) (h : k ≤ n ∧ n ≤ 5) (hlt : n < n0 + n1 - k) (hC : Ct3 k n0 e0 k n1 e1 k n e 0) :
    Calls Tryd.prog 10 #[.agg #[.int .i64 k, .int .i64 n0, .int .u32 e0], .agg #[.int .i64 k, .int .i64 n1, .int .u32 e1], .agg #[.int .i64 k, .int .i64 n, .int .u32 e]] w fun r w' => r = .returned (.tuple #[.agg #[.int .i64 0, .int .i64 0], .int .i64 2]) ∧ Below w.heap.size w w' := by
  unfold Ct3 at hC
  replace hC := Lib.hid hC
  have kk0 := Lib.hid (j0_made w k n0 e0 k n1 e1 k n e)
  have hU0 := Lib.hid (fun W => unl_any W k n0 e0 h0.1 (by omega))
  have hU1 := Lib.hid (fun W => unl_any W k n1 e1 h1.1 (by omega))
  have hU := Lib.hid (fun W => unl_any W k n e h.1 (by omega))
  have hd := decide_eq_true (show ((n - k : Nat) : Int) < ((n0 - k : Nat) : Int) + ((n1 - k : Nat) : Int) by omega)
  obtain ⟨q0, hq0⟩ : ∃ q, n0 - k = q := ⟨_, rfl⟩
  obtain ⟨q1, hq1⟩ : ∃ q, n1 - k = q := ⟨_, rfl⟩
  obtain ⟨q, hq⟩ : ∃ q, n - k = q := ⟨_, rfl⟩
  have hb5 : q0 ≤ 5 ∧ q1 ≤ 5 ∧ q ≤ 5 := by omega
  have hlt2 : (q : Int) < (q0 : Int) + (q1 : Int) := by omega
  have hw2 : IntKind.i64.wrap ((q0 : Int) + (q1 : Int)) = (q0 : Int) + (q1 : Int) := IntWalk.i64_in _ ⟨by omega, by omega⟩
  rw [hq0] at hU0 hd
  rw [hq1] at hU1 hd
  rw [hq] at hU hd
  clear hq0 hq1 hq hlt
  go_enter Tryd.func10, Tryd.ntmps10
  go_wp2_with fail
  refine (hC.out _ _ (by simp) _ rfl).mono ?_
  rintro r3 w3 ⟨rfl, hb3⟩
  have kk := Lib.hid ((kk0.out.below (balloc (Below.refl _ _) _)).below hb3)
  have hB3 : Below w.heap.size w w3 := by (repeat (first | exact Below.refl _ _ | assumption | refine bchain (by assumption) ?_ | refine balloc ?_ _ | apply Below.drew | apply below_drewN | (refine Below.alloc ?_ (by (try simp) <;> omega) _) | (refine Below.setCell ?_ (by (try simp) <;> omega) _)))
  obtain ⟨a0, a1, a2, a3⟩ := id kk.out.f
  obtain ⟨b0, b1, b2, b3⟩ := id kk.out.h
  obtain ⟨c0, c1, c2, c3⟩ := id kk.out.g
  clear hb3 kk0
  go_wp2
  go_region_held3 (fun A => A.cell? ⟨w.heap.size, 0, none⟩ = some (.int .i64 k) ∧ A.cell? ⟨w.heap.size, 1, none⟩ = some (.int .i64 n0) ∧ A.cell? ⟨w.heap.size, 2, none⟩ = some (.int .u32 e0) ∧ A.cell? ⟨w.heap.size + 1, 0, none⟩ = some (.int .i64 k) ∧ A.cell? ⟨w.heap.size + 1, 1, none⟩ = some (.int .i64 n1) ∧ A.cell? ⟨w.heap.size + 1, 2, none⟩ = some (.int .u32 e1) ∧ A.cell? ⟨w.heap.size + 2, 0, none⟩ = some (.int .i64 k) ∧ A.cell? ⟨w.heap.size + 2, 1, none⟩ = some (.int .i64 n) ∧ A.cell? ⟨w.heap.size + 2, 2, none⟩ = some (.int .u32 e))
    (exact ⟨old_cell a0 a1 (by (repeat (first | exact Below.refl _ _ | assumption | refine bchain (by assumption) ?_ | refine balloc ?_ _ | apply Below.drew | apply below_drewN | (refine Below.alloc ?_ (by (try simp) <;> omega) _) | (refine Below.setCell ?_ (by (try simp) <;> omega) _)))), old_cell a0 a2 (by (repeat (first | exact Below.refl _ _ | assumption | refine bchain (by assumption) ?_ | refine balloc ?_ _ | apply Below.drew | apply below_drewN | (refine Below.alloc ?_ (by (try simp) <;> omega) _) | (refine Below.setCell ?_ (by (try simp) <;> omega) _)))), old_cell a0 a3 (by (repeat (first | exact Below.refl _ _ | assumption | refine bchain (by assumption) ?_ | refine balloc ?_ _ | apply Below.drew | apply below_drewN | (refine Below.alloc ?_ (by (try simp) <;> omega) _) | (refine Below.setCell ?_ (by (try simp) <;> omega) _)))), old_cell b0 b1 (by (repeat (first | exact Below.refl _ _ | assumption | refine bchain (by assumption) ?_ | refine balloc ?_ _ | apply Below.drew | apply below_drewN | (refine Below.alloc ?_ (by (try simp) <;> omega) _) | (refine Below.setCell ?_ (by (try simp) <;> omega) _)))), old_cell b0 b2 (by (repeat (first | exact Below.refl _ _ | assumption | refine bchain (by assumption) ?_ | refine balloc ?_ _ | apply Below.drew | apply below_drewN | (refine Below.alloc ?_ (by (try simp) <;> omega) _) | (refine Below.setCell ?_ (by (try simp) <;> omega) _)))), old_cell b0 b3 (by (repeat (first | exact Below.refl _ _ | assumption | refine bchain (by assumption) ?_ | refine balloc ?_ _ | apply Below.drew | apply below_drewN | (refine Below.alloc ?_ (by (try simp) <;> omega) _) | (refine Below.setCell ?_ (by (try simp) <;> omega) _)))), old_cell c0 c1 (by (repeat (first | exact Below.refl _ _ | assumption | refine bchain (by assumption) ?_ | refine balloc ?_ _ | apply Below.drew | apply below_drewN | (refine Below.alloc ?_ (by (try simp) <;> omega) _) | (refine Below.setCell ?_ (by (try simp) <;> omega) _)))), old_cell c0 c2 (by (repeat (first | exact Below.refl _ _ | assumption | refine bchain (by assumption) ?_ | refine balloc ?_ _ | apply Below.drew | apply below_drewN | (refine Below.alloc ?_ (by (try simp) <;> omega) _) | (refine Below.setCell ?_ (by (try simp) <;> omega) _)))), old_cell c0 c3 (by (repeat (first | exact Below.refl _ _ | assumption | refine bchain (by assumption) ?_ | refine balloc ?_ _ | apply Below.drew | apply below_drewN | (refine Below.alloc ?_ (by (try simp) <;> omega) _) | (refine Below.setCell ?_ (by (try simp) <;> omega) _))))⟩)
    (first
      | (go_at_call 33; first | (with_reducible refine (hU0.out _).mono ?_; rintro r4 w4 ⟨rfl, hb4⟩) | (with_reducible refine (hU1.out _).mono ?_; rintro r5 w5 ⟨rfl, hb5'⟩) | (with_reducible refine (hU.out _).mono ?_; rintro r6 w6 ⟨rfl, hb6⟩)))
  all_goals first
    | (have kf := kk.out.below (show Below w3.heap.size w3 w6 by (repeat (first | exact Below.refl _ _ | assumption | refine bchain (by assumption) ?_ | refine balloc ?_ _ | apply Below.drew | apply below_drewN | (refine Below.alloc ?_ (by (try simp) <;> omega) _) | (refine Below.setCell ?_ (by (try simp) <;> omega) _)))); obtain ⟨_, z0, z1, z2⟩ := id kf.r; have z20 := z2 0; have z21 := z2 1; obtain ⟨_, F0, F1, _⟩ := kf.r.put 0 0; replace kf := Lib.hid kf; go_wp2; exact bodyPost_ret (v := .tuple #[.agg #[.int .i64 0, .int .i64 0], .int .i64 _]) (by simp [results, Tryd.results10, go_sem, F0, F1] <;> rfl) rfl ⟨rfl, by (repeat (first | exact Below.refl _ _ | assumption | refine bchain (by assumption) ?_ | refine balloc ?_ _ | apply Below.drew | apply below_drewN | (refine Below.alloc ?_ (by (try simp) <;> omega) _) | (refine Below.setCell ?_ (by (try simp) <;> omega) _)))⟩)
    | (have kf := kk.out.below (show Below w3.heap.size w3 w5 by (repeat (first | exact Below.refl _ _ | assumption | refine bchain (by assumption) ?_ | refine balloc ?_ _ | apply Below.drew | apply below_drewN | (refine Below.alloc ?_ (by (try simp) <;> omega) _) | (refine Below.setCell ?_ (by (try simp) <;> omega) _)))); obtain ⟨_, z0, z1, z2⟩ := id kf.r; have z20 := z2 0; have z21 := z2 1; obtain ⟨_, F0, F1, _⟩ := kf.r.put 0 0; replace kf := Lib.hid kf; go_wp2; exact bodyPost_ret (v := .tuple #[.agg #[.int .i64 0, .int .i64 0], .int .i64 _]) (by simp [results, Tryd.results10, go_sem, F0, F1] <;> rfl) rfl ⟨rfl, by (repeat (first | exact Below.refl _ _ | assumption | refine bchain (by assumption) ?_ | refine balloc ?_ _ | apply Below.drew | apply below_drewN | (refine Below.alloc ?_ (by (try simp) <;> omega) _) | (refine Below.setCell ?_ (by (try simp) <;> omega) _)))⟩)
    | (have kf := kk.out.below (show Below w3.heap.size w3 w4 by (repeat (first | exact Below.refl _ _ | assumption | refine bchain (by assumption) ?_ | refine balloc ?_ _ | apply Below.drew | apply below_drewN | (refine Below.alloc ?_ (by (try simp) <;> omega) _) | (refine Below.setCell ?_ (by (try simp) <;> omega) _)))); obtain ⟨_, z0, z1, z2⟩ := id kf.r; have z20 := z2 0; have z21 := z2 1; obtain ⟨_, F0, F1, _⟩ := kf.r.put 0 0; replace kf := Lib.hid kf; go_wp2; exact bodyPost_ret (v := .tuple #[.agg #[.int .i64 0, .int .i64 0], .int .i64 _]) (by simp [results, Tryd.results10, go_sem, F0, F1] <;> rfl) rfl ⟨rfl, by (repeat (first | exact Below.refl _ _ | assumption | refine bchain (by assumption) ?_ | refine balloc ?_ _ | apply Below.drew | apply below_drewN | (refine Below.alloc ?_ (by (try simp) <;> omega) _) | (refine Below.setCell ?_ (by (try simp) <;> omega) _)))⟩)
set_option maxHeartbeats 2000000 in
theorem ijd_ok (k n0 e0 n1 e1 n e : Nat) (h0 : k ≤ n0 ∧ n0 ≤ 5) (h1 : k ≤ n1 ∧ n1 ≤ 5) (h : k ≤ n ∧ n ≤ 5) (hlt : n0 + n1 ≤ n + k) (hC : Ct3 k n0 e0 k n1 e1 k n e 0) (x y : Int) (hJ : ∀ W, Below w.heap.size w W → Calls Tryd.prog 34 #[.agg #[.int .i64 k, .int .i64 n0, .int .u32 e0], .agg #[.int .i64 k, .int .i64 n1, .int .u32 e1], .agg #[.int .i64 k, .int .i64 n, .int .u32 e]] W fun r w' => r = .returned (.agg #[.int .i64 x, .int .i64 y]) ∧ Below W.heap.size W w') :
    Calls Tryd.prog 10 #[.agg #[.int .i64 k, .int .i64 n0, .int .u32 e0], .agg #[.int .i64 k, .int .i64 n1, .int .u32 e1], .agg #[.int .i64 k, .int .i64 n, .int .u32 e]] w fun r w' => r = .returned (.tuple #[.agg #[.int .i64 x, .int .i64 y], .int .i64 0]) ∧ Below w.heap.size w w' := by
  unfold Ct3 at hC
  replace hC := Lib.hid hC
  have kk0 := Lib.hid (j0_made w k n0 e0 k n1 e1 k n e)
  have hU0 := Lib.hid (fun W => unl_any W k n0 e0 h0.1 (by omega))
  have hU1 := Lib.hid (fun W => unl_any W k n1 e1 h1.1 (by omega))
  have hU := Lib.hid (fun W => unl_any W k n e h.1 (by omega))
  have hd := decide_eq_false (show ¬ (((n - k : Nat) : Int) < ((n0 - k : Nat) : Int) + ((n1 - k : Nat) : Int)) by omega)
  replace hJ := Lib.hid hJ
  obtain ⟨q0, hq0⟩ : ∃ q, n0 - k = q := ⟨_, rfl⟩
  obtain ⟨q1, hq1⟩ : ∃ q, n1 - k = q := ⟨_, rfl⟩
  obtain ⟨q, hq⟩ : ∃ q, n - k = q := ⟨_, rfl⟩
  have hb5 : q0 ≤ 5 ∧ q1 ≤ 5 ∧ q ≤ 5 := by omega
  have hlt2 : (q0 : Int) + (q1 : Int) ≤ (q : Int) := by omega
  have hw2 : IntKind.i64.wrap ((q0 : Int) + (q1 : Int)) = (q0 : Int) + (q1 : Int) := IntWalk.i64_in _ ⟨by omega, by omega⟩
  rw [hq0] at hU0 hd
  rw [hq1] at hU1 hd
  rw [hq] at hU hd
  clear hq0 hq1 hq hlt
  go_enter Tryd.func10, Tryd.ntmps10
  go_wp2_with fail
  refine (hC.out _ _ (by simp) _ rfl).mono ?_
  rintro r3 w3 ⟨rfl, hb3⟩
  have kk := Lib.hid ((kk0.out.below (balloc (Below.refl _ _) _)).below hb3)
  have hB3 : Below w.heap.size w w3 := by (repeat (first | exact Below.refl _ _ | assumption | refine bchain (by assumption) ?_ | refine balloc ?_ _ | apply Below.drew | apply below_drewN | (refine Below.alloc ?_ (by (try simp) <;> omega) _) | (refine Below.setCell ?_ (by (try simp) <;> omega) _)))
  obtain ⟨a0, a1, a2, a3⟩ := id kk.out.f
  obtain ⟨b0, b1, b2, b3⟩ := id kk.out.h
  obtain ⟨c0, c1, c2, c3⟩ := id kk.out.g
  clear hb3 kk0
  go_wp2
  go_region_held3 (fun A => A.cell? ⟨w.heap.size, 0, none⟩ = some (.int .i64 k) ∧ A.cell? ⟨w.heap.size, 1, none⟩ = some (.int .i64 n0) ∧ A.cell? ⟨w.heap.size, 2, none⟩ = some (.int .u32 e0) ∧ A.cell? ⟨w.heap.size + 1, 0, none⟩ = some (.int .i64 k) ∧ A.cell? ⟨w.heap.size + 1, 1, none⟩ = some (.int .i64 n1) ∧ A.cell? ⟨w.heap.size + 1, 2, none⟩ = some (.int .u32 e1) ∧ A.cell? ⟨w.heap.size + 2, 0, none⟩ = some (.int .i64 k) ∧ A.cell? ⟨w.heap.size + 2, 1, none⟩ = some (.int .i64 n) ∧ A.cell? ⟨w.heap.size + 2, 2, none⟩ = some (.int .u32 e))
    (exact ⟨old_cell a0 a1 (by (repeat (first | exact Below.refl _ _ | assumption | refine bchain (by assumption) ?_ | refine balloc ?_ _ | apply Below.drew | apply below_drewN | (refine Below.alloc ?_ (by (try simp) <;> omega) _) | (refine Below.setCell ?_ (by (try simp) <;> omega) _)))), old_cell a0 a2 (by (repeat (first | exact Below.refl _ _ | assumption | refine bchain (by assumption) ?_ | refine balloc ?_ _ | apply Below.drew | apply below_drewN | (refine Below.alloc ?_ (by (try simp) <;> omega) _) | (refine Below.setCell ?_ (by (try simp) <;> omega) _)))), old_cell a0 a3 (by (repeat (first | exact Below.refl _ _ | assumption | refine bchain (by assumption) ?_ | refine balloc ?_ _ | apply Below.drew | apply below_drewN | (refine Below.alloc ?_ (by (try simp) <;> omega) _) | (refine Below.setCell ?_ (by (try simp) <;> omega) _)))), old_cell b0 b1 (by (repeat (first | exact Below.refl _ _ | assumption | refine bchain (by assumption) ?_ | refine balloc ?_ _ | apply Below.drew | apply below_drewN | (refine Below.alloc ?_ (by (try simp) <;> omega) _) | (refine Below.setCell ?_ (by (try simp) <;> omega) _)))), old_cell b0 b2 (by (repeat (first | exact Below.refl _ _ | assumption | refine bchain (by assumption) ?_ | refine balloc ?_ _ | apply Below.drew | apply below_drewN | (refine Below.alloc ?_ (by (try simp) <;> omega) _) | (refine Below.setCell ?_ (by (try simp) <;> omega) _)))), old_cell b0 b3 (by (repeat (first | exact Below.refl _ _ | assumption | refine bchain (by assumption) ?_ | refine balloc ?_ _ | apply Below.drew | apply below_drewN | (refine Below.alloc ?_ (by (try simp) <;> omega) _) | (refine Below.setCell ?_ (by (try simp) <;> omega) _)))), old_cell c0 c1 (by (repeat (first | exact Below.refl _ _ | assumption | refine bchain (by assumption) ?_ | refine balloc ?_ _ | apply Below.drew | apply below_drewN | (refine Below.alloc ?_ (by (try simp) <;> omega) _) | (refine Below.setCell ?_ (by (try simp) <;> omega) _)))), old_cell c0 c2 (by (repeat (first | exact Below.refl _ _ | assumption | refine bchain (by assumption) ?_ | refine balloc ?_ _ | apply Below.drew | apply below_drewN | (refine Below.alloc ?_ (by (try simp) <;> omega) _) | (refine Below.setCell ?_ (by (try simp) <;> omega) _)))), old_cell c0 c3 (by (repeat (first | exact Below.refl _ _ | assumption | refine bchain (by assumption) ?_ | refine balloc ?_ _ | apply Below.drew | apply below_drewN | (refine Below.alloc ?_ (by (try simp) <;> omega) _) | (refine Below.setCell ?_ (by (try simp) <;> omega) _))))⟩)
    (first
      | (go_at_call 33; first | (with_reducible refine (hU0.out _).mono ?_; rintro r4 w4 ⟨rfl, hb4⟩) | (with_reducible refine (hU1.out _).mono ?_; rintro r5 w5 ⟨rfl, hb5'⟩) | (with_reducible refine (hU.out _).mono ?_; rintro r6 w6 ⟨rfl, hb6⟩)))
  all_goals first
    | (have hbl : Below w3.heap.size w3 w6 := (by (repeat (first | exact Below.refl _ _ | assumption | refine bchain (by assumption) ?_ | refine balloc ?_ _ | apply Below.drew | apply below_drewN | (refine Below.alloc ?_ (by (try simp) <;> omega) _) | (refine Below.setCell ?_ (by (try simp) <;> omega) _)))); have kf := kk.out.below hbl; obtain ⟨l0, l1, l2, l3⟩ := id kf.f; obtain ⟨m0, m1, m2, m3⟩ := id kf.h; obtain ⟨p0, p1, p2, p3⟩ := id kf.g; replace kf := Lib.hid kf; go_wp2_with fail; refine (hJ.out _ (hB3.trans (hbl.mono hB3.size))).mono ?_; rintro r9 w9 ⟨rfl, hb9⟩; have kl := kf.out.below hb9; obtain ⟨_, z0, z1, z2⟩ := id kl.r; have z20 := z2 0; have z21 := z2 1; obtain ⟨_, F0, F1, _⟩ := kl.r.put x y; replace kl := Lib.hid kl; go_wp2; exact bodyPost_ret (v := .tuple #[.agg #[.int .i64 x, .int .i64 y], .int .i64 0]) (by simp [results, Tryd.results10, go_sem, F0, F1]) rfl ⟨rfl, by (repeat (first | exact Below.refl _ _ | assumption | refine bchain (by assumption) ?_ | refine balloc ?_ _ | apply Below.drew | apply below_drewN | (refine Below.alloc ?_ (by (try simp) <;> omega) _) | (refine Below.setCell ?_ (by (try simp) <;> omega) _)))⟩)
    | (have hbl : Below w3.heap.size w3 w5 := (by (repeat (first | exact Below.refl _ _ | assumption | refine bchain (by assumption) ?_ | refine balloc ?_ _ | apply Below.drew | apply below_drewN | (refine Below.alloc ?_ (by (try simp) <;> omega) _) | (refine Below.setCell ?_ (by (try simp) <;> omega) _)))); have kf := kk.out.below hbl; obtain ⟨l0, l1, l2, l3⟩ := id kf.f; obtain ⟨m0, m1, m2, m3⟩ := id kf.h; obtain ⟨p0, p1, p2, p3⟩ := id kf.g; replace kf := Lib.hid kf; go_wp2_with fail; refine (hJ.out _ (hB3.trans (hbl.mono hB3.size))).mono ?_; rintro r9 w9 ⟨rfl, hb9⟩; have kl := kf.out.below hb9; obtain ⟨_, z0, z1, z2⟩ := id kl.r; have z20 := z2 0; have z21 := z2 1; obtain ⟨_, F0, F1, _⟩ := kl.r.put x y; replace kl := Lib.hid kl; go_wp2; exact bodyPost_ret (v := .tuple #[.agg #[.int .i64 x, .int .i64 y], .int .i64 0]) (by simp [results, Tryd.results10, go_sem, F0, F1]) rfl ⟨rfl, by (repeat (first | exact Below.refl _ _ | assumption | refine bchain (by assumption) ?_ | refine balloc ?_ _ | apply Below.drew | apply below_drewN | (refine Below.alloc ?_ (by (try simp) <;> omega) _) | (refine Below.setCell ?_ (by (try simp) <;> omega) _)))⟩)
    | (have hbl : Below w3.heap.size w3 w4 := (by (repeat (first | exact Below.refl _ _ | assumption | refine bchain (by assumption) ?_ | refine balloc ?_ _ | apply Below.drew | apply below_drewN | (refine Below.alloc ?_ (by (try simp) <;> omega) _) | (refine Below.setCell ?_ (by (try simp) <;> omega) _)))); have kf := kk.out.below hbl; obtain ⟨l0, l1, l2, l3⟩ := id kf.f; obtain ⟨m0, m1, m2, m3⟩ := id kf.h; obtain ⟨p0, p1, p2, p3⟩ := id kf.g; replace kf := Lib.hid kf; go_wp2_with fail; refine (hJ.out _ (hB3.trans (hbl.mono hB3.size))).mono ?_; rintro r9 w9 ⟨rfl, hb9⟩; have kl := kf.out.below hb9; obtain ⟨_, z0, z1, z2⟩ := id kl.r; have z20 := z2 0; have z21 := z2 1; obtain ⟨_, F0, F1, _⟩ := kl.r.put x y; replace kl := Lib.hid kl; go_wp2; exact bodyPost_ret (v := .tuple #[.agg #[.int .i64 x, .int .i64 y], .int .i64 0]) (by simp [results, Tryd.results10, go_sem, F0, F1]) rfl ⟨rfl, by (repeat (first | exact Below.refl _ _ | assumption | refine bchain (by assumption) ?_ | refine balloc ?_ _ | apply Below.drew | apply below_drewN | (refine Below.alloc ?_ (by (try simp) <;> omega) _) | (refine Below.setCell ?_ (by (try simp) <;> omega) _)))⟩)
end
end Go.Proofs.YtncbimbbkealmaaDoor
