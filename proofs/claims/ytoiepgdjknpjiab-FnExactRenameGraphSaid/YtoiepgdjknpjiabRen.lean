/-
  CONTRACTS OF RenameGraph AND InducedOn, the program's and the model's, for every graph and every list.
-/
import Derived.Test.YtoiepgdjknpjiabOn
namespace Go.Proofs.Ytoiepgdjknpjiab
open Go.RowKit
set_option maxRecDepth 100000

section
variable (w : World)

theorem iren_inv (v : Value) (n e : Int) (hn : e < 4294967296) (he0 : 0 ≤ e) (h : ¬ VG n e) :
    Calls Try.prog 37 #[.agg #[.int .i64 n, .int .u32 e], v] w fun r w' => r = .returned (.tuple #[.agg #[.int .i64 0, .int .u32 0], .int .i64 1]) ∧ Below w.heap.size w w' := by
  go_enter Try.func37, Try.ntmps37
  go_wp2_with fail
  refine (valid_f _ n e hn he0 h).mono ?_
  rintro r1 w1 ⟨rfl, hb1⟩
  obtain ⟨hc1_0, hz1_0⟩ := bkeep hb1 (w.heap.size + 1) (by (try simp) <;> omega)
  have hf1_0 := bkeepz hb1 (w.heap.size + 1) (by (try simp) <;> omega)
  go_wp2
  exact bodyPost_ret (v := .tuple #[.agg #[.int .i64 0, .int .u32 0], .int .i64 1]) (by simp [results, Try.results37, go_sem, hc1_0]) rfl ⟨rfl, by (repeat (first | exact Below.refl _ _ | assumption | refine bchain (by assumption) ?_ | refine balloc ?_ _ | apply Below.drew | apply below_drewN | (refine Below.alloc ?_ (by (try simp) <;> omega) _) | (refine Below.setCell ?_ (by (try simp) <;> omega) _)))⟩
theorem iren_len (v : Value) (zs : List Int) (n e : Nat) (hS : SlI w v zs) (h : VG n e) (hl : zs.length ≠ n) :
    Calls Try.prog 37 #[.agg #[.int .i64 n, .int .u32 e], v] w fun r w' => r = .returned (.tuple #[.agg #[.int .i64 0, .int .u32 0], .int .i64 2]) ∧ Below w.heap.size w w' := by
  obtain ⟨a, cap, rfl, _⟩ := hS
  have hd : ((zs.length : Int) != (n : Int)) = true := by simp; omega
  go_enter Try.func37, Try.ntmps37
  go_wp2_with fail
  refine (valid_t _ n e h).mono ?_
  rintro r1 w1 ⟨rfl, hb1⟩
  obtain ⟨hc1_0, hz1_0⟩ := bkeep hb1 (w.heap.size) (by (try simp) <;> omega)
  obtain ⟨hc1_1, hz1_1⟩ := bkeep hb1 (w.heap.size + 1) (by (try simp) <;> omega)
  have hf1_1 := bkeepz hb1 (w.heap.size + 1) (by (try simp) <;> omega)
  go_wp2
  exact bodyPost_ret (v := .tuple #[.agg #[.int .i64 0, .int .u32 0], .int .i64 2]) (by simp [results, Try.results37, go_sem, hc1_1]) rfl ⟨rfl, by (repeat (first | exact Below.refl _ _ | assumption | refine bchain (by assumption) ?_ | refine balloc ?_ _ | apply Below.drew | apply below_drewN | (refine Below.alloc ?_ (by (try simp) <;> omega) _) | (refine Below.setCell ?_ (by (try simp) <;> omega) _)))⟩
theorem iren_dif (v : Value) (zs : List Int) (n e : Nat) (hS : SlI w v zs) (hm : zs.length ≤ 1048576) (h : VG n e) (hl : zs.length = n) (hx : ¬ Diff zs n) :
    Calls Try.prog 37 #[.agg #[.int .i64 n, .int .u32 e], v] w fun r w' => r = .returned (.tuple #[.agg #[.int .i64 0, .int .u32 0], .int .i64 2]) ∧ Below w.heap.size w w' := by
  obtain ⟨a, cap, hv, _⟩ := id hS
  have hd : ((zs.length : Int) != (n : Int)) = false := by simp; omega
  have hD : ∀ W, SlI W v zs → Calls Try.prog 58 #[.int .i64 n, v] W fun r w' => r = .returned (.bool false) ∧ Below W.heap.size W w' := by
    exact fun W hW => idiff_no W v zs n hW hm (by have := h.2.1; omega) hx
  replace hD := Lib.hid hD
  replace hS := Lib.hid hS
  subst hv
  clear hl
  clear hx
  go_enter Try.func37, Try.ntmps37
  go_wp2_with fail
  refine (valid_t _ n e h).mono ?_
  rintro r1 w1 ⟨rfl, hb1⟩
  obtain ⟨hc1_0, hz1_0⟩ := bkeep hb1 (w.heap.size) (by (try simp) <;> omega)
  obtain ⟨hc1_1, hz1_1⟩ := bkeep hb1 (w.heap.size + 1) (by (try simp) <;> omega)
  have hf1_1 := bkeepz hb1 (w.heap.size + 1) (by (try simp) <;> omega)
  go_wp2_with fail
  refine (hD.out _ (hS.out.below (by (repeat (first | exact Below.refl _ _ | assumption | refine bchain (by assumption) ?_ | refine balloc ?_ _ | apply Below.drew | apply below_drewN | (refine Below.alloc ?_ (by (try simp) <;> omega) _) | (refine Below.setCell ?_ (by (try simp) <;> omega) _)))))).mono ?_
  rintro r2 w2 ⟨rfl, hb2⟩
  obtain ⟨hc2_0, hz2_0⟩ := bkeep hb2 (w.heap.size + 1) (by (try simp) <;> omega)
  have hf2_0 := bkeepz hb2 (w.heap.size + 1) (by (try simp) <;> omega)
  go_wp2
  exact bodyPost_ret (v := .tuple #[.agg #[.int .i64 0, .int .u32 0], .int .i64 2]) (by simp [results, Try.results37, go_sem, hc1_1, hc2_0]) rfl ⟨rfl, by (repeat (first | exact Below.refl _ _ | assumption | refine bchain (by assumption) ?_ | refine balloc ?_ _ | apply Below.drew | apply below_drewN | (refine Below.alloc ?_ (by (try simp) <;> omega) _) | (refine Below.setCell ?_ (by (try simp) <;> omega) _)))⟩
theorem iren_ok (v : Value) (zs : List Int) (n e : Nat) (hS : SlI w v zs) (hm : zs.length ≤ 1048576) (h : VG n e) (hl : zs.length = n) (hx : Diff zs n) :
    Calls Try.prog 37 #[.agg #[.int .i64 n, .int .u32 e], v] w fun r w' => r = .returned (.tuple #[.agg #[.int .i64 zs.length, .int .u32 (onE e (vx zs) zs.length : Nat)], .int .i64 0]) ∧ Below w.heap.size w w' := by
  obtain ⟨a, cap, hv, _⟩ := id hS
  have hd : ((zs.length : Int) != (n : Int)) = false := by simp; omega
  have hD : ∀ W, SlI W v zs → Calls Try.prog 58 #[.int .i64 n, v] W fun r w' => r = .returned (.bool true) ∧ Below W.heap.size W w' := by
    exact fun W hW => idiff_yes W v zs n hW hm (by have := h.2.1; omega) hx
  have he : e < 4294967296 := by have := h.2.2.2; have := eMax_le n; simp at *; omega
  have hO : ∀ W, SlI W v zs → Calls Try.prog 59 #[.agg #[.int .i64 n, .int .u32 e], v] W fun r w' => r = .returned (.agg #[.int .i64 zs.length, .int .u32 (onE e (vx zs) zs.length : Nat)]) ∧ Below W.heap.size W w' :=
    fun W hW => ion_any W v zs n e hW (by have := h.2.1; omega) he hx
  obtain ⟨x, hxx⟩ : ∃ x : Nat, onE e (vx zs) zs.length = x := ⟨_, rfl⟩
  rw [hxx] at hO ⊢
  replace hO := Lib.hid hO
  replace hD := Lib.hid hD
  replace hS := Lib.hid hS
  subst hv
  clear hl
  clear hx he hxx
  go_enter Try.func37, Try.ntmps37
  go_wp2_with fail
  refine (valid_t _ n e h).mono ?_
  rintro r1 w1 ⟨rfl, hb1⟩
  obtain ⟨hc1_0, hz1_0⟩ := bkeep hb1 (w.heap.size) (by (try simp) <;> omega)
  obtain ⟨hc1_1, hz1_1⟩ := bkeep hb1 (w.heap.size + 1) (by (try simp) <;> omega)
  have hf1_1 := bkeepz hb1 (w.heap.size + 1) (by (try simp) <;> omega)
  go_wp2_with fail
  refine (hD.out _ (hS.out.below (by (repeat (first | exact Below.refl _ _ | assumption | refine bchain (by assumption) ?_ | refine balloc ?_ _ | apply Below.drew | apply below_drewN | (refine Below.alloc ?_ (by (try simp) <;> omega) _) | (refine Below.setCell ?_ (by (try simp) <;> omega) _)))))).mono ?_
  rintro r2 w2 ⟨rfl, hb2⟩
  obtain ⟨hc2_0, hz2_0⟩ := bkeep hb2 (w.heap.size) (by (try simp) <;> omega)
  obtain ⟨hc2_1, hz2_1⟩ := bkeep hb2 (w.heap.size + 1) (by (try simp) <;> omega)
  have hf2_1 := bkeepz hb2 (w.heap.size + 1) (by (try simp) <;> omega)
  go_wp2_with fail
  refine (hO.out _ (hS.out.below (by (repeat (first | exact Below.refl _ _ | assumption | refine bchain (by assumption) ?_ | refine balloc ?_ _ | apply Below.drew | apply below_drewN | (refine Below.alloc ?_ (by (try simp) <;> omega) _) | (refine Below.setCell ?_ (by (try simp) <;> omega) _)))))).mono ?_
  rintro r3 w3 ⟨rfl, hb3⟩
  obtain ⟨hc3_0, hz3_0⟩ := bkeep hb3 (w.heap.size + 1) (by (try simp) <;> omega)
  have hf3_0 := bkeepz hb3 (w.heap.size + 1) (by (try simp) <;> omega)
  go_wp2
  have h0 : w3.cell? ⟨w.heap.size + 1, 0, none⟩ = some (.int .i64 0) := by rw [hc3_0, hc2_1, hc1_1]; simp
  have h1 : w3.cell? ⟨w.heap.size + 1, 1, none⟩ = some (.int .u32 0) := by rw [hc3_0, hc2_1, hc1_1]; simp
  have h2 := twoCells h0 h1 (.int .i64 zs.length) (.int .u32 x)
  exact bodyPost_ret (v := .tuple #[.agg #[.int .i64 zs.length, .int .u32 x], .int .i64 0]) (by simp [results, Try.results37, go_sem, h2.1, h2.2]) rfl ⟨rfl, by (repeat (first | exact Below.refl _ _ | assumption | refine bchain (by assumption) ?_ | refine balloc ?_ _ | apply Below.drew | apply below_drewN | (refine Below.alloc ?_ (by (try simp) <;> omega) _) | (refine Below.setCell ?_ (by (try simp) <;> omega) _)))⟩

theorem sren_inv (v : Value) (n e : Int) (hn : e < 4294967296) (he0 : 0 ≤ e) (h : ¬ VG n e) :
    Calls Try.prog 35 #[.agg #[.int .i64 n, .int .u32 e], v] w fun r w' => r = .returned (.tuple #[.agg #[.int .i64 0, .int .u32 0], .int .i64 1]) ∧ Below w.heap.size w w' := by
  go_enter Try.func35, Try.ntmps35
  go_wp2_with fail
  refine (ok_f _ n e hn he0 h).mono ?_
  rintro r1 w1 ⟨rfl, hb1⟩
  obtain ⟨hc1_0, hz1_0⟩ := bkeep hb1 (w.heap.size + 1) (by (try simp) <;> omega)
  have hf1_0 := bkeepz hb1 (w.heap.size + 1) (by (try simp) <;> omega)
  go_wp2
  exact bodyPost_ret (v := .tuple #[.agg #[.int .i64 0, .int .u32 0], .int .i64 1]) (by simp [results, Try.results35, go_sem, hc1_0]) rfl ⟨rfl, by (repeat (first | exact Below.refl _ _ | assumption | refine bchain (by assumption) ?_ | refine balloc ?_ _ | apply Below.drew | apply below_drewN | (refine Below.alloc ?_ (by (try simp) <;> omega) _) | (refine Below.setCell ?_ (by (try simp) <;> omega) _)))⟩
theorem sren_len (v : Value) (zs : List Int) (n e : Nat) (hS : SlI w v zs) (h : VG n e) (hl : zs.length ≠ n) :
    Calls Try.prog 35 #[.agg #[.int .i64 n, .int .u32 e], v] w fun r w' => r = .returned (.tuple #[.agg #[.int .i64 0, .int .u32 0], .int .i64 2]) ∧ Below w.heap.size w w' := by
  obtain ⟨a, cap, rfl, _⟩ := hS
  have hd : ((zs.length : Int) != (n : Int)) = true := by simp; omega
  go_enter Try.func35, Try.ntmps35
  go_wp2_with fail
  refine (ok_t _ n e h).mono ?_
  rintro r1 w1 ⟨rfl, hb1⟩
  obtain ⟨hc1_0, hz1_0⟩ := bkeep hb1 (w.heap.size) (by (try simp) <;> omega)
  obtain ⟨hc1_1, hz1_1⟩ := bkeep hb1 (w.heap.size + 1) (by (try simp) <;> omega)
  have hf1_1 := bkeepz hb1 (w.heap.size + 1) (by (try simp) <;> omega)
  go_wp2
  exact bodyPost_ret (v := .tuple #[.agg #[.int .i64 0, .int .u32 0], .int .i64 2]) (by simp [results, Try.results35, go_sem, hc1_1]) rfl ⟨rfl, by (repeat (first | exact Below.refl _ _ | assumption | refine bchain (by assumption) ?_ | refine balloc ?_ _ | apply Below.drew | apply below_drewN | (refine Below.alloc ?_ (by (try simp) <;> omega) _) | (refine Below.setCell ?_ (by (try simp) <;> omega) _)))⟩
theorem sren_dif (v : Value) (zs : List Int) (n e : Nat) (hS : SlI w v zs) (hm : zs.length ≤ 1048576) (h : VG n e) (hl : zs.length = n) (hx : ¬ Diff zs n) :
    Calls Try.prog 35 #[.agg #[.int .i64 n, .int .u32 e], v] w fun r w' => r = .returned (.tuple #[.agg #[.int .i64 0, .int .u32 0], .int .i64 2]) ∧ Below w.heap.size w w' := by
  obtain ⟨a, cap, hv, _⟩ := id hS
  have hd : ((zs.length : Int) != (n : Int)) = false := by simp; omega
  have hD : ∀ W, SlI W v zs → Calls Try.prog 56 #[v, .int .i64 n] W fun r w' => r = .returned (.bool false) ∧ Below W.heap.size W w' := by
    exact fun W hW => sdiff_no W v zs n hW hm (by have := h.1; omega) (by have := h.2.1; omega) hx
  replace hD := Lib.hid hD
  replace hS := Lib.hid hS
  subst hv
  clear hl
  clear hx
  go_enter Try.func35, Try.ntmps35
  go_wp2_with fail
  refine (ok_t _ n e h).mono ?_
  rintro r1 w1 ⟨rfl, hb1⟩
  obtain ⟨hc1_0, hz1_0⟩ := bkeep hb1 (w.heap.size) (by (try simp) <;> omega)
  obtain ⟨hc1_1, hz1_1⟩ := bkeep hb1 (w.heap.size + 1) (by (try simp) <;> omega)
  have hf1_1 := bkeepz hb1 (w.heap.size + 1) (by (try simp) <;> omega)
  go_wp2_with fail
  refine (hD.out _ (hS.out.below (by (repeat (first | exact Below.refl _ _ | assumption | refine bchain (by assumption) ?_ | refine balloc ?_ _ | apply Below.drew | apply below_drewN | (refine Below.alloc ?_ (by (try simp) <;> omega) _) | (refine Below.setCell ?_ (by (try simp) <;> omega) _)))))).mono ?_
  rintro r2 w2 ⟨rfl, hb2⟩
  obtain ⟨hc2_0, hz2_0⟩ := bkeep hb2 (w.heap.size + 1) (by (try simp) <;> omega)
  have hf2_0 := bkeepz hb2 (w.heap.size + 1) (by (try simp) <;> omega)
  go_wp2
  exact bodyPost_ret (v := .tuple #[.agg #[.int .i64 0, .int .u32 0], .int .i64 2]) (by simp [results, Try.results35, go_sem, hc1_1, hc2_0]) rfl ⟨rfl, by (repeat (first | exact Below.refl _ _ | assumption | refine bchain (by assumption) ?_ | refine balloc ?_ _ | apply Below.drew | apply below_drewN | (refine Below.alloc ?_ (by (try simp) <;> omega) _) | (refine Below.setCell ?_ (by (try simp) <;> omega) _)))⟩
theorem sren_ok (v : Value) (zs : List Int) (n e : Nat) (hS : SlI w v zs) (hm : zs.length ≤ 1048576) (h : VG n e) (hl : zs.length = n) (hx : Diff zs n) :
    Calls Try.prog 35 #[.agg #[.int .i64 n, .int .u32 e], v] w fun r w' => r = .returned (.tuple #[.agg #[.int .i64 zs.length, .int .u32 (onE e (vx zs) zs.length : Nat)], .int .i64 0]) ∧ Below w.heap.size w w' := by
  obtain ⟨a, cap, hv, _⟩ := id hS
  have hd : ((zs.length : Int) != (n : Int)) = false := by simp; omega
  have hD : ∀ W, SlI W v zs → Calls Try.prog 56 #[v, .int .i64 n] W fun r w' => r = .returned (.bool true) ∧ Below W.heap.size W w' := by
    exact fun W hW => sdiff_yes W v zs n hW hm (by have := h.1; omega) (by have := h.2.1; omega) hx
  have he : e < 4294967296 := by have := h.2.2.2; have := eMax_le n; simp at *; omega
  have hO : ∀ W, SlI W v zs → Calls Try.prog 57 #[.agg #[.int .i64 n, .int .u32 e], v] W fun r w' => r = .returned (.agg #[.int .i64 zs.length, .int .u32 (onE e (vx zs) zs.length : Nat)]) ∧ Below W.heap.size W w' :=
    fun W hW => son_any W v zs n e hW (by have := h.2.1; omega) he hx
  obtain ⟨x, hxx⟩ : ∃ x : Nat, onE e (vx zs) zs.length = x := ⟨_, rfl⟩
  rw [hxx] at hO ⊢
  replace hO := Lib.hid hO
  replace hD := Lib.hid hD
  replace hS := Lib.hid hS
  subst hv
  clear hl
  clear hx he hxx
  go_enter Try.func35, Try.ntmps35
  go_wp2_with fail
  refine (ok_t _ n e h).mono ?_
  rintro r1 w1 ⟨rfl, hb1⟩
  obtain ⟨hc1_0, hz1_0⟩ := bkeep hb1 (w.heap.size) (by (try simp) <;> omega)
  obtain ⟨hc1_1, hz1_1⟩ := bkeep hb1 (w.heap.size + 1) (by (try simp) <;> omega)
  have hf1_1 := bkeepz hb1 (w.heap.size + 1) (by (try simp) <;> omega)
  go_wp2_with fail
  refine (hD.out _ (hS.out.below (by (repeat (first | exact Below.refl _ _ | assumption | refine bchain (by assumption) ?_ | refine balloc ?_ _ | apply Below.drew | apply below_drewN | (refine Below.alloc ?_ (by (try simp) <;> omega) _) | (refine Below.setCell ?_ (by (try simp) <;> omega) _)))))).mono ?_
  rintro r2 w2 ⟨rfl, hb2⟩
  obtain ⟨hc2_0, hz2_0⟩ := bkeep hb2 (w.heap.size) (by (try simp) <;> omega)
  obtain ⟨hc2_1, hz2_1⟩ := bkeep hb2 (w.heap.size + 1) (by (try simp) <;> omega)
  have hf2_1 := bkeepz hb2 (w.heap.size + 1) (by (try simp) <;> omega)
  go_wp2_with fail
  refine (hO.out _ (hS.out.below (by (repeat (first | exact Below.refl _ _ | assumption | refine bchain (by assumption) ?_ | refine balloc ?_ _ | apply Below.drew | apply below_drewN | (refine Below.alloc ?_ (by (try simp) <;> omega) _) | (refine Below.setCell ?_ (by (try simp) <;> omega) _)))))).mono ?_
  rintro r3 w3 ⟨rfl, hb3⟩
  obtain ⟨hc3_0, hz3_0⟩ := bkeep hb3 (w.heap.size + 1) (by (try simp) <;> omega)
  have hf3_0 := bkeepz hb3 (w.heap.size + 1) (by (try simp) <;> omega)
  go_wp2
  have h0 : w3.cell? ⟨w.heap.size + 1, 0, none⟩ = some (.int .i64 0) := by rw [hc3_0, hc2_1, hc1_1]; simp
  have h1 : w3.cell? ⟨w.heap.size + 1, 1, none⟩ = some (.int .u32 0) := by rw [hc3_0, hc2_1, hc1_1]; simp
  have h2 := twoCells h0 h1 (.int .i64 zs.length) (.int .u32 x)
  exact bodyPost_ret (v := .tuple #[.agg #[.int .i64 zs.length, .int .u32 x], .int .i64 0]) (by simp [results, Try.results35, go_sem, h2.1, h2.2]) rfl ⟨rfl, by (repeat (first | exact Below.refl _ _ | assumption | refine bchain (by assumption) ?_ | refine balloc ?_ _ | apply Below.drew | apply below_drewN | (refine Below.alloc ?_ (by (try simp) <;> omega) _) | (refine Below.setCell ?_ (by (try simp) <;> omega) _)))⟩

theorem iind_inv (v : Value) (n e : Int) (hn : e < 4294967296) (he0 : 0 ≤ e) (h : ¬ VG n e) :
    Calls Try.prog 39 #[.agg #[.int .i64 n, .int .u32 e], v] w fun r w' => r = .returned (.tuple #[.agg #[.int .i64 0, .int .u32 0], .int .i64 1]) ∧ Below w.heap.size w w' := by
  go_enter Try.func39, Try.ntmps39
  go_wp2_with fail
  refine (valid_f _ n e hn he0 h).mono ?_
  rintro r1 w1 ⟨rfl, hb1⟩
  obtain ⟨hc1_0, hz1_0⟩ := bkeep hb1 (w.heap.size + 1) (by (try simp) <;> omega)
  have hf1_0 := bkeepz hb1 (w.heap.size + 1) (by (try simp) <;> omega)
  go_wp2
  exact bodyPost_ret (v := .tuple #[.agg #[.int .i64 0, .int .u32 0], .int .i64 1]) (by simp [results, Try.results39, go_sem, hc1_0]) rfl ⟨rfl, by (repeat (first | exact Below.refl _ _ | assumption | refine bchain (by assumption) ?_ | refine balloc ?_ _ | apply Below.drew | apply below_drewN | (refine Below.alloc ?_ (by (try simp) <;> omega) _) | (refine Below.setCell ?_ (by (try simp) <;> omega) _)))⟩
theorem iind_dif (v : Value) (zs : List Int) (n e : Nat) (hS : SlI w v zs) (hm : zs.length ≤ 1048576) (h : VG n e) (hx : ¬ Diff zs n) :
    Calls Try.prog 39 #[.agg #[.int .i64 n, .int .u32 e], v] w fun r w' => r = .returned (.tuple #[.agg #[.int .i64 0, .int .u32 0], .int .i64 2]) ∧ Below w.heap.size w w' := by
  have hD : ∀ W, SlI W v zs → Calls Try.prog 58 #[.int .i64 n, v] W fun r w' => r = .returned (.bool false) ∧ Below W.heap.size W w' := by
    exact fun W hW => idiff_no W v zs n hW hm (by have := h.2.1; omega) hx
  replace hD := Lib.hid hD
  replace hS := Lib.hid hS

  clear hx
  go_enter Try.func39, Try.ntmps39
  go_wp2_with fail
  refine (valid_t _ n e h).mono ?_
  rintro r1 w1 ⟨rfl, hb1⟩
  obtain ⟨hc1_0, hz1_0⟩ := bkeep hb1 (w.heap.size) (by (try simp) <;> omega)
  obtain ⟨hc1_1, hz1_1⟩ := bkeep hb1 (w.heap.size + 1) (by (try simp) <;> omega)
  have hf1_1 := bkeepz hb1 (w.heap.size + 1) (by (try simp) <;> omega)
  go_wp2_with fail
  refine (hD.out _ (hS.out.below (by (repeat (first | exact Below.refl _ _ | assumption | refine bchain (by assumption) ?_ | refine balloc ?_ _ | apply Below.drew | apply below_drewN | (refine Below.alloc ?_ (by (try simp) <;> omega) _) | (refine Below.setCell ?_ (by (try simp) <;> omega) _)))))).mono ?_
  rintro r2 w2 ⟨rfl, hb2⟩
  obtain ⟨hc2_0, hz2_0⟩ := bkeep hb2 (w.heap.size + 1) (by (try simp) <;> omega)
  have hf2_0 := bkeepz hb2 (w.heap.size + 1) (by (try simp) <;> omega)
  go_wp2
  exact bodyPost_ret (v := .tuple #[.agg #[.int .i64 0, .int .u32 0], .int .i64 2]) (by simp [results, Try.results39, go_sem, hc1_1, hc2_0]) rfl ⟨rfl, by (repeat (first | exact Below.refl _ _ | assumption | refine bchain (by assumption) ?_ | refine balloc ?_ _ | apply Below.drew | apply below_drewN | (refine Below.alloc ?_ (by (try simp) <;> omega) _) | (refine Below.setCell ?_ (by (try simp) <;> omega) _)))⟩
theorem iind_ok (v : Value) (zs : List Int) (n e : Nat) (hS : SlI w v zs) (hm : zs.length ≤ 1048576) (h : VG n e) (hx : Diff zs n) :
    Calls Try.prog 39 #[.agg #[.int .i64 n, .int .u32 e], v] w fun r w' => r = .returned (.tuple #[.agg #[.int .i64 zs.length, .int .u32 (onE e (vx zs) zs.length : Nat)], .int .i64 0]) ∧ Below w.heap.size w w' := by
  have hD : ∀ W, SlI W v zs → Calls Try.prog 58 #[.int .i64 n, v] W fun r w' => r = .returned (.bool true) ∧ Below W.heap.size W w' := by
    exact fun W hW => idiff_yes W v zs n hW hm (by have := h.2.1; omega) hx
  have he : e < 4294967296 := by have := h.2.2.2; have := eMax_le n; simp at *; omega
  have hO : ∀ W, SlI W v zs → Calls Try.prog 59 #[.agg #[.int .i64 n, .int .u32 e], v] W fun r w' => r = .returned (.agg #[.int .i64 zs.length, .int .u32 (onE e (vx zs) zs.length : Nat)]) ∧ Below W.heap.size W w' :=
    fun W hW => ion_any W v zs n e hW (by have := h.2.1; omega) he hx
  obtain ⟨x, hxx⟩ : ∃ x : Nat, onE e (vx zs) zs.length = x := ⟨_, rfl⟩
  rw [hxx] at hO ⊢
  replace hO := Lib.hid hO
  replace hD := Lib.hid hD
  replace hS := Lib.hid hS

  clear hx he hxx
  go_enter Try.func39, Try.ntmps39
  go_wp2_with fail
  refine (valid_t _ n e h).mono ?_
  rintro r1 w1 ⟨rfl, hb1⟩
  obtain ⟨hc1_0, hz1_0⟩ := bkeep hb1 (w.heap.size) (by (try simp) <;> omega)
  obtain ⟨hc1_1, hz1_1⟩ := bkeep hb1 (w.heap.size + 1) (by (try simp) <;> omega)
  have hf1_1 := bkeepz hb1 (w.heap.size + 1) (by (try simp) <;> omega)
  go_wp2_with fail
  refine (hD.out _ (hS.out.below (by (repeat (first | exact Below.refl _ _ | assumption | refine bchain (by assumption) ?_ | refine balloc ?_ _ | apply Below.drew | apply below_drewN | (refine Below.alloc ?_ (by (try simp) <;> omega) _) | (refine Below.setCell ?_ (by (try simp) <;> omega) _)))))).mono ?_
  rintro r2 w2 ⟨rfl, hb2⟩
  obtain ⟨hc2_0, hz2_0⟩ := bkeep hb2 (w.heap.size) (by (try simp) <;> omega)
  obtain ⟨hc2_1, hz2_1⟩ := bkeep hb2 (w.heap.size + 1) (by (try simp) <;> omega)
  have hf2_1 := bkeepz hb2 (w.heap.size + 1) (by (try simp) <;> omega)
  go_wp2_with fail
  refine (hO.out _ (hS.out.below (by (repeat (first | exact Below.refl _ _ | assumption | refine bchain (by assumption) ?_ | refine balloc ?_ _ | apply Below.drew | apply below_drewN | (refine Below.alloc ?_ (by (try simp) <;> omega) _) | (refine Below.setCell ?_ (by (try simp) <;> omega) _)))))).mono ?_
  rintro r3 w3 ⟨rfl, hb3⟩
  obtain ⟨hc3_0, hz3_0⟩ := bkeep hb3 (w.heap.size + 1) (by (try simp) <;> omega)
  have hf3_0 := bkeepz hb3 (w.heap.size + 1) (by (try simp) <;> omega)
  go_wp2
  have h0 : w3.cell? ⟨w.heap.size + 1, 0, none⟩ = some (.int .i64 0) := by rw [hc3_0, hc2_1, hc1_1]; simp
  have h1 : w3.cell? ⟨w.heap.size + 1, 1, none⟩ = some (.int .u32 0) := by rw [hc3_0, hc2_1, hc1_1]; simp
  have h2 := twoCells h0 h1 (.int .i64 zs.length) (.int .u32 x)
  exact bodyPost_ret (v := .tuple #[.agg #[.int .i64 zs.length, .int .u32 x], .int .i64 0]) (by simp [results, Try.results39, go_sem, h2.1, h2.2]) rfl ⟨rfl, by (repeat (first | exact Below.refl _ _ | assumption | refine bchain (by assumption) ?_ | refine balloc ?_ _ | apply Below.drew | apply below_drewN | (refine Below.alloc ?_ (by (try simp) <;> omega) _) | (refine Below.setCell ?_ (by (try simp) <;> omega) _)))⟩

theorem sind_inv (v : Value) (n e : Int) (hn : e < 4294967296) (he0 : 0 ≤ e) (h : ¬ VG n e) :
    Calls Try.prog 38 #[.agg #[.int .i64 n, .int .u32 e], v] w fun r w' => r = .returned (.tuple #[.agg #[.int .i64 0, .int .u32 0], .int .i64 1]) ∧ Below w.heap.size w w' := by
  go_enter Try.func38, Try.ntmps38
  go_wp2_with fail
  refine (ok_f _ n e hn he0 h).mono ?_
  rintro r1 w1 ⟨rfl, hb1⟩
  obtain ⟨hc1_0, hz1_0⟩ := bkeep hb1 (w.heap.size + 1) (by (try simp) <;> omega)
  have hf1_0 := bkeepz hb1 (w.heap.size + 1) (by (try simp) <;> omega)
  go_wp2
  exact bodyPost_ret (v := .tuple #[.agg #[.int .i64 0, .int .u32 0], .int .i64 1]) (by simp [results, Try.results38, go_sem, hc1_0]) rfl ⟨rfl, by (repeat (first | exact Below.refl _ _ | assumption | refine bchain (by assumption) ?_ | refine balloc ?_ _ | apply Below.drew | apply below_drewN | (refine Below.alloc ?_ (by (try simp) <;> omega) _) | (refine Below.setCell ?_ (by (try simp) <;> omega) _)))⟩
theorem sind_dif (v : Value) (zs : List Int) (n e : Nat) (hS : SlI w v zs) (hm : zs.length ≤ 1048576) (h : VG n e) (hx : ¬ Diff zs n) :
    Calls Try.prog 38 #[.agg #[.int .i64 n, .int .u32 e], v] w fun r w' => r = .returned (.tuple #[.agg #[.int .i64 0, .int .u32 0], .int .i64 2]) ∧ Below w.heap.size w w' := by
  have hD : ∀ W, SlI W v zs → Calls Try.prog 56 #[v, .int .i64 n] W fun r w' => r = .returned (.bool false) ∧ Below W.heap.size W w' := by
    exact fun W hW => sdiff_no W v zs n hW hm (by have := h.1; omega) (by have := h.2.1; omega) hx
  replace hD := Lib.hid hD
  replace hS := Lib.hid hS

  clear hx
  go_enter Try.func38, Try.ntmps38
  go_wp2_with fail
  refine (ok_t _ n e h).mono ?_
  rintro r1 w1 ⟨rfl, hb1⟩
  obtain ⟨hc1_0, hz1_0⟩ := bkeep hb1 (w.heap.size) (by (try simp) <;> omega)
  obtain ⟨hc1_1, hz1_1⟩ := bkeep hb1 (w.heap.size + 1) (by (try simp) <;> omega)
  have hf1_1 := bkeepz hb1 (w.heap.size + 1) (by (try simp) <;> omega)
  go_wp2_with fail
  refine (hD.out _ (hS.out.below (by (repeat (first | exact Below.refl _ _ | assumption | refine bchain (by assumption) ?_ | refine balloc ?_ _ | apply Below.drew | apply below_drewN | (refine Below.alloc ?_ (by (try simp) <;> omega) _) | (refine Below.setCell ?_ (by (try simp) <;> omega) _)))))).mono ?_
  rintro r2 w2 ⟨rfl, hb2⟩
  obtain ⟨hc2_0, hz2_0⟩ := bkeep hb2 (w.heap.size + 1) (by (try simp) <;> omega)
  have hf2_0 := bkeepz hb2 (w.heap.size + 1) (by (try simp) <;> omega)
  go_wp2
  exact bodyPost_ret (v := .tuple #[.agg #[.int .i64 0, .int .u32 0], .int .i64 2]) (by simp [results, Try.results38, go_sem, hc1_1, hc2_0]) rfl ⟨rfl, by (repeat (first | exact Below.refl _ _ | assumption | refine bchain (by assumption) ?_ | refine balloc ?_ _ | apply Below.drew | apply below_drewN | (refine Below.alloc ?_ (by (try simp) <;> omega) _) | (refine Below.setCell ?_ (by (try simp) <;> omega) _)))⟩
theorem sind_ok (v : Value) (zs : List Int) (n e : Nat) (hS : SlI w v zs) (hm : zs.length ≤ 1048576) (h : VG n e) (hx : Diff zs n) :
    Calls Try.prog 38 #[.agg #[.int .i64 n, .int .u32 e], v] w fun r w' => r = .returned (.tuple #[.agg #[.int .i64 zs.length, .int .u32 (onE e (vx zs) zs.length : Nat)], .int .i64 0]) ∧ Below w.heap.size w w' := by
  have hD : ∀ W, SlI W v zs → Calls Try.prog 56 #[v, .int .i64 n] W fun r w' => r = .returned (.bool true) ∧ Below W.heap.size W w' := by
    exact fun W hW => sdiff_yes W v zs n hW hm (by have := h.1; omega) (by have := h.2.1; omega) hx
  have he : e < 4294967296 := by have := h.2.2.2; have := eMax_le n; simp at *; omega
  have hO : ∀ W, SlI W v zs → Calls Try.prog 57 #[.agg #[.int .i64 n, .int .u32 e], v] W fun r w' => r = .returned (.agg #[.int .i64 zs.length, .int .u32 (onE e (vx zs) zs.length : Nat)]) ∧ Below W.heap.size W w' :=
    fun W hW => son_any W v zs n e hW (by have := h.2.1; omega) he hx
  obtain ⟨x, hxx⟩ : ∃ x : Nat, onE e (vx zs) zs.length = x := ⟨_, rfl⟩
  rw [hxx] at hO ⊢
  replace hO := Lib.hid hO
  replace hD := Lib.hid hD
  replace hS := Lib.hid hS

  clear hx he hxx
  go_enter Try.func38, Try.ntmps38
  go_wp2_with fail
  refine (ok_t _ n e h).mono ?_
  rintro r1 w1 ⟨rfl, hb1⟩
  obtain ⟨hc1_0, hz1_0⟩ := bkeep hb1 (w.heap.size) (by (try simp) <;> omega)
  obtain ⟨hc1_1, hz1_1⟩ := bkeep hb1 (w.heap.size + 1) (by (try simp) <;> omega)
  have hf1_1 := bkeepz hb1 (w.heap.size + 1) (by (try simp) <;> omega)
  go_wp2_with fail
  refine (hD.out _ (hS.out.below (by (repeat (first | exact Below.refl _ _ | assumption | refine bchain (by assumption) ?_ | refine balloc ?_ _ | apply Below.drew | apply below_drewN | (refine Below.alloc ?_ (by (try simp) <;> omega) _) | (refine Below.setCell ?_ (by (try simp) <;> omega) _)))))).mono ?_
  rintro r2 w2 ⟨rfl, hb2⟩
  obtain ⟨hc2_0, hz2_0⟩ := bkeep hb2 (w.heap.size) (by (try simp) <;> omega)
  obtain ⟨hc2_1, hz2_1⟩ := bkeep hb2 (w.heap.size + 1) (by (try simp) <;> omega)
  have hf2_1 := bkeepz hb2 (w.heap.size + 1) (by (try simp) <;> omega)
  go_wp2_with fail
  refine (hO.out _ (hS.out.below (by (repeat (first | exact Below.refl _ _ | assumption | refine bchain (by assumption) ?_ | refine balloc ?_ _ | apply Below.drew | apply below_drewN | (refine Below.alloc ?_ (by (try simp) <;> omega) _) | (refine Below.setCell ?_ (by (try simp) <;> omega) _)))))).mono ?_
  rintro r3 w3 ⟨rfl, hb3⟩
  obtain ⟨hc3_0, hz3_0⟩ := bkeep hb3 (w.heap.size + 1) (by (try simp) <;> omega)
  have hf3_0 := bkeepz hb3 (w.heap.size + 1) (by (try simp) <;> omega)
  go_wp2
  have h0 : w3.cell? ⟨w.heap.size + 1, 0, none⟩ = some (.int .i64 0) := by rw [hc3_0, hc2_1, hc1_1]; simp
  have h1 : w3.cell? ⟨w.heap.size + 1, 1, none⟩ = some (.int .u32 0) := by rw [hc3_0, hc2_1, hc1_1]; simp
  have h2 := twoCells h0 h1 (.int .i64 zs.length) (.int .u32 x)
  exact bodyPost_ret (v := .tuple #[.agg #[.int .i64 zs.length, .int .u32 x], .int .i64 0]) (by simp [results, Try.results38, go_sem, h2.1, h2.2]) rfl ⟨rfl, by (repeat (first | exact Below.refl _ _ | assumption | refine bchain (by assumption) ?_ | refine balloc ?_ _ | apply Below.drew | apply below_drewN | (refine Below.alloc ?_ (by (try simp) <;> omega) _) | (refine Below.setCell ?_ (by (try simp) <;> omega) _)))⟩
end

theorem ren_both (n e : Int) (zs : List Int) (hn : e < 4294967296) (he0 : 0 ≤ e) (hm : zs.length ≤ 1048576) : ∃ (m f c : Int),
    (∀ W v, SlI W v zs → Calls Try.prog 35 #[.agg #[.int .i64 n, .int .u32 e], v] W fun r w' => r = .returned (.tuple #[.agg #[.int .i64 m, .int .u32 f], .int .i64 c]) ∧ Below W.heap.size W w') ∧
    (∀ W v, SlI W v zs → Calls Try.prog 37 #[.agg #[.int .i64 n, .int .u32 e], v] W fun r w' => r = .returned (.tuple #[.agg #[.int .i64 m, .int .u32 f], .int .i64 c]) ∧ Below W.heap.size W w') := by
  by_cases h : VG n e
  · obtain ⟨n', rfl⟩ : ∃ k : Nat, n = k := ⟨n.toNat, by have := h.1; omega⟩
    obtain ⟨e', rfl⟩ : ∃ k : Nat, e = k := ⟨e.toNat, by omega⟩
    by_cases hl : zs.length = n'
    · by_cases hd : Diff zs n'
      · exact ⟨_, _, _, fun W v hv => sren_ok W v zs n' e' hv hm h hl hd, fun W v hv => iren_ok W v zs n' e' hv hm h hl hd⟩
      · exact ⟨_, _, _, fun W v hv => sren_dif W v zs n' e' hv hm h hl hd, fun W v hv => iren_dif W v zs n' e' hv hm h hl hd⟩
    · exact ⟨_, _, _, fun W v hv => sren_len W v zs n' e' hv h hl, fun W v hv => iren_len W v zs n' e' hv h hl⟩
  · exact ⟨_, _, _, fun W v _ => sren_inv W v n e hn he0 h, fun W v _ => iren_inv W v n e hn he0 h⟩

theorem ind_both (n e : Int) (zs : List Int) (hn : e < 4294967296) (he0 : 0 ≤ e) (hm : zs.length ≤ 1048576) : ∃ (m f c : Int),
    (∀ W v, SlI W v zs → Calls Try.prog 38 #[.agg #[.int .i64 n, .int .u32 e], v] W fun r w' => r = .returned (.tuple #[.agg #[.int .i64 m, .int .u32 f], .int .i64 c]) ∧ Below W.heap.size W w') ∧
    (∀ W v, SlI W v zs → Calls Try.prog 39 #[.agg #[.int .i64 n, .int .u32 e], v] W fun r w' => r = .returned (.tuple #[.agg #[.int .i64 m, .int .u32 f], .int .i64 c]) ∧ Below W.heap.size W w') := by
  by_cases h : VG n e
  · obtain ⟨n', rfl⟩ : ∃ k : Nat, n = k := ⟨n.toNat, by have := h.1; omega⟩
    obtain ⟨e', rfl⟩ : ∃ k : Nat, e = k := ⟨e.toNat, by omega⟩
    by_cases hd : Diff zs n'
    · exact ⟨_, _, _, fun W v hv => sind_ok W v zs n' e' hv hm h hd, fun W v hv => iind_ok W v zs n' e' hv hm h hd⟩
    · exact ⟨_, _, _, fun W v hv => sind_dif W v zs n' e' hv hm h hd, fun W v hv => iind_dif W v zs n' e' hv hm h hd⟩
  · exact ⟨_, _, _, fun W v _ => sind_inv W v n e hn he0 h, fun W v _ => iind_inv W v n e hn he0 h⟩
end Go.Proofs.Ytoiepgdjknpjiab
