/-
  IsFree: the program's and the model's contracts.
-/
import Derived.Test.YtoiepgdjknpjiacFree
namespace Go.Proofs.Ytoiepgdjknpjiac
open Go.RowKit
set_option maxRecDepth 100000
section
variable (w : World)

theorem iif_inv (n e : Int) (v : Value) (hn : e < 4294967296) (he0 : 0 ≤ e) (h : ¬ VG n e) :
    Calls Try.prog 27 #[.agg #[.int .i64 n, .int .u32 e], v] w fun r w' => r = .returned (.tuple #[.bool false, .int .i64 1]) ∧ Below w.heap.size w w' := by
  go_enter Try.func27, Try.ntmps27
  go_wp2_with fail
  refine (valid_f _ n e hn he0 h).mono ?_
  rintro r1 w1 ⟨rfl, hb1⟩
  go_wp2
  go_ret2
  exact ⟨rfl, by (repeat (first | exact Below.refl _ _ | assumption | refine bchain (by assumption) ?_ | refine balloc ?_ _ | apply Below.drew | apply below_drewN | (refine Below.alloc ?_ (by (try simp) <;> omega) _) | (refine Below.setCell ?_ (by (try simp) <;> omega) _)))⟩
theorem iif_bad (n e : Int) (h : VG n e) (v : Value) (gs : List (Int × Int)) (hS : SlG w v gs) (hm : gs.length ≤ 1048576) (hbd : Bd gs) (m : Nat) (hm2 : m < gs.length) (hV : ∀ k, k < m → GV gs k) (hbad : ¬ GV gs m) :
    Calls Try.prog 27 #[.agg #[.int .i64 n, .int .u32 e], v] w fun r w' => r = .returned (.tuple #[.bool false, .int .i64 1]) ∧ Below w.heap.size w w' := by
  obtain ⟨a, cap, rfl, hL⟩ := hS.lies
  have hC := Lib.hid (fun W (hW : Lies W a gs) => cf_f W a cap gs hm hW hbd m hm2 hV hbad)
  replace hL := Lib.hid hL
  obtain ⟨l, hl⟩ : ∃ l, gs.length = l := ⟨_, rfl⟩
  rw [hl] at hC ⊢
  clear hl hS
  go_enter Try.func27, Try.ntmps27
  go_wp2_with fail
  refine (valid_t _ n e h).mono ?_
  rintro r1 w1 ⟨rfl, hb1⟩
  obtain ⟨hc1_0, hz1_0⟩ := bkeep hb1 (w.heap.size) (by (try simp) <;> omega)
  go_wp2_with fail
  refine (hC.out _ (hL.out.below (by (repeat (first | exact Below.refl _ _ | assumption | refine bchain (by assumption) ?_ | refine balloc ?_ _ | apply Below.drew | apply below_drewN | (refine Below.alloc ?_ (by (try simp) <;> omega) _) | (refine Below.setCell ?_ (by (try simp) <;> omega) _)))))).mono ?_
  rintro r2 w2 ⟨rfl, hb2⟩
  go_wp2
  go_ret2
  exact ⟨rfl, by (repeat (first | exact Below.refl _ _ | assumption | refine bchain (by assumption) ?_ | refine balloc ?_ _ | apply Below.drew | apply below_drewN | (refine Below.alloc ?_ (by (try simp) <;> omega) _) | (refine Below.setCell ?_ (by (try simp) <;> omega) _)))⟩
theorem iif_long (n e : Int) (h : VG n e) (v : Value) (gs : List (Int × Int)) (hS : SlG w v gs) (hm : gs.length ≤ 1048576) (hbd : Bd gs) (hV : AllV gs) (h6 : 6 < gs.length) :
    Calls Try.prog 27 #[.agg #[.int .i64 n, .int .u32 e], v] w fun r w' => r = .returned (.tuple #[.bool false, .int .i64 3]) ∧ Below w.heap.size w w' := by
  obtain ⟨a, cap, rfl, hL⟩ := hS.lies
  have hC := Lib.hid (fun W (hW : Lies W a gs) => cf_long W a cap gs hm hW hbd hV h6)
  replace hL := Lib.hid hL
  obtain ⟨l, hl⟩ : ∃ l, gs.length = l := ⟨_, rfl⟩
  rw [hl] at hC ⊢
  clear hl hS
  go_enter Try.func27, Try.ntmps27
  go_wp2_with fail
  refine (valid_t _ n e h).mono ?_
  rintro r1 w1 ⟨rfl, hb1⟩
  obtain ⟨hc1_0, hz1_0⟩ := bkeep hb1 (w.heap.size) (by (try simp) <;> omega)
  go_wp2_with fail
  refine (hC.out _ (hL.out.below (by (repeat (first | exact Below.refl _ _ | assumption | refine bchain (by assumption) ?_ | refine balloc ?_ _ | apply Below.drew | apply below_drewN | (refine Below.alloc ?_ (by (try simp) <;> omega) _) | (refine Below.setCell ?_ (by (try simp) <;> omega) _)))))).mono ?_
  rintro r2 w2 ⟨rfl, hb2⟩
  go_wp2
  go_ret2
  exact ⟨rfl, by (repeat (first | exact Below.refl _ _ | assumption | refine bchain (by assumption) ?_ | refine balloc ?_ _ | apply Below.drew | apply below_drewN | (refine Below.alloc ?_ (by (try simp) <;> omega) _) | (refine Below.setCell ?_ (by (try simp) <;> omega) _)))⟩
theorem iif_ok (n e : Nat) (h : VG n e) (v : Value) (gs : List (Int × Int)) (hS : SlG w v gs) (hm : gs.length ≤ 1048576) (hbd : Bd gs) (hV : AllV gs) (h6 : gs.length ≤ 6) :
    Calls Try.prog 27 #[.agg #[.int .i64 n, .int .u32 e], v] w fun r w' => r = .returned (.tuple #[.bool (freeB n e gs), .int .i64 0]) ∧ Below w.heap.size w w' := by
  obtain ⟨a, cap, rfl, hL⟩ := hS.lies
  have hC := Lib.hid (fun W (hW : Lies W a gs) => cf_ok W a cap gs hm hW hbd hV h6)
  have hD := Lib.hid (fun W (hW : Lies W a gs) => ifree_any W n e h a cap gs hm hW hV)
  replace hL := Lib.hid hL
  obtain ⟨l, hl⟩ : ∃ l, gs.length = l := ⟨_, rfl⟩
  rw [hl] at hC hD ⊢
  obtain ⟨b, hb⟩ : ∃ b, freeB n e gs = b := ⟨_, rfl⟩
  rw [hb] at hD ⊢
  clear hl hS hb
  go_enter Try.func27, Try.ntmps27
  go_wp2_with fail
  refine (valid_t _ n e h).mono ?_
  rintro r1 w1 ⟨rfl, hb1⟩
  obtain ⟨hc1_0, hz1_0⟩ := bkeep hb1 (w.heap.size) (by (try simp) <;> omega)
  go_wp2_with fail
  refine (hC.out _ (hL.out.below (by (repeat (first | exact Below.refl _ _ | assumption | refine bchain (by assumption) ?_ | refine balloc ?_ _ | apply Below.drew | apply below_drewN | (refine Below.alloc ?_ (by (try simp) <;> omega) _) | (refine Below.setCell ?_ (by (try simp) <;> omega) _)))))).mono ?_
  rintro r2 w2 ⟨rfl, hb2⟩
  obtain ⟨hc2_0, hz2_0⟩ := bkeep hb2 (w.heap.size) (by (try simp) <;> omega)
  go_wp2_with fail
  refine (hD.out _ (hL.out.below (by (repeat (first | exact Below.refl _ _ | assumption | refine bchain (by assumption) ?_ | refine balloc ?_ _ | apply Below.drew | apply below_drewN | (refine Below.alloc ?_ (by (try simp) <;> omega) _) | (refine Below.setCell ?_ (by (try simp) <;> omega) _)))))).mono ?_
  rintro r3 w3 ⟨rfl, hb3⟩
  go_wp2
  go_ret2
  exact ⟨rfl, by (repeat (first | exact Below.refl _ _ | assumption | refine bchain (by assumption) ?_ | refine balloc ?_ _ | apply Below.drew | apply below_drewN | (refine Below.alloc ?_ (by (try simp) <;> omega) _) | (refine Below.setCell ?_ (by (try simp) <;> omega) _)))⟩

theorem sif_inv (n e : Int) (v : Value) (hn : e < 4294967296) (he0 : 0 ≤ e) (h : ¬ VG n e) :
    Calls Try.prog 25 #[.agg #[.int .i64 n, .int .u32 e], v] w fun r w' => r = .returned (.tuple #[.bool false, .int .i64 1]) ∧ Below w.heap.size w w' := by
  go_enter Try.func25, Try.ntmps25
  go_wp2_with fail
  refine (ok_f _ n e hn he0 h).mono ?_
  rintro r1 w1 ⟨rfl, hb1⟩
  go_wp2
  go_ret2
  exact ⟨rfl, by (repeat (first | exact Below.refl _ _ | assumption | refine bchain (by assumption) ?_ | refine balloc ?_ _ | apply Below.drew | apply below_drewN | (refine Below.alloc ?_ (by (try simp) <;> omega) _) | (refine Below.setCell ?_ (by (try simp) <;> omega) _)))⟩
theorem sif_bad (n e : Int) (h : VG n e) (v : Value) (gs : List (Int × Int)) (hS : SlG w v gs) (hm : gs.length ≤ 1048576) (hbd : Bd gs) (m : Nat) (hm2 : m < gs.length) (hV : ∀ k, k < m → GV gs k) (hbad : ¬ GV gs m) :
    Calls Try.prog 25 #[.agg #[.int .i64 n, .int .u32 e], v] w fun r w' => r = .returned (.tuple #[.bool false, .int .i64 1]) ∧ Below w.heap.size w w' := by
  obtain ⟨a, cap, rfl, hL⟩ := hS.lies
  have hC := Lib.hid (fun W (hW : Lies W a gs) => sf_f W a cap gs hm hW hbd m hm2 hV hbad)
  replace hL := Lib.hid hL
  obtain ⟨l, hl⟩ : ∃ l, gs.length = l := ⟨_, rfl⟩
  rw [hl] at hC ⊢
  clear hl hS
  go_enter Try.func25, Try.ntmps25
  go_wp2_with fail
  refine (ok_t _ n e h).mono ?_
  rintro r1 w1 ⟨rfl, hb1⟩
  obtain ⟨hc1_0, hz1_0⟩ := bkeep hb1 (w.heap.size) (by (try simp) <;> omega)
  go_wp2_with fail
  refine (hC.out _ (hL.out.below (by (repeat (first | exact Below.refl _ _ | assumption | refine bchain (by assumption) ?_ | refine balloc ?_ _ | apply Below.drew | apply below_drewN | (refine Below.alloc ?_ (by (try simp) <;> omega) _) | (refine Below.setCell ?_ (by (try simp) <;> omega) _)))))).mono ?_
  rintro r2 w2 ⟨rfl, hb2⟩
  go_wp2
  go_ret2
  exact ⟨rfl, by (repeat (first | exact Below.refl _ _ | assumption | refine bchain (by assumption) ?_ | refine balloc ?_ _ | apply Below.drew | apply below_drewN | (refine Below.alloc ?_ (by (try simp) <;> omega) _) | (refine Below.setCell ?_ (by (try simp) <;> omega) _)))⟩
theorem sif_long (n e : Int) (h : VG n e) (v : Value) (gs : List (Int × Int)) (hS : SlG w v gs) (hm : gs.length ≤ 1048576) (hbd : Bd gs) (hV : AllV gs) (h6 : 6 < gs.length) :
    Calls Try.prog 25 #[.agg #[.int .i64 n, .int .u32 e], v] w fun r w' => r = .returned (.tuple #[.bool false, .int .i64 3]) ∧ Below w.heap.size w w' := by
  obtain ⟨a, cap, rfl, hL⟩ := hS.lies
  have hC := Lib.hid (fun W (hW : Lies W a gs) => sf_long W a cap gs hm hW hbd hV h6)
  replace hL := Lib.hid hL
  obtain ⟨l, hl⟩ : ∃ l, gs.length = l := ⟨_, rfl⟩
  rw [hl] at hC ⊢
  clear hl hS
  go_enter Try.func25, Try.ntmps25
  go_wp2_with fail
  refine (ok_t _ n e h).mono ?_
  rintro r1 w1 ⟨rfl, hb1⟩
  obtain ⟨hc1_0, hz1_0⟩ := bkeep hb1 (w.heap.size) (by (try simp) <;> omega)
  go_wp2_with fail
  refine (hC.out _ (hL.out.below (by (repeat (first | exact Below.refl _ _ | assumption | refine bchain (by assumption) ?_ | refine balloc ?_ _ | apply Below.drew | apply below_drewN | (refine Below.alloc ?_ (by (try simp) <;> omega) _) | (refine Below.setCell ?_ (by (try simp) <;> omega) _)))))).mono ?_
  rintro r2 w2 ⟨rfl, hb2⟩
  go_wp2
  go_ret2
  exact ⟨rfl, by (repeat (first | exact Below.refl _ _ | assumption | refine bchain (by assumption) ?_ | refine balloc ?_ _ | apply Below.drew | apply below_drewN | (refine Below.alloc ?_ (by (try simp) <;> omega) _) | (refine Below.setCell ?_ (by (try simp) <;> omega) _)))⟩
theorem sif_ok (n e : Nat) (h : VG n e) (v : Value) (gs : List (Int × Int)) (hS : SlG w v gs) (hm : gs.length ≤ 1048576) (hbd : Bd gs) (hV : AllV gs) (h6 : gs.length ≤ 6) :
    Calls Try.prog 25 #[.agg #[.int .i64 n, .int .u32 e], v] w fun r w' => r = .returned (.tuple #[.bool (freeB n e gs), .int .i64 0]) ∧ Below w.heap.size w w' := by
  obtain ⟨a, cap, rfl, hL⟩ := hS.lies
  have hC := Lib.hid (fun W (hW : Lies W a gs) => sf_ok W a cap gs hm hW hbd hV h6)
  have hD := Lib.hid (fun W (hW : Lies W a gs) => sfree_any W n e h a cap gs hm hW hV)
  replace hL := Lib.hid hL
  obtain ⟨l, hl⟩ : ∃ l, gs.length = l := ⟨_, rfl⟩
  rw [hl] at hC hD ⊢
  obtain ⟨b, hb⟩ : ∃ b, freeB n e gs = b := ⟨_, rfl⟩
  rw [hb] at hD ⊢
  clear hl hS hb
  go_enter Try.func25, Try.ntmps25
  go_wp2_with fail
  refine (ok_t _ n e h).mono ?_
  rintro r1 w1 ⟨rfl, hb1⟩
  obtain ⟨hc1_0, hz1_0⟩ := bkeep hb1 (w.heap.size) (by (try simp) <;> omega)
  go_wp2_with fail
  refine (hC.out _ (hL.out.below (by (repeat (first | exact Below.refl _ _ | assumption | refine bchain (by assumption) ?_ | refine balloc ?_ _ | apply Below.drew | apply below_drewN | (refine Below.alloc ?_ (by (try simp) <;> omega) _) | (refine Below.setCell ?_ (by (try simp) <;> omega) _)))))).mono ?_
  rintro r2 w2 ⟨rfl, hb2⟩
  obtain ⟨hc2_0, hz2_0⟩ := bkeep hb2 (w.heap.size) (by (try simp) <;> omega)
  go_wp2_with fail
  refine (hD.out _ (hL.out.below (by (repeat (first | exact Below.refl _ _ | assumption | refine bchain (by assumption) ?_ | refine balloc ?_ _ | apply Below.drew | apply below_drewN | (refine Below.alloc ?_ (by (try simp) <;> omega) _) | (refine Below.setCell ?_ (by (try simp) <;> omega) _)))))).mono ?_
  rintro r3 w3 ⟨rfl, hb3⟩
  go_wp2
  go_ret2
  exact ⟨rfl, by (repeat (first | exact Below.refl _ _ | assumption | refine bchain (by assumption) ?_ | refine balloc ?_ _ | apply Below.drew | apply below_drewN | (refine Below.alloc ?_ (by (try simp) <;> omega) _) | (refine Below.setCell ?_ (by (try simp) <;> omega) _)))⟩
end
theorem if_both (n e : Int) (gs : List (Int × Int)) (hn : e < 4294967296) (he0 : 0 ≤ e) (hm : gs.length ≤ 1048576) (hbd : Bd gs) : ∃ (b : Bool) (c : Int),
    (∀ W v, SlG W v gs → Calls Try.prog 25 #[.agg #[.int .i64 n, .int .u32 e], v] W fun r w' => r = .returned (.tuple #[.bool b, .int .i64 c]) ∧ Below W.heap.size W w') ∧
    (∀ W v, SlG W v gs → Calls Try.prog 27 #[.agg #[.int .i64 n, .int .u32 e], v] W fun r w' => r = .returned (.tuple #[.bool b, .int .i64 c]) ∧ Below W.heap.size W w') := by
  by_cases h : VG n e
  · obtain ⟨n', rfl⟩ : ∃ k : Nat, n = k := ⟨n.toNat, by have := h.1; omega⟩
    obtain ⟨e', rfl⟩ : ∃ k : Nat, e = k := ⟨e.toNat, by omega⟩
    by_cases hV : AllV gs
    · rcases Nat.lt_or_ge 6 gs.length with h6 | h6
      · exact ⟨_, _, fun W v hS => sif_long W _ _ h v gs hS hm hbd hV h6, fun W v hS => iif_long W _ _ h v gs hS hm hbd hV h6⟩
      · exact ⟨_, _, fun W v hS => sif_ok W n' e' h v gs hS hm hbd hV h6, fun W v hS => iif_ok W n' e' h v gs hS hm hbd hV h6⟩
    · obtain ⟨m, h1, h2, h3⟩ := not_allV hV
      exact ⟨_, _, fun W v hS => sif_bad W _ _ h v gs hS hm hbd m h1 h2 h3, fun W v hS => iif_bad W _ _ h v gs hS hm hbd m h1 h2 h3⟩
  · exact ⟨_, _, fun W v _ => sif_inv W n e v hn he0 h, fun W v _ => iif_inv W n e v hn he0 h⟩
end Go.Proofs.Ytoiepgdjknpjiac
