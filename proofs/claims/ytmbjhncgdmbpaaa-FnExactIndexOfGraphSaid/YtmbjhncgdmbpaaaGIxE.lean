/-
  IndexOfGraph: the program's contract, the codes, and both.
-/
import Derived.Test.YtmbjhncgdmbpaaaGIx
namespace Go.Proofs.Ytmbjhncgdmbpaaa
open Go.RowKit Go.Shelf
set_option maxRecDepth 100000

section
variable (w : World)
theorem igx_inv (n e : Int) (hn : e < 4294967296) (he0 : 0 ≤ e) (h : ¬ VG n e) :
    Calls Try.prog 17 #[.agg #[.int .i64 n, .int .u32 e]] w fun r w' => r = .returned (.tuple #[.int .i64 0, .int .i64 1]) ∧ Below w.heap.size w w' := by
  go_enter Try.func17, Try.ntmps17
  go_wp2_with fail
  refine (valid_f _ n e hn he0 h).mono ?_
  rintro r1 w1 ⟨rfl, hb1⟩
  go_wp2
  go_ret2
  exact ⟨rfl, by (repeat (first | exact Below.refl _ _ | assumption | refine bchain (by assumption) ?_ | refine balloc ?_ _ | apply Below.drew | apply below_drewN | (refine Below.alloc ?_ (by (try simp) <;> omega) _) | (refine Below.setCell ?_ (by (try simp) <;> omega) _)))⟩
theorem sgx_inv (n e : Int) (hn : e < 4294967296) (he0 : 0 ≤ e) (h : ¬ VG n e) :
    Calls Try.prog 15 #[.agg #[.int .i64 n, .int .u32 e]] w fun r w' => r = .returned (.tuple #[.int .i64 0, .int .i64 1]) ∧ Below w.heap.size w w' := by
  go_enter Try.func15, Try.ntmps15
  go_wp2_with fail
  refine (ok_f _ n e hn he0 h).mono ?_
  rintro r1 w1 ⟨rfl, hb1⟩
  go_wp2
  go_ret2
  exact ⟨rfl, by (repeat (first | exact Below.refl _ _ | assumption | refine bchain (by assumption) ?_ | refine balloc ?_ _ | apply Below.drew | apply below_drewN | (refine Below.alloc ?_ (by (try simp) <;> omega) _) | (refine Below.setCell ?_ (by (try simp) <;> omega) _)))⟩
set_option maxHeartbeats 1000000 in
theorem igx_ok (n e p : Nat) (h : VG n e) (hp : (gN n)[p]? = some (leastE n e)) (hne : ∀ i, i < p → (gN n)[i]? ≠ some (leastE n e)) :
    Calls Try.prog 17 #[.agg #[.int .i64 n, .int .u32 e]] w fun r w' => r = .returned (.tuple #[.int .i64 p, .int .i64 0]) ∧ Below w.heap.size w w' := by
  have hn5 : n ≤ 5 := by have := h.2.1; omega
  have hV := Lib.hid (fun W => valid_t W n e h)
  have hL := Lib.hid (fun W => least_any W n e h)
  have hA := Lib.hid (fun W => iag_ok W n hn5)
  have hlL : (lG n (eMax n)).length = (gN n).length := by rw [lG_gN]; simp
  obtain ⟨x, hx⟩ : ∃ x, leastE n e = x := ⟨_, rfl⟩
  rw [hx] at hL hp hne
  have hS := Lib.hid (fun W a0 cap0 hLi => six_any W n x p a0 cap0 hLi hp hne)
  obtain ⟨G, hGl⟩ : ∃ G, (gN n).length = G := ⟨_, rfl⟩
  rw [hGl] at hlL hS
  clear hGl h hp hne hx
  go_enter Try.func17, Try.ntmps17
  go_wp2_with fail
  refine (hV.out _).mono ?_
  rintro r1 w1 ⟨rfl, hb1⟩
  have hB1 : Below w.heap.size w w1 := by (repeat (first | exact Below.refl _ _ | assumption | refine bchain (by assumption) ?_ | refine balloc ?_ _ | apply Below.drew | apply below_drewN | (refine Below.alloc ?_ (by (try simp) <;> omega) _) | (refine Below.setCell ?_ (by (try simp) <;> omega) _)))
  have f0 : w1.cell? ⟨w.heap.size, 0, none⟩ = some (.int .i64 n) := (hb1.cell (p := ⟨w.heap.size, 0, none⟩) (by simp)).trans (by rw [cNew _ _ _ _ _ rfl]; rfl)
  have f1 : w1.cell? ⟨w.heap.size, 1, none⟩ = some (.int .u32 e) := (hb1.cell (p := ⟨w.heap.size, 1, none⟩) (by simp)).trans (by rw [cNew _ _ _ _ _ rfl]; rfl)
  have fz : w.heap.size < w1.heap.size := by have := hb1.size; simp at this; omega
  clear hb1
  go_wp2_with (go_at_call 19; refine (hA.out _).mono ?_; rintro r2 w2 ⟨⟨u0, rfl, hU⟩, hb2⟩; obtain ⟨a0, cap0, rfl, hLi⟩ := hU.sl.lies; have g0 := (hb2.cell (p := ⟨w.heap.size, 0, none⟩) fz).trans f0; have g1 := (hb2.cell (p := ⟨w.heap.size, 1, none⟩) fz).trans f1)
  have hB2 := hB1.trans (hb2.mono hB1.size)
  have gz : w.heap.size < w2.heap.size := by have := hb2.size; omega
  replace hLi := Lib.hid hLi
  clear hb2 hB1 hU f0 f1 fz
  go_wp2_with (first
    | (go_at_call 45; refine (hL.out _).mono ?_; rintro r3 w3 ⟨rfl, hb3⟩)
    | (go_at_call 44; refine (hS.out _ _ _ (hLi.out.below (by (repeat (first | exact Below.refl _ _ | assumption | refine bchain (by assumption) ?_ | refine balloc ?_ _ | apply Below.drew | apply below_drewN | (refine Below.alloc ?_ (by (try simp) <;> omega) _) | (refine Below.setCell ?_ (by (try simp) <;> omega) _)))))).mono ?_; rintro r4 w4 ⟨rfl, hb4⟩))
  go_ret2
  exact ⟨rfl, by (repeat (first | exact Below.refl _ _ | assumption | refine bchain (by assumption) ?_ | refine balloc ?_ _ | apply Below.drew | apply below_drewN | (refine Below.alloc ?_ (by (try simp) <;> omega) _) | (refine Below.setCell ?_ (by (try simp) <;> omega) _)))⟩
end
theorem gx_both (n e : Int) (hn : e < 4294967296) (he0 : 0 ≤ e) : ∃ b c : Int,
    (∀ W, Calls Try.prog 15 #[.agg #[.int .i64 n, .int .u32 e]] W fun r w' => r = .returned (.tuple #[.int .i64 b, .int .i64 c]) ∧ Below W.heap.size W w') ∧
    (∀ W, Calls Try.prog 17 #[.agg #[.int .i64 n, .int .u32 e]] W fun r w' => r = .returned (.tuple #[.int .i64 b, .int .i64 c]) ∧ Below W.heap.size W w') := by
  by_cases h : VG n e
  · have h0 := h.1
    obtain ⟨n, rfl⟩ : ∃ x : Nat, n = x := ⟨n.toNat, by omega⟩
    obtain ⟨e, rfl⟩ : ∃ x : Nat, e = x := ⟨e.toNat, by omega⟩
    have hn5 : n ≤ 5 := by have := h.2.1; omega
    obtain ⟨p, hp, hne⟩ := first_at (least_gN hn5 (e := e) (by have := h.2.2.2; simpa using this))
    exact ⟨p, 0, fun W => six2_any W n e p h hp hne, fun W => igx_ok W n e p h hp hne⟩
  · exact ⟨0, 1, fun W => sgx_inv W n e hn he0 h, fun W => igx_inv W n e hn he0 h⟩
end Go.Proofs.Ytmbjhncgdmbpaaa
