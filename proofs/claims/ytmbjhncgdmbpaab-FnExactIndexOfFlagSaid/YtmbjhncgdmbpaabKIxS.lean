/-
  IndexOfFlag: the model's contract whole, and both sides.
-/
import Derived.Test.YtmbjhncgdmbpaabKIx
namespace Go.Proofs.Ytmbjhncgdmbpaab
open Go.RowKit
set_option maxRecDepth 100000

section
variable (w : World)
set_option maxHeartbeats 2000000 in
theorem six_ok (k n e : Nat) (h : VK k n e) (v : Value) (gs : List (Int × Int × Int)) (hS : SlK w v gs) (hm : gs.length ≤ 1048576) (hV : AllK gs) (m : Nat) (hm2 : m ≤ gs.length) (hno : NoneK k n e gs m) (hat : m < gs.length → aliP k n e gs m = true) :
    Calls Try.prog 22 #[.agg #[.int .i64 k, .int .i64 n, .int .u32 e], v] w fun r w' => r = .returned (if m < gs.length then .tuple #[.int .i64 m, .int .i64 0] else .tuple #[.int .i64 0, .int .i64 6]) ∧ Below w.heap.size w w' := by
  obtain ⟨a, cap, rfl, hc⟩ := hS.lies
  have hX := Lib.hid (fun W (hW : Below w.heap.size w W) => six_at W k n e h a cap gs (hc.below hW) hm hV m hm2 hno hat)
  obtain ⟨l, hl⟩ : ∃ l, l = gs.length := ⟨_, rfl⟩
  rw [← hl] at hX hm hm2 ⊢
  replace hc := Lib.hid hc
  replace hV := Lib.hid hV
  replace hl := Lib.hid hl
  clear hS hno hat
  have hF0 := FC.made w k n e 49
  go_enter Try.func22, Try.ntmps22
  go_wp2_with fail
  refine (sok_t _ k n e h).mono ?_
  rintro r1 w1 ⟨rfl, hb1⟩
  obtain ⟨hc1_0, hz1_0⟩ := bkeep hb1 (w.heap.size) (by (try simp) <;> omega)
  have hF1 := hF0.below hb1
  have hB1 : Below w.heap.size w w1 := by (repeat (first | exact Below.refl _ _ | assumption | refine bchain (by assumption) ?_ | refine balloc ?_ _ | apply Below.drew | apply below_drewN | (refine Below.alloc ?_ (by (try simp) <;> omega) _) | (refine Below.setCell ?_ (by (try simp) <;> omega) _)))
  have hs0 := Lib.hid (⟨hF1, hB1⟩ : FC w1 w.heap.size k n e ∧ Below w.heap.size w w1)
  clear hF0 hF1 hb1 hB1 hc1_0
  go_wp2
  go_loopw [6] (fun i wr => ∃ j : Nat, j ≤ l ∧ i = .int .i64 j ∧ FC wr w.heap.size k n e ∧ Below w.heap.size w wr) (fun i _ => l - (intOf i).toNat)
  case atStart => exact ⟨0, by omega, rfl, hs0.out⟩
  case round =>
    obtain ⟨j, hj, rfl, hF, hB⟩ := hrel
    by_cases hlt : j < l
    · obtain ⟨b, off, rfl, hb, hg⟩ := hc.out j (by have := hl.out; omega)
      have hv : KV gs j := hV.out j (by have := hl.out; omega)
      unfold KV at hv
      obtain ⟨x, y, z, hxy⟩ : ∃ x y z, kAt gs j = (x, y, z) := ⟨_, _, _, rfl⟩
      rw [hxy] at hv
      have s0 : wr.cell? ⟨b, off + j * 3, none⟩ = some (.int .i64 x) := by rw [hB.cell (p := ⟨b, _, none⟩) hb, hg.1, hxy]
      have s1 : wr.cell? ⟨b, off + j * 3 + 1, none⟩ = some (.int .i64 y) := by rw [hB.cell (p := ⟨b, _, none⟩) hb, hg.2.1, hxy]
      have s2 : wr.cell? ⟨b, off + j * 3 + 2, none⟩ = some (.int .u32 z) := by rw [hB.cell (p := ⟨b, _, none⟩) hb, hg.2.2, hxy]
      have hC := Lib.hid (fun W => sok_t W x y z hv)
      have hkn : (j : Int) < (l : Int) := by omega
      replace hF := Lib.hid hF
      clear hg hxy hv
      go_wp2_with fail
      refine (hC.out _).mono ?_
      rintro r3 w3 ⟨rfl, hb3⟩
      have hF3 := Lib.hid (hF.out.below hb3)
      go_wp2
      go_roundw
      case rel => exact ⟨j + 1, by omega, by go_num, hF3.out, by (repeat (first | exact Below.refl _ _ | assumption | refine bchain (by assumption) ?_ | refine balloc ?_ _ | apply Below.drew | apply below_drewN | (refine Below.alloc ?_ (by (try simp) <;> omega) _) | (refine Below.setCell ?_ (by (try simp) <;> omega) _)))⟩
      case measure => simp [intOf]; omega
    · obtain rfl : j = l := by omega
      have hd := decide_eq_false (show ¬ ((j : Int) < (j : Int)) by omega)
      obtain ⟨q0, q1, q2, q3⟩ := hF
      have hX2 := hX.out wr hB
      by_cases hml : m < j
      · rw [if_pos hml] at hX2
        have hd2 := decide_eq_false (show ¬ ((m : Int) < 0) by omega)
        replace hX2 := Lib.hid hX2
        go_wp2_with fail
        refine (hX2.out).mono ?_
        rintro r4 w4 ⟨rfl, hb4⟩
        go_wp2
        go_ret2
        exact ⟨by first | rfl | rw [if_pos hml], by (repeat (first | exact Below.refl _ _ | assumption | refine bchain (by assumption) ?_ | refine balloc ?_ _ | apply Below.drew | apply below_drewN | (refine Below.alloc ?_ (by (try simp) <;> omega) _) | (refine Below.setCell ?_ (by (try simp) <;> omega) _)))⟩
      · rw [if_neg hml] at hX2
        replace hX2 := Lib.hid hX2
        go_wp2_with fail
        refine (hX2.out).mono ?_
        rintro r4 w4 ⟨rfl, hb4⟩
        go_wp2
        go_ret2
        exact ⟨by first | rfl | rw [if_neg hml], by (repeat (first | exact Below.refl _ _ | assumption | refine bchain (by assumption) ?_ | refine balloc ?_ _ | apply Below.drew | apply below_drewN | (refine Below.alloc ?_ (by (try simp) <;> omega) _) | (refine Below.setCell ?_ (by (try simp) <;> omega) _)))⟩
end
theorem ix_both (k n e : Int) (gs : List (Int × Int × Int)) (hn : e < 4294967296) (he0 : 0 ≤ e) (hm : gs.length ≤ 1048576) (hbd : BdK gs) : ∃ (b c : Int),
    (∀ W v, SlK W v gs → Calls Try.prog 22 #[.agg #[.int .i64 k, .int .i64 n, .int .u32 e], v] W fun r w' => r = .returned (.tuple #[.int .i64 b, .int .i64 c]) ∧ Below W.heap.size W w') ∧
    (∀ W v, SlK W v gs → Calls Try.prog 25 #[.agg #[.int .i64 k, .int .i64 n, .int .u32 e], v] W fun r w' => r = .returned (.tuple #[.int .i64 b, .int .i64 c]) ∧ Below W.heap.size W w') := by
  by_cases h : VK k n e
  · obtain ⟨k, rfl⟩ : ∃ x : Nat, k = x := ⟨k.toNat, by have := h.2.1; omega⟩
    obtain ⟨n, rfl⟩ : ∃ x : Nat, n = x := ⟨n.toNat, by have := h.1.1; omega⟩
    obtain ⟨e, rfl⟩ : ∃ x : Nat, e = x := ⟨e.toNat, by omega⟩
    by_cases hV : AllK gs
    · rcases first_or_none k n e gs gs.length with hno | ⟨m, h1, h2, h3⟩
      · refine ⟨0, 6, fun W v hS => ?_, fun W v hS => ?_⟩
        · have := six_ok W k n e h v gs hS hm hV gs.length (Nat.le_refl _) hno (fun c => absurd c (Nat.lt_irrefl _))
          rw [if_neg (Nat.lt_irrefl _)] at this
          exact this
        · have := iix_ok W k n e h v gs hS hm hV gs.length (Nat.le_refl _) hno (fun c => absurd c (Nat.lt_irrefl _))
          rw [if_neg (Nat.lt_irrefl _)] at this
          exact this
      · refine ⟨(m : Int), 0, fun W v hS => ?_, fun W v hS => ?_⟩
        · have := six_ok W k n e h v gs hS hm hV m (by omega) h2 (fun _ => h3)
          rw [if_pos h1] at this
          exact this
        · have := iix_ok W k n e h v gs hS hm hV m (by omega) h2 (fun _ => h3)
          rw [if_pos h1] at this
          exact this
    · obtain ⟨m, h1, h2, h3⟩ := not_allK hV
      exact ⟨_, _, fun W v hS => six_bad W k n e h v gs hS hm hbd m h1 h2 h3, fun W v hS => iix_bad W k n e h v gs hS hm hbd m h1 h2 h3⟩
  · exact ⟨_, _, fun W v _ => six_inv W k n e v hn he0 h, fun W v _ => iix_inv W k n e v hn he0 h⟩
end Go.Proofs.Ytmbjhncgdmbpaab
