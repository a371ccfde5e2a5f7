/-
  JointDensity: both sides, whatever the arguments.
-/
import Derived.Test.YtncbimbbkealmaaDoorJdM
import Derived.Test.YtncbimbbkealmaaDoorJe
namespace Go.Proofs.YtncbimbbkealmaaDoor
open Go.RowKit Go.Shelf
set_option maxRecDepth 100000
theorem jdn_both (k0 n0 e0 k1 n1 e1 k n e : Int) (he0 : e0 < 4294967296) (h00 : 0 ≤ e0) (he1 : e1 < 4294967296) (h10 : 0 ≤ e1) (he : e < 4294967296) (h0 : 0 ≤ e) : ∃ x y c : Int,
    (∀ W, Calls Tryd.prog 8 #[.agg #[.int .i64 k0, .int .i64 n0, .int .u32 e0], .agg #[.int .i64 k1, .int .i64 n1, .int .u32 e1], .agg #[.int .i64 k, .int .i64 n, .int .u32 e]] W fun r w' => r = .returned (.tuple #[.agg #[.int .i64 x, .int .i64 y], .int .i64 c]) ∧ Below W.heap.size W w') ∧
    (∀ W, TabZ W → Calls Tryd.prog 10 #[.agg #[.int .i64 k0, .int .i64 n0, .int .u32 e0], .agg #[.int .i64 k1, .int .i64 n1, .int .u32 e1], .agg #[.int .i64 k, .int .i64 n, .int .u32 e]] W fun r w' => r = .returned (.tuple #[.agg #[.int .i64 x, .int .i64 y], .int .i64 c]) ∧ Below W.heap.size W w') := by
  by_cases hv : VK k0 n0 e0 ∧ VK k1 n1 e1 ∧ VK k n e
  · obtain ⟨K0, N0, E0, a1, v0⟩ := kv_nat (gs := [(k0, n0, e0), (k1, n1, e1), (k, n, e)]) (i := 0) hv.1
    obtain ⟨K1, N1, E1, a2, v1⟩ := kv_nat (gs := [(k0, n0, e0), (k1, n1, e1), (k, n, e)]) (i := 1) hv.2.1
    obtain ⟨K, N, E, a3, v2⟩ := kv_nat (gs := [(k0, n0, e0), (k1, n1, e1), (k, n, e)]) (i := 2) hv.2.2
    have b1 : (k0, n0, e0) = ((K0 : Int), (N0 : Int), (E0 : Int)) := a1
    have b2 : (k1, n1, e1) = ((K1 : Int), (N1 : Int), (E1 : Int)) := a2
    have b3 : (k, n, e) = ((K : Int), (N : Int), (E : Int)) := a3
    simp only [Prod.mk.injEq] at b1 b2 b3
    obtain ⟨rfl, rfl, rfl⟩ := b1
    obtain ⟨rfl, rfl, rfl⟩ := b2
    obtain ⟨rfl, rfl, rfl⟩ := b3
    have hI := fun (c : Int) (h4 : ¬ (tyI ((K1 : Int), (N1 : Int), (E1 : Int)) = tyI ((K0 : Int), (N0 : Int), (E0 : Int)) ∧ tyI ((K : Int), (N : Int), (E : Int)) = tyI ((K0 : Int), (N0 : Int), (E0 : Int))) → c = 4) (hz : tyI ((K1 : Int), (N1 : Int), (E1 : Int)) = tyI ((K0 : Int), (N0 : Int), (E0 : Int)) ∧ tyI ((K : Int), (N : Int), (E : Int)) = tyI ((K0 : Int), (N0 : Int), (E0 : Int)) → c = 0) => ict3 (K0 : Int) N0 E0 K1 N1 E1 K N E c he0 h00 he1 h10 he h0 (fun h => absurd hv h) (fun _ => h4) (fun _ => hz)
    rw [tyI_nat, tyI_nat, tyI_nat] at hI
    simp only [Prod.mk.injEq] at hI
    by_cases t1 : K0 = K ∧ onL E0 (List.range K0) = onL E (List.range K)
    · by_cases t2 : K1 = K ∧ onL E1 (List.range K1) = onL E (List.range K)
      · obtain ⟨rfl, t1⟩ := t1
        obtain ⟨rfl, t2⟩ := t2
        have hC := hI 0 (fun h => absurd (by omega) h) (fun _ => rfl)
        obtain ⟨_, hn5, _, hkn⟩ := v2.nums
        obtain ⟨_, hn05, _, hkn0⟩ := v0.nums
        obtain ⟨_, hn15, _, hkn1⟩ := v1.nums
        by_cases hr : N < N0 + N1 - K1
        · exact ⟨0, 0, 2, fun W => sjd_rng W K1 N0 E0 N1 E1 N E v0 v1 v2 t1 t2 hr, fun W _ => ijd_rng W K1 N0 E0 N1 E1 N E ⟨hkn0, hn05⟩ ⟨hkn1, hn15⟩ ⟨hkn, hn5⟩ hr hC⟩
        · exact ⟨_, _, 0, fun W => sjd_ok W K1 N0 E0 N1 E1 N E v0 v1 v2 t1 t2 (by omega), fun W hT => ijd_ok W K1 N0 E0 N1 E1 N E ⟨hkn0, hn05⟩ ⟨hkn1, hn15⟩ ⟨hkn, hn5⟩ (by omega) hC _ _ (fun W2 h2 => ijd_any W2 K1 N E N0 E0 N1 E1 v2 v0 v1 (by omega) (hT.below h2))⟩
      · exact ⟨0, 0, 4, fun W => sjd_ty2 W K0 N0 E0 K1 N1 E1 K N E v0 v1 v2 t1 t2, fun W _ => ijd_err W K0 N0 E0 K1 N1 E1 K N E 4 (.inr rfl) (hI 4 (fun _ => rfl) (fun h => absurd (by omega) t2))⟩
    · exact ⟨0, 0, 4, fun W => sjd_ty1 W K0 N0 E0 K1 N1 E1 K N E v0 v1 v2 t1, fun W _ => ijd_err W K0 N0 E0 K1 N1 E1 K N E 4 (.inr rfl) (hI 4 (fun _ => rfl) (fun h => absurd (by omega) t1))⟩
  · exact ⟨0, 0, 1, fun W => sjd_inv W k0 n0 e0 k1 n1 e1 k n e he0 h00 he1 h10 he h0 hv, fun W _ => ijd_err W k0 n0 e0 k1 n1 e1 k n e 1 (.inl rfl) (ict3 k0 n0 e0 k1 n1 e1 k n e 1 he0 h00 he1 h10 he h0 (fun _ => rfl) (fun h => absurd h hv) (fun h => absurd h hv))⟩
end Go.Proofs.YtncbimbbkealmaaDoor
