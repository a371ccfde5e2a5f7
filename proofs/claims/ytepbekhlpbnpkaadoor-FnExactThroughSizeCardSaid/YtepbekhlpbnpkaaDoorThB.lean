/-
  ThroughSize: both sides, whatever the arguments.
-/
import Derived.Test.YtepbekhlpbnpkaaDoorThj
import Derived.Test.YtepbekhlpbnpkaaDoorThs
namespace Go.Proofs.YtepbekhlpbnpkaaDoor
open Go.RowKit Go.Shelf
set_option maxRecDepth 100000
theorem thr_both (k0 n0 e0 k n e h : Int) (he0 : e0 < 4294967296) (h00 : 0 ≤ e0) (he : e < 4294967296) (h0 : 0 ≤ e) : ∃ x y c : Int,
    (∀ W, Calls Tryd.prog 33 #[.agg #[.int .i64 k0, .int .i64 n0, .int .u32 e0], .agg #[.int .i64 k, .int .i64 n, .int .u32 e], .int .i64 h] W fun r w' => r = .returned (.tuple #[.agg #[.int .i64 x, .int .i64 y], .int .i64 c]) ∧ Below W.heap.size W w') ∧
    (∀ W, TabZ W → Calls Tryd.prog 34 #[.agg #[.int .i64 k0, .int .i64 n0, .int .u32 e0], .agg #[.int .i64 k, .int .i64 n, .int .u32 e], .int .i64 h] W fun r w' => r = .returned (.tuple #[.agg #[.int .i64 x, .int .i64 y], .int .i64 c]) ∧ Below W.heap.size W w') := by
  by_cases hv : VK k0 n0 e0 ∧ VK k n e
  · by_cases ht : tyI (k, n, e) = tyI (k0, n0, e0)
    · have hI : CtA k0 n0 e0 k n e 0 := fun W B hB O hO => ict2 W k0 n0 e0 k n e 0 he0 h00 he h0 (fun h => absurd hv h) (fun _ _ h => absurd ht h) (fun _ _ _ => rfl) B hB O hO
      have hS : CtS k0 n0 e0 k n e 0 := fun W => slt_any W k0 n0 e0 k n e 0 he0 h00 he h0 (fun h => absurd hv h) (fun _ _ h => absurd ht h) (fun _ _ _ => rfl)
      by_cases h1 : h < n0
      · exact ⟨0, 0, 2, fun W => sthr_rng W k0 n0 e0 k n e h (.inl h1) hS, fun W _ => ithr_low W k0 n0 e0 k n e h h1 hI⟩
      · by_cases h2 : n < h
        · exact ⟨0, 0, 2, fun W => sthr_rng W k0 n0 e0 k n e h (.inr h2) hS, fun W _ => ithr_high W k0 n0 e0 k n e h h1 h2 hI⟩
        · obtain ⟨K0, N0, E0, e1, hv'⟩ := kv_nat (gs := [(k0, n0, e0), (k, n, e)]) (i := 0) hv.1
          obtain ⟨K, N, E, e2, hw'⟩ := kv_nat (gs := [(k0, n0, e0), (k, n, e)]) (i := 1) hv.2
          have e1' : (k0, n0, e0) = ((K0 : Int), (N0 : Int), (E0 : Int)) := e1
          have e2' : (k, n, e) = ((K : Int), (N : Int), (E : Int)) := e2
          simp only [Prod.mk.injEq] at e1' e2'
          obtain ⟨rfl, rfl, rfl⟩ := e1'
          obtain ⟨rfl, rfl, rfl⟩ := e2'
          rw [tyI_nat, tyI_nat] at ht
          simp only [Prod.mk.injEq] at ht
          obtain rfl : K = K0 := by omega
          have htt : onL E (List.range K) = onL E0 (List.range K) := by omega
          obtain ⟨_, hN5, hK3, hKN⟩ := hw'.nums
          obtain ⟨_, _, _, hKN0⟩ := hv'.nums
          obtain ⟨M, rfl⟩ : ∃ x : Nat, h = x := ⟨h.toNat, by omega⟩
          have hlt : onL E0 (List.range K) < eMax K := onL_ltP E0 (range_ok (n := N0) hKN0) (by omega)
          obtain ⟨L, c, hL, hc, hc3, hel, hs, hi⟩ := af_nil K M (onL E0 (List.range K)) (by omega) hK3 (by omega) hlt
          have hs' := hs
          rw [← htt] at hs'
          rcases hc with rfl | rfl
          · exact ⟨_, _, 0, fun W => sthr_ok W K N0 E0 N E M hv' hw' (by omega) (by omega) L hL hel hS hs', fun W hT => ithr_ok W K N0 E0 N E M hv' hw' (by omega) (by omega) hT L hL hel hI (fun W => hi W none)⟩
          · obtain rfl := hc3 rfl
            exact ⟨0, 0, 3, fun W => sthr_code W K N0 E0 N E M hw' (by omega) (by omega) hS hs', fun W _ => ithr_code W K N0 E0 N E M hv' (by omega) (by omega) hI (fun W => hi W none)⟩
    · exact ⟨0, 0, 4, fun W => sthr_err W k0 n0 e0 k n e h 4 (.inr rfl) (fun W => slt_any W k0 n0 e0 k n e 4 he0 h00 he h0 (fun h => absurd hv h) (fun _ _ _ => rfl) (fun _ _ h => absurd h ht)), fun W _ => ithr_err W k0 n0 e0 k n e h 4 (.inr rfl) (fun W B hB O hO => ict2 W k0 n0 e0 k n e 4 he0 h00 he h0 (fun h => absurd hv h) (fun _ _ _ => rfl) (fun _ _ h => absurd h ht) B hB O hO)⟩
  · exact ⟨0, 0, 1, fun W => sthr_err W k0 n0 e0 k n e h 1 (.inl rfl) (fun W => slt_any W k0 n0 e0 k n e 1 he0 h00 he h0 (fun _ => rfl) (fun a b _ => absurd ⟨a, b⟩ hv) (fun a b _ => absurd ⟨a, b⟩ hv)), fun W _ => ithr_err W k0 n0 e0 k n e h 1 (.inl rfl) (fun W B hB O hO => ict2 W k0 n0 e0 k n e 1 he0 h00 he h0 (fun _ => rfl) (fun a b _ => absurd ⟨a, b⟩ hv) (fun a b _ => absurd ⟨a, b⟩ hv) B hB O hO)⟩
end Go.Proofs.YtepbekhlpbnpkaaDoor
