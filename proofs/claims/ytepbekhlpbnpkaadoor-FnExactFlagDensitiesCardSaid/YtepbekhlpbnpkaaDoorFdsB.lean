/-
  FlagDensities: both sides, whatever the arguments.
-/
import Derived.Test.YtepbekhlpbnpkaaDoorFds
namespace Go.Proofs.YtepbekhlpbnpkaaDoor
open Go.RowKit Go.Shelf
set_option maxRecDepth 100000
theorem fds_both (n0 k n e : Int) (he : e < 4294967296) (h0 : 0 ≤ e) : ∃ (ds : List (Int × Int)) (c : Int), ds.length ≤ 64 ∧
    (∀ W, Calls Tryd.prog 28 #[.int .i64 n0, .agg #[.int .i64 k, .int .i64 n, .int .u32 e]] W fun r w' => (∃ v, r = .returned (.tuple #[v, .int .i64 c]) ∧ Fr.SlG w' v ds) ∧ Below W.heap.size W w') ∧
    (∀ W, TabZ W → Calls Tryd.prog 29 #[.int .i64 n0, .agg #[.int .i64 k, .int .i64 n, .int .u32 e]] W fun r w' => (∃ v, r = .returned (.tuple #[v, .int .i64 c]) ∧ Hid (OwnD W.heap.size w' v ds)) ∧ Below W.heap.size W w') := by
  have nilD : ∀ (W w' : World) (r : Ending) (c : Int), r = .returned (.tuple #[.slice none 0 0, .int .i64 c]) ∧ Below W.heap.size W w' → (∃ v, r = .returned (.tuple #[v, .int .i64 c]) ∧ Hid (OwnD W.heap.size w' v [])) ∧ Below W.heap.size W w' := fun W w' r c h => ⟨⟨_, h.1, .inl ⟨rfl, rfl⟩⟩, h.2⟩
  by_cases hv : VK k n e
  · obtain ⟨K, N, E, e1, hv'⟩ := kv_nat (gs := [(k, n, e)]) (i := 0) hv
    have e1' : (k, n, e) = ((K : Int), (N : Int), (E : Int)) := e1
    simp only [Prod.mk.injEq] at e1'
    obtain ⟨rfl, rfl, rfl⟩ := e1'
    obtain ⟨_, hN5, hK3, hKN⟩ := hv'.nums
    have ht : onL E (List.range K) < eMax K := onL_ltP E (range_ok (n := N) hKN) (by omega)
    by_cases h1 : (N : Int) < n0
    · exact ⟨[], 2, by simp, fun W => sfds_rng W n0 K N E hv' (.inl h1), fun W _ => (ifds_rng W n0 K N E hv' h1).mono fun r w' h => nilD W w' r 2 h⟩
    · by_cases h2 : n0 < (K : Int)
      · exact ⟨[], 2, by simp, fun W => sfds_rng W n0 K N E hv' (.inr h2), fun W _ => (ifds_code W n0 K N E 2 (.inl rfl) hv' (by omega) (fun W => af_low K _ n0 hK3 ht h2 W)).mono fun r w' h => nilD W w' r 2 h⟩
      · obtain ⟨M, rfl⟩ : ∃ x : Nat, n0 = x := ⟨n0.toNat, by omega⟩
        obtain ⟨L, c, hL, hc, hc3, hel, hs, hi⟩ := af_nil K M (onL E (List.range K)) (by omega) hK3 (by omega) ht
        rcases hc with rfl | rfl
        · exact ⟨dsOf K N E M L, 0, by rw [dsOf_length]; exact hL, fun W => sfds_ok W K N E M hv' (by omega) (by omega) L hL hel hs, fun W hT => ifds_ok W K N E M hv' (by omega) hT L hL hel (fun W => hi W none)⟩
        · obtain rfl := hc3 rfl
          exact ⟨[], 3, by simp, fun W => sfds_code W M K N E hv' (by omega) hs, fun W _ => (ifds_code W M K N E 3 (.inr rfl) hv' (by omega) (fun W => hi W none)).mono fun r w' h => nilD W w' r 3 h⟩
  · exact ⟨[], 1, by simp, fun W => sfds_inv W n0 k n e he h0 hv, fun W _ => (ifds_inv W n0 k n e he h0 hv).mono fun r w' h => nilD W w' r 1 h⟩
end Go.Proofs.YtepbekhlpbnpkaaDoor
