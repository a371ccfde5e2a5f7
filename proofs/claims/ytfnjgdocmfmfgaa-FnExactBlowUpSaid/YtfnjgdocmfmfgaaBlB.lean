/-
  BlowUp: both sides.
-/
import Derived.Test.YtfnjgdocmfmfgaaBls
namespace Go.Proofs.Ytfnjgdocmfmfgaa
open Go.RowKit
set_option maxRecDepth 100000
theorem bl_both (X : PM) (hbd : BdP X) (ss : List Int) : ∃ (m f c : Int),
    (∀ W u v, Fr.SlG W u X.ts → SlI W v ss → Calls Try.prog 29 #[.agg #[.int .i64 X.n, .int .u32 X.e, .int .u32 X.s, u], v] W (RetGr W m f c)) ∧
    (∀ W u v, Fr.SlG W u X.ts → SlI W v ss → Calls Try.prog 31 #[.agg #[.int .i64 X.n, .int .u32 X.e, .int .u32 X.s, u], v] W (RetGr W m f c)) := by
  by_cases hv : VPat X
  · have hi := fun W u (hS : Fr.SlG W u X.ts) W' (hB : Below W.heap.size W W') => ivp_any W' X u (hS.below hB) hbd true ⟨fun _ => hv, fun _ => rfl⟩
    have hs := fun W u (hS : Fr.SlG W u X.ts) W' (hB : Below W.heap.size W W') G k0 => l7_any W' X u G k0 (hS.below hB) hbd true ⟨fun _ => hv, fun _ => rfl⟩
    have hn : 1 ≤ X.n ∧ X.n ≤ 4 := by
      have h1 := hv.2.1
      unfold hpB at h1
      rw [decide_eq_true_iff] at h1
      exact ⟨h1.1, h1.2.1⟩
    have hl := hv.2.2.1
    obtain ⟨b0, b1, b2, b3⟩ := hbd
    obtain ⟨n, e, s, ts⟩ := X
    dsimp only at *
    obtain ⟨e, rfl⟩ : ∃ k : Nat, e = k := ⟨e.toNat, by omega⟩
    obtain ⟨s, rfl⟩ : ∃ k : Nat, s = k := ⟨s.toNat, by omega⟩
    obtain ⟨L, hL⟩ : ∃ L, ts.length = L := ⟨_, rfl⟩
    obtain rfl : n = L := by rw [← hl, hL]
    by_cases h : ss.length = L
    · obtain ⟨m, f, c, hok, hbad⟩ : ∃ m f c : Int, (GoodS ss → m = ((bl ss L).length : Int) ∧ f = (mdE e s (bl ss L) : Nat) ∧ c = 0) ∧ (¬ GoodS ss → m = 0 ∧ f = 0 ∧ c = 2) := by
        by_cases g : GoodS ss
        · exact ⟨_, _, _, fun _ => ⟨rfl, rfl, rfl⟩, fun c => absurd g c⟩
        · exact ⟨_, _, _, fun c => absurd c g, fun _ => ⟨rfl, rfl, rfl⟩⟩
      refine ⟨m, f, c, fun W u v hS hI => ?_, fun W u v hS hI => ?_⟩
      · have := hs W u hS
        obtain ⟨a, cap, rfl, _⟩ := hS
        rw [hL] at this ⊢
        exact sbl_ok W e s (by omega) (by omega) a L cap (by omega) ss h v hI m f c hok hbad this
      · have := hi W u hS
        obtain ⟨a, cap, rfl, _⟩ := hS
        rw [hL] at this ⊢
        exact ibl_ok W L e s (by omega) (by omega) a L cap (by omega) ss h v hI m f c hok hbad this
    · refine ⟨0, 0, 2, fun W u v hS hI => ?_, fun W u v hS hI => ?_⟩
      · have := hs W u hS
        obtain ⟨a, cap, rfl, _⟩ := hS
        obtain ⟨a2, cap2, rfl, _⟩ := hI
        rw [hL] at this ⊢
        exact sbl_len W L e s a L cap a2 _ cap2 (by simp; omega) this
      · have := hi W u hS
        obtain ⟨a, cap, rfl, _⟩ := hS
        obtain ⟨a2, cap2, rfl, _⟩ := hI
        rw [hL] at this ⊢
        exact ibl_len W L e s a L cap a2 _ cap2 (by simp; omega) this
  · refine ⟨0, 0, 1, fun W u v hS hI => ?_, fun W u v hS hI => ?_⟩
    · have := fun W' (hB : Below W.heap.size W W') G k0 => l7_any W' X u G k0 (hS.below hB) hbd false ⟨fun c => (by cases c), fun c => absurd c hv⟩
      obtain ⟨a, cap, rfl, _⟩ := hS
      exact sbl_bad W X.n X.e X.s a _ cap v this
    · have := fun W' (hB : Below W.heap.size W W') => ivp_any W' X u (hS.below hB) hbd false ⟨fun c => (by cases c), fun c => absurd c hv⟩
      obtain ⟨a, cap, rfl, _⟩ := hS
      exact ibl_bad W X.n X.e X.s a _ cap v this
end Go.Proofs.Ytfnjgdocmfmfgaa
