/-
  IsPatternFree: both sides.
-/
import Derived.Test.YtfnjgdocmfmfgaaIp
import Derived.Test.YtfnjgdocmfmfgaaFm
namespace Go.Proofs.Ytfnjgdocmfmfgaa
open Go.RowKit
set_option maxRecDepth 100000
theorem gcells {W : World} {a : Option Addr} {gs : List (Int × Int)} (h : Fr.Lies W a gs) (h0 : 0 < gs.length) : ∃ b off, a = some ⟨b, off, none⟩ ∧ b < W.heap.size ∧ ∀ i, i < gs.length → Fr.GCell W b off (Fr.gAt gs i) i := by
  obtain ⟨b, off, e, hb, _⟩ := h 0 h0
  refine ⟨b, off, e, hb, fun i hi => ?_⟩
  obtain ⟨b2, off2, e2, _, hg⟩ := h i hi
  rw [e] at e2
  cases e2
  exact hg
theorem ip_both (X : PM) (hbd : BdP X) (gs : List (Int × Int)) (hm : gs.length ≤ 1048576) (hgb : Bd gs) : ∃ (B : Bool) (c : Int),
    (∀ W u v, Fr.SlG W u X.ts → SlG W v gs → Calls Try.prog 35 #[.agg #[.int .i64 X.n, .int .u32 X.e, .int .u32 X.s, u], v] W (RetBC W B c)) ∧
    (∀ W u v, Fr.SlG W u X.ts → SlG W v gs → Calls Try.prog 37 #[.agg #[.int .i64 X.n, .int .u32 X.e, .int .u32 X.s, u], v] W (RetBC W B c)) := by
  obtain ⟨c, hc0, _, _, hci, hcs⟩ := forb_both gs hm hgb
  by_cases hv : VPat X
  · have hi := fun W u (hS : Fr.SlG W u X.ts) W' (hB : Below W.heap.size W W') => ivp_any W' X u (hS.below hB) hbd true ⟨fun _ => hv, fun _ => rfl⟩
    have hs := fun W u (hS : Fr.SlG W u X.ts) W' (hB : Below W.heap.size W W') G k0 => l7_any W' X u G k0 (hS.below hB) hbd true ⟨fun _ => hv, fun _ => rfl⟩
    have hn : 1 ≤ X.n ∧ X.n ≤ 4 := by
      have h1 := hv.2.1
      unfold hpB at h1
      rw [decide_eq_true_iff] at h1
      exact ⟨h1.1, h1.2.1⟩
    have hl := hv.2.2.1
    have hA := hv.2.2.2.1
    obtain ⟨b0, b1, b2, b3⟩ := hbd
    obtain ⟨n, e, s, ts⟩ := X
    dsimp only at *
    obtain ⟨e, rfl⟩ : ∃ k : Nat, e = k := ⟨e.toNat, by omega⟩
    obtain ⟨s, rfl⟩ : ∃ k : Nat, s = k := ⟨s.toNat, by omega⟩
    obtain ⟨L, hL⟩ : ∃ L, ts.length = L := ⟨_, rfl⟩
    obtain rfl : n = L := by rw [← hl, hL]
    by_cases hc : c = 0
    · subst hc
      obtain ⟨hV, h6⟩ := hc0 rfl
      obtain ⟨O, hO⟩ : ∃ O : Nat → Option Nat, ∀ i, FirstO L (gAt gs i).1.toNat (OkM (gAt gs i).1.toNat (gAt gs i).2.toNat e s ts) (O i) := ⟨fun i => Classical.choose (firstO_ex _ _ _), fun i => Classical.choose_spec (firstO_ex _ _ _)⟩
      have hgi : ∀ i, i < gs.length → ∃ n m : Nat, (gAt gs i).1 = n ∧ (gAt gs i).2 = m ∧ n ≤ 5 ∧ m < eMax n ∧ m < 4294967296 := fun i hi2 => by
        have h1 := hV i hi2
        unfold GV VG at h1
        have h2 := hgb i hi2
        refine ⟨(gAt gs i).1.toNat, (gAt gs i).2.toNat, by omega, by omega, by omega, by omega, by omega⟩
      refine ⟨((List.range gs.length).all fun i => !(O i).isSome), 0, fun W u v hS hG => ?_, fun W u v hS hG => ?_⟩
      · have h1 := hs W u hS
        obtain ⟨a, cap, rfl, hLf⟩ := hS.lies
        obtain ⟨a2, cap2, rfl, hLg⟩ := hG.lies
        rw [hL] at h1 ⊢
        refine sip_ok W L e s a L cap a2 gs.length cap2 gs rfl h6 hLg (fun i => (O i).isSome) h1 (fun W' hB => hcs W' a2 cap2 (hLg.below hB)) (fun W' hB G k0 i hi2 => ?_)
        obtain ⟨b, off, rfl, hb, hg⟩ := gcells (hLf.below hB) (by omega)
        obtain ⟨n1, m1, e1, e2, e3, e4, e5⟩ := hgi i hi2
        have ho := hO i
        rw [e1, e2, Int.toNat_natCast, Int.toNat_natCast] at ho
        rw [e1, e2]
        refine (sfirst_any W' n1 m1 L e s (by omega) (by omega) e3 e5 (by omega) (by omega) G b off cap k0 ts hb (fun j hj => hg j (by omega)) (O i) ho).mono ?_
        rintro r w' ⟨v, hr, hbw, _⟩
        exact ⟨⟨v, hr⟩, hbw⟩
      · have h1 := hi W u hS
        obtain ⟨a, cap, rfl, hLf⟩ := hS.lies
        obtain ⟨a2, cap2, rfl, hLg⟩ := hG.lies
        rw [hL] at h1 ⊢
        refine iip_ok W L e s a L cap a2 gs.length cap2 gs rfl h6 hLg (fun i => (O i).isSome) h1 (fun W' hB => hci W' a2 cap2 (hLg.below hB)) (fun W' hB i hi2 => ?_)
        obtain ⟨b, off, rfl, hb, hg⟩ := gcells (hLf.below hB) (by omega)
        obtain ⟨n1, m1, e1, e2, e3, e4, e5⟩ := hgi i hi2
        have ho := hO i
        rw [e1, e2, Int.toNat_natCast, Int.toNat_natCast] at ho
        rw [e1, e2]
        refine (ifirst_any W' n1 m1 L e s (by omega) (by omega) e3 e4 (by omega) (by omega) b off cap ts hA hL hb (fun j hj => hg j (by omega)) (O i) ho).mono ?_
        rintro r w' ⟨v, hr, hbw, _⟩
        exact ⟨⟨v, hr⟩, hbw⟩
    · refine ⟨false, c, fun W u v hS hG => ?_, fun W u v hS hG => ?_⟩
      · have h1 := hs W u hS
        obtain ⟨a, cap, rfl, _⟩ := hS.lies
        obtain ⟨a2, cap2, rfl, hLg⟩ := hG.lies
        rw [hL] at h1 ⊢
        exact sip_code W L e s a L cap a2 _ cap2 h1 c hc (fun W' hB => hcs W' a2 cap2 (hLg.below hB))
      · have h1 := hi W u hS
        obtain ⟨a, cap, rfl, _⟩ := hS.lies
        obtain ⟨a2, cap2, rfl, hLg⟩ := hG.lies
        rw [hL] at h1 ⊢
        exact iip_code W L e s a L cap a2 _ cap2 h1 c hc (fun W' hB => hci W' a2 cap2 (hLg.below hB))
  · refine ⟨false, 1, fun W u v hS hG => ?_, fun W u v hS hG => ?_⟩
    · have h1 := fun W' (hB : Below W.heap.size W W') G k0 => l7_any W' X u G k0 (hS.below hB) hbd false ⟨fun c => (by cases c), fun c => absurd c hv⟩
      obtain ⟨a, cap, rfl, _⟩ := hS.lies
      obtain ⟨a2, cap2, rfl, _⟩ := hG.lies
      exact sip_inv W X.n X.e X.s a _ cap a2 _ cap2 h1
    · have h1 := fun W' (hB : Below W.heap.size W W') => ivp_any W' X u (hS.below hB) hbd false ⟨fun c => (by cases c), fun c => absurd c hv⟩
      obtain ⟨a, cap, rfl, _⟩ := hS.lies
      obtain ⟨a2, cap2, rfl, _⟩ := hG.lies
      exact iip_inv W X.n X.e X.s a _ cap a2 _ cap2 h1
end Go.Proofs.Ytfnjgdocmfmfgaa
