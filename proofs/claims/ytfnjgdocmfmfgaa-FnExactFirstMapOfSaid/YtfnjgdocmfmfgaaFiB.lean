/-
  FirstMapOf: both sides together; a list of the call's own beside a change elsewhere.
-/
import Derived.Test.YtfnjgdocmfmfgaaFi
import Derived.Test.YtfnjgdocmfmfgaaIpB
namespace Go.Proofs.Ytfnjgdocmfmfgaa
open Go.RowKit
set_option maxRecDepth 100000
theorem OwnI.chg {w0 w w' : World} {v : Value} {l : Nat} {f : Nat → Int} {Own : Nat → Prop} (h : OwnI w0 w v l f) (hc : Chg Own w w') (ho : ∀ b, Own b → b < w0.heap.size) : OwnI w0 w' v l f := by
  obtain ⟨a, cap, e, h1, h2, h3⟩ := h
  refine ⟨a, cap, e, h1, h2, fun hz => ?_⟩
  obtain ⟨B, e2, h4, h5, h6, h7⟩ := h3 hz
  have hs := hc.same B h5 (fun c => by have := ho B c; omega)
  exact ⟨B, e2, h4, Nat.lt_of_lt_of_le h5 hc.size, fun i hi => (World.cell?_of_block (a := ⟨B, i, none⟩) hs).trans (h6 i hi), fun i hi => (World.frozen?_of_block (a := ⟨B, i, none⟩) hs).trans (h7 i hi)⟩
theorem fi_both (X : PM) (hbd : BdP X) (hn hm : Int) (h0 : 0 ≤ hm) (h1 : hm < 4294967296) : ∃ (l : Nat) (f : Nat → Int) (c : Int), l ≤ 5 ∧
    (∀ W u, Fr.SlG W u X.ts → Calls Try.prog 39 #[.agg #[.int .i64 X.n, .int .u32 X.e, .int .u32 X.s, u], .agg #[.int .i64 hn, .int .u32 hm]] W (RetNL W l f c)) ∧
    (∀ W u, Fr.SlG W u X.ts → Calls Try.prog 40 #[.agg #[.int .i64 X.n, .int .u32 X.e, .int .u32 X.s, u], .agg #[.int .i64 hn, .int .u32 hm]] W (RetNL W l f c)) := by
  by_cases hv : VPat X
  · have hi := fun W u (hS : Fr.SlG W u X.ts) W' (hB : Below W.heap.size W W') => ivp_any W' X u (hS.below hB) hbd true ⟨fun _ => hv, fun _ => rfl⟩
    have hs := fun W u (hS : Fr.SlG W u X.ts) W' (hB : Below W.heap.size W W') G k0 => l7_any W' X u G k0 (hS.below hB) hbd true ⟨fun _ => hv, fun _ => rfl⟩
    have hnX : 1 ≤ X.n ∧ X.n ≤ 4 := by
      have h1 := hv.2.1
      unfold hpB at h1
      rw [decide_eq_true_iff] at h1
      exact ⟨h1.1, h1.2.1⟩
    have hl := hv.2.2.1
    have hA := hv.2.2.2.1
    obtain ⟨b0, b1, b2, b3⟩ := hbd
    obtain ⟨n, e, s, ts⟩ := X
    dsimp only at *
    obtain ⟨e, rfl⟩ : ∃ k : Nat, e = k := ⟨e.toNat, by omega⟩
    obtain ⟨s, rfl⟩ : ∃ k : Nat, s = k := ⟨s.toNat, by omega⟩
    obtain ⟨L, hL⟩ : ∃ L, ts.length = L := ⟨_, rfl⟩
    obtain rfl : n = L := by rw [← hl, hL]
    by_cases hg : VG hn hm
    · obtain ⟨n1, rfl⟩ : ∃ k : Nat, hn = k := ⟨hn.toNat, by have := hg.1; omega⟩
      obtain ⟨m1, rfl⟩ : ∃ k : Nat, hm = k := ⟨hm.toNat, by omega⟩
      have e3 : n1 ≤ 5 := by have := hg.2.1; omega
      have e4 : m1 < eMax n1 := by have := hg.2.2.2; simp at this; omega
      obtain ⟨o, ho⟩ := firstO_ex L n1 (OkM n1 m1 e s ts)
      refine ⟨lenO n1 o, fun i => ((xn (dg L n1 (o.getD 0)) i : Nat) : Int), codeO o, (by cases o <;> simp [lenO, e3]), fun W u hS => ?_, fun W u hS => ?_⟩
      · have h1 := hs W u hS
        obtain ⟨a, cap, rfl, hLf⟩ := hS.lies
        rw [hL] at h1 ⊢
        refine sfi_ok W L e s a L cap n1 m1 h1 hg L n1 o (fun W' hB G k0 => ?_)
        obtain ⟨b, off, rfl, hb, hc⟩ := gcells (hLf.below hB) (by omega)
        exact sfirst_any W' n1 m1 L e s (by omega) (by omega) e3 (by omega) (by omega) (by omega) G b off cap k0 ts hb (fun j hj => hc j (by omega)) o ho
      · have h1 := hi W u hS
        obtain ⟨a, cap, rfl, hLf⟩ := hS.lies
        rw [hL] at h1 ⊢
        refine ifi_ok W L e s a L cap n1 m1 h1 hg L n1 o (fun W' hB => ?_)
        obtain ⟨b, off, rfl, hb, hc⟩ := gcells (hLf.below hB) (by omega)
        exact ifirst_any W' n1 m1 L e s (by omega) (by omega) e3 e4 (by omega) (by omega) b off cap ts hA hL hb (fun j hj => hc j (by omega)) o ho
    · refine ⟨0, fun _ => 0, 1, by omega, fun W u hS => ?_, fun W u hS => ?_⟩
      · have h2 := hs W u hS
        obtain ⟨a, cap, rfl, _⟩ := hS.lies
        rw [hL] at h2 ⊢
        exact sfi_bad W L e s a L cap hn hm h2 h0 h1 hg
      · have h2 := hi W u hS
        obtain ⟨a, cap, rfl, _⟩ := hS.lies
        rw [hL] at h2 ⊢
        exact ifi_bad W L e s a L cap hn hm h2 h0 h1 hg
  · refine ⟨0, fun _ => 0, 1, by omega, fun W u hS => ?_, fun W u hS => ?_⟩
    · have h2 := fun W' (hB : Below W.heap.size W W') G k0 => l7_any W' X u G k0 (hS.below hB) hbd false ⟨fun c => (by cases c), fun c => absurd c hv⟩
      obtain ⟨a, cap, rfl, _⟩ := hS.lies
      exact sfi_inv W X.n X.e X.s a _ cap hn hm h2
    · have h2 := fun W' (hB : Below W.heap.size W W') => ivp_any W' X u (hS.below hB) hbd false ⟨fun c => (by cases c), fun c => absurd c hv⟩
      obtain ⟨a, cap, rfl, _⟩ := hS.lies
      exact ifi_inv W X.n X.e X.s a _ cap hn hm h2
end Go.Proofs.Ytfnjgdocmfmfgaa
