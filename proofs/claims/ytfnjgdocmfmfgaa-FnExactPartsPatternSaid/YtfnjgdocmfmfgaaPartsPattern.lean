/-
  PROVED: for every number, PartsPattern of the program answers as the model's does, twice alike, and its result is new memory that may be written. Conditions: none.
-/
import Derived.Test.YtfnjgdocmfmfgaaOpen
import Derived.Test.YtfnjgdocmfmfgaaPeb
import Derived.Test.YtfnjgdocmfmfgaaPt
namespace Go.Proofs.Ytfnjgdocmfmfgaa
open Go.ChangeShapes Go.WideShapes Go.ChangeAt Go.RowKit
set_option maxRecDepth 100000

namespace PartsPatternLaw
set_option maxHeartbeats 2000000 in
theorem walk (k : Int) (_hk : (Lit.int .i64 k).wf = true) (w : World) :
    Calls Try.prog 6 #[.int .i64 k] w fun r w' => r = .returned (.bool true) ∧ Below w.heap.size w w' := by
  obtain ⟨L, c, hLl, hs, hi⟩ := parts_both k
  replace hs := Lib.hid hs
  replace hi := Lib.hid hi
  have hEL := Lib.hid (fun W u u' (h : Fr.SlG W u L.ts) (h' : Fr.SlG W u' L.ts) => eqP_any W u u' L h h' (by omega))
  have hMV := Lib.hid (fun W w1 u (h : OwnF w1 W u L.ts) => markP_any W w1 u L.n L.e L.s L.ts.length 1 _ (by omega) (by omega) h)
  have hHV := Lib.hid (fun W w1 u f (h : OwnV w1 W u L.ts.length 2 (mkF 1 (L.ts.length * 2) f)) => heldP_any W w1 u L.n L.e L.s L.ts.length 1 f (by omega) (by omega) h)
  obtain ⟨z, hz⟩ : ∃ z : Int, ((1 : Nat) : Int) + (L.ts.length : Int) * 2 = z := ⟨_, rfl⟩
  have hz0 : 0 ≤ z := by omega
  simp only [hz] at hMV hHV
  obtain ⟨W0, hW0⟩ : ∃ W0, W0 = w := ⟨_, rfl⟩
  have hB0 : Below w.heap.size w W0 := by rw [hW0]; exact Below.refl _ _
  replace hW0 := Lib.hid hW0
  clear hz
  go_enter Try.func6, Try.ntmps6
  have hBa : Below W0.heap.size W0 w := by rw [hW0.out]; exact Below.refl _ _
  go_wp2_with fail
  refine (hs.out _).mono ?_
  rintro r2 w2 ⟨⟨U, rfl, hU⟩, hb2⟩
  have hB2 : Below W0.heap.size W0 w2 := hBa.trans (hb2.mono hBa.size)
  obtain ⟨aU, cU, rfl, _⟩ := id hU
  clear hBa hb2
  obtain ⟨WU, hWU⟩ : ∃ WU, WU = w2.alloc (.cells #[.int .i64 L.n, .int .u32 L.e, .int .u32 L.s, (.slice aU L.ts.length cU)] 33) := ⟨_, rfl⟩
  have sU : PB WU w2.heap.size L.n L.e L.s (.slice aU L.ts.length cU) := by rw [hWU]; exact PB.made _ _ _ _ _ _
  have bU : Below w2.heap.size w2 WU := by rw [hWU]; exact balloc (Below.refl _ _) _
  replace hWU := Lib.hid hWU
  have hBU : Below W0.heap.size W0 WU := hB2.trans (bU.mono hB2.size)
  have hU2 := Lib.hid (OwnF.below hU bU).sl
  have hsU : w2.heap.size < WU.heap.size := sU.lt
  clear hU bU
  go_wp2_with fail
  rw [← hWU.out]
  have hD3 : Below WU.heap.size WU WU := Below.refl _ _
  have hz3 := hD3.size
  refine (hi.out _).mono ?_
  rintro r4 w4 ⟨⟨V, rfl, hV⟩, hb4⟩
  have hD4 : Below WU.heap.size WU w4 := hD3.trans (hb4.mono hz3)
  have hz4 := hb4.size
  have hVb := Lib.hid (fun b (h : 0 < L.ts.length ∧ Value.ownBlock V = some b) => OwnV.block hV h.1 h.2)
  obtain ⟨aV, cV, rfl, _⟩ := id hV
  clear hb4 hD3
  obtain ⟨WV, hWV⟩ : ∃ WV, WV = w4.alloc (.cells #[.int .i64 L.n, .int .u32 L.e, .int .u32 L.s, (.slice aV L.ts.length cV)] 33) := ⟨_, rfl⟩
  have sV : PB WV w4.heap.size L.n L.e L.s (.slice aV L.ts.length cV) := by rw [hWV]; exact PB.made _ _ _ _ _ _
  have bV : Below w4.heap.size w4 WV := by rw [hWV]; exact balloc (Below.refl _ _) _
  replace hWV := Lib.hid hWV
  have hD5 : Below WU.heap.size WU WV := hD4.trans (bV.mono hD4.size)
  have hV5 := Lib.hid (OwnF.below hV bV)
  have hne4 : w2.heap.size ≠ w4.heap.size := by omega
  have hne5 : w4.heap.size ≠ w2.heap.size := by omega
  clear hV bV
  obtain ⟨_, y0, y1, y2, y3, _⟩ := sU.below hD4
  obtain ⟨_, u0, u1, u2, u3, _⟩ := sU.below (hD5)
  obtain ⟨_, v0, v1, v2, v3, _⟩ := id sV
  go_wp2_with fail
  rw [← hWV.out]
  go_wp2_with fail
  refine (hEL.out _ _ _ hV5.out.sl (hU2.out.below hD5)).mono ?_
  rintro r6 w6 ⟨rfl, hb6⟩
  have hD6 : Below WU.heap.size WU w6 := hD5.trans (hb6.mono hD5.size)
  have sV6 := sV.below hb6
  have hV6 := Lib.hid (OwnF.below hV5.out hb6)
  clear hV5 hD5 hb6 sV u0 u1 u2 u3 v0 v1 v2 v3 y0 y1 y2 y3
  obtain ⟨_, v0, v1, v2, v3, _⟩ := id sV6
  go_wp2_with fail
  refine (hMV.out _ _ _ hV6.out).mono ?_
  rintro r7 w7 ⟨rfl, hc7, hV7⟩
  have hD7 : Below WU.heap.size WU w7 := hD6.trans (hc7.below (by have := hD6.size; omega) (fun b hb => by have := (hVb.out b hb).1; omega))
  have sV7 := sV6.chg hc7 (fun hb => by have := (hVb.out _ hb).2; omega)
  replace hV7 := Lib.hid hV7
  clear hV6 hD6 hc7 sV6 v0 v1 v2 v3
  obtain ⟨_, v0, v1, v2, v3, _⟩ := id sV7
  go_wp2_with fail
  refine (hHV.out _ _ _ _ hV7.out).mono ?_
  rintro r8 w8 ⟨rfl, hb8⟩
  have hD8 : Below WU.heap.size WU w8 := hD7.trans (hb8.mono hD7.size)
  have hV8 := Lib.hid (OwnV.below hV7.out hb8)
  have sV8 := sV7.below hb8
  clear hV7 hD7 hb8 sV7 v0 v1 v2 v3
  have hb9 : Below w8.heap.size w8 w8 := Below.refl _ _
  have hD9 : Below WU.heap.size WU w8 := hD8.trans (hb9.mono hD8.size)
  have hV9 := Lib.hid (OwnV.below hV8.out hb9)
  have sV9 := sV8.below hb9
  clear hV8 hD8 hb9 sV8
  go_wp2_with fail
  refine (hi.out _).mono ?_
  rintro r10 w10 ⟨⟨H, rfl, hH⟩, hb10⟩
  have hD10 : Below WU.heap.size WU w10 := hD9.trans (hb10.mono hD9.size)
  have hV10 := Lib.hid (OwnV.below hV9.out hb10)
  have sV10 := sV9.below hb10
  obtain ⟨aH, cH, rfl, _⟩ := id hH
  clear hV9 hD9 hb10 sV9
  obtain ⟨WH, hWH⟩ : ∃ WH, WH = w10.alloc (.cells #[.int .i64 L.n, .int .u32 L.e, .int .u32 L.s, (.slice aH L.ts.length cH)] 33) := ⟨_, rfl⟩
  have sH : PB WH w10.heap.size L.n L.e L.s (.slice aH L.ts.length cH) := by rw [hWH]; exact PB.made _ _ _ _ _ _
  have bH : Below w10.heap.size w10 WH := by rw [hWH]; exact balloc (Below.refl _ _) _
  replace hWH := Lib.hid hWH
  have hD11 : Below WU.heap.size WU WH := hD10.trans (bH.mono hD10.size)
  have hH11 := Lib.hid (OwnF.below hH bH).sl
  have hV11 := Lib.hid (OwnV.below hV10.out bH)
  have sV11 := sV10.below bH
  have hne10 : w2.heap.size ≠ w10.heap.size := by have := hD10.size; omega
  have hne11 : w10.heap.size ≠ w2.heap.size := by have := hD10.size; omega
  clear hH hV10 sV10 bH
  obtain ⟨_, y0, y1, y2, y3, _⟩ := sU.below hD10
  obtain ⟨_, u0, u1, u2, u3, _⟩ := sU.below (hD11)
  obtain ⟨_, v0, v1, v2, v3, _⟩ := id sH
  go_wp2_with fail
  rw [← hWH.out]
  go_wp2_with fail
  refine (hEL.out _ _ _ hH11.out (hU2.out.below hD11)).mono ?_
  rintro r12 w12 ⟨rfl, hb12⟩
  have hD12 : Below WU.heap.size WU w12 := hD11.trans (hb12.mono hD11.size)
  have hV12 := Lib.hid (OwnV.below hV11.out hb12)
  have sV12 := sV11.below hb12
  clear hV11 sV11 hD11 hb12 hH11 u0 u1 u2 u3 v0 v1 v2 v3 y0 y1 y2 y3
  obtain ⟨_, v0, v1, v2, v3, _⟩ := id sV12
  go_wp2_with fail
  refine (hHV.out _ _ _ _ hV12.out).mono ?_
  rintro r13 w13 ⟨rfl, hb13⟩
  have hBz : Below W0.heap.size W0 w13 := hBU.trans ((hD12.trans (hb13.mono hD12.size)).mono hBU.size)
  clear hV12 sV12 hD12 hb13
  go_wp2
  go_ret
  exact ⟨rfl, hB0.trans (hBz.mono hB0.size)⟩
end PartsPatternLaw
theorem PartsPatternLaw.lifted (os : Os) (started : os.Started) (H : Type) (enc : TypeId × Value → H) :
    ReturnsInHanded {} Try.checked os 6 .any (Rows.fnExactPartsPatternSpec.pre6 enc Try.prog Try.f6 Rows.fnExactPartsPatternRow.domain false)
      (Rows.fnExactPartsPatternSpec.post enc Try.prog Try.f6 false true false false) := by
  refine fr_lift (C := Try.checked) own started (by kernel_rfl) Try.func6 laid_out rfl (by kernel_rfl) (tb := 4) rfl Try.underlying4 ?hs
    (ChangeSpec.witness6 (enc := enc) (C := Try.checked) false ⟨#[], #[.int .i64 0], []⟩ 8 (by kernel_rfl) (by kernel_rfl) (by kernel_rfl) (by kernel_rfl)) ?_
  case hs =>
    intro ds h
    match ds, h with
    | [d0], _ => rfl
  intro W base args ds p hval0 hA0 hlt hsz
  have hval : ∀ (j : Nat) t v, Try.f6.params[j]? = some t → args[j]? = some v → Value.okWide Try.prog W .any base t v := hval0
  have hA : DataW.TrodAll enc Try.prog W 0 (fun _ => true) true Try.f6.params.toList args.toList ds p := hA0
  rw [Try.params6] at hA hval
  obtain ⟨v0, vs0, d0, ds0, p0, q0, hargs, rfl, rfl, h0, r0⟩ := trodAll_cons hA
  obtain ⟨rfl, rfl, rfl⟩ := trodAll_nil r0
  obtain rfl : args = #[v0] := by cases args; simp_all
  obtain ⟨a0, rfl, w0⟩ := open_i64 (hval 0 2 v0 rfl rfl) h0
  exact PartsPatternLaw.walk a0 w0 W

theorem partsPattern_holds : Rows.FnExactPartsPatternSaid :=
  OpenClaim.holds_of_wide 6 Try.f6 rfl rfl rfl rfl rfl rfl rfl ⟨rfl, rfl, rfl, rfl, rfl⟩ rfl rfl rfl rfl rfl (by kernel_rfl) Try.func6 (by kernel_rfl)
    (of_decide_eq_true (by kernel_rfl)) (by unfold Func.isWrapper; rw [if_neg (of_decide_eq_false (by kernel_rfl))]; exact ⟨rfl, rfl⟩)
    (fun os started H enc _ => PartsPatternLaw.lifted os started H enc)
#print axioms partsPattern_holds
end Go.Proofs.Ytfnjgdocmfmfgaa
