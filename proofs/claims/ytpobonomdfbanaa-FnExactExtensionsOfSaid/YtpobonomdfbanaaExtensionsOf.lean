/-
  PROVED: for every flag and every list of graphs, ExtensionsOf of the program answers as the model's does, twice alike; its list is left as it was, and the result is new memory that may be written. Conditions: none.
-/
import Derived.Test.YtpobonomdfbanaaOpenGs
import Derived.Test.YtpobonomdfbanaaKOpen
import Derived.Test.YtpobonomdfbanaaExM1
import Derived.Test.YtpobonomdfbanaaKs
import Derived.Test.YtpobonomdfbanaaKMk
import Derived.Test.YtpobonomdfbanaaGto
namespace Go.Proofs.Ytpobonomdfbanaa
open Go.ChangeShapes Go.WideShapes Go.ChangeAt Go.RowKit
set_option maxRecDepth 100000

namespace ExtensionsOfLaw
theorem walk_long (k n e : Int) (v : Value) (gs : List (Int × Int)) (w : World) (hS : SlG w v gs) (hm : 1048576 < gs.length) :
    Calls Try.prog 3 #[.agg #[.int .i64 k, .int .i64 n, .int .u32 e], v] w fun r w' => r = .returned (.bool true) ∧ Below w.heap.size w w' := by
  obtain ⟨a, cap, rfl, h1, h2, _⟩ := hS
  have hC := Lib.hid (fun W => sz_long W a gs.length cap hm (by omega))
  obtain ⟨l, hl⟩ : ∃ l, gs.length = l := ⟨_, rfl⟩
  rw [hl] at hC ⊢
  clear hl h1 h2 hm
  go_enter Try.func3, Try.ntmps3
  go_wp2_with fail
  refine (hC.out _).mono ?_
  rintro r1 w1 ⟨rfl, rfl⟩
  go_wp2
  go_ret
  exact ⟨rfl, by (repeat (first | exact Below.refl _ _ | assumption | refine bchain (by assumption) ?_ | refine balloc ?_ _ | apply Below.drew | apply below_drewN | (refine Below.alloc ?_ (by (try simp) <;> omega) _) | (refine Below.setCell ?_ (by (try simp) <;> omega) _)))⟩
set_option maxHeartbeats 2000000 in
theorem walk_short (k n e : Int) (he : e < 4294967296) (he0 : 0 ≤ e) (v : Value) (gs : List (Int × Int)) (w : World) (hS : SlG w v gs) (hbd : Bd gs) (hm : gs.length ≤ 1048576) :
    Calls Try.prog 3 #[.agg #[.int .i64 k, .int .i64 n, .int .u32 e], v] w fun r w' => r = .returned (.bool true) ∧ Below w.heap.size w w' := by
  obtain ⟨L, c, hLl, hs, hi⟩ := ex_both k n e he he0 gs hm hbd
  replace hs := Lib.hid hs
  replace hi := Lib.hid hi
  have hT := Lib.hid (fun W (h : SlG W v gs) => toGo_any W v gs h hm)
  have hE := Lib.hid (fun W u u' (h : SlG W u gs) (h' : SlG W u' gs) => eqGs_any W u u' gs h h' hm)
  have hEL := Lib.hid (fun W w1 w2 u u' (h : OwnK w1 W u L) (h' : OwnK w2 W u' L) => eqKs_any W u u' L h.sl h'.sl (by omega))
  have hMX := Lib.hid (fun W w1 u (h : OwnG w1 W u gs) => markG_any W w1 u gs.length 1 _ hm (by omega) h)
  have hMV := Lib.hid (fun W w1 u (h : OwnK w1 W u L) => markK_any W w1 u L.length 1 _ (by omega) (by omega) h)
  have hHV := Lib.hid (fun W w1 u f (h : OwnV w1 W u L.length 3 (mkV 3 1 (L.length * 3) f)) => heldK_any W w1 u L.length 1 f (by omega) (by omega) h)
  obtain ⟨a, cap, hv, h1, h2, _⟩ := id hS
  have hC := Lib.hid (fun W => sz_ok W a gs.length cap hm)
  replace hS := Lib.hid hS
  have hl0 : 0 ≤ 1048576 - (gs.length : Int) := by omega
  rw [← hv] at hC
  obtain ⟨q, hq⟩ : ∃ q : Int, 1048576 - (gs.length : Int) = q := ⟨_, rfl⟩
  rw [hq] at hC hl0
  obtain ⟨p, hp⟩ : ∃ p : Int, ((1 : Nat) : Int) + (gs.length : Int) * 2 = p := ⟨_, rfl⟩
  have hp0 : 0 ≤ p := by omega
  simp only [hp] at hMX
  obtain ⟨z, hz⟩ : ∃ z : Int, ((1 : Nat) : Int) + (L.length : Int) * 3 = z := ⟨_, rfl⟩
  have hz0 : 0 ≤ z := by omega
  simp only [hz] at hMV hHV
  obtain ⟨l, hl⟩ : ∃ l, gs.length = l := ⟨_, rfl⟩
  have hXl := Lib.hid hl
  obtain ⟨W0, hW0⟩ : ∃ W0, W0 = w.alloc (.cells #[.int .i64 k, .int .i64 n, .int .u32 e] 26) := ⟨_, rfl⟩
  have hB0 : Below w.heap.size w W0 := by rw [hW0]; (repeat (first | exact Below.refl _ _ | assumption | refine bchain (by assumption) ?_ | refine balloc ?_ _ | apply Below.drew | apply below_drewN | (refine Below.alloc ?_ (by (try simp) <;> omega) _) | (refine Below.setCell ?_ (by (try simp) <;> omega) _)))
  have hzb : w.heap.size < W0.heap.size := by rw [hW0]; simp
  have g0 : W0.cell? ⟨w.heap.size, 0, none⟩ = some (.int .i64 k) := by rw [hW0, cNew _ _ _ _ _ rfl]; rfl
  have g1 : W0.cell? ⟨w.heap.size, 1, none⟩ = some (.int .i64 n) := by rw [hW0, cNew _ _ _ _ _ rfl]; rfl
  have g2 : W0.cell? ⟨w.heap.size, 2, none⟩ = some (.int .u32 e) := by rw [hW0, cNew _ _ _ _ _ rfl]; rfl
  have hS := Lib.hid (hS.out.below hB0)
  replace hW0 := Lib.hid hW0
  clear hm h1 h2 hv hq hp hz hbd hl
  go_enter Try.func3, Try.ntmps3
  go_wp2_with fail
  refine (hC.out _).mono ?_
  rintro r0 w0 ⟨rfl, rfl⟩
  rw [← hW0.out]
  go_wp2_with fail
  refine (toFlag_any _ k n e).mono ?_
  rintro ra wa ⟨rfl, hBa⟩
  go_wp2_with fail
  refine (hT.out _ (hS.out.below hBa)).mono ?_
  rintro r1 w1 ⟨⟨u1, rfl, hU1⟩, hb1⟩
  have hB1 : Below W0.heap.size W0 w1 := hBa.trans (hb1.mono hBa.size)
  clear hBa hb1
  go_wp2_with fail
  refine (hs.out _ _ hU1.sl).mono ?_
  rintro r2 w2 ⟨⟨U, rfl, hU⟩, hb2⟩
  have hB2 : Below W0.heap.size W0 w2 := hB1.trans (hb2.mono hB1.size)
  replace hU := Lib.hid hU
  clear hU1 hB1 hb2
  have hz2 := hB2.size
  have hS2 := Lib.hid (hS.out.below hB2)
  go_wp2_with fail
  refine (hT.out _ hS2.out).mono ?_
  rintro r3 w3 ⟨⟨X, rfl, hX⟩, hb3⟩
  have hz3 := hb3.size
  have hXb := Lib.hid (fun b (h : 0 < gs.length ∧ Value.ownBlock X = some b) => OwnV.block hX h.1 h.2)
  replace hX := Lib.hid hX
  have q40 := ((hB2.trans (hb3.mono hz2)).cell (p := ⟨w.heap.size, 0, none⟩) hzb).trans g0
  have q41 := ((hB2.trans (hb3.mono hz2)).cell (p := ⟨w.heap.size, 1, none⟩) hzb).trans g1
  have q42 := ((hB2.trans (hb3.mono hz2)).cell (p := ⟨w.heap.size, 2, none⟩) hzb).trans g2
  go_wp2_with fail
  refine (toFlag_any _ k n e).mono ?_
  rintro rb w3a ⟨rfl, hD3a⟩
  go_wp2_with fail
  refine (hi.out _ _ (hX.out.below hD3a).sl).mono ?_
  rintro r4 w4 ⟨⟨V, rfl, hV⟩, hb4⟩
  have hV0 : OwnK w3 w4 V L := hV.mono hD3a.size
  have hVb := Lib.hid (fun b (h : 0 < L.length ∧ Value.ownBlock V = some b) => OwnV.block hV0 h.1 h.2)
  have hD34 : Below w3.heap.size w3 w4 := hD3a.trans (hb4.mono hD3a.size)
  clear hD3a hb4 hV
  replace hV := Lib.hid hV0
  clear hV0
  have hD4 : Below w2.heap.size w2 w4 := hb3.trans (hD34.mono hz3)
  go_wp2_with fail
  refine (hEL.out _ _ _ _ _ hV.out (hU.out.below hD4)).mono ?_
  rintro r5 w5 ⟨rfl, hb5⟩
  have hD35 : Below w3.heap.size w3 w5 := hD34.trans (hb5.mono hD34.size)
  have hV5 := Lib.hid (hV.out.below hb5)
  clear hV hD4 hD34 hb5
  go_wp2_with fail
  refine (hT.out _ (hS2.out.below (hb3.trans (hD35.mono hz3)))).mono ?_
  rintro r6 w6 ⟨⟨u6, rfl, hU6⟩, hb6⟩
  have hD36 : Below w3.heap.size w3 w6 := hD35.trans (hb6.mono hD35.size)
  have hV6 := Lib.hid (hV5.out.below hb6)
  clear hV5 hD35 hb6
  go_wp2_with fail
  refine (hE.out _ _ _ (hX.out.below hD36).sl hU6.sl).mono ?_
  rintro r7 w7 ⟨rfl, hb7⟩
  have hD37 : Below w3.heap.size w3 w7 := hD36.trans (hb7.mono hD36.size)
  have hV7 := Lib.hid (hV6.out.below hb7)
  have hX7 := Lib.hid (hX.out.below hD37)
  clear hV6 hD36 hb7 hU6 hX
  go_wp2_with fail
  refine (hMX.out _ _ _ hX7.out).mono ?_
  rintro r8 w8 ⟨rfl, hc8, _⟩
  have hD28 : Below w2.heap.size w2 w8 := (hb3.trans (hD37.mono hz3)).trans (hc8.below (by have := hD37.size; omega) (fun b hb => (hXb.out b hb).1))
  have hV8 := Lib.hid (hV7.out.chg hc8 (fun b hb => (hXb.out b hb).2))
  clear hV7 hX7 hD37 hc8 hb3
  have hp1 : (p < 0) = False := by simp; omega
  go_wp2_with fail
  refine (hEL.out _ _ _ _ _ hV8.out (hU.out.below hD28)).mono ?_
  rintro r9 w9 ⟨rfl, hb9⟩
  have hD29 : Below w2.heap.size w2 w9 := hD28.trans (hb9.mono hD28.size)
  have hV9 : OwnK w3 w9 V L := OwnV.below hV8.out hb9
  replace hV9 := Lib.hid hV9
  clear hV8 hD28 hb9
  go_wp2_with fail
  refine (hMV.out _ _ _ hV9.out).mono ?_
  rintro r10 w10 ⟨rfl, hc10, hV10⟩
  have hD2a : Below w2.heap.size w2 w10 := hD29.trans (hc10.below (by have := hD29.size; omega) (fun b hb => by have := (hVb.out b hb).1; omega))
  replace hV10 := Lib.hid hV10
  clear hV9 hD29 hc10
  go_wp2_with fail
  refine (hHV.out _ _ _ _ hV10.out).mono ?_
  rintro r11 w11 ⟨rfl, hb11⟩
  have hD2b : Below w2.heap.size w2 w11 := hD2a.trans (hb11.mono hD2a.size)
  have hV11 := Lib.hid (hV10.out.below hb11)
  clear hV10 hD2a hb11
  have q120 := ((hB2.trans (hD2b.mono hz2)).cell (p := ⟨w.heap.size, 0, none⟩) hzb).trans g0
  have q121 := ((hB2.trans (hD2b.mono hz2)).cell (p := ⟨w.heap.size, 1, none⟩) hzb).trans g1
  have q122 := ((hB2.trans (hD2b.mono hz2)).cell (p := ⟨w.heap.size, 2, none⟩) hzb).trans g2
  go_wp2_with fail
  refine (toFlag_any _ k n e).mono ?_
  rintro rc wc ⟨rfl, hbc⟩
  have hD2c : Below w2.heap.size w2 wc := hD2b.trans (hbc.mono hD2b.size)
  have hV11b := Lib.hid (hV11.out.below hbc)
  clear hD2b hV11 hbc
  go_wp2_with fail
  refine (hT.out _ (hS2.out.below hD2c)).mono ?_
  rintro r12 w12 ⟨⟨u12, rfl, hU12⟩, hb12⟩
  have hD2d : Below w2.heap.size w2 w12 := hD2c.trans (hb12.mono hD2c.size)
  have hV12 := Lib.hid (hV11b.out.below hb12)
  clear hV11b hD2c hb12
  go_wp2_with fail
  refine (hi.out _ _ hU12.sl).mono ?_
  rintro r13 w13 ⟨⟨H, rfl, hH⟩, hb13⟩
  have hD2e : Below w2.heap.size w2 w13 := hD2d.trans (hb13.mono hD2d.size)
  have hV13 := Lib.hid (hV12.out.below hb13)
  clear hV12 hD2d hb13 hU12
  go_wp2_with fail
  refine (hEL.out _ _ _ _ _ hH (hU.out.below hD2e)).mono ?_
  rintro r14 w14 ⟨rfl, hb14⟩
  have hD2f : Below w2.heap.size w2 w14 := hD2e.trans (hb14.mono hD2e.size)
  have hV14 := Lib.hid (hV13.out.below hb14)
  clear hV13 hD2e hb14 hH
  go_wp2_with fail
  refine (hHV.out _ _ _ _ hV14.out).mono ?_
  rintro r15 w15 ⟨rfl, hb15⟩
  have hBz : Below W0.heap.size W0 w15 := hB2.trans ((hD2f.trans (hb15.mono hD2f.size)).mono hz2)
  clear hV14 hD2f hb15 hB2
  go_wp2
  go_ret
  exact ⟨rfl, hB0.trans (hBz.mono hB0.size)⟩
theorem walk (k n e : Int) (_hn : (Lit.int .i64 n).wf = true) (ht : (Lit.int .u32 e).wf = true) (v : Value) (gs : List (Int × Int)) (w : World) (hS : SlG w v gs ∧ Bd gs) :
    Calls Try.prog 3 #[.agg #[.int .i64 k, .int .i64 n, .int .u32 e], v] w fun r w' => r = .returned (.bool true) ∧ Below w.heap.size w w' := by
  rcases Nat.lt_or_ge 1048576 gs.length with h | h
  · exact walk_long k n e v gs w hS.1 h
  · exact walk_short k n e (by have := (bounds_u32 ht).2; omega) (bounds_u32 ht).1 v gs w hS.1 hS.2 h
end ExtensionsOfLaw
theorem ExtensionsOfLaw.lifted (os : Os) (started : os.Started) (H : Type) (enc : TypeId × Value → H) :
    ReturnsInHanded {} Try.checked os 3 .any (Rows.fnExactExtensionsOfSpec.pre6 enc Try.prog Try.f3 Rows.fnExactExtensionsOfRow.domain false)
      (Rows.fnExactExtensionsOfSpec.post enc Try.prog Try.f3 false true false false) := by
  refine fr_lift (C := Try.checked) own started (by kernel_rfl) Try.func3 laid_out rfl (by kernel_rfl) (tb := 4) rfl Try.underlying4 ?hs
    (ChangeSpec.witness6 (enc := enc) (C := Try.checked) false ⟨#[], #[.agg #[.int .i64 0, .int .i64 0, .int .u32 0], .slice none 0 0], []⟩ 8 (by kernel_rfl) (by kernel_rfl) (by kernel_rfl) (by kernel_rfl)) ?_
  case hs =>
    intro ds h
    match ds, h with
    | [d0, d1], _ => rfl
  intro W base args ds p hval0 hA0 hlt hsz
  have hval : ∀ (j : Nat) t v, Try.f3.params[j]? = some t → args[j]? = some v → Value.okWide Try.prog W .any base t v := hval0
  have hA : DataW.TrodAll enc Try.prog W 0 (fun _ => true) true Try.f3.params.toList args.toList ds p := hA0
  rw [Try.params3] at hA hval
  obtain ⟨v0, vs0, d0, ds0, p0, q0, hargs, rfl, rfl, h0, r0⟩ := trodAll_cons hA
  obtain ⟨v1, vs1, d1, ds1, p1, q1, rfl, rfl, rfl, h1, r1⟩ := trodAll_cons r0
  obtain ⟨rfl, rfl, rfl⟩ := trodAll_nil r1
  obtain rfl : args = #[v0, v1] := by cases args; simp_all
  obtain ⟨k0, a0, b0, rfl, l0, w0, u0⟩ := open_lflag (hval 0 26 v0 rfl rfl) h0
  obtain ⟨x1, R1⟩ := open_gs (hval 1 27 v1 rfl rfl) h1
  exact ExtensionsOfLaw.walk k0 a0 b0 w0 u0 v1 x1 W R1

theorem extensionsOf_holds : Rows.FnExactExtensionsOfSaid :=
  OpenClaim.holds_of_wide 3 Try.f3 rfl rfl rfl rfl rfl rfl rfl ⟨rfl, rfl, rfl, rfl, rfl⟩ rfl rfl rfl rfl rfl (by kernel_rfl) Try.func3 (by kernel_rfl)
    (of_decide_eq_true (by kernel_rfl)) (by unfold Func.isWrapper; rw [if_neg (of_decide_eq_false (by kernel_rfl))]; exact ⟨rfl, rfl⟩)
    (fun os started H enc _ => ExtensionsOfLaw.lifted os started H enc)
#print axioms extensionsOf_holds
end Go.Proofs.Ytpobonomdfbanaa
