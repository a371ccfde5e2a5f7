/-
  PROVED: for every number, AllGraphs of the program answers as the model's does, twice alike, and the result is new memory that may be written. Conditions: none.
-/
import Derived.Test.YtmbjhncgdmbpaaaOpenGs
import Derived.Test.YtmbjhncgdmbpaaaGAll
import Derived.Test.YtmbjhncgdmbpaaaSAll
import Derived.Test.YtmbjhncgdmbpaaaGto
namespace Go.Proofs.Ytmbjhncgdmbpaaa
open Go.ChangeShapes Go.WideShapes Go.ChangeAt Go.RowKit
set_option maxRecDepth 100000

theorem ag_both (n : Int) : ∃ (L : List (Int × Int)) (c : Int), L.length ≤ 1024 ∧
    (∀ W, Calls Try.prog 18 #[.int .i64 n] W (RetG W L c)) ∧
    (∀ W, Calls Try.prog 19 #[.int .i64 n] W (RetG W L c)) := by
  by_cases hk : n < 0 ∨ 5 < n
  · exact ⟨[], 2, by simp, fun W => sag_rng W n hk, fun W => iag_rng W n hk⟩
  · obtain ⟨n, rfl⟩ : ∃ x : Nat, n = x := ⟨n.toNat, by omega⟩
    exact ⟨lG n (eMax n), 0, Nat.le_trans (lG_len _ _) (eMax_le n), fun W => sag_ok W n (by omega), fun W => iag_ok W n (by omega)⟩
namespace AllGraphsLaw
set_option maxHeartbeats 2000000 in
theorem walk (n : Int) (_hn : (Lit.int .i64 n).wf = true) (w : World) :
    Calls Try.prog 5 #[.int .i64 n] w fun r w' => r = .returned (.bool true) ∧ Below w.heap.size w w' := by
  obtain ⟨L, c, hLl, hs, hi⟩ := ag_both n
  replace hs := Lib.hid hs
  replace hi := Lib.hid hi
  have hEL := Lib.hid (fun W w1 w2 u u' (h : OwnG w1 W u L) (h' : OwnG w2 W u' L) => eqGs_any W u u' L h.sl h'.sl (by omega))
  have hMV := Lib.hid (fun W w1 u (h : OwnG w1 W u L) => markG_any W w1 u L.length 1 _ (by omega) (by omega) h)
  have hHV := Lib.hid (fun W w1 u f (h : OwnV w1 W u L.length 2 (mkV 2 1 (L.length * 2) f)) => heldG_any W w1 u L.length 1 f (by omega) (by omega) h)
  obtain ⟨z, hz⟩ : ∃ z : Int, ((1 : Nat) : Int) + (L.length : Int) * 2 = z := ⟨_, rfl⟩
  have hz0 : 0 ≤ z := by omega
  simp only [hz] at hMV hHV
  clear hz
  go_enter Try.func5, Try.ntmps5
  go_wp2_with fail
  refine (hs.out _).mono ?_
  rintro r2 w2 ⟨⟨U, rfl, hU⟩, hB2⟩
  replace hU := Lib.hid hU
  have hz2 := hB2.size
  go_wp2_with fail
  refine (hi.out _).mono ?_
  rintro r4 w4 ⟨⟨V, rfl, hV0⟩, hD4⟩
  have hVb := Lib.hid (fun b (h : 0 < L.length ∧ Value.ownBlock V = some b) => OwnV.block hV0 h.1 h.2)
  have hV := Lib.hid hV0
  clear hV0
  go_wp2_with fail
  refine (hEL.out _ _ _ _ _ hV.out (hU.out.below hD4)).mono ?_
  rintro r9 w9 ⟨rfl, hb9⟩
  have hD29 : Below w2.heap.size w2 w9 := hD4.trans (hb9.mono hD4.size)
  have hV9 : OwnG w2 w9 V L := OwnV.below hV.out hb9
  replace hV9 := Lib.hid hV9
  clear hV hD4 hb9
  go_wp2_with fail
  refine (hMV.out _ _ _ hV9.out).mono ?_
  rintro r10 w10 ⟨rfl, hc10, hV10⟩
  have hD2a : Below w2.heap.size w2 w10 := hD29.trans (hc10.below (by have := hD29.size; omega) (fun b hb => by have := (hVb.out b hb).1; omega))
  replace hV10 := Lib.hid hV10
  clear hV9 hD29 hc10
  go_wp2_with fail
  refine (hHV.out _ _ _ _ hV10.out).mono ?_
  rintro r11 w11 ⟨rfl, hb11⟩
  have hD2b : Below w2.heap.size w2 w11 := hD2a.trans (hb11.mono hD2a.size)
  have hV11 := Lib.hid (hV10.out.below hb11)
  clear hV10 hD2a hb11
  go_wp2_with fail
  refine (hi.out _).mono ?_
  rintro r13 w13 ⟨⟨H, rfl, hH⟩, hb13⟩
  have hD2e : Below w2.heap.size w2 w13 := hD2b.trans (hb13.mono hD2b.size)
  have hV13 := Lib.hid (hV11.out.below hb13)
  clear hV11 hD2b hb13
  go_wp2_with fail
  refine (hEL.out _ _ _ _ _ hH (hU.out.below hD2e)).mono ?_
  rintro r14 w14 ⟨rfl, hb14⟩
  have hD2f : Below w2.heap.size w2 w14 := hD2e.trans (hb14.mono hD2e.size)
  have hV14 := Lib.hid (hV13.out.below hb14)
  clear hV13 hD2e hb14 hH
  go_wp2_with fail
  refine (hHV.out _ _ _ _ hV14.out).mono ?_
  rintro r15 w15 ⟨rfl, hb15⟩
  have hBz : Below w.heap.size w w15 := hB2.trans ((hD2f.trans (hb15.mono hD2f.size)).mono hz2)
  clear hV14 hD2f hb15 hB2
  go_wp2
  go_ret
  exact ⟨rfl, hBz⟩
end AllGraphsLaw
theorem AllGraphsLaw.lifted (os : Os) (started : os.Started) (H : Type) (enc : TypeId × Value → H) :
    ReturnsInHanded {} Try.checked os 5 .any (Rows.fnExactAllGraphsSpec.pre6 enc Try.prog Try.f5 Rows.fnExactAllGraphsRow.domain false)
      (Rows.fnExactAllGraphsSpec.post enc Try.prog Try.f5 false true false false) := by
  refine fr_lift (C := Try.checked) own started (by kernel_rfl) Try.func5 laid_out rfl (by kernel_rfl) (tb := 4) rfl Try.underlying4 ?hs
    (ChangeSpec.witness6 (enc := enc) (C := Try.checked) false ⟨#[], #[.int .i64 0], []⟩ 8 (by kernel_rfl) (by kernel_rfl) (by kernel_rfl) (by kernel_rfl)) ?_
  case hs =>
    intro ds h
    match ds, h with
    | [d0], _ => rfl
  intro W base args ds p hval0 hA0 hlt hsz
  have hval : ∀ (j : Nat) t v, Try.f5.params[j]? = some t → args[j]? = some v → Value.okWide Try.prog W .any base t v := hval0
  have hA : DataW.TrodAll enc Try.prog W 0 (fun _ => true) true Try.f5.params.toList args.toList ds p := hA0
  rw [Try.params5] at hA hval
  obtain ⟨v0, vs0, d0, ds0, p0, q0, hargs, rfl, rfl, h0, r0⟩ := trodAll_cons hA
  obtain ⟨rfl, rfl, rfl⟩ := trodAll_nil r0
  obtain rfl : args = #[v0] := by cases args; simp_all
  obtain ⟨a0, rfl, w0⟩ := open_i64 (hval 0 2 v0 rfl rfl) h0
  exact AllGraphsLaw.walk a0 w0 W

theorem allGraphs_holds : Rows.FnExactAllGraphsSaid :=
  OpenClaim.holds_of_wide 5 Try.f5 rfl rfl rfl rfl rfl rfl rfl ⟨rfl, rfl, rfl, rfl, rfl⟩ rfl rfl rfl rfl rfl (by kernel_rfl) Try.func5 (by kernel_rfl)
    (of_decide_eq_true (by kernel_rfl)) (by unfold Func.isWrapper; rw [if_neg (of_decide_eq_false (by kernel_rfl))]; exact ⟨rfl, rfl⟩)
    (fun os started H enc _ => AllGraphsLaw.lifted os started H enc)
#print axioms allGraphs_holds
end Go.Proofs.Ytmbjhncgdmbpaaa
