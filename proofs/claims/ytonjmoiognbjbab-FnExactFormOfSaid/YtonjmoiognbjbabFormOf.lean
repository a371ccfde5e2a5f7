/-
  PROVED: for every list of rows and list of fractions, valid or not, FormOf of the program answers as the model's does, and its lists are left as they were. Conditions: none.
-/
import Derived.Test.YtonjmoiognbjbabOpenMs
import Derived.Test.YtonjmoiognbjbabFFormOf
namespace Go.Proofs.Ytonjmoiognbjbab
open Go.ChangeShapes Go.WideShapes Go.ChangeAt Go.RowKit
set_option maxRecDepth 100000

namespace FormOfLaw
theorem walk_long (v v2 : Value) (m : List (List (Int × Int))) (w : World) (hS : SlM w v m) (hm : 1048576 < m.length + tot m m.length) :
    Calls Try.prog 11 #[v, v2] w fun r w' => r = .returned (.bool true) ∧ Below w.heap.size w w' := by
  have hC := Lib.hid (szM_long w v m hS 1048576 (by omega) (by omega) (by omega))
  clear hS hm
  go_enter Try.func11, Try.ntmps11
  go_wp2_with fail
  refine hC.out.mono ?_
  rintro r1 w1 ⟨rfl, hb1⟩
  go_wp2
  go_ret
  exact ⟨rfl, by (repeat (first | exact Below.refl _ _ | assumption | refine bchain (by assumption) ?_ | refine balloc ?_ _ | apply Below.drew | apply below_drewN | (refine Below.alloc ?_ (by (try simp) <;> omega) _) | (refine Below.setCell ?_ (by (try simp) <;> omega) _)))⟩
theorem walk_long2 (v v2 : Value) (m : List (List (Int × Int))) (gs : List (Int × Int)) (w : World) (hS : SlM w v m) (hS' : SlG w v2 gs) (hm : m.length + tot m m.length ≤ 1048576) (hm' : 1048576 - (m.length : Int) - (tot m m.length : Nat) < gs.length) :
    Calls Try.prog 11 #[v, v2] w fun r w' => r = .returned (.bool true) ∧ Below w.heap.size w w' := by
  obtain ⟨a', cap', rfl, h1, h2, _⟩ := hS'
  have hC := Lib.hid (szM_ok w v m hS 1048576 (by omega) (by omega))
  have hD := Lib.hid (fun W => sz_long W a' gs.length cap' (1048576 - (m.length : Int) - (tot m m.length : Nat)) (by omega) (by omega) (by omega) (by omega))
  have hl0 : 0 ≤ 1048576 - (m.length : Int) - (tot m m.length : Nat) := by omega
  obtain ⟨q, hq⟩ : ∃ q : Int, 1048576 - (m.length : Int) - (tot m m.length : Nat) = q := ⟨_, rfl⟩
  rw [hq] at hC hD hl0
  obtain ⟨l', hl'⟩ : ∃ l, gs.length = l := ⟨_, rfl⟩
  rw [hl'] at hD ⊢
  clear hS hl' h1 h2 hm hm' hq
  go_enter Try.func11, Try.ntmps11
  go_wp2_with fail
  refine hC.out.mono ?_
  rintro r1 w1 ⟨rfl, hb1⟩
  go_wp2_with fail
  refine (hD.out _).mono ?_
  rintro r2 w2 ⟨rfl, rfl⟩
  go_wp2
  go_ret
  exact ⟨rfl, by (repeat (first | exact Below.refl _ _ | assumption | refine bchain (by assumption) ?_ | refine balloc ?_ _ | apply Below.drew | apply below_drewN | (refine Below.alloc ?_ (by (try simp) <;> omega) _) | (refine Below.setCell ?_ (by (try simp) <;> omega) _)))⟩
set_option maxHeartbeats 1000000 in
theorem walk_short (v v2 : Value) (m : List (List (Int × Int))) (gs : List (Int × Int)) (w : World) (hS : SlM w v m) (hS' : SlG w v2 gs) (hm : m.length + tot m m.length ≤ 1048576) (hm' : (gs.length : Int) ≤ 1048576 - (m.length : Int) - (tot m m.length : Nat)) :
    Calls Try.prog 11 #[v, v2] w fun r w' => r = .returned (.bool true) ∧ Below w.heap.size w w' := by
  have hg : gs.length ≤ 1048576 := by omega
  have l1 : m.length ≤ 1048576 := by omega
  have r1 : ∀ i, i < m.length → (rAt m i).length ≤ 1048576 := fun i hi => by have := row_le m hi; omega
  obtain ⟨x, y, c, hs, hi⟩ := form_both m gs l1 r1 hg
  replace hs := Lib.hid hs
  replace hi := Lib.hid hi
  have hT := Lib.hid (fun W u (h : SlM W u m) => toMs_any W u m h l1 r1)
  have hT2 := Lib.hid (fun W u (h : SlG W u gs) => toGs_any W u gs h hg)
  have hE := Lib.hid (fun W u u' (h : SlM W u m) (h' : SlM W u' m) => eqMs_any W u u' m h h' l1 r1)
  have hE2 := Lib.hid (fun W u u' (h : SlG W u gs) (h' : SlG W u' gs) => eqGs_any W u u' gs h h' hg)
  obtain ⟨a', cap', hv', _⟩ := id hS'
  have hC := Lib.hid (szM_ok w v m hS 1048576 (by omega) (by omega))
  have hD := Lib.hid (fun W => sz_ok W a' gs.length cap' (1048576 - (m.length : Int) - (tot m m.length : Nat)) (by omega) hm')
  replace hS := Lib.hid hS
  replace hS' := Lib.hid hS'
  have hl0 : 0 ≤ 1048576 - (m.length : Int) - (tot m m.length : Nat) := by omega
  have hl1 : 0 ≤ 1048576 - (m.length : Int) - (tot m m.length : Nat) - (gs.length : Int) := by omega
  rw [← hv'] at hD
  obtain ⟨q, hq⟩ : ∃ q : Int, 1048576 - (m.length : Int) - (tot m m.length : Nat) = q := ⟨_, rfl⟩
  rw [hq] at hC hD hl0 hl1
  obtain ⟨q2, hq2⟩ : ∃ q2 : Int, q - (gs.length : Int) = q2 := ⟨_, rfl⟩
  rw [hq2] at hD hl1
  clear hm hm' hg hv' hq hq2 l1 r1
  go_enter Try.func11, Try.ntmps11
  go_wp2_with fail
  refine hC.out.mono ?_
  rintro r0 w0 ⟨rfl, hb0⟩
  go_wp2_with fail
  refine (hD.out _).mono ?_
  rintro r0 w00 ⟨rfl, rfl⟩
  go_wp2_with fail
  refine (hT.out _ _ (hS.out.below (by (repeat (first | exact Below.refl _ _ | assumption | refine bchain (by assumption) ?_ | refine balloc ?_ _ | apply Below.drew | apply below_drewN | (refine Below.alloc ?_ (by (try simp) <;> omega) _) | (refine Below.setCell ?_ (by (try simp) <;> omega) _)))))).mono ?_
  rintro r1 w1 ⟨⟨u1, rfl, hU1⟩, hb1⟩
  replace hU1 := Lib.hid hU1
  go_wp2_with fail
  refine (hT2.out _ _ (hS'.out.below (by (repeat (first | exact Below.refl _ _ | assumption | refine bchain (by assumption) ?_ | refine balloc ?_ _ | apply Below.drew | apply below_drewN | (refine Below.alloc ?_ (by (try simp) <;> omega) _) | (refine Below.setCell ?_ (by (try simp) <;> omega) _)))))).mono ?_
  rintro r2 w2 ⟨⟨u2, rfl, hU2⟩, hb2⟩
  replace hU2 := Lib.hid hU2
  go_wp2_with fail
  refine (hs.out _ _ _ (hU1.out.below hb2) hU2.out).mono ?_
  rintro r3 w3 ⟨rfl, hb3⟩
  go_wp2_with fail
  refine (hT.out _ _ (hS.out.below (by (repeat (first | exact Below.refl _ _ | assumption | refine bchain (by assumption) ?_ | refine balloc ?_ _ | apply Below.drew | apply below_drewN | (refine Below.alloc ?_ (by (try simp) <;> omega) _) | (refine Below.setCell ?_ (by (try simp) <;> omega) _)))))).mono ?_
  rintro r4 w4 ⟨⟨u4, rfl, hU4⟩, hb4⟩
  obtain ⟨hc4_0, hz4_0⟩ := bkeep hb4 (w3.heap.size) (by (try simp) <;> omega)
  replace hU4 := Lib.hid hU4
  go_wp2_with fail
  refine (hT2.out _ _ (hS'.out.below (by (repeat (first | exact Below.refl _ _ | assumption | refine bchain (by assumption) ?_ | refine balloc ?_ _ | apply Below.drew | apply below_drewN | (refine Below.alloc ?_ (by (try simp) <;> omega) _) | (refine Below.setCell ?_ (by (try simp) <;> omega) _)))))).mono ?_
  rintro r5 w5 ⟨⟨u5, rfl, hU5⟩, hb5⟩
  obtain ⟨hc5_0, hz5_0⟩ := bkeep hb5 (w3.heap.size) (by (try simp) <;> omega)
  replace hU5 := Lib.hid hU5
  go_wp2_with fail
  refine (hi.out _ _ _ (hU4.out.below hb5) hU5.out).mono ?_
  rintro r6 w6 ⟨rfl, hb6⟩
  obtain ⟨hc6_0, hz6_0⟩ := bkeep hb6 (w3.heap.size) (by (try simp) <;> omega)
  go_wp2_with fail
  refine (eqF_any _ _ _).mono ?_
  rintro r7 w7 ⟨rfl, hb7⟩
  have hU4' := Lib.hid (((hU4.out.below hb5).below hb6).below (show Below w6.heap.size w6 w7 by (repeat (first | exact Below.refl _ _ | assumption | refine bchain (by assumption) ?_ | refine balloc ?_ _ | apply Below.drew | apply below_drewN | (refine Below.alloc ?_ (by (try simp) <;> omega) _) | (refine Below.setCell ?_ (by (try simp) <;> omega) _)))))
  have hU5' := Lib.hid ((hU5.out.below hb6).below (show Below w6.heap.size w6 w7 by (repeat (first | exact Below.refl _ _ | assumption | refine bchain (by assumption) ?_ | refine balloc ?_ _ | apply Below.drew | apply below_drewN | (refine Below.alloc ?_ (by (try simp) <;> omega) _) | (refine Below.setCell ?_ (by (try simp) <;> omega) _)))))
  go_wp2_with fail
  refine (hT.out _ _ (hS.out.below (by (repeat (first | exact Below.refl _ _ | assumption | refine bchain (by assumption) ?_ | refine balloc ?_ _ | apply Below.drew | apply below_drewN | (refine Below.alloc ?_ (by (try simp) <;> omega) _) | (refine Below.setCell ?_ (by (try simp) <;> omega) _)))))).mono ?_
  rintro r8 w8 ⟨⟨u8, rfl, hU8⟩, hb8⟩
  go_wp2_with fail
  refine (hE.out _ _ _ (hU4'.out.below hb8) hU8).mono ?_
  rintro r9 w9 ⟨rfl, hb9⟩
  have hU5'' := Lib.hid ((hU5'.out.below hb8).below hb9)
  go_wp2_with fail
  refine (hT2.out _ _ (hS'.out.below (by (repeat (first | exact Below.refl _ _ | assumption | refine bchain (by assumption) ?_ | refine balloc ?_ _ | apply Below.drew | apply below_drewN | (refine Below.alloc ?_ (by (try simp) <;> omega) _) | (refine Below.setCell ?_ (by (try simp) <;> omega) _)))))).mono ?_
  rintro r10 w10 ⟨⟨u10, rfl, hU10⟩, hb10⟩
  go_wp2_with fail
  refine (hE2.out _ _ _ (hU5''.out.below hb10) hU10).mono ?_
  rintro r11 w11 ⟨rfl, hb11⟩
  go_wp2
  go_ret
  exact ⟨rfl, by (repeat (first | exact Below.refl _ _ | assumption | refine bchain (by assumption) ?_ | refine balloc ?_ _ | apply Below.drew | apply below_drewN | (refine Below.alloc ?_ (by (try simp) <;> omega) _) | (refine Below.setCell ?_ (by (try simp) <;> omega) _)))⟩
theorem walk (v : Value) (m : List (List (Int × Int))) (v2 : Value) (gs : List (Int × Int)) (w : World) (hS : SlM w v m) (hS' : SlG w v2 gs) :
    Calls Try.prog 11 #[v, v2] w fun r w' => r = .returned (.bool true) ∧ Below w.heap.size w w' := by
  rcases Nat.lt_or_ge 1048576 (m.length + tot m m.length) with h | h
  · exact walk_long v v2 m w hS h
  · by_cases h2 : (gs.length : Int) ≤ 1048576 - (m.length : Int) - (tot m m.length : Nat)
    · exact walk_short v v2 m gs w hS hS' h h2
    · exact walk_long2 v v2 m gs w hS hS' h (by omega)
end FormOfLaw
theorem FormOfLaw.lifted (os : Os) (started : os.Started) (H : Type) (enc : TypeId × Value → H) :
    ReturnsInHanded {} Try.checked os 11 .any (Rows.fnExactFormOfSpec.pre6 enc Try.prog Try.f11 Rows.fnExactFormOfRow.domain false)
      (Rows.fnExactFormOfSpec.post enc Try.prog Try.f11 false true false false) := by
  refine fr_lift (C := Try.checked) own started (by kernel_rfl) Try.func11 laid_out rfl (by kernel_rfl) (tb := 4) rfl Try.underlying4 ?hs
    (ChangeSpec.witness6 (enc := enc) (C := Try.checked) false ⟨#[], #[.slice none 0 0, .slice none 0 0], []⟩ 8 (by kernel_rfl) (by kernel_rfl) (by kernel_rfl) (by kernel_rfl)) ?_
  case hs =>
    intro ds h
    match ds, h with
    | [d0, d1], _ => rfl
  intro W base args ds p hval0 hA0 hlt hsz
  have hval : ∀ (j : Nat) t v, Try.f11.params[j]? = some t → args[j]? = some v → Value.okWide Try.prog W .any base t v := hval0
  have hA : DataW.TrodAll enc Try.prog W 0 (fun _ => true) true Try.f11.params.toList args.toList ds p := hA0
  rw [Try.params11] at hA hval
  obtain ⟨v0, vs0, d0, ds0, p0, q0, hargs, rfl, rfl, h0, r0⟩ := trodAll_cons hA
  obtain ⟨v1, vs1, d1, ds1, p1, q1, rfl, rfl, rfl, h1, r1⟩ := trodAll_cons r0
  obtain ⟨rfl, rfl, rfl⟩ := trodAll_nil r1
  obtain rfl : args = #[v0, v1] := by cases args; simp_all
  obtain ⟨x0, R0⟩ := open_ms (hval 0 35 v0 rfl rfl) h0
  obtain ⟨x1, R1⟩ := open_fs (hval 1 22 v1 rfl rfl) h1
  exact FormOfLaw.walk v0 x0 v1 x1 W R0 R1

theorem formOf_holds : Rows.FnExactFormOfSaid :=
  OpenClaim.holds_of_wide 11 Try.f11 rfl rfl rfl rfl rfl rfl rfl ⟨rfl, rfl, rfl, rfl, rfl⟩ rfl rfl rfl rfl rfl (by kernel_rfl) Try.func11 (by kernel_rfl)
    (of_decide_eq_true (by kernel_rfl)) (by unfold Func.isWrapper; rw [if_neg (of_decide_eq_false (by kernel_rfl))]; exact ⟨rfl, rfl⟩)
    (fun os started H enc _ => FormOfLaw.lifted os started H enc)
#print axioms formOf_holds
end Go.Proofs.Ytonjmoiognbjbab
