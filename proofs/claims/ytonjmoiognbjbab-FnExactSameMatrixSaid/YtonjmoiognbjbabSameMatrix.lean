/-
  PROVED: for every two lists of rows of fractions, valid or not, SameMatrix of the program answers as the model's does, and its lists are left as they were. Conditions: none.
-/
import Derived.Test.YtonjmoiognbjbabOpenMs
import Derived.Test.YtonjmoiognbjbabFSameM
namespace Go.Proofs.Ytonjmoiognbjbab
open Go.ChangeShapes Go.WideShapes Go.ChangeAt Go.RowKit
set_option maxRecDepth 100000

namespace SameMatrixLaw
/-- how many rows and fractions a list has in all -/
def size (m : List (List (Int × Int))) : Nat := m.length + tot m m.length
theorem walk_long (v v2 : Value) (fs : List (List (Int × Int))) (w : World) (hS : SlM w v fs) (hm : 1048576 < size fs) :
    Calls Try.prog 6 #[v, v2] w fun r w' => r = .returned (.bool true) ∧ Below w.heap.size w w' := by
  have hC := Lib.hid (szM_long w v fs hS 1048576 (by omega) (by omega) (by unfold size at hm; omega))
  clear hS hm
  go_enter Try.func6, Try.ntmps6
  go_wp2_with fail
  refine hC.out.mono ?_
  rintro r1 w1 ⟨rfl, hb1⟩
  go_wp2
  go_ret
  exact ⟨rfl, by (repeat (first | exact Below.refl _ _ | assumption | refine bchain (by assumption) ?_ | refine balloc ?_ _ | apply Below.drew | apply below_drewN | (refine Below.alloc ?_ (by (try simp) <;> omega) _) | (refine Below.setCell ?_ (by (try simp) <;> omega) _)))⟩
theorem walk_long2 (v v2 : Value) (fs gs : List (List (Int × Int))) (w : World) (hS : SlM w v fs) (hS' : SlM w v2 gs) (hm : size fs ≤ 1048576) (hm' : 1048576 - (size fs : Int) < size gs) :
    Calls Try.prog 6 #[v, v2] w fun r w' => r = .returned (.bool true) ∧ Below w.heap.size w w' := by
  unfold size at hm hm'
  have hC := Lib.hid (szM_ok w v fs hS 1048576 (by omega) (by omega))
  have hD := Lib.hid (fun W (h : SlM W v2 gs) => szM_long W v2 gs h (1048576 - (fs.length : Int) - (tot fs fs.length : Nat)) (by omega) (by omega) (by omega))
  have hl0 : 0 ≤ 1048576 - (fs.length : Int) - (tot fs fs.length : Nat) := by omega
  obtain ⟨q, hq⟩ : ∃ q : Int, 1048576 - (fs.length : Int) - (tot fs fs.length : Nat) = q := ⟨_, rfl⟩
  rw [hq] at hC hD hl0
  replace hS' := Lib.hid hS'
  clear hS hm hm' hq
  go_enter Try.func6, Try.ntmps6
  go_wp2_with fail
  refine hC.out.mono ?_
  rintro r1 w1 ⟨rfl, hb1⟩
  go_wp2_with fail
  refine (hD.out _ (hS'.out.below hb1)).mono ?_
  rintro r2 w2 ⟨rfl, hb2⟩
  go_wp2
  go_ret
  exact ⟨rfl, by (repeat (first | exact Below.refl _ _ | assumption | refine bchain (by assumption) ?_ | refine balloc ?_ _ | apply Below.drew | apply below_drewN | (refine Below.alloc ?_ (by (try simp) <;> omega) _) | (refine Below.setCell ?_ (by (try simp) <;> omega) _)))⟩
set_option maxHeartbeats 1000000 in
theorem walk_short (v v2 : Value) (fs gs : List (List (Int × Int))) (w : World) (hS : SlM w v fs) (hS' : SlM w v2 gs) (hm : size fs ≤ 1048576) (hm' : (size gs : Int) ≤ 1048576 - (size fs : Int)) :
    Calls Try.prog 6 #[v, v2] w fun r w' => r = .returned (.bool true) ∧ Below w.heap.size w w' := by
  unfold size at hm hm'
  have l1 : fs.length ≤ 1048576 := by omega
  have l2 : gs.length ≤ 1048576 := by omega
  have r1 : ∀ i, i < fs.length → (rAt fs i).length ≤ 1048576 := fun i hi => by have := row_le fs hi; omega
  have r2 : ∀ i, i < gs.length → (rAt gs i).length ≤ 1048576 := fun i hi => by have := row_le gs hi; omega
  have hs := Lib.hid (fun W u u' (h : SlM W u fs) (h' : SlM W u' gs) => ssm_any W u u' fs gs h h' l1 r1)
  have hi := Lib.hid (fun W u u' (h : SlM W u fs) (h' : SlM W u' gs) => ism_any W u u' fs gs h h' l1 r1)
  obtain ⟨B, hB⟩ : ∃ B, decide (fs = gs) = B := ⟨_, rfl⟩
  rw [hB] at hs hi
  have hT := Lib.hid (fun W u (h : SlM W u fs) => toMs_any W u fs h l1 r1)
  have hT2 := Lib.hid (fun W u (h : SlM W u gs) => toMs_any W u gs h l2 r2)
  have hE := Lib.hid (fun W u u' (h : SlM W u fs) (h' : SlM W u' fs) => eqMs_any W u u' fs h h' l1 r1)
  have hE2 := Lib.hid (fun W u u' (h : SlM W u gs) (h' : SlM W u' gs) => eqMs_any W u u' gs h h' l2 r2)
  have hC := Lib.hid (szM_ok w v fs hS 1048576 (by omega) (by omega))
  have hD := Lib.hid (fun W (h : SlM W v2 gs) => szM_ok W v2 gs h (1048576 - (fs.length : Int) - (tot fs fs.length : Nat)) (by omega) (by omega))
  have hl0 : 0 ≤ 1048576 - (fs.length : Int) - (tot fs fs.length : Nat) := by omega
  have hl1 : 0 ≤ 1048576 - (fs.length : Int) - (tot fs fs.length : Nat) - (gs.length : Int) - (tot gs gs.length : Nat) := by omega
  obtain ⟨q, hq⟩ : ∃ q : Int, 1048576 - (fs.length : Int) - (tot fs fs.length : Nat) = q := ⟨_, rfl⟩
  rw [hq] at hC hD hl0 hl1
  obtain ⟨q2, hq2⟩ : ∃ q2 : Int, q - (gs.length : Int) - (tot gs gs.length : Nat) = q2 := ⟨_, rfl⟩
  rw [hq2] at hD hl1
  replace hS := Lib.hid hS
  replace hS' := Lib.hid hS'
  clear hm hm' hq hq2 l1 l2 r1 r2 hB
  go_enter Try.func6, Try.ntmps6
  go_wp2_with fail
  refine hC.out.mono ?_
  rintro r0 wa ⟨rfl, hba⟩
  go_wp2_with fail
  refine (hD.out _ (hS'.out.below hba)).mono ?_
  rintro r0 w0 ⟨rfl, hbb⟩
  have hb0 : Below w.heap.size w w0 := by (repeat (first | exact Below.refl _ _ | assumption | refine bchain (by assumption) ?_ | refine balloc ?_ _ | apply Below.drew | apply below_drewN | (refine Below.alloc ?_ (by (try simp) <;> omega) _) | (refine Below.setCell ?_ (by (try simp) <;> omega) _)))
  clear hba hbb
  go_wp2_with fail
  refine (hT.out _ _ (hS.out.below (by (repeat (first | exact Below.refl _ _ | assumption | refine bchain (by assumption) ?_ | refine balloc ?_ _ | apply Below.drew | apply below_drewN | (refine Below.alloc ?_ (by (try simp) <;> omega) _) | (refine Below.setCell ?_ (by (try simp) <;> omega) _)))))).mono ?_
  rintro r1 w1 ⟨⟨u1, rfl, hU1⟩, hb1⟩
  replace hU1 := Lib.hid hU1
  go_wp2_with fail
  refine (hT2.out _ _ (hS'.out.below (by (repeat (first | exact Below.refl _ _ | assumption | refine bchain (by assumption) ?_ | refine balloc ?_ _ | apply Below.drew | apply below_drewN | (refine Below.alloc ?_ (by (try simp) <;> omega) _) | (refine Below.setCell ?_ (by (try simp) <;> omega) _)))))).mono ?_
  rintro r2 w2 ⟨⟨u2, rfl, hU2⟩, hb2⟩
  replace hU2 := Lib.hid hU2
  go_wp2_with fail
  refine (hs.out _ _ _ (hU1.out.below hb2) hU2.out).mono ?_
  rintro r3 w3 ⟨rfl, hb3⟩
  go_wp2_with fail
  refine (hT.out _ _ (hS.out.below (by (repeat (first | exact Below.refl _ _ | assumption | refine bchain (by assumption) ?_ | refine balloc ?_ _ | apply Below.drew | apply below_drewN | (refine Below.alloc ?_ (by (try simp) <;> omega) _) | (refine Below.setCell ?_ (by (try simp) <;> omega) _)))))).mono ?_
  rintro r4 w4 ⟨⟨u4, rfl, hU4⟩, hb4⟩
  replace hU4 := Lib.hid hU4
  go_wp2_with fail
  refine (hT2.out _ _ (hS'.out.below (by (repeat (first | exact Below.refl _ _ | assumption | refine bchain (by assumption) ?_ | refine balloc ?_ _ | apply Below.drew | apply below_drewN | (refine Below.alloc ?_ (by (try simp) <;> omega) _) | (refine Below.setCell ?_ (by (try simp) <;> omega) _)))))).mono ?_
  rintro r5 w5 ⟨⟨u5, rfl, hU5⟩, hb5⟩
  replace hU5 := Lib.hid hU5
  go_wp2_with fail
  refine (hi.out _ _ _ (hU4.out.below hb5) hU5.out).mono ?_
  rintro r6 w6 ⟨rfl, hb6⟩
  have hU4' := Lib.hid ((hU4.out.below hb5).below hb6)
  have hU5' := Lib.hid (hU5.out.below hb6)
  go_wp2_with fail
  refine (hT.out _ _ (hS.out.below (by (repeat (first | exact Below.refl _ _ | assumption | refine bchain (by assumption) ?_ | refine balloc ?_ _ | apply Below.drew | apply below_drewN | (refine Below.alloc ?_ (by (try simp) <;> omega) _) | (refine Below.setCell ?_ (by (try simp) <;> omega) _)))))).mono ?_
  rintro r8 w8 ⟨⟨u8, rfl, hU8⟩, hb8⟩
  go_wp2_with fail
  refine (hE.out _ _ _ (hU4'.out.below hb8) hU8).mono ?_
  rintro r9 w9 ⟨rfl, hb9⟩
  have hU5'' := Lib.hid ((hU5'.out.below hb8).below hb9)
  go_wp2_with fail
  refine (hT2.out _ _ (hS'.out.below (by (repeat (first | exact Below.refl _ _ | assumption | refine bchain (by assumption) ?_ | refine balloc ?_ _ | apply Below.drew | apply below_drewN | (refine Below.alloc ?_ (by (try simp) <;> omega) _) | (refine Below.setCell ?_ (by (try simp) <;> omega) _)))))).mono ?_
  rintro r10 w10 ⟨⟨u10, rfl, hU10⟩, hb10⟩
  go_wp2_with fail
  refine (hE2.out _ _ _ (hU5''.out.below hb10) hU10).mono ?_
  rintro r11 w11 ⟨rfl, hb11⟩
  go_wp2
  go_ret
  exact ⟨rfl, by (repeat (first | exact Below.refl _ _ | assumption | refine bchain (by assumption) ?_ | refine balloc ?_ _ | apply Below.drew | apply below_drewN | (refine Below.alloc ?_ (by (try simp) <;> omega) _) | (refine Below.setCell ?_ (by (try simp) <;> omega) _)))⟩
theorem walk (v : Value) (fs : List (List (Int × Int))) (v2 : Value) (gs : List (List (Int × Int))) (w : World) (hS : SlM w v fs) (hS' : SlM w v2 gs) :
    Calls Try.prog 6 #[v, v2] w fun r w' => r = .returned (.bool true) ∧ Below w.heap.size w w' := by
  rcases Nat.lt_or_ge 1048576 (size fs) with h | h
  · exact walk_long v v2 fs w hS h
  · by_cases h2 : (size gs : Int) ≤ 1048576 - (size fs : Int)
    · exact walk_short v v2 fs gs w hS hS' h h2
    · exact walk_long2 v v2 fs gs w hS hS' h (by omega)
end SameMatrixLaw
theorem SameMatrixLaw.lifted (os : Os) (started : os.Started) (H : Type) (enc : TypeId × Value → H) :
    ReturnsInHanded {} Try.checked os 6 .any (Rows.fnExactSameMatrixSpec.pre6 enc Try.prog Try.f6 Rows.fnExactSameMatrixRow.domain false)
      (Rows.fnExactSameMatrixSpec.post enc Try.prog Try.f6 false true false false) := by
  refine fr_lift (C := Try.checked) own started (by kernel_rfl) Try.func6 laid_out rfl (by kernel_rfl) (tb := 4) rfl Try.underlying4 ?hs
    (ChangeSpec.witness6 (enc := enc) (C := Try.checked) false ⟨#[], #[.slice none 0 0, .slice none 0 0], []⟩ 8 (by kernel_rfl) (by kernel_rfl) (by kernel_rfl) (by kernel_rfl)) ?_
  case hs =>
    intro ds h
    match ds, h with
    | [d0, d1], _ => rfl
  intro W base args ds p hval0 hA0 hlt hsz
  have hval : ∀ (j : Nat) t v, Try.f6.params[j]? = some t → args[j]? = some v → Value.okWide Try.prog W .any base t v := hval0
  have hA : DataW.TrodAll enc Try.prog W 0 (fun _ => true) true Try.f6.params.toList args.toList ds p := hA0
  rw [Try.params6] at hA hval
  obtain ⟨v0, vs0, d0, ds0, p0, q0, hargs, rfl, rfl, h0, r0⟩ := trodAll_cons hA
  obtain ⟨v1, vs1, d1, ds1, p1, q1, rfl, rfl, rfl, h1, r1⟩ := trodAll_cons r0
  obtain ⟨rfl, rfl, rfl⟩ := trodAll_nil r1
  obtain rfl : args = #[v0, v1] := by cases args; simp_all
  obtain ⟨x0, R0⟩ := open_ms (hval 0 35 v0 rfl rfl) h0
  obtain ⟨x1, R1⟩ := open_ms (hval 1 35 v1 rfl rfl) h1
  exact SameMatrixLaw.walk v0 x0 v1 x1 W R0 R1

theorem sameMatrix_holds : Rows.FnExactSameMatrixSaid :=
  OpenClaim.holds_of_wide 6 Try.f6 rfl rfl rfl rfl rfl rfl rfl ⟨rfl, rfl, rfl, rfl, rfl⟩ rfl rfl rfl rfl rfl (by kernel_rfl) Try.func6 (by kernel_rfl)
    (of_decide_eq_true (by kernel_rfl)) (by unfold Func.isWrapper; rw [if_neg (of_decide_eq_false (by kernel_rfl))]; exact ⟨rfl, rfl⟩)
    (fun os started H enc _ => SameMatrixLaw.lifted os started H enc)
#print axioms sameMatrix_holds
end Go.Proofs.Ytonjmoiognbjbab
