/-
  PROVED: for every list of rows of fractions, valid or not, ValidMatrix of the program answers as the model's does, and its list is left as it was. Conditions: none.
-/
import Derived.Test.YtonjmoiognbjbabOpenMs
import Derived.Test.YtonjmoiognbjbabFVmS
namespace Go.Proofs.Ytonjmoiognbjbab
open Go.ChangeShapes Go.WideShapes Go.ChangeAt Go.RowKit
set_option maxRecDepth 100000

namespace ValidMatrixLaw
theorem walk_long (v : Value) (fs : List (List (Int × Int))) (w : World) (hS : SlM w v fs) (hm : 1048576 < fs.length + tot fs fs.length) :
    Calls Try.prog 5 #[v] w fun r w' => r = .returned (.bool true) ∧ Below w.heap.size w w' := by
  have hC := Lib.hid (szM_long w v fs hS 1048576 (by omega) (by omega) (by omega))
  clear hS hm
  go_enter Try.func5, Try.ntmps5
  go_wp2_with fail
  refine hC.out.mono ?_
  rintro r1 w1 ⟨rfl, hb1⟩
  go_wp2
  go_ret
  exact ⟨rfl, by (repeat (first | exact Below.refl _ _ | assumption | refine bchain (by assumption) ?_ | refine balloc ?_ _ | apply Below.drew | apply below_drewN | (refine Below.alloc ?_ (by (try simp) <;> omega) _) | (refine Below.setCell ?_ (by (try simp) <;> omega) _)))⟩
theorem svw_any (w : World) (v : Value) (m : List (List (Int × Int))) (hS : SlM w v m) (hm : m.length ≤ 1048576) (hr : ∀ i, i < m.length → (rAt m i).length ≤ 1048576) (B : Bool) (hBt : VM m → B = true) (hBf : ¬ VM m → B = false) :
    Calls Try.prog 21 #[v] w fun r w' => r = .returned (.bool B) ∧ Below w.heap.size w w' := by
  have hs := Lib.hid (fun W (h : SlM W v m) => svm_any W v m h hm hr B hBt hBf)
  replace hS := Lib.hid hS
  clear hm hr hBt hBf
  go_enter Try.func21, Try.ntmps21
  go_wp2_with fail
  refine (hs.out _ (hS.out.below (by (repeat (first | exact Below.refl _ _ | assumption | refine bchain (by assumption) ?_ | refine balloc ?_ _ | apply Below.drew | apply below_drewN | (refine Below.alloc ?_ (by (try simp) <;> omega) _) | (refine Below.setCell ?_ (by (try simp) <;> omega) _)))))).mono ?_
  rintro r1 w1 ⟨rfl, hb1⟩
  go_wp2
  go_ret
  exact ⟨rfl, by (repeat (first | exact Below.refl _ _ | assumption | refine bchain (by assumption) ?_ | refine balloc ?_ _ | apply Below.drew | apply below_drewN | (refine Below.alloc ?_ (by (try simp) <;> omega) _) | (refine Below.setCell ?_ (by (try simp) <;> omega) _)))⟩
set_option maxHeartbeats 1000000 in
theorem walk_short (v : Value) (fs : List (List (Int × Int))) (w : World) (hS : SlM w v fs) (hm : fs.length + tot fs fs.length ≤ 1048576) :
    Calls Try.prog 5 #[v] w fun r w' => r = .returned (.bool true) ∧ Below w.heap.size w w' := by
  have l1 : fs.length ≤ 1048576 := by omega
  have r1 : ∀ i, i < fs.length → (rAt fs i).length ≤ 1048576 := fun i hi => by have := row_le fs hi; omega
  obtain ⟨B, hBt, hBf⟩ : ∃ B : Bool, (VM fs → B = true) ∧ (¬ VM fs → B = false) := by
    by_cases h : VM fs
    · exact ⟨true, fun _ => rfl, fun c => absurd h c⟩
    · exact ⟨false, fun c => absurd c h, fun _ => rfl⟩
  have hs := Lib.hid (fun W u (h : SlM W u fs) => svw_any W u fs h l1 r1 B hBt hBf)
  have hi := Lib.hid (fun W u (h : SlM W u fs) => ivm_any W u fs h l1 r1 B hBt hBf)
  have hT := Lib.hid (fun W u (h : SlM W u fs) => toMs_any W u fs h l1 r1)
  have hE := Lib.hid (fun W u u' (h : SlM W u fs) (h' : SlM W u' fs) => eqMs_any W u u' fs h h' l1 r1)
  have hC := Lib.hid (szM_ok w v fs hS 1048576 (by omega) (by omega))
  have hl0 : 0 ≤ 1048576 - (fs.length : Int) - (tot fs fs.length : Nat) := by omega
  obtain ⟨q, hq⟩ : ∃ q : Int, 1048576 - (fs.length : Int) - (tot fs fs.length : Nat) = q := ⟨_, rfl⟩
  rw [hq] at hC hl0
  replace hS := Lib.hid hS
  clear hm hq l1 r1 hBt hBf
  go_enter Try.func5, Try.ntmps5
  go_wp2_with fail
  refine hC.out.mono ?_
  rintro r0 w0 ⟨rfl, hb0⟩
  go_wp2_with fail
  refine (hT.out _ _ (hS.out.below (by (repeat (first | exact Below.refl _ _ | assumption | refine bchain (by assumption) ?_ | refine balloc ?_ _ | apply Below.drew | apply below_drewN | (refine Below.alloc ?_ (by (try simp) <;> omega) _) | (refine Below.setCell ?_ (by (try simp) <;> omega) _)))))).mono ?_
  rintro r1 w1 ⟨⟨u1, rfl, hU1⟩, hb1⟩
  replace hU1 := Lib.hid hU1
  go_wp2_with fail
  refine (hs.out _ _ hU1.out).mono ?_
  rintro r2 w2 ⟨rfl, hb2⟩
  go_wp2_with fail
  refine (hT.out _ _ (hS.out.below (by (repeat (first | exact Below.refl _ _ | assumption | refine bchain (by assumption) ?_ | refine balloc ?_ _ | apply Below.drew | apply below_drewN | (refine Below.alloc ?_ (by (try simp) <;> omega) _) | (refine Below.setCell ?_ (by (try simp) <;> omega) _)))))).mono ?_
  rintro r3 w3 ⟨⟨u3, rfl, hU3⟩, hb3⟩
  replace hU3 := Lib.hid hU3
  go_wp2_with fail
  refine (hi.out _ _ hU3.out).mono ?_
  rintro r4 w4 ⟨rfl, hb4⟩
  go_wp2_with fail
  refine (hT.out _ _ (hS.out.below (by (repeat (first | exact Below.refl _ _ | assumption | refine bchain (by assumption) ?_ | refine balloc ?_ _ | apply Below.drew | apply below_drewN | (refine Below.alloc ?_ (by (try simp) <;> omega) _) | (refine Below.setCell ?_ (by (try simp) <;> omega) _)))))).mono ?_
  rintro r5 w5 ⟨⟨u5, rfl, hU5⟩, hb5⟩
  go_wp2_with fail
  refine (hE.out _ _ _ ((hU3.out.below hb4).below hb5) hU5).mono ?_
  rintro r6 w6 ⟨rfl, hb6⟩
  go_wp2
  go_ret
  exact ⟨rfl, by (repeat (first | exact Below.refl _ _ | assumption | refine bchain (by assumption) ?_ | refine balloc ?_ _ | apply Below.drew | apply below_drewN | (refine Below.alloc ?_ (by (try simp) <;> omega) _) | (refine Below.setCell ?_ (by (try simp) <;> omega) _)))⟩
theorem walk (v : Value) (fs : List (List (Int × Int))) (w : World) (hS : SlM w v fs) :
    Calls Try.prog 5 #[v] w fun r w' => r = .returned (.bool true) ∧ Below w.heap.size w w' := by
  rcases Nat.lt_or_ge 1048576 (fs.length + tot fs fs.length) with h | h
  · exact walk_long v fs w hS h
  · exact walk_short v fs w hS h
end ValidMatrixLaw
theorem ValidMatrixLaw.lifted (os : Os) (started : os.Started) (H : Type) (enc : TypeId × Value → H) :
    ReturnsInHanded {} Try.checked os 5 .any (Rows.fnExactValidMatrixSpec.pre6 enc Try.prog Try.f5 Rows.fnExactValidMatrixRow.domain false)
      (Rows.fnExactValidMatrixSpec.post enc Try.prog Try.f5 false true false false) := by
  refine fr_lift (C := Try.checked) own started (by kernel_rfl) Try.func5 laid_out rfl (by kernel_rfl) (tb := 4) rfl Try.underlying4 ?hs
    (ChangeSpec.witness6 (enc := enc) (C := Try.checked) false ⟨#[], #[.slice none 0 0], []⟩ 8 (by kernel_rfl) (by kernel_rfl) (by kernel_rfl) (by kernel_rfl)) ?_
  case hs =>
    intro ds h
    match ds, h with
    | [d0], _ => rfl
  intro W base args ds p hval0 hA0 hlt hsz
  have hval : ∀ (j : Nat) t v, Try.f5.params[j]? = some t → args[j]? = some v → Value.okWide Try.prog W .any base t v := hval0
  have hA : DataW.TrodAll enc Try.prog W 0 (fun _ => true) true Try.f5.params.toList args.toList ds p := hA0
  rw [Try.params5] at hA hval
  obtain ⟨v0, vs0, d0, ds0, p0, q0, hargs, rfl, rfl, h0, r0⟩ := trodAll_cons hA
  obtain ⟨rfl, rfl, rfl⟩ := trodAll_nil r0
  obtain rfl : args = #[v0] := by cases args; simp_all
  obtain ⟨x0, R0⟩ := open_ms (hval 0 35 v0 rfl rfl) h0
  exact ValidMatrixLaw.walk v0 x0 W R0

theorem validMatrix_holds : Rows.FnExactValidMatrixSaid :=
  OpenClaim.holds_of_wide 5 Try.f5 rfl rfl rfl rfl rfl rfl rfl ⟨rfl, rfl, rfl, rfl, rfl⟩ rfl rfl rfl rfl rfl (by kernel_rfl) Try.func5 (by kernel_rfl)
    (of_decide_eq_true (by kernel_rfl)) (by unfold Func.isWrapper; rw [if_neg (of_decide_eq_false (by kernel_rfl))]; exact ⟨rfl, rfl⟩)
    (fun os started H enc _ => ValidMatrixLaw.lifted os started H enc)
#print axioms validMatrix_holds
end Go.Proofs.Ytonjmoiognbjbab
