/-
  PROVED: for every text, ReadMatrix of the program answers as the model's does, and its matrix lies in memory of its own. Condition: the library's variables hold what the program's text lays there (the card ties them).
-/
import Derived.Test.YtdbidlnkaplekaaDoorRm
import Derived.Test.YtdbidlnkaplekaaDoorRmS
import Derived.Test.YtdbidlnkaplekaaDoorLw
import Derived.Test.YtdbidlnkaplekaaDoorFOpen
import Derived.Test.YtdbidlnkaplekaaDoorTie
import Derived.Test.YtdbidlnkaplekaaDoorCards
import Derived.SevenTiedAt
import Derived.Lay
namespace Go.Proofs.YtdbidlnkaplekaaDoor
open Go.ChangeShapes Go.WideShapes Go.ChangeAt Go.RowKit
set_option maxRecDepth 100000

namespace ReadMatrixLaw
theorem small {l : List UInt8} {m : List (List (Int × Int))} {c : Int} (h : RmP l m c) : m.length ≤ 8 ∧ ∀ i, i < m.length → (Fr.rAt m i).length = m.length := by
  rcases h with ⟨_, h, _⟩ | ⟨_, rfl, _⟩
  · exact ⟨h.1, fun i hi => (h.2.1 i hi).1⟩
  · exact ⟨by simp, fun i hi => absurd hi (by simp)⟩
set_option maxHeartbeats 1000000 in
theorem walk (s : ByteArray) (_hs : s.size ≤ maxLen) (w : World) (hw : LibW w) :
    Calls Tryd.prog 4 #[.string s] w fun e w' => e = .returned (.bool true) ∧ Below w.heap.size w w' := by
  by_cases h : s.size ≤ 1048576
  · obtain ⟨l, rfl⟩ : ∃ l, s = tx l := ⟨s.data.toList, by cases s; simp [tx]⟩
    rw [tx_size] at h
    have hS := Lib.hid (fun W => srm_any W l h)
    have hI := Lib.hid (fun W (hb : Below w.heap.size w W) => irm_any W l h (hw.below hb))
    have d : decide ((1048576 : Int) < (l.length : Int)) = false := decide_eq_false (by omega)
    have hsz := tx_size l
    obtain ⟨s, hs⟩ : ∃ s, tx l = s := ⟨_, rfl⟩
    rw [hs] at hS hI hsz ⊢
    clear hs hw _hs
    go_enter Tryd.func4, Tryd.ntmps4
    go_wp2_with fail
    refine (hS.out _).mono ?_
    rintro r1 w1 ⟨⟨v, m, c, rfl, h1, hM1⟩, hb1⟩
    go_wp2_with fail
    refine (hI.out _ (by (repeat (first | exact Below.refl _ _ | assumption | refine bchain (by assumption) ?_ | refine balloc ?_ _ | apply Below.drew | apply below_drewN | (refine Below.alloc ?_ (by (try simp) <;> omega) _) | (refine Below.setCell ?_ (by (try simp) <;> omega) _))))).mono ?_
    rintro r2 w2 ⟨⟨v', m', c', rfl, h2, hO2⟩, hb2⟩
    obtain ⟨rfl, rfl⟩ := h1.one h2
    obtain ⟨hm8, hrm⟩ := small h1
    have hrm2 : ∀ i, i < m.length → (Fr.rAt m i).length ≤ 1048576 := fun i hi => by rw [hrm i hi]; omega
    have hM2 := hM1.below hb2
    have hE := Lib.hid (Fr.eqMs_any w2 v' v m hO2.out.slm hM2 (by omega) hrm2)
    have hEq := Lib.hid (fun W v2 (h : Fr.SlM W v2 m) (h' : Fr.SlM W v m) => Fr.eqMs_any W v2 v m h h' (by omega) hrm2)
    have hone := Lib.hid (fun m2 c2 (h : RmP l m2 c2) => h1.one h)
    have hb12 : Below w.heap.size w w2 := by (repeat (first | exact Below.refl _ _ | assumption | refine bchain (by assumption) ?_ | refine balloc ?_ _ | apply Below.drew | apply below_drewN | (refine Below.alloc ?_ (by (try simp) <;> omega) _) | (refine Below.setCell ?_ (by (try simp) <;> omega) _)))
    have hz1 := hb1.size
    have hz2 := hb2.size
    rcases hO2.out.sq hrm with ⟨h0, a, cap, rfl⟩ | ⟨A, cap, R, C, f, rfl, hB, hQ⟩
    · replace hM2 := Lib.hid hM2
      clear h1 h2 hO2 hrm hrm2 hM1 hb1 hb2
      go_wp2_with fail
      refine hE.out.mono ?_
      rintro r3 w3 ⟨rfl, hb3⟩
      go_wp2_with fail
      refine (markQ_zero _ a cap 1).mono ?_
      rintro r4 w4 ⟨rfl, hb4⟩
      go_wp2_with fail
      refine (heldQ_zero _ a cap 1).mono ?_
      rintro r5 w5 ⟨rfl, hb5⟩
      go_wp2_with fail
      refine (hI.out _ (by (repeat (first | exact Below.refl _ _ | assumption | refine bchain (by assumption) ?_ | refine balloc ?_ _ | apply Below.drew | apply below_drewN | (refine Below.alloc ?_ (by (try simp) <;> omega) _) | (refine Below.setCell ?_ (by (try simp) <;> omega) _))))).mono ?_
      rintro r6 w6 ⟨⟨v6, m6, c6, rfl, h6, hO6⟩, hb6⟩
      obtain ⟨rfl, rfl⟩ := hone.out _ _ h6
      have hM6 := hM2.out.below (show Below w2.heap.size w2 w6 by (repeat (first | exact Below.refl _ _ | assumption | refine bchain (by assumption) ?_ | refine balloc ?_ _ | apply Below.drew | apply below_drewN | (refine Below.alloc ?_ (by (try simp) <;> omega) _) | (refine Below.setCell ?_ (by (try simp) <;> omega) _))))
      go_wp2_with fail
      refine (hEq.out _ _ hO6.out.slm hM6).mono ?_
      rintro r7 w7 ⟨rfl, hb7⟩
      go_wp2_with fail
      refine (heldQ_zero _ a cap 1).mono ?_
      rintro r8 w8 ⟨rfl, hb8⟩
      go_wp2
      go_ret
      exact ⟨rfl, by (repeat (first | exact Below.refl _ _ | assumption | refine bchain (by assumption) ?_ | refine balloc ?_ _ | apply Below.drew | apply below_drewN | (refine Below.alloc ?_ (by (try simp) <;> omega) _) | (refine Below.setCell ?_ (by (try simp) <;> omega) _)))⟩
    · obtain ⟨n, hn⟩ : ∃ n, m.length = n := ⟨_, rfl⟩
      rw [hn] at hB hQ hm8 hE ⊢
      have hnn : n * n * 2 ≤ 128 := sqn8 hm8 (Nat.le_refl n)
      have hb12' : Below w1.heap.size w1 w2 := hb2
      replace hM1 := Lib.hid hM1
      replace hQ := Lib.hid hQ
      replace hB := Lib.hid hB
      clear h1 h2 hO2 hrm hrm2 hM2 hb1 hb2 hn
      go_wp2_with fail
      refine hE.out.mono ?_
      rintro r3 w3 ⟨rfl, hb3⟩
      have hQ3 := Lib.hid (hQ.out.below hb3)
      have hz3 := hb3.size
      have hb13 : Below w1.heap.size w1 w3 := hb12'.trans (hb3.mono hz2)
      have hb03 : Below w.heap.size w w3 := hb12.trans (hb3.mono (by omega))
      clear hb12' hb12 hb3 hQ hE
      go_wp2_with fail
      refine (markQ_any _ w1.heap.size A n 1 cap R C f hm8 (by omega) hB.out hQ3.out).mono ?_
      rintro r4 w4 ⟨rfl, hb4, hQ4⟩
      have hb14 : Below w1.heap.size w1 w4 := hb13.trans hb4
      have hb04 : Below w.heap.size w w4 := hb03.trans (hb4.mono hz1)
      have hM4 := Lib.hid (hM1.out.below hb14)
      replace hQ4 := Lib.hid hQ4
      have hz4 := hb4.size
      clear hb13 hb03 hb4 hb14 hM1 hQ3
      obtain ⟨K, hK⟩ : ∃ K : Nat, 1 + n * n * 2 = K := ⟨_, rfl⟩
      rw [hK]
      have hKl : K ≤ 1000 := by omega
      go_wp2_with fail
      refine (heldQ_any _ A n 1 cap R C hm8 (by omega) hQ4.out).mono ?_
      rw [hK]
      rintro r5 w5 ⟨rfl, hb5⟩
      have hQ5 := Lib.hid (hQ4.out.below hb5)
      have hM5 := Lib.hid (hM4.out.below hb5)
      have hb05 : Below w.heap.size w w5 := hb04.trans (hb5.mono (by omega))
      have hz5 := hb5.size
      clear hb04 hb5 hQ4 hM4
      go_wp2_with fail
      refine (hI.out _ hb05).mono ?_
      rintro r6 w6 ⟨⟨v6, m6, c6, rfl, h6, hO6⟩, hb6⟩
      obtain ⟨rfl, rfl⟩ := hone.out _ _ h6
      have hM6 := hM5.out.below hb6
      have hQ6 := Lib.hid (hQ5.out.below hb6)
      have hb06 : Below w.heap.size w w6 := hb05.trans (hb6.mono (by omega))
      have hz6 := hb6.size
      clear hb05 hb6 hQ5 hM5
      have hE6 := Lib.hid (hEq.out _ _ hO6.out.slm hM6)
      clear hM6 hO6 h6
      go_wp2_with fail
      refine hE6.out.mono ?_
      rintro r7 w7 ⟨rfl, hb7⟩
      have hQ7 := Lib.hid (hQ6.out.below hb7)
      have hb07 : Below w.heap.size w w7 := hb06.trans (hb7.mono (by omega))
      have hz7 := hb7.size
      clear hb06 hb7 hQ6 hE6
      go_wp2_with fail
      refine (heldQ_any _ A n 1 cap R C hm8 (by omega) hQ7.out).mono ?_
      rw [hK]
      rintro r8 w8 ⟨rfl, hb8⟩
      have hb08 : Below w.heap.size w w8 := hb07.trans (hb8.mono (by omega))
      clear hb07 hb8
      go_wp2
      go_ret
      exact ⟨rfl, hb08⟩
  · have d : decide ((1048576 : Int) < (s.size : Int)) = true := decide_eq_true (by omega)
    clear hw _hs
    go_enter Tryd.func4, Tryd.ntmps4
    go_wp2
    go_ret
    exact ⟨rfl, by (repeat (first | exact Below.refl _ _ | assumption | refine bchain (by assumption) ?_ | refine balloc ?_ _ | apply Below.drew | apply below_drewN | (refine Below.alloc ?_ (by (try simp) <;> omega) _) | (refine Below.setCell ?_ (by (try simp) <;> omega) _)))⟩
end ReadMatrixLaw
theorem ReadMatrixLaw.lifted (os : Os) (started : os.Started) (H : Type) (enc : TypeId × Value → H) :
    ReturnsInHanded {} Tryd.checked os 4 .any (fun w args => (Rows.fnExactReadMatrixSpec.pre enc Tryd.prog Tryd.f4 [] false w args ∧ laidMetH Tryd.prog Rows.fnExactReadMatrixRow.laid w) ∧ sizedMet enc Tryd.prog Tryd.f4 (OpenSpec.ofChange Rows.fnExactReadMatrixSpec) false w args)
      (Rows.fnExactReadMatrixSpec.post enc Tryd.prog Tryd.f4 false true false false) := by
  refine fr_liftCS (C := Tryd.checked) (laid := Rows.fnExactReadMatrixRow.laid) own started (by kernel_rfl) Tryd.func4 laid_out (by kernel_rfl) (by kernel_rfl) (tb := 4) rfl Tryd.underlying4 ?hs
    (ChangeSpec.witness_shaped (enc := enc) (C := Tryd.checked) (os := os) (X := fun w _ => laidMetH Tryd.prog Rows.fnExactReadMatrixRow.laid w) false (World.laidAll Tryd.prog os Rows.fnExactReadMatrixRow.laid) #[.string ByteArray.empty] 8 rfl
      (World.shaped_of_ZipB (by kernel_rfl) (by kernel_rfl)) (by kernel_rfl) (by kernel_rfl) (by kernel_rfl) (by rw [MakeChecks.laidMetH_plain _ _ _ (by kernel_rfl)]; exact laidMet_laidAll _ (by kernel_rfl) (by kernel_rfl))) ?_
  case hs =>
    intro ds gs h h2
    match ds, h, gs, h2 with
    | [d0], _, [], _ => rfl
  intro W base args ds gs p hval0 hA0 hlt hsz hL0 hsh
  have hL : laidMet Tryd.prog Rows.fnExactReadMatrixRow.laid W := by rw [← MakeChecks.laidMetH_plain _ _ _ (by kernel_rfl)]; exact hL0
  have hval : ∀ (j : Nat) t v, Tryd.f4.params[j]? = some t → args[j]? = some v → Value.okWide Tryd.prog W .any base t v := hval0
  have hA : DataW.TrodAll enc Tryd.prog W 0 (fun _ => true) true Tryd.f4.params.toList args.toList ds p := hA0
  rw [Tryd.params4] at hA hval
  obtain ⟨v0, vs0, d0, ds0, p0, q0, hargs, rfl, rfl, h0, r0⟩ := trodAll_cons hA
  obtain ⟨rfl, rfl, rfl⟩ := trodAll_nil r0
  obtain rfl : args = #[v0] := by cases args; simp_all
  obtain ⟨a0, rfl, w0⟩ := open_str (hval 0 9 v0 rfl rfl) h0
  exact ReadMatrixLaw.walk a0 w0 W (libW_of hsh (tabP_of_laid (laidMet.tail (laidMet.tail hL))) (laidMet.tail (laidMet.tail (laidMet.tail (laidMet.tail hL)))) (laidMet.tail (laidMet.tail (laidMet.tail (laidMet.tail (laidMet.tail hL))))))

theorem readMatrix_holds_row : Rows.FnExactReadMatrixSaid :=
  OpenClaim.holds_of_wide 4 Tryd.f4 rfl rfl rfl rfl rfl rfl rfl ⟨rfl, rfl, rfl, rfl, rfl⟩ rfl rfl rfl rfl rfl (by kernel_rfl) Tryd.func4 (by kernel_rfl)
    (of_decide_eq_true (by kernel_rfl)) (by unfold Func.isWrapper; rw [if_neg (of_decide_eq_false (by kernel_rfl))]; exact ⟨rfl, rfl⟩)
    (fun os started H enc _ => ReadMatrixLaw.lifted os started H enc)
theorem readMatrix_holds : Rows.FnExactReadMatrixCardSaid :=
  Claim7.holds_tied_plain_at .later [] Rows.fnExactReadMatrixCard.laidKinds true Rows.fnExactReadMatrixCard.stood.harness Rows.fnExactReadMatrixCard.stood.looks readMatrix_holds_row (fun _ h => by cases h) (by kernel_rfl) (fun _ h => by cases h) fnExactReadMatrix_row_tie rfl ⟨rfl, rfl⟩ (by kernel_rfl) rfl
    (fun f fn hf hfn => by
      obtain rfl : f = 4 := Option.some.inj ((show Tryd.prog.funcNamed "loop.example/g01169/laws.FnExactReadMatrix" = some 4 by kernel_rfl).symm.trans hf) |>.symm
      obtain rfl : fn = Tryd.f4 := (Option.some.inj (Tryd.func4.symm.trans hfn)).symm
      exact ⟨by kernel_rfl, fun j t ht => by
        rw [Tryd.params4] at ht
        have hm : t ∈ [9] := by simpa using Array.mem_of_getElem? ht
        have hall : ([9].all fun u => !Tryd.prog.wantsStandIn u) = true := by kernel_rfl
        exact (show Tryd.prog.wantsStandIn t = false by simpa using List.all_eq_true.1 hall t hm)⟩)
    (by kernel_rfl)
#print axioms readMatrix_holds
end Go.Proofs.YtdbidlnkaplekaaDoor
