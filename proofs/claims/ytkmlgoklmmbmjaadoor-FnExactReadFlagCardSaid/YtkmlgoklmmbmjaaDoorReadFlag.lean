/-
  PROVED: for every text, ReadFlag of the program answers as the model's does. Condition: the library's variables hold what the program's text lays there (the card ties them).
-/
import Derived.Test.YtkmlgoklmmbmjaaDoorRkI
import Derived.Test.YtkmlgoklmmbmjaaDoorLw
import Derived.Test.YtkmlgoklmmbmjaaDoorFOpen
import Derived.Test.YtkmlgoklmmbmjaaDoorTie
import Derived.Test.YtkmlgoklmmbmjaaDoorCards
import Derived.SevenTiedAt
import Derived.Lay
namespace Go.Proofs.YtkmlgoklmmbmjaaDoor
open Go.ChangeShapes Go.WideShapes Go.ChangeAt Go.RowKit
set_option maxRecDepth 100000

namespace ReadFlagLaw
theorem one {l : List UInt8} {k n e c k' n' e' c' : Int} (h : RkR l k n e c) (h' : RkR l k' n' e' c') : k = k' ∧ n = n' ∧ e = e' ∧ c = c' := by
  rcases h with ⟨rfl, hv, a0, a, b, rfl, rfl, rfl, rfl⟩ | ⟨rfl, rfl, rfl, rfl, hn⟩ <;> rcases h' with ⟨rfl, hv', a0', a', b', rfl, rfl, rfl, e⟩ | ⟨rfl, rfl, rfl, rfl, hn'⟩
  · have h1 := @kText_parts (kText a0 a (prE a b)) a0 a (prE a b) (vk_nat hv).1 rfl
    have h2 := kText_parts (vk_nat hv').1 e
    obtain ⟨rfl, rfl⟩ := kText_ginj hv.1 hv'.1 (h1.2.2.2.2.symm.trans h2.2.2.2.2)
    have h3 := h1.2.2.2.1 (by have := h1.1; omega)
    have h4 := h2.2.2.2.1 (by have := h1.1; omega)
    obtain rfl : a0 = a0' := by omega
    exact ⟨rfl, rfl, rfl, rfl⟩
  · exact absurd rfl (hn' a0 a b hv)
  · exact absurd e (hn _ _ _ hv')
  · exact ⟨rfl, rfl, rfl, rfl⟩
theorem walk (s : ByteArray) (_hs : s.size ≤ maxLen) (w : World) (hw : LibW w) :
    Calls Tryd.prog 8 #[.string s] w fun e w' => e = .returned (.bool true) ∧ Below w.heap.size w w' := by
  by_cases h : s.size ≤ 1048576
  · obtain ⟨l, rfl⟩ : ∃ l, s = tx l := ⟨s.data.toList, by cases s; simp [tx]⟩
    rw [tx_size] at h
    have hS := Lib.hid (fun W => srk_any W l (by omega))
    have hI := Lib.hid (fun W (hb : Below w.heap.size w W) => irk_any W l (by omega) (hw.below hb))
    have d : decide ((1048576 : Int) < (l.length : Int)) = false := decide_eq_false (by omega)
    have hsz := tx_size l
    obtain ⟨s, hs⟩ : ∃ s, tx l = s := ⟨_, rfl⟩
    rw [hs] at hS hI hsz ⊢
    clear hs hw _hs
    go_enter Tryd.func8, Tryd.ntmps8
    go_wp2_with fail
    refine (hS.out _).mono ?_
    rintro r1 w1 ⟨⟨k, p, q, c, rfl, h1⟩, hb1⟩
    go_wp2_with fail
    refine (hI.out _ (by (repeat (first | exact Below.refl _ _ | assumption | refine bchain (by assumption) ?_ | refine balloc ?_ _ | apply Below.drew | apply below_drewN | (refine Below.alloc ?_ (by (try simp) <;> omega) _) | (refine Below.setCell ?_ (by (try simp) <;> omega) _))))).mono ?_
    rintro r2 w2 ⟨⟨k', p', q', c', rfl, h2⟩, hb2⟩
    obtain ⟨hc, hz⟩ := bkeep hb2 (w1.heap.size) (by (try simp) <;> omega)
    obtain ⟨rfl, rfl, rfl, rfl⟩ := one h1 h2
    clear h1 h2
    go_wp2_with fail
    refine (eqFlag_any _ _ _ _).mono ?_
    rintro r3 w3 ⟨rfl, hb3⟩
    go_wp2
    go_ret
    exact ⟨rfl, by (repeat (first | exact Below.refl _ _ | assumption | refine bchain (by assumption) ?_ | refine balloc ?_ _ | apply Below.drew | apply below_drewN | (refine Below.alloc ?_ (by (try simp) <;> omega) _) | (refine Below.setCell ?_ (by (try simp) <;> omega) _)))⟩
  · have d : decide ((1048576 : Int) < (s.size : Int)) = true := decide_eq_true (by omega)
    clear hw _hs
    go_enter Tryd.func8, Tryd.ntmps8
    go_wp2
    go_ret
    exact ⟨rfl, by (repeat (first | exact Below.refl _ _ | assumption | refine bchain (by assumption) ?_ | refine balloc ?_ _ | apply Below.drew | apply below_drewN | (refine Below.alloc ?_ (by (try simp) <;> omega) _) | (refine Below.setCell ?_ (by (try simp) <;> omega) _)))⟩
end ReadFlagLaw
theorem ReadFlagLaw.lifted (os : Os) (started : os.Started) (H : Type) (enc : TypeId × Value → H) :
    ReturnsInHanded {} Tryd.checked os 8 .any (fun w args => (Rows.fnExactReadFlagSpec.pre enc Tryd.prog Tryd.f8 [] false w args ∧ laidMetH Tryd.prog Rows.fnExactReadFlagRow.laid w) ∧ sizedMet enc Tryd.prog Tryd.f8 (OpenSpec.ofChange Rows.fnExactReadFlagSpec) false w args)
      (Rows.fnExactReadFlagSpec.post enc Tryd.prog Tryd.f8 false true false false) := by
  refine fr_liftCS (C := Tryd.checked) (laid := Rows.fnExactReadFlagRow.laid) own started (by kernel_rfl) Tryd.func8 laid_out (by kernel_rfl) (by kernel_rfl) (tb := 4) rfl Tryd.underlying4 ?hs
    (ChangeSpec.witness_shaped (enc := enc) (C := Tryd.checked) (os := os) (X := fun w _ => laidMetH Tryd.prog Rows.fnExactReadFlagRow.laid w) false (World.laidAll Tryd.prog os Rows.fnExactReadFlagRow.laid) #[.string ByteArray.empty] 8 rfl
      (World.shaped_of_ZipB (by kernel_rfl) (by kernel_rfl)) (by kernel_rfl) (by kernel_rfl) (by kernel_rfl) (by rw [MakeChecks.laidMetH_plain _ _ _ (by kernel_rfl)]; exact laidMet_laidAll _ (by kernel_rfl) (by kernel_rfl))) ?_
  case hs =>
    intro ds gs h h2
    match ds, h, gs, h2 with
    | [d0], _, [], _ => rfl
  intro W base args ds gs p hval0 hA0 hlt hsz hL0 hsh
  have hL : laidMet Tryd.prog Rows.fnExactReadFlagRow.laid W := by rw [← MakeChecks.laidMetH_plain _ _ _ (by kernel_rfl)]; exact hL0
  have hval : ∀ (j : Nat) t v, Tryd.f8.params[j]? = some t → args[j]? = some v → Value.okWide Tryd.prog W .any base t v := hval0
  have hA : DataW.TrodAll enc Tryd.prog W 0 (fun _ => true) true Tryd.f8.params.toList args.toList ds p := hA0
  rw [Tryd.params8] at hA hval
  obtain ⟨v0, vs0, d0, ds0, p0, q0, hargs, rfl, rfl, h0, r0⟩ := trodAll_cons hA
  obtain ⟨rfl, rfl, rfl⟩ := trodAll_nil r0
  obtain rfl : args = #[v0] := by cases args; simp_all
  obtain ⟨a0, rfl, w0⟩ := open_str (hval 0 9 v0 rfl rfl) h0
  exact ReadFlagLaw.walk a0 w0 W (libW_of hsh (tabP_of_laid (laidMet.tail (laidMet.tail hL))) (laidMet.tail (laidMet.tail (laidMet.tail (laidMet.tail hL)))) (laidMet.tail (laidMet.tail (laidMet.tail (laidMet.tail (laidMet.tail hL))))))

theorem readFlag_holds_row : Rows.FnExactReadFlagSaid :=
  OpenClaim.holds_of_wide 8 Tryd.f8 rfl rfl rfl rfl rfl rfl rfl ⟨rfl, rfl, rfl, rfl, rfl⟩ rfl rfl rfl rfl rfl (by kernel_rfl) Tryd.func8 (by kernel_rfl)
    (of_decide_eq_true (by kernel_rfl)) (by unfold Func.isWrapper; rw [if_neg (of_decide_eq_false (by kernel_rfl))]; exact ⟨rfl, rfl⟩)
    (fun os started H enc _ => ReadFlagLaw.lifted os started H enc)
theorem readFlag_holds : Rows.FnExactReadFlagCardSaid :=
  Claim7.holds_tied_plain_at .later [] Rows.fnExactReadFlagCard.laidKinds true Rows.fnExactReadFlagCard.stood.harness Rows.fnExactReadFlagCard.stood.looks readFlag_holds_row (fun _ h => by cases h) (by kernel_rfl) (fun _ h => by cases h) fnExactReadFlag_row_tie rfl ⟨rfl, rfl⟩ (by kernel_rfl) rfl
    (fun f fn hf hfn => by
      obtain rfl : f = 8 := Option.some.inj ((show Tryd.prog.funcNamed "loop.example/g01169/laws.FnExactReadFlag" = some 8 by kernel_rfl).symm.trans hf) |>.symm
      obtain rfl : fn = Tryd.f8 := (Option.some.inj (Tryd.func8.symm.trans hfn)).symm
      exact ⟨by kernel_rfl, fun j t ht => by
        rw [Tryd.params8] at ht
        have hm : t ∈ [9] := by simpa using Array.mem_of_getElem? ht
        have hall : ([9].all fun u => !Tryd.prog.wantsStandIn u) = true := by kernel_rfl
        exact (show Tryd.prog.wantsStandIn t = false by simpa using List.all_eq_true.1 hall t hm)⟩)
    (by kernel_rfl)
#print axioms readFlag_holds
end Go.Proofs.YtkmlgoklmmbmjaaDoor
