/-
  PROVED: for every text, ReadGraph of the program answers as the model's does. Condition: the library's variables hold what the program's text lays there (the card ties them).
-/
import Derived.Test.YtkmlgoklmmbmjaaDoorRgI
import Derived.Test.YtkmlgoklmmbmjaaDoorLw
import Derived.Test.YtkmlgoklmmbmjaaDoorFOpen
import Derived.Test.YtkmlgoklmmbmjaaDoorTie
import Derived.Test.YtkmlgoklmmbmjaaDoorCards
import Derived.SevenTiedAt
import Derived.Lay
namespace Go.Proofs.YtkmlgoklmmbmjaaDoor
open Go.ChangeShapes Go.WideShapes Go.ChangeAt Go.RowKit
set_option maxRecDepth 100000

namespace ReadGraphLaw
theorem pWord_inj {p q : Nat × Nat} (h : pWord p = pWord q) : p = q := by
  have h1 := cut_p p
  rw [h, cut_p q] at h1
  injection h1 with a b
  injection b with b _
  exact Prod.ext (dec_inj a).symm (dec_inj b).symm
theorem map_inj : ∀ {a b : List (Nat × Nat)}, a.map pWord = b.map pWord → a = b
  | [], [], _ => rfl
  | x :: a, y :: b, h => by
    simp only [List.map_cons, List.cons.injEq] at h
    rw [pWord_inj h.1, map_inj h.2]
  | [], _ :: _, h => by simp at h
  | _ :: _, [], h => by simp at h
theorem gText_inj {n e n' e' : Nat} (hv : VG n e) (hv' : VG n' e') (h : gText n (prE n e) = gText n' (prE n' e')) : n = n' ∧ e = e' := by
  have h1 := words_g n (prE n e)
  rw [h, words_g] at h1
  injection h1 with _ h1
  injection h1 with h2 h3
  obtain rfl := dec_inj h2
  have h4 : prE n' e' = prE n' e := map_inj h3
  refine ⟨rfl, ?_⟩
  rw [← geE_all hv, ← geE_all hv', h4]
theorem one {l : List UInt8} {n e c n' e' c' : Int} (h : RgR l n e c) (h' : RgR l n' e' c') : n = n' ∧ e = e' ∧ c = c' := by
  rcases h with ⟨rfl, hv, a, b, rfl, rfl, rfl⟩ | ⟨rfl, rfl, rfl, hn⟩ <;> rcases h' with ⟨rfl, hv', a', b', rfl, rfl, e⟩ | ⟨rfl, rfl, rfl, hn'⟩
  · obtain ⟨rfl, rfl⟩ := gText_inj hv hv' e
    exact ⟨rfl, rfl, rfl⟩
  · exact absurd rfl (hn' a b hv)
  · exact absurd e (hn _ _ hv')
  · exact ⟨rfl, rfl, rfl⟩
theorem walk (s : ByteArray) (_hs : s.size ≤ maxLen) (w : World) (hw : LibW w) :
    Calls Tryd.prog 6 #[.string s] w fun e w' => e = .returned (.bool true) ∧ Below w.heap.size w w' := by
  by_cases h : s.size ≤ 1048576
  · obtain ⟨l, rfl⟩ : ∃ l, s = tx l := ⟨s.data.toList, by cases s; simp [tx]⟩
    rw [tx_size] at h
    have hS := Lib.hid (fun W => srg_any W l (by omega))
    have hI := Lib.hid (fun W (hb : Below w.heap.size w W) => irg_any W l (by omega) (hw.below hb))
    have d : decide ((1048576 : Int) < (l.length : Int)) = false := decide_eq_false (by omega)
    have hsz := tx_size l
    obtain ⟨s, hs⟩ : ∃ s, tx l = s := ⟨_, rfl⟩
    rw [hs] at hS hI hsz ⊢
    clear hs hw _hs
    go_enter Tryd.func6, Tryd.ntmps6
    go_wp2_with fail
    refine (hS.out _).mono ?_
    rintro r1 w1 ⟨⟨p, q, c, rfl, h1⟩, hb1⟩
    go_wp2_with fail
    refine (hI.out _ (by (repeat (first | exact Below.refl _ _ | assumption | refine bchain (by assumption) ?_ | refine balloc ?_ _ | apply Below.drew | apply below_drewN | (refine Below.alloc ?_ (by (try simp) <;> omega) _) | (refine Below.setCell ?_ (by (try simp) <;> omega) _))))).mono ?_
    rintro r2 w2 ⟨⟨p', q', c', rfl, h2⟩, hb2⟩
    obtain ⟨hc, hz⟩ := bkeep hb2 (w1.heap.size) (by (try simp) <;> omega)
    obtain ⟨rfl, rfl, rfl⟩ := one h1 h2
    clear h1 h2
    go_wp2_with fail
    refine (eqGraph_any _ _ _).mono ?_
    rintro r3 w3 ⟨rfl, hb3⟩
    go_wp2
    go_ret
    exact ⟨rfl, by (repeat (first | exact Below.refl _ _ | assumption | refine bchain (by assumption) ?_ | refine balloc ?_ _ | apply Below.drew | apply below_drewN | (refine Below.alloc ?_ (by (try simp) <;> omega) _) | (refine Below.setCell ?_ (by (try simp) <;> omega) _)))⟩
  · have d : decide ((1048576 : Int) < (s.size : Int)) = true := decide_eq_true (by omega)
    clear hw _hs
    go_enter Tryd.func6, Tryd.ntmps6
    go_wp2
    go_ret
    exact ⟨rfl, by (repeat (first | exact Below.refl _ _ | assumption | refine bchain (by assumption) ?_ | refine balloc ?_ _ | apply Below.drew | apply below_drewN | (refine Below.alloc ?_ (by (try simp) <;> omega) _) | (refine Below.setCell ?_ (by (try simp) <;> omega) _)))⟩
end ReadGraphLaw
theorem ReadGraphLaw.lifted (os : Os) (started : os.Started) (H : Type) (enc : TypeId × Value → H) :
    ReturnsInHanded {} Tryd.checked os 6 .any (fun w args => (Rows.fnExactReadGraphSpec.pre enc Tryd.prog Tryd.f6 [] false w args ∧ laidMetH Tryd.prog Rows.fnExactReadGraphRow.laid w) ∧ sizedMet enc Tryd.prog Tryd.f6 (OpenSpec.ofChange Rows.fnExactReadGraphSpec) false w args)
      (Rows.fnExactReadGraphSpec.post enc Tryd.prog Tryd.f6 false true false false) := by
  refine fr_liftCS (C := Tryd.checked) (laid := Rows.fnExactReadGraphRow.laid) own started (by kernel_rfl) Tryd.func6 laid_out (by kernel_rfl) (by kernel_rfl) (tb := 4) rfl Tryd.underlying4 ?hs
    (ChangeSpec.witness_shaped (enc := enc) (C := Tryd.checked) (os := os) (X := fun w _ => laidMetH Tryd.prog Rows.fnExactReadGraphRow.laid w) false (World.laidAll Tryd.prog os Rows.fnExactReadGraphRow.laid) #[.string ByteArray.empty] 8 rfl
      (World.shaped_of_ZipB (by kernel_rfl) (by kernel_rfl)) (by kernel_rfl) (by kernel_rfl) (by kernel_rfl) (by rw [MakeChecks.laidMetH_plain _ _ _ (by kernel_rfl)]; exact laidMet_laidAll _ (by kernel_rfl) (by kernel_rfl))) ?_
  case hs =>
    intro ds gs h h2
    match ds, h, gs, h2 with
    | [d0], _, [], _ => rfl
  intro W base args ds gs p hval0 hA0 hlt hsz hL0 hsh
  have hL : laidMet Tryd.prog Rows.fnExactReadGraphRow.laid W := by rw [← MakeChecks.laidMetH_plain _ _ _ (by kernel_rfl)]; exact hL0
  have hval : ∀ (j : Nat) t v, Tryd.f6.params[j]? = some t → args[j]? = some v → Value.okWide Tryd.prog W .any base t v := hval0
  have hA : DataW.TrodAll enc Tryd.prog W 0 (fun _ => true) true Tryd.f6.params.toList args.toList ds p := hA0
  rw [Tryd.params6] at hA hval
  obtain ⟨v0, vs0, d0, ds0, p0, q0, hargs, rfl, rfl, h0, r0⟩ := trodAll_cons hA
  obtain ⟨rfl, rfl, rfl⟩ := trodAll_nil r0
  obtain rfl : args = #[v0] := by cases args; simp_all
  obtain ⟨a0, rfl, w0⟩ := open_str (hval 0 9 v0 rfl rfl) h0
  exact ReadGraphLaw.walk a0 w0 W (libW_of hsh (tabP_of_laid (laidMet.tail (laidMet.tail hL))) (laidMet.tail (laidMet.tail (laidMet.tail (laidMet.tail hL)))) (laidMet.tail (laidMet.tail (laidMet.tail (laidMet.tail (laidMet.tail hL))))))

theorem readGraph_holds_row : Rows.FnExactReadGraphSaid :=
  OpenClaim.holds_of_wide 6 Tryd.f6 rfl rfl rfl rfl rfl rfl rfl ⟨rfl, rfl, rfl, rfl, rfl⟩ rfl rfl rfl rfl rfl (by kernel_rfl) Tryd.func6 (by kernel_rfl)
    (of_decide_eq_true (by kernel_rfl)) (by unfold Func.isWrapper; rw [if_neg (of_decide_eq_false (by kernel_rfl))]; exact ⟨rfl, rfl⟩)
    (fun os started H enc _ => ReadGraphLaw.lifted os started H enc)
theorem readGraph_holds : Rows.FnExactReadGraphCardSaid :=
  Claim7.holds_tied_plain_at .later [] Rows.fnExactReadGraphCard.laidKinds true Rows.fnExactReadGraphCard.stood.harness Rows.fnExactReadGraphCard.stood.looks readGraph_holds_row (fun _ h => by cases h) (by kernel_rfl) (fun _ h => by cases h) fnExactReadGraph_row_tie rfl ⟨rfl, rfl⟩ (by kernel_rfl) rfl
    (fun f fn hf hfn => by
      obtain rfl : f = 6 := Option.some.inj ((show Tryd.prog.funcNamed "loop.example/g01169/laws.FnExactReadGraph" = some 6 by kernel_rfl).symm.trans hf) |>.symm
      obtain rfl : fn = Tryd.f6 := (Option.some.inj (Tryd.func6.symm.trans hfn)).symm
      exact ⟨by kernel_rfl, fun j t ht => by
        rw [Tryd.params6] at ht
        have hm : t ∈ [9] := by simpa using Array.mem_of_getElem? ht
        have hall : ([9].all fun u => !Tryd.prog.wantsStandIn u) = true := by kernel_rfl
        exact (show Tryd.prog.wantsStandIn t = false by simpa using List.all_eq_true.1 hall t hm)⟩)
    (by kernel_rfl)
#print axioms readGraph_holds
end Go.Proofs.YtkmlgoklmmbmjaaDoor
