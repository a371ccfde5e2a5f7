/-
  PROVED: for every text, ReadFraction of the program answers as the model's does. Condition: the library's variables hold what the program's text lays there (the card ties them).
-/
import Derived.Test.YtkmlgoklmmbmjaaDoorRfS
import Derived.Test.YtkmlgoklmmbmjaaDoorLw
import Derived.Test.YtkmlgoklmmbmjaaDoorFOpen
import Derived.Test.YtkmlgoklmmbmjaaDoorTie
import Derived.Test.YtkmlgoklmmbmjaaDoorCards
import Derived.SevenTiedAt
namespace Go.Proofs.YtkmlgoklmmbmjaaDoor
open Go.ChangeShapes Go.WideShapes Go.ChangeAt Go.RowKit
set_option maxRecDepth 100000

namespace ReadFractionLaw
def RfP (l : List UInt8) (r : Ending) : Prop := ∃ p q c, r = .returned (.tuple #[.agg #[.int .i64 p, .int .i64 q], .int .i64 c]) ∧ RdF l p q c
theorem srf_any (w : World) (l : List UInt8) (hl : l.length ≤ 2000000) : Calls Tryd.prog 12 #[.string (tx l)] w fun r w' => RfP l r ∧ Below w.heap.size w w' := by
  have hS := Lib.hid (fun W => sread_any W l hl)
  obtain ⟨s, hs⟩ : ∃ s, tx l = s := ⟨_, rfl⟩
  rw [hs] at hS ⊢
  clear hs
  go_enter Tryd.func12, Tryd.ntmps12
  go_wp2_with fail
  refine (hS.out _).mono ?_
  rintro r1 w1 ⟨⟨p, q, b, rfl, h1, h2⟩, hb1⟩
  have hfb : FxB w1 w.heap.size 0 0 := (FxB.made w 0 0 25).below hb1
  have hbw : Below w.heap.size w w1 := by (repeat (first | exact Below.refl _ _ | assumption | refine bchain (by assumption) ?_ | refine balloc ?_ _ | apply Below.drew | apply below_drewN | (refine Below.alloc ?_ (by (try simp) <;> omega) _) | (refine Below.setCell ?_ (by (try simp) <;> omega) _)))
  have hf1 := (FxB.made w 0 0 25).below hb1
  obtain ⟨f0, f1, f2, f3⟩ := hf1
  have f30 := f3 0
  have f31 := f3 1
  replace hfb := Lib.hid hfb
  cases b
  · have hR : RfP l (.returned (.tuple #[.agg #[.int .i64 0, .int .i64 0], .int .i64 5])) := ⟨0, 0, 5, rfl, .inr ⟨rfl, rfl, rfl, fun p' q' hv e => by have := (h2 p' q' hv e).2.2; cases this⟩⟩
    clear h1 h2
    replace hR := Lib.hid hR
    go_wp2
    have hF := (hfb.out.put 0 0).below (balloc (Below.refl _ _) (.cells #[.int .i64 p, .int .i64 q] 25))
    have hBB := balloc ((hbw.setCell (p := ⟨w.heap.size, 0, none⟩) (Nat.le_refl _) (.int .i64 0)).setCell (p := ⟨w.heap.size, 1, none⟩) (Nat.le_refl _) (.int .i64 0)) (.cells #[.int .i64 p, .int .i64 q] 25)
    obtain ⟨WW, hWW⟩ : ∃ WW, WW = ((w1.setCell ⟨w.heap.size, 0, none⟩ (.int .i64 0)).setCell ⟨w.heap.size, 1, none⟩ (.int .i64 0)).alloc (.cells #[.int .i64 p, .int .i64 q] 25) := ⟨_, rfl⟩
    rw [← hWW] at hF hBB ⊢
    clear hWW
    obtain ⟨_, F0, F1, _⟩ := hF
    exact bodyPost_ret (v := .tuple #[.agg #[.int .i64 0, .int .i64 0], .int .i64 5]) (by simp [results, Tryd.results12, go_sem, F0, F1]) rfl ⟨hR.out, hBB⟩
  · have hR : RfP l (.returned (.tuple #[.agg #[.int .i64 p, .int .i64 q], .int .i64 0])) := ⟨p, q, 0, rfl, .inl ⟨rfl, h1 rfl⟩⟩
    clear h1 h2
    replace hR := Lib.hid hR
    go_wp2
    have hF := (hfb.out.put p q).below (balloc (Below.refl _ _) (.cells #[.int .i64 p, .int .i64 q] 25))
    have hBB := balloc ((hbw.setCell (p := ⟨w.heap.size, 0, none⟩) (Nat.le_refl _) (.int .i64 p)).setCell (p := ⟨w.heap.size, 1, none⟩) (Nat.le_refl _) (.int .i64 q)) (.cells #[.int .i64 p, .int .i64 q] 25)
    obtain ⟨WW, hWW⟩ : ∃ WW, WW = ((w1.setCell ⟨w.heap.size, 0, none⟩ (.int .i64 p)).setCell ⟨w.heap.size, 1, none⟩ (.int .i64 q)).alloc (.cells #[.int .i64 p, .int .i64 q] 25) := ⟨_, rfl⟩
    rw [← hWW] at hF hBB ⊢
    clear hWW
    obtain ⟨_, F0, F1, _⟩ := hF
    exact bodyPost_ret (v := .tuple #[.agg #[.int .i64 p, .int .i64 q], .int .i64 0]) (by simp [results, Tryd.results12, go_sem, F0, F1]) rfl ⟨hR.out, hBB⟩
/-- what is read off a text is one thing -/
theorem one {l : List UInt8} {p q c p' q' c' : Int} (h : RdF l p q c) (h' : RdF l p' q' c') (hu : ∀ p q p' q' : Int, ∀ n m : Nat, Fr.VF p q → q = n → Fr.VF p' q' → q' = m → fTL p n = fTL p' m → p = p' ∧ q = q') : p = p' ∧ q = q' ∧ c = c' := by
  rcases h with ⟨rfl, hv, n, rfl, rfl⟩ | ⟨rfl, rfl, rfl, hn⟩ <;> rcases h' with ⟨rfl, hv', m, rfl, e⟩ | ⟨rfl, rfl, rfl, hn'⟩
  · obtain ⟨h1, h2⟩ := hu _ _ _ _ n m hv rfl hv' rfl e
    exact ⟨h1, h2, rfl⟩
  · exact absurd rfl (hn' p n hv)
  · exact absurd e (hn _ m hv')
  · exact ⟨rfl, rfl, rfl⟩
theorem fTL_inj (p q p' q' : Int) (n m : Nat) (hv : Fr.VF p q) (e : q = n) (hv' : Fr.VF p' q') (e' : q' = m) (h : fTL p n = fTL p' m) : p = p' ∧ q = q' := by
  subst e e'
  have h1 := rd_first hv
  have h2 := rd_first hv'
  rw [h] at h1
  have a := h1.1.symm.trans h2.1
  have b := h1.2.symm.trans h2.2
  injection a with a
  injection b with b
  exact ⟨a, b⟩
theorem walk (s : ByteArray) (_hs : s.size ≤ maxLen) (w : World) (hw : LibW w) :
    Calls Tryd.prog 4 #[.string s] w fun e w' => e = .returned (.bool true) ∧ Below w.heap.size w w' := by
  by_cases h : s.size ≤ 1048576
  · obtain ⟨l, rfl⟩ : ∃ l, s = tx l := ⟨s.data.toList, by cases s; simp [tx]⟩
    rw [tx_size] at h
    have hS := Lib.hid (fun W => srf_any W l (by omega))
    have hI := Lib.hid (fun W (hb : Below w.heap.size w W) => ird_any W l (by omega) (hw.below hb))
    have d : decide ((1048576 : Int) < (l.length : Int)) = false := decide_eq_false (by omega)
    have hsz := tx_size l
    obtain ⟨s, hs⟩ : ∃ s, tx l = s := ⟨_, rfl⟩
    rw [hs] at hS hI hsz ⊢
    clear hs hw _hs
    go_enter Tryd.func4, Tryd.ntmps4
    go_wp2_with fail
    refine (hS.out _).mono ?_
    rintro r1 w1 ⟨⟨p, q, c, rfl, h1⟩, hb1⟩
    go_wp2_with fail
    refine (hI.out _ (by (repeat (first | exact Below.refl _ _ | assumption | refine bchain (by assumption) ?_ | refine balloc ?_ _ | apply Below.drew | apply below_drewN | (refine Below.alloc ?_ (by (try simp) <;> omega) _) | (refine Below.setCell ?_ (by (try simp) <;> omega) _))))).mono ?_
    rintro r2 w2 ⟨⟨p', q', c', rfl, h2⟩, hb2⟩
    obtain ⟨hc, hz⟩ := bkeep hb2 (w1.heap.size) (by (try simp) <;> omega)
    obtain ⟨rfl, rfl, rfl⟩ := one h1 h2 fTL_inj
    clear h1 h2
    go_wp2_with fail
    refine (Fr.eqF_any _ _ _).mono ?_
    rintro r3 w3 ⟨rfl, hb3⟩
    go_wp2
    go_ret
    exact ⟨rfl, by (repeat (first | exact Below.refl _ _ | assumption | refine bchain (by assumption) ?_ | refine balloc ?_ _ | apply Below.drew | apply below_drewN | (refine Below.alloc ?_ (by (try simp) <;> omega) _) | (refine Below.setCell ?_ (by (try simp) <;> omega) _)))⟩
  · have d : decide ((1048576 : Int) < (s.size : Int)) = true := decide_eq_true (by omega)
    clear hw _hs
    go_enter Tryd.func4, Tryd.ntmps4
    go_wp2
    go_ret
    exact ⟨rfl, by (repeat (first | exact Below.refl _ _ | assumption | refine bchain (by assumption) ?_ | refine balloc ?_ _ | apply Below.drew | apply below_drewN | (refine Below.alloc ?_ (by (try simp) <;> omega) _) | (refine Below.setCell ?_ (by (try simp) <;> omega) _)))⟩
end ReadFractionLaw
theorem ReadFractionLaw.lifted (os : Os) (started : os.Started) (H : Type) (enc : TypeId × Value → H) :
    ReturnsInHanded {} Tryd.checked os 4 .any (fun w args => (Rows.fnExactReadFractionSpec.pre enc Tryd.prog Tryd.f4 [] false w args ∧ laidMetH Tryd.prog Rows.fnExactReadFractionRow.laid w) ∧ sizedMet enc Tryd.prog Tryd.f4 (OpenSpec.ofChange Rows.fnExactReadFractionSpec) false w args)
      (Rows.fnExactReadFractionSpec.post enc Tryd.prog Tryd.f4 false true false false) := by
  refine fr_liftCS (C := Tryd.checked) (laid := Rows.fnExactReadFractionRow.laid) own started (by kernel_rfl) Tryd.func4 laid_out (by kernel_rfl) (by kernel_rfl) (tb := 4) rfl Tryd.underlying4 ?hs
    (ChangeSpec.witness_shaped (enc := enc) (C := Tryd.checked) (os := os) (X := fun w _ => laidMetH Tryd.prog Rows.fnExactReadFractionRow.laid w) false (World.doorLaid Tryd.prog 400 os) #[.string ByteArray.empty] 8 rfl
      (World.shaped_of_RefB (by kernel_rfl) (by kernel_rfl)) (by kernel_rfl) (by kernel_rfl) (by kernel_rfl) (laidMetH_of_parts3 (fuel := 8) (laidMet_of_run' 8 (by kernel_rfl) (by kernel_rfl)) (by kernel_rfl) (by kernel_rfl))) ?_
  case hs =>
    intro ds gs h h2
    match ds, h, gs, h2 with
    | [d0], _, [], _ => rfl
  intro W base args ds gs p hval0 hA0 hlt hsz hL0 hsh
  have hL : laidMet Tryd.prog Rows.fnExactReadFractionRow.laid W := by rw [← MakeChecks.laidMetH_plain _ _ _ (by kernel_rfl)]; exact hL0
  have hval : ∀ (j : Nat) t v, Tryd.f4.params[j]? = some t → args[j]? = some v → Value.okWide Tryd.prog W .any base t v := hval0
  have hA : DataW.TrodAll enc Tryd.prog W 0 (fun _ => true) true Tryd.f4.params.toList args.toList ds p := hA0
  rw [Tryd.params4] at hA hval
  obtain ⟨v0, vs0, d0, ds0, p0, q0, hargs, rfl, rfl, h0, r0⟩ := trodAll_cons hA
  obtain ⟨rfl, rfl, rfl⟩ := trodAll_nil r0
  obtain rfl : args = #[v0] := by cases args; simp_all
  obtain ⟨a0, rfl, w0⟩ := open_str (hval 0 9 v0 rfl rfl) h0
  exact ReadFractionLaw.walk a0 w0 W (libW_of hsh (tabP_of_laid (laidMet.tail (laidMet.tail hL))) (laidMet.tail (laidMet.tail (laidMet.tail hL))) (laidMet.tail (laidMet.tail (laidMet.tail (laidMet.tail hL)))))

theorem readFraction_holds_row : Rows.FnExactReadFractionSaid :=
  OpenClaim.holds_of_wide 4 Tryd.f4 rfl rfl rfl rfl rfl rfl rfl ⟨rfl, rfl, rfl, rfl, rfl⟩ rfl rfl rfl rfl rfl (by kernel_rfl) Tryd.func4 (by kernel_rfl)
    (of_decide_eq_true (by kernel_rfl)) (by unfold Func.isWrapper; rw [if_neg (of_decide_eq_false (by kernel_rfl))]; exact ⟨rfl, rfl⟩)
    (fun os started H enc _ => ReadFractionLaw.lifted os started H enc)
theorem readFraction_holds : Rows.FnExactReadFractionCardSaid :=
  Claim7.holds_tied_plain_at .later [] Rows.fnExactReadFractionCard.laidKinds true Rows.fnExactReadFractionCard.stood.harness Rows.fnExactReadFractionCard.stood.looks readFraction_holds_row (fun _ h => by cases h) (by kernel_rfl) (fun _ h => by cases h) fnExactReadFraction_row_tie rfl ⟨rfl, rfl⟩ (by kernel_rfl) rfl
    (fun f fn hf hfn => by
      obtain rfl : f = 4 := Option.some.inj ((show Tryd.prog.funcNamed "loop.example/g01169/laws.FnExactReadFraction" = some 4 by kernel_rfl).symm.trans hf) |>.symm
      obtain rfl : fn = Tryd.f4 := (Option.some.inj (Tryd.func4.symm.trans hfn)).symm
      exact ⟨by kernel_rfl, fun j t ht => by
        rw [Tryd.params4] at ht
        have hm : t ∈ [9] := by simpa using Array.mem_of_getElem? ht
        have hall : ([9].all fun u => !Tryd.prog.wantsStandIn u) = true := by kernel_rfl
        exact (show Tryd.prog.wantsStandIn t = false by simpa using List.all_eq_true.1 hall t hm)⟩)
    (by kernel_rfl)
#print axioms readFraction_holds
end Go.Proofs.YtkmlgoklmmbmjaaDoor
