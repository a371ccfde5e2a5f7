/-
  PROVED: for every list of fractions, valid or not, SquareMatrix of the program answers as the model's does, its list is left as it was, and its result owns its memory. Conditions: none.
-/
import Derived.Test.YtdibcchhamapjacOpenFs
import Derived.Test.YtdibcchhamapjacFSqM
namespace Go.Proofs.Ytdibcchhamapjac
open Go.ChangeShapes Go.WideShapes Go.ChangeAt Go.RowKit
set_option maxRecDepth 100000

theorem sm_both (xs : List (Int × Int)) (hm : xs.length ≤ 1048576) : ∃ (n : Nat) (g : Nat → Nat → Int × Int) (c : Int), n ≤ 8 ∧
    (∀ W v, SlG W v xs → Calls Try.prog 25 #[v] W fun r w' => (∃ v, r = .returned (.tuple #[v, .int .i64 c]) ∧ SlM w' v (matL n g)) ∧ Below W.heap.size W w') ∧
    (∀ W v, SlG W v xs → Calls Try.prog 27 #[v] W fun r w' => (∃ u, r = .returned (.tuple #[u, .int .i64 c]) ∧ MR W.heap.size w' u n (gv n g)) ∧ Below W.heap.size W w') := by
  have hz : ∀ (w : World) (u : Option Addr) (cap : Nat), cap ≤ 9223372036854775807 → SlM w (.slice u 0 cap) (matL 0 fun _ _ => (0, 0)) := fun w u cap h => ⟨u, cap, rfl, Nat.zero_le _, h, fun c => absurd rfl c⟩
  by_cases hV : Vl xs
  · by_cases h8 : xs.length ≤ 8
    · by_cases ho : ∀ i j, i < xs.length → j < xs.length → oS xs i j = true
      · refine ⟨xs.length, gS xs, 0, h8, fun W v hS => (sSM_any W v xs hS h8 hV).mono ?_, fun W v hS => iSM_ok W v xs hS h8 hV ho⟩
        rintro r w' ⟨⟨_, v2, rfl, hM⟩ | ⟨⟨i, j, hi, hj, hf⟩, _⟩, hb⟩
        · exact ⟨⟨_, rfl, hM.slm⟩, hb⟩
        · rw [ho i j hi hj] at hf; cases hf
      · have ho2 : ∃ i j, i < xs.length ∧ j < xs.length ∧ oS xs i j = false := by
          refine Classical.byContradiction fun hn => ho fun i j hi hj => ?_
          cases hb : oS xs i j with
          | true => rfl
          | false => exact absurd ⟨i, j, hi, hj, hb⟩ hn
        refine ⟨0, fun _ _ => (0, 0), 3, by omega, fun W v hS => (sSM_any W v xs hS h8 hV).mono ?_, fun W v hS => (iSM_lim W v xs hS h8 hV ho2).mono ?_⟩
        · rintro r w' ⟨⟨h, _⟩ | ⟨_, u, cap, rfl, hc⟩, hb⟩
          · exact absurd h ho
          · exact ⟨⟨_, rfl, hz _ _ _ hc⟩, hb⟩
        · rintro r w' ⟨rfl, hb⟩
          exact ⟨⟨_, rfl, .inl ⟨rfl, none, 0, rfl, by omega⟩⟩, hb⟩
    · refine ⟨0, fun _ _ => (0, 0), 2, by omega, fun W v hS => (sSM_rng W v xs hS (by omega) hV).mono ?_, fun W v hS => (iSM_rng W v xs hS (by omega) hV).mono ?_⟩
      · rintro r w' ⟨⟨u, cap, rfl, hc⟩, hb⟩
        exact ⟨⟨_, rfl, hz _ _ _ hc⟩, hb⟩
      · rintro r w' ⟨rfl, hb⟩
        exact ⟨⟨_, rfl, .inl ⟨rfl, none, 0, rfl, by omega⟩⟩, hb⟩
  · refine ⟨0, fun _ _ => (0, 0), 1, by omega, fun W v hS => (sSM_bad W v xs hS hm hV).mono ?_, fun W v hS => (iSM_bad W v xs hS hm hV).mono ?_⟩
    · rintro r w' ⟨⟨u, cap, rfl, hc⟩, hb⟩
      exact ⟨⟨_, rfl, hz _ _ _ hc⟩, hb⟩
    · rintro r w' ⟨rfl, hb⟩
      exact ⟨⟨_, rfl, .inl ⟨rfl, none, 0, rfl, by omega⟩⟩, hb⟩

namespace SquareMatrixLaw
theorem walk_long (v : Value) (xs : List (Int × Int)) (w : World) (hS : SlG w v xs) (hm : 1048576 < xs.length) :
    Calls Try.prog 6 #[v] w fun r w' => r = .returned (.bool true) ∧ Below w.heap.size w w' := by
  obtain ⟨a, cap, rfl, h1, h2, _⟩ := hS
  have hC := Lib.hid (fun W => sz_long W a xs.length cap 1048576 (by omega) (by omega) (by omega) (by omega))
  obtain ⟨l, hl⟩ : ∃ l, xs.length = l := ⟨_, rfl⟩
  rw [hl] at hC ⊢
  clear hl h1 h2 hm
  go_enter Try.func6, Try.ntmps6
  go_wp2_with fail
  refine (hC.out _).mono ?_
  rintro r1 w1 ⟨rfl, rfl⟩
  go_wp2
  go_ret
  exact ⟨rfl, by (repeat (first | exact Below.refl _ _ | assumption | refine bchain (by assumption) ?_ | refine balloc ?_ _ | apply Below.drew | apply below_drewN | (refine Below.alloc ?_ (by (try simp) <;> omega) _) | (refine Below.setCell ?_ (by (try simp) <;> omega) _)))⟩
set_option maxHeartbeats 2000000 in
theorem walk_short (v : Value) (xs : List (Int × Int)) (w : World) (hS : SlG w v xs) (hm : xs.length ≤ 1048576) :
    Calls Try.prog 6 #[v] w fun r w' => r = .returned (.bool true) ∧ Below w.heap.size w w' := by
  obtain ⟨n, g, c, h8, hs, hi⟩ := sm_both xs hm
  have hE := Lib.hid (fun W u v (h : SlM W u (matL n g)) (h' : SlM W v (matL n g)) => eqR_any W u v n g h8 h h')
  have hMk := Lib.hid (fun W b0 u (h : MR b0 W u n (gv n g)) (hb : b0 ≤ W.heap.size) => markR_any W b0 u n (gv n g) h hb)
  have hHd := Lib.hid (fun W b0 u (h : MR b0 W u n (mkF 1 0 (n * n * 2) (gv n g))) => heldR_any W b0 u n (gv n g) h)
  have hT := Lib.hid (fun W u (h : SlG W u xs) => toGs_any W u xs h hm)
  have hTo := Lib.hid (fun W u (h : SlG W u xs) => toGo_any W u xs h hm)
  have hEs := Lib.hid (fun W u u' (h : SlG W u xs) (h' : SlG W u' xs) => eqGs_any W u u' xs h h' hm)
  have hMx := Lib.hid (fun W b0 b1 u (h : XO b0 b1 W u xs.length) (hb : b0 ≤ W.heap.size) => markX_any W b0 b1 u xs.length h hm hb)
  obtain ⟨a, cap, hv, _⟩ := id hS
  have hC := Lib.hid (fun W => sz_ok W a xs.length cap 1048576 (by omega) (by omega))
  rw [← hv] at hC
  obtain ⟨K, hK⟩ : ∃ K : Nat, 1 + n * n * 2 = K := ⟨_, rfl⟩
  rw [hK] at hMk hHd
  obtain ⟨K2, hK2⟩ : ∃ K : Nat, 1 + xs.length * 2 = K := ⟨_, rfl⟩
  rw [hK2] at hMx
  have hd0 : decide ((K : Int) < 0) = false := decide_eq_false (by omega)
  have hd1 : decide ((K2 : Int) < 0) = false := decide_eq_false (by omega)
  have hl0 : decide ((1048576 : Int) - (xs.length : Int) < 0) = false := decide_eq_false (by omega)
  obtain ⟨q, hq⟩ : ∃ q : Int, 1048576 - (xs.length : Int) = q := ⟨_, rfl⟩
  rw [hq] at hC hl0
  replace hs := Lib.hid hs
  replace hi := Lib.hid hi
  replace hS := Lib.hid hS
  clear hm hv hK hK2 hq
  go_enter Try.func6, Try.ntmps6
  go_wp2_with fail
  refine (hC.out _).mono ?_
  rintro r0 w0 ⟨rfl, rfl⟩
  go_wp2_with fail
  refine (hT.out _ _ hS.out).mono ?_
  rintro r1 w1 ⟨⟨u1, rfl, hU1⟩, hb1⟩
  replace hU1 := Lib.hid hU1
  go_wp2_with fail
  refine (hs.out _ _ hU1.out).mono ?_
  rintro r2 w2 ⟨⟨v, rfl, hV⟩, hb2⟩
  have b02 : Below w.heap.size w w2 := hb1.trans (hb2.mono hb1.size)
  replace hV := Lib.hid hV
  clear hb1 hb2 hU1
  go_wp2_with fail
  refine (hTo.out _ _ (hS.out.below (by (repeat (first | exact Below.refl _ _ | assumption | refine bchain (by assumption) ?_ | refine balloc ?_ _ | apply Below.drew | apply below_drewN | (refine Below.alloc ?_ (by (try simp) <;> omega) _) | (refine Below.setCell ?_ (by (try simp) <;> omega) _)))))).mono ?_
  rintro r3 w3 ⟨⟨u3, rfl, hU3, hX3⟩, hb3⟩
  replace hU3 := Lib.hid hU3
  replace hX3 := Lib.hid hX3
  go_wp2_with fail
  refine (hi.out _ _ hU3.out).mono ?_
  rintro r4 w4 ⟨⟨u4, rfl, hU4⟩, hb4⟩
  replace hU4 := Lib.hid hU4
  have hX4 := Lib.hid (hX3.out.below hb4)
  have hU34 := Lib.hid (hU3.out.below hb4)
  have b24 : Below w2.heap.size w2 w4 := hb3.trans (hb4.mono hb3.size)
  have s34 : w3.heap.size ≤ w4.heap.size := hb4.size
  have s23 : w2.heap.size ≤ w3.heap.size := hb3.size
  clear hb3 hb4 hX3 hU3
  go_wp2_with fail
  refine (hE.out _ _ _ hU4.out.slm (hV.out.below (by (repeat (first | exact Below.refl _ _ | assumption | refine bchain (by assumption) ?_ | refine balloc ?_ _ | apply Below.drew | apply below_drewN | (refine Below.alloc ?_ (by (try simp) <;> omega) _) | (refine Below.setCell ?_ (by (try simp) <;> omega) _)))))).mono ?_
  rintro r5 w5 ⟨rfl, hb5⟩
  have hU5 := Lib.hid (hU4.out.below hb5)
  have hX5 := Lib.hid (hX4.out.below hb5)
  have hU35 := Lib.hid (hU34.out.below hb5)
  have b25 : Below w2.heap.size w2 w5 := b24.trans (hb5.mono b24.size)
  have s35 : w3.heap.size ≤ w5.heap.size := Nat.le_trans s34 hb5.size
  clear hb5 b24 s34 hU4 hX4 hU34
  go_wp2_with fail
  refine (hT.out _ _ (hS.out.below (b02.trans (b25.mono b02.size)))).mono ?_
  rintro r6 w6 ⟨⟨u6, rfl, hU6⟩, hb6⟩
  go_wp2_with fail
  refine (hEs.out _ _ _ (hU35.out.below hb6) hU6).mono ?_
  rintro r7 w7 ⟨rfl, hb7⟩
  have hU7 := Lib.hid ((hU5.out.below hb6).below hb7)
  have hX7 := Lib.hid ((hX5.out.below hb6).below hb7)
  have b27 : Below w2.heap.size w2 w7 := (b25.trans (hb6.mono b25.size)).trans (hb7.mono (Nat.le_trans b25.size hb6.size))
  have s37 : w3.heap.size ≤ w7.heap.size := Nat.le_trans s35 (Nat.le_trans hb6.size hb7.size)
  clear hb6 hb7 b25 s35 hU5 hX5 hU35 hU6
  go_wp2_with fail
  refine (hMx.out _ _ _ _ hX7.out (Nat.le_trans s23 s37)).mono ?_
  rintro r8 w8 ⟨rfl, hb8, hkeep⟩
  have hU8 := Lib.hid (hkeep _ _ _ hU7.out)
  have b28 : Below w2.heap.size w2 w8 := b27.trans hb8
  have s38 : w3.heap.size ≤ w8.heap.size := Nat.le_trans s37 hb8.size
  clear hb8 hkeep b27 s37 hU7 hX7
  go_wp2_with fail
  refine (hE.out _ _ _ hU8.out.slm (hV.out.below b28)).mono ?_
  rintro r9 w9 ⟨rfl, hb9⟩
  have hU9 := Lib.hid (hU8.out.below hb9)
  have b29 : Below w2.heap.size w2 w9 := b28.trans (hb9.mono b28.size)
  have s39 : w3.heap.size ≤ w9.heap.size := Nat.le_trans s38 hb9.size
  clear hb9 b28 s38 hU8
  go_wp2_with fail
  refine (hMk.out _ _ _ hU9.out s39).mono ?_
  rintro r10 w10 ⟨rfl, hb10, hU10⟩
  replace hU10 := Lib.hid hU10
  have b2a : Below w2.heap.size w2 w10 := b29.trans (hb10.mono s23)
  clear hb10 b29 s39 hU9
  go_wp2_with fail
  refine (hHd.out _ _ _ hU10.out).mono ?_
  rintro r11 w11 ⟨rfl, hb11⟩
  have hU11 := Lib.hid (hU10.out.below hb11)
  have b2b : Below w2.heap.size w2 w11 := b2a.trans (hb11.mono b2a.size)
  clear hb11 b2a hU10
  go_wp2_with fail
  refine (hT.out _ _ (hS.out.below (b02.trans (b2b.mono b02.size)))).mono ?_
  rintro r12 w12 ⟨⟨u12, rfl, hU12⟩, hb12⟩
  replace hU12 := Lib.hid hU12
  go_wp2_with fail
  refine (hi.out _ _ hU12.out).mono ?_
  rintro r13 w13 ⟨⟨u13, rfl, hU13⟩, hb13⟩
  have hU13' := Lib.hid ((hU11.out.below hb12).below hb13)
  replace hU13 := Lib.hid hU13
  have b2d : Below w2.heap.size w2 w13 := (b2b.trans (hb12.mono b2b.size)).trans (hb13.mono (Nat.le_trans b2b.size hb12.size))
  clear hb12 hb13 b2b hU11 hU12
  go_wp2_with fail
  refine (hE.out _ _ _ hU13.out.slm (hV.out.below b2d)).mono ?_
  rintro r14 w14 ⟨rfl, hb14⟩
  have hU14 := Lib.hid (hU13'.out.below hb14)
  have b2e : Below w2.heap.size w2 w14 := b2d.trans (hb14.mono b2d.size)
  clear hb14 b2d hU13 hU13'
  go_wp2_with fail
  refine (hHd.out _ _ _ hU14.out).mono ?_
  rintro r15 w15 ⟨rfl, hb15⟩
  have hB : Below w.heap.size w w15 := b02.trans ((b2e.trans (hb15.mono b2e.size)).mono b02.size)
  clear hb15 b2e b02
  go_wp2
  go_ret
  exact ⟨rfl, hB⟩
theorem walk (v : Value) (xs : List (Int × Int)) (w : World) (hS : SlG w v xs) :
    Calls Try.prog 6 #[v] w fun r w' => r = .returned (.bool true) ∧ Below w.heap.size w w' := by
  rcases Nat.lt_or_ge 1048576 xs.length with h | h
  · exact walk_long v xs w hS h
  · exact walk_short v xs w hS h
end SquareMatrixLaw
theorem SquareMatrixLaw.lifted (os : Os) (started : os.Started) (H : Type) (enc : TypeId × Value → H) :
    ReturnsInHanded {} Try.checked os 6 .any (Rows.fnExactSquareMatrixSpec.pre6 enc Try.prog Try.f6 Rows.fnExactSquareMatrixRow.domain false)
      (Rows.fnExactSquareMatrixSpec.post enc Try.prog Try.f6 false true false false) := by
  refine fr_lift (C := Try.checked) own started (by kernel_rfl) Try.func6 laid_out rfl (by kernel_rfl) (tb := 4) rfl Try.underlying4 ?hs
    (ChangeSpec.witness6 (enc := enc) (C := Try.checked) false ⟨#[], #[.slice none 0 0], []⟩ 8 (by kernel_rfl) (by kernel_rfl) (by kernel_rfl) (by kernel_rfl)) ?_
  case hs =>
    intro ds h
    match ds, h with
    | [d0], _ => rfl
  intro W base args ds p hval0 hA0 hlt hsz
  have hval : ∀ (j : Nat) t v, Try.f6.params[j]? = some t → args[j]? = some v → Value.okWide Try.prog W .any base t v := hval0
  have hA : DataW.TrodAll enc Try.prog W 0 (fun _ => true) true Try.f6.params.toList args.toList ds p := hA0
  rw [Try.params6] at hA hval
  obtain ⟨v0, vs0, d0, ds0, p0, q0, hargs, rfl, rfl, h0, r0⟩ := trodAll_cons hA
  obtain ⟨rfl, rfl, rfl⟩ := trodAll_nil r0
  obtain rfl : args = #[v0] := by cases args; simp_all
  obtain ⟨x0, R0⟩ := open_fs (hval 0 39 v0 rfl rfl) h0
  exact SquareMatrixLaw.walk v0 x0 W R0

theorem squareMatrix_holds : Rows.FnExactSquareMatrixSaid :=
  OpenClaim.holds_of_wide 6 Try.f6 rfl rfl rfl rfl rfl rfl rfl ⟨rfl, rfl, rfl, rfl, rfl⟩ rfl rfl rfl rfl rfl (by kernel_rfl) Try.func6 (by kernel_rfl)
    (of_decide_eq_true (by kernel_rfl)) (by unfold Func.isWrapper; rw [if_neg (of_decide_eq_false (by kernel_rfl))]; exact ⟨rfl, rfl⟩)
    (fun os started H enc _ => SquareMatrixLaw.lifted os started H enc)
#print axioms squareMatrix_holds
end Go.Proofs.Ytdibcchhamapjac
