/-
  PROVED: for every block, valid or not, ValidBlock of the program answers as the model's does, and its block is left as it was. Conditions: none.
-/
import Derived.Test.YtfpoekdcedbciaaFrame
import Derived.Test.YtfpoekdcedbciaaBc
import Derived.Deep.RegionHeld3
namespace Go.Proofs.Ytfpoekdcedbciaa
open Go.ChangeShapes Go.WideShapes Go.ChangeAt Go.RowKit
set_option maxRecDepth 100000

namespace ValidBlockLaw
theorem walk_long (v : Value) (Y : BM) (w : World) (h : BkS w v Y) (hm : ¬ ((Y.ks.length : Int) + ((Y.m.length : Int) + (Fr.tot Y.m Y.m.length : Nat)) ≤ 1048576)) :
    Calls Try.prog 5 #[v] w fun r w' => r = .returned (.bool true) ∧ Below w.heap.size w w' := by
  have hC := Lib.hid (fun W (hb : Below w.heap.size w W) => szB_bad W v Y (h.below hb) 1048576 (by omega) (by omega) hm)
  obtain ⟨z, u, rfl, ⟨a, cap, rfl, _⟩, ⟨au, cu, rfl, _⟩⟩ := h
  clear hm
  go_enter Try.func5, Try.ntmps5
  go_wp2_with fail
  refine (hC.out _ (by (repeat (first | exact Below.refl _ _ | assumption | refine bchain (by assumption) ?_ | refine balloc ?_ _ | apply Below.drew | apply below_drewN | (refine Below.alloc ?_ (by (try simp) <;> omega) _) | (refine Below.setCell ?_ (by (try simp) <;> omega) _))))).mono ?_
  rintro r1 w1 ⟨rfl, hb1⟩
  go_wp2
  go_ret
  exact ⟨rfl, by (repeat (first | exact Below.refl _ _ | assumption | refine bchain (by assumption) ?_ | refine balloc ?_ _ | apply Below.drew | apply below_drewN | (refine Below.alloc ?_ (by (try simp) <;> omega) _) | (refine Below.setCell ?_ (by (try simp) <;> omega) _)))⟩
set_option maxHeartbeats 8000000 in
theorem walk_short (v : Value) (Y : BM) (w : World) (h : BkS w v Y) (hbd : BdK Y.ks) (hm : (Y.ks.length : Int) + ((Y.m.length : Int) + (Fr.tot Y.m Y.m.length : Nat)) ≤ 1048576) :
    Calls Try.prog 5 #[v] w fun r w' => r = .returned (.bool true) ∧ Below w.heap.size w w' := by
  obtain ⟨B, hBB⟩ : ∃ B : Bool, (B = true ↔ VB Y) := ⟨@decide (VB Y) (Classical.propDecidable _), by simp⟩
  have hr : ∀ i, i < Y.m.length → (Fr.rAt Y.m i).length ≤ 1048576 := fun i hi => by have := Fr.row_le Y.m hi; omega
  have hC := Lib.hid (fun W (hb : Below w.heap.size w W) => szB_ok W v Y (h.below hb) 1048576 (by omega) (by omega) hm)
  have hT := Lib.hid (fun W (hb : Below w.heap.size w W) => toB_any W v Y (h.below hb) (by omega) (by omega) hr)
  have hs := Lib.hid (fun W z u (hz : SlK W z Y.ks) (hu : Fr.SlM W u Y.m) => svb_any W Y z u hz hu hbd (by omega) (by omega) hr B hBB)
  have hi := Lib.hid (fun W z u (hz : SlK W z Y.ks) (hu : Fr.SlM W u Y.m) => ivb_any W Y z u hz hu hbd (by omega) (by omega) hr B hBB)
  have hE := Lib.hid (fun W z u z' u' (hz : SlK W z Y.ks) (hu : Fr.SlM W u Y.m) (hz' : SlK W z' Y.ks) (hu' : Fr.SlM W u' Y.m) => eqB_any W Y z u z' u' hz hu hz' hu' (by omega) (by omega) hr)
  obtain ⟨ks, m⟩ := Y
  obtain ⟨z, u, rfl, ⟨a, cap, rfl, _⟩, ⟨au, cu, rfl, _⟩⟩ := h
  dsimp only at *
  have hl0 : 0 ≤ 1048576 - (ks.length : Int) - (m.length : Int) - (Fr.tot m m.length : Nat) := by omega
  obtain ⟨q0, hq⟩ : ∃ q0 : Int, 1048576 - (ks.length : Int) - (m.length : Int) - (Fr.tot m m.length : Nat) = q0 := ⟨_, rfl⟩
  rw [hq] at hC hl0
  clear hq hm hBB hbd hr
  obtain ⟨l1, hl1⟩ : ∃ l, ks.length = l := ⟨_, rfl⟩
  obtain ⟨l2, hl2⟩ : ∃ l, m.length = l := ⟨_, rfl⟩
  rw [hl1, hl2] at hC hT ⊢
  replace hl1 := Lib.hid hl1
  replace hl2 := Lib.hid hl2
  obtain ⟨W0, hW0⟩ : ∃ W0, W0 = w.alloc (.cells #[.slice a l1 cap, .slice au l2 cu] 50) := ⟨_, rfl⟩
  have hB0 : Below w.heap.size w W0 := by rw [hW0]; (repeat (first | exact Below.refl _ _ | assumption | refine bchain (by assumption) ?_ | refine balloc ?_ _ | apply Below.drew | apply below_drewN | (refine Below.alloc ?_ (by (try simp) <;> omega) _) | (refine Below.setCell ?_ (by (try simp) <;> omega) _)))
  have k1 : BB W0 w.heap.size (.slice a l1 cap) (.slice au l2 cu) := by rw [hW0]; exact BB.made _ _ _ _
  replace hW0 := Lib.hid hW0
  obtain ⟨_, x0, x1, _⟩ := id k1
  go_enter Try.func5, Try.ntmps5
  go_wp2_with fail
  rw [← hW0.out]
  go_wp2_with fail
  refine (hC.out _ hB0).mono ?_
  rintro r1 w1 ⟨rfl, hb1⟩
  clear x0 x1
  obtain ⟨_, x0, x1, _⟩ := k1.below hb1
  go_wp2_with fail
  refine (hT.out _ (bchain hb1 hB0)).mono ?_
  rintro r3 w3 ⟨⟨z3, u3, rfl, hZ3, hU3, _⟩, hb3⟩
  have D3 : Below W0.heap.size W0 w3 := bchain hb3 hb1
  clear x0 x1
  go_wp2_with fail
  refine (hs.out _ _ _ hZ3 hU3).mono ?_
  rintro r5 w5 ⟨rfl, hb5⟩
  have D5 : Below W0.heap.size W0 w5 := bchain hb5 D3
  clear hb1 hb3 hb5 hU3 hZ3 D3
  obtain ⟨_, x0, x1, _⟩ := k1.below D5
  go_wp2_with fail
  refine (hT.out _ (bchain D5 hB0)).mono ?_
  rintro r6 w6 ⟨⟨z6, u6, rfl, hZ6, hU6, _⟩, hb6⟩
  have D6 : Below W0.heap.size W0 w6 := bchain hb6 D5
  obtain ⟨a6, c6, rfl, _⟩ := id hZ6
  obtain ⟨b6, d6, rfl, _⟩ := id hU6
  rw [hl1.out] at hZ6 ⊢
  rw [hl2.out] at hU6 ⊢
  clear D5 hb6 x0 x1
  obtain ⟨WX, hWX⟩ : ∃ WX, WX = w6.alloc (.cells #[.slice a6 l1 c6, .slice b6 l2 d6] 56) := ⟨_, rfl⟩
  have sX : BB WX w6.heap.size (.slice a6 l1 c6) (.slice b6 l2 d6) := by rw [hWX]; exact BB.made _ _ _ _
  have bX : Below w6.heap.size w6 WX := by rw [hWX]; exact balloc (Below.refl _ _) _
  replace hWX := Lib.hid hWX
  have D6' : Below W0.heap.size W0 WX := bchain bX D6
  have hZ6' := Lib.hid (hZ6.below bX)
  have hU6' := Lib.hid (hU6.below bX)
  have hn6 : w.heap.size ≠ w6.heap.size := by have := k1.lt; have := D6.size; omega
  clear hU6 hZ6
  obtain ⟨_, x0, x1, _⟩ := id sX
  go_wp2_with fail
  rw [← hWX.out]
  go_wp2_with fail
  refine (hi.out _ _ _ hZ6'.out hU6'.out).mono ?_
  rintro r9 w9 ⟨rfl, hb9⟩
  have D9 : Below W0.heap.size W0 w9 := bchain hb9 D6'
  have sX9 := sX.below hb9
  have hZ69 := Lib.hid (hZ6'.out.below hb9)
  have hU69 := Lib.hid (hU6'.out.below hb9)
  clear D6 D6' sX hb9 hU6' hZ6' x0 x1
  have d1 : (B != B) = false := by cases B <;> rfl
  have k1' := Lib.hid (k1.below D9)
  have hBB9 := bchain D9 hB0
  have s1' := Lib.hid sX9
  obtain ⟨_, x0, x1, _⟩ := id sX9
  obtain ⟨_, y0, y1, _⟩ := k1.below D9
  clear sX9
  go_wp2_with fail
  go_region_held3 (fun A => (A.cell? ⟨w.heap.size, 0, none⟩ = some (.slice a l1 cap) ∧ A.cell? ⟨w.heap.size, 1, none⟩ = some (.slice au l2 cu)) ∧ (A.cell? ⟨w6.heap.size, 0, none⟩ = some (.slice a6 l1 c6) ∧ A.cell? ⟨w6.heap.size, 1, none⟩ = some (.slice b6 l2 d6)))
    (exact ⟨⟨(k1'.out.below (by (repeat (first | exact Below.refl _ _ | assumption | refine bchain (by assumption) ?_ | refine balloc ?_ _ | apply Below.drew | apply below_drewN | (refine Below.alloc ?_ (by (try simp) <;> omega) _) | (refine Below.setCell ?_ (by (try simp) <;> omega) _))))).c0, (k1'.out.below (by (repeat (first | exact Below.refl _ _ | assumption | refine bchain (by assumption) ?_ | refine balloc ?_ _ | apply Below.drew | apply below_drewN | (refine Below.alloc ?_ (by (try simp) <;> omega) _) | (refine Below.setCell ?_ (by (try simp) <;> omega) _))))).c1⟩, ⟨(s1'.out.below (by (repeat (first | exact Below.refl _ _ | assumption | refine bchain (by assumption) ?_ | refine balloc ?_ _ | apply Below.drew | apply below_drewN | (refine Below.alloc ?_ (by (try simp) <;> omega) _) | (refine Below.setCell ?_ (by (try simp) <;> omega) _))))).c0, (s1'.out.below (by (repeat (first | exact Below.refl _ _ | assumption | refine bchain (by assumption) ?_ | refine balloc ?_ _ | apply Below.drew | apply below_drewN | (refine Below.alloc ?_ (by (try simp) <;> omega) _) | (refine Below.setCell ?_ (by (try simp) <;> omega) _))))).c1⟩⟩)
    (first
    | (go_at_call 20; refine (hT.out _ (by (repeat (first | exact Below.refl _ _ | assumption | refine bchain (by assumption) ?_ | refine balloc ?_ _ | apply Below.drew | apply below_drewN | (refine Below.alloc ?_ (by (try simp) <;> omega) _) | (refine Below.setCell ?_ (by (try simp) <;> omega) _))))).mono ?_; rintro r10 w10 ⟨⟨z10, u10, rfl, hZ10, hU10, _⟩, hb10⟩)
    | (go_at_call 22; refine (hE.out _ _ _ _ _ (hZ69.out.below (by (repeat (first | exact Below.refl _ _ | assumption | refine bchain (by assumption) ?_ | refine balloc ?_ _ | apply Below.drew | apply below_drewN | (refine Below.alloc ?_ (by (try simp) <;> omega) _) | (refine Below.setCell ?_ (by (try simp) <;> omega) _))))) (hU69.out.below (by (repeat (first | exact Below.refl _ _ | assumption | refine bchain (by assumption) ?_ | refine balloc ?_ _ | apply Below.drew | apply below_drewN | (refine Below.alloc ?_ (by (try simp) <;> omega) _) | (refine Below.setCell ?_ (by (try simp) <;> omega) _))))) hZ10 hU10).mono ?_; rintro r11 w11 ⟨rfl, hb11⟩))
  have D911 : Below w9.heap.size w9 w11 := bchain hb11 (bchain hb10 (Below.refl _ w9).drew)
  have D11 : Below W0.heap.size W0 w11 := bchain D911 D9
  go_wp2
  go_ret
  exact ⟨rfl, bchain D11 hB0⟩
theorem walk (v : Value) (Y : BM) (w : World) (h : BkS w v Y) (hb : BdK Y.ks) :
    Calls Try.prog 5 #[v] w fun r w' => r = .returned (.bool true) ∧ Below w.heap.size w w' := by
  by_cases c : (Y.ks.length : Int) + ((Y.m.length : Int) + (Fr.tot Y.m Y.m.length : Nat)) ≤ 1048576
  · exact walk_short v Y w h hb c
  · exact walk_long v Y w h c
end ValidBlockLaw
theorem ValidBlockLaw.lifted (os : Os) (started : os.Started) (H : Type) (enc : TypeId × Value → H) :
    ReturnsInHanded {} Try.checked os 5 .any (Rows.fnExactValidBlockSpec.pre6 enc Try.prog Try.f5 Rows.fnExactValidBlockRow.domain false)
      (Rows.fnExactValidBlockSpec.post enc Try.prog Try.f5 false true false false) := by
  refine fr_lift (C := Try.checked) own started (by kernel_rfl) Try.func5 laid_out rfl (by kernel_rfl) (tb := 4) rfl Try.underlying4 ?hs
    (ChangeSpec.witness6 (enc := enc) (C := Try.checked) false ⟨#[], #[.agg #[.slice none 0 0, .slice none 0 0]], []⟩ 8 (by kernel_rfl) (by kernel_rfl) (by kernel_rfl) (by kernel_rfl)) ?_
  case hs =>
    intro ds h
    match ds, h with
    | [d0], _ => rfl
  intro W base args ds p hval0 hA0 hlt hsz
  have hval : ∀ (j : Nat) t v, Try.f5.params[j]? = some t → args[j]? = some v → Value.okWide Try.prog W .any base t v := hval0
  have hA : DataW.TrodAll enc Try.prog W 0 (fun _ => true) true Try.f5.params.toList args.toList ds p := hA0
  rw [Try.params5] at hA hval
  obtain ⟨v0, vs0, d0, ds0, p0, q0, hargs, rfl, rfl, h0, r0⟩ := trodAll_cons hA
  obtain ⟨rfl, rfl, rfl⟩ := trodAll_nil r0
  obtain rfl : args = #[v0] := by cases args; simp_all
  obtain ⟨x0, R0⟩ := open_block (hval 0 50 v0 rfl rfl) h0
  exact ValidBlockLaw.walk v0 x0 W R0.1 R0.2

theorem validBlock_holds : Rows.FnExactValidBlockSaid :=
  OpenClaim.holds_of_wide 5 Try.f5 rfl rfl rfl rfl rfl rfl rfl ⟨rfl, rfl, rfl, rfl, rfl⟩ rfl rfl rfl rfl rfl (by kernel_rfl) Try.func5 (by kernel_rfl)
    (of_decide_eq_true (by kernel_rfl)) (by unfold Func.isWrapper; rw [if_neg (of_decide_eq_false (by kernel_rfl))]; exact ⟨rfl, rfl⟩)
    (fun os started H enc _ => ValidBlockLaw.lifted os started H enc)
#print axioms validBlock_holds
end Go.Proofs.Ytfpoekdcedbciaa
