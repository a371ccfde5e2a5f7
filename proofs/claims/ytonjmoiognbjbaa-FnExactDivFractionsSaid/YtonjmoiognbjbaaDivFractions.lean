/-
  PROVED: for every two fractions, valid or not, DivFractions of the program answers as the model's does. Conditions: none.
-/
import Derived.Test.YtonjmoiognbjbaaFOpen
import Derived.Test.YtonjmoiognbjbaaFEq
import Derived.Test.YtonjmoiognbjbaaFDiv
import Derived.Deep.RegionHeld3
import Derived.Deep.DeepCutAuto
namespace Go.Proofs.Ytonjmoiognbjbaa
open Go.ChangeShapes Go.WideShapes Go.ChangeAt Go.RowKit
set_option maxRecDepth 100000

namespace DivFractionsLaw
set_option maxHeartbeats 2000000 in
theorem walk (a1 a2 : Int) (_h1 : (Lit.int .i64 a1).wf = true) (_h2 : (Lit.int .i64 a2).wf = true) (b1 b2 : Int) (_h3 : (Lit.int .i64 b1).wf = true) (_h4 : (Lit.int .i64 b2).wf = true) (w : World) :
    Calls Try.prog 8 #[.agg #[.int .i64 a1, .int .i64 a2], .agg #[.int .i64 b1, .int .i64 b2]] w fun r w' => r = .returned (.bool true) ∧ Below w.heap.size w w' := by
  obtain ⟨x, y, c, hs, hi⟩ := Div_both (a1, a2) (b1, b2)
  unfold fv at hs hi
  dsimp only at hs hi
  replace hs := Lib.hid hs
  replace hi := Lib.hid hi
  clear _h1 _h2 _h3 _h4
  go_enter Try.func8, Try.ntmps8
  go_upto_region 1 with fail
  go_cut [5, 6] (fun s5 s6 wx => ∃ B : Nat, s5 = .pointer (some ⟨B, 0, none⟩) ∧ s6 = .int .i64 c ∧ (wx.cell? ⟨w.heap.size, 0, none⟩ = some (.int .i64 a1) ∧ wx.cell? ⟨w.heap.size, 1, none⟩ = some (.int .i64 a2) ∧ wx.cell? ⟨w.heap.size + 1, 0, none⟩ = some (.int .i64 b1) ∧ wx.cell? ⟨w.heap.size + 1, 1, none⟩ = some (.int .i64 b2) ∧ w.heap.size < wx.heap.size ∧ w.heap.size + 1 < wx.heap.size) ∧ B < wx.heap.size ∧ wx.cell? ⟨B, 0, none⟩ = some (.int .i64 x) ∧ wx.cell? ⟨B, 1, none⟩ = some (.int .i64 y) ∧ Below w.heap.size w wx)
  case first =>
    obtain ⟨wS, hwS⟩ : ∃ wS, wS = ((w.alloc (.cells #[.int .i64 a1, .int .i64 a2] 28)).alloc (.cells #[.int .i64 b1, .int .i64 b2] 28)) := ⟨_, rfl⟩
    have hS0 : wS.cell? ⟨w.heap.size, 0, none⟩ = some (.int .i64 a1) ∧ wS.cell? ⟨w.heap.size, 1, none⟩ = some (.int .i64 a2) ∧ wS.cell? ⟨w.heap.size + 1, 0, none⟩ = some (.int .i64 b1) ∧ wS.cell? ⟨w.heap.size + 1, 1, none⟩ = some (.int .i64 b2) ∧ w.heap.size < wS.heap.size ∧ w.heap.size + 1 < wS.heap.size := by rw [hwS]; simp [go_sem]
    have hBS : Below w.heap.size w wS := by rw [hwS]; (repeat (first | exact Below.refl _ _ | assumption | refine bchain (by assumption) ?_ | refine balloc ?_ _ | apply Below.drew | apply below_drewN | (refine Below.alloc ?_ (by (try simp) <;> omega) _) | (refine Below.setCell ?_ (by (try simp) <;> omega) _)))
    rw [← hwS]
    clear hwS
    have hA0 : ∀ (c : Array Value) (t : TypeId) (i : Nat), (wS.drew.alloc (.cells c t)).cell? ⟨wS.heap.size, i, none⟩ = c[i]? := fun c t i => World.cell?_alloc_new wS.drew c t i
    have hF0 : ∀ (c : Array Value) (t : TypeId) (i : Nat), (wS.drew.alloc (.cells c t)).frozen? ⟨wS.heap.size, i, none⟩ = false := fun c t i => by
      have := (show ∀ W : World, (W.alloc (.cells c t)).frozen? ⟨W.heap.size, i, none⟩ = false from fun W => by simp) wS.drew
      exact this
    go_region_held3 (fun W => W.cell? ⟨w.heap.size, 0, none⟩ = some (.int .i64 a1) ∧ W.cell? ⟨w.heap.size, 1, none⟩ = some (.int .i64 a2) ∧ W.cell? ⟨w.heap.size + 1, 0, none⟩ = some (.int .i64 b1) ∧ W.cell? ⟨w.heap.size + 1, 1, none⟩ = some (.int .i64 b2) ∧ w.heap.size < W.heap.size ∧ w.heap.size + 1 < W.heap.size)
      (exact boxes_keep hS0 (by (repeat (first | exact Below.refl _ _ | assumption | refine bchain (by assumption) ?_ | refine balloc ?_ _ | apply Below.drew | apply below_drewN | (refine Below.alloc ?_ (by (try simp) <;> omega) _) | (refine Below.setCell ?_ (by (try simp) <;> omega) _)))))
      (first | (go_at_call 14; refine (toF_any _ _ _).mono ?_; rintro r1 w1 ⟨rfl, hb1⟩; have hk1 := keepAll hb1; have hf1 := keepFz hb1; have hz1 := keepLt hb1; have hs1 := hb1.size; try (simp at hs1); try (rw [Nat.add_one_le_iff] at hs1)) | (go_at_call 22; refine (hs.out _).mono ?_; rintro r2 w2 ⟨rfl, hb2⟩; have hk2 := keepAll hb2; have hf2 := keepFz hb2; have hz2 := keepLt hb2; have hs2 := hb2.size; try (simp at hs2); try (rw [Nat.add_one_le_iff] at hs2)))
    all_goals (go_wp2_with fail; go_meet; exact ⟨_, rfl, rfl, by assumption, by (try simp) <;> omega, by first | (simp; done) | exact (twoCells (a := .int .i64 0) (b := .int .i64 0) (by simp [*]) (by simp [*]) _ _).1, by first | (simp; done) | exact (twoCells (a := .int .i64 0) (b := .int .i64 0) (by simp [*]) (by simp [*]) _ _).2, by (repeat (first | exact Below.refl _ _ | assumption | refine bchain (by assumption) ?_ | refine balloc ?_ _ | apply Below.drew | apply below_drewN | (refine Below.alloc ?_ (by (try simp) <;> omega) _) | (refine Below.setCell ?_ (by (try simp) <;> omega) _)))⟩)
  case rest =>
    obtain ⟨B, rfl, rfl, hS0, hBl, q0, q1, hBS⟩ := hcut
    go_upto_region 2 with fail
    go_cut [7, 8] (fun s7 s8 wy => ∃ C : Nat, s7 = .pointer (some ⟨C, 0, none⟩) ∧ s8 = .int .i64 c ∧ B < wy.heap.size ∧ wy.cell? ⟨B, 0, none⟩ = some (.int .i64 x) ∧ wy.cell? ⟨B, 1, none⟩ = some (.int .i64 y) ∧ wy.cell? ⟨C, 0, none⟩ = some (.int .i64 x) ∧ wy.cell? ⟨C, 1, none⟩ = some (.int .i64 y) ∧ Below w.heap.size w wy)
    case first =>
      obtain ⟨wS, hwS⟩ : ∃ wS, wS = wc := ⟨_, rfl⟩
      rw [← hwS] at hS0 hBl q0 q1 hBS ⊢
      clear hwS
      have hA0 : ∀ (c : Array Value) (t : TypeId) (i : Nat), (wS.drew.alloc (.cells c t)).cell? ⟨wS.heap.size, i, none⟩ = c[i]? := fun c t i => World.cell?_alloc_new wS.drew c t i
      have hF0 : ∀ (c : Array Value) (t : TypeId) (i : Nat), (wS.drew.alloc (.cells c t)).frozen? ⟨wS.heap.size, i, none⟩ = false := fun c t i => by
        have := (show ∀ W : World, (W.alloc (.cells c t)).frozen? ⟨W.heap.size, i, none⟩ = false from fun W => by simp) wS.drew
        exact this
      replace q0 := Lib.hid q0
      replace q1 := Lib.hid q1
      go_region_held3 (fun W => W.cell? ⟨w.heap.size, 0, none⟩ = some (.int .i64 a1) ∧ W.cell? ⟨w.heap.size, 1, none⟩ = some (.int .i64 a2) ∧ W.cell? ⟨w.heap.size + 1, 0, none⟩ = some (.int .i64 b1) ∧ W.cell? ⟨w.heap.size + 1, 1, none⟩ = some (.int .i64 b2) ∧ w.heap.size < W.heap.size ∧ w.heap.size + 1 < W.heap.size)
        (exact boxes_keep hS0 (by (repeat (first | exact Below.refl _ _ | assumption | refine bchain (by assumption) ?_ | refine balloc ?_ _ | apply Below.drew | apply below_drewN | (refine Below.alloc ?_ (by (try simp) <;> omega) _) | (refine Below.setCell ?_ (by (try simp) <;> omega) _)))))
        (first | (go_at_call 14; refine (toF_any _ _ _).mono ?_; rintro r1 w1 ⟨rfl, hb1⟩; have hk1 := keepAll hb1; have hf1 := keepFz hb1; have hz1 := keepLt hb1; have hs1 := hb1.size; try (simp at hs1); try (rw [Nat.add_one_le_iff] at hs1)) | (go_at_call 23; refine (hi.out _).mono ?_; rintro r2 w2 ⟨rfl, hb2⟩; have hk2 := keepAll hb2; have hf2 := keepFz hb2; have hz2 := keepLt hb2; have hs2 := hb2.size; try (simp at hs2); try (rw [Nat.add_one_le_iff] at hs2)))
      all_goals (go_wp2_with fail; go_meet; exact ⟨_, rfl, rfl, old_lt hBl (by (repeat (first | exact Below.refl _ _ | assumption | refine bchain (by assumption) ?_ | refine balloc ?_ _ | apply Below.drew | apply below_drewN | (refine Below.alloc ?_ (by (try simp) <;> omega) _) | (refine Below.setCell ?_ (by (try simp) <;> omega) _)))), old_cell hBl q0.out (by (repeat (first | exact Below.refl _ _ | assumption | refine bchain (by assumption) ?_ | refine balloc ?_ _ | apply Below.drew | apply below_drewN | (refine Below.alloc ?_ (by (try simp) <;> omega) _) | (refine Below.setCell ?_ (by (try simp) <;> omega) _)))), old_cell hBl q1.out (by (repeat (first | exact Below.refl _ _ | assumption | refine bchain (by assumption) ?_ | refine balloc ?_ _ | apply Below.drew | apply below_drewN | (refine Below.alloc ?_ (by (try simp) <;> omega) _) | (refine Below.setCell ?_ (by (try simp) <;> omega) _)))), by first | (simp; done) | exact (twoCells (a := .int .i64 0) (b := .int .i64 0) (by simp [*]) (by simp [*]) _ _).1, by first | (simp; done) | exact (twoCells (a := .int .i64 0) (b := .int .i64 0) (by simp [*]) (by simp [*]) _ _).2, by (repeat (first | exact Below.refl _ _ | assumption | refine bchain (by assumption) ?_ | refine balloc ?_ _ | apply Below.drew | apply below_drewN | (refine Below.alloc ?_ (by (try simp) <;> omega) _) | (refine Below.setCell ?_ (by (try simp) <;> omega) _)))⟩)
    case rest =>
      obtain ⟨C, rfl, rfl, hBl2, p0, p1, r0, r1, h9⟩ := hcut
      clear hS0 q0 q1
      go_wp2_with (go_at_call 12; refine (eqF_any _ _ _).mono ?_; rintro r3 w3 ⟨rfl, hb3⟩)
      go_ret
      exact ⟨rfl, by (repeat (first | exact Below.refl _ _ | assumption | refine bchain (by assumption) ?_ | refine balloc ?_ _ | apply Below.drew | apply below_drewN | (refine Below.alloc ?_ (by (try simp) <;> omega) _) | (refine Below.setCell ?_ (by (try simp) <;> omega) _)))⟩
end DivFractionsLaw
theorem DivFractionsLaw.lifted (os : Os) (started : os.Started) (H : Type) (enc : TypeId × Value → H) :
    ReturnsInHanded {} Try.checked os 8 .any (Rows.fnExactDivFractionsSpec.pre6 enc Try.prog Try.f8 Rows.fnExactDivFractionsRow.domain false)
      (Rows.fnExactDivFractionsSpec.post enc Try.prog Try.f8 false true false false) := by
  refine fr_lift (C := Try.checked) own started (by kernel_rfl) Try.func8 laid_out rfl (by kernel_rfl) (tb := 4) rfl Try.underlying4 ?hs
    (ChangeSpec.witness6 (enc := enc) (C := Try.checked) false ⟨#[], #[.agg #[.int .i64 0, .int .i64 0], .agg #[.int .i64 0, .int .i64 0]], []⟩ 8 (by kernel_rfl) (by kernel_rfl) (by kernel_rfl) (by kernel_rfl)) ?_
  case hs =>
    intro ds h
    match ds, h with
    | [d0, d1], _ => rfl
  intro W base args ds p hval0 hA0 hlt hsz
  have hval : ∀ (j : Nat) t v, Try.f8.params[j]? = some t → args[j]? = some v → Value.okWide Try.prog W .any base t v := hval0
  have hA : DataW.TrodAll enc Try.prog W 0 (fun _ => true) true Try.f8.params.toList args.toList ds p := hA0
  rw [Try.params8] at hA hval
  obtain ⟨v0, vs0, d0, ds0, p0, q0, hargs, rfl, rfl, h0, r0⟩ := trodAll_cons hA
  obtain ⟨v1, vs1, d1, ds1, p1, q1, rfl, rfl, rfl, h1, r1⟩ := trodAll_cons r0
  obtain ⟨rfl, rfl, rfl⟩ := trodAll_nil r1
  obtain rfl : args = #[v0, v1] := by cases args; simp_all
  obtain ⟨a0, b0, rfl, w0, u0⟩ := open_frac (hval 0 28 v0 rfl rfl) h0
  obtain ⟨a1, b1, rfl, w1, u1⟩ := open_frac (hval 1 28 v1 rfl rfl) h1
  exact DivFractionsLaw.walk a0 b0 w0 u0 a1 b1 w1 u1 W

theorem divFractions_holds : Rows.FnExactDivFractionsSaid :=
  OpenClaim.holds_of_wide 8 Try.f8 rfl rfl rfl rfl rfl rfl rfl ⟨rfl, rfl, rfl, rfl, rfl⟩ rfl rfl rfl rfl rfl (by kernel_rfl) Try.func8 (by kernel_rfl)
    (of_decide_eq_true (by kernel_rfl)) (by unfold Func.isWrapper; rw [if_neg (of_decide_eq_false (by kernel_rfl))]; exact ⟨rfl, rfl⟩)
    (fun os started H enc _ => DivFractionsLaw.lifted os started H enc)
#print axioms divFractions_holds
end Go.Proofs.Ytonjmoiognbjbaa
