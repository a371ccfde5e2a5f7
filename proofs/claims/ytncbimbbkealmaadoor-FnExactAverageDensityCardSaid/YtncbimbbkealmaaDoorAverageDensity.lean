/-
  PROVED: for every flag and graph, valid or not, AverageDensity of the program answers as the model's does. Conditions: the table of math/bits holds what the library lays there (the card ties it).
-/
import Derived.Test.YtncbimbbkealmaaDoorKOpen
import Derived.Test.YtncbimbbkealmaaDoorAvZ
import Derived.Deep.RegionHeld3
import Derived.Deep.DeepCutAuto
import Derived.Test.YtncbimbbkealmaaDoorTie
import Derived.Test.YtncbimbbkealmaaDoorCards
import Derived.SevenTiedAt
namespace Go.Proofs.YtncbimbbkealmaaDoor
open Go.ChangeShapes Go.WideShapes Go.ChangeAt Go.RowKit
set_option maxRecDepth 100000

namespace AverageDensityLaw
set_option maxHeartbeats 4000000 in
theorem walk (k n e : Int) (_hn : (Lit.int .i64 n).wf = true) (he : (Lit.int .u32 e).wf = true) (m f : Int) (_hm : (Lit.int .i64 m).wf = true) (hf : (Lit.int .u32 f).wf = true) (w : World) (hT : TabZ w) :
    Calls Tryd.prog 5 #[.agg #[.int .i64 k, .int .i64 n, .int .u32 e], .agg #[.int .i64 m, .int .u32 f]] w fun r w' => r = .returned (.bool true) ∧ Below w.heap.size w w' := by
  have bd := bounds_u32 he
  have bf := bounds_u32 hf
  obtain ⟨x, y, c, hs, hi⟩ := adn_both k n e m f (by omega) bd.1 (by omega) bf.1
  have hTw := Lib.hid (fun W (h : Below w.heap.size w W) => hT.below h)
  replace hs := Lib.hid hs
  replace hi := Lib.hid hi
  clear he _hn bd hf _hm bf hT
  go_enter Tryd.func5, Tryd.ntmps5
  go_upto_region 1 with fail
  go_cut [5, 6] (fun s5 s6 wx => ∃ B : Nat, s5 = .pointer (some ⟨B, 0, none⟩) ∧ s6 = .int .i64 c ∧ (wx.cell? ⟨w.heap.size, 0, none⟩ = some (.int .i64 k) ∧ wx.cell? ⟨w.heap.size, 1, none⟩ = some (.int .i64 n) ∧ wx.cell? ⟨w.heap.size, 2, none⟩ = some (.int .u32 e) ∧ wx.cell? ⟨w.heap.size + 1, 0, none⟩ = some (.int .i64 m) ∧ wx.cell? ⟨w.heap.size + 1, 1, none⟩ = some (.int .u32 f) ∧ w.heap.size < wx.heap.size ∧ w.heap.size + 1 < wx.heap.size) ∧ B < wx.heap.size ∧ wx.cell? ⟨B, 0, none⟩ = some (.int .i64 x) ∧ wx.cell? ⟨B, 1, none⟩ = some (.int .i64 y) ∧ Below w.heap.size w wx)
  case first =>
    obtain ⟨wS, hwS⟩ : ∃ wS, wS = ((w.alloc (.cells #[.int .i64 k, .int .i64 n, .int .u32 e] 26)).alloc (.cells #[.int .i64 m, .int .u32 f] 24)) := ⟨_, rfl⟩
    have hS0 : wS.cell? ⟨w.heap.size, 0, none⟩ = some (.int .i64 k) ∧ wS.cell? ⟨w.heap.size, 1, none⟩ = some (.int .i64 n) ∧ wS.cell? ⟨w.heap.size, 2, none⟩ = some (.int .u32 e) ∧ wS.cell? ⟨w.heap.size + 1, 0, none⟩ = some (.int .i64 m) ∧ wS.cell? ⟨w.heap.size + 1, 1, none⟩ = some (.int .u32 f) ∧ w.heap.size < wS.heap.size ∧ w.heap.size + 1 < wS.heap.size := by rw [hwS]; simp [go_sem]
    have hBS : Below w.heap.size w wS := by rw [hwS]; (repeat (first | exact Below.refl _ _ | assumption | refine bchain (by assumption) ?_ | refine balloc ?_ _ | apply Below.drew | apply below_drewN | (refine Below.alloc ?_ (by (try simp) <;> omega) _) | (refine Below.setCell ?_ (by (try simp) <;> omega) _)))
    rw [← hwS]
    clear hwS
    obtain ⟨a0, a1, a2, a3, a4, zl0, zl1⟩ := hS0
    have hA0 : ∀ (c : Array Value) (t : TypeId) (i : Nat), (wS.drew.alloc (.cells c t)).cell? ⟨wS.heap.size, i, none⟩ = c[i]? := fun c t i => World.cell?_alloc_new wS.drew c t i
    have hF0 : ∀ (c : Array Value) (t : TypeId) (i : Nat), (wS.drew.alloc (.cells c t)).frozen? ⟨wS.heap.size, i, none⟩ = false := fun c t i => by
      have := (show ∀ W : World, (W.alloc (.cells c t)).frozen? ⟨W.heap.size, i, none⟩ = false from fun W => by simp) wS.drew
      exact this
    go_region_held3 (fun W => W.cell? ⟨w.heap.size, 0, none⟩ = some (.int .i64 k) ∧ W.cell? ⟨w.heap.size, 1, none⟩ = some (.int .i64 n) ∧ W.cell? ⟨w.heap.size, 2, none⟩ = some (.int .u32 e) ∧ W.cell? ⟨w.heap.size + 1, 0, none⟩ = some (.int .i64 m) ∧ W.cell? ⟨w.heap.size + 1, 1, none⟩ = some (.int .u32 f) ∧ w.heap.size < W.heap.size ∧ w.heap.size + 1 < W.heap.size)
      (exact ⟨old_cell zl0 a0 (by (repeat (first | exact Below.refl _ _ | assumption | refine bchain (by assumption) ?_ | refine balloc ?_ _ | apply Below.drew | apply below_drewN | (refine Below.alloc ?_ (by (try simp) <;> omega) _) | (refine Below.setCell ?_ (by (try simp) <;> omega) _)))), old_cell zl0 a1 (by (repeat (first | exact Below.refl _ _ | assumption | refine bchain (by assumption) ?_ | refine balloc ?_ _ | apply Below.drew | apply below_drewN | (refine Below.alloc ?_ (by (try simp) <;> omega) _) | (refine Below.setCell ?_ (by (try simp) <;> omega) _)))), old_cell zl0 a2 (by (repeat (first | exact Below.refl _ _ | assumption | refine bchain (by assumption) ?_ | refine balloc ?_ _ | apply Below.drew | apply below_drewN | (refine Below.alloc ?_ (by (try simp) <;> omega) _) | (refine Below.setCell ?_ (by (try simp) <;> omega) _)))), old_cell zl1 a3 (by (repeat (first | exact Below.refl _ _ | assumption | refine bchain (by assumption) ?_ | refine balloc ?_ _ | apply Below.drew | apply below_drewN | (refine Below.alloc ?_ (by (try simp) <;> omega) _) | (refine Below.setCell ?_ (by (try simp) <;> omega) _)))), old_cell zl1 a4 (by (repeat (first | exact Below.refl _ _ | assumption | refine bchain (by assumption) ?_ | refine balloc ?_ _ | apply Below.drew | apply below_drewN | (refine Below.alloc ?_ (by (try simp) <;> omega) _) | (refine Below.setCell ?_ (by (try simp) <;> omega) _)))), Nat.lt_of_lt_of_le zl0 (Below.size (B := wS.heap.size) (by (repeat (first | exact Below.refl _ _ | assumption | refine bchain (by assumption) ?_ | refine balloc ?_ _ | apply Below.drew | apply below_drewN | (refine Below.alloc ?_ (by (try simp) <;> omega) _) | (refine Below.setCell ?_ (by (try simp) <;> omega) _))))), Nat.lt_of_lt_of_le zl1 (Below.size (B := wS.heap.size) (by (repeat (first | exact Below.refl _ _ | assumption | refine bchain (by assumption) ?_ | refine balloc ?_ _ | apply Below.drew | apply below_drewN | (refine Below.alloc ?_ (by (try simp) <;> omega) _) | (refine Below.setCell ?_ (by (try simp) <;> omega) _)))))⟩)
      (first | (go_at_call 9; refine (toFlag_any _ _ _ _).mono ?_; rintro r1 w1 ⟨rfl, hb1⟩; have hk1 := keepAll hb1; have hf1 := keepFz hb1; have hz1 := keepLt hb1; have hs1 := hb1.size; try (simp at hs1); try (rw [Nat.add_one_le_iff] at hs1)) | (go_at_call 15; refine (toGraph_any _ _ _).mono ?_; rintro r5 w5 ⟨rfl, hb5⟩; have hk5 := keepAll hb5; have hf5 := keepFz hb5; have hz5 := keepLt hb5; have hs5 := hb5.size; try (simp at hs5); try (rw [Nat.add_one_le_iff] at hs5)) | (go_at_call 14; refine (hs.out _).mono ?_; rintro r2 w2 ⟨rfl, hb2⟩; have hk2 := keepAll hb2; have hf2 := keepFz hb2; have hz2 := keepLt hb2; have hs2 := hb2.size; try (simp at hs2); try (rw [Nat.add_one_le_iff] at hs2)))
    all_goals (go_wp2_with fail; go_meet; exact ⟨_, rfl, rfl, by assumption, by (try simp) <;> omega, by first | (simp; done) | exact (Fr.twoCells (a := .int .i64 0) (b := .int .i64 0) (by simp [*]) (by simp [*]) _ _).1, by first | (simp; done) | exact (Fr.twoCells (a := .int .i64 0) (b := .int .i64 0) (by simp [*]) (by simp [*]) _ _).2, by (repeat (first | exact Below.refl _ _ | assumption | refine bchain (by assumption) ?_ | refine balloc ?_ _ | apply Below.drew | apply below_drewN | (refine Below.alloc ?_ (by (try simp) <;> omega) _) | (refine Below.setCell ?_ (by (try simp) <;> omega) _)))⟩)
  case rest =>
    obtain ⟨B, rfl, rfl, hS0, hBl, q0, q1, hBS⟩ := hcut
    go_upto_region 2 with fail
    go_cut [7, 8] (fun s7 s8 wy => ∃ C : Nat, s7 = .pointer (some ⟨C, 0, none⟩) ∧ s8 = .int .i64 c ∧ B < wy.heap.size ∧ wy.cell? ⟨B, 0, none⟩ = some (.int .i64 x) ∧ wy.cell? ⟨B, 1, none⟩ = some (.int .i64 y) ∧ wy.cell? ⟨C, 0, none⟩ = some (.int .i64 x) ∧ wy.cell? ⟨C, 1, none⟩ = some (.int .i64 y) ∧ Below w.heap.size w wy)
    case first =>
      obtain ⟨wS, hwS⟩ : ∃ wS, wS = wc := ⟨_, rfl⟩
      rw [← hwS] at hS0 hBl q0 q1 hBS ⊢
      clear hwS
      obtain ⟨a0, a1, a2, a3, a4, zl0, zl1⟩ := hS0
      have hA0 : ∀ (c : Array Value) (t : TypeId) (i : Nat), (wS.drew.alloc (.cells c t)).cell? ⟨wS.heap.size, i, none⟩ = c[i]? := fun c t i => World.cell?_alloc_new wS.drew c t i
      have hF0 : ∀ (c : Array Value) (t : TypeId) (i : Nat), (wS.drew.alloc (.cells c t)).frozen? ⟨wS.heap.size, i, none⟩ = false := fun c t i => by
        have := (show ∀ W : World, (W.alloc (.cells c t)).frozen? ⟨W.heap.size, i, none⟩ = false from fun W => by simp) wS.drew
        exact this
      replace q0 := Lib.hid q0
      replace q1 := Lib.hid q1
      go_region_held3 (fun W => W.cell? ⟨w.heap.size, 0, none⟩ = some (.int .i64 k) ∧ W.cell? ⟨w.heap.size, 1, none⟩ = some (.int .i64 n) ∧ W.cell? ⟨w.heap.size, 2, none⟩ = some (.int .u32 e) ∧ W.cell? ⟨w.heap.size + 1, 0, none⟩ = some (.int .i64 m) ∧ W.cell? ⟨w.heap.size + 1, 1, none⟩ = some (.int .u32 f) ∧ w.heap.size < W.heap.size ∧ w.heap.size + 1 < W.heap.size)
        (exact ⟨old_cell zl0 a0 (by (repeat (first | exact Below.refl _ _ | assumption | refine bchain (by assumption) ?_ | refine balloc ?_ _ | apply Below.drew | apply below_drewN | (refine Below.alloc ?_ (by (try simp) <;> omega) _) | (refine Below.setCell ?_ (by (try simp) <;> omega) _)))), old_cell zl0 a1 (by (repeat (first | exact Below.refl _ _ | assumption | refine bchain (by assumption) ?_ | refine balloc ?_ _ | apply Below.drew | apply below_drewN | (refine Below.alloc ?_ (by (try simp) <;> omega) _) | (refine Below.setCell ?_ (by (try simp) <;> omega) _)))), old_cell zl0 a2 (by (repeat (first | exact Below.refl _ _ | assumption | refine bchain (by assumption) ?_ | refine balloc ?_ _ | apply Below.drew | apply below_drewN | (refine Below.alloc ?_ (by (try simp) <;> omega) _) | (refine Below.setCell ?_ (by (try simp) <;> omega) _)))), old_cell zl1 a3 (by (repeat (first | exact Below.refl _ _ | assumption | refine bchain (by assumption) ?_ | refine balloc ?_ _ | apply Below.drew | apply below_drewN | (refine Below.alloc ?_ (by (try simp) <;> omega) _) | (refine Below.setCell ?_ (by (try simp) <;> omega) _)))), old_cell zl1 a4 (by (repeat (first | exact Below.refl _ _ | assumption | refine bchain (by assumption) ?_ | refine balloc ?_ _ | apply Below.drew | apply below_drewN | (refine Below.alloc ?_ (by (try simp) <;> omega) _) | (refine Below.setCell ?_ (by (try simp) <;> omega) _)))), Nat.lt_of_lt_of_le zl0 (Below.size (B := wS.heap.size) (by (repeat (first | exact Below.refl _ _ | assumption | refine bchain (by assumption) ?_ | refine balloc ?_ _ | apply Below.drew | apply below_drewN | (refine Below.alloc ?_ (by (try simp) <;> omega) _) | (refine Below.setCell ?_ (by (try simp) <;> omega) _))))), Nat.lt_of_lt_of_le zl1 (Below.size (B := wS.heap.size) (by (repeat (first | exact Below.refl _ _ | assumption | refine bchain (by assumption) ?_ | refine balloc ?_ _ | apply Below.drew | apply below_drewN | (refine Below.alloc ?_ (by (try simp) <;> omega) _) | (refine Below.setCell ?_ (by (try simp) <;> omega) _)))))⟩)
        (first | (go_at_call 9; refine (toFlag_any _ _ _ _).mono ?_; rintro r1 w1 ⟨rfl, hb1⟩; have hk1 := keepAll hb1; have hf1 := keepFz hb1; have hz1 := keepLt hb1; have hs1 := hb1.size; try (simp at hs1); try (rw [Nat.add_one_le_iff] at hs1)) | (go_at_call 15; refine (toGraph_any _ _ _).mono ?_; rintro r5 w5 ⟨rfl, hb5⟩; have hk5 := keepAll hb5; have hf5 := keepFz hb5; have hz5 := keepLt hb5; have hs5 := hb5.size; try (simp at hs5); try (rw [Nat.add_one_le_iff] at hs5)) | (go_at_call 16; refine (hi.out _ (hTw.out _ (by (repeat (first | exact Below.refl _ _ | assumption | refine bchain (by assumption) ?_ | refine balloc ?_ _ | apply Below.drew | apply below_drewN | (refine Below.alloc ?_ (by (try simp) <;> omega) _) | (refine Below.setCell ?_ (by (try simp) <;> omega) _)))))).mono ?_; rintro r2 w2 ⟨rfl, hb2⟩; have hk2 := keepAll hb2; have hf2 := keepFz hb2; have hz2 := keepLt hb2; have hs2 := hb2.size; try (simp at hs2); try (rw [Nat.add_one_le_iff] at hs2)))
      all_goals (go_wp2_with fail; go_meet; exact ⟨_, rfl, rfl, Nat.lt_of_lt_of_le hBl (Below.size (B := wS.heap.size) (by (repeat (first | exact Below.refl _ _ | assumption | refine bchain (by assumption) ?_ | refine balloc ?_ _ | apply Below.drew | apply below_drewN | (refine Below.alloc ?_ (by (try simp) <;> omega) _) | (refine Below.setCell ?_ (by (try simp) <;> omega) _))))), old_cell hBl q0.out (by (repeat (first | exact Below.refl _ _ | assumption | refine bchain (by assumption) ?_ | refine balloc ?_ _ | apply Below.drew | apply below_drewN | (refine Below.alloc ?_ (by (try simp) <;> omega) _) | (refine Below.setCell ?_ (by (try simp) <;> omega) _)))), old_cell hBl q1.out (by (repeat (first | exact Below.refl _ _ | assumption | refine bchain (by assumption) ?_ | refine balloc ?_ _ | apply Below.drew | apply below_drewN | (refine Below.alloc ?_ (by (try simp) <;> omega) _) | (refine Below.setCell ?_ (by (try simp) <;> omega) _)))), by first | (simp; done) | exact (Fr.twoCells (a := .int .i64 0) (b := .int .i64 0) (by simp [*]) (by simp [*]) _ _).1, by first | (simp; done) | exact (Fr.twoCells (a := .int .i64 0) (b := .int .i64 0) (by simp [*]) (by simp [*]) _ _).2, by (repeat (first | exact Below.refl _ _ | assumption | refine bchain (by assumption) ?_ | refine balloc ?_ _ | apply Below.drew | apply below_drewN | (refine Below.alloc ?_ (by (try simp) <;> omega) _) | (refine Below.setCell ?_ (by (try simp) <;> omega) _)))⟩)
    case rest =>
      obtain ⟨C, rfl, rfl, hBl2, p0, p1, r0, r1, h9⟩ := hcut
      clear hS0 q0 q1
      go_wp2_with (go_at_call 11; refine (Fr.eqF_any _ _ _).mono ?_; rintro r3 w3 ⟨rfl, hb3⟩)
      go_ret
      exact ⟨rfl, by (repeat (first | exact Below.refl _ _ | assumption | refine bchain (by assumption) ?_ | refine balloc ?_ _ | apply Below.drew | apply below_drewN | (refine Below.alloc ?_ (by (try simp) <;> omega) _) | (refine Below.setCell ?_ (by (try simp) <;> omega) _)))⟩
end AverageDensityLaw
theorem AverageDensityLaw.lifted (os : Os) (started : os.Started) (H : Type) (enc : TypeId × Value → H) :
    ReturnsInHanded {} Tryd.checked os 5 .any (fun w args => (Rows.fnExactAverageDensitySpec.pre enc Tryd.prog Tryd.f5 [] false w args ∧ laidMetH Tryd.prog Rows.fnExactAverageDensityRow.laid w) ∧ sizedMet enc Tryd.prog Tryd.f5 (OpenSpec.ofChange Rows.fnExactAverageDensitySpec) false w args)
      (Rows.fnExactAverageDensitySpec.post enc Tryd.prog Tryd.f5 false true false false) := by
  refine fr_liftC (C := Tryd.checked) (laid := Rows.fnExactAverageDensityRow.laid) own started (by kernel_rfl) Tryd.func5 laid_out (by kernel_rfl) (by kernel_rfl) (tb := 4) rfl Tryd.underlying4 ?hs
    (ChangeSpec.witness_shaped (enc := enc) (C := Tryd.checked) (os := os) (X := fun w _ => laidMetH Tryd.prog Rows.fnExactAverageDensityRow.laid w) false (World.doorLaid Tryd.prog 400 os) #[.agg #[.int .i64 0, .int .i64 0, .int .u32 0], .agg #[.int .i64 0, .int .u32 0]] 8 rfl
      (World.shaped_of_RefB (by kernel_rfl) (by kernel_rfl)) (by kernel_rfl) (by kernel_rfl) (by kernel_rfl) (laidMetH_of_parts3 (fuel := 8) (laidMet_of_run' 8 (by kernel_rfl) (by kernel_rfl)) (by kernel_rfl) (by kernel_rfl))) ?_
  case hs =>
    intro ds gs h h2
    match ds, h, gs, h2 with
    | [d0, d1], _, [], _ => rfl
  intro W base args ds gs p hval0 hA0 hlt hsz hL0
  have hL : laidMet Tryd.prog Rows.fnExactAverageDensityRow.laid W := by rw [← MakeChecks.laidMetH_plain _ _ _ (by kernel_rfl)]; exact hL0
  have hval : ∀ (j : Nat) t v, Tryd.f5.params[j]? = some t → args[j]? = some v → Value.okWide Tryd.prog W .any base t v := hval0
  have hA : DataW.TrodAll enc Tryd.prog W 0 (fun _ => true) true Tryd.f5.params.toList args.toList ds p := hA0
  rw [Tryd.params5] at hA hval
  obtain ⟨v0, vs0, d0, ds0, p0, q0, hargs, rfl, rfl, h0, r0⟩ := trodAll_cons hA
  obtain ⟨v1, vs1, d1, ds1, p1, q1, rfl, rfl, rfl, h1, r1⟩ := trodAll_cons r0
  obtain ⟨rfl, rfl, rfl⟩ := trodAll_nil r1
  obtain rfl : args = #[v0, v1] := by cases args; simp_all
  obtain ⟨k0, a0, b0, rfl, l0, w0, u0⟩ := open_lflag (hval 0 26 v0 rfl rfl) h0
  obtain ⟨a1, b1, rfl, w1, u1⟩ := open_lgraph (hval 1 24 v1 rfl rfl) h1
  exact AverageDensityLaw.walk k0 a0 b0 w0 u0 a1 b1 w1 u1 W (tabZ_of_laid hL)

theorem averageDensity_holds_row : Rows.FnExactAverageDensitySaid :=
  OpenClaim.holds_of_wide 5 Tryd.f5 rfl rfl rfl rfl rfl rfl rfl ⟨rfl, rfl, rfl, rfl, rfl⟩ rfl rfl rfl rfl rfl (by kernel_rfl) Tryd.func5 (by kernel_rfl)
    (of_decide_eq_true (by kernel_rfl)) (by unfold Func.isWrapper; rw [if_neg (of_decide_eq_false (by kernel_rfl))]; exact ⟨rfl, rfl⟩)
    (fun os started H enc _ => AverageDensityLaw.lifted os started H enc)
theorem averageDensity_holds : Rows.FnExactAverageDensityCardSaid :=
  Claim7.holds_tied_plain_at .later [] Rows.fnExactAverageDensityCard.laidKinds true Rows.fnExactAverageDensityCard.stood.harness Rows.fnExactAverageDensityCard.stood.looks averageDensity_holds_row (fun _ h => by cases h) (by kernel_rfl) (fun _ h => by cases h) fnExactAverageDensity_row_tie rfl ⟨rfl, rfl⟩ (by kernel_rfl) rfl
    (fun f fn hf hfn => by
      obtain rfl : f = 5 := Option.some.inj ((show Tryd.prog.funcNamed "loop.example/g01169/laws.FnExactAverageDensity" = some 5 by kernel_rfl).symm.trans hf) |>.symm
      obtain rfl : fn = Tryd.f5 := (Option.some.inj (Tryd.func5.symm.trans hfn)).symm
      exact ⟨by kernel_rfl, fun j t ht => by
        rw [Tryd.params5] at ht
        have hm : t ∈ [26, 24] := by simpa using Array.mem_of_getElem? ht
        have hall : ([26, 24].all fun u => !Tryd.prog.wantsStandIn u) = true := by kernel_rfl
        exact (show Tryd.prog.wantsStandIn t = false by simpa using List.all_eq_true.1 hall t hm)⟩)
    (by kernel_rfl)
#print axioms averageDensity_holds
end Go.Proofs.YtncbimbbkealmaaDoor
