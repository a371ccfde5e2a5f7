/-
  PROVED: for every list of flags and every graph, valid or not, PairAverages of the program answers as the model's does, its list is left as it was, and its result owns its memory. Conditions: the table of math/bits holds what the library lays there (the card ties it).
-/
import Derived.Test.YtncbimbbkealmaaGreatDoorOpKw
import Derived.Test.YtncbimbbkealmaaGreatDoorKMw
import Derived.Test.YtncbimbbkealmaaGreatDoorPaM
import Derived.Deep.RegionHeld3
import Derived.Deep.DeepCutAuto
import Derived.Test.YtncbimbbkealmaaGreatDoorTie
import Derived.Test.YtncbimbbkealmaaGreatDoorCards
import Derived.SevenTiedAt
namespace Go.Proofs.YtncbimbbkealmaaGreatDoor
open Go.ChangeShapes Go.WideShapes Go.ChangeAt Go.RowKit
set_option maxRecDepth 100000

theorem Fr.MR.chg {b0 : Nat} {w w' : World} {u : Value} {n : Nat} {f : Nat → Int} {Own : Nat → Prop} (h : Fr.MR b0 w u n f) (hc : Chg Own w w') (ho : ∀ b, Own b → b < b0) : Fr.MR b0 w' u n f := by
  rcases h with h | ⟨A, B, e, h8, h1, h2, h3, h4, h5, h6, h7⟩
  · exact .inl h
  · have sA := hc.same A h3 (fun c => by have := ho A c; omega)
    have sB := hc.same B h4 (fun c => by have := ho B c; omega)
    exact .inr ⟨A, B, e, h8, h1, h2, Nat.lt_of_lt_of_le h3 hc.size, Nat.lt_of_lt_of_le h4 hc.size, fun i hi => (World.cell?_of_block (a := ⟨B, i, none⟩) sB).trans (h5 i hi), fun c => (World.frozen?_of_block (a := ⟨B, c, none⟩) sB).trans (h6 c), fun i hi => (World.cell?_of_block (a := ⟨A, i, none⟩) sA).trans (h7 i hi)⟩
namespace PairAveragesLaw
theorem walk_long (v : Value) (gs : List (Int × Int × Int)) (n e : Int) (w : World) (hS : SlK w v gs) (hm : 1048576 < gs.length) :
    Calls Tryz.prog 3 #[v, .agg #[.int .i64 n, .int .u32 e]] w fun r w' => r = .returned (.bool true) ∧ Below w.heap.size w w' := by
  obtain ⟨a, cap, rfl, h1, h2, _⟩ := hS
  have hC := Lib.hid (fun W => szk_long W a gs.length cap hm (by omega))
  obtain ⟨l, hl⟩ : ∃ l, gs.length = l := ⟨_, rfl⟩
  rw [hl] at hC ⊢
  clear hl h1 h2 hm
  go_enter Tryz.func3, Tryz.ntmps3
  go_wp2_with fail
  refine (hC.out _).mono ?_
  rintro r1 w1 ⟨rfl, rfl⟩
  go_wp2
  go_ret
  exact ⟨rfl, by (repeat (first | exact Below.refl _ _ | assumption | refine bchain (by assumption) ?_ | refine balloc ?_ _ | apply Below.drew | apply below_drewN | (refine Below.alloc ?_ (by (try simp) <;> omega) _) | (refine Below.setCell ?_ (by (try simp) <;> omega) _)))⟩
set_option maxHeartbeats 4000000 in
theorem walk_short (v : Value) (gs : List (Int × Int × Int)) (n e : Int) (he0 : 0 ≤ e) (he : e < 4294967296) (w : World) (hS : SlK w v gs) (hbd : BdK gs) (hm : gs.length ≤ 1048576) (hT0 : TabZ w) :
    Calls Tryz.prog 3 #[v, .agg #[.int .i64 n, .int .u32 e]] w fun r w' => r = .returned (.bool true) ∧ Below w.heap.size w w' := by
  obtain ⟨L, g, c, h8, hs, hi⟩ := pa_both gs n e he he0 hbd hm
  have hE := Lib.hid (fun W u v (h : Fr.SlM W u (Fr.matL L g)) (h' : Fr.SlM W v (Fr.matL L g)) => Fr.eqR_any W u v L g h8 h h')
  have hMk := Lib.hid (fun W b0 u (h : Fr.MR b0 W u L (Fr.gv L g)) (hb : b0 ≤ W.heap.size) => Fr.markR_any W b0 u L (Fr.gv L g) h hb)
  have hHd := Lib.hid (fun W b0 u (h : Fr.MR b0 W u L (Fr.mkF 1 0 (L * L * 2) (Fr.gv L g))) => Fr.heldR_any W b0 u L (Fr.gv L g) h)
  have hT := Lib.hid (fun W u (h : SlK W u gs) => toKs_any W u gs h hm)
  have hTo := Lib.hid (fun W u (h : SlK W u gs) => toKo_any W u gs h hm)
  have hEs := Lib.hid (fun W u u' (h : SlK W u gs) (h' : SlK W u' gs) => eqKs_any W u u' gs h h' hm)
  obtain ⟨K1, hK1⟩ : ∃ K : Int, 1 + (gs.length : Int) * 3 = K := ⟨_, rfl⟩
  have hMx : Hid (∀ W w0 u f, OwnV w0 W u gs.length 3 f → Calls Tryz.prog 11 #[u, .int .i64 1] W fun r w' => r = .returned (.int .i64 K1) ∧ Chg (fun b => 0 < gs.length ∧ Value.ownBlock u = some b) W w') := fun W w0 u f h =>
    (markK_any W w0 u gs.length 1 f hm (by omega) h).mono (fun r w' ⟨hr, hc, _⟩ => ⟨by rw [hr, ← hK1]; simp, hc⟩)
  have hTw := Lib.hid (fun W (h : Below w.heap.size w W) => hT0.below h)
  obtain ⟨a, cap, hv, h1, h2, _⟩ := id hS
  have hC := Lib.hid (fun W => szk_ok W a gs.length cap hm)
  rw [← hv] at hC
  have hl0 : decide ((1048576 : Int) - (gs.length : Int) < 0) = false := decide_eq_false (by omega)
  obtain ⟨q, hq⟩ : ∃ q : Int, 1048576 - (gs.length : Int) = q := ⟨_, rfl⟩
  rw [hq] at hC hl0
  obtain ⟨K, hK⟩ : ∃ K : Nat, 1 + L * L * 2 = K := ⟨_, rfl⟩
  rw [hK] at hMk hHd
  have hd0 : decide ((K : Int) < 0) = false := decide_eq_false (by omega)
  have hd1 : decide (K1 < 0) = false := decide_eq_false (by omega)
  obtain ⟨W0, hW0⟩ : ∃ W0, W0 = w.alloc (.cells #[.int .i64 n, .int .u32 e] 25) := ⟨_, rfl⟩
  have b00 : Below w.heap.size w W0 := by rw [hW0]; (repeat (first | exact Below.refl _ _ | assumption | refine bchain (by assumption) ?_ | refine balloc ?_ _ | apply Below.drew | apply below_drewN | (refine Below.alloc ?_ (by (try simp) <;> omega) _) | (refine Below.setCell ?_ (by (try simp) <;> omega) _)))
  have hlt : w.heap.size < W0.heap.size := by rw [hW0]; simp
  have e0 : W0.cell? ⟨w.heap.size, 0, none⟩ = some (.int .i64 n) := by rw [hW0]; simp [go_sem]
  have e1 : W0.cell? ⟨w.heap.size, 1, none⟩ = some (.int .u32 e) := by rw [hW0]; simp [go_sem]
  have hS0 := Lib.hid (hS.below b00)
  replace hs := Lib.hid hs
  replace hi := Lib.hid hi
  replace hW0 := Lib.hid hW0
  clear hm hK hK1 hq hS h1 h2 hv he0 he hbd hT0
  go_enter Tryz.func3, Tryz.ntmps3
  go_wp2_with fail
  refine (hC.out _).mono ?_
  rintro r0 w0 ⟨rfl, rfl⟩
  rw [← hW0.out]
  go_upto_region 5 with fail
  go_cut [6, 7] (fun s6 s7 wx => s7 = .int .i64 c ∧ Hid (Fr.SlM wx s6 (Fr.matL L g)) ∧ Below W0.heap.size W0 wx)
  case first =>
    go_region_held3 (fun W => W.cell? ⟨w.heap.size, 0, none⟩ = some (.int .i64 n) ∧ W.cell? ⟨w.heap.size, 1, none⟩ = some (.int .u32 e))
      (exact ⟨old_cell hlt e0 (by (repeat (first | exact Below.refl _ _ | assumption | refine bchain (by assumption) ?_ | refine balloc ?_ _ | apply Below.drew | apply below_drewN | (refine Below.alloc ?_ (by (try simp) <;> omega) _) | (refine Below.setCell ?_ (by (try simp) <;> omega) _)))), old_cell hlt e1 (by (repeat (first | exact Below.refl _ _ | assumption | refine bchain (by assumption) ?_ | refine balloc ?_ _ | apply Below.drew | apply below_drewN | (refine Below.alloc ?_ (by (try simp) <;> omega) _) | (refine Below.setCell ?_ (by (try simp) <;> omega) _))))⟩)
      (first | (go_at_call 6; refine (hT.out _ _ (hS0.out.below (by (repeat (first | exact Below.refl _ _ | assumption | refine bchain (by assumption) ?_ | refine balloc ?_ _ | apply Below.drew | apply below_drewN | (refine Below.alloc ?_ (by (try simp) <;> omega) _) | (refine Below.setCell ?_ (by (try simp) <;> omega) _)))))).mono ?_; rintro rS wS ⟨⟨uS, rfl, hUS⟩, hbS⟩; replace hUS := Lib.hid hUS) | (go_at_call 7; refine (toGraph_any _ _ _).mono ?_; rintro rF wF ⟨rfl, hbF⟩) | (go_at_call 5; refine (hs.out _ _ (hUS.out.below (by (repeat (first | exact Below.refl _ _ | assumption | refine bchain (by assumption) ?_ | refine balloc ?_ _ | apply Below.drew | apply below_drewN | (refine Below.alloc ?_ (by (try simp) <;> omega) _) | (refine Below.setCell ?_ (by (try simp) <;> omega) _)))))).mono ?_; rintro rV wV ⟨⟨vV, rfl, hV⟩, hbV⟩; replace hV := Lib.hid hV))
    all_goals (go_wp2_with fail; go_meet; exact ⟨rfl, hV.out, by (repeat (first | exact Below.refl _ _ | assumption | refine bchain (by assumption) ?_ | refine balloc ?_ _ | apply Below.drew | apply below_drewN | (refine Below.alloc ?_ (by (try simp) <;> omega) _) | (refine Below.setCell ?_ (by (try simp) <;> omega) _)))⟩)
  case rest =>
    obtain ⟨rfl, hV, b02⟩ := hcut
    have bw2 := b00.trans (b02.mono b00.size)
    go_wp2_with fail
    refine (hTo.out _ _ (hS0.out.below b02)).mono ?_
    rintro r3 w3 ⟨⟨u3, f3, rfl, hU3, hX3⟩, hb3⟩
    replace hU3 := Lib.hid hU3
    replace hX3 := Lib.hid hX3
    have b03 := b02.trans (hb3.mono b02.size)
    have x0 := old_cell hlt e0 b03
    have x1 := old_cell hlt e1 b03
    clear b03
    go_wp2_with fail
    refine (toGraph_any _ _ _).mono ?_
    rintro rF wF ⟨rfl, hbF⟩
    have hU3b := Lib.hid (hU3.out.below hbF)
    have hX3b := Lib.hid (hX3.out.below hbF)
    have hblk : Hid (∀ b, (0 < gs.length ∧ Value.ownBlock u3 = some b) → wc.heap.size ≤ b ∧ b < wF.heap.size) := fun b hb => ⟨(hX3b.out.block hb.1 hb.2).1, (hX3b.out.block hb.1 hb.2).2⟩
    have s23 := hb3.size
    have s33 := hbF.size
    have b23 := hb3.trans (hbF.mono s23)
    have bwF := bw2.trans (b23.mono bw2.size)
    have hTF := Lib.hid (hTw.out _ bwF)
    clear hb3 hbF hU3 hX3 x0 x1 bwF
    go_wp2_with fail
    refine (hi.out _ _ hU3b.out hTF.out).mono ?_
    rintro r4 w4 ⟨⟨u4, rfl, hU4⟩, hb4⟩
    have hX4 := Lib.hid (hX3b.out.below hb4)
    have hU34 := Lib.hid (hU3b.out.below hb4)
    replace hU4 := Lib.hid hU4
    have b24 := b23.trans (hb4.mono b23.size)
    have s34 := hb4.size
    clear hb4 hX3b hU3b b23 hTF
    go_wp2_with fail
    refine (hE.out _ _ _ hU4.out.slm (hV.out.below b24)).mono ?_
    rintro r5 w5 ⟨rfl, hb5⟩
    have hU5 := Lib.hid (hU4.out.below hb5)
    have hX5 := Lib.hid (hX4.out.below hb5)
    have hU35 := Lib.hid (hU34.out.below hb5)
    have b25 := b24.trans (hb5.mono b24.size)
    have s35 := Nat.le_trans s34 hb5.size
    clear hb5 b24 s34 hU4 hX4 hU34
    go_wp2_with fail
    refine (hT.out _ _ (hS0.out.below (b02.trans (b25.mono b02.size)))).mono ?_
    rintro r6 w6 ⟨⟨u6, rfl, hU6⟩, hb6⟩
    go_wp2_with fail
    refine (hEs.out _ _ _ (hU35.out.below hb6) hU6).mono ?_
    rintro r7 w7 ⟨rfl, hb7⟩
    have hU7 := Lib.hid ((hU5.out.below hb6).below hb7)
    have hX7 := Lib.hid ((hX5.out.below hb6).below hb7)
    have b27 := (b25.trans (hb6.mono b25.size)).trans (hb7.mono (Nat.le_trans b25.size hb6.size))
    have s37 := Nat.le_trans s35 (Nat.le_trans hb6.size hb7.size)
    clear hb6 hb7 b25 s35 hU5 hX5 hU35 hU6
    go_wp2_with fail
    refine (hMx.out _ _ _ _ hX7.out).mono ?_
    rintro r8 w8 ⟨rfl, hM8⟩
    have hU8 := Lib.hid (hU7.out.chg hM8 (fun b hb => (hblk.out b hb).2))
    have b28 := b27.trans (hM8.below b27.size (fun b hb => (hblk.out b hb).1))
    have s38 : wF.heap.size ≤ w8.heap.size := Nat.le_trans s37 hM8.size
    clear hM8 b27 s37 hU7 hX7 hblk
    go_wp2_with fail
    refine (hE.out _ _ _ hU8.out.slm (hV.out.below b28)).mono ?_
    rintro r9 w9 ⟨rfl, hb9⟩
    have hU9 := Lib.hid (hU8.out.below hb9)
    have b29 := b28.trans (hb9.mono b28.size)
    have s39 := Nat.le_trans s38 hb9.size
    clear hb9 b28 s38 hU8
    go_wp2_with fail
    refine (hMk.out _ _ _ hU9.out s39).mono ?_
    rintro r10 w10 ⟨rfl, hb10, hU10⟩
    replace hU10 := Lib.hid hU10
    have b2a := b29.trans (hb10.mono (Nat.le_trans s23 s33))
    clear hb10 b29 s39 hU9
    go_wp2_with fail
    refine (hHd.out _ _ _ hU10.out).mono ?_
    rintro r11 w11 ⟨rfl, hb11⟩
    have hU11 := Lib.hid (hU10.out.below hb11)
    have b2b := b2a.trans (hb11.mono b2a.size)
    have b0b := b02.trans (b2b.mono b02.size)
    have hV11 := Lib.hid (hV.out.below b2b)
    have x0 := old_cell hlt e0 b0b
    have x1 := old_cell hlt e1 b0b
    have hS11 := Lib.hid (hS0.out.below b0b)
    have hlt11 := Nat.lt_of_lt_of_le hlt b0b.size
    have bw11 := b00.trans (b0b.mono b00.size)
    have hi11 := Lib.hid (fun W u (h : SlK W u gs) (hW : Below w11.heap.size w11 W) => hi.out W u h (hTw.out W (bchain hW bw11)))
    clear hb11 b2a b2b b02 b0b hU10 hV s23 s33 e0 e1 hlt hS0 b00 bw2
    go_upto_region 24 with fail
    go_cut [14, 15] (fun s6 s7 wx => s7 = .int .i64 c ∧ Hid (Fr.SlM wx s6 (Fr.matL L g)) ∧ Below w11.heap.size w11 wx)
    case first =>
      go_region_held3 (fun W => W.cell? ⟨w.heap.size, 0, none⟩ = some (.int .i64 n) ∧ W.cell? ⟨w.heap.size, 1, none⟩ = some (.int .u32 e))
        (exact ⟨old_cell hlt11 x0 (by (repeat (first | exact Below.refl _ _ | assumption | refine bchain (by assumption) ?_ | refine balloc ?_ _ | apply Below.drew | apply below_drewN | (refine Below.alloc ?_ (by (try simp) <;> omega) _) | (refine Below.setCell ?_ (by (try simp) <;> omega) _)))), old_cell hlt11 x1 (by (repeat (first | exact Below.refl _ _ | assumption | refine bchain (by assumption) ?_ | refine balloc ?_ _ | apply Below.drew | apply below_drewN | (refine Below.alloc ?_ (by (try simp) <;> omega) _) | (refine Below.setCell ?_ (by (try simp) <;> omega) _))))⟩)
        (first | (go_at_call 6; refine (hT.out _ _ (hS11.out.below (by (repeat (first | exact Below.refl _ _ | assumption | refine bchain (by assumption) ?_ | refine balloc ?_ _ | apply Below.drew | apply below_drewN | (refine Below.alloc ?_ (by (try simp) <;> omega) _) | (refine Below.setCell ?_ (by (try simp) <;> omega) _)))))).mono ?_; rintro rS wS ⟨⟨uS, rfl, hUS⟩, hbS⟩; replace hUS := Lib.hid hUS) | (go_at_call 7; refine (toGraph_any _ _ _).mono ?_; rintro rF wF' ⟨rfl, hbF⟩) | (go_at_call 8; refine (hi11.out _ _ (hUS.out.below (by (repeat (first | exact Below.refl _ _ | assumption | refine bchain (by assumption) ?_ | refine balloc ?_ _ | apply Below.drew | apply below_drewN | (refine Below.alloc ?_ (by (try simp) <;> omega) _) | (refine Below.setCell ?_ (by (try simp) <;> omega) _))))) (by (repeat (first | exact Below.refl _ _ | assumption | refine bchain (by assumption) ?_ | refine balloc ?_ _ | apply Below.drew | apply below_drewN | (refine Below.alloc ?_ (by (try simp) <;> omega) _) | (refine Below.setCell ?_ (by (try simp) <;> omega) _))))).mono ?_; rintro rV wV ⟨⟨vV, rfl, hV⟩, hbV⟩; replace hV := Lib.hid hV.slm))
      all_goals (go_wp2_with fail; go_meet; exact ⟨rfl, hV.out, by (repeat (first | exact Below.refl _ _ | assumption | refine bchain (by assumption) ?_ | refine balloc ?_ _ | apply Below.drew | apply below_drewN | (refine Below.alloc ?_ (by (try simp) <;> omega) _) | (refine Below.setCell ?_ (by (try simp) <;> omega) _)))⟩)
    case rest =>
      obtain ⟨rfl, hU13, b2d⟩ := hcut
      have hU13' := Lib.hid (hU11.out.below b2d)
      go_wp2_with fail
      refine (hE.out _ _ _ hU13.out (hV11.out.below b2d)).mono ?_
      rintro r14 w14 ⟨rfl, hb14⟩
      have hU14 := Lib.hid (hU13'.out.below hb14)
      have b2e := b2d.trans (hb14.mono b2d.size)
      clear hb14 b2d hU13 hU13'
      go_wp2_with fail
      refine (hHd.out _ _ _ hU14.out).mono ?_
      rintro r15 w15 ⟨rfl, hb15⟩
      have hB : Below w.heap.size w w15 := bw11.trans ((b2e.trans (hb15.mono b2e.size)).mono bw11.size)
      clear hb15 b2e bw11
      go_wp2
      go_ret
      exact ⟨rfl, hB⟩
theorem walk (v : Value) (gs : List (Int × Int × Int)) (n e : Int) (_hn : (Lit.int .i64 n).wf = true) (he : (Lit.int .u32 e).wf = true) (w : World) (hS : SlK w v gs ∧ BdK gs) (hT : TabZ w) :
    Calls Tryz.prog 3 #[v, .agg #[.int .i64 n, .int .u32 e]] w fun r w' => r = .returned (.bool true) ∧ Below w.heap.size w w' := by
  have bd := bounds_u32 he
  rcases Nat.lt_or_ge 1048576 gs.length with h | h
  · exact walk_long v gs n e w hS.1 h
  · exact walk_short v gs n e bd.1 (by omega) w hS.1 hS.2 h hT
end PairAveragesLaw
theorem PairAveragesLaw.lifted (os : Os) (started : os.Started) (H : Type) (enc : TypeId × Value → H) :
    ReturnsInHanded {} Tryz.checked os 3 .any (fun w args => (Rows.fnExactPairAveragesSpec.pre enc Tryz.prog Tryz.f3 [] false w args ∧ laidMetH Tryz.prog Rows.fnExactPairAveragesRow.laid w) ∧ sizedMet enc Tryz.prog Tryz.f3 (OpenSpec.ofChange Rows.fnExactPairAveragesSpec) false w args)
      (Rows.fnExactPairAveragesSpec.post enc Tryz.prog Tryz.f3 false true false false) := by
  refine fr_liftC (C := Tryz.checked) (laid := Rows.fnExactPairAveragesRow.laid) own started (by kernel_rfl) Tryz.func3 laid_out (by kernel_rfl) (by kernel_rfl) (tb := 4) rfl Tryz.underlying4 ?hs
    (ChangeSpec.witness_shaped (enc := enc) (C := Tryz.checked) (os := os) (X := fun w _ => laidMetH Tryz.prog Rows.fnExactPairAveragesRow.laid w) false (World.doorLaid Tryz.prog 400 os) #[.slice none 0 0, .agg #[.int .i64 0, .int .u32 0]] 8 rfl
      (World.shaped_of_RefB (by kernel_rfl) (by kernel_rfl)) (by kernel_rfl) (by kernel_rfl) (by kernel_rfl) (laidMetH_of_parts3 (fuel := 8) (laidMet_of_run' 8 (by kernel_rfl) (by kernel_rfl)) (by kernel_rfl) (by kernel_rfl))) ?_
  case hs =>
    intro ds gs h h2
    match ds, h, gs, h2 with
    | [d0, d1], _, [], _ => rfl
  intro W base args ds gs p hval0 hA0 hlt hsz hL0
  have hL : laidMet Tryz.prog Rows.fnExactPairAveragesRow.laid W := by rw [← MakeChecks.laidMetH_plain _ _ _ (by kernel_rfl)]; exact hL0
  have hval : ∀ (j : Nat) t v, Tryz.f3.params[j]? = some t → args[j]? = some v → Value.okWide Tryz.prog W .any base t v := hval0
  have hA : DataW.TrodAll enc Tryz.prog W 0 (fun _ => true) true Tryz.f3.params.toList args.toList ds p := hA0
  rw [Tryz.params3] at hA hval
  obtain ⟨v0, vs0, d0, ds0, p0, q0, hargs, rfl, rfl, h0, r0⟩ := trodAll_cons hA
  obtain ⟨v1, vs1, d1, ds1, p1, q1, rfl, rfl, rfl, h1, r1⟩ := trodAll_cons r0
  obtain ⟨rfl, rfl, rfl⟩ := trodAll_nil r1
  obtain rfl : args = #[v0, v1] := by cases args; simp_all
  obtain ⟨x0, R0⟩ := open_ks (hval 0 22 v0 rfl rfl) h0
  obtain ⟨a1, b1, rfl, w1, u1⟩ := open_lgraph (hval 1 25 v1 rfl rfl) h1
  exact PairAveragesLaw.walk v0 x0 a1 b1 w1 u1 W R0 (tabZ_of_laid hL)

theorem pairAverages_holds_row : Rows.FnExactPairAveragesSaid :=
  OpenClaim.holds_of_wide 3 Tryz.f3 rfl rfl rfl rfl rfl rfl rfl ⟨rfl, rfl, rfl, rfl, rfl⟩ rfl rfl rfl rfl rfl (by kernel_rfl) Tryz.func3 (by kernel_rfl)
    (of_decide_eq_true (by kernel_rfl)) (by unfold Func.isWrapper; rw [if_neg (of_decide_eq_false (by kernel_rfl))]; exact ⟨rfl, rfl⟩)
    (fun os started H enc _ => PairAveragesLaw.lifted os started H enc)
theorem pairAverages_holds : Rows.FnExactPairAveragesCardSaid :=
  Claim7.holds_tied_plain_at .later [] Rows.fnExactPairAveragesCard.laidKinds true Rows.fnExactPairAveragesCard.stood.harness Rows.fnExactPairAveragesCard.stood.looks pairAverages_holds_row (fun _ h => by cases h) (by kernel_rfl) (fun _ h => by cases h) fnExactPairAverages_row_tie rfl ⟨rfl, rfl⟩ (by kernel_rfl) rfl
    (fun f fn hf hfn => by
      obtain rfl : f = 3 := Option.some.inj ((show Tryz.prog.funcNamed "loop.example/g01169/laws.FnExactPairAverages" = some 3 by kernel_rfl).symm.trans hf) |>.symm
      obtain rfl : fn = Tryz.f3 := (Option.some.inj (Tryz.func3.symm.trans hfn)).symm
      exact ⟨by kernel_rfl, fun j t ht => by
        rw [Tryz.params3] at ht
        have hm : t ∈ [22, 25] := by simpa using Array.mem_of_getElem? ht
        have hall : ([22, 25].all fun u => !Tryz.prog.wantsStandIn u) = true := by kernel_rfl
        exact (show Tryz.prog.wantsStandIn t = false by simpa using List.all_eq_true.1 hall t hm)⟩)
    (by kernel_rfl)
#print axioms pairAverages_holds
end Go.Proofs.YtncbimbbkealmaaGreatDoor
