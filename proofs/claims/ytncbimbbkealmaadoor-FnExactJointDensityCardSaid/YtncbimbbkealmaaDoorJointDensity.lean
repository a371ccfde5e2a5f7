/-
  PROVED: for every three flags, valid or not, JointDensity of the program answers as the model's does. Conditions: the table of math/bits holds what the library lays there (the card ties it).
-/
import Derived.Test.YtncbimbbkealmaaDoorKOpen
import Derived.Test.YtncbimbbkealmaaDoorJdB
import Derived.Test.YtncbimbbkealmaaDoorLj
import Derived.Deep.RegionHeld3
import Derived.Deep.DeepCutAuto
import Derived.Test.YtncbimbbkealmaaDoorTie
import Derived.Test.YtncbimbbkealmaaDoorCards
import Derived.SevenTiedAt
namespace Go.Proofs.YtncbimbbkealmaaDoor
open Go.ChangeShapes Go.WideShapes Go.ChangeAt Go.RowKit
set_option maxRecDepth 100000

namespace JointDensityLaw
set_option maxHeartbeats 4000000 in
theorem walk (k n e : Int) (_hn : (Lit.int .i64 n).wf = true) (he : (Lit.int .u32 e).wf = true) (l m f : Int) (_hm : (Lit.int .i64 m).wf = true) (hf : (Lit.int .u32 f).wf = true) (p q g : Int) (_hq : (Lit.int .i64 q).wf = true) (hg : (Lit.int .u32 g).wf = true) (w : World) (hT : TabZ w) :
    Calls Tryd.prog 3 #[.agg #[.int .i64 k, .int .i64 n, .int .u32 e], .agg #[.int .i64 l, .int .i64 m, .int .u32 f], .agg #[.int .i64 p, .int .i64 q, .int .u32 g]] w fun r w' => r = .returned (.bool true) ∧ Below w.heap.size w w' := by
  have bd := bounds_u32 he
  have bf := bounds_u32 hf
  have bg := bounds_u32 hg
  obtain ⟨x, y, c, hs, hi⟩ := jdn_both k n e l m f p q g (by omega) bd.1 (by omega) bf.1 (by omega) bg.1
  have hTw := Lib.hid (fun W (h : Below w.heap.size w W) => hT.below h)
  replace hs := Lib.hid hs
  replace hi := Lib.hid hi
  obtain ⟨W0, hW0⟩ : ∃ W0, W0 = ((w.alloc (.cells #[.int .i64 k, .int .i64 n, .int .u32 e] 26)).alloc (.cells #[.int .i64 l, .int .i64 m, .int .u32 f] 26)).alloc (.cells #[.int .i64 p, .int .i64 q, .int .u32 g] 26) := ⟨_, rfl⟩
  have hb0 : Below w.heap.size w W0 := by rw [hW0]; (repeat (first | exact Below.refl _ _ | assumption | refine bchain (by assumption) ?_ | refine balloc ?_ _ | apply Below.drew | apply below_drewN | (refine Below.alloc ?_ (by (try simp) <;> omega) _) | (refine Below.setCell ?_ (by (try simp) <;> omega) _)))
  have hz0 : w.heap.size + 2 < W0.heap.size := by rw [hW0]; simp
  have hS0 : W0.cell? ⟨w.heap.size, 0, none⟩ = some (.int .i64 k) ∧ W0.cell? ⟨w.heap.size, 1, none⟩ = some (.int .i64 n) ∧ W0.cell? ⟨w.heap.size, 2, none⟩ = some (.int .u32 e) ∧ W0.cell? ⟨w.heap.size + 1, 0, none⟩ = some (.int .i64 l) ∧ W0.cell? ⟨w.heap.size + 1, 1, none⟩ = some (.int .i64 m) ∧ W0.cell? ⟨w.heap.size + 1, 2, none⟩ = some (.int .u32 f) ∧ W0.cell? ⟨w.heap.size + 1 + 1, 0, none⟩ = some (.int .i64 p) ∧ W0.cell? ⟨w.heap.size + 1 + 1, 1, none⟩ = some (.int .i64 q) ∧ W0.cell? ⟨w.heap.size + 1 + 1, 2, none⟩ = some (.int .u32 g) := by rw [hW0]; simp [go_sem]
  have kS : ∀ W, Below W0.heap.size W0 W → W.cell? ⟨w.heap.size, 0, none⟩ = some (.int .i64 k) ∧ W.cell? ⟨w.heap.size, 1, none⟩ = some (.int .i64 n) ∧ W.cell? ⟨w.heap.size, 2, none⟩ = some (.int .u32 e) ∧ W.cell? ⟨w.heap.size + 1, 0, none⟩ = some (.int .i64 l) ∧ W.cell? ⟨w.heap.size + 1, 1, none⟩ = some (.int .i64 m) ∧ W.cell? ⟨w.heap.size + 1, 2, none⟩ = some (.int .u32 f) ∧ W.cell? ⟨w.heap.size + 1 + 1, 0, none⟩ = some (.int .i64 p) ∧ W.cell? ⟨w.heap.size + 1 + 1, 1, none⟩ = some (.int .i64 q) ∧ W.cell? ⟨w.heap.size + 1 + 1, 2, none⟩ = some (.int .u32 g) := fun W hW => by
    obtain ⟨a0, a1, a2, a3, a4, a5, a6, a7, a8⟩ := hS0
    have z0 : w.heap.size < W0.heap.size := by omega
    have z1 : w.heap.size + 1 < W0.heap.size := by omega
    exact ⟨old_cell z0 a0 hW, old_cell z0 a1 hW, old_cell z0 a2 hW, old_cell z1 a3 hW, old_cell z1 a4 hW, old_cell z1 a5 hW, old_cell hz0 a6 hW, old_cell hz0 a7 hW, old_cell hz0 a8 hW⟩
  replace kS := Lib.hid kS
  replace hW0 := Lib.hid hW0
  clear he _hn bd hf _hm bf hT hg _hq bg hS0
  go_enter Tryd.func3, Tryd.ntmps3
  go_upto_region 1 with fail
  rw [← hW0.out]
  go_cut [7, 8] (fun s7 s8 wx => ∃ B : Nat, s7 = .pointer (some ⟨B, 0, none⟩) ∧ s8 = .int .i64 c ∧ FqB wx B x y ∧ Below W0.heap.size W0 wx)
  case first =>
    refine wp_region_inv (fun fl ac W => ∃ tb td tm u0 u1 u2 u3 u4 u5 u6 u7 u8, ac = { tmps := #[.agg #[.int .i64 k, .int .i64 n, .int .u32 e], .agg #[.int .i64 l, .int .i64 m, .int .u32 f], .agg #[.int .i64 p, .int .i64 q, .int .u32 g], .pointer (some ⟨w.heap.size, 0, none⟩), .pointer (some ⟨w.heap.size + 1, 0, none⟩), .pointer (some ⟨w.heap.size + 1 + 1, 0, none⟩), .bool false, tb, td, undef, undef, tm, u0, u1, u2, u3, u4, u5, u6, u7, u8, undef, undef, undef, undef, undef, undef, undef, undef, undef, undef, undef, undef, undef, undef, undef, undef, undef, undef, undef], defers := [] } ∧ LJ W0 (.agg #[.int .i64 k, .int .i64 n, .int .u32 e]) (.agg #[.int .i64 l, .int .i64 m, .int .u32 f]) (.agg #[.int .i64 p, .int .i64 q, .int .u32 g]) x y c fl tb td tm u0 u1 u2 u3 u4 u5 u6 u7 u8 W) (by kernel_rfl) (by kernel_rfl) ?start ?step ?last
    case start => exact ⟨_, _, _, _, _, _, _, _, _, _, _, _, rfl, (Below.refl _ W0).drew, fun e => (by cases e), fun e => (by cases e), fun e => (by cases e), fun e => (by cases e), fun e => (by cases e), fun e => (by cases e), fun e => (by cases e), fun e => (by cases e), fun e => (by cases e), fun e => (by cases e), fun e => (by cases e), fun e => (by cases e), fun e => (by cases e)⟩
    case step =>
      intro i o fl ac W ho hf hdep hI
      obtain ⟨tb, td, tm, u0, u1, u2, u3, u4, u5, u6, u7, u8, rfl, hJ⟩ := hI
      have hi : i < 13 := (Array.getElem?_eq_some_iff.1 ho).1
      have hc : i = 0 ∨ i = 1 ∨ i = 2 ∨ i = 3 ∨ i = 4 ∨ i = 5 ∨ i = 6 ∨ i = 7 ∨ i = 8 ∨ i = 9 ∨ i = 10 ∨ i = 11 ∨ i = 12 := by omega
      clear hi
      rcases hc with rfl | rfl | rfl | rfl | rfl | rfl | rfl | rfl | rfl | rfl | rfl | rfl | rfl
      · obtain rfl := Option.some.inj ho
        obtain ⟨a0, a1, a2, a3, a4, a5, a6, a7, a8⟩ := kS.out W hJ.below
        refine wpOp_step rfl (fun K hK => ?_)
        go_simp
        exact hK _ _ ⟨_, _, _, _, _, _, _, _, _, _, _, _, rfl, hJ.p0⟩
      · obtain rfl := Option.some.inj ho
        have e0 : fl 0 = true := hdep ⟨0, .data⟩ (by simp) (by decide)
        obtain rfl := hJ.h0 e0
        refine wpOp_step rfl (fun K hK => ?_)
        go_simp
        go_wp2_with (go_at_call 9; refine (toFlag_any _ _ _ _).mono ?_; rintro r3 w3 ⟨rfl, hb3⟩)
        exact ⟨_, _, _, _, _, _, _, _, _, _, _, _, rfl, (hJ.world hb3).p1⟩
      · obtain rfl := Option.some.inj ho
        obtain ⟨a0, a1, a2, a3, a4, a5, a6, a7, a8⟩ := kS.out W hJ.below
        refine wpOp_step rfl (fun K hK => ?_)
        go_simp
        exact hK _ _ ⟨_, _, _, _, _, _, _, _, _, _, _, _, rfl, hJ.p2⟩
      · obtain rfl := Option.some.inj ho
        have e0 : fl 2 = true := hdep ⟨2, .data⟩ (by simp) (by decide)
        obtain rfl := hJ.h2 e0
        refine wpOp_step rfl (fun K hK => ?_)
        go_simp
        go_wp2_with (go_at_call 9; refine (toFlag_any _ _ _ _).mono ?_; rintro r3 w3 ⟨rfl, hb3⟩)
        exact ⟨_, _, _, _, _, _, _, _, _, _, _, _, rfl, (hJ.world hb3).p3⟩
      · obtain rfl := Option.some.inj ho
        obtain ⟨a0, a1, a2, a3, a4, a5, a6, a7, a8⟩ := kS.out W hJ.below
        refine wpOp_step rfl (fun K hK => ?_)
        go_simp
        exact hK _ _ ⟨_, _, _, _, _, _, _, _, _, _, _, _, rfl, hJ.p4⟩
      · obtain rfl := Option.some.inj ho
        have e0 : fl 4 = true := hdep ⟨4, .data⟩ (by simp) (by decide)
        obtain rfl := hJ.h4 e0
        refine wpOp_step rfl (fun K hK => ?_)
        go_simp
        go_wp2_with (go_at_call 9; refine (toFlag_any _ _ _ _).mono ?_; rintro r3 w3 ⟨rfl, hb3⟩)
        exact ⟨_, _, _, _, _, _, _, _, _, _, _, _, rfl, (hJ.world hb3).p5⟩
      · obtain rfl := Option.some.inj ho
        have e1 : fl 1 = true := hdep ⟨1, .data⟩ (by simp) (by decide)
        have e3 : fl 3 = true := hdep ⟨3, .data⟩ (by simp) (by decide)
        have e5 : fl 5 = true := hdep ⟨5, .data⟩ (by simp) (by decide)
        obtain rfl := hJ.h1 e1
        obtain rfl := hJ.h3 e3
        obtain rfl := hJ.h5 e5
        refine wpOp_step rfl (fun K hK => ?_)
        go_simp
        go_wp2_with (go_at_call 8; refine (hs.out _).mono ?_; rintro r3 w3 ⟨rfl, hb3⟩)
        exact ⟨_, _, _, _, _, _, _, _, _, _, _, _, rfl, (hJ.world hb3).p6⟩
      · obtain rfl := Option.some.inj ho
        have e0 : fl 6 = true := hdep ⟨6, .data⟩ (by simp) (by decide)
        obtain rfl := hJ.h6 e0
        refine wpOp_step rfl (fun K hK => ?_)
        go_simp
        exact hK _ _ ⟨_, _, _, _, _, _, _, _, _, _, _, _, rfl, hJ.p7⟩
      · obtain rfl := Option.some.inj ho
        have e0 : fl 7 = true := hdep ⟨7, .data⟩ (by simp) (by decide)
        obtain rfl := hJ.h7 e0
        refine wpOp_step rfl (fun K hK => ?_)
        go_simp
        exact hK _ _ ⟨_, _, _, _, _, _, _, _, _, _, _, _, rfl, hJ.p8⟩
      · obtain rfl := Option.some.inj ho
        have e0 : fl 7 = true := hdep ⟨7, .data⟩ (by simp) (by decide)
        obtain rfl := hJ.h7 e0
        refine wpOp_step rfl (fun K hK => ?_)
        go_simp
        exact hK _ _ ⟨_, _, _, _, _, _, _, _, _, _, _, _, rfl, hJ.p9⟩
      · obtain rfl := Option.some.inj ho
        refine wpOp_step rfl (fun K hK => ?_)
        go_simp
        exact hK _ _ ⟨_, _, _, _, _, _, _, _, _, _, _, _, rfl, hJ.a10 hf _⟩
      · obtain rfl := Option.some.inj ho
        have e10 : fl 10 = true := hdep ⟨10, .data⟩ (by simp) (by decide)
        have e8 : fl 8 = true := hdep ⟨8, .data⟩ (by simp) (by decide)
        obtain ⟨B, rfl, hB, k0⟩ := hJ.h10 e10
        obtain rfl := hJ.h8 e8
        obtain ⟨_, z0, z1, z2⟩ := id k0
        have z20 := z2 0
        have z21 := z2 1
        refine wpOp_step rfl (fun K hK => ?_)
        go_simp
        exact hK _ _ ⟨_, _, _, _, _, _, _, _, _, _, _, _, rfl, hJ.s11 e10 rfl hB k0⟩
      · obtain rfl := Option.some.inj ho
        have e0 : fl 9 = true := hdep ⟨9, .data⟩ (by simp) (by decide)
        obtain rfl := hJ.h9 e0
        refine wpOp_step rfl (fun K hK => ?_)
        go_simp
        exact hK _ _ ⟨_, _, _, _, _, _, _, _, _, _, _, _, rfl, hJ.p12⟩
    case last =>
      intro fl ac W hall hI
      obtain ⟨tb, td, tm, u0, u1, u2, u3, u4, u5, u6, u7, u8, rfl, hJ⟩ := hI
      obtain rfl := hJ.h0 (hall 0 (show 0 < 13 by decide))
      obtain rfl := hJ.h1 (hall 1 (show 1 < 13 by decide))
      obtain rfl := hJ.h2 (hall 2 (show 2 < 13 by decide))
      obtain rfl := hJ.h3 (hall 3 (show 3 < 13 by decide))
      obtain rfl := hJ.h4 (hall 4 (show 4 < 13 by decide))
      obtain rfl := hJ.h5 (hall 5 (show 5 < 13 by decide))
      obtain rfl := hJ.h6 (hall 6 (show 6 < 13 by decide))
      obtain rfl := hJ.h7 (hall 7 (show 7 < 13 by decide))
      obtain rfl := hJ.h8 (hall 8 (show 8 < 13 by decide))
      obtain rfl := hJ.h9 (hall 9 (show 9 < 13 by decide))
      obtain rfl := hJ.h12 (hall 12 (show 12 < 13 by decide))
      obtain ⟨B, rfl, hB, kB⟩ := hJ.h10 (hall 10 (show 10 < 13 by decide))
      rw [if_pos (hall 11 (show 11 < 13 by decide)), if_pos (hall 11 (show 11 < 13 by decide))] at kB
      have hbw := hJ.below
      go_wp2_with fail
      go_meet
      exact ⟨_, rfl, rfl, kB, hbw⟩
  case rest =>
    obtain ⟨B, rfl, rfl, kB, hbc⟩ := hcut
    have hbw := bchain hbc hb0
    go_upto_region 2 with fail
    go_cut [9, 10] (fun s9 s10 wy => ∃ C : Nat, s9 = .pointer (some ⟨C, 0, none⟩) ∧ s10 = .int .i64 c ∧ FqB wy B x y ∧ FqB wy C x y ∧ Below w.heap.size w wy)
    case first =>
      have kS2 := Lib.hid (fun W (hW : Below wc.heap.size wc W) => kS.out W (bchain hW hbc))
      have hi2 := Lib.hid (fun W (hW : Below wc.heap.size wc W) => hi.out W (hTw.out W (bchain hW hbw)))
      obtain ⟨wS, hwS⟩ : ∃ wS, wS = wc := ⟨_, rfl⟩
      rw [← hwS] at kB hbc hbw kS2 hi2 ⊢
      clear hwS
      replace kB := Lib.hid kB
      refine wp_region_inv (fun fl ac W => ∃ tb td tm u0 u1 u2 u3 u4 u5 u6 u7 u8, ac = { tmps := #[.agg #[.int .i64 k, .int .i64 n, .int .u32 e], .agg #[.int .i64 l, .int .i64 m, .int .u32 f], .agg #[.int .i64 p, .int .i64 q, .int .u32 g], .pointer (some ⟨w.heap.size, 0, none⟩), .pointer (some ⟨w.heap.size + 1, 0, none⟩), .pointer (some ⟨w.heap.size + 1 + 1, 0, none⟩), .bool false, .pointer (some ⟨B, 0, none⟩), .int .i64 c, tb, td, u11, u12, u13, u14, u15, u16, u17, u18, u19, u20, tm, u0, u1, u2, u3, u4, u5, u6, u7, u8, u31, u32, u33, u34, u35, u36, u37, u38, u39], defers := [] } ∧ LJ wS (.agg #[.int .i64 k, .int .i64 n, .int .u32 e]) (.agg #[.int .i64 l, .int .i64 m, .int .u32 f]) (.agg #[.int .i64 p, .int .i64 q, .int .u32 g]) x y c fl tb td tm u0 u1 u2 u3 u4 u5 u6 u7 u8 W) (by kernel_rfl) (by kernel_rfl) ?start ?step ?last
      case start => exact ⟨_, _, _, _, _, _, _, _, _, _, _, _, rfl, (Below.refl _ wS).drew, fun e => (by cases e), fun e => (by cases e), fun e => (by cases e), fun e => (by cases e), fun e => (by cases e), fun e => (by cases e), fun e => (by cases e), fun e => (by cases e), fun e => (by cases e), fun e => (by cases e), fun e => (by cases e), fun e => (by cases e), fun e => (by cases e)⟩
      case step =>
        intro i o fl ac W ho hf hdep hI
        obtain ⟨tb, td, tm, u0, u1, u2, u3, u4, u5, u6, u7, u8, rfl, hJ⟩ := hI
        have hi : i < 13 := (Array.getElem?_eq_some_iff.1 ho).1
        have hc : i = 0 ∨ i = 1 ∨ i = 2 ∨ i = 3 ∨ i = 4 ∨ i = 5 ∨ i = 6 ∨ i = 7 ∨ i = 8 ∨ i = 9 ∨ i = 10 ∨ i = 11 ∨ i = 12 := by omega
        clear hi
        rcases hc with rfl | rfl | rfl | rfl | rfl | rfl | rfl | rfl | rfl | rfl | rfl | rfl | rfl
        · obtain rfl := Option.some.inj ho
          obtain ⟨a0, a1, a2, a3, a4, a5, a6, a7, a8⟩ := kS2.out W hJ.below
          refine wpOp_step rfl (fun K hK => ?_)
          go_simp
          exact hK _ _ ⟨_, _, _, _, _, _, _, _, _, _, _, _, rfl, hJ.p0⟩
        · obtain rfl := Option.some.inj ho
          have e0 : fl 0 = true := hdep ⟨0, .data⟩ (by simp) (by decide)
          obtain rfl := hJ.h0 e0
          refine wpOp_step rfl (fun K hK => ?_)
          go_simp
          go_wp2_with (go_at_call 9; refine (toFlag_any _ _ _ _).mono ?_; rintro r3 w3 ⟨rfl, hb3⟩)
          exact ⟨_, _, _, _, _, _, _, _, _, _, _, _, rfl, (hJ.world hb3).p1⟩
        · obtain rfl := Option.some.inj ho
          obtain ⟨a0, a1, a2, a3, a4, a5, a6, a7, a8⟩ := kS2.out W hJ.below
          refine wpOp_step rfl (fun K hK => ?_)
          go_simp
          exact hK _ _ ⟨_, _, _, _, _, _, _, _, _, _, _, _, rfl, hJ.p2⟩
        · obtain rfl := Option.some.inj ho
          have e0 : fl 2 = true := hdep ⟨2, .data⟩ (by simp) (by decide)
          obtain rfl := hJ.h2 e0
          refine wpOp_step rfl (fun K hK => ?_)
          go_simp
          go_wp2_with (go_at_call 9; refine (toFlag_any _ _ _ _).mono ?_; rintro r3 w3 ⟨rfl, hb3⟩)
          exact ⟨_, _, _, _, _, _, _, _, _, _, _, _, rfl, (hJ.world hb3).p3⟩
        · obtain rfl := Option.some.inj ho
          obtain ⟨a0, a1, a2, a3, a4, a5, a6, a7, a8⟩ := kS2.out W hJ.below
          refine wpOp_step rfl (fun K hK => ?_)
          go_simp
          exact hK _ _ ⟨_, _, _, _, _, _, _, _, _, _, _, _, rfl, hJ.p4⟩
        · obtain rfl := Option.some.inj ho
          have e0 : fl 4 = true := hdep ⟨4, .data⟩ (by simp) (by decide)
          obtain rfl := hJ.h4 e0
          refine wpOp_step rfl (fun K hK => ?_)
          go_simp
          go_wp2_with (go_at_call 9; refine (toFlag_any _ _ _ _).mono ?_; rintro r3 w3 ⟨rfl, hb3⟩)
          exact ⟨_, _, _, _, _, _, _, _, _, _, _, _, rfl, (hJ.world hb3).p5⟩
        · obtain rfl := Option.some.inj ho
          have e1 : fl 1 = true := hdep ⟨1, .data⟩ (by simp) (by decide)
          have e3 : fl 3 = true := hdep ⟨3, .data⟩ (by simp) (by decide)
          have e5 : fl 5 = true := hdep ⟨5, .data⟩ (by simp) (by decide)
          obtain rfl := hJ.h1 e1
          obtain rfl := hJ.h3 e3
          obtain rfl := hJ.h5 e5
          refine wpOp_step rfl (fun K hK => ?_)
          go_simp
          go_wp2_with (go_at_call 10; refine (hi2.out _ hJ.below).mono ?_; rintro r3 w3 ⟨rfl, hb3⟩)
          exact ⟨_, _, _, _, _, _, _, _, _, _, _, _, rfl, (hJ.world hb3).p6⟩
        · obtain rfl := Option.some.inj ho
          have e0 : fl 6 = true := hdep ⟨6, .data⟩ (by simp) (by decide)
          obtain rfl := hJ.h6 e0
          refine wpOp_step rfl (fun K hK => ?_)
          go_simp
          exact hK _ _ ⟨_, _, _, _, _, _, _, _, _, _, _, _, rfl, hJ.p7⟩
        · obtain rfl := Option.some.inj ho
          have e0 : fl 7 = true := hdep ⟨7, .data⟩ (by simp) (by decide)
          obtain rfl := hJ.h7 e0
          refine wpOp_step rfl (fun K hK => ?_)
          go_simp
          exact hK _ _ ⟨_, _, _, _, _, _, _, _, _, _, _, _, rfl, hJ.p8⟩
        · obtain rfl := Option.some.inj ho
          have e0 : fl 7 = true := hdep ⟨7, .data⟩ (by simp) (by decide)
          obtain rfl := hJ.h7 e0
          refine wpOp_step rfl (fun K hK => ?_)
          go_simp
          exact hK _ _ ⟨_, _, _, _, _, _, _, _, _, _, _, _, rfl, hJ.p9⟩
        · obtain rfl := Option.some.inj ho
          refine wpOp_step rfl (fun K hK => ?_)
          go_simp
          exact hK _ _ ⟨_, _, _, _, _, _, _, _, _, _, _, _, rfl, hJ.a10 hf _⟩
        · obtain rfl := Option.some.inj ho
          have e10 : fl 10 = true := hdep ⟨10, .data⟩ (by simp) (by decide)
          have e8 : fl 8 = true := hdep ⟨8, .data⟩ (by simp) (by decide)
          obtain ⟨B, rfl, hB, k0⟩ := hJ.h10 e10
          obtain rfl := hJ.h8 e8
          obtain ⟨_, z0, z1, z2⟩ := id k0
          have z20 := z2 0
          have z21 := z2 1
          refine wpOp_step rfl (fun K hK => ?_)
          go_simp
          exact hK _ _ ⟨_, _, _, _, _, _, _, _, _, _, _, _, rfl, hJ.s11 e10 rfl hB k0⟩
        · obtain rfl := Option.some.inj ho
          have e0 : fl 9 = true := hdep ⟨9, .data⟩ (by simp) (by decide)
          obtain rfl := hJ.h9 e0
          refine wpOp_step rfl (fun K hK => ?_)
          go_simp
          exact hK _ _ ⟨_, _, _, _, _, _, _, _, _, _, _, _, rfl, hJ.p12⟩
      case last =>
        intro fl ac W hall hI
        obtain ⟨tb, td, tm, u0, u1, u2, u3, u4, u5, u6, u7, u8, rfl, hJ⟩ := hI
        obtain rfl := hJ.h0 (hall 0 (show 0 < 13 by decide))
        obtain rfl := hJ.h1 (hall 1 (show 1 < 13 by decide))
        obtain rfl := hJ.h2 (hall 2 (show 2 < 13 by decide))
        obtain rfl := hJ.h3 (hall 3 (show 3 < 13 by decide))
        obtain rfl := hJ.h4 (hall 4 (show 4 < 13 by decide))
        obtain rfl := hJ.h5 (hall 5 (show 5 < 13 by decide))
        obtain rfl := hJ.h6 (hall 6 (show 6 < 13 by decide))
        obtain rfl := hJ.h7 (hall 7 (show 7 < 13 by decide))
        obtain rfl := hJ.h8 (hall 8 (show 8 < 13 by decide))
        obtain rfl := hJ.h9 (hall 9 (show 9 < 13 by decide))
        obtain rfl := hJ.h12 (hall 12 (show 12 < 13 by decide))
        obtain ⟨C, rfl, hC, kC⟩ := hJ.h10 (hall 10 (show 10 < 13 by decide))
        rw [if_pos (hall 11 (show 11 < 13 by decide)), if_pos (hall 11 (show 11 < 13 by decide))] at kC
        have hbx := hJ.below
        go_wp2_with fail
        go_meet
        exact ⟨_, rfl, rfl, kB.out.below hbx, kC, bchain hbx hbw⟩
    case rest =>
      obtain ⟨C, rfl, rfl, kB', kC, h9⟩ := hcut
      obtain ⟨_, p0, p1, _⟩ := kB'
      obtain ⟨_, r0, r1, _⟩ := kC
      clear kB
      go_wp2_with (go_at_call 11; refine (Fr.eqF_any _ _ _).mono ?_; rintro r3 w3 ⟨rfl, hb3⟩)
      go_ret
      exact ⟨rfl, by (repeat (first | exact Below.refl _ _ | assumption | refine bchain (by assumption) ?_ | refine balloc ?_ _ | apply Below.drew | apply below_drewN | (refine Below.alloc ?_ (by (try simp) <;> omega) _) | (refine Below.setCell ?_ (by (try simp) <;> omega) _)))⟩
end JointDensityLaw
theorem JointDensityLaw.lifted (os : Os) (started : os.Started) (H : Type) (enc : TypeId × Value → H) :
    ReturnsInHanded {} Tryd.checked os 3 .any (fun w args => (Rows.fnExactJointDensitySpec.pre enc Tryd.prog Tryd.f3 [] false w args ∧ laidMetH Tryd.prog Rows.fnExactJointDensityRow.laid w) ∧ sizedMet enc Tryd.prog Tryd.f3 (OpenSpec.ofChange Rows.fnExactJointDensitySpec) false w args)
      (Rows.fnExactJointDensitySpec.post enc Tryd.prog Tryd.f3 false true false false) := by
  refine fr_liftC (C := Tryd.checked) (laid := Rows.fnExactJointDensityRow.laid) own started (by kernel_rfl) Tryd.func3 laid_out (by kernel_rfl) (by kernel_rfl) (tb := 4) rfl Tryd.underlying4 ?hs
    (ChangeSpec.witness_shaped (enc := enc) (C := Tryd.checked) (os := os) (X := fun w _ => laidMetH Tryd.prog Rows.fnExactJointDensityRow.laid w) false (World.doorLaid Tryd.prog 400 os) #[.agg #[.int .i64 0, .int .i64 0, .int .u32 0], .agg #[.int .i64 0, .int .i64 0, .int .u32 0], .agg #[.int .i64 0, .int .i64 0, .int .u32 0]] 8 rfl
      (World.shaped_of_RefB (by kernel_rfl) (by kernel_rfl)) (by kernel_rfl) (by kernel_rfl) (by kernel_rfl) (laidMetH_of_parts3 (fuel := 8) (laidMet_of_run' 8 (by kernel_rfl) (by kernel_rfl)) (by kernel_rfl) (by kernel_rfl))) ?_
  case hs =>
    intro ds gs h h2
    match ds, h, gs, h2 with
    | [d0, d1, d2], _, [], _ => rfl
  intro W base args ds gs p hval0 hA0 hlt hsz hL0
  have hL : laidMet Tryd.prog Rows.fnExactJointDensityRow.laid W := by rw [← MakeChecks.laidMetH_plain _ _ _ (by kernel_rfl)]; exact hL0
  have hval : ∀ (j : Nat) t v, Tryd.f3.params[j]? = some t → args[j]? = some v → Value.okWide Tryd.prog W .any base t v := hval0
  have hA : DataW.TrodAll enc Tryd.prog W 0 (fun _ => true) true Tryd.f3.params.toList args.toList ds p := hA0
  rw [Tryd.params3] at hA hval
  obtain ⟨v0, vs0, d0, ds0, p0, q0, hargs, rfl, rfl, h0, r0⟩ := trodAll_cons hA
  obtain ⟨v1, vs1, d1, ds1, p1, q1, rfl, rfl, rfl, h1, r1⟩ := trodAll_cons r0
  obtain ⟨v2, vs2, d2, ds2, p2, q2, rfl, rfl, rfl, h2, r2⟩ := trodAll_cons r1
  obtain ⟨rfl, rfl, rfl⟩ := trodAll_nil r2
  obtain rfl : args = #[v0, v1, v2] := by cases args; simp_all
  obtain ⟨k0, a0, b0, rfl, l0, w0, u0⟩ := open_lflag (hval 0 26 v0 rfl rfl) h0
  obtain ⟨k1, a1, b1, rfl, l1, w1, u1⟩ := open_lflag (hval 1 26 v1 rfl rfl) h1
  obtain ⟨k2, a2, b2, rfl, l2, w2, u2⟩ := open_lflag (hval 2 26 v2 rfl rfl) h2
  exact JointDensityLaw.walk k0 a0 b0 w0 u0 k1 a1 b1 w1 u1 k2 a2 b2 w2 u2 W (tabZ_of_laid hL)

theorem jointDensity_holds_row : Rows.FnExactJointDensitySaid :=
  OpenClaim.holds_of_wide 3 Tryd.f3 rfl rfl rfl rfl rfl rfl rfl ⟨rfl, rfl, rfl, rfl, rfl⟩ rfl rfl rfl rfl rfl (by kernel_rfl) Tryd.func3 (by kernel_rfl)
    (of_decide_eq_true (by kernel_rfl)) (by unfold Func.isWrapper; rw [if_neg (of_decide_eq_false (by kernel_rfl))]; exact ⟨rfl, rfl⟩)
    (fun os started H enc _ => JointDensityLaw.lifted os started H enc)
theorem jointDensity_holds : Rows.FnExactJointDensityCardSaid :=
  Claim7.holds_tied_plain_at .later [] Rows.fnExactJointDensityCard.laidKinds true Rows.fnExactJointDensityCard.stood.harness Rows.fnExactJointDensityCard.stood.looks jointDensity_holds_row (fun _ h => by cases h) (by kernel_rfl) (fun _ h => by cases h) fnExactJointDensity_row_tie rfl ⟨rfl, rfl⟩ (by kernel_rfl) rfl
    (fun f fn hf hfn => by
      obtain rfl : f = 3 := Option.some.inj ((show Tryd.prog.funcNamed "loop.example/g01169/laws.FnExactJointDensity" = some 3 by kernel_rfl).symm.trans hf) |>.symm
      obtain rfl : fn = Tryd.f3 := (Option.some.inj (Tryd.func3.symm.trans hfn)).symm
      exact ⟨by kernel_rfl, fun j t ht => by
        rw [Tryd.params3] at ht
        have hm : t ∈ [26, 26, 26] := by simpa using Array.mem_of_getElem? ht
        have hall : ([26, 26, 26].all fun u => !Tryd.prog.wantsStandIn u) = true := by kernel_rfl
        exact (show Tryd.prog.wantsStandIn t = false by simpa using List.all_eq_true.1 hall t hm)⟩)
    (by kernel_rfl)
#print axioms jointDensity_holds
end Go.Proofs.YtncbimbbkealmaaDoor
