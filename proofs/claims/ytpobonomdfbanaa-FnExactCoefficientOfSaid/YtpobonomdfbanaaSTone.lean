/-
  SumOfFlag: both contracts.
-/
import Derived.Test.YtpobonomdfbanaaSTown
import Derived.Test.YtpobonomdfbanaaKSmall
import Derived.Test.YtpobonomdfbanaaKLeast
import Derived.Test.YtpobonomdfbanaaKSLeast
import Derived.Deep.RegionHeld3
namespace Go.Proofs.Ytpobonomdfbanaa
open Go.RowKit
set_option maxRecDepth 100000
/-- what a cell holds -/
def cellOf (w : World) (a : Addr) : Value := (w.cell? a).getD undef
theorem cellOf_of {w : World} {a : Addr} {v : Value} (h : w.cell? a = some v) : w.cell? a = some (cellOf w a) := by unfold cellOf; rw [h]; rfl
/-- a flag's box, and a sum's behind it -/
def OneS (G : Nat) (k n e : Int) (A : World) : Prop := A.cell? ⟨G, 0, none⟩ = some (.int .i64 k) ∧ A.cell? ⟨G, 1, none⟩ = some (.int .i64 n) ∧ A.cell? ⟨G, 2, none⟩ = some (.int .u32 e) ∧
  A.cell? ⟨G + 1, 0, none⟩ = some (cellOf A ⟨G + 1, 0, none⟩) ∧ A.cell? ⟨G + 1, 1, none⟩ = some (cellOf A ⟨G + 1, 1, none⟩) ∧ A.cell? ⟨G + 1, 2, none⟩ = some (cellOf A ⟨G + 1, 2, none⟩) ∧ A.cell? ⟨G + 1, 3, none⟩ = some (cellOf A ⟨G + 1, 3, none⟩) ∧
  A.frozen? ⟨G + 1, 0, none⟩ = false ∧ A.frozen? ⟨G + 1, 1, none⟩ = false ∧ A.frozen? ⟨G + 1, 2, none⟩ = false ∧ A.frozen? ⟨G + 1, 3, none⟩ = false
structure One0 (w : World) (G : Nat) (k n e : Int) : Prop where
  fc : FC w G k n e
  sb : SB w (G + 1) 0 0 0 (.slice none 0 0)
theorem One0.below {w W : World} {G : Nat} {k n e : Int} (h : One0 w G k n e) (hb : Below w.heap.size w W) : One0 W G k n e := ⟨h.fc.below hb, h.sb.below hb⟩
theorem One0.s {w : World} {G : Nat} {k n e : Int} (h : One0 w G k n e) : OneS G k n e w := ⟨h.fc.c0, h.fc.c1, h.fc.c2, cellOf_of h.sb.c0, cellOf_of h.sb.c1, cellOf_of h.sb.c2, cellOf_of h.sb.c3, h.sb.fz _, h.sb.fz _, h.sb.fz _, h.sb.fz _⟩
theorem One0.held {w W S : World} {G : Nat} {k n e x y z : Int} {u : Value} (h : One0 w G k n e) (hb : Below w.heap.size w W) (hS : S = (((W.setCell ⟨G + 1, 0, none⟩ (.int .i64 x)).setCell ⟨G + 1, 1, none⟩ (.int .u32 y)).setCell ⟨G + 1, 2, none⟩ (.int .i64 z)).setCell ⟨G + 1, 3, none⟩ u) : OneS G k n e S := by
  have q := h.below hb
  have hs := q.sb.all x y z u
  have hf := (((q.fc.other (p := ⟨G + 1, 0, none⟩) (.int .i64 x) (by show G + 1 ≠ G; omega)).other (p := ⟨G + 1, 1, none⟩) (.int .u32 y) (by show G + 1 ≠ G; omega)).other (p := ⟨G + 1, 2, none⟩) (.int .i64 z) (by show G + 1 ≠ G; omega)).other (p := ⟨G + 1, 3, none⟩) u (by show G + 1 ≠ G; omega)
  subst hS
  exact ⟨hf.c0, hf.c1, hf.c2, cellOf_of hs.c0, cellOf_of hs.c1, cellOf_of hs.c2, cellOf_of hs.c3, hs.fz _, hs.fz _, hs.fz _, hs.fz _⟩
theorem One0.made (w : World) (k n e : Int) : One0 ((w.alloc (.cells #[.int .i64 k, .int .i64 n, .int .u32 e] 34)).alloc (.cells #[.int .i64 0, .int .u32 0, .int .i64 0, .slice none 0 0] 50)) w.heap.size k n e := by
  have sz : (w.alloc (.cells #[.int .i64 k, .int .i64 n, .int .u32 e] 34)).heap.size = w.heap.size + 1 := by simp
  refine ⟨(FC.made w k n e 34).below (balloc (Below.refl _ _) _), ?_⟩
  rw [← sz]
  exact SB.made _ 0 0 0 _ _
/-- a list of one term -/
theorem own_one (w0 w : World) (g : TE) (t : TypeId) (h : w0.heap.size ≤ w.heap.size) : OwnT w0 (w.alloc (.cells #[.int .i64 g.k, .int .i64 g.n, .int .u32 g.e, .int .i64 g.p, .int .i64 g.q] t)) (.slice (some ⟨w.heap.size, 0, none⟩) 1 1) [g] := by
  have b := TB.made w g.k g.n g.e g.p g.q t
  refine ⟨_, 1, rfl, Nat.le_refl _, by omega, fun _ => ⟨w.heap.size, rfl, h, b.lt, fun i hi => ?_, b.fz⟩⟩
  have hi : i < 5 := hi
  match i, hi with
  | 0, _ => exact b.c0
  | 1, _ => exact b.c1
  | 2, _ => exact b.c2
  | 3, _ => exact b.c3
  | 4, _ => exact b.c4
section
variable (w : World)
theorem iwh_any (x : Int) : Calls Try.prog 74 #[.int .i64 x] w fun r w' => r = .returned (.agg #[.int .i64 x, .int .i64 1]) ∧ Below w.heap.size w w' := by
  go_enter Try.func74, Try.ntmps74
  go_wp2
  exact bodyPost_ret (v := .agg #[.int .i64 x, .int .i64 1]) (by simp [results, Try.results74, go_sem]) rfl ⟨rfl, by (repeat (first | exact Below.refl _ _ | assumption | refine bchain (by assumption) ?_ | refine balloc ?_ _ | apply Below.drew | apply below_drewN | (refine Below.alloc ?_ (by (try simp) <;> omega) _) | (refine Below.setCell ?_ (by (try simp) <;> omega) _)))⟩
theorem slone_any (x : Int) : Calls Try.prog 82 #[.int .i64 x] w fun r w' => r = .returned (.agg #[.int .i64 x, .int .i64 1]) ∧ Below w.heap.size w w' := by
  go_enter Try.func82, Try.ntmps82
  go_wp2
  exact bodyPost_ret (v := .agg #[.int .i64 x, .int .i64 1]) (by simp [results, Try.results82, go_sem]) rfl ⟨rfl, by (repeat (first | exact Below.refl _ _ | assumption | refine bchain (by assumption) ?_ | refine balloc ?_ _ | apply Below.drew | apply below_drewN | (refine Below.alloc ?_ (by (try simp) <;> omega) _) | (refine Below.setCell ?_ (by (try simp) <;> omega) _)))⟩
theorem iso_any (k n e : Int) : Calls Try.prog 83 #[.agg #[.int .i64 k, .int .i64 n, .int .u32 e]] w fun r w' => r = .returned (.int .i64 n) ∧ Below w.heap.size w w' := by
  go_enter Try.func83, Try.ntmps83
  go_wp2
  go_ret
  exact ⟨rfl, by (repeat (first | exact Below.refl _ _ | assumption | refine bchain (by assumption) ?_ | refine balloc ?_ _ | apply Below.drew | apply below_drewN | (refine Below.alloc ?_ (by (try simp) <;> omega) _) | (refine Below.setCell ?_ (by (try simp) <;> omega) _)))⟩
theorem i1_inv (k n e : Int) (hf : e < 4294967296) (h0 : 0 ≤ e) (hv : ¬ VK k n e) :
    Calls Try.prog 36 #[.agg #[.int .i64 k, .int .i64 n, .int .u32 e]] w (RetS w ⟨0, 0, 0, []⟩ 1) := by
  obtain ⟨W0, hW0⟩ : ∃ W0, W0 = (w.alloc (.cells #[.int .i64 k, .int .i64 n, .int .u32 e] 34)).alloc (.cells #[.int .i64 0, .int .u32 0, .int .i64 0, .slice none 0 0] 50) := ⟨_, rfl⟩
  have hbw : Below w.heap.size w W0 := by rw [hW0]; (repeat (first | exact Below.refl _ _ | assumption | refine bchain (by assumption) ?_ | refine balloc ?_ _ | apply Below.drew | apply below_drewN | (refine Below.alloc ?_ (by (try simp) <;> omega) _) | (refine Below.setCell ?_ (by (try simp) <;> omega) _)))
  have hm : One0 W0 w.heap.size k n e := by rw [hW0]; exact One0.made w k n e
  replace hW0 := Lib.hid hW0
  obtain ⟨_, f0, f1, f2⟩ := id hm.fc
  go_enter Try.func36, Try.ntmps36
  go_wp2_with fail
  rw [← hW0.out]
  go_wp2_with fail
  refine (ivk_f _ k n e hf h0 hv).mono ?_
  rintro r1 w1 ⟨rfl, hb1⟩
  have hsb := hm.sb.below hb1
  replace hbw := bchain hb1 hbw
  clear hb1 hm f0 f1 f2
  obtain ⟨ltO, o0, o1, o2, o3, fO⟩ := id hsb
  go_wp2
  have hF := hsb.all (0) (0) (0) (.slice none 0 0)
  have hBB := ((((hbw.setCell (p := ⟨w.heap.size + 1, 0, none⟩) (by show w.heap.size ≤ w.heap.size + 1; omega) (.int .i64 (0))).setCell (p := ⟨w.heap.size + 1, 1, none⟩) (by show w.heap.size ≤ w.heap.size + 1; omega) (.int .u32 (0))).setCell (p := ⟨w.heap.size + 1, 2, none⟩) (by show w.heap.size ≤ w.heap.size + 1; omega) (.int .i64 (0))).setCell (p := ⟨w.heap.size + 1, 3, none⟩) (by show w.heap.size ≤ w.heap.size + 1; omega) (.slice none 0 0))
  obtain ⟨WW, hWW⟩ : ∃ WW, WW = ((((w1.setCell ⟨w.heap.size + 1, 0, none⟩ (.int .i64 (0))).setCell ⟨w.heap.size + 1, 1, none⟩ (.int .u32 (0))).setCell ⟨w.heap.size + 1, 2, none⟩ (.int .i64 (0))).setCell ⟨w.heap.size + 1, 3, none⟩ (.slice none 0 0)) := ⟨_, rfl⟩
  rw [← hWW] at hF hBB ⊢
  clear hWW
  obtain ⟨_, hF0, hF1, hF2, hF3, _⟩ := hF
  exact bodyPost_ret (v := .tuple #[.agg #[.int .i64 (0), .int .u32 (0), .int .i64 (0), .slice none 0 0], .int .i64 1]) (by simp [results, Try.results36, go_sem, hF0, hF1, hF2, hF3]) rfl ⟨⟨_, rfl, ownT_nil⟩, hBB⟩
set_option maxHeartbeats 2000000 in
theorem i1_ok (k n e : Nat) (hv : VK k n e) :
    Calls Try.prog 36 #[.agg #[.int .i64 k, .int .i64 n, .int .u32 e]] w (RetS w ⟨k, (onL e (List.range k) : Nat), n, [⟨k, n, (leastK n k e : Nat), 1, 1⟩]⟩ 0) := by
  have hT := Lib.hid (fun W => ity_any W k n e hv)
  have hL := Lib.hid (fun W => leastK_any W k n e hv)
  have hV := Lib.hid (fun W => ivk_t W k n e hv)
  obtain ⟨t, ht⟩ : ∃ t, onL e (List.range k) = t := ⟨_, rfl⟩
  obtain ⟨l, hl⟩ : ∃ l, leastK n k e = l := ⟨_, rfl⟩
  rw [ht] at hT ⊢
  rw [hl] at hL ⊢
  clear ht hl hv
  obtain ⟨W0, hW0⟩ : ∃ W0, W0 = (w.alloc (.cells #[.int .i64 k, .int .i64 n, .int .u32 e] 34)).alloc (.cells #[.int .i64 0, .int .u32 0, .int .i64 0, .slice none 0 0] 50) := ⟨_, rfl⟩
  have hbw : Below w.heap.size w W0 := by rw [hW0]; (repeat (first | exact Below.refl _ _ | assumption | refine bchain (by assumption) ?_ | refine balloc ?_ _ | apply Below.drew | apply below_drewN | (refine Below.alloc ?_ (by (try simp) <;> omega) _) | (refine Below.setCell ?_ (by (try simp) <;> omega) _)))
  have hm : One0 W0 w.heap.size k n e := by rw [hW0]; exact One0.made w k n e
  replace hW0 := Lib.hid hW0
  obtain ⟨_, f0, f1, f2⟩ := id hm.fc
  go_enter Try.func36, Try.ntmps36
  go_wp2_with fail
  rw [← hW0.out]
  go_wp2_with fail
  refine (hV.out _).mono ?_
  rintro r1 w1 ⟨rfl, hb1⟩
  have kk := Lib.hid (hm.below hb1)
  replace hbw := bchain hb1 hbw
  clear hb1 hm f0 f1 f2
  obtain ⟨_, f0, f1, f2⟩ := kk.out.fc
  obtain ⟨ltO, o0, o1, o2, o3, fO⟩ := kk.out.sb
  go_wp2_with fail
  go_region_held3 (fun A => A.cell? ⟨w.heap.size, 0, none⟩ = some (.int .i64 (k : Int)) ∧ A.cell? ⟨w.heap.size, 1, none⟩ = some (.int .i64 (n : Int)) ∧ A.cell? ⟨w.heap.size, 2, none⟩ = some (.int .u32 (e : Int)) ∧
  A.cell? ⟨w.heap.size + 1, 0, none⟩ = some (cellOf A ⟨w.heap.size + 1, 0, none⟩) ∧ A.cell? ⟨w.heap.size + 1, 1, none⟩ = some (cellOf A ⟨w.heap.size + 1, 1, none⟩) ∧ A.cell? ⟨w.heap.size + 1, 2, none⟩ = some (cellOf A ⟨w.heap.size + 1, 2, none⟩) ∧ A.cell? ⟨w.heap.size + 1, 3, none⟩ = some (cellOf A ⟨w.heap.size + 1, 3, none⟩) ∧
  A.frozen? ⟨w.heap.size + 1, 0, none⟩ = false ∧ A.frozen? ⟨w.heap.size + 1, 1, none⟩ = false ∧ A.frozen? ⟨w.heap.size + 1, 2, none⟩ = false ∧ A.frozen? ⟨w.heap.size + 1, 3, none⟩ = false)
    (first | exact kk.out.held (by (repeat (first | exact Below.refl _ _ | assumption | refine bchain (by assumption) ?_ | refine balloc ?_ _ | apply Below.drew | apply below_drewN | (refine Below.alloc ?_ (by (try simp) <;> omega) _) | (refine Below.setCell ?_ (by (try simp) <;> omega) _)))) rfl | exact (kk.out.below (by (repeat (first | exact Below.refl _ _ | assumption | refine bchain (by assumption) ?_ | refine balloc ?_ _ | apply Below.drew | apply below_drewN | (refine Below.alloc ?_ (by (try simp) <;> omega) _) | (refine Below.setCell ?_ (by (try simp) <;> omega) _))))).s)
    (first
    | (go_at_call 61; refine (hT.out _).mono ?_; rintro r2 w2 ⟨rfl, hb2⟩)
    | (go_at_call 72; refine (hL.out _).mono ?_; rintro r3 w3 ⟨rfl, hb3⟩)
    | (go_at_call 83; refine (iso_any _ k n e).mono ?_; rintro r4 w4 ⟨rfl, hb4⟩)
    | (go_at_call 74; refine (iwh_any _ 1).mono ?_; rintro r5 w5 ⟨rfl, hb5⟩))
  all_goals
    go_wp2
  have hb15 : Below w1.heap.size w1 w5 := by (repeat (first | exact Below.refl _ _ | assumption | refine bchain (by assumption) ?_ | refine balloc ?_ _ | apply Below.drew | apply below_drewN | (refine Below.alloc ?_ (by (try simp) <;> omega) _) | (refine Below.setCell ?_ (by (try simp) <;> omega) _)))
  have k5 := kk.out.below hb15
  have hbw5 : Below w.heap.size w w5 := hbw.trans (hb15.mono hbw.size)
  obtain ⟨WA, hWA⟩ : ∃ WA, WA = w5.alloc (.cells #[.int .i64 k, .int .i64 n, .int .u32 l, .int .i64 1, .int .i64 1] 100) := ⟨_, rfl⟩
  have hsb : SB WA (w.heap.size + 1) 0 0 0 (.slice none 0 0) := by rw [hWA]; exact k5.sb.below (balloc (Below.refl _ _) _)
  have hown : OwnT w5 WA (.slice (some ⟨w5.heap.size, 0, none⟩) 1 1) [⟨k, n, l, 1, 1⟩] := by rw [hWA]; exact own_one w5 w5 ⟨k, n, l, 1, 1⟩ _ (Nat.le_refl _)
  replace hbw : Below w.heap.size w WA := by rw [hWA]; exact balloc hbw5 _
  have hz5 : w.heap.size + 1 < w5.heap.size := k5.sb.lt
  have hw5 := hbw5.size
  rw [← hWA]
  clear hWA
  have hF := hsb.all (k) (t) (n) (.slice (some ⟨w5.heap.size, 0, none⟩) 1 1)
  have hBB := ((((hbw.setCell (p := ⟨w.heap.size + 1, 0, none⟩) (by show w.heap.size ≤ w.heap.size + 1; omega) (.int .i64 (k))).setCell (p := ⟨w.heap.size + 1, 1, none⟩) (by show w.heap.size ≤ w.heap.size + 1; omega) (.int .u32 (t))).setCell (p := ⟨w.heap.size + 1, 2, none⟩) (by show w.heap.size ≤ w.heap.size + 1; omega) (.int .i64 (n))).setCell (p := ⟨w.heap.size + 1, 3, none⟩) (by show w.heap.size ≤ w.heap.size + 1; omega) (.slice (some ⟨w5.heap.size, 0, none⟩) 1 1))
  obtain ⟨WW, hWW⟩ : ∃ WW, WW = ((((WA.setCell ⟨w.heap.size + 1, 0, none⟩ (.int .i64 (k))).setCell ⟨w.heap.size + 1, 1, none⟩ (.int .u32 (t))).setCell ⟨w.heap.size + 1, 2, none⟩ (.int .i64 (n))).setCell ⟨w.heap.size + 1, 3, none⟩ (.slice (some ⟨w5.heap.size, 0, none⟩) 1 1)) := ⟨_, rfl⟩
  have hOW := OwnT.four hown hz5 hw5 (.int .i64 (k)) (.int .u32 (t)) (.int .i64 (n)) (.slice (some ⟨w5.heap.size, 0, none⟩) 1 1)
  rw [← hWW] at hF hBB hOW ⊢
  clear hWW
  obtain ⟨_, hF0, hF1, hF2, hF3, _⟩ := hF
  exact bodyPost_ret (v := .tuple #[.agg #[.int .i64 (k), .int .u32 (t), .int .i64 (n), .slice (some ⟨w5.heap.size, 0, none⟩) 1 1], .int .i64 0]) (by simp [results, Try.results36, go_sem, hF0, hF1, hF2, hF3]) rfl ⟨⟨_, rfl, hOW⟩, hBB⟩
theorem s1_inv (k n e : Int) (hf : e < 4294967296) (h0 : 0 ≤ e) (hv : ¬ VK k n e) :
    Calls Try.prog 35 #[.agg #[.int .i64 k, .int .i64 n, .int .u32 e]] w (RetS w ⟨0, 0, 0, []⟩ 1) := by
  obtain ⟨W0, hW0⟩ : ∃ W0, W0 = (w.alloc (.cells #[.int .i64 k, .int .i64 n, .int .u32 e] 34)).alloc (.cells #[.int .i64 0, .int .u32 0, .int .i64 0, .slice none 0 0] 50) := ⟨_, rfl⟩
  have hbw : Below w.heap.size w W0 := by rw [hW0]; (repeat (first | exact Below.refl _ _ | assumption | refine bchain (by assumption) ?_ | refine balloc ?_ _ | apply Below.drew | apply below_drewN | (refine Below.alloc ?_ (by (try simp) <;> omega) _) | (refine Below.setCell ?_ (by (try simp) <;> omega) _)))
  have hm : One0 W0 w.heap.size k n e := by rw [hW0]; exact One0.made w k n e
  replace hW0 := Lib.hid hW0
  obtain ⟨_, f0, f1, f2⟩ := id hm.fc
  go_enter Try.func35, Try.ntmps35
  go_wp2_with fail
  rw [← hW0.out]
  go_wp2_with fail
  refine (sok_f _ k n e hf h0 hv).mono ?_
  rintro r1 w1 ⟨rfl, hb1⟩
  have hsb := hm.sb.below hb1
  replace hbw := bchain hb1 hbw
  clear hb1 hm f0 f1 f2
  obtain ⟨ltO, o0, o1, o2, o3, fO⟩ := id hsb
  go_wp2
  have hF := hsb.all (0) (0) (0) (.slice none 0 0)
  have hBB := ((((hbw.setCell (p := ⟨w.heap.size + 1, 0, none⟩) (by show w.heap.size ≤ w.heap.size + 1; omega) (.int .i64 (0))).setCell (p := ⟨w.heap.size + 1, 1, none⟩) (by show w.heap.size ≤ w.heap.size + 1; omega) (.int .u32 (0))).setCell (p := ⟨w.heap.size + 1, 2, none⟩) (by show w.heap.size ≤ w.heap.size + 1; omega) (.int .i64 (0))).setCell (p := ⟨w.heap.size + 1, 3, none⟩) (by show w.heap.size ≤ w.heap.size + 1; omega) (.slice none 0 0))
  obtain ⟨WW, hWW⟩ : ∃ WW, WW = ((((w1.setCell ⟨w.heap.size + 1, 0, none⟩ (.int .i64 (0))).setCell ⟨w.heap.size + 1, 1, none⟩ (.int .u32 (0))).setCell ⟨w.heap.size + 1, 2, none⟩ (.int .i64 (0))).setCell ⟨w.heap.size + 1, 3, none⟩ (.slice none 0 0)) := ⟨_, rfl⟩
  rw [← hWW] at hF hBB ⊢
  clear hWW
  obtain ⟨_, hF0, hF1, hF2, hF3, _⟩ := hF
  exact bodyPost_ret (v := .tuple #[.agg #[.int .i64 (0), .int .u32 (0), .int .i64 (0), .slice none 0 0], .int .i64 1]) (by simp [results, Try.results35, go_sem, hF0, hF1, hF2, hF3]) rfl ⟨⟨_, rfl, ownT_nil⟩, hBB⟩
set_option maxHeartbeats 2000000 in
theorem s1_ok (k n e : Nat) (hv : VK k n e) :
    Calls Try.prog 35 #[.agg #[.int .i64 k, .int .i64 n, .int .u32 e]] w (RetS w ⟨k, (onL e (List.range k) : Nat), n, [⟨k, n, (leastK n k e : Nat), 1, 1⟩]⟩ 0) := by
  have hT := Lib.hid (fun W => sty_any W k n e hv)
  have hL := Lib.hid (fun W => sleastK_any W k n e hv)
  have hV := Lib.hid (fun W => sok_t W k n e hv)
  obtain ⟨t, ht⟩ : ∃ t, onL e (List.range k) = t := ⟨_, rfl⟩
  obtain ⟨l, hl⟩ : ∃ l, leastK n k e = l := ⟨_, rfl⟩
  rw [ht] at hT ⊢
  rw [hl] at hL ⊢
  clear ht hl hv
  obtain ⟨W0, hW0⟩ : ∃ W0, W0 = (w.alloc (.cells #[.int .i64 k, .int .i64 n, .int .u32 e] 34)).alloc (.cells #[.int .i64 0, .int .u32 0, .int .i64 0, .slice none 0 0] 50) := ⟨_, rfl⟩
  have hbw : Below w.heap.size w W0 := by rw [hW0]; (repeat (first | exact Below.refl _ _ | assumption | refine bchain (by assumption) ?_ | refine balloc ?_ _ | apply Below.drew | apply below_drewN | (refine Below.alloc ?_ (by (try simp) <;> omega) _) | (refine Below.setCell ?_ (by (try simp) <;> omega) _)))
  have hm : One0 W0 w.heap.size k n e := by rw [hW0]; exact One0.made w k n e
  replace hW0 := Lib.hid hW0
  obtain ⟨_, f0, f1, f2⟩ := id hm.fc
  go_enter Try.func35, Try.ntmps35
  go_wp2_with fail
  rw [← hW0.out]
  go_wp2_with fail
  refine (hV.out _).mono ?_
  rintro r1 w1 ⟨rfl, hb1⟩
  have kk := Lib.hid (hm.below hb1)
  replace hbw := bchain hb1 hbw
  clear hb1 hm f0 f1 f2
  obtain ⟨_, f0, f1, f2⟩ := kk.out.fc
  obtain ⟨ltO, o0, o1, o2, o3, fO⟩ := kk.out.sb
  go_wp2_with fail
  go_region_held3 (fun A => A.cell? ⟨w.heap.size, 0, none⟩ = some (.int .i64 (k : Int)) ∧ A.cell? ⟨w.heap.size, 1, none⟩ = some (.int .i64 (n : Int)) ∧ A.cell? ⟨w.heap.size, 2, none⟩ = some (.int .u32 (e : Int)) ∧
  A.cell? ⟨w.heap.size + 1, 0, none⟩ = some (cellOf A ⟨w.heap.size + 1, 0, none⟩) ∧ A.cell? ⟨w.heap.size + 1, 1, none⟩ = some (cellOf A ⟨w.heap.size + 1, 1, none⟩) ∧ A.cell? ⟨w.heap.size + 1, 2, none⟩ = some (cellOf A ⟨w.heap.size + 1, 2, none⟩) ∧ A.cell? ⟨w.heap.size + 1, 3, none⟩ = some (cellOf A ⟨w.heap.size + 1, 3, none⟩) ∧
  A.frozen? ⟨w.heap.size + 1, 0, none⟩ = false ∧ A.frozen? ⟨w.heap.size + 1, 1, none⟩ = false ∧ A.frozen? ⟨w.heap.size + 1, 2, none⟩ = false ∧ A.frozen? ⟨w.heap.size + 1, 3, none⟩ = false)
    (first | exact kk.out.held (by (repeat (first | exact Below.refl _ _ | assumption | refine bchain (by assumption) ?_ | refine balloc ?_ _ | apply Below.drew | apply below_drewN | (refine Below.alloc ?_ (by (try simp) <;> omega) _) | (refine Below.setCell ?_ (by (try simp) <;> omega) _)))) rfl | exact (kk.out.below (by (repeat (first | exact Below.refl _ _ | assumption | refine bchain (by assumption) ?_ | refine balloc ?_ _ | apply Below.drew | apply below_drewN | (refine Below.alloc ?_ (by (try simp) <;> omega) _) | (refine Below.setCell ?_ (by (try simp) <;> omega) _))))).s)
    (first
    | (go_at_call 53; refine (hT.out _).mono ?_; rintro r2 w2 ⟨rfl, hb2⟩)
    | (go_at_call 54; refine (hL.out _).mono ?_; rintro r3 w3 ⟨rfl, hb3⟩)
    | (go_at_call 82; refine (slone_any _ 1).mono ?_; rintro r5 w5 ⟨rfl, hb5⟩))
  all_goals
    go_wp2
  have hb15 : Below w1.heap.size w1 w5 := by (repeat (first | exact Below.refl _ _ | assumption | refine bchain (by assumption) ?_ | refine balloc ?_ _ | apply Below.drew | apply below_drewN | (refine Below.alloc ?_ (by (try simp) <;> omega) _) | (refine Below.setCell ?_ (by (try simp) <;> omega) _)))
  have k5 := kk.out.below hb15
  have hbw5 : Below w.heap.size w w5 := hbw.trans (hb15.mono hbw.size)
  obtain ⟨WA, hWA⟩ : ∃ WA, WA = w5.alloc (.cells #[.int .i64 k, .int .i64 n, .int .u32 l, .int .i64 1, .int .i64 1] 100) := ⟨_, rfl⟩
  have hsb : SB WA (w.heap.size + 1) 0 0 0 (.slice none 0 0) := by rw [hWA]; exact k5.sb.below (balloc (Below.refl _ _) _)
  have hown : OwnT w5 WA (.slice (some ⟨w5.heap.size, 0, none⟩) 1 1) [⟨k, n, l, 1, 1⟩] := by rw [hWA]; exact own_one w5 w5 ⟨k, n, l, 1, 1⟩ _ (Nat.le_refl _)
  replace hbw : Below w.heap.size w WA := by rw [hWA]; exact balloc hbw5 _
  have hz5 : w.heap.size + 1 < w5.heap.size := k5.sb.lt
  have hw5 := hbw5.size
  rw [← hWA]
  clear hWA
  have hF := hsb.all (k) (t) (n) (.slice (some ⟨w5.heap.size, 0, none⟩) 1 1)
  have hBB := ((((hbw.setCell (p := ⟨w.heap.size + 1, 0, none⟩) (by show w.heap.size ≤ w.heap.size + 1; omega) (.int .i64 (k))).setCell (p := ⟨w.heap.size + 1, 1, none⟩) (by show w.heap.size ≤ w.heap.size + 1; omega) (.int .u32 (t))).setCell (p := ⟨w.heap.size + 1, 2, none⟩) (by show w.heap.size ≤ w.heap.size + 1; omega) (.int .i64 (n))).setCell (p := ⟨w.heap.size + 1, 3, none⟩) (by show w.heap.size ≤ w.heap.size + 1; omega) (.slice (some ⟨w5.heap.size, 0, none⟩) 1 1))
  obtain ⟨WW, hWW⟩ : ∃ WW, WW = ((((WA.setCell ⟨w.heap.size + 1, 0, none⟩ (.int .i64 (k))).setCell ⟨w.heap.size + 1, 1, none⟩ (.int .u32 (t))).setCell ⟨w.heap.size + 1, 2, none⟩ (.int .i64 (n))).setCell ⟨w.heap.size + 1, 3, none⟩ (.slice (some ⟨w5.heap.size, 0, none⟩) 1 1)) := ⟨_, rfl⟩
  have hOW := OwnT.four hown hz5 hw5 (.int .i64 (k)) (.int .u32 (t)) (.int .i64 (n)) (.slice (some ⟨w5.heap.size, 0, none⟩) 1 1)
  rw [← hWW] at hF hBB hOW ⊢
  clear hWW
  obtain ⟨_, hF0, hF1, hF2, hF3, _⟩ := hF
  exact bodyPost_ret (v := .tuple #[.agg #[.int .i64 (k), .int .u32 (t), .int .i64 (n), .slice (some ⟨w5.heap.size, 0, none⟩) 1 1], .int .i64 0]) (by simp [results, Try.results35, go_sem, hF0, hF1, hF2, hF3]) rfl ⟨⟨_, rfl, hOW⟩, hBB⟩
end
theorem one_both (k n e : Int) (hf : e < 4294967296) (h0 : 0 ≤ e) : ∃ (L : SM) (c : Int), L.ts.length ≤ 1048576 ∧
    (∀ W, Calls Try.prog 35 #[.agg #[.int .i64 k, .int .i64 n, .int .u32 e]] W (RetS W L c)) ∧
    (∀ W, Calls Try.prog 36 #[.agg #[.int .i64 k, .int .i64 n, .int .u32 e]] W (RetS W L c)) := by
  by_cases hv : VK k n e
  · obtain ⟨k, n, e, rfl, rfl, rfl⟩ : ∃ k' n' e' : Nat, k = k' ∧ n = n' ∧ e = e' := ⟨k.toNat, n.toNat, e.toNat, by have := hv.2.1; omega, by have := hv.1.1; omega, by omega⟩
    exact ⟨_, 0, by simp, fun W => s1_ok W k n e hv, fun W => i1_ok W k n e hv⟩
  · exact ⟨⟨0, 0, 0, []⟩, 1, by simp, fun W => s1_inv W k n e hf h0 hv, fun W => i1_inv W k n e hf h0 hv⟩
end Go.Proofs.Ytpobonomdfbanaa
