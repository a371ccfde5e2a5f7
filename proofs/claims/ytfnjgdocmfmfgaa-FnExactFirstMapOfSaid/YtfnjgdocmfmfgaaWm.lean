/-
  THE GRAPH WHOSE VERTICES LIE IN THE PARTS OF A LIST: the program's contract.
-/
import Derived.Test.YtfnjgdocmfmfgaaWb
import Derived.Test.YtfnjgdocmfmfgaaOpp
import Derived.Test.YtfnjgdocmfmfgaaPw
import Derived.Deep.RegionHeld3
namespace Go.Proofs.Ytfnjgdocmfmfgaa
open Go.RowKit Go.Shelf
set_option maxRecDepth 100000
section
variable (w : World)
set_option maxHeartbeats 1000000 in
theorem mbb_any (n e : Nat) (he : e < 4294967296) (gn ge : Int) (Bw Bl b off l cap i j x y : Nat) (hw : w.cell? ⟨Bw, 0, none⟩ = some (.iface 121 (.agg #[.int .i64 n, .int .u32 e]))) (hl : w.cell? ⟨Bl, 0, none⟩ = some (.slice (some ⟨b, off, none⟩) l cap)) (hi : i < l) (hj : j < l) (hx : w.cell? ⟨b, off + i, none⟩ = some (.int .i64 x)) (hy : w.cell? ⟨b, off + j, none⟩ = some (.int .i64 y)) (x4 : x ≤ 4) (y4 : y ≤ 4) :
    Calls Try.prog 100 #[.agg #[.int .i64 gn, .int .u32 ge], .int .i64 i, .int .i64 j, .pointer (some ⟨Bw, 0, none⟩), .pointer (some ⟨Bl, 0, none⟩)] w fun r w' => r = .returned (.bool (pjn e 0 x y)) ∧ Below w.heap.size w w' := by
  have hC := Lib.hid (fun W => bj_any W n e x y he x4 y4)
  obtain ⟨B, hB⟩ : ∃ B, pjn e 0 x y = B := ⟨_, rfl⟩
  rw [hB] at hC ⊢
  clear hB
  have hmt : ∀ W : World, (method 273 121 (.agg #[.int .i64 n, .int .u32 e]) "loop.example/g01169/impl.joins").run Try.prog W = .ok (160, .agg #[.int .i64 n, .int .u32 e]) W := fun _ => by kernel_rfl
  have hna : ∀ W : World, (nilAhead 273 121 (.agg #[.int .i64 n, .int .u32 e]) "loop.example/g01169/impl.joins").run Try.prog W = .ok (some false) W := fun _ => by kernel_rfl
  have zw := World.block_lt_of_cell? w _ hw
  have zl := World.block_lt_of_cell? w _ hl
  have zb := World.block_lt_of_cell? w _ hx
  have hi0 : (0 : Int) ≤ (i : Int) := by omega
  have hj0 : (0 : Int) ≤ (j : Int) := by omega
  have hi1 : (i : Int) < (l : Int) := by omega
  have hj1 : (j : Int) < (l : Int) := by omega
  obtain ⟨W0, hW0⟩ : ∃ W0, W0 = w.alloc (.cells #[.int .i64 gn, .int .u32 ge] 30) := ⟨_, rfl⟩
  have hb0 : Below w.heap.size w W0 := by rw [hW0]; (repeat (first | exact Below.refl _ _ | assumption | refine bchain (by assumption) ?_ | refine balloc ?_ _ | apply Below.drew | apply below_drewN | (refine Below.alloc ?_ (by (try simp) <;> omega) _) | (refine Below.setCell ?_ (by (try simp) <;> omega) _)))
  have q0 := (hb0.cell (p := ⟨Bw, 0, none⟩) zw).trans hw
  have q1 := (hb0.cell (p := ⟨Bl, 0, none⟩) zl).trans hl
  have q2 := (hb0.cell (p := ⟨b, off + i, none⟩) zb).trans hx
  have q3 := (hb0.cell (p := ⟨b, off + j, none⟩) zb).trans hy
  replace hW0 := Lib.hid hW0
  go_enter Try.func100, Try.ntmps100
  go_wp2_with fail
  rw [← hW0.out]
  go_region_held3 (fun A => A.cell? ⟨Bw, 0, none⟩ = some (.iface 121 (.agg #[.int .i64 n, .int .u32 e])) ∧ A.cell? ⟨Bl, 0, none⟩ = some (.slice (some ⟨b, off, none⟩) l cap) ∧ A.cell? ⟨b, off + i, none⟩ = some (.int .i64 x) ∧ A.cell? ⟨b, off + j, none⟩ = some (.int .i64 y))
    (exact ⟨old_cell zw hw (by (repeat (first | exact Below.refl _ _ | assumption | refine bchain (by assumption) ?_ | refine balloc ?_ _ | apply Below.drew | apply below_drewN | (refine Below.alloc ?_ (by (try simp) <;> omega) _) | (refine Below.setCell ?_ (by (try simp) <;> omega) _)))), old_cell zl hl (by (repeat (first | exact Below.refl _ _ | assumption | refine bchain (by assumption) ?_ | refine balloc ?_ _ | apply Below.drew | apply below_drewN | (refine Below.alloc ?_ (by (try simp) <;> omega) _) | (refine Below.setCell ?_ (by (try simp) <;> omega) _)))), old_cell zb hx (by (repeat (first | exact Below.refl _ _ | assumption | refine bchain (by assumption) ?_ | refine balloc ?_ _ | apply Below.drew | apply below_drewN | (refine Below.alloc ?_ (by (try simp) <;> omega) _) | (refine Below.setCell ?_ (by (try simp) <;> omega) _)))), old_cell zb hy (by (repeat (first | exact Below.refl _ _ | assumption | refine bchain (by assumption) ?_ | refine balloc ?_ _ | apply Below.drew | apply below_drewN | (refine Below.alloc ?_ (by (try simp) <;> omega) _) | (refine Below.setCell ?_ (by (try simp) <;> omega) _))))⟩)
    (first | (go_at_call 160; refine (hC.out _).mono ?_; rintro r1 w1 ⟨rfl, hb1⟩))
  have hbz := bchain (bchain hb1 (Below.refl _ W0).drew) hb0
  clear q0 q1 q2 q3
  go_wp2
  go_ret
  exact ⟨rfl, hbz⟩
set_option maxHeartbeats 1000000 in
theorem mbl_any (n e lo : Nat) (he : e < 4294967296) (hlo : lo < 4294967296) (gn ge : Int) (Bw Bl b off l cap i j x y : Nat) (hw : w.cell? ⟨Bw, 0, none⟩ = some (.iface 123 (.agg #[.int .i64 n, .int .u32 e, .int .u32 lo]))) (hl : w.cell? ⟨Bl, 0, none⟩ = some (.slice (some ⟨b, off, none⟩) l cap)) (hi : i < l) (hj : j < l) (hx : w.cell? ⟨b, off + i, none⟩ = some (.int .i64 x)) (hy : w.cell? ⟨b, off + j, none⟩ = some (.int .i64 y)) (x4 : x ≤ 4) (y4 : y ≤ 4) :
    Calls Try.prog 100 #[.agg #[.int .i64 gn, .int .u32 ge], .int .i64 i, .int .i64 j, .pointer (some ⟨Bw, 0, none⟩), .pointer (some ⟨Bl, 0, none⟩)] w fun r w' => r = .returned (.bool (pjn e lo x y)) ∧ Below w.heap.size w w' := by
  have hC := Lib.hid (fun W => lj_any W n e lo x y he hlo x4 y4)
  obtain ⟨B, hB⟩ : ∃ B, pjn e lo x y = B := ⟨_, rfl⟩
  rw [hB] at hC ⊢
  clear hB
  have hmt : ∀ W : World, (method 273 123 (.agg #[.int .i64 n, .int .u32 e, .int .u32 lo]) "loop.example/g01169/impl.joins").run Try.prog W = .ok (162, .agg #[.int .i64 n, .int .u32 e, .int .u32 lo]) W := fun _ => by kernel_rfl
  have hna : ∀ W : World, (nilAhead 273 123 (.agg #[.int .i64 n, .int .u32 e, .int .u32 lo]) "loop.example/g01169/impl.joins").run Try.prog W = .ok (some false) W := fun _ => by kernel_rfl
  have zw := World.block_lt_of_cell? w _ hw
  have zl := World.block_lt_of_cell? w _ hl
  have zb := World.block_lt_of_cell? w _ hx
  have hi0 : (0 : Int) ≤ (i : Int) := by omega
  have hj0 : (0 : Int) ≤ (j : Int) := by omega
  have hi1 : (i : Int) < (l : Int) := by omega
  have hj1 : (j : Int) < (l : Int) := by omega
  obtain ⟨W0, hW0⟩ : ∃ W0, W0 = w.alloc (.cells #[.int .i64 gn, .int .u32 ge] 30) := ⟨_, rfl⟩
  have hb0 : Below w.heap.size w W0 := by rw [hW0]; (repeat (first | exact Below.refl _ _ | assumption | refine bchain (by assumption) ?_ | refine balloc ?_ _ | apply Below.drew | apply below_drewN | (refine Below.alloc ?_ (by (try simp) <;> omega) _) | (refine Below.setCell ?_ (by (try simp) <;> omega) _)))
  have q0 := (hb0.cell (p := ⟨Bw, 0, none⟩) zw).trans hw
  have q1 := (hb0.cell (p := ⟨Bl, 0, none⟩) zl).trans hl
  have q2 := (hb0.cell (p := ⟨b, off + i, none⟩) zb).trans hx
  have q3 := (hb0.cell (p := ⟨b, off + j, none⟩) zb).trans hy
  replace hW0 := Lib.hid hW0
  go_enter Try.func100, Try.ntmps100
  go_wp2_with fail
  rw [← hW0.out]
  go_region_held3 (fun A => A.cell? ⟨Bw, 0, none⟩ = some (.iface 123 (.agg #[.int .i64 n, .int .u32 e, .int .u32 lo])) ∧ A.cell? ⟨Bl, 0, none⟩ = some (.slice (some ⟨b, off, none⟩) l cap) ∧ A.cell? ⟨b, off + i, none⟩ = some (.int .i64 x) ∧ A.cell? ⟨b, off + j, none⟩ = some (.int .i64 y))
    (exact ⟨old_cell zw hw (by (repeat (first | exact Below.refl _ _ | assumption | refine bchain (by assumption) ?_ | refine balloc ?_ _ | apply Below.drew | apply below_drewN | (refine Below.alloc ?_ (by (try simp) <;> omega) _) | (refine Below.setCell ?_ (by (try simp) <;> omega) _)))), old_cell zl hl (by (repeat (first | exact Below.refl _ _ | assumption | refine bchain (by assumption) ?_ | refine balloc ?_ _ | apply Below.drew | apply below_drewN | (refine Below.alloc ?_ (by (try simp) <;> omega) _) | (refine Below.setCell ?_ (by (try simp) <;> omega) _)))), old_cell zb hx (by (repeat (first | exact Below.refl _ _ | assumption | refine bchain (by assumption) ?_ | refine balloc ?_ _ | apply Below.drew | apply below_drewN | (refine Below.alloc ?_ (by (try simp) <;> omega) _) | (refine Below.setCell ?_ (by (try simp) <;> omega) _)))), old_cell zb hy (by (repeat (first | exact Below.refl _ _ | assumption | refine bchain (by assumption) ?_ | refine balloc ?_ _ | apply Below.drew | apply below_drewN | (refine Below.alloc ?_ (by (try simp) <;> omega) _) | (refine Below.setCell ?_ (by (try simp) <;> omega) _))))⟩)
    (first | (go_at_call 162; refine (hC.out _).mono ?_; rintro r1 w1 ⟨rfl, hb1⟩))
  have hbz := bchain (bchain hb1 (Below.refl _ W0).drew) hb0
  clear q0 q1 q2 q3
  go_wp2
  go_ret
  exact ⟨rfl, hbz⟩
theorem mb_any (n e lo : Nat) (he : e < 4294967296) (hlo : lo < 4294967296) (gn ge : Int) (Bw Bl b off l cap i j x y : Nat) (hw : w.cell? ⟨Bw, 0, none⟩ = some (webV n e lo)) (hl : w.cell? ⟨Bl, 0, none⟩ = some (.slice (some ⟨b, off, none⟩) l cap)) (hi : i < l) (hj : j < l) (hx : w.cell? ⟨b, off + i, none⟩ = some (.int .i64 x)) (hy : w.cell? ⟨b, off + j, none⟩ = some (.int .i64 y)) (x4 : x ≤ 4) (y4 : y ≤ 4) :
    Calls Try.prog 100 #[.agg #[.int .i64 gn, .int .u32 ge], .int .i64 i, .int .i64 j, .pointer (some ⟨Bw, 0, none⟩), .pointer (some ⟨Bl, 0, none⟩)] w fun r w' => r = .returned (.bool (pjn e lo x y)) ∧ Below w.heap.size w w' := by
  unfold webV at hw
  by_cases h : lo = 0
  · subst h
    rw [if_pos rfl] at hw
    exact mbb_any w n e he gn ge Bw Bl b off l cap i j x y hw hl hi hj hx hy x4 y4
  · rw [if_neg h] at hw
    exact mbl_any w n e lo he hlo gn ge Bw Bl b off l cap i j x y hw hl hi hj hx hy x4 y4
end
end Go.Proofs.Ytfnjgdocmfmfgaa
