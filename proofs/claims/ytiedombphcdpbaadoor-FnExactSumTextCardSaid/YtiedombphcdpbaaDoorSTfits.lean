/-
  Has a flag a type and a size: the program's contract and the model's.
-/
import Derived.Test.YtiedombphcdpbaaDoorSTzero
import Derived.Test.YtiedombphcdpbaaDoorSTone
import Derived.Test.YtiedombphcdpbaaDoorKEq
import Derived.Test.YtiedombphcdpbaaDoorBw
import Derived.BigQuiet
namespace Go.Proofs.YtiedombphcdpbaaDoor
open Go.RowKit Go.Shelf
set_option maxRecDepth 100000
attribute [local go_sem] Oper.semAt_some
/-- has a flag a type and a size -/
def Fits (k n e : Nat) (m f s : Int) : Prop := (k : Int) = m ∧ ((onL e (List.range k) : Nat) : Int) = f ∧ (n : Int) = s
section
variable (w : World)
set_option maxHeartbeats 2000000 in
theorem iof_any (k n e : Nat) (m f s : Int) (h : VK k n e) (B : Bool) (hB : B = true ↔ Fits k n e m f s) :
    Calls Tryd.prog 77 #[.agg #[.int .i64 k, .int .i64 n, .int .u32 e], .agg #[.int .i64 m, .int .u32 f], .int .i64 s] w fun r w' => r = .returned (.bool B) ∧ Below w.heap.size w w' := by
  have hT := Lib.hid (fun W => ity_any W k n e h)
  unfold Fits at hB
  obtain ⟨t, ht⟩ : ∃ t, onL e (List.range k) = t := ⟨_, rfl⟩
  rw [ht] at hT hB
  clear ht h
  obtain ⟨W0, hW0⟩ : ∃ W0, W0 = (w.alloc (.cells #[.int .i64 (k : Int), .int .i64 (n : Int), .int .u32 (e : Int)] 92)).alloc (.cells #[.int .i64 m, .int .u32 f] 37) := ⟨_, rfl⟩
  have hB0 : Below w.heap.size w W0 := by rw [hW0]; (repeat (first | exact Below.refl _ _ | assumption | refine bchain (by assumption) ?_ | refine balloc ?_ _ | apply Below.drew | apply below_drewN | (refine Below.alloc ?_ (by (try simp) <;> omega) _) | (refine Below.setCell ?_ (by (try simp) <;> omega) _)))
  have hf : FC W0 w.heap.size k n e := by rw [hW0]; exact (FC.made w k n e 92).below (balloc (Below.refl _ _) _)
  have hz : w.heap.size + 1 < W0.heap.size := by rw [hW0]; simp
  have g0 : W0.cell? ⟨w.heap.size + 1, 0, none⟩ = some (.int .i64 m) := by rw [hW0, cNew _ _ _ _ _ (by simp)]; rfl
  have g1 : W0.cell? ⟨w.heap.size + 1, 1, none⟩ = some (.int .u32 f) := by rw [hW0, cNew _ _ _ _ _ (by simp)]; rfl
  have q0 := bw_cell hf.lt hf.c0
  have q1 := bw_cell hf.lt hf.c1
  have q2 := bw_cell hf.lt hf.c2
  have q3 := bw_cell hz g0
  have q4 := bw_cell hz g1
  replace hW0 := Lib.hid hW0
  clear g0 g1 hf hz
  by_cases c : (k : Int) = m ∧ (t : Int) = f
  · obtain ⟨rfl, rfl⟩ := c
    have hq : ∀ W, (Op.equalIn 10000 37 (.agg #[.int .i64 (k : Int), .int .u32 (t : Int)]) (.agg #[.int .i64 (k : Int), .int .u32 (t : Int)])).run Tryd.prog W = .ok true W := fun W => by rw [eqGrK]; simp
    obtain rfl : B = ((n : Int) == s) := by
      rw [Bool.eq_iff_iff, hB]
      simp
    clear hB
    go_enter Tryd.func77, Tryd.ntmps77
    go_wp2
    rw [← hW0.out]
    refine wp_region_below (by kernel_rfl) (by kernel_rfl) ?_
    iterate 1 (quiet_step (fail))
    refine wpQuiet_step (fun K hK => ?_)
    go_simp
    apply Exists.intro
    refine ⟨fun p => ?_, hK _ ?_⟩
    · exact bw_of (w := W0) (p := p) (hT.out p.W)
    clear hK K
    iterate 3 (quiet_step (fail))
    iterate 1 (quiet_step (fail))
    refine wpQuiet_step (fun K hK => ?_)
    go_simp
    apply Exists.intro
    refine ⟨fun p => ?_, hK _ ?_⟩
    · exact bw_of (w := W0) (p := p) (iso_any p.W k n e)
    clear hK K
    iterate 2 (quiet_step (fail))
    iterate 2 (quiet_step (fail))
    refine wpQuiet_nil ?_
    intro w3 hw'
    obtain ⟨⟨wx, hb_w3⟩, rfl⟩ := hw'
    go_wp2
    go_ret
    exact ⟨rfl, hB0.trans (hb_w3.mono hB0.size)⟩
  · have hq : ∀ W, (Op.equalIn 10000 37 (.agg #[.int .i64 (k : Int), .int .u32 (t : Int)]) (.agg #[.int .i64 m, .int .u32 f])).run Tryd.prog W = .ok false W := fun W => by
      rw [eqGrK]
      have : ((k : Int) == m && (t : Int) == f) = false := by
        rw [Bool.eq_false_iff]
        intro h
        simp at h
        exact c h
      rw [this]
    obtain rfl : B = false := by
      rw [Bool.eq_false_iff]
      intro c2
      exact c ⟨(hB.1 c2).1, (hB.1 c2).2.1⟩
    clear hB c
    go_enter Tryd.func77, Tryd.ntmps77
    go_wp2
    rw [← hW0.out]
    refine wp_region_below (by kernel_rfl) (by kernel_rfl) ?_
    iterate 1 (quiet_step (fail))
    refine wpQuiet_step (fun K hK => ?_)
    go_simp
    apply Exists.intro
    refine ⟨fun p => ?_, hK _ ?_⟩
    · exact bw_of (w := W0) (p := p) (hT.out p.W)
    clear hK K
    iterate 3 (quiet_step (fail))
    iterate 4 go_big_quiet_skip
    iterate 2 (quiet_step (fail))
    refine wpQuiet_nil ?_
    intro w3 hw'
    obtain ⟨⟨wx, hb_w3⟩, rfl⟩ := hw'
    go_wp2
    go_ret
    exact ⟨rfl, hB0.trans (hb_w3.mono hB0.size)⟩
set_option maxHeartbeats 2000000 in
theorem sof_any (k n e : Nat) (m f s : Int) (h : VK k n e) (B : Bool) (hB : B = true ↔ Fits k n e m f s) :
    Calls Tryd.prog 71 #[.agg #[.int .i64 k, .int .i64 n, .int .u32 e], .agg #[.int .i64 m, .int .u32 f], .int .i64 s] w fun r w' => r = .returned (.bool B) ∧ Below w.heap.size w w' := by
  have hT := Lib.hid (fun W => sty_any W k n e h)
  unfold Fits at hB
  obtain ⟨t, ht⟩ : ∃ t, onL e (List.range k) = t := ⟨_, rfl⟩
  rw [ht] at hT hB
  clear ht h
  obtain ⟨W0, hW0⟩ : ∃ W0, W0 = (w.alloc (.cells #[.int .i64 (k : Int), .int .i64 (n : Int), .int .u32 (e : Int)] 92)).alloc (.cells #[.int .i64 m, .int .u32 f] 37) := ⟨_, rfl⟩
  have hB0 : Below w.heap.size w W0 := by rw [hW0]; (repeat (first | exact Below.refl _ _ | assumption | refine bchain (by assumption) ?_ | refine balloc ?_ _ | apply Below.drew | apply below_drewN | (refine Below.alloc ?_ (by (try simp) <;> omega) _) | (refine Below.setCell ?_ (by (try simp) <;> omega) _)))
  have hf : FC W0 w.heap.size k n e := by rw [hW0]; exact (FC.made w k n e 92).below (balloc (Below.refl _ _) _)
  have hz : w.heap.size + 1 < W0.heap.size := by rw [hW0]; simp
  have g0 : W0.cell? ⟨w.heap.size + 1, 0, none⟩ = some (.int .i64 m) := by rw [hW0, cNew _ _ _ _ _ (by simp)]; rfl
  have g1 : W0.cell? ⟨w.heap.size + 1, 1, none⟩ = some (.int .u32 f) := by rw [hW0, cNew _ _ _ _ _ (by simp)]; rfl
  have q0 := bw_cell hf.lt hf.c0
  have q1 := bw_cell hf.lt hf.c1
  have q2 := bw_cell hf.lt hf.c2
  have q3 := bw_cell hz g0
  have q4 := bw_cell hz g1
  replace hW0 := Lib.hid hW0
  clear g0 g1 hf hz
  by_cases c : (k : Int) = m ∧ (t : Int) = f
  · obtain ⟨rfl, rfl⟩ := c
    have hq : ∀ W, (Op.equalIn 10000 37 (.agg #[.int .i64 (k : Int), .int .u32 (t : Int)]) (.agg #[.int .i64 (k : Int), .int .u32 (t : Int)])).run Tryd.prog W = .ok true W := fun W => by rw [eqGrK]; simp
    obtain rfl : B = ((n : Int) == s) := by
      rw [Bool.eq_iff_iff, hB]
      simp
    clear hB
    go_enter Tryd.func71, Tryd.ntmps71
    go_wp2
    rw [← hW0.out]
    refine wp_region_below (by kernel_rfl) (by kernel_rfl) ?_
    iterate 1 (quiet_step (fail))
    refine wpQuiet_step (fun K hK => ?_)
    go_simp
    apply Exists.intro
    refine ⟨fun p => ?_, hK _ ?_⟩
    · exact bw_of (w := W0) (p := p) (hT.out p.W)
    clear hK K
    iterate 3 (quiet_step (fail))
    iterate 5 (quiet_step (fail))
    iterate 2 (quiet_step (fail))
    refine wpQuiet_nil ?_
    intro w3 hw'
    obtain ⟨⟨wx, hb_w3⟩, rfl⟩ := hw'
    go_wp2
    go_ret
    exact ⟨rfl, hB0.trans (hb_w3.mono hB0.size)⟩
  · have hq : ∀ W, (Op.equalIn 10000 37 (.agg #[.int .i64 (k : Int), .int .u32 (t : Int)]) (.agg #[.int .i64 m, .int .u32 f])).run Tryd.prog W = .ok false W := fun W => by
      rw [eqGrK]
      have : ((k : Int) == m && (t : Int) == f) = false := by
        rw [Bool.eq_false_iff]
        intro h
        simp at h
        exact c h
      rw [this]
    obtain rfl : B = false := by
      rw [Bool.eq_false_iff]
      intro c2
      exact c ⟨(hB.1 c2).1, (hB.1 c2).2.1⟩
    clear hB c
    go_enter Tryd.func71, Tryd.ntmps71
    go_wp2
    rw [← hW0.out]
    refine wp_region_below (by kernel_rfl) (by kernel_rfl) ?_
    iterate 1 (quiet_step (fail))
    refine wpQuiet_step (fun K hK => ?_)
    go_simp
    apply Exists.intro
    refine ⟨fun p => ?_, hK _ ?_⟩
    · exact bw_of (w := W0) (p := p) (hT.out p.W)
    clear hK K
    iterate 3 (quiet_step (fail))
    iterate 5 go_big_quiet_skip
    iterate 2 (quiet_step (fail))
    refine wpQuiet_nil ?_
    intro w3 hw'
    obtain ⟨⟨wx, hb_w3⟩, rfl⟩ := hw'
    go_wp2
    go_ret
    exact ⟨rfl, hB0.trans (hb_w3.mono hB0.size)⟩
end
end Go.Proofs.YtiedombphcdpbaaDoor
