/-
  STzero, STone, KEq, Bw, STfits, STsame, STvalid, STvalidS, STv, VT, KeptT, WfI, WfS, in one text.
-/
import Derived.Test.YtpobonomdfbanaaSTown
import Derived.Test.YtpobonomdfbanaaPlain
import Derived.Test.YtpobonomdfbanaaKSmall
import Derived.Test.YtpobonomdfbanaaKLeast
import Derived.Test.YtpobonomdfbanaaKSLeast
import Derived.Deep.RegionHeld3
import Derived.Test.YtpobonomdfbanaaKVal
import Derived.Laws.StructEq
import Derived.Laws.Tables
import Derived.KernelRfl
import Derived.BigQuiet
import Derived.Deep.QuietTactic
import Derived.Lib.Hide
import Derived.Test.YtpobonomdfbanaaFrVf
import Derived.Test.YtpobonomdfbanaaKOwn
import Derived.Test.YtpobonomdfbanaaTs
import Derived.Test.YtpobonomdfbanaaIter
import Derived.Maps.OwnIn
import Derived.Lib.SmallJoins
import Derived.OwnWalk
import Derived.Test.YtpobonomdfbanaaForb
import Derived.Deep.RegionLaw
/-
  ZeroSum: both contracts.
-/
namespace Go.Proofs.Ytpobonomdfbanaa
open Go.RowKit
set_option maxRecDepth 100000
/-- may a sum have a type with so many vertices, and a size -/
def frB (m s : Int) : Bool := decide (m ≤ 3 ∧ m ≤ s ∧ s ≤ 5)
section
variable (w : World)
theorem ihf_any (m f s : Int) :
    Calls Try.prog 70 #[.agg #[.int .i64 m, .int .u32 f], .int .i64 s] w fun r w' => r = .returned (.bool (frB m s)) ∧ Below w.heap.size w w' := by
  unfold frB
  by_cases h1 : m ≤ 3
  · by_cases h2 : m ≤ s
    · by_cases h3 : s ≤ 5
      · rw [decide_eq_true (show m ≤ 3 ∧ m ≤ s ∧ s ≤ 5 from ⟨h1, h2, h3⟩)]
        go_enter Try.func70, Try.ntmps70
        go_wp2
        go_ret
        exact ⟨rfl, by (repeat (first | exact Below.refl _ _ | assumption | refine bchain (by assumption) ?_ | refine balloc ?_ _ | apply Below.drew | apply below_drewN | (refine Below.alloc ?_ (by (try simp) <;> omega) _) | (refine Below.setCell ?_ (by (try simp) <;> omega) _)))⟩
      · rw [decide_eq_false (show ¬ (m ≤ 3 ∧ m ≤ s ∧ s ≤ 5) from fun c => h3 c.2.2)]
        go_enter Try.func70, Try.ntmps70
        go_wp2
        go_ret
        exact ⟨rfl, by (repeat (first | exact Below.refl _ _ | assumption | refine bchain (by assumption) ?_ | refine balloc ?_ _ | apply Below.drew | apply below_drewN | (refine Below.alloc ?_ (by (try simp) <;> omega) _) | (refine Below.setCell ?_ (by (try simp) <;> omega) _)))⟩
    · rw [decide_eq_false (show ¬ (m ≤ 3 ∧ m ≤ s ∧ s ≤ 5) from fun c => h2 c.2.1)]
      go_enter Try.func70, Try.ntmps70
      go_wp2
      go_ret
      exact ⟨rfl, by (repeat (first | exact Below.refl _ _ | assumption | refine bchain (by assumption) ?_ | refine balloc ?_ _ | apply Below.drew | apply below_drewN | (refine Below.alloc ?_ (by (try simp) <;> omega) _) | (refine Below.setCell ?_ (by (try simp) <;> omega) _)))⟩
  · rw [decide_eq_false (show ¬ (m ≤ 3 ∧ m ≤ s ∧ s ≤ 5) from fun c => h1 c.1)]
    go_enter Try.func70, Try.ntmps70
    go_wp2
    go_ret
    exact ⟨rfl, by (repeat (first | exact Below.refl _ _ | assumption | refine bchain (by assumption) ?_ | refine balloc ?_ _ | apply Below.drew | apply below_drewN | (refine Below.alloc ?_ (by (try simp) <;> omega) _) | (refine Below.setCell ?_ (by (try simp) <;> omega) _)))⟩
theorem sfr_any (m f s : Int) :
    Calls Try.prog 79 #[.agg #[.int .i64 m, .int .u32 f], .int .i64 s] w fun r w' => r = .returned (.bool (frB m s)) ∧ Below w.heap.size w w' := by
  unfold frB
  by_cases h1 : m ≤ 3
  · have hI := Lib.hid (fun W => show Calls Try.prog 106 #[.int .i64 s, .int .i64 m, .int .i64 5] W fun e w' => e = .returned (.bool (decide (m ≤ 3 ∧ m ≤ s ∧ s ≤ 5))) ∧ W = w' from by
      by_cases h2 : m ≤ s ∧ s ≤ 5
      · rw [decide_eq_true (show m ≤ 3 ∧ m ≤ s ∧ s ≤ 5 from ⟨h1, h2⟩)]; exact in_t W s m 5 h2.1 h2.2
      · rw [decide_eq_false (show ¬ (m ≤ 3 ∧ m ≤ s ∧ s ≤ 5) from fun c => h2 c.2)]; exact in_f W s m 5 (by omega))
    obtain ⟨b, hb⟩ : ∃ b, decide (m ≤ 3 ∧ m ≤ s ∧ s ≤ 5) = b := ⟨_, rfl⟩
    rw [hb] at hI ⊢
    clear hb
    go_enter Try.func79, Try.ntmps79
    go_wp2_with (go_at_call 106; refine (hI.out _).mono ?_; rintro r3 w3 ⟨rfl, rfl⟩)
    go_ret
    exact ⟨rfl, by (repeat (first | exact Below.refl _ _ | assumption | refine bchain (by assumption) ?_ | refine balloc ?_ _ | apply Below.drew | apply below_drewN | (refine Below.alloc ?_ (by (try simp) <;> omega) _) | (refine Below.setCell ?_ (by (try simp) <;> omega) _)))⟩
  · rw [decide_eq_false (show ¬ (m ≤ 3 ∧ m ≤ s ∧ s ≤ 5) from fun c => h1 c.1)]
    go_enter Try.func79, Try.ntmps79
    go_wp2
    go_ret
    exact ⟨rfl, by (repeat (first | exact Below.refl _ _ | assumption | refine bchain (by assumption) ?_ | refine balloc ?_ _ | apply Below.drew | apply below_drewN | (refine Below.alloc ?_ (by (try simp) <;> omega) _) | (refine Below.setCell ?_ (by (try simp) <;> omega) _)))⟩
theorem izz_inv (m f s : Int) (hf : f < 4294967296) (h0 : 0 ≤ f) (hv : ¬ VG m f) :
    Calls Try.prog 32 #[.agg #[.int .i64 m, .int .u32 f], .int .i64 s] w (RetS w ⟨0, 0, 0, []⟩ 1) := by
  obtain ⟨W0, hW0⟩ : ∃ W0, W0 = (w.alloc (.cells #[.int .i64 m, .int .u32 f] 32)).alloc (.cells #[.int .i64 0, .int .u32 0, .int .i64 0, .slice none 0 0] 50) := ⟨_, rfl⟩
  have hbw : Below w.heap.size w W0 := by rw [hW0]; (repeat (first | exact Below.refl _ _ | assumption | refine bchain (by assumption) ?_ | refine balloc ?_ _ | apply Below.drew | apply below_drewN | (refine Below.alloc ?_ (by (try simp) <;> omega) _) | (refine Below.setCell ?_ (by (try simp) <;> omega) _)))
  have sz : ∀ (W : World) (o : Obj), (W.alloc o).heap.size = W.heap.size + 1 := fun W o => by simp
  have hsb : SB W0 (w.heap.size + 1) 0 0 0 (.slice none 0 0) := by rw [hW0, ← sz w (.cells #[.int .i64 m, .int .u32 f] 32)]; exact SB.made _ 0 0 0 _ 50
  clear sz
  replace hW0 := Lib.hid hW0
  go_enter Try.func32, Try.ntmps32
  go_wp2_with fail
  rw [← hW0.out]
  refine (valid_f _ m f hf h0 hv).mono ?_
  rintro r1 w1 ⟨rfl, hb1⟩
  replace hsb := hsb.below hb1
  replace hbw := bchain hb1 hbw
  clear hb1
  obtain ⟨ltO, o0, o1, o2, o3, fO⟩ := id hsb
  go_wp2
  have hF := hsb.all (0) (0) (0) (.slice none 0 0)
  have hBB := ((((hbw.setCell (p := ⟨w.heap.size + 1, 0, none⟩) (by show w.heap.size ≤ w.heap.size + 1; omega) (.int .i64 (0))).setCell (p := ⟨w.heap.size + 1, 1, none⟩) (by show w.heap.size ≤ w.heap.size + 1; omega) (.int .u32 (0))).setCell (p := ⟨w.heap.size + 1, 2, none⟩) (by show w.heap.size ≤ w.heap.size + 1; omega) (.int .i64 (0))).setCell (p := ⟨w.heap.size + 1, 3, none⟩) (by show w.heap.size ≤ w.heap.size + 1; omega) (.slice none 0 0))
  obtain ⟨WW, hWW⟩ : ∃ WW, WW = ((((w1.setCell ⟨w.heap.size + 1, 0, none⟩ (.int .i64 (0))).setCell ⟨w.heap.size + 1, 1, none⟩ (.int .u32 (0))).setCell ⟨w.heap.size + 1, 2, none⟩ (.int .i64 (0))).setCell ⟨w.heap.size + 1, 3, none⟩ (.slice none 0 0)) := ⟨_, rfl⟩
  rw [← hWW] at hF hBB ⊢
  clear hWW
  obtain ⟨_, hF0, hF1, hF2, hF3, _⟩ := hF
  exact bodyPost_ret (v := .tuple #[.agg #[.int .i64 (0), .int .u32 (0), .int .i64 (0), .slice none 0 0], .int .i64 1]) (by simp [results, Try.results32, go_sem, hF0, hF1, hF2, hF3]) rfl ⟨⟨_, rfl, ownT_nil⟩, hBB⟩
theorem izz_ok (m f s : Int) (hv : VG m f) (c : Int) (X : SM) (hc : (frB m s = false ∧ c = 2 ∧ X = ⟨0, 0, 0, []⟩) ∨ (frB m s = true ∧ c = 0 ∧ X = ⟨m, f, s, []⟩)) :
    Calls Try.prog 32 #[.agg #[.int .i64 m, .int .u32 f], .int .i64 s] w (RetS w X c) := by
  have hR := Lib.hid (fun W => ihf_any W m f s)
  obtain ⟨W0, hW0⟩ : ∃ W0, W0 = (w.alloc (.cells #[.int .i64 m, .int .u32 f] 32)).alloc (.cells #[.int .i64 0, .int .u32 0, .int .i64 0, .slice none 0 0] 50) := ⟨_, rfl⟩
  have hbw : Below w.heap.size w W0 := by rw [hW0]; (repeat (first | exact Below.refl _ _ | assumption | refine bchain (by assumption) ?_ | refine balloc ?_ _ | apply Below.drew | apply below_drewN | (refine Below.alloc ?_ (by (try simp) <;> omega) _) | (refine Below.setCell ?_ (by (try simp) <;> omega) _)))
  have sz : ∀ (W : World) (o : Obj), (W.alloc o).heap.size = W.heap.size + 1 := fun W o => by simp
  have hg0 : W0.cell? ⟨w.heap.size, 0, none⟩ = some (.int .i64 m) := by rw [hW0, cOld _ _ _ _ (by simp), cNew _ _ _ _ _ rfl]; rfl
  have hg1 : W0.cell? ⟨w.heap.size, 1, none⟩ = some (.int .u32 f) := by rw [hW0, cOld _ _ _ _ (by simp), cNew _ _ _ _ _ rfl]; rfl
  have hsb : SB W0 (w.heap.size + 1) 0 0 0 (.slice none 0 0) := by rw [hW0, ← sz w (.cells #[.int .i64 m, .int .u32 f] 32)]; exact SB.made _ 0 0 0 _ 50
  clear sz
  replace hW0 := Lib.hid hW0
  rcases hc with ⟨hb, rfl, rfl⟩ | ⟨hb, rfl, rfl⟩
  all_goals
    rw [hb] at hR
    clear hb
    go_enter Try.func32, Try.ntmps32
    go_wp2_with fail
    rw [← hW0.out]
    refine (valid_t _ m f hv).mono ?_
    rintro r1 w1 ⟨rfl, hb1⟩
    replace hg0 := (hb1.cell (p := ⟨w.heap.size, 0, none⟩) (by have := hsb.lt; show w.heap.size < _; omega)).trans hg0
    replace hg1 := (hb1.cell (p := ⟨w.heap.size, 1, none⟩) (by have := hsb.lt; show w.heap.size < _; omega)).trans hg1
    replace hsb := hsb.below hb1
    replace hbw := bchain hb1 hbw
    clear hb1
    go_wp2_with fail
    refine (hR.out _).mono ?_
    rintro r2 w2 ⟨rfl, hb2⟩
    replace hg0 := (hb2.cell (p := ⟨w.heap.size, 0, none⟩) (by have := hsb.lt; show w.heap.size < _; omega)).trans hg0
    replace hg1 := (hb2.cell (p := ⟨w.heap.size, 1, none⟩) (by have := hsb.lt; show w.heap.size < _; omega)).trans hg1
    replace hsb := hsb.below hb2
    replace hbw := bchain hb2 hbw
    clear hb2
    obtain ⟨ltO, o0, o1, o2, o3, fO⟩ := id hsb
    go_wp2
  ·
    have hF := hsb.all (0) (0) (0) (.slice none 0 0)
    have hBB := ((((hbw.setCell (p := ⟨w.heap.size + 1, 0, none⟩) (by show w.heap.size ≤ w.heap.size + 1; omega) (.int .i64 (0))).setCell (p := ⟨w.heap.size + 1, 1, none⟩) (by show w.heap.size ≤ w.heap.size + 1; omega) (.int .u32 (0))).setCell (p := ⟨w.heap.size + 1, 2, none⟩) (by show w.heap.size ≤ w.heap.size + 1; omega) (.int .i64 (0))).setCell (p := ⟨w.heap.size + 1, 3, none⟩) (by show w.heap.size ≤ w.heap.size + 1; omega) (.slice none 0 0))
    obtain ⟨WW, hWW⟩ : ∃ WW, WW = ((((w2.setCell ⟨w.heap.size + 1, 0, none⟩ (.int .i64 (0))).setCell ⟨w.heap.size + 1, 1, none⟩ (.int .u32 (0))).setCell ⟨w.heap.size + 1, 2, none⟩ (.int .i64 (0))).setCell ⟨w.heap.size + 1, 3, none⟩ (.slice none 0 0)) := ⟨_, rfl⟩
    rw [← hWW] at hF hBB ⊢
    clear hWW
    obtain ⟨_, hF0, hF1, hF2, hF3, _⟩ := hF
    exact bodyPost_ret (v := .tuple #[.agg #[.int .i64 (0), .int .u32 (0), .int .i64 (0), .slice none 0 0], .int .i64 2]) (by simp [results, Try.results32, go_sem, hF0, hF1, hF2, hF3]) rfl ⟨⟨_, rfl, ownT_nil⟩, hBB⟩
  ·
    have hF := hsb.all (m) (f) (s) (.slice none 0 0)
    have hBB := ((((hbw.setCell (p := ⟨w.heap.size + 1, 0, none⟩) (by show w.heap.size ≤ w.heap.size + 1; omega) (.int .i64 (m))).setCell (p := ⟨w.heap.size + 1, 1, none⟩) (by show w.heap.size ≤ w.heap.size + 1; omega) (.int .u32 (f))).setCell (p := ⟨w.heap.size + 1, 2, none⟩) (by show w.heap.size ≤ w.heap.size + 1; omega) (.int .i64 (s))).setCell (p := ⟨w.heap.size + 1, 3, none⟩) (by show w.heap.size ≤ w.heap.size + 1; omega) (.slice none 0 0))
    obtain ⟨WW, hWW⟩ : ∃ WW, WW = ((((w2.setCell ⟨w.heap.size + 1, 0, none⟩ (.int .i64 (m))).setCell ⟨w.heap.size + 1, 1, none⟩ (.int .u32 (f))).setCell ⟨w.heap.size + 1, 2, none⟩ (.int .i64 (s))).setCell ⟨w.heap.size + 1, 3, none⟩ (.slice none 0 0)) := ⟨_, rfl⟩
    rw [← hWW] at hF hBB ⊢
    clear hWW
    obtain ⟨_, hF0, hF1, hF2, hF3, _⟩ := hF
    exact bodyPost_ret (v := .tuple #[.agg #[.int .i64 (m), .int .u32 (f), .int .i64 (s), .slice none 0 0], .int .i64 0]) (by simp [results, Try.results32, go_sem, hF0, hF1, hF2, hF3]) rfl ⟨⟨_, rfl, ownT_nil⟩, hBB⟩
theorem szz_inv (m f s : Int) (hf : f < 4294967296) (h0 : 0 ≤ f) (hv : ¬ VG m f) :
    Calls Try.prog 30 #[.agg #[.int .i64 m, .int .u32 f], .int .i64 s] w (RetS w ⟨0, 0, 0, []⟩ 1) := by
  obtain ⟨W0, hW0⟩ : ∃ W0, W0 = (w.alloc (.cells #[.int .i64 m, .int .u32 f] 32)).alloc (.cells #[.int .i64 0, .int .u32 0, .int .i64 0, .slice none 0 0] 50) := ⟨_, rfl⟩
  have hbw : Below w.heap.size w W0 := by rw [hW0]; (repeat (first | exact Below.refl _ _ | assumption | refine bchain (by assumption) ?_ | refine balloc ?_ _ | apply Below.drew | apply below_drewN | (refine Below.alloc ?_ (by (try simp) <;> omega) _) | (refine Below.setCell ?_ (by (try simp) <;> omega) _)))
  have sz : ∀ (W : World) (o : Obj), (W.alloc o).heap.size = W.heap.size + 1 := fun W o => by simp
  have hsb : SB W0 (w.heap.size + 1) 0 0 0 (.slice none 0 0) := by rw [hW0, ← sz w (.cells #[.int .i64 m, .int .u32 f] 32)]; exact SB.made _ 0 0 0 _ 50
  clear sz
  replace hW0 := Lib.hid hW0
  go_enter Try.func30, Try.ntmps30
  go_wp2_with fail
  rw [← hW0.out]
  refine (ok_f _ m f hf h0 hv).mono ?_
  rintro r1 w1 ⟨rfl, hb1⟩
  replace hsb := hsb.below hb1
  replace hbw := bchain hb1 hbw
  clear hb1
  obtain ⟨ltO, o0, o1, o2, o3, fO⟩ := id hsb
  go_wp2
  have hF := hsb.all (0) (0) (0) (.slice none 0 0)
  have hBB := ((((hbw.setCell (p := ⟨w.heap.size + 1, 0, none⟩) (by show w.heap.size ≤ w.heap.size + 1; omega) (.int .i64 (0))).setCell (p := ⟨w.heap.size + 1, 1, none⟩) (by show w.heap.size ≤ w.heap.size + 1; omega) (.int .u32 (0))).setCell (p := ⟨w.heap.size + 1, 2, none⟩) (by show w.heap.size ≤ w.heap.size + 1; omega) (.int .i64 (0))).setCell (p := ⟨w.heap.size + 1, 3, none⟩) (by show w.heap.size ≤ w.heap.size + 1; omega) (.slice none 0 0))
  obtain ⟨WW, hWW⟩ : ∃ WW, WW = ((((w1.setCell ⟨w.heap.size + 1, 0, none⟩ (.int .i64 (0))).setCell ⟨w.heap.size + 1, 1, none⟩ (.int .u32 (0))).setCell ⟨w.heap.size + 1, 2, none⟩ (.int .i64 (0))).setCell ⟨w.heap.size + 1, 3, none⟩ (.slice none 0 0)) := ⟨_, rfl⟩
  rw [← hWW] at hF hBB ⊢
  clear hWW
  obtain ⟨_, hF0, hF1, hF2, hF3, _⟩ := hF
  exact bodyPost_ret (v := .tuple #[.agg #[.int .i64 (0), .int .u32 (0), .int .i64 (0), .slice none 0 0], .int .i64 1]) (by simp [results, Try.results30, go_sem, hF0, hF1, hF2, hF3]) rfl ⟨⟨_, rfl, ownT_nil⟩, hBB⟩
theorem szz_ok (m f s : Int) (hv : VG m f) (c : Int) (X : SM) (hc : (frB m s = false ∧ c = 2 ∧ X = ⟨0, 0, 0, []⟩) ∨ (frB m s = true ∧ c = 0 ∧ X = ⟨m, f, s, []⟩)) :
    Calls Try.prog 30 #[.agg #[.int .i64 m, .int .u32 f], .int .i64 s] w (RetS w X c) := by
  have hR := Lib.hid (fun W => sfr_any W m f s)
  obtain ⟨W0, hW0⟩ : ∃ W0, W0 = (w.alloc (.cells #[.int .i64 m, .int .u32 f] 32)).alloc (.cells #[.int .i64 0, .int .u32 0, .int .i64 0, .slice none 0 0] 50) := ⟨_, rfl⟩
  have hbw : Below w.heap.size w W0 := by rw [hW0]; (repeat (first | exact Below.refl _ _ | assumption | refine bchain (by assumption) ?_ | refine balloc ?_ _ | apply Below.drew | apply below_drewN | (refine Below.alloc ?_ (by (try simp) <;> omega) _) | (refine Below.setCell ?_ (by (try simp) <;> omega) _)))
  have sz : ∀ (W : World) (o : Obj), (W.alloc o).heap.size = W.heap.size + 1 := fun W o => by simp
  have hg0 : W0.cell? ⟨w.heap.size, 0, none⟩ = some (.int .i64 m) := by rw [hW0, cOld _ _ _ _ (by simp), cNew _ _ _ _ _ rfl]; rfl
  have hg1 : W0.cell? ⟨w.heap.size, 1, none⟩ = some (.int .u32 f) := by rw [hW0, cOld _ _ _ _ (by simp), cNew _ _ _ _ _ rfl]; rfl
  have hsb : SB W0 (w.heap.size + 1) 0 0 0 (.slice none 0 0) := by rw [hW0, ← sz w (.cells #[.int .i64 m, .int .u32 f] 32)]; exact SB.made _ 0 0 0 _ 50
  clear sz
  replace hW0 := Lib.hid hW0
  rcases hc with ⟨hb, rfl, rfl⟩ | ⟨hb, rfl, rfl⟩
  all_goals
    rw [hb] at hR
    clear hb
    go_enter Try.func30, Try.ntmps30
    go_wp2_with fail
    rw [← hW0.out]
    refine (ok_t _ m f hv).mono ?_
    rintro r1 w1 ⟨rfl, hb1⟩
    replace hg0 := (hb1.cell (p := ⟨w.heap.size, 0, none⟩) (by have := hsb.lt; show w.heap.size < _; omega)).trans hg0
    replace hg1 := (hb1.cell (p := ⟨w.heap.size, 1, none⟩) (by have := hsb.lt; show w.heap.size < _; omega)).trans hg1
    replace hsb := hsb.below hb1
    replace hbw := bchain hb1 hbw
    clear hb1
    go_wp2_with fail
    refine (hR.out _).mono ?_
    rintro r2 w2 ⟨rfl, hb2⟩
    replace hg0 := (hb2.cell (p := ⟨w.heap.size, 0, none⟩) (by have := hsb.lt; show w.heap.size < _; omega)).trans hg0
    replace hg1 := (hb2.cell (p := ⟨w.heap.size, 1, none⟩) (by have := hsb.lt; show w.heap.size < _; omega)).trans hg1
    replace hsb := hsb.below hb2
    replace hbw := bchain hb2 hbw
    clear hb2
    obtain ⟨ltO, o0, o1, o2, o3, fO⟩ := id hsb
    go_wp2
  ·
    have hF := hsb.all (0) (0) (0) (.slice none 0 0)
    have hBB := ((((hbw.setCell (p := ⟨w.heap.size + 1, 0, none⟩) (by show w.heap.size ≤ w.heap.size + 1; omega) (.int .i64 (0))).setCell (p := ⟨w.heap.size + 1, 1, none⟩) (by show w.heap.size ≤ w.heap.size + 1; omega) (.int .u32 (0))).setCell (p := ⟨w.heap.size + 1, 2, none⟩) (by show w.heap.size ≤ w.heap.size + 1; omega) (.int .i64 (0))).setCell (p := ⟨w.heap.size + 1, 3, none⟩) (by show w.heap.size ≤ w.heap.size + 1; omega) (.slice none 0 0))
    obtain ⟨WW, hWW⟩ : ∃ WW, WW = ((((w2.setCell ⟨w.heap.size + 1, 0, none⟩ (.int .i64 (0))).setCell ⟨w.heap.size + 1, 1, none⟩ (.int .u32 (0))).setCell ⟨w.heap.size + 1, 2, none⟩ (.int .i64 (0))).setCell ⟨w.heap.size + 1, 3, none⟩ (.slice none 0 0)) := ⟨_, rfl⟩
    rw [← hWW] at hF hBB ⊢
    clear hWW
    obtain ⟨_, hF0, hF1, hF2, hF3, _⟩ := hF
    exact bodyPost_ret (v := .tuple #[.agg #[.int .i64 (0), .int .u32 (0), .int .i64 (0), .slice none 0 0], .int .i64 2]) (by simp [results, Try.results30, go_sem, hF0, hF1, hF2, hF3]) rfl ⟨⟨_, rfl, ownT_nil⟩, hBB⟩
  ·
    have hF := hsb.all (m) (f) (s) (.slice none 0 0)
    have hBB := ((((hbw.setCell (p := ⟨w.heap.size + 1, 0, none⟩) (by show w.heap.size ≤ w.heap.size + 1; omega) (.int .i64 (m))).setCell (p := ⟨w.heap.size + 1, 1, none⟩) (by show w.heap.size ≤ w.heap.size + 1; omega) (.int .u32 (f))).setCell (p := ⟨w.heap.size + 1, 2, none⟩) (by show w.heap.size ≤ w.heap.size + 1; omega) (.int .i64 (s))).setCell (p := ⟨w.heap.size + 1, 3, none⟩) (by show w.heap.size ≤ w.heap.size + 1; omega) (.slice none 0 0))
    obtain ⟨WW, hWW⟩ : ∃ WW, WW = ((((w2.setCell ⟨w.heap.size + 1, 0, none⟩ (.int .i64 (m))).setCell ⟨w.heap.size + 1, 1, none⟩ (.int .u32 (f))).setCell ⟨w.heap.size + 1, 2, none⟩ (.int .i64 (s))).setCell ⟨w.heap.size + 1, 3, none⟩ (.slice none 0 0)) := ⟨_, rfl⟩
    rw [← hWW] at hF hBB ⊢
    clear hWW
    obtain ⟨_, hF0, hF1, hF2, hF3, _⟩ := hF
    exact bodyPost_ret (v := .tuple #[.agg #[.int .i64 (m), .int .u32 (f), .int .i64 (s), .slice none 0 0], .int .i64 0]) (by simp [results, Try.results30, go_sem, hF0, hF1, hF2, hF3]) rfl ⟨⟨_, rfl, ownT_nil⟩, hBB⟩
end
theorem zero_both (m f s : Int) (hf : f < 4294967296) (h0 : 0 ≤ f) : ∃ (L : SM) (c : Int), L.ts.length ≤ 1048576 ∧
    (∀ W, Calls Try.prog 30 #[.agg #[.int .i64 m, .int .u32 f], .int .i64 s] W (RetS W L c)) ∧
    (∀ W, Calls Try.prog 32 #[.agg #[.int .i64 m, .int .u32 f], .int .i64 s] W (RetS W L c)) := by
  by_cases hv : VG m f
  · cases hb : frB m s with
    | false => exact ⟨⟨0, 0, 0, []⟩, 2, by simp, fun W => szz_ok W m f s hv 2 _ (.inl ⟨hb, rfl, rfl⟩), fun W => izz_ok W m f s hv 2 _ (.inl ⟨hb, rfl, rfl⟩)⟩
    | true => exact ⟨⟨m, f, s, []⟩, 0, by simp, fun W => szz_ok W m f s hv 0 _ (.inr ⟨hb, rfl, rfl⟩), fun W => izz_ok W m f s hv 0 _ (.inr ⟨hb, rfl, rfl⟩)⟩
  · exact ⟨⟨0, 0, 0, []⟩, 1, by simp, fun W => szz_inv W m f s hf h0 hv, fun W => izz_inv W m f s hf h0 hv⟩
end Go.Proofs.Ytpobonomdfbanaa
/-
  SumOfFlag: both contracts.
-/
namespace Go.Proofs.Ytpobonomdfbanaa
open Go.RowKit
set_option maxRecDepth 100000
/-- what a cell holds -/
def cellOf (w : World) (a : Addr) : Value := (w.cell? a).getD undef
theorem cellOf_of {w : World} {a : Addr} {v : Value} (h : w.cell? a = some v) : w.cell? a = some (cellOf w a) := by unfold cellOf; rw [h]; rfl
/-- a flag's box, and a sum's behind it -/
def OneS (G : Nat) (k n e : Int) (A : World) : Prop := A.cell? ⟨G, 0, none⟩ = some (.int .i64 k) ∧ A.cell? ⟨G, 1, none⟩ = some (.int .i64 n) ∧ A.cell? ⟨G, 2, none⟩ = some (.int .u32 e) ∧
  A.cell? ⟨G + 1, 0, none⟩ = some (cellOf A ⟨G + 1, 0, none⟩) ∧ A.cell? ⟨G + 1, 1, none⟩ = some (cellOf A ⟨G + 1, 1, none⟩) ∧ A.cell? ⟨G + 1, 2, none⟩ = some (cellOf A ⟨G + 1, 2, none⟩) ∧ A.cell? ⟨G + 1, 3, none⟩ = some (cellOf A ⟨G + 1, 3, none⟩) ∧
  A.frozen? ⟨G + 1, 0, none⟩ = false ∧ A.frozen? ⟨G + 1, 1, none⟩ = false ∧ A.frozen? ⟨G + 1, 2, none⟩ = false ∧ A.frozen? ⟨G + 1, 3, none⟩ = false
structure One0 (w : World) (G : Nat) (k n e : Int) : Prop where
  fc : FC w G k n e
  sb : SB w (G + 1) 0 0 0 (.slice none 0 0)
theorem One0.below {w W : World} {G : Nat} {k n e : Int} (h : One0 w G k n e) (hb : Below w.heap.size w W) : One0 W G k n e := ⟨h.fc.below hb, h.sb.below hb⟩
theorem One0.s {w : World} {G : Nat} {k n e : Int} (h : One0 w G k n e) : OneS G k n e w := ⟨h.fc.c0, h.fc.c1, h.fc.c2, cellOf_of h.sb.c0, cellOf_of h.sb.c1, cellOf_of h.sb.c2, cellOf_of h.sb.c3, h.sb.fz _, h.sb.fz _, h.sb.fz _, h.sb.fz _⟩
theorem One0.held {w W S : World} {G : Nat} {k n e x y z : Int} {u : Value} (h : One0 w G k n e) (hb : Below w.heap.size w W) (hS : S = (((W.setCell ⟨G + 1, 0, none⟩ (.int .i64 x)).setCell ⟨G + 1, 1, none⟩ (.int .u32 y)).setCell ⟨G + 1, 2, none⟩ (.int .i64 z)).setCell ⟨G + 1, 3, none⟩ u) : OneS G k n e S := by
  have q := h.below hb
  have hs := q.sb.all x y z u
  have hf := (((q.fc.other (p := ⟨G + 1, 0, none⟩) (.int .i64 x) (by show G + 1 ≠ G; omega)).other (p := ⟨G + 1, 1, none⟩) (.int .u32 y) (by show G + 1 ≠ G; omega)).other (p := ⟨G + 1, 2, none⟩) (.int .i64 z) (by show G + 1 ≠ G; omega)).other (p := ⟨G + 1, 3, none⟩) u (by show G + 1 ≠ G; omega)
  subst hS
  exact ⟨hf.c0, hf.c1, hf.c2, cellOf_of hs.c0, cellOf_of hs.c1, cellOf_of hs.c2, cellOf_of hs.c3, hs.fz _, hs.fz _, hs.fz _, hs.fz _⟩
theorem One0.made (w : World) (k n e : Int) : One0 ((w.alloc (.cells #[.int .i64 k, .int .i64 n, .int .u32 e] 34)).alloc (.cells #[.int .i64 0, .int .u32 0, .int .i64 0, .slice none 0 0] 50)) w.heap.size k n e := by
  have sz : (w.alloc (.cells #[.int .i64 k, .int .i64 n, .int .u32 e] 34)).heap.size = w.heap.size + 1 := by simp
  refine ⟨(FC.made w k n e 34).below (balloc (Below.refl _ _) _), ?_⟩
  rw [← sz]
  exact SB.made _ 0 0 0 _ _
/-- a list of one term -/
theorem own_one (w0 w : World) (g : TE) (t : TypeId) (h : w0.heap.size ≤ w.heap.size) : OwnT w0 (w.alloc (.cells #[.int .i64 g.k, .int .i64 g.n, .int .u32 g.e, .int .i64 g.p, .int .i64 g.q] t)) (.slice (some ⟨w.heap.size, 0, none⟩) 1 1) [g] := by
  have b := TB.made w g.k g.n g.e g.p g.q t
  refine ⟨_, 1, rfl, Nat.le_refl _, by omega, fun _ => ⟨w.heap.size, rfl, h, b.lt, fun i hi => ?_, b.fz⟩⟩
  have hi : i < 5 := hi
  match i, hi with
  | 0, _ => exact b.c0
  | 1, _ => exact b.c1
  | 2, _ => exact b.c2
  | 3, _ => exact b.c3
  | 4, _ => exact b.c4
section
variable (w : World)
theorem iwh_any (x : Int) : Calls Try.prog 74 #[.int .i64 x] w fun r w' => r = .returned (.agg #[.int .i64 x, .int .i64 1]) ∧ Below w.heap.size w w' := by
  go_enter Try.func74, Try.ntmps74
  go_wp2
  exact bodyPost_ret (v := .agg #[.int .i64 x, .int .i64 1]) (by simp [results, Try.results74, go_sem]) rfl ⟨rfl, by (repeat (first | exact Below.refl _ _ | assumption | refine bchain (by assumption) ?_ | refine balloc ?_ _ | apply Below.drew | apply below_drewN | (refine Below.alloc ?_ (by (try simp) <;> omega) _) | (refine Below.setCell ?_ (by (try simp) <;> omega) _)))⟩
theorem slone_any (x : Int) : Calls Try.prog 82 #[.int .i64 x] w fun r w' => r = .returned (.agg #[.int .i64 x, .int .i64 1]) ∧ Below w.heap.size w w' := by
  go_enter Try.func82, Try.ntmps82
  go_wp2
  exact bodyPost_ret (v := .agg #[.int .i64 x, .int .i64 1]) (by simp [results, Try.results82, go_sem]) rfl ⟨rfl, by (repeat (first | exact Below.refl _ _ | assumption | refine bchain (by assumption) ?_ | refine balloc ?_ _ | apply Below.drew | apply below_drewN | (refine Below.alloc ?_ (by (try simp) <;> omega) _) | (refine Below.setCell ?_ (by (try simp) <;> omega) _)))⟩
theorem iso_any (k n e : Int) : Calls Try.prog 83 #[.agg #[.int .i64 k, .int .i64 n, .int .u32 e]] w fun r w' => r = .returned (.int .i64 n) ∧ Below w.heap.size w w' := by
  go_enter Try.func83, Try.ntmps83
  go_wp2
  go_ret
  exact ⟨rfl, by (repeat (first | exact Below.refl _ _ | assumption | refine bchain (by assumption) ?_ | refine balloc ?_ _ | apply Below.drew | apply below_drewN | (refine Below.alloc ?_ (by (try simp) <;> omega) _) | (refine Below.setCell ?_ (by (try simp) <;> omega) _)))⟩
theorem i1_inv (k n e : Int) (hf : e < 4294967296) (h0 : 0 ≤ e) (hv : ¬ VK k n e) :
    Calls Try.prog 36 #[.agg #[.int .i64 k, .int .i64 n, .int .u32 e]] w (RetS w ⟨0, 0, 0, []⟩ 1) := by
  obtain ⟨W0, hW0⟩ : ∃ W0, W0 = (w.alloc (.cells #[.int .i64 k, .int .i64 n, .int .u32 e] 34)).alloc (.cells #[.int .i64 0, .int .u32 0, .int .i64 0, .slice none 0 0] 50) := ⟨_, rfl⟩
  have hbw : Below w.heap.size w W0 := by rw [hW0]; (repeat (first | exact Below.refl _ _ | assumption | refine bchain (by assumption) ?_ | refine balloc ?_ _ | apply Below.drew | apply below_drewN | (refine Below.alloc ?_ (by (try simp) <;> omega) _) | (refine Below.setCell ?_ (by (try simp) <;> omega) _)))
  have hm : One0 W0 w.heap.size k n e := by rw [hW0]; exact One0.made w k n e
  replace hW0 := Lib.hid hW0
  obtain ⟨_, f0, f1, f2⟩ := id hm.fc
  go_enter Try.func36, Try.ntmps36
  go_wp2_with fail
  rw [← hW0.out]
  go_wp2_with fail
  refine (ivk_f _ k n e hf h0 hv).mono ?_
  rintro r1 w1 ⟨rfl, hb1⟩
  have hsb := hm.sb.below hb1
  replace hbw := bchain hb1 hbw
  clear hb1 hm f0 f1 f2
  obtain ⟨ltO, o0, o1, o2, o3, fO⟩ := id hsb
  go_wp2
  have hF := hsb.all (0) (0) (0) (.slice none 0 0)
  have hBB := ((((hbw.setCell (p := ⟨w.heap.size + 1, 0, none⟩) (by show w.heap.size ≤ w.heap.size + 1; omega) (.int .i64 (0))).setCell (p := ⟨w.heap.size + 1, 1, none⟩) (by show w.heap.size ≤ w.heap.size + 1; omega) (.int .u32 (0))).setCell (p := ⟨w.heap.size + 1, 2, none⟩) (by show w.heap.size ≤ w.heap.size + 1; omega) (.int .i64 (0))).setCell (p := ⟨w.heap.size + 1, 3, none⟩) (by show w.heap.size ≤ w.heap.size + 1; omega) (.slice none 0 0))
  obtain ⟨WW, hWW⟩ : ∃ WW, WW = ((((w1.setCell ⟨w.heap.size + 1, 0, none⟩ (.int .i64 (0))).setCell ⟨w.heap.size + 1, 1, none⟩ (.int .u32 (0))).setCell ⟨w.heap.size + 1, 2, none⟩ (.int .i64 (0))).setCell ⟨w.heap.size + 1, 3, none⟩ (.slice none 0 0)) := ⟨_, rfl⟩
  rw [← hWW] at hF hBB ⊢
  clear hWW
  obtain ⟨_, hF0, hF1, hF2, hF3, _⟩ := hF
  exact bodyPost_ret (v := .tuple #[.agg #[.int .i64 (0), .int .u32 (0), .int .i64 (0), .slice none 0 0], .int .i64 1]) (by simp [results, Try.results36, go_sem, hF0, hF1, hF2, hF3]) rfl ⟨⟨_, rfl, ownT_nil⟩, hBB⟩
set_option maxHeartbeats 2000000 in
theorem i1_ok (k n e : Nat) (hv : VK k n e) :
    Calls Try.prog 36 #[.agg #[.int .i64 k, .int .i64 n, .int .u32 e]] w (RetS w ⟨k, (onL e (List.range k) : Nat), n, [⟨k, n, (leastK n k e : Nat), 1, 1⟩]⟩ 0) := by
  have hT := Lib.hid (fun W => ity_any W k n e hv)
  have hL := Lib.hid (fun W => leastK_any W k n e hv)
  have hV := Lib.hid (fun W => ivk_t W k n e hv)
  obtain ⟨t, ht⟩ : ∃ t, onL e (List.range k) = t := ⟨_, rfl⟩
  obtain ⟨l, hl⟩ : ∃ l, leastK n k e = l := ⟨_, rfl⟩
  rw [ht] at hT ⊢
  rw [hl] at hL ⊢
  clear ht hl hv
  obtain ⟨W0, hW0⟩ : ∃ W0, W0 = (w.alloc (.cells #[.int .i64 k, .int .i64 n, .int .u32 e] 34)).alloc (.cells #[.int .i64 0, .int .u32 0, .int .i64 0, .slice none 0 0] 50) := ⟨_, rfl⟩
  have hbw : Below w.heap.size w W0 := by rw [hW0]; (repeat (first | exact Below.refl _ _ | assumption | refine bchain (by assumption) ?_ | refine balloc ?_ _ | apply Below.drew | apply below_drewN | (refine Below.alloc ?_ (by (try simp) <;> omega) _) | (refine Below.setCell ?_ (by (try simp) <;> omega) _)))
  have hm : One0 W0 w.heap.size k n e := by rw [hW0]; exact One0.made w k n e
  replace hW0 := Lib.hid hW0
  obtain ⟨_, f0, f1, f2⟩ := id hm.fc
  go_enter Try.func36, Try.ntmps36
  go_wp2_with fail
  rw [← hW0.out]
  go_wp2_with fail
  refine (hV.out _).mono ?_
  rintro r1 w1 ⟨rfl, hb1⟩
  have kk := Lib.hid (hm.below hb1)
  replace hbw := bchain hb1 hbw
  clear hb1 hm f0 f1 f2
  obtain ⟨_, f0, f1, f2⟩ := kk.out.fc
  obtain ⟨ltO, o0, o1, o2, o3, fO⟩ := kk.out.sb
  go_wp2_with fail
  go_region_held3 (fun A => A.cell? ⟨w.heap.size, 0, none⟩ = some (.int .i64 (k : Int)) ∧ A.cell? ⟨w.heap.size, 1, none⟩ = some (.int .i64 (n : Int)) ∧ A.cell? ⟨w.heap.size, 2, none⟩ = some (.int .u32 (e : Int)) ∧
  A.cell? ⟨w.heap.size + 1, 0, none⟩ = some (cellOf A ⟨w.heap.size + 1, 0, none⟩) ∧ A.cell? ⟨w.heap.size + 1, 1, none⟩ = some (cellOf A ⟨w.heap.size + 1, 1, none⟩) ∧ A.cell? ⟨w.heap.size + 1, 2, none⟩ = some (cellOf A ⟨w.heap.size + 1, 2, none⟩) ∧ A.cell? ⟨w.heap.size + 1, 3, none⟩ = some (cellOf A ⟨w.heap.size + 1, 3, none⟩) ∧
  A.frozen? ⟨w.heap.size + 1, 0, none⟩ = false ∧ A.frozen? ⟨w.heap.size + 1, 1, none⟩ = false ∧ A.frozen? ⟨w.heap.size + 1, 2, none⟩ = false ∧ A.frozen? ⟨w.heap.size + 1, 3, none⟩ = false)
    (first | exact kk.out.held (by (repeat (first | exact Below.refl _ _ | assumption | refine bchain (by assumption) ?_ | refine balloc ?_ _ | apply Below.drew | apply below_drewN | (refine Below.alloc ?_ (by (try simp) <;> omega) _) | (refine Below.setCell ?_ (by (try simp) <;> omega) _)))) rfl | exact (kk.out.below (by (repeat (first | exact Below.refl _ _ | assumption | refine bchain (by assumption) ?_ | refine balloc ?_ _ | apply Below.drew | apply below_drewN | (refine Below.alloc ?_ (by (try simp) <;> omega) _) | (refine Below.setCell ?_ (by (try simp) <;> omega) _))))).s)
    (first
    | (go_at_call 61; refine (hT.out _).mono ?_; rintro r2 w2 ⟨rfl, hb2⟩)
    | (go_at_call 72; refine (hL.out _).mono ?_; rintro r3 w3 ⟨rfl, hb3⟩)
    | (go_at_call 83; refine (iso_any _ k n e).mono ?_; rintro r4 w4 ⟨rfl, hb4⟩)
    | (go_at_call 74; refine (iwh_any _ 1).mono ?_; rintro r5 w5 ⟨rfl, hb5⟩))
  all_goals
    go_wp2
  have hb15 : Below w1.heap.size w1 w5 := by (repeat (first | exact Below.refl _ _ | assumption | refine bchain (by assumption) ?_ | refine balloc ?_ _ | apply Below.drew | apply below_drewN | (refine Below.alloc ?_ (by (try simp) <;> omega) _) | (refine Below.setCell ?_ (by (try simp) <;> omega) _)))
  have k5 := kk.out.below hb15
  have hbw5 : Below w.heap.size w w5 := hbw.trans (hb15.mono hbw.size)
  obtain ⟨WA, hWA⟩ : ∃ WA, WA = w5.alloc (.cells #[.int .i64 k, .int .i64 n, .int .u32 l, .int .i64 1, .int .i64 1] 100) := ⟨_, rfl⟩
  have hsb : SB WA (w.heap.size + 1) 0 0 0 (.slice none 0 0) := by rw [hWA]; exact k5.sb.below (balloc (Below.refl _ _) _)
  have hown : OwnT w5 WA (.slice (some ⟨w5.heap.size, 0, none⟩) 1 1) [⟨k, n, l, 1, 1⟩] := by rw [hWA]; exact own_one w5 w5 ⟨k, n, l, 1, 1⟩ _ (Nat.le_refl _)
  replace hbw : Below w.heap.size w WA := by rw [hWA]; exact balloc hbw5 _
  have hz5 : w.heap.size + 1 < w5.heap.size := k5.sb.lt
  have hw5 := hbw5.size
  rw [← hWA]
  clear hWA
  have hF := hsb.all (k) (t) (n) (.slice (some ⟨w5.heap.size, 0, none⟩) 1 1)
  have hBB := ((((hbw.setCell (p := ⟨w.heap.size + 1, 0, none⟩) (by show w.heap.size ≤ w.heap.size + 1; omega) (.int .i64 (k))).setCell (p := ⟨w.heap.size + 1, 1, none⟩) (by show w.heap.size ≤ w.heap.size + 1; omega) (.int .u32 (t))).setCell (p := ⟨w.heap.size + 1, 2, none⟩) (by show w.heap.size ≤ w.heap.size + 1; omega) (.int .i64 (n))).setCell (p := ⟨w.heap.size + 1, 3, none⟩) (by show w.heap.size ≤ w.heap.size + 1; omega) (.slice (some ⟨w5.heap.size, 0, none⟩) 1 1))
  obtain ⟨WW, hWW⟩ : ∃ WW, WW = ((((WA.setCell ⟨w.heap.size + 1, 0, none⟩ (.int .i64 (k))).setCell ⟨w.heap.size + 1, 1, none⟩ (.int .u32 (t))).setCell ⟨w.heap.size + 1, 2, none⟩ (.int .i64 (n))).setCell ⟨w.heap.size + 1, 3, none⟩ (.slice (some ⟨w5.heap.size, 0, none⟩) 1 1)) := ⟨_, rfl⟩
  have hOW := OwnT.four hown hz5 hw5 (.int .i64 (k)) (.int .u32 (t)) (.int .i64 (n)) (.slice (some ⟨w5.heap.size, 0, none⟩) 1 1)
  rw [← hWW] at hF hBB hOW ⊢
  clear hWW
  obtain ⟨_, hF0, hF1, hF2, hF3, _⟩ := hF
  exact bodyPost_ret (v := .tuple #[.agg #[.int .i64 (k), .int .u32 (t), .int .i64 (n), .slice (some ⟨w5.heap.size, 0, none⟩) 1 1], .int .i64 0]) (by simp [results, Try.results36, go_sem, hF0, hF1, hF2, hF3]) rfl ⟨⟨_, rfl, hOW⟩, hBB⟩
theorem s1_inv (k n e : Int) (hf : e < 4294967296) (h0 : 0 ≤ e) (hv : ¬ VK k n e) :
    Calls Try.prog 35 #[.agg #[.int .i64 k, .int .i64 n, .int .u32 e]] w (RetS w ⟨0, 0, 0, []⟩ 1) := by
  obtain ⟨W0, hW0⟩ : ∃ W0, W0 = (w.alloc (.cells #[.int .i64 k, .int .i64 n, .int .u32 e] 34)).alloc (.cells #[.int .i64 0, .int .u32 0, .int .i64 0, .slice none 0 0] 50) := ⟨_, rfl⟩
  have hbw : Below w.heap.size w W0 := by rw [hW0]; (repeat (first | exact Below.refl _ _ | assumption | refine bchain (by assumption) ?_ | refine balloc ?_ _ | apply Below.drew | apply below_drewN | (refine Below.alloc ?_ (by (try simp) <;> omega) _) | (refine Below.setCell ?_ (by (try simp) <;> omega) _)))
  have hm : One0 W0 w.heap.size k n e := by rw [hW0]; exact One0.made w k n e
  replace hW0 := Lib.hid hW0
  obtain ⟨_, f0, f1, f2⟩ := id hm.fc
  go_enter Try.func35, Try.ntmps35
  go_wp2_with fail
  rw [← hW0.out]
  go_wp2_with fail
  refine (sok_f _ k n e hf h0 hv).mono ?_
  rintro r1 w1 ⟨rfl, hb1⟩
  have hsb := hm.sb.below hb1
  replace hbw := bchain hb1 hbw
  clear hb1 hm f0 f1 f2
  obtain ⟨ltO, o0, o1, o2, o3, fO⟩ := id hsb
  go_wp2
  have hF := hsb.all (0) (0) (0) (.slice none 0 0)
  have hBB := ((((hbw.setCell (p := ⟨w.heap.size + 1, 0, none⟩) (by show w.heap.size ≤ w.heap.size + 1; omega) (.int .i64 (0))).setCell (p := ⟨w.heap.size + 1, 1, none⟩) (by show w.heap.size ≤ w.heap.size + 1; omega) (.int .u32 (0))).setCell (p := ⟨w.heap.size + 1, 2, none⟩) (by show w.heap.size ≤ w.heap.size + 1; omega) (.int .i64 (0))).setCell (p := ⟨w.heap.size + 1, 3, none⟩) (by show w.heap.size ≤ w.heap.size + 1; omega) (.slice none 0 0))
  obtain ⟨WW, hWW⟩ : ∃ WW, WW = ((((w1.setCell ⟨w.heap.size + 1, 0, none⟩ (.int .i64 (0))).setCell ⟨w.heap.size + 1, 1, none⟩ (.int .u32 (0))).setCell ⟨w.heap.size + 1, 2, none⟩ (.int .i64 (0))).setCell ⟨w.heap.size + 1, 3, none⟩ (.slice none 0 0)) := ⟨_, rfl⟩
  rw [← hWW] at hF hBB ⊢
  clear hWW
  obtain ⟨_, hF0, hF1, hF2, hF3, _⟩ := hF
  exact bodyPost_ret (v := .tuple #[.agg #[.int .i64 (0), .int .u32 (0), .int .i64 (0), .slice none 0 0], .int .i64 1]) (by simp [results, Try.results35, go_sem, hF0, hF1, hF2, hF3]) rfl ⟨⟨_, rfl, ownT_nil⟩, hBB⟩
set_option maxHeartbeats 2000000 in
theorem s1_ok (k n e : Nat) (hv : VK k n e) :
    Calls Try.prog 35 #[.agg #[.int .i64 k, .int .i64 n, .int .u32 e]] w (RetS w ⟨k, (onL e (List.range k) : Nat), n, [⟨k, n, (leastK n k e : Nat), 1, 1⟩]⟩ 0) := by
  have hT := Lib.hid (fun W => sty_any W k n e hv)
  have hL := Lib.hid (fun W => sleastK_any W k n e hv)
  have hV := Lib.hid (fun W => sok_t W k n e hv)
  obtain ⟨t, ht⟩ : ∃ t, onL e (List.range k) = t := ⟨_, rfl⟩
  obtain ⟨l, hl⟩ : ∃ l, leastK n k e = l := ⟨_, rfl⟩
  rw [ht] at hT ⊢
  rw [hl] at hL ⊢
  clear ht hl hv
  obtain ⟨W0, hW0⟩ : ∃ W0, W0 = (w.alloc (.cells #[.int .i64 k, .int .i64 n, .int .u32 e] 34)).alloc (.cells #[.int .i64 0, .int .u32 0, .int .i64 0, .slice none 0 0] 50) := ⟨_, rfl⟩
  have hbw : Below w.heap.size w W0 := by rw [hW0]; (repeat (first | exact Below.refl _ _ | assumption | refine bchain (by assumption) ?_ | refine balloc ?_ _ | apply Below.drew | apply below_drewN | (refine Below.alloc ?_ (by (try simp) <;> omega) _) | (refine Below.setCell ?_ (by (try simp) <;> omega) _)))
  have hm : One0 W0 w.heap.size k n e := by rw [hW0]; exact One0.made w k n e
  replace hW0 := Lib.hid hW0
  obtain ⟨_, f0, f1, f2⟩ := id hm.fc
  go_enter Try.func35, Try.ntmps35
  go_wp2_with fail
  rw [← hW0.out]
  go_wp2_with fail
  refine (hV.out _).mono ?_
  rintro r1 w1 ⟨rfl, hb1⟩
  have kk := Lib.hid (hm.below hb1)
  replace hbw := bchain hb1 hbw
  clear hb1 hm f0 f1 f2
  obtain ⟨_, f0, f1, f2⟩ := kk.out.fc
  obtain ⟨ltO, o0, o1, o2, o3, fO⟩ := kk.out.sb
  go_wp2_with fail
  go_region_held3 (fun A => A.cell? ⟨w.heap.size, 0, none⟩ = some (.int .i64 (k : Int)) ∧ A.cell? ⟨w.heap.size, 1, none⟩ = some (.int .i64 (n : Int)) ∧ A.cell? ⟨w.heap.size, 2, none⟩ = some (.int .u32 (e : Int)) ∧
  A.cell? ⟨w.heap.size + 1, 0, none⟩ = some (cellOf A ⟨w.heap.size + 1, 0, none⟩) ∧ A.cell? ⟨w.heap.size + 1, 1, none⟩ = some (cellOf A ⟨w.heap.size + 1, 1, none⟩) ∧ A.cell? ⟨w.heap.size + 1, 2, none⟩ = some (cellOf A ⟨w.heap.size + 1, 2, none⟩) ∧ A.cell? ⟨w.heap.size + 1, 3, none⟩ = some (cellOf A ⟨w.heap.size + 1, 3, none⟩) ∧
  A.frozen? ⟨w.heap.size + 1, 0, none⟩ = false ∧ A.frozen? ⟨w.heap.size + 1, 1, none⟩ = false ∧ A.frozen? ⟨w.heap.size + 1, 2, none⟩ = false ∧ A.frozen? ⟨w.heap.size + 1, 3, none⟩ = false)
    (first | exact kk.out.held (by (repeat (first | exact Below.refl _ _ | assumption | refine bchain (by assumption) ?_ | refine balloc ?_ _ | apply Below.drew | apply below_drewN | (refine Below.alloc ?_ (by (try simp) <;> omega) _) | (refine Below.setCell ?_ (by (try simp) <;> omega) _)))) rfl | exact (kk.out.below (by (repeat (first | exact Below.refl _ _ | assumption | refine bchain (by assumption) ?_ | refine balloc ?_ _ | apply Below.drew | apply below_drewN | (refine Below.alloc ?_ (by (try simp) <;> omega) _) | (refine Below.setCell ?_ (by (try simp) <;> omega) _))))).s)
    (first
    | (go_at_call 53; refine (hT.out _).mono ?_; rintro r2 w2 ⟨rfl, hb2⟩)
    | (go_at_call 54; refine (hL.out _).mono ?_; rintro r3 w3 ⟨rfl, hb3⟩)
    | (go_at_call 82; refine (slone_any _ 1).mono ?_; rintro r5 w5 ⟨rfl, hb5⟩))
  all_goals
    go_wp2
  have hb15 : Below w1.heap.size w1 w5 := by (repeat (first | exact Below.refl _ _ | assumption | refine bchain (by assumption) ?_ | refine balloc ?_ _ | apply Below.drew | apply below_drewN | (refine Below.alloc ?_ (by (try simp) <;> omega) _) | (refine Below.setCell ?_ (by (try simp) <;> omega) _)))
  have k5 := kk.out.below hb15
  have hbw5 : Below w.heap.size w w5 := hbw.trans (hb15.mono hbw.size)
  obtain ⟨WA, hWA⟩ : ∃ WA, WA = w5.alloc (.cells #[.int .i64 k, .int .i64 n, .int .u32 l, .int .i64 1, .int .i64 1] 100) := ⟨_, rfl⟩
  have hsb : SB WA (w.heap.size + 1) 0 0 0 (.slice none 0 0) := by rw [hWA]; exact k5.sb.below (balloc (Below.refl _ _) _)
  have hown : OwnT w5 WA (.slice (some ⟨w5.heap.size, 0, none⟩) 1 1) [⟨k, n, l, 1, 1⟩] := by rw [hWA]; exact own_one w5 w5 ⟨k, n, l, 1, 1⟩ _ (Nat.le_refl _)
  replace hbw : Below w.heap.size w WA := by rw [hWA]; exact balloc hbw5 _
  have hz5 : w.heap.size + 1 < w5.heap.size := k5.sb.lt
  have hw5 := hbw5.size
  rw [← hWA]
  clear hWA
  have hF := hsb.all (k) (t) (n) (.slice (some ⟨w5.heap.size, 0, none⟩) 1 1)
  have hBB := ((((hbw.setCell (p := ⟨w.heap.size + 1, 0, none⟩) (by show w.heap.size ≤ w.heap.size + 1; omega) (.int .i64 (k))).setCell (p := ⟨w.heap.size + 1, 1, none⟩) (by show w.heap.size ≤ w.heap.size + 1; omega) (.int .u32 (t))).setCell (p := ⟨w.heap.size + 1, 2, none⟩) (by show w.heap.size ≤ w.heap.size + 1; omega) (.int .i64 (n))).setCell (p := ⟨w.heap.size + 1, 3, none⟩) (by show w.heap.size ≤ w.heap.size + 1; omega) (.slice (some ⟨w5.heap.size, 0, none⟩) 1 1))
  obtain ⟨WW, hWW⟩ : ∃ WW, WW = ((((WA.setCell ⟨w.heap.size + 1, 0, none⟩ (.int .i64 (k))).setCell ⟨w.heap.size + 1, 1, none⟩ (.int .u32 (t))).setCell ⟨w.heap.size + 1, 2, none⟩ (.int .i64 (n))).setCell ⟨w.heap.size + 1, 3, none⟩ (.slice (some ⟨w5.heap.size, 0, none⟩) 1 1)) := ⟨_, rfl⟩
  have hOW := OwnT.four hown hz5 hw5 (.int .i64 (k)) (.int .u32 (t)) (.int .i64 (n)) (.slice (some ⟨w5.heap.size, 0, none⟩) 1 1)
  rw [← hWW] at hF hBB hOW ⊢
  clear hWW
  obtain ⟨_, hF0, hF1, hF2, hF3, _⟩ := hF
  exact bodyPost_ret (v := .tuple #[.agg #[.int .i64 (k), .int .u32 (t), .int .i64 (n), .slice (some ⟨w5.heap.size, 0, none⟩) 1 1], .int .i64 0]) (by simp [results, Try.results35, go_sem, hF0, hF1, hF2, hF3]) rfl ⟨⟨_, rfl, hOW⟩, hBB⟩
end
theorem one_both (k n e : Int) (hf : e < 4294967296) (h0 : 0 ≤ e) : ∃ (L : SM) (c : Int), L.ts.length ≤ 1048576 ∧
    (∀ W, Calls Try.prog 35 #[.agg #[.int .i64 k, .int .i64 n, .int .u32 e]] W (RetS W L c)) ∧
    (∀ W, Calls Try.prog 36 #[.agg #[.int .i64 k, .int .i64 n, .int .u32 e]] W (RetS W L c)) := by
  by_cases hv : VK k n e
  · obtain ⟨k, n, e, rfl, rfl, rfl⟩ : ∃ k' n' e' : Nat, k = k' ∧ n = n' ∧ e = e' := ⟨k.toNat, n.toNat, e.toNat, by have := hv.2.1; omega, by have := hv.1.1; omega, by omega⟩
    exact ⟨_, 0, by simp, fun W => s1_ok W k n e hv, fun W => i1_ok W k n e hv⟩
  · exact ⟨⟨0, 0, 0, []⟩, 1, by simp, fun W => s1_inv W k n e hf h0 hv, fun W => i1_inv W k n e hf h0 hv⟩
end Go.Proofs.Ytpobonomdfbanaa
/-
  TWO FLAGS HELD AGAINST EACH OTHER BY '=='.
-/
namespace Go.Proofs.Ytpobonomdfbanaa
open Go.RowKit
set_option maxRecDepth 100000

theorem eqGrK (W : World) (n m e f : Int) : (Op.equalIn 10000 32 (.agg #[.int .i64 n, .int .u32 e]) (.agg #[.int .i64 m, .int .u32 f])).run Try.prog W = .ok (n == m && e == f) W := by
  have u3 := Try.underlying2
  have u4 := Try.underlying22
  have hS : Try.prog.underlying 32 = some (.struct (Try.prog.fieldsOf 32)) := by kernel_rfl
  have hp : Try.prog.stoodInHeld 32 = false := by kernel_rfl
  rw [show (10000 : Nat) = 9999 + 1 from rfl, run_equalIn_agg W 9999 32 _ _ hS hp]
  simp only [Program.fieldsOf, Try.underlying32]
  go_simp
  by_cases h1 : n = m <;> by_cases h2 : e = f <;> simp [h1, h2]
theorem eqFl (W : World) (k l n m e f : Int) : (Op.equalIn 10000 34 (.agg #[.int .i64 k, .int .i64 n, .int .u32 e]) (.agg #[.int .i64 l, .int .i64 m, .int .u32 f])).run Try.prog W = .ok (k == l && (n == m && e == f)) W := by
  have u3 := Try.underlying2
  have u4 := Try.underlying22
  have hS : Try.prog.underlying 34 = some (.struct (Try.prog.fieldsOf 34)) := by kernel_rfl
  have hp : Try.prog.stoodInHeld 34 = false := by kernel_rfl
  rw [show (10000 : Nat) = 9999 + 1 from rfl, run_equalIn_agg W 9999 34 _ _ hS hp]
  simp only [Program.fieldsOf, Try.underlying34]
  go_simp
  by_cases h1 : k = l <;> by_cases h2 : n = m <;> by_cases h3 : e = f <;> simp [h1, h2, h3]
end Go.Proofs.Ytpobonomdfbanaa
/-
  WORLDS IN WHICH OLD BLOCKS ARE AS THEY WERE: for regions that draw their order.
-/
namespace Go.Proofs.Ytpobonomdfbanaa
open Go.RowKit
set_option maxRecDepth 100000
/-- the worlds in which old blocks are as they were -/
structure BW (w : World) where
  W : World
  h : Below w.heap.size w W
instance (w : World) : Nonempty (BW w) := ⟨⟨w, Below.refl _ _⟩⟩
theorem wp_region_below {P : Program} {id : Nat} {Q : Exit → Act → World → Prop} {a : Act} {w : World} {l : List Oper} (hm : P.follows .mixedOrders = true) (hB : Region.lexB .any l.toArray = true)
    (h : wpQuiet P l.toArray (fun w' => ∃ p : BW w, w' = p.W) (fun a' => ∀ w', (∃ p : BW w, w' = p.W) → Q .normal a' w') l a) : (Code.region id l.toArray true).wp P Q a w :=
  wp_region_quiet (C := fun w' => ∃ p : BW w, w' = p.W) hm hB ⟨⟨_, (Below.refl _ w).drew⟩, rfl⟩ (by simpa using h)
theorem bw_of {P : Program} {f : FuncId} {args : Array Value} {w : World} {p : BW w} {v : Value} (h : Calls P f args p.W fun e w' => e = .returned v ∧ Below p.W.heap.size p.W w') : Calls P f args p.W fun e w' => e = .returned v ∧ ∃ q : BW w, w' = q.W :=
  h.mono fun _ w' ⟨he, hb⟩ => ⟨he, ⟨w', p.h.trans (hb.mono p.h.size)⟩, rfl⟩
theorem bw_cell {w : World} {B o : Nat} {v : Value} (hz : B < w.heap.size) (hc : w.cell? ⟨B, o, none⟩ = some v) (p : BW w) : p.W.cell? ⟨B, o, none⟩ = some v := old_cell hz hc p.h
end Go.Proofs.Ytpobonomdfbanaa
/-
  Has a flag a type and a size: the program's contract and the model's.
-/
namespace Go.Proofs.Ytpobonomdfbanaa
open Go.RowKit Go.Shelf
set_option maxRecDepth 100000
attribute [local go_sem] Oper.semAt_some
/-- has a flag a type and a size -/
def Fits (k n e : Nat) (m f s : Int) : Prop := (k : Int) = m ∧ ((onL e (List.range k) : Nat) : Int) = f ∧ (n : Int) = s
section
variable (w : World)
set_option maxHeartbeats 2000000 in
theorem iof_any (k n e : Nat) (m f s : Int) (h : VK k n e) (B : Bool) (hB : B = true ↔ Fits k n e m f s) :
    Calls Try.prog 71 #[.agg #[.int .i64 k, .int .i64 n, .int .u32 e], .agg #[.int .i64 m, .int .u32 f], .int .i64 s] w fun r w' => r = .returned (.bool B) ∧ Below w.heap.size w w' := by
  have hT := Lib.hid (fun W => ity_any W k n e h)
  unfold Fits at hB
  obtain ⟨t, ht⟩ : ∃ t, onL e (List.range k) = t := ⟨_, rfl⟩
  rw [ht] at hT hB
  clear ht h
  obtain ⟨W0, hW0⟩ : ∃ W0, W0 = (w.alloc (.cells #[.int .i64 (k : Int), .int .i64 (n : Int), .int .u32 (e : Int)] 34)).alloc (.cells #[.int .i64 m, .int .u32 f] 32) := ⟨_, rfl⟩
  have hB0 : Below w.heap.size w W0 := by rw [hW0]; (repeat (first | exact Below.refl _ _ | assumption | refine bchain (by assumption) ?_ | refine balloc ?_ _ | apply Below.drew | apply below_drewN | (refine Below.alloc ?_ (by (try simp) <;> omega) _) | (refine Below.setCell ?_ (by (try simp) <;> omega) _)))
  have hf : FC W0 w.heap.size k n e := by rw [hW0]; exact (FC.made w k n e 34).below (balloc (Below.refl _ _) _)
  have hz : w.heap.size + 1 < W0.heap.size := by rw [hW0]; simp
  have g0 : W0.cell? ⟨w.heap.size + 1, 0, none⟩ = some (.int .i64 m) := by rw [hW0, cNew _ _ _ _ _ (by simp)]; rfl
  have g1 : W0.cell? ⟨w.heap.size + 1, 1, none⟩ = some (.int .u32 f) := by rw [hW0, cNew _ _ _ _ _ (by simp)]; rfl
  have q0 := bw_cell hf.lt hf.c0
  have q1 := bw_cell hf.lt hf.c1
  have q2 := bw_cell hf.lt hf.c2
  have q3 := bw_cell hz g0
  have q4 := bw_cell hz g1
  replace hW0 := Lib.hid hW0
  clear g0 g1 hf hz
  by_cases c : (k : Int) = m ∧ (t : Int) = f
  · obtain ⟨rfl, rfl⟩ := c
    have hq : ∀ W, (Op.equalIn 10000 32 (.agg #[.int .i64 (k : Int), .int .u32 (t : Int)]) (.agg #[.int .i64 (k : Int), .int .u32 (t : Int)])).run Try.prog W = .ok true W := fun W => by rw [eqGrK]; simp
    obtain rfl : B = ((n : Int) == s) := by
      rw [Bool.eq_iff_iff, hB]
      simp
    clear hB
    go_enter Try.func71, Try.ntmps71
    go_wp2
    rw [← hW0.out]
    refine wp_region_below (by kernel_rfl) (by kernel_rfl) ?_
    iterate 1 (quiet_step (fail))
    refine wpQuiet_step (fun K hK => ?_)
    go_simp
    apply Exists.intro
    refine ⟨fun p => ?_, hK _ ?_⟩
    · exact bw_of (w := W0) (p := p) (hT.out p.W)
    clear hK K
    iterate 3 (quiet_step (fail))
    iterate 1 (quiet_step (fail))
    refine wpQuiet_step (fun K hK => ?_)
    go_simp
    apply Exists.intro
    refine ⟨fun p => ?_, hK _ ?_⟩
    · exact bw_of (w := W0) (p := p) (iso_any p.W k n e)
    clear hK K
    iterate 2 (quiet_step (fail))
    iterate 2 (quiet_step (fail))
    refine wpQuiet_nil ?_
    intro w3 hw'
    obtain ⟨⟨wx, hb_w3⟩, rfl⟩ := hw'
    go_wp2
    go_ret
    exact ⟨rfl, hB0.trans (hb_w3.mono hB0.size)⟩
  · have hq : ∀ W, (Op.equalIn 10000 32 (.agg #[.int .i64 (k : Int), .int .u32 (t : Int)]) (.agg #[.int .i64 m, .int .u32 f])).run Try.prog W = .ok false W := fun W => by
      rw [eqGrK]
      have : ((k : Int) == m && (t : Int) == f) = false := by
        rw [Bool.eq_false_iff]
        intro h
        simp at h
        exact c h
      rw [this]
    obtain rfl : B = false := by
      rw [Bool.eq_false_iff]
      intro c2
      exact c ⟨(hB.1 c2).1, (hB.1 c2).2.1⟩
    clear hB c
    go_enter Try.func71, Try.ntmps71
    go_wp2
    rw [← hW0.out]
    refine wp_region_below (by kernel_rfl) (by kernel_rfl) ?_
    iterate 1 (quiet_step (fail))
    refine wpQuiet_step (fun K hK => ?_)
    go_simp
    apply Exists.intro
    refine ⟨fun p => ?_, hK _ ?_⟩
    · exact bw_of (w := W0) (p := p) (hT.out p.W)
    clear hK K
    iterate 3 (quiet_step (fail))
    iterate 4 go_big_quiet_skip
    iterate 2 (quiet_step (fail))
    refine wpQuiet_nil ?_
    intro w3 hw'
    obtain ⟨⟨wx, hb_w3⟩, rfl⟩ := hw'
    go_wp2
    go_ret
    exact ⟨rfl, hB0.trans (hb_w3.mono hB0.size)⟩
set_option maxHeartbeats 2000000 in
theorem sof_any (k n e : Nat) (m f s : Int) (h : VK k n e) (B : Bool) (hB : B = true ↔ Fits k n e m f s) :
    Calls Try.prog 84 #[.agg #[.int .i64 k, .int .i64 n, .int .u32 e], .agg #[.int .i64 m, .int .u32 f], .int .i64 s] w fun r w' => r = .returned (.bool B) ∧ Below w.heap.size w w' := by
  have hT := Lib.hid (fun W => sty_any W k n e h)
  unfold Fits at hB
  obtain ⟨t, ht⟩ : ∃ t, onL e (List.range k) = t := ⟨_, rfl⟩
  rw [ht] at hT hB
  clear ht h
  obtain ⟨W0, hW0⟩ : ∃ W0, W0 = (w.alloc (.cells #[.int .i64 (k : Int), .int .i64 (n : Int), .int .u32 (e : Int)] 34)).alloc (.cells #[.int .i64 m, .int .u32 f] 32) := ⟨_, rfl⟩
  have hB0 : Below w.heap.size w W0 := by rw [hW0]; (repeat (first | exact Below.refl _ _ | assumption | refine bchain (by assumption) ?_ | refine balloc ?_ _ | apply Below.drew | apply below_drewN | (refine Below.alloc ?_ (by (try simp) <;> omega) _) | (refine Below.setCell ?_ (by (try simp) <;> omega) _)))
  have hf : FC W0 w.heap.size k n e := by rw [hW0]; exact (FC.made w k n e 34).below (balloc (Below.refl _ _) _)
  have hz : w.heap.size + 1 < W0.heap.size := by rw [hW0]; simp
  have g0 : W0.cell? ⟨w.heap.size + 1, 0, none⟩ = some (.int .i64 m) := by rw [hW0, cNew _ _ _ _ _ (by simp)]; rfl
  have g1 : W0.cell? ⟨w.heap.size + 1, 1, none⟩ = some (.int .u32 f) := by rw [hW0, cNew _ _ _ _ _ (by simp)]; rfl
  have q0 := bw_cell hf.lt hf.c0
  have q1 := bw_cell hf.lt hf.c1
  have q2 := bw_cell hf.lt hf.c2
  have q3 := bw_cell hz g0
  have q4 := bw_cell hz g1
  replace hW0 := Lib.hid hW0
  clear g0 g1 hf hz
  by_cases c : (k : Int) = m ∧ (t : Int) = f
  · obtain ⟨rfl, rfl⟩ := c
    have hq : ∀ W, (Op.equalIn 10000 32 (.agg #[.int .i64 (k : Int), .int .u32 (t : Int)]) (.agg #[.int .i64 (k : Int), .int .u32 (t : Int)])).run Try.prog W = .ok true W := fun W => by rw [eqGrK]; simp
    obtain rfl : B = ((n : Int) == s) := by
      rw [Bool.eq_iff_iff, hB]
      simp
    clear hB
    go_enter Try.func84, Try.ntmps84
    go_wp2
    rw [← hW0.out]
    refine wp_region_below (by kernel_rfl) (by kernel_rfl) ?_
    iterate 1 (quiet_step (fail))
    refine wpQuiet_step (fun K hK => ?_)
    go_simp
    apply Exists.intro
    refine ⟨fun p => ?_, hK _ ?_⟩
    · exact bw_of (w := W0) (p := p) (hT.out p.W)
    clear hK K
    iterate 3 (quiet_step (fail))
    iterate 5 (quiet_step (fail))
    iterate 2 (quiet_step (fail))
    refine wpQuiet_nil ?_
    intro w3 hw'
    obtain ⟨⟨wx, hb_w3⟩, rfl⟩ := hw'
    go_wp2
    go_ret
    exact ⟨rfl, hB0.trans (hb_w3.mono hB0.size)⟩
  · have hq : ∀ W, (Op.equalIn 10000 32 (.agg #[.int .i64 (k : Int), .int .u32 (t : Int)]) (.agg #[.int .i64 m, .int .u32 f])).run Try.prog W = .ok false W := fun W => by
      rw [eqGrK]
      have : ((k : Int) == m && (t : Int) == f) = false := by
        rw [Bool.eq_false_iff]
        intro h
        simp at h
        exact c h
      rw [this]
    obtain rfl : B = false := by
      rw [Bool.eq_false_iff]
      intro c2
      exact c ⟨(hB.1 c2).1, (hB.1 c2).2.1⟩
    clear hB c
    go_enter Try.func84, Try.ntmps84
    go_wp2
    rw [← hW0.out]
    refine wp_region_below (by kernel_rfl) (by kernel_rfl) ?_
    iterate 1 (quiet_step (fail))
    refine wpQuiet_step (fun K hK => ?_)
    go_simp
    apply Exists.intro
    refine ⟨fun p => ?_, hK _ ?_⟩
    · exact bw_of (w := W0) (p := p) (hT.out p.W)
    clear hK K
    iterate 3 (quiet_step (fail))
    iterate 5 go_big_quiet_skip
    iterate 2 (quiet_step (fail))
    refine wpQuiet_nil ?_
    intro w3 hw'
    obtain ⟨⟨wx, hb_w3⟩, rfl⟩ := hw'
    go_wp2
    go_ret
    exact ⟨rfl, hB0.trans (hb_w3.mono hB0.size)⟩
end
end Go.Proofs.Ytpobonomdfbanaa
/-
  Are two sums the same: the program's contract and the model's.
-/
namespace Go.Proofs.Ytpobonomdfbanaa
open Go.RowKit
set_option maxRecDepth 100000
theorem eqFrT (W : World) (n m e f : Int) : (Op.equalIn 10000 63 (.agg #[.int .i64 n, .int .i64 e]) (.agg #[.int .i64 m, .int .i64 f])).run Try.prog W = .ok (n == m && e == f) W := by
  have u3 := Try.underlying2
  have hS : Try.prog.underlying 63 = some (.struct (Try.prog.fieldsOf 63)) := by kernel_rfl
  have hp : Try.prog.stoodInHeld 63 = false := by kernel_rfl
  rw [show (10000 : Nat) = 9999 + 1 from rfl, run_equalIn_agg W 9999 63 _ _ hS hp]
  simp only [Program.fieldsOf, Try.underlying63]
  go_simp
  by_cases h1 : n = m <;> by_cases h2 : e = f <;> simp [h1, h2]
theorem eqTm (W : World) (x0 x1 x2 x3 x4 y0 y1 y2 y3 y4 : Int) : (Op.equalIn 10000 100 (.agg #[.int .i64 x0, .int .i64 x1, .int .u32 x2, .int .i64 x3, .int .i64 x4]) (.agg #[.int .i64 y0, .int .i64 y1, .int .u32 y2, .int .i64 y3, .int .i64 y4])).run Try.prog W = .ok ((x0 == y0 && (x1 == y1 && x2 == y2)) && (x3 == y3 && x4 == y4)) W := by
  have u3 := Try.underlying2
  have u4 := Try.underlying22
  have hS : Try.prog.underlying 100 = some (.struct (Try.prog.fieldsOf 100)) := by kernel_rfl
  have hp : Try.prog.stoodInHeld 100 = false := by kernel_rfl
  rw [show (10000 : Nat) = 9999 + 1 from rfl, run_equalIn_agg W 9999 100 _ _ hS hp]
  simp only [Program.fieldsOf, Try.underlying100]
  go_simp
  by_cases h1 : x0 = y0 <;> by_cases h2 : x1 = y1 <;> by_cases h3 : x2 = y2 <;> by_cases h4 : x3 = y3 <;> by_cases h5 : x4 = y4 <;> simp [h1, h2, h3, h4, h5]
theorem tAt_ext {xs ys : List TE} (hl : xs.length = ys.length) (h : ∀ i, i < xs.length → tAt xs i = tAt ys i) : xs = ys := by
  refine List.ext_getElem hl ?_
  intro i h1 h2
  have := h i h1
  simpa [tAt, List.getElem?_eq_getElem h1, List.getElem?_eq_getElem h2] using this
section
variable (w : World)
set_option maxHeartbeats 1000000 in
theorem sleqT_any (u v : Value) (xs ys : List TE) (hS : SlT w u xs) (hS' : SlT w v ys) (hm : xs.length ≤ 1048576) (B : Bool) (hB0 : B = true ↔ xs = ys) :
    Calls Try.prog 77 #[u, v] w fun r w' => r = .returned (.bool B) ∧ Below w.heap.size w w' := by
  obtain ⟨a, cap, rfl, h1, h2, h3⟩ := hS
  obtain ⟨a', cap', rfl, h1', h2', h3'⟩ := hS'
  replace hB0 := Lib.hid hB0
  by_cases hl : xs.length = ys.length
  · rw [← hl] at h3' h1' ⊢
    obtain ⟨n, hn⟩ : ∃ n, n = xs.length := ⟨_, rfl⟩
    have hl2 := hl
    rw [← hn] at hm h1 h1' h3' hl ⊢
    have h3'' : 0 < n → ∃ b off, a' = some ⟨b, off, none⟩ ∧ b < w.heap.size ∧ ∀ i, i < n → TCell w b off (tAt ys i) i := fun h => h3' (by intro c; rw [c] at hl; simp at hl; omega)
    have h3b : 0 < n → ∃ b off, a = some ⟨b, off, none⟩ ∧ b < w.heap.size ∧ ∀ i, i < n → TCell w b off (tAt xs i) i := fun h => by rw [hn]; exact h3 (by intro c; rw [c] at hn; simp at hn; omega)
    clear h3 h3' hl
    replace h3'' := Lib.hid h3''
    replace h3b := Lib.hid h3b
    replace hn := Lib.hid hn.symm
    replace hl := Lib.hid hl2
    clear hl2
    go_enter Try.func77, Try.ntmps77
    go_wp2
    go_loopw [5, 13] (fun _ i wr => ∃ k : Nat, k ≤ n ∧ i = .int .i64 k ∧ (∀ j, j < k → tAt xs j = tAt ys j) ∧ Below w.heap.size w wr) (fun _ i _ => n - (intOf i).toNat)
    case atStart => exact ⟨0, by omega, rfl, fun j hj => by omega, by (repeat (first | exact Below.refl _ _ | assumption | refine bchain (by assumption) ?_ | refine balloc ?_ _ | apply Below.drew | apply below_drewN | (refine Below.alloc ?_ (by (try simp) <;> omega) _) | (refine Below.setCell ?_ (by (try simp) <;> omega) _)))⟩
    case round =>
      obtain ⟨k, hk, rfl, heq, hB⟩ := hrel
      by_cases hlt : k < n
      · obtain ⟨b, off, rfl, hb, hg⟩ := h3b.out (by omega)
        obtain ⟨b', off', rfl, hb', hg'⟩ := h3''.out (by omega)
        obtain ⟨x0, x1, x2, x3, x4, hxy⟩ : ∃ x0 x1 x2 x3 x4, tAt xs k = ⟨x0, x1, x2, x3, x4⟩ := ⟨_, _, _, _, _, rfl⟩
        obtain ⟨y0, y1, y2, y3, y4, hxy2⟩ : ∃ y0 y1 y2 y3 y4, tAt ys k = ⟨y0, y1, y2, y3, y4⟩ := ⟨_, _, _, _, _, rfl⟩
        have s0 : wr.cell? ⟨b, off + k * 5, none⟩ = some (.int .i64 x0) := by rw [hB.cell (p := ⟨b, _, none⟩) hb, (hg k hlt).1, hxy]
        have s1 : wr.cell? ⟨b, off + k * 5 + 1, none⟩ = some (.int .i64 x1) := by rw [hB.cell (p := ⟨b, _, none⟩) hb, (hg k hlt).2.1, hxy]
        have s2 : wr.cell? ⟨b, off + k * 5 + 2, none⟩ = some (.int .u32 x2) := by rw [hB.cell (p := ⟨b, _, none⟩) hb, (hg k hlt).2.2.1, hxy]
        have s3 : wr.cell? ⟨b, off + k * 5 + 3, none⟩ = some (.int .i64 x3) := by rw [hB.cell (p := ⟨b, _, none⟩) hb, (hg k hlt).2.2.2.1, hxy]
        have s4 : wr.cell? ⟨b, off + k * 5 + 4, none⟩ = some (.int .i64 x4) := by rw [hB.cell (p := ⟨b, _, none⟩) hb, (hg k hlt).2.2.2.2, hxy]
        have t0 : wr.cell? ⟨b', off' + k * 5, none⟩ = some (.int .i64 y0) := by rw [hB.cell (p := ⟨b', _, none⟩) hb', (hg' k hlt).1, hxy2]
        have t1 : wr.cell? ⟨b', off' + k * 5 + 1, none⟩ = some (.int .i64 y1) := by rw [hB.cell (p := ⟨b', _, none⟩) hb', (hg' k hlt).2.1, hxy2]
        have t2 : wr.cell? ⟨b', off' + k * 5 + 2, none⟩ = some (.int .u32 y2) := by rw [hB.cell (p := ⟨b', _, none⟩) hb', (hg' k hlt).2.2.1, hxy2]
        have t3 : wr.cell? ⟨b', off' + k * 5 + 3, none⟩ = some (.int .i64 y3) := by rw [hB.cell (p := ⟨b', _, none⟩) hb', (hg' k hlt).2.2.2.1, hxy2]
        have t4 : wr.cell? ⟨b', off' + k * 5 + 4, none⟩ = some (.int .i64 y4) := by rw [hB.cell (p := ⟨b', _, none⟩) hb', (hg' k hlt).2.2.2.2, hxy2]
        have hkn : (k : Int) < (n : Int) := by omega
        have hkn0 : (0 : Int) ≤ (k : Int) := by omega
        clear hg hg'
        replace heq := Lib.hid heq
        by_cases he : x0 = y0 ∧ x1 = y1 ∧ x2 = y2 ∧ x3 = y3 ∧ x4 = y4
        · obtain ⟨rfl, rfl, rfl, rfl, rfl⟩ := he
          have hq : ∀ W, (Op.equalIn 10000 100 (.agg #[.int .i64 x0, .int .i64 x1, .int .u32 x2, .int .i64 x3, .int .i64 x4]) (.agg #[.int .i64 x0, .int .i64 x1, .int .u32 x2, .int .i64 x3, .int .i64 x4])).run Try.prog W = .ok true W := fun W => by rw [eqTm]; simp
          have hne := Lib.hid (hxy.trans hxy2.symm)
          clear hxy hxy2
          go_wp2
          go_region_held3 (fun W => W.cell? ⟨b, off + k * 5, none⟩ = some (.int .i64 x0) ∧ W.cell? ⟨b, off + k * 5 + 1, none⟩ = some (.int .i64 x1) ∧ W.cell? ⟨b, off + k * 5 + 2, none⟩ = some (.int .u32 x2) ∧ W.cell? ⟨b, off + k * 5 + 3, none⟩ = some (.int .i64 x3) ∧ W.cell? ⟨b, off + k * 5 + 4, none⟩ = some (.int .i64 x4) ∧ W.cell? ⟨b', off' + k * 5, none⟩ = some (.int .i64 x0) ∧ W.cell? ⟨b', off' + k * 5 + 1, none⟩ = some (.int .i64 x1) ∧ W.cell? ⟨b', off' + k * 5 + 2, none⟩ = some (.int .u32 x2) ∧ W.cell? ⟨b', off' + k * 5 + 3, none⟩ = some (.int .i64 x3) ∧ W.cell? ⟨b', off' + k * 5 + 4, none⟩ = some (.int .i64 x4))
            (exact ⟨s0, s1, s2, s3, s4, t0, t1, t2, t3, t4⟩) (fail)
          go_wp2
          go_roundw
          case rel => exact ⟨k + 1, by omega, by go_num, fun j hj => by
            by_cases e : j = k
            · rw [e]; exact hne.out
            · exact heq.out j (by omega), by (repeat (first | exact Below.refl _ _ | assumption | refine bchain (by assumption) ?_ | refine balloc ?_ _ | apply Below.drew | apply below_drewN | (refine Below.alloc ?_ (by (try simp) <;> omega) _) | (refine Below.setCell ?_ (by (try simp) <;> omega) _)))⟩
          case measure => simp [intOf]; omega
        · have hq : ∀ W, (Op.equalIn 10000 100 (.agg #[.int .i64 x0, .int .i64 x1, .int .u32 x2, .int .i64 x3, .int .i64 x4]) (.agg #[.int .i64 y0, .int .i64 y1, .int .u32 y2, .int .i64 y3, .int .i64 y4])).run Try.prog W = .ok false W := fun W => by
            rw [eqTm]
            have : ((x0 == y0 && (x1 == y1 && x2 == y2)) && (x3 == y3 && x4 == y4)) = false := by
              rw [Bool.eq_false_iff]
              intro h
              simp at h
              exact he ⟨h.1.1, h.1.2.1, h.1.2.2, h.2.1, h.2.2⟩
            rw [this]
          obtain rfl : B = false := by
            rw [Bool.eq_false_iff]
            intro c
            have c2 := hB0.out.1 c
            rw [c2, hxy2] at hxy
            cases hxy
            exact he ⟨rfl, rfl, rfl, rfl, rfl⟩
          clear he hxy hxy2 hB0
          go_wp2
          go_region_held3 (fun W => W.cell? ⟨b, off + k * 5, none⟩ = some (.int .i64 x0) ∧ W.cell? ⟨b, off + k * 5 + 1, none⟩ = some (.int .i64 x1) ∧ W.cell? ⟨b, off + k * 5 + 2, none⟩ = some (.int .u32 x2) ∧ W.cell? ⟨b, off + k * 5 + 3, none⟩ = some (.int .i64 x3) ∧ W.cell? ⟨b, off + k * 5 + 4, none⟩ = some (.int .i64 x4) ∧ W.cell? ⟨b', off' + k * 5, none⟩ = some (.int .i64 y0) ∧ W.cell? ⟨b', off' + k * 5 + 1, none⟩ = some (.int .i64 y1) ∧ W.cell? ⟨b', off' + k * 5 + 2, none⟩ = some (.int .u32 y2) ∧ W.cell? ⟨b', off' + k * 5 + 3, none⟩ = some (.int .i64 y3) ∧ W.cell? ⟨b', off' + k * 5 + 4, none⟩ = some (.int .i64 y4))
            (exact ⟨s0, s1, s2, s3, s4, t0, t1, t2, t3, t4⟩) (fail)
          go_wp2
          go_ret
          exact ⟨rfl, by (repeat (first | exact Below.refl _ _ | assumption | refine bchain (by assumption) ?_ | refine balloc ?_ _ | apply Below.drew | apply below_drewN | (refine Below.alloc ?_ (by (try simp) <;> omega) _) | (refine Below.setCell ?_ (by (try simp) <;> omega) _)))⟩
      · obtain rfl : k = n := by omega
        have hd := decide_eq_false (show ¬ ((k : Int) < (k : Int)) by omega)
        obtain rfl : B = true := hB0.out.2 (tAt_ext hl.out (fun i hi => heq i (by rw [← hn.out]; exact hi)))
        clear heq
        go_wp2
        go_ret
        exact ⟨rfl, by (repeat (first | exact Below.refl _ _ | assumption | refine bchain (by assumption) ?_ | refine balloc ?_ _ | apply Below.drew | apply below_drewN | (refine Below.alloc ?_ (by (try simp) <;> omega) _) | (refine Below.setCell ?_ (by (try simp) <;> omega) _)))⟩
  · obtain rfl : B = false := by
      rw [Bool.eq_false_iff]
      intro c
      exact hl (by rw [hB0.out.1 c])
    have hd : ((xs.length : Int) == (ys.length : Int)) = false := by simp; omega
    obtain ⟨p, hp⟩ : ∃ p, xs.length = p := ⟨_, rfl⟩
    obtain ⟨q, hq⟩ : ∃ q, ys.length = q := ⟨_, rfl⟩
    rw [hp, hq] at hd
    rw [hp, hq]
    clear h3 h3' hl hp hq hB0
    go_enter Try.func77, Try.ntmps77
    go_wp2
    go_ret
    exact ⟨rfl, by (repeat (first | exact Below.refl _ _ | assumption | refine bchain (by assumption) ?_ | refine balloc ?_ _ | apply Below.drew | apply below_drewN | (refine Below.alloc ?_ (by (try simp) <;> omega) _) | (refine Below.setCell ?_ (by (try simp) <;> omega) _)))⟩
set_option maxHeartbeats 1000000 in
theorem iss_any (X Y : SM) (u v : Value) (hu : SlT w u X.ts) (hv : SlT w v Y.ts) (hm : X.ts.length ≤ 1048576) (B : Bool) (hB0 : B = true ↔ (X.n = Y.n ∧ X.e = Y.e ∧ X.s = Y.s ∧ X.ts = Y.ts)) :
    Calls Try.prog 29 #[.agg #[.int .i64 X.n, .int .u32 X.e, .int .i64 X.s, u], .agg #[.int .i64 Y.n, .int .u32 Y.e, .int .i64 Y.s, v]] w fun r w' => r = .returned (.bool B) ∧ Below w.heap.size w w' := by
  obtain ⟨n, e, s, xs⟩ := X
  obtain ⟨m, f, t, ys⟩ := Y
  dsimp only at hm hB0 hu hv ⊢
  have hE := fun (W : World) (hb : Below w.heap.size w W) => sleqT_any W u v xs ys (hu.below hb) (hv.below hb) hm B
  obtain ⟨a, cap, rfl, _⟩ := hu
  obtain ⟨a', cap', rfl, _⟩ := hv
  obtain ⟨p, hp⟩ : ∃ p, xs.length = p := ⟨_, rfl⟩
  obtain ⟨q, hq⟩ : ∃ q, ys.length = q := ⟨_, rfl⟩
  rw [hp, hq] at hE
  rw [hp, hq]
  clear hm hp hq
  by_cases c1 : n = m ∧ e = f
  · obtain ⟨rfl, rfl⟩ := c1
    have hqq : ∀ W, (Op.equalIn 10000 32 (.agg #[.int .i64 n, .int .u32 e]) (.agg #[.int .i64 n, .int .u32 e])).run Try.prog W = .ok true W := fun W => by rw [eqGrK]; simp
    by_cases c2 : s = t
    · subst c2
      replace hE := Lib.hid (fun W hb => hE W hb ⟨fun c => (hB0.1 c).2.2.2, fun c => hB0.2 ⟨rfl, rfl, rfl, c⟩⟩)
      clear hB0
      go_enter Try.func29, Try.ntmps29
      go_wp2_with (go_at_call 77; refine (hE.out _ (by (repeat (first | exact Below.refl _ _ | assumption | refine bchain (by assumption) ?_ | refine balloc ?_ _ | apply Below.drew | apply below_drewN | (refine Below.alloc ?_ (by (try simp) <;> omega) _) | (refine Below.setCell ?_ (by (try simp) <;> omega) _))))).mono ?_; rintro r1 w1 ⟨rfl, hb1⟩)
      go_ret
      exact ⟨rfl, by (repeat (first | exact Below.refl _ _ | assumption | refine bchain (by assumption) ?_ | refine balloc ?_ _ | apply Below.drew | apply below_drewN | (refine Below.alloc ?_ (by (try simp) <;> omega) _) | (refine Below.setCell ?_ (by (try simp) <;> omega) _)))⟩
    · obtain rfl : B = false := by
        rw [Bool.eq_false_iff]
        intro c
        exact c2 (hB0.1 c).2.2.1
      have hd : (s == t) = false := by simp; exact c2
      clear hB0 hE
      go_enter Try.func29, Try.ntmps29
      go_wp2
      go_ret
      exact ⟨rfl, by (repeat (first | exact Below.refl _ _ | assumption | refine bchain (by assumption) ?_ | refine balloc ?_ _ | apply Below.drew | apply below_drewN | (refine Below.alloc ?_ (by (try simp) <;> omega) _) | (refine Below.setCell ?_ (by (try simp) <;> omega) _)))⟩
  · obtain rfl : B = false := by
      rw [Bool.eq_false_iff]
      intro c
      exact c1 ⟨(hB0.1 c).1, (hB0.1 c).2.1⟩
    have hqq : ∀ W, (Op.equalIn 10000 32 (.agg #[.int .i64 n, .int .u32 e]) (.agg #[.int .i64 m, .int .u32 f])).run Try.prog W = .ok false W := fun W => by
      rw [eqGrK]
      have : (n == m && e == f) = false := by
        rw [Bool.eq_false_iff]
        intro h
        simp at h
        exact c1 h
      rw [this]
    clear hB0 hE
    go_enter Try.func29, Try.ntmps29
    go_wp2
    go_ret
    exact ⟨rfl, by (repeat (first | exact Below.refl _ _ | assumption | refine bchain (by assumption) ?_ | refine balloc ?_ _ | apply Below.drew | apply below_drewN | (refine Below.alloc ?_ (by (try simp) <;> omega) _) | (refine Below.setCell ?_ (by (try simp) <;> omega) _)))⟩
set_option maxHeartbeats 1000000 in
theorem sssL_any (n0 e0 s0 : Int) (u v : Value) (xs ys : List TE) (B1 B2 : Nat) (c1 : SB w B1 n0 e0 s0 u) (c2 : SB w B2 n0 e0 s0 v) (hS : SlT w u xs) (hS' : SlT w v ys) (hm : xs.length ≤ 1048576) (B : Bool) (hB0 : B = true ↔ xs = ys) :
    Calls Try.prog 76 #[.pointer (some ⟨B1, 0, none⟩), .pointer (some ⟨B2, 0, none⟩)] w fun r w' => r = .returned (.bool B) ∧ Below w.heap.size w w' := by
  obtain ⟨a, cap, rfl, h1, h2, h3⟩ := hS
  obtain ⟨a', cap', rfl, h1', h2', h3'⟩ := hS'
  replace hB0 := Lib.hid hB0
  have hqq : ∀ W, (Op.equalIn 10000 32 (.agg #[.int .i64 n0, .int .u32 e0]) (.agg #[.int .i64 n0, .int .u32 e0])).run Try.prog W = .ok true W := fun W => by rw [eqGrK]; simp
  by_cases hl : xs.length = ys.length
  · rw [← hl] at h3' h1' c2
    obtain ⟨n, hn⟩ : ∃ n, n = xs.length := ⟨_, rfl⟩
    have hl2 := hl
    rw [← hn] at hm h1 h1' h3' hl c1 c2
    have h3'' : 0 < n → ∃ b off, a' = some ⟨b, off, none⟩ ∧ b < w.heap.size ∧ ∀ i, i < n → TCell w b off (tAt ys i) i := fun h => h3' (by intro c; rw [c] at hl; simp at hl; omega)
    have h3b : 0 < n → ∃ b off, a = some ⟨b, off, none⟩ ∧ b < w.heap.size ∧ ∀ i, i < n → TCell w b off (tAt xs i) i := fun h => by rw [hn]; exact h3 (by intro c; rw [c] at hn; simp at hn; omega)
    clear h3 h3' hl
    replace h3'' := Lib.hid h3''
    replace h3b := Lib.hid h3b
    replace hn := Lib.hid hn.symm
    replace hl := Lib.hid hl2
    clear hl2
    obtain ⟨z1, p0, p1, p2, p3, _⟩ := id c1
    obtain ⟨z2, r0, r1, r2, r3, _⟩ := id c2
    go_enter Try.func76, Try.ntmps76
    go_wp2
    go_quiet (fail)
    go_wp2
    go_loopw [5] (fun i wr => ∃ k : Nat, k ≤ n ∧ i = .int .i64 k ∧ (∀ j, j < k → tAt xs j = tAt ys j) ∧ Below w.heap.size w wr) (fun i _ => n - (intOf i).toNat)
    case atStart => exact ⟨0, by omega, rfl, fun j hj => by omega, by (repeat (first | exact Below.refl _ _ | assumption | refine bchain (by assumption) ?_ | refine balloc ?_ _ | apply Below.drew | apply below_drewN | (refine Below.alloc ?_ (by (try simp) <;> omega) _) | (refine Below.setCell ?_ (by (try simp) <;> omega) _)))⟩
    case round =>
      clear p0 p1 p2 p3 r0 r1 r2 r3
      obtain ⟨k, hk, rfl, heq, hB⟩ := hrel
      have q1 := (c1.below hB).c3
      have q2 := (c2.below hB).c3
      by_cases hlt : k < n
      · obtain ⟨b, off, rfl, hb, hg⟩ := h3b.out (by omega)
        obtain ⟨b', off', rfl, hb', hg'⟩ := h3''.out (by omega)
        obtain ⟨x0, x1, x2, x3, x4, hxy⟩ : ∃ x0 x1 x2 x3 x4, tAt xs k = ⟨x0, x1, x2, x3, x4⟩ := ⟨_, _, _, _, _, rfl⟩
        obtain ⟨y0, y1, y2, y3, y4, hxy2⟩ : ∃ y0 y1 y2 y3 y4, tAt ys k = ⟨y0, y1, y2, y3, y4⟩ := ⟨_, _, _, _, _, rfl⟩
        have s0 : wr.cell? ⟨b, off + k * 5, none⟩ = some (.int .i64 x0) := by rw [hB.cell (p := ⟨b, _, none⟩) hb, (hg k hlt).1, hxy]
        have s1 : wr.cell? ⟨b, off + k * 5 + 1, none⟩ = some (.int .i64 x1) := by rw [hB.cell (p := ⟨b, _, none⟩) hb, (hg k hlt).2.1, hxy]
        have s2 : wr.cell? ⟨b, off + k * 5 + 2, none⟩ = some (.int .u32 x2) := by rw [hB.cell (p := ⟨b, _, none⟩) hb, (hg k hlt).2.2.1, hxy]
        have s3 : wr.cell? ⟨b, off + k * 5 + 3, none⟩ = some (.int .i64 x3) := by rw [hB.cell (p := ⟨b, _, none⟩) hb, (hg k hlt).2.2.2.1, hxy]
        have s4 : wr.cell? ⟨b, off + k * 5 + 4, none⟩ = some (.int .i64 x4) := by rw [hB.cell (p := ⟨b, _, none⟩) hb, (hg k hlt).2.2.2.2, hxy]
        have t0 : wr.cell? ⟨b', off' + k * 5, none⟩ = some (.int .i64 y0) := by rw [hB.cell (p := ⟨b', _, none⟩) hb', (hg' k hlt).1, hxy2]
        have t1 : wr.cell? ⟨b', off' + k * 5 + 1, none⟩ = some (.int .i64 y1) := by rw [hB.cell (p := ⟨b', _, none⟩) hb', (hg' k hlt).2.1, hxy2]
        have t2 : wr.cell? ⟨b', off' + k * 5 + 2, none⟩ = some (.int .u32 y2) := by rw [hB.cell (p := ⟨b', _, none⟩) hb', (hg' k hlt).2.2.1, hxy2]
        have t3 : wr.cell? ⟨b', off' + k * 5 + 3, none⟩ = some (.int .i64 y3) := by rw [hB.cell (p := ⟨b', _, none⟩) hb', (hg' k hlt).2.2.2.1, hxy2]
        have t4 : wr.cell? ⟨b', off' + k * 5 + 4, none⟩ = some (.int .i64 y4) := by rw [hB.cell (p := ⟨b', _, none⟩) hb', (hg' k hlt).2.2.2.2, hxy2]
        have hkn : (k : Int) < (n : Int) := by omega
        have hkn0 : (0 : Int) ≤ (k : Int) := by omega
        clear hg hg'
        replace heq := Lib.hid heq
        by_cases he : x0 = y0 ∧ x1 = y1 ∧ x2 = y2 ∧ x3 = y3 ∧ x4 = y4
        · obtain ⟨rfl, rfl, rfl, rfl, rfl⟩ := he
          have hq : ∀ W, (Op.equalIn 10000 100 (.agg #[.int .i64 x0, .int .i64 x1, .int .u32 x2, .int .i64 x3, .int .i64 x4]) (.agg #[.int .i64 x0, .int .i64 x1, .int .u32 x2, .int .i64 x3, .int .i64 x4])).run Try.prog W = .ok true W := fun W => by rw [eqTm]; simp
          have hne := Lib.hid (hxy.trans hxy2.symm)
          clear hxy hxy2
          go_wp2
          go_region_held3 (fun W => W.cell? ⟨b, off + k * 5, none⟩ = some (.int .i64 x0) ∧ W.cell? ⟨b, off + k * 5 + 1, none⟩ = some (.int .i64 x1) ∧ W.cell? ⟨b, off + k * 5 + 2, none⟩ = some (.int .u32 x2) ∧ W.cell? ⟨b, off + k * 5 + 3, none⟩ = some (.int .i64 x3) ∧ W.cell? ⟨b, off + k * 5 + 4, none⟩ = some (.int .i64 x4) ∧ W.cell? ⟨b', off' + k * 5, none⟩ = some (.int .i64 x0) ∧ W.cell? ⟨b', off' + k * 5 + 1, none⟩ = some (.int .i64 x1) ∧ W.cell? ⟨b', off' + k * 5 + 2, none⟩ = some (.int .u32 x2) ∧ W.cell? ⟨b', off' + k * 5 + 3, none⟩ = some (.int .i64 x3) ∧ W.cell? ⟨b', off' + k * 5 + 4, none⟩ = some (.int .i64 x4) ∧ W.cell? ⟨B1, 3, none⟩ = some (.slice (some ⟨b, off, none⟩) n cap) ∧ W.cell? ⟨B2, 3, none⟩ = some (.slice (some ⟨b', off', none⟩) n cap'))
            (exact ⟨s0, s1, s2, s3, s4, t0, t1, t2, t3, t4, q1, q2⟩) (fail)
          go_wp2
          go_roundw
          case rel => exact ⟨k + 1, by omega, by go_num, fun j hj => by
            by_cases e : j = k
            · rw [e]; exact hne.out
            · exact heq.out j (by omega), by (repeat (first | exact Below.refl _ _ | assumption | refine bchain (by assumption) ?_ | refine balloc ?_ _ | apply Below.drew | apply below_drewN | (refine Below.alloc ?_ (by (try simp) <;> omega) _) | (refine Below.setCell ?_ (by (try simp) <;> omega) _)))⟩
          case measure => simp [intOf]; omega
        · have hq : ∀ W, (Op.equalIn 10000 100 (.agg #[.int .i64 x0, .int .i64 x1, .int .u32 x2, .int .i64 x3, .int .i64 x4]) (.agg #[.int .i64 y0, .int .i64 y1, .int .u32 y2, .int .i64 y3, .int .i64 y4])).run Try.prog W = .ok false W := fun W => by
            rw [eqTm]
            have : ((x0 == y0 && (x1 == y1 && x2 == y2)) && (x3 == y3 && x4 == y4)) = false := by
              rw [Bool.eq_false_iff]
              intro h
              simp at h
              exact he ⟨h.1.1, h.1.2.1, h.1.2.2, h.2.1, h.2.2⟩
            rw [this]
          obtain rfl : B = false := by
            rw [Bool.eq_false_iff]
            intro c
            have c2 := hB0.out.1 c
            rw [c2, hxy2] at hxy
            cases hxy
            exact he ⟨rfl, rfl, rfl, rfl, rfl⟩
          clear he hxy hxy2 hB0
          go_wp2
          go_region_held3 (fun W => W.cell? ⟨b, off + k * 5, none⟩ = some (.int .i64 x0) ∧ W.cell? ⟨b, off + k * 5 + 1, none⟩ = some (.int .i64 x1) ∧ W.cell? ⟨b, off + k * 5 + 2, none⟩ = some (.int .u32 x2) ∧ W.cell? ⟨b, off + k * 5 + 3, none⟩ = some (.int .i64 x3) ∧ W.cell? ⟨b, off + k * 5 + 4, none⟩ = some (.int .i64 x4) ∧ W.cell? ⟨b', off' + k * 5, none⟩ = some (.int .i64 y0) ∧ W.cell? ⟨b', off' + k * 5 + 1, none⟩ = some (.int .i64 y1) ∧ W.cell? ⟨b', off' + k * 5 + 2, none⟩ = some (.int .u32 y2) ∧ W.cell? ⟨b', off' + k * 5 + 3, none⟩ = some (.int .i64 y3) ∧ W.cell? ⟨b', off' + k * 5 + 4, none⟩ = some (.int .i64 y4) ∧ W.cell? ⟨B1, 3, none⟩ = some (.slice (some ⟨b, off, none⟩) n cap) ∧ W.cell? ⟨B2, 3, none⟩ = some (.slice (some ⟨b', off', none⟩) n cap'))
            (exact ⟨s0, s1, s2, s3, s4, t0, t1, t2, t3, t4, q1, q2⟩) (fail)
          go_wp2
          go_ret
          exact ⟨rfl, by (repeat (first | exact Below.refl _ _ | assumption | refine bchain (by assumption) ?_ | refine balloc ?_ _ | apply Below.drew | apply below_drewN | (refine Below.alloc ?_ (by (try simp) <;> omega) _) | (refine Below.setCell ?_ (by (try simp) <;> omega) _)))⟩
      · obtain rfl : k = n := by omega
        have hd := decide_eq_false (show ¬ ((k : Int) < (k : Int)) by omega)
        obtain rfl : B = true := hB0.out.2 (tAt_ext hl.out (fun i hi => heq i (by rw [← hn.out]; exact hi)))
        clear heq
        go_wp2
        go_ret
        exact ⟨rfl, by (repeat (first | exact Below.refl _ _ | assumption | refine bchain (by assumption) ?_ | refine balloc ?_ _ | apply Below.drew | apply below_drewN | (refine Below.alloc ?_ (by (try simp) <;> omega) _) | (refine Below.setCell ?_ (by (try simp) <;> omega) _)))⟩
  · obtain rfl : B = false := by
      rw [Bool.eq_false_iff]
      intro c
      exact hl (by rw [hB0.out.1 c])
    have hd : ((xs.length : Int) == (ys.length : Int)) = false := by simp; omega
    obtain ⟨p, hp⟩ : ∃ p, xs.length = p := ⟨_, rfl⟩
    obtain ⟨q, hq⟩ : ∃ q, ys.length = q := ⟨_, rfl⟩
    rw [hp, hq] at hd
    rw [hp] at c1
    rw [hq] at c2
    obtain ⟨z1, p0, p1, p2, p3, _⟩ := id c1
    obtain ⟨z2, r0, r1, r2, r3, _⟩ := id c2
    clear h3 h3' hl hp hq hB0
    go_enter Try.func76, Try.ntmps76
    go_wp2
    go_quiet (fail)
    go_wp2
    go_ret
    exact ⟨rfl, by (repeat (first | exact Below.refl _ _ | assumption | refine bchain (by assumption) ?_ | refine balloc ?_ _ | apply Below.drew | apply below_drewN | (refine Below.alloc ?_ (by (try simp) <;> omega) _) | (refine Below.setCell ?_ (by (try simp) <;> omega) _)))⟩
set_option maxHeartbeats 1000000 in
theorem sssN_any (n e s m f t : Int) (a a' : Option Addr) (p q cap cap' : Nat) (B1 B2 : Nat) (c1 : SB w B1 n e s (.slice a p cap)) (c2 : SB w B2 m f t (.slice a' q cap')) (hne : ¬ (n = m ∧ e = f ∧ s = t)) :
    Calls Try.prog 76 #[.pointer (some ⟨B1, 0, none⟩), .pointer (some ⟨B2, 0, none⟩)] w fun r w' => r = .returned (.bool false) ∧ Below w.heap.size w w' := by
  obtain ⟨z1, p0, p1, p2, p3, _⟩ := id c1
  obtain ⟨z2, r0, r1, r2, r3, _⟩ := id c2
  by_cases c1 : n = m ∧ e = f
  · obtain ⟨rfl, rfl⟩ := c1
    have hqq : ∀ W, (Op.equalIn 10000 32 (.agg #[.int .i64 n, .int .u32 e]) (.agg #[.int .i64 n, .int .u32 e])).run Try.prog W = .ok true W := fun W => by rw [eqGrK]; simp
    have hd : (s != t) = true := by simp; intro c; exact hne ⟨rfl, rfl, c⟩
    clear hne
    go_enter Try.func76, Try.ntmps76
    go_wp2
    go_quiet (fail)
    go_wp2
    go_ret
    exact ⟨rfl, by (repeat (first | exact Below.refl _ _ | assumption | refine bchain (by assumption) ?_ | refine balloc ?_ _ | apply Below.drew | apply below_drewN | (refine Below.alloc ?_ (by (try simp) <;> omega) _) | (refine Below.setCell ?_ (by (try simp) <;> omega) _)))⟩
  · have hqq : ∀ W, (Op.equalIn 10000 32 (.agg #[.int .i64 n, .int .u32 e]) (.agg #[.int .i64 m, .int .u32 f])).run Try.prog W = .ok false W := fun W => by
      rw [eqGrK]
      have : (n == m && e == f) = false := by
        rw [Bool.eq_false_iff]
        intro h
        simp at h
        exact c1 h
      rw [this]
    clear hne
    go_enter Try.func76, Try.ntmps76
    go_wp2
    go_quiet (fail)
    go_wp2
    go_ret
    exact ⟨rfl, by (repeat (first | exact Below.refl _ _ | assumption | refine bchain (by assumption) ?_ | refine balloc ?_ _ | apply Below.drew | apply below_drewN | (refine Below.alloc ?_ (by (try simp) <;> omega) _) | (refine Below.setCell ?_ (by (try simp) <;> omega) _)))⟩
theorem sss_any (X Y : SM) (u v : Value) (hu : SlT w u X.ts) (hv : SlT w v Y.ts) (hm : X.ts.length ≤ 1048576) (B : Bool) (hB0 : B = true ↔ (X.n = Y.n ∧ X.e = Y.e ∧ X.s = Y.s ∧ X.ts = Y.ts)) :
    Calls Try.prog 28 #[.agg #[.int .i64 X.n, .int .u32 X.e, .int .i64 X.s, u], .agg #[.int .i64 Y.n, .int .u32 Y.e, .int .i64 Y.s, v]] w fun r w' => r = .returned (.bool B) ∧ Below w.heap.size w w' := by
  obtain ⟨n, e, s, xs⟩ := X
  obtain ⟨m, f, t, ys⟩ := Y
  dsimp only at hm hB0 hu hv ⊢
  have hE : Hid (∀ (W : World) (hb : Below w.heap.size w W) (B1 B2 : Nat), SB W B1 n e s u → SB W B2 m f t v → Calls Try.prog 76 #[.pointer (some ⟨B1, 0, none⟩), .pointer (some ⟨B2, 0, none⟩)] W fun r w' => r = .returned (.bool B) ∧ Below W.heap.size W w') := fun W hb B1 B2 k1 k2 => by
    by_cases c : n = m ∧ e = f ∧ s = t
    · obtain ⟨rfl, rfl, rfl⟩ := c
      exact sssL_any W n e s u v xs ys B1 B2 k1 k2 (hu.below hb) (hv.below hb) hm B ⟨fun c => (hB0.1 c).2.2.2, fun c => hB0.2 ⟨rfl, rfl, rfl, c⟩⟩
    · obtain ⟨a, cap, rfl, _⟩ := hu
      obtain ⟨a', cap', rfl, _⟩ := hv
      obtain rfl : B = false := by
        rw [Bool.eq_false_iff]
        intro c2
        exact c ⟨(hB0.1 c2).1, (hB0.1 c2).2.1, (hB0.1 c2).2.2.1⟩
      exact sssN_any W n e s m f t a a' _ _ cap cap' B1 B2 k1 k2 c
  obtain ⟨a, cap, rfl, _⟩ := hu
  obtain ⟨a', cap', rfl, _⟩ := hv
  obtain ⟨p, hp⟩ : ∃ p, xs.length = p := ⟨_, rfl⟩
  obtain ⟨q, hq⟩ : ∃ q, ys.length = q := ⟨_, rfl⟩
  rw [hp, hq] at hE
  rw [hp, hq]
  clear hm hp hq hB0
  obtain ⟨W0, hW0⟩ : ∃ W0, W0 = (w.alloc (.cells #[.int .i64 n, .int .u32 e, .int .i64 s, .slice a p cap] 50)).alloc (.cells #[.int .i64 m, .int .u32 f, .int .i64 t, .slice a' q cap'] 50) := ⟨_, rfl⟩
  have hB : Below w.heap.size w W0 := by rw [hW0]; (repeat (first | exact Below.refl _ _ | assumption | refine bchain (by assumption) ?_ | refine balloc ?_ _ | apply Below.drew | apply below_drewN | (refine Below.alloc ?_ (by (try simp) <;> omega) _) | (refine Below.setCell ?_ (by (try simp) <;> omega) _)))
  have sz : (w.alloc (.cells #[.int .i64 n, .int .u32 e, .int .i64 s, .slice a p cap] 50)).heap.size = w.heap.size + 1 := by simp
  have k1 : SB W0 w.heap.size n e s (.slice a p cap) := by rw [hW0]; exact (SB.made w n e s _ _).below (balloc (Below.refl _ _) _)
  have k2 : SB W0 (w.heap.size + 1) m f t (.slice a' q cap') := by rw [hW0, ← sz]; exact SB.made _ m f t _ _
  replace hW0 := Lib.hid hW0
  clear sz
  go_enter Try.func28, Try.ntmps28
  go_wp2_with fail
  rw [← hW0.out]
  refine (hE.out _ hB _ _ k1 k2).mono ?_
  rintro r1 w1 ⟨rfl, hb1⟩
  go_wp2
  go_ret
  exact ⟨rfl, bchain hb1 hB⟩
end
end Go.Proofs.Ytpobonomdfbanaa
/-
  Is a sum of flags valid: the program's contract.
-/
namespace Go.Proofs.Ytpobonomdfbanaa
open Go.RowKit Go.Shelf
set_option maxRecDepth 100000
attribute [local go_sem] Oper.semAt_some
def Least (k n e : Nat) : Prop := leastK n k e = e
theorem SB.drewN {W : World} {B : Nat} {n e s : Int} {u : Value} (h : SB W B n e s u) (m : Nat) : SB (W.drewN m) B n e s u := ⟨h.lt, h.c0, h.c1, h.c2, h.c3, h.fz⟩
/-- is the term at i of a sum as it should be -/
def TOk (X : SM) (i : Nat) : Prop := VK (tAt X.ts i).k (tAt X.ts i).n (tAt X.ts i).e ∧ Fits (tAt X.ts i).k.toNat (tAt X.ts i).n.toNat (tAt X.ts i).e.toNat X.n X.e X.s ∧ Least (tAt X.ts i).k.toNat (tAt X.ts i).n.toNat (tAt X.ts i).e.toNat ∧
  Fr.VF (tAt X.ts i).p (tAt X.ts i).q ∧ (tAt X.ts i).p ≠ 0 ∧ (0 < i → (tAt X.ts (i - 1)).e < (tAt X.ts i).e)
def VSum (X : SM) : Prop := VG X.n X.e ∧ frB X.n X.s = true ∧ X.ts.length ≤ 64 ∧ ∀ i, i < X.ts.length → TOk X i
theorem vf_zero {p q : Int} (h : Fr.VF p q) : p = 0 ↔ (p = 0 ∧ q = 1) := by
  refine ⟨fun c => ⟨c, ?_⟩, fun c => c.1⟩
  subst c
  have h5 := h.2.2.2.2
  have h1 := h.1
  rw [Int.gcd_zero_left] at h5
  omega
section
variable (w : World)
set_option maxHeartbeats 8000000 in
theorem ivs_len (n e s : Int) (a : Option Addr) (l cap : Nat) (hl : 64 < l) (hl2 : l ≤ 9223372036854775807) (hv : VG n e) (hf : frB n s = true) :
    Calls Try.prog 26 #[.agg #[.int .i64 n, .int .u32 e, .int .i64 s, .slice a l cap]] w fun r w' => r = .returned (.bool false) ∧ Below w.heap.size w w' := by
  have hV := Lib.hid (fun W => valid_t W n e hv)
  have hF := Lib.hid (fun W => ihf_any W n e s)
  rw [hf] at hF
  clear hv hf
  go_enter Try.func26, Try.ntmps26
  go_wp2_with fail
  refine (hV.out _).mono ?_
  rintro r1 w1 ⟨rfl, hb1⟩
  obtain ⟨hc1, hz1⟩ := bkeep hb1 w.heap.size (by (try simp) <;> omega)
  go_wp2_with fail
  refine (hF.out _).mono ?_
  rintro r2 w2 ⟨rfl, hb2⟩
  obtain ⟨hc2, hz2⟩ := bkeep hb2 w.heap.size (by (try simp) <;> omega)
  go_wp2
  go_ret
  exact ⟨rfl, by (repeat (first | exact Below.refl _ _ | assumption | refine bchain (by assumption) ?_ | refine balloc ?_ _ | apply Below.drew | apply below_drewN | (refine Below.alloc ?_ (by (try simp) <;> omega) _) | (refine Below.setCell ?_ (by (try simp) <;> omega) _)))⟩
theorem ivs_frame (n e s : Int) (u : Value) (hv : VG n e) (hf : frB n s = false) :
    Calls Try.prog 26 #[.agg #[.int .i64 n, .int .u32 e, .int .i64 s, u]] w fun r w' => r = .returned (.bool false) ∧ Below w.heap.size w w' := by
  have hV := Lib.hid (fun W => valid_t W n e hv)
  have hF := Lib.hid (fun W => ihf_any W n e s)
  rw [hf] at hF
  clear hv hf
  go_enter Try.func26, Try.ntmps26
  go_wp2_with fail
  refine (hV.out _).mono ?_
  rintro r1 w1 ⟨rfl, hb1⟩
  obtain ⟨hc1, hz1⟩ := bkeep hb1 w.heap.size (by (try simp) <;> omega)
  go_wp2_with fail
  refine (hF.out _).mono ?_
  rintro r2 w2 ⟨rfl, hb2⟩
  go_wp2
  go_ret
  exact ⟨rfl, by (repeat (first | exact Below.refl _ _ | assumption | refine bchain (by assumption) ?_ | refine balloc ?_ _ | apply Below.drew | apply below_drewN | (refine Below.alloc ?_ (by (try simp) <;> omega) _) | (refine Below.setCell ?_ (by (try simp) <;> omega) _)))⟩
theorem ivs_type (n e s : Int) (u : Value) (he : e < 4294967296) (h0 : 0 ≤ e) (hv : ¬ VG n e) :
    Calls Try.prog 26 #[.agg #[.int .i64 n, .int .u32 e, .int .i64 s, u]] w fun r w' => r = .returned (.bool false) ∧ Below w.heap.size w w' := by
  have hV := Lib.hid (fun W => valid_f W n e he h0 hv)
  clear hv he h0
  go_enter Try.func26, Try.ntmps26
  go_wp2_with fail
  refine (hV.out _).mono ?_
  rintro r1 w1 ⟨rfl, hb1⟩
  go_wp2
  go_ret
  exact ⟨rfl, by (repeat (first | exact Below.refl _ _ | assumption | refine bchain (by assumption) ?_ | refine balloc ?_ _ | apply Below.drew | apply below_drewN | (refine Below.alloc ?_ (by (try simp) <;> omega) _) | (refine Below.setCell ?_ (by (try simp) <;> omega) _)))⟩
set_option maxHeartbeats 16000000 in
theorem ivs_ok (X : SM) (u : Value) (hS : SlT w u X.ts) (hbd : BdT X.ts) (hl : X.ts.length ≤ 64) (hv : VG X.n X.e) (hf : frB X.n X.s = true) (B : Bool) (hB0 : B = true ↔ ∀ i, i < X.ts.length → TOk X i) :
    Calls Try.prog 26 #[.agg #[.int .i64 X.n, .int .u32 X.e, .int .i64 X.s, u]] w fun r w' => r = .returned (.bool B) ∧ Below w.heap.size w w' := by
  obtain ⟨n, e, s, ts⟩ := X
  dsimp only at hS hbd hl hv hf hB0 ⊢
  unfold TOk at hB0
  dsimp only at hB0
  obtain ⟨a, cap, rfl, h1, h2, h3⟩ := hS
  have hV := Lib.hid (fun W => valid_t W n e hv)
  have hF := Lib.hid (fun W => ihf_any W n e s)
  rw [hf] at hF
  replace hB0 := Lib.hid hB0
  replace hbd := Lib.hid hbd
  obtain ⟨l, hld⟩ : ∃ l, ts.length = l := ⟨_, rfl⟩
  have h3b : Hid (0 < l → ∃ b off, a = some ⟨b, off, none⟩ ∧ b < w.heap.size ∧ ∀ i, i < l → TCell w b off (tAt ts i) i) := fun h => by rw [← hld] at h ⊢; exact h3 (List.length_pos_iff.1 h)
  rw [hld] at h1 hl hB0 ⊢
  replace hld := Lib.hid hld
  clear h3 hv hf
  obtain ⟨W0, hW0⟩ : ∃ W0, W0 = w.alloc (.cells #[.int .i64 n, .int .u32 e, .int .i64 s, .slice a l cap] 50) := ⟨_, rfl⟩
  have hb0 : Below w.heap.size w W0 := by rw [hW0]; (repeat (first | exact Below.refl _ _ | assumption | refine bchain (by assumption) ?_ | refine balloc ?_ _ | apply Below.drew | apply below_drewN | (refine Below.alloc ?_ (by (try simp) <;> omega) _) | (refine Below.setCell ?_ (by (try simp) <;> omega) _)))
  have k0 : SB W0 w.heap.size n e s (.slice a l cap) := by rw [hW0]; exact SB.made _ _ _ _ _ _
  replace hW0 := Lib.hid hW0
  obtain ⟨_, x0, x1, x2, x3, _⟩ := id k0
  go_enter Try.func26, Try.ntmps26
  go_wp2_with fail
  rw [← hW0.out]
  go_wp2_with fail
  refine (hV.out _).mono ?_
  rintro r1 w1 ⟨rfl, hb1⟩
  replace k0 := k0.below hb1
  replace hb0 := bchain hb1 hb0
  clear x0 x1 x2 x3 hb1
  obtain ⟨_, x0, x1, x2, x3, _⟩ := id k0
  go_wp2_with fail
  refine (hF.out _).mono ?_
  rintro r2 w2 ⟨rfl, hb2⟩
  replace k0 := k0.below hb2
  replace hb0 := bchain hb2 hb0
  clear x0 x1 x2 x3 hb2
  obtain ⟨_, x0, x1, x2, x3, _⟩ := id k0
  go_wp2
  go_loopw [3, 4, 5, 27] (fun _ _ _ i wr => ∃ k : Nat, k ≤ l ∧ i = .int .i64 k ∧ Hid (∀ j, j < k → TOk ⟨n, e, s, ts⟩ j) ∧ SB wr w.heap.size n e s (.slice a l cap) ∧ Below w.heap.size w wr) (fun _ _ _ i _ => l - (intOf i).toNat)
  case atStart => exact ⟨0, by omega, rfl, fun j hj => by omega, k0, hb0⟩
  case round =>
    clear k0 hb0 x0 x1 x2 x3
    obtain ⟨k, hk, rfl, hok, kr, hB⟩ := hrel
    obtain ⟨ltG, x0, x1, x2, x3, _⟩ := id kr
    by_cases hlt : k < l
    · obtain ⟨b, off, rfl, hb, hg⟩ := h3b.out (by omega)
      have hgk := hg k hlt
      have hbk := hbd.out k (by rw [hld.out]; exact hlt)
      obtain ⟨g, hBk⟩ : ∃ g, tAt ts k = g := ⟨_, rfl⟩
      have hBk2 := hBk
      obtain ⟨y0, y1, y2, y3, y4⟩ := g
      rw [hBk] at hgk hbk
      dsimp only at hbk
      have s0 : wr.cell? ⟨b, off + k * 5, none⟩ = some (.int .i64 y0) := by rw [hB.cell (p := ⟨b, _, none⟩) hb]; exact hgk.1
      have s1 : wr.cell? ⟨b, off + k * 5 + 1, none⟩ = some (.int .i64 y1) := by rw [hB.cell (p := ⟨b, _, none⟩) hb]; exact hgk.2.1
      have s2 : wr.cell? ⟨b, off + k * 5 + 2, none⟩ = some (.int .u32 y2) := by rw [hB.cell (p := ⟨b, _, none⟩) hb]; exact hgk.2.2.1
      have s3 : wr.cell? ⟨b, off + k * 5 + 3, none⟩ = some (.int .i64 y3) := by rw [hB.cell (p := ⟨b, _, none⟩) hb]; exact hgk.2.2.2.1
      have s4 : wr.cell? ⟨b, off + k * 5 + 4, none⟩ = some (.int .i64 y4) := by rw [hB.cell (p := ⟨b, _, none⟩) hb]; exact hgk.2.2.2.2
      have hkl : (k : Int) < (l : Int) := by omega
      have hk0 : (0 : Int) ≤ (k : Int) := by omega
      obtain ⟨W1, hW1⟩ : ∃ W1, W1 = (wr.alloc (.cells #[.int .i64 y0, .int .i64 y1, .int .u32 y2, .int .i64 y3, .int .i64 y4] 100)).alloc (.cells #[.int .i64 y0, .int .i64 y1, .int .u32 y2] 34) := ⟨_, rfl⟩
      have hBW : Below wr.heap.size wr W1 := by rw [hW1]; (repeat (first | exact Below.refl _ _ | assumption | refine bchain (by assumption) ?_ | refine balloc ?_ _ | apply Below.drew | apply below_drewN | (refine Below.alloc ?_ (by (try simp) <;> omega) _) | (refine Below.setCell ?_ (by (try simp) <;> omega) _)))
      have sz : (wr.alloc (.cells #[.int .i64 y0, .int .i64 y1, .int .u32 y2, .int .i64 y3, .int .i64 y4] 100)).heap.size = wr.heap.size + 1 := by simp
      have tb : TB W1 wr.heap.size y0 y1 y2 y3 y4 := by rw [hW1]; exact (TB.made wr _ _ _ _ _ _).below (balloc (Below.refl _ _) _)
      have fb : FC W1 (wr.heap.size + 1) y0 y1 y2 := by rw [hW1, ← sz]; exact FC.made _ _ _ _ _
      have kb := kr.below hBW
      replace hW1 := Lib.hid hW1
      clear sz hgk
      have q0 := bw_cell fb.lt fb.c0
      have q1 := bw_cell fb.lt fb.c1
      have q2 := bw_cell fb.lt fb.c2
      have q3 := bw_cell kb.lt kb.c0
      have q4 := bw_cell kb.lt kb.c1
      have q5 := bw_cell kb.lt kb.c2
      have hBz := hB.size
      go_wp2
      rw [← hW1.out]
      by_cases v1 : VK y0 y1 y2
      · obtain ⟨m0, m1, m2, rfl, rfl, rfl⟩ : ∃ a b c : Nat, y0 = a ∧ y1 = b ∧ y2 = c := ⟨y0.toNat, y1.toNat, y2.toNat, by have := v1.2.1; omega, by have := v1.1.1; omega, by omega⟩
        have hV1 := Lib.hid (fun W => ivk_t W m0 m1 m2 v1)
        by_cases v2 : Fits m0 m1 m2 n e s
        · have hV2 := Lib.hid (fun W => iof_any W m0 m1 m2 n e s v1 true ⟨fun _ => v2, fun _ => rfl⟩)
          have hV3 := Lib.hid (fun W => leastK_any W m0 m1 m2 v1)
          by_cases v3 : leastK m1 m0 m2 = m2
          · rw [v3] at hV3
            have hq : ∀ W, (Op.equalIn 10000 34 (.agg #[.int .i64 (m0 : Int), .int .i64 (m1 : Int), .int .u32 (m2 : Int)]) (.agg #[.int .i64 (m0 : Int), .int .i64 (m1 : Int), .int .u32 (m2 : Int)])).run Try.prog W = .ok true W := fun W => by rw [eqFl]; simp
            refine wp_region_below (by kernel_rfl) (by kernel_rfl) ?_
            iterate 1 (quiet_step (fail))
            refine wpQuiet_step (fun K hK => ?_)
            go_simp
            apply Exists.intro
            refine ⟨fun p => ?_, hK _ ?_⟩
            · exact bw_of (w := W1) (p := p) (hV1.out p.W)
            clear hK K
            iterate 2 (quiet_step (fail))
            iterate 5 (quiet_step (fail))
            refine wpQuiet_step (fun K hK => ?_)
            go_simp
            apply Exists.intro
            refine ⟨fun p => ?_, hK _ ?_⟩
            · exact bw_of (w := W1) (p := p) (hV2.out p.W)
            clear hK K
            iterate 1 (quiet_step (fail))
            iterate 2 (quiet_step (fail))
            iterate 1 (quiet_step (fail))
            refine wpQuiet_step (fun K hK => ?_)
            go_simp
            apply Exists.intro
            refine ⟨fun p => ?_, hK _ ?_⟩
            · exact bw_of (w := W1) (p := p) (hV3.out p.W)
            clear hK K
            iterate 2 (quiet_step (fail))
            iterate 1 (quiet_step (fail))
            refine wpQuiet_nil ?_
            intro w3 hw'
            obtain ⟨⟨wx, hb_w3⟩, rfl⟩ := hw'
            have tb3 := tb.below hb_w3
            have fb3 := fb.below hb_w3
            have kb3 := kb.below hb_w3
            have hb3 := hBW.trans (hb_w3.mono hBW.size)
            have q6 := bw_cell tb3.lt tb3.c3
            have q7 := bw_cell tb3.lt tb3.c4
            have hVF := Lib.hid (fun W => Fr.vf_any W y3 y4)
            clear q0 q1 q2 q3 q4 q5 hb_w3 hV1 hV2 hV3 tb fb kb hq x0 x1 x2 x3
            go_wp2
            by_cases v4 : Fr.VF y3 y4
            · rw [decide_eq_true v4] at hVF
              by_cases v5 : y3 = 0 ∧ y4 = 1
              · obtain ⟨rfl, rfl⟩ := v5
                have hq : ∀ W, (Op.equalIn 10000 63 (.agg #[.int .i64 0, .int .i64 1]) (.agg #[.int .i64 0, .int .i64 1])).run Try.prog W = .ok true W := fun W => by rw [eqFrT]; simp
                obtain rfl : B = false := by
                  rw [Bool.eq_false_iff]
                  intro c
                  have ht := (hB0.out.1 c) k hlt
                  rw [hBk] at ht
                  exact ht.2.2.2.2.1 rfl
                refine wp_region_below (by kernel_rfl) (by kernel_rfl) ?_
                iterate 2 (quiet_step (fail))
                refine wpQuiet_step (fun K hK => ?_)
                go_simp
                apply Exists.intro
                refine ⟨fun p => ?_, hK _ ?_⟩
                · exact bw_of (w := w3) (p := p) (hVF.out p.W)
                clear hK K
                iterate 2 (quiet_step (fail))
                iterate 2 (quiet_step (fail))
                refine wpQuiet_step (fun K hK => ?_)
                go_simp
                apply Exists.intro
                refine ⟨fun p => ?_, hK _ ?_⟩
                · exact bw_of (w := w3) (p := p) (iwh_any p.W 0)
                clear hK K
                iterate 1 (quiet_step (fail))
                iterate 1 (quiet_step (fail))
                refine wpQuiet_nil ?_
                intro w4 hw'
                obtain ⟨⟨wx, hb_w4⟩, rfl⟩ := hw'
                go_wp2
                go_ret
                exact ⟨rfl, hB.trans ((hb3.trans (hb_w4.mono hb3.size)).mono hBz)⟩
              · have hq : ∀ W, (Op.equalIn 10000 63 (.agg #[.int .i64 y3, .int .i64 y4]) (.agg #[.int .i64 0, .int .i64 1])).run Try.prog W = .ok false W := fun W => by
                  rw [eqFrT]
                  have : (y3 == 0 && y4 == 1) = false := by
                    rw [Bool.eq_false_iff]
                    intro h
                    simp at h
                    exact v5 h
                  rw [this]
                have hy3 : y3 ≠ 0 := fun c => v5 ((vf_zero v4).1 c)
                refine wp_region_below (by kernel_rfl) (by kernel_rfl) ?_
                iterate 2 (quiet_step (fail))
                refine wpQuiet_step (fun K hK => ?_)
                go_simp
                apply Exists.intro
                refine ⟨fun p => ?_, hK _ ?_⟩
                · exact bw_of (w := w3) (p := p) (hVF.out p.W)
                clear hK K
                iterate 2 (quiet_step (fail))
                iterate 2 (quiet_step (fail))
                refine wpQuiet_step (fun K hK => ?_)
                go_simp
                apply Exists.intro
                refine ⟨fun p => ?_, hK _ ?_⟩
                · exact bw_of (w := w3) (p := p) (iwh_any p.W 0)
                clear hK K
                iterate 1 (quiet_step (fail))
                iterate 1 (quiet_step (fail))
                refine wpQuiet_nil ?_
                intro w4 hw'
                obtain ⟨⟨wx, hb_w4⟩, rfl⟩ := hw'
                have kb4 := kb3.below hb_w4
                have fb4 := fb3.below hb_w4
                have hb4 := hb3.trans (hb_w4.mono hb3.size)
                clear q6 q7 hb_w4 hVF hq tb3 fb3 kb3 hb3
                obtain ⟨_, x0, x1, x2, x3, _⟩ := id kb4
                obtain ⟨_, f0, f1, f2⟩ := id fb4
                have hB4 := hB.trans (hb4.mono hBz)
                go_wp2
                by_cases hk1 : k = 0
                · subst hk1
                  go_quiet (fail)
                  have hok2 : Hid (∀ j, j < 0 + 1 → TOk ⟨n, e, s, ts⟩ j) := fun j hj => by
                    obtain rfl : j = 0 := by omega
                    unfold TOk
                    dsimp only
                    rw [hBk]
                    exact ⟨v1, by simpa using v2, by simpa [Least] using v3, v4, hy3, fun c => absurd c (by omega)⟩
                  go_wp2
                  go_roundw
                  case rel => exact ⟨0 + 1, by omega, by go_num, hok2, kb4.drewN _, below_drewN hB4 _⟩
                  case measure => simp [intOf]; omega
                · obtain ⟨k', rfl⟩ : ∃ k', k = k' + 1 := ⟨k - 1, by omega⟩
                  have hgp := hg k' (by omega)
                  obtain ⟨z0, z1, z2, z3, z4, hz⟩ : ∃ z0 z1 z2 z3 z4, tAt ts k' = ⟨z0, z1, z2, z3, z4⟩ := ⟨_, _, _, _, _, rfl⟩
                  rw [hz] at hgp
                  have e2 : w4.cell? ⟨b, off + k' * 5 + 2, none⟩ = some (.int .u32 z2) := (hB4.cell (p := ⟨b, _, none⟩) hb).trans hgp.2.2.1
                  have hz0 := hbd.out k' (by rw [hld.out]; omega)
                  rw [hz] at hz0
                  dsimp only at hz0
                  clear hgp hg
                  by_cases v6 : z2 < (m2 : Int)
                  · have hd6 : decide ((m2 : Int) ≤ z2) = false := decide_eq_false (by omega)
                    go_quiet (fail)
                    have hok2 : Hid (∀ j, j < k' + 1 + 1 → TOk ⟨n, e, s, ts⟩ j) := fun j hj => by
                      by_cases c : j = k' + 1
                      · subst c
                        unfold TOk
                        dsimp only
                        rw [hBk, Nat.add_sub_cancel, hz]
                        exact ⟨v1, by simpa using v2, by simpa [Least] using v3, v4, hy3, fun _ => v6⟩
                      · exact hok.out j (by omega)
                    go_wp2
                    go_roundw
                    case rel => exact ⟨k' + 1 + 1, by omega, by go_num, hok2, kb4.drewN _, below_drewN hB4 _⟩
                    case measure => simp [intOf]; omega
                  · have hd6 : decide ((m2 : Int) ≤ z2) = true := decide_eq_true (by omega)
                    obtain rfl : B = false := by
                      rw [Bool.eq_false_iff]
                      intro c
                      have ht := (hB0.out.1 c) (k' + 1) hlt
                      rw [hBk, Nat.add_sub_cancel, hz] at ht
                      exact v6 (ht.2.2.2.2.2 (by omega))
                    go_quiet (fail)
                    go_wp2
                    go_ret
                    exact ⟨rfl, below_drewN hB4 _⟩
            · rw [decide_eq_false v4] at hVF
              obtain rfl : B = false := by
                rw [Bool.eq_false_iff]
                intro c
                have ht := (hB0.out.1 c) k hlt
                rw [hBk] at ht
                exact v4 ht.2.2.2.1
              refine wp_region_below (by kernel_rfl) (by kernel_rfl) ?_
              iterate 2 (quiet_step (fail))
              refine wpQuiet_step (fun K hK => ?_)
              go_simp
              apply Exists.intro
              refine ⟨fun p => ?_, hK _ ?_⟩
              · exact bw_of (w := w3) (p := p) (hVF.out p.W)
              clear hK K
              iterate 2 (quiet_step (fail))
              iterate 4 go_big_quiet_skip
              iterate 1 (quiet_step (fail))
              refine wpQuiet_nil ?_
              intro w4 hw'
              obtain ⟨⟨wx, hb_w4⟩, rfl⟩ := hw'
              go_wp2
              go_ret
              exact ⟨rfl, hB.trans ((hb3.trans (hb_w4.mono hb3.size)).mono hBz)⟩
          · obtain ⟨z, hz⟩ : ∃ z, leastK m1 m0 m2 = z := ⟨_, rfl⟩
            rw [hz] at hV3 v3
            have hq : ∀ W, (Op.equalIn 10000 34 (.agg #[.int .i64 (m0 : Int), .int .i64 (m1 : Int), .int .u32 (z : Int)]) (.agg #[.int .i64 (m0 : Int), .int .i64 (m1 : Int), .int .u32 (m2 : Int)])).run Try.prog W = .ok false W := fun W => by
              rw [eqFl]
              have : ((m0 : Int) == (m0 : Int) && ((m1 : Int) == (m1 : Int) && (z : Int) == (m2 : Int))) = false := by
                rw [Bool.eq_false_iff]
                intro h
                simp at h
                exact v3 (by omega)
              rw [this]
            obtain rfl : B = false := by
              rw [Bool.eq_false_iff]
              intro c
              have ht := (hB0.out.1 c) k hlt
              rw [hBk] at ht
              exact v3 (by rw [← hz]; simpa [Least] using ht.2.2.1)
            clear hz
            refine wp_region_below (by kernel_rfl) (by kernel_rfl) ?_
            iterate 1 (quiet_step (fail))
            refine wpQuiet_step (fun K hK => ?_)
            go_simp
            apply Exists.intro
            refine ⟨fun p => ?_, hK _ ?_⟩
            · exact bw_of (w := W1) (p := p) (hV1.out p.W)
            clear hK K
            iterate 2 (quiet_step (fail))
            iterate 5 (quiet_step (fail))
            refine wpQuiet_step (fun K hK => ?_)
            go_simp
            apply Exists.intro
            refine ⟨fun p => ?_, hK _ ?_⟩
            · exact bw_of (w := W1) (p := p) (hV2.out p.W)
            clear hK K
            iterate 1 (quiet_step (fail))
            iterate 2 (quiet_step (fail))
            iterate 1 (quiet_step (fail))
            refine wpQuiet_step (fun K hK => ?_)
            go_simp
            apply Exists.intro
            refine ⟨fun p => ?_, hK _ ?_⟩
            · exact bw_of (w := W1) (p := p) (hV3.out p.W)
            clear hK K
            iterate 2 (quiet_step (fail))
            iterate 1 (quiet_step (fail))
            refine wpQuiet_nil ?_
            intro w3 hw'
            obtain ⟨⟨wx, hb_w3⟩, rfl⟩ := hw'
            go_wp2
            go_ret
            exact ⟨rfl, hB.trans ((hBW.trans (hb_w3.mono hBW.size)).mono hBz)⟩
        · have hV2 := Lib.hid (fun W => iof_any W m0 m1 m2 n e s v1 false ⟨fun c => (by cases c), fun c => absurd c v2⟩)
          obtain rfl : B = false := by
            rw [Bool.eq_false_iff]
            intro c
            have ht := (hB0.out.1 c) k hlt
            rw [hBk] at ht
            exact v2 (by simpa using ht.2.1)
          refine wp_region_below (by kernel_rfl) (by kernel_rfl) ?_
          iterate 1 (quiet_step (fail))
          refine wpQuiet_step (fun K hK => ?_)
          go_simp
          apply Exists.intro
          refine ⟨fun p => ?_, hK _ ?_⟩
          · exact bw_of (w := W1) (p := p) (hV1.out p.W)
          clear hK K
          iterate 2 (quiet_step (fail))
          iterate 5 (quiet_step (fail))
          refine wpQuiet_step (fun K hK => ?_)
          go_simp
          apply Exists.intro
          refine ⟨fun p => ?_, hK _ ?_⟩
          · exact bw_of (w := W1) (p := p) (hV2.out p.W)
          clear hK K
          iterate 1 (quiet_step (fail))
          iterate 2 (quiet_step (fail))
          iterate 4 go_big_quiet_skip
          iterate 1 (quiet_step (fail))
          refine wpQuiet_nil ?_
          intro w3 hw'
          obtain ⟨⟨wx, hb_w3⟩, rfl⟩ := hw'
          go_wp2
          go_ret
          exact ⟨rfl, hB.trans ((hBW.trans (hb_w3.mono hBW.size)).mono hBz)⟩
      · have hV1 := Lib.hid (fun W => ivk_f W y0 y1 y2 (by omega) (by omega) v1)
        obtain rfl : B = false := by
          rw [Bool.eq_false_iff]
          intro c
          have ht := (hB0.out.1 c) k hlt
          rw [hBk] at ht
          exact v1 ht.1
        refine wp_region_below (by kernel_rfl) (by kernel_rfl) ?_
        iterate 1 (quiet_step (fail))
        refine wpQuiet_step (fun K hK => ?_)
        go_simp
        apply Exists.intro
        refine ⟨fun p => ?_, hK _ ?_⟩
        · exact bw_of (w := W1) (p := p) (hV1.out p.W)
        clear hK K
        iterate 2 (quiet_step (fail))
        iterate 7 go_big_quiet_skip
        iterate 2 (quiet_step (fail))
        iterate 4 go_big_quiet_skip
        iterate 1 (quiet_step (fail))
        refine wpQuiet_nil ?_
        intro w3 hw'
        obtain ⟨⟨wx, hb_w3⟩, rfl⟩ := hw'
        go_wp2
        go_ret
        exact ⟨rfl, hB.trans ((hBW.trans (hb_w3.mono hBW.size)).mono hBz)⟩
    · obtain rfl : k = l := by omega
      have hd := decide_eq_false (show ¬ ((k : Int) < (k : Int)) by omega)
      obtain rfl : B = true := hB0.out.2 (fun i hi => hok.out i hi)
      go_wp2
      go_ret
      exact ⟨rfl, hB⟩
end
end Go.Proofs.Ytpobonomdfbanaa
/-
  Is a sum of flags valid: the model's contract.
-/
namespace Go.Proofs.Ytpobonomdfbanaa
open Go.RowKit Go.Shelf
set_option maxRecDepth 100000
attribute [local go_sem] Oper.semAt_some
section
variable (w : World)
theorem sv5_type (G : Nat) (n e s : Int) (a : Option Addr) (l cap : Nat) (c1 : SB w G n e s (.slice a l cap)) (he : e < 4294967296) (h0 : 0 ≤ e) (hv : ¬ VG n e) :
    Calls Try.prog 67 #[.pointer (some ⟨G, 0, none⟩)] w fun r w' => r = .returned (.bool false) ∧ Below w.heap.size w w' := by
  have hV := Lib.hid (fun W => ok_f W n e he h0 hv)
  have q0 := bw_cell c1.lt c1.c0
  have q1 := bw_cell c1.lt c1.c1
  have q2 := bw_cell c1.lt c1.c2
  have q3 := bw_cell c1.lt c1.c3
  clear hv he h0 c1
  go_enter Try.func67, Try.ntmps67
  go_wp2
  refine wp_region_below (by kernel_rfl) (by kernel_rfl) ?_
  iterate 4 (quiet_step (fail))
  refine wpQuiet_step (fun K hK => ?_)
  go_simp
  apply Exists.intro
  refine ⟨fun p => ?_, hK _ ?_⟩
  · exact bw_of (w := w) (p := p) (hV.out p.W)
  clear hK K
  iterate 2 (quiet_step (fail))
  iterate 10 go_big_quiet_skip
  iterate 2 (quiet_step (fail))
  iterate 6 go_big_quiet_skip
  iterate 1 (quiet_step (fail))
  refine wpQuiet_nil ?_
  intro w3 hw'
  obtain ⟨⟨wx, hb_w3⟩, rfl⟩ := hw'
  go_wp2
  go_ret
  exact ⟨rfl, hb_w3⟩
theorem sv5_frame (G : Nat) (n e s : Int) (a : Option Addr) (l cap : Nat) (c1 : SB w G n e s (.slice a l cap)) (hv : VG n e) (hf : frB n s = false) :
    Calls Try.prog 67 #[.pointer (some ⟨G, 0, none⟩)] w fun r w' => r = .returned (.bool false) ∧ Below w.heap.size w w' := by
  have hV := Lib.hid (fun W => ok_t W n e hv)
  have hF := Lib.hid (fun W => sfr_any W n e s)
  rw [hf] at hF
  have q0 := bw_cell c1.lt c1.c0
  have q1 := bw_cell c1.lt c1.c1
  have q2 := bw_cell c1.lt c1.c2
  have q3 := bw_cell c1.lt c1.c3
  clear hv hf c1
  go_enter Try.func67, Try.ntmps67
  go_wp2
  refine wp_region_below (by kernel_rfl) (by kernel_rfl) ?_
  iterate 4 (quiet_step (fail))
  refine wpQuiet_step (fun K hK => ?_)
  go_simp
  apply Exists.intro
  refine ⟨fun p => ?_, hK _ ?_⟩
  · exact bw_of (w := w) (p := p) (hV.out p.W)
  clear hK K
  iterate 2 (quiet_step (fail))
  iterate 8 (quiet_step (fail))
  refine wpQuiet_step (fun K hK => ?_)
  go_simp
  apply Exists.intro
  refine ⟨fun p => ?_, hK _ ?_⟩
  · exact bw_of (w := w) (p := p) (hF.out p.W)
  clear hK K
  iterate 1 (quiet_step (fail))
  iterate 2 (quiet_step (fail))
  iterate 6 go_big_quiet_skip
  iterate 1 (quiet_step (fail))
  refine wpQuiet_nil ?_
  intro w3 hw'
  obtain ⟨⟨wx, hb_w3⟩, rfl⟩ := hw'
  go_wp2
  go_ret
  exact ⟨rfl, hb_w3⟩
theorem sv5_len (G : Nat) (n e s : Int) (a : Option Addr) (l cap : Nat) (c1 : SB w G n e s (.slice a l cap)) (hl : 64 < l) (hl2 : l ≤ 9223372036854775807) (hv : VG n e) (hf : frB n s = true) :
    Calls Try.prog 67 #[.pointer (some ⟨G, 0, none⟩)] w fun r w' => r = .returned (.bool false) ∧ Below w.heap.size w w' := by
  have hV := Lib.hid (fun W => ok_t W n e hv)
  have hF := Lib.hid (fun W => sfr_any W n e s)
  rw [hf] at hF
  have q0 := bw_cell c1.lt c1.c0
  have q1 := bw_cell c1.lt c1.c1
  have q2 := bw_cell c1.lt c1.c2
  have q3 := bw_cell c1.lt c1.c3
  clear hv hf c1
  go_enter Try.func67, Try.ntmps67
  go_wp2
  refine wp_region_below (by kernel_rfl) (by kernel_rfl) ?_
  iterate 4 (quiet_step (fail))
  refine wpQuiet_step (fun K hK => ?_)
  go_simp
  apply Exists.intro
  refine ⟨fun p => ?_, hK _ ?_⟩
  · exact bw_of (w := w) (p := p) (hV.out p.W)
  clear hK K
  iterate 2 (quiet_step (fail))
  iterate 8 (quiet_step (fail))
  refine wpQuiet_step (fun K hK => ?_)
  go_simp
  apply Exists.intro
  refine ⟨fun p => ?_, hK _ ?_⟩
  · exact bw_of (w := w) (p := p) (hF.out p.W)
  clear hK K
  iterate 1 (quiet_step (fail))
  iterate 2 (quiet_step (fail))
  iterate 6 (quiet_step (fail))
  iterate 1 (quiet_step (fail))
  refine wpQuiet_nil ?_
  intro w3 hw'
  obtain ⟨⟨wx, hb_w3⟩, rfl⟩ := hw'
  go_wp2
  go_ret
  exact ⟨rfl, hb_w3⟩
set_option maxHeartbeats 16000000 in
theorem sv5_ok (G : Nat) (n e s : Int) (ts : List TE) (u : Value) (c1 : SB w G n e s u) (hS : SlT w u ts) (hbd : BdT ts) (hl : ts.length ≤ 64) (hv : VG n e) (hf : frB n s = true) (B : Bool) (hB0 : B = true ↔ ∀ i, i < ts.length → TOk ⟨n, e, s, ts⟩ i) :
    Calls Try.prog 67 #[.pointer (some ⟨G, 0, none⟩)] w fun r w' => r = .returned (.bool B) ∧ Below w.heap.size w w' := by
  unfold TOk at hB0
  dsimp only at hB0
  obtain ⟨a, cap, rfl, h1, h2, h3⟩ := hS
  have hV := Lib.hid (fun W => ok_t W n e hv)
  have hF := Lib.hid (fun W => sfr_any W n e s)
  rw [hf] at hF
  replace hB0 := Lib.hid hB0
  replace hbd := Lib.hid hbd
  obtain ⟨l, hld⟩ : ∃ l, ts.length = l := ⟨_, rfl⟩
  have h3b : Hid (0 < l → ∃ b off, a = some ⟨b, off, none⟩ ∧ b < w.heap.size ∧ ∀ i, i < l → TCell w b off (tAt ts i) i) := fun h => by rw [← hld] at h ⊢; exact h3 (List.length_pos_iff.1 h)
  rw [hld] at h1 hl hB0 c1
  replace hld := Lib.hid hld
  clear h3 hv hf
  have q0 := bw_cell c1.lt c1.c0
  have q1 := bw_cell c1.lt c1.c1
  have q2 := bw_cell c1.lt c1.c2
  have q3 := bw_cell c1.lt c1.c3
  go_enter Try.func67, Try.ntmps67
  go_wp2
  refine wp_region_below (by kernel_rfl) (by kernel_rfl) ?_
  iterate 4 (quiet_step (fail))
  refine wpQuiet_step (fun K hK => ?_)
  go_simp
  apply Exists.intro
  refine ⟨fun p => ?_, hK _ ?_⟩
  · exact bw_of (w := w) (p := p) (hV.out p.W)
  clear hK K
  iterate 2 (quiet_step (fail))
  iterate 8 (quiet_step (fail))
  refine wpQuiet_step (fun K hK => ?_)
  go_simp
  apply Exists.intro
  refine ⟨fun p => ?_, hK _ ?_⟩
  · exact bw_of (w := w) (p := p) (hF.out p.W)
  clear hK K
  iterate 1 (quiet_step (fail))
  iterate 2 (quiet_step (fail))
  iterate 6 (quiet_step (fail))
  iterate 1 (quiet_step (fail))
  refine wpQuiet_nil ?_
  intro w2 hw'
  obtain ⟨⟨wx, hb_w2⟩, rfl⟩ := hw'
  have c2 := c1.below hb_w2
  clear q0 q1 q2 q3 hV hF
  obtain ⟨_, x0, x1, x2, x3, _⟩ := id c2
  go_wp2
  go_loopw [3, 4] (fun i _ wr => ∃ k : Nat, k ≤ l ∧ i = .int .i64 k ∧ Hid (∀ j, j < k → TOk ⟨n, e, s, ts⟩ j) ∧ SB wr G n e s (.slice a l cap) ∧ Below w.heap.size w wr) (fun i _ _ => l - (intOf i).toNat)
  case atStart => exact ⟨0, by omega, rfl, fun j hj => by omega, c2, hb_w2⟩
  case round =>
    clear c2 x0 x1 x2 x3 hb_w2 c1
    obtain ⟨k, hk, rfl, hok, kr, hB⟩ := hrel
    obtain ⟨ltG, x0, x1, x2, x3, _⟩ := id kr
    by_cases hlt : k < l
    · obtain ⟨b, off, rfl, hb, hg⟩ := h3b.out (by omega)
      have hgk := hg k hlt
      have hbk := hbd.out k (by rw [hld.out]; exact hlt)
      obtain ⟨g, hBk⟩ : ∃ g, tAt ts k = g := ⟨_, rfl⟩
      obtain ⟨y0, y1, y2, y3, y4⟩ := g
      rw [hBk] at hgk hbk
      dsimp only at hbk
      have s0 : wr.cell? ⟨b, off + k * 5, none⟩ = some (.int .i64 y0) := by rw [hB.cell (p := ⟨b, _, none⟩) hb]; exact hgk.1
      have s1 : wr.cell? ⟨b, off + k * 5 + 1, none⟩ = some (.int .i64 y1) := by rw [hB.cell (p := ⟨b, _, none⟩) hb]; exact hgk.2.1
      have s2 : wr.cell? ⟨b, off + k * 5 + 2, none⟩ = some (.int .u32 y2) := by rw [hB.cell (p := ⟨b, _, none⟩) hb]; exact hgk.2.2.1
      have s3 : wr.cell? ⟨b, off + k * 5 + 3, none⟩ = some (.int .i64 y3) := by rw [hB.cell (p := ⟨b, _, none⟩) hb]; exact hgk.2.2.2.1
      have s4 : wr.cell? ⟨b, off + k * 5 + 4, none⟩ = some (.int .i64 y4) := by rw [hB.cell (p := ⟨b, _, none⟩) hb]; exact hgk.2.2.2.2
      have hkl : (k : Int) < (l : Int) := by omega
      have hk0 : (0 : Int) ≤ (k : Int) := by omega
      obtain ⟨W1, hW1⟩ : ∃ W1, W1 = wr.alloc (.cells #[.int .i64 y0, .int .i64 y1, .int .u32 y2] 34) := ⟨_, rfl⟩
      have hBW : Below wr.heap.size wr W1 := by rw [hW1]; (repeat (first | exact Below.refl _ _ | assumption | refine bchain (by assumption) ?_ | refine balloc ?_ _ | apply Below.drew | apply below_drewN | (refine Below.alloc ?_ (by (try simp) <;> omega) _) | (refine Below.setCell ?_ (by (try simp) <;> omega) _)))
      have fb : FC W1 wr.heap.size y0 y1 y2 := by rw [hW1]; exact FC.made _ _ _ _ _
      have kb := kr.below hBW
      replace hW1 := Lib.hid hW1
      clear hgk
      have q0 := bw_cell fb.lt fb.c0
      have q1 := bw_cell fb.lt fb.c1
      have q2 := bw_cell fb.lt fb.c2
      have q3 := bw_cell kb.lt kb.c0
      have q4 := bw_cell kb.lt kb.c1
      have q5 := bw_cell kb.lt kb.c2
      have q6 := bw_cell kb.lt kb.c3
      have hBz := hB.size
      have hbr : b < wr.heap.size := by omega
      have hVF := Lib.hid (fun W => Fr.ok_any W y3 y4)
      go_wp2
      rw [← hW1.out]
      clear x0 x1 x2 x3
      by_cases v1 : VK y0 y1 y2
      · obtain ⟨m0, m1, m2, rfl, rfl, rfl⟩ : ∃ a b c : Nat, y0 = a ∧ y1 = b ∧ y2 = c := ⟨y0.toNat, y1.toNat, y2.toNat, by have := v1.2.1; omega, by have := v1.1.1; omega, by omega⟩
        have hV1 := Lib.hid (fun W => sok_t W m0 m1 m2 v1)
        by_cases v2 : Fits m0 m1 m2 n e s
        · have hV2 := Lib.hid (fun W => sof_any W m0 m1 m2 n e s v1 true ⟨fun _ => v2, fun _ => rfl⟩)
          have hV3 := Lib.hid (fun W => sleastK_any W m0 m1 m2 v1)
          by_cases v3 : leastK m1 m0 m2 = m2
          · rw [v3] at hV3
            have hq : ∀ W, (Op.equalIn 10000 34 (.agg #[.int .i64 (m0 : Int), .int .i64 (m1 : Int), .int .u32 (m2 : Int)]) (.agg #[.int .i64 (m0 : Int), .int .i64 (m1 : Int), .int .u32 (m2 : Int)])).run Try.prog W = .ok true W := fun W => by rw [eqFl]; simp
            by_cases hk1 : k = 0
            · subst hk1
              refine wp_region_below (by kernel_rfl) (by kernel_rfl) ?_
              iterate 1 (quiet_step (fail))
              refine wpQuiet_step (fun K hK => ?_)
              go_simp
              apply Exists.intro
              refine ⟨fun p => ?_, hK _ ?_⟩
              · exact bw_of (w := W1) (p := p) (hV1.out p.W)
              clear hK K
              iterate 2 (quiet_step (fail))
              iterate 9 (quiet_step (fail))
              refine wpQuiet_step (fun K hK => ?_)
              go_simp
              apply Exists.intro
              refine ⟨fun p => ?_, hK _ ?_⟩
              · exact bw_of (w := W1) (p := p) (hV2.out p.W)
              clear hK K
              iterate 1 (quiet_step (fail))
              iterate 2 (quiet_step (fail))
              iterate 1 (quiet_step (fail))
              refine wpQuiet_step (fun K hK => ?_)
              go_simp
              apply Exists.intro
              refine ⟨fun p => ?_, hK _ ?_⟩
              · exact bw_of (w := W1) (p := p) (hV3.out p.W)
              clear hK K
              iterate 2 (quiet_step (fail))
              iterate 2 (quiet_step (fail))
              iterate 3 (quiet_step (fail))
              iterate 15 go_big_quiet_skip
              iterate 2 (quiet_step (fail))
              refine wpQuiet_nil ?_
              intro w3 hw'
              obtain ⟨⟨wx, hb_w3⟩, rfl⟩ := hw'
              have kb3 := kb.below hb_w3
              have hb3 := hBW.trans (hb_w3.mono hBW.size)
              have hB3 := hB.trans (hb3.mono hBz)
              have p3 : w3.cell? ⟨b, off + 0 * 5 + 3, none⟩ = some (.int .i64 y3) := (hb3.cell (p := ⟨b, _, none⟩) hbr).trans s3
              have p4 : w3.cell? ⟨b, off + 0 * 5 + 4, none⟩ = some (.int .i64 y4) := (hb3.cell (p := ⟨b, _, none⟩) hbr).trans s4
              obtain ⟨_, x0, x1, x2, x3, _⟩ := id kb3
              clear q0 q1 q2 q3 q4 q5 hb_w3 hV1 hV2 hV3 fb kb hq
              by_cases v4 : Fr.VF y3 y4
              · rw [decide_eq_true v4] at hVF
                go_wp2_with fail
                refine (hVF.out _).mono ?_
                rintro r4 w4 ⟨rfl, hb4⟩
                have kb4 := kb3.below hb4
                have hB4 := bchain hb4 hB3
                have u3 : w4.cell? ⟨b, off + 0 * 5 + 3, none⟩ = some (.int .i64 y3) := (hb4.cell (p := ⟨b, _, none⟩) (by show b < _; have := hB3.size; omega)).trans p3
                clear hb4 x0 x1 x2 x3 p3 p4
                obtain ⟨_, x0, x1, x2, x3, _⟩ := id kb4
                by_cases v5 : y3 = 0
                · subst v5
                  obtain rfl : B = false := by
                    rw [Bool.eq_false_iff]
                    intro c
                    have ht := (hB0.out.1 c) (0) hlt
                    rw [hBk] at ht
                    exact ht.2.2.2.2.1 rfl
                  go_wp2
                  go_ret
                  exact ⟨rfl, hB4⟩
                · have hy : (y3 == 0) = false := by simp; exact v5
                  have hok2 : Hid (∀ j, j < 0 + 1 → TOk ⟨n, e, s, ts⟩ j) := fun j hj => by
                    obtain rfl : j = 0 := by omega
                    unfold TOk
                    dsimp only
                    rw [hBk]
                    exact ⟨v1, by simpa using v2, by simpa [Least] using v3, v4, v5, fun c => absurd c (by omega)⟩
                  clear hok
                  go_wp2
                  go_roundw
                  case rel => exact ⟨0 + 1, by omega, by go_num, hok2, kb4, hB4⟩
                  case measure => simp [intOf]; omega
              · rw [decide_eq_false v4] at hVF
                obtain rfl : B = false := by
                  rw [Bool.eq_false_iff]
                  intro c
                  have ht := (hB0.out.1 c) (0) hlt
                  rw [hBk] at ht
                  exact v4 ht.2.2.2.1
                go_wp2_with fail
                refine (hVF.out _).mono ?_
                rintro r4 w4 ⟨rfl, hb4⟩
                go_wp2
                go_ret
                exact ⟨rfl, bchain hb4 hB3⟩
            · obtain ⟨k', rfl⟩ : ∃ k', k = k' + 1 := ⟨k - 1, by omega⟩
              have hgp := hg k' (by omega)
              obtain ⟨z0, z1, z2, z3, z4, hz⟩ : ∃ z0 z1 z2 z3 z4, tAt ts k' = ⟨z0, z1, z2, z3, z4⟩ := ⟨_, _, _, _, _, rfl⟩
              rw [hz] at hgp
              have e2 : W1.cell? ⟨b, off + k' * 5 + 2, none⟩ = some (.int .u32 z2) := ((hB.trans (hBW.mono hBz)).cell (p := ⟨b, _, none⟩) hb).trans hgp.2.2.1
              have q7 := bw_cell (show b < W1.heap.size by have := hBW.size; omega) e2
              have hz0 := hbd.out k' (by rw [hld.out]; omega)
              rw [hz] at hz0
              dsimp only at hz0
              clear hgp hg e2
              have hwk : IntKind.i64.wrap (k' : Int) = (k' : Int) := IntWalk.i64_in _ ⟨by omega, by omega⟩
              have hkk : (k' : Int) < (l : Int) := by omega
              by_cases v6 : z2 < (m2 : Int)
              · have hd6 : decide ((m2 : Int) ≤ z2) = false := decide_eq_false (by omega)
                refine wp_region_below (by kernel_rfl) (by kernel_rfl) ?_
                iterate 1 (quiet_step (fail))
                refine wpQuiet_step (fun K hK => ?_)
                go_simp
                apply Exists.intro
                refine ⟨fun p => ?_, hK _ ?_⟩
                · exact bw_of (w := W1) (p := p) (hV1.out p.W)
                clear hK K
                iterate 2 (quiet_step (fail))
                iterate 9 (quiet_step (fail))
                refine wpQuiet_step (fun K hK => ?_)
                go_simp
                apply Exists.intro
                refine ⟨fun p => ?_, hK _ ?_⟩
                · exact bw_of (w := W1) (p := p) (hV2.out p.W)
                clear hK K
                iterate 1 (quiet_step (fail))
                iterate 2 (quiet_step (fail))
                iterate 1 (quiet_step (fail))
                refine wpQuiet_step (fun K hK => ?_)
                go_simp
                apply Exists.intro
                refine ⟨fun p => ?_, hK _ ?_⟩
                · exact bw_of (w := W1) (p := p) (hV3.out p.W)
                clear hK K
                iterate 2 (quiet_step (fail))
                iterate 2 (quiet_step (fail))
                iterate 3 (quiet_step (fail))
                iterate 15 (quiet_step (fail))
                iterate 2 (quiet_step (fail))
                refine wpQuiet_nil ?_
                intro w3 hw'
                obtain ⟨⟨wx, hb_w3⟩, rfl⟩ := hw'
                clear q7
                have kb3 := kb.below hb_w3
                have hb3 := hBW.trans (hb_w3.mono hBW.size)
                have hB3 := hB.trans (hb3.mono hBz)
                have p3 : w3.cell? ⟨b, off + (k' + 1) * 5 + 3, none⟩ = some (.int .i64 y3) := (hb3.cell (p := ⟨b, _, none⟩) hbr).trans s3
                have p4 : w3.cell? ⟨b, off + (k' + 1) * 5 + 4, none⟩ = some (.int .i64 y4) := (hb3.cell (p := ⟨b, _, none⟩) hbr).trans s4
                obtain ⟨_, x0, x1, x2, x3, _⟩ := id kb3
                clear q0 q1 q2 q3 q4 q5 hb_w3 hV1 hV2 hV3 fb kb hq
                by_cases v4 : Fr.VF y3 y4
                · rw [decide_eq_true v4] at hVF
                  go_wp2_with fail
                  refine (hVF.out _).mono ?_
                  rintro r4 w4 ⟨rfl, hb4⟩
                  have kb4 := kb3.below hb4
                  have hB4 := bchain hb4 hB3
                  have u3 : w4.cell? ⟨b, off + (k' + 1) * 5 + 3, none⟩ = some (.int .i64 y3) := (hb4.cell (p := ⟨b, _, none⟩) (by show b < _; have := hB3.size; omega)).trans p3
                  clear hb4 x0 x1 x2 x3 p3 p4
                  obtain ⟨_, x0, x1, x2, x3, _⟩ := id kb4
                  by_cases v5 : y3 = 0
                  · subst v5
                    obtain rfl : B = false := by
                      rw [Bool.eq_false_iff]
                      intro c
                      have ht := (hB0.out.1 c) ((k' + 1)) hlt
                      rw [hBk] at ht
                      exact ht.2.2.2.2.1 rfl
                    go_wp2
                    go_ret
                    exact ⟨rfl, hB4⟩
                  · have hy : (y3 == 0) = false := by simp; exact v5
                    have hok2 : Hid (∀ j, j < (k' + 1) + 1 → TOk ⟨n, e, s, ts⟩ j) := fun j hj => by
                      by_cases c : j = k' + 1
                      · subst c
                        unfold TOk
                        dsimp only
                        rw [hBk, Nat.add_sub_cancel, hz]
                        exact ⟨v1, by simpa using v2, by simpa [Least] using v3, v4, v5, fun _ => v6⟩
                      · exact hok.out j (by omega)
                    clear hok
                    go_wp2
                    go_roundw
                    case rel => exact ⟨(k' + 1) + 1, by omega, by go_num, hok2, kb4, hB4⟩
                    case measure => simp [intOf]; omega
                · rw [decide_eq_false v4] at hVF
                  obtain rfl : B = false := by
                    rw [Bool.eq_false_iff]
                    intro c
                    have ht := (hB0.out.1 c) ((k' + 1)) hlt
                    rw [hBk] at ht
                    exact v4 ht.2.2.2.1
                  go_wp2_with fail
                  refine (hVF.out _).mono ?_
                  rintro r4 w4 ⟨rfl, hb4⟩
                  go_wp2
                  go_ret
                  exact ⟨rfl, bchain hb4 hB3⟩
              · have hd6 : decide ((m2 : Int) ≤ z2) = true := decide_eq_true (by omega)
                obtain rfl : B = false := by
                  rw [Bool.eq_false_iff]
                  intro c
                  have ht := (hB0.out.1 c) (k' + 1) hlt
                  rw [hBk, Nat.add_sub_cancel, hz] at ht
                  exact v6 (ht.2.2.2.2.2 (by omega))
                refine wp_region_below (by kernel_rfl) (by kernel_rfl) ?_
                iterate 1 (quiet_step (fail))
                refine wpQuiet_step (fun K hK => ?_)
                go_simp
                apply Exists.intro
                refine ⟨fun p => ?_, hK _ ?_⟩
                · exact bw_of (w := W1) (p := p) (hV1.out p.W)
                clear hK K
                iterate 2 (quiet_step (fail))
                iterate 9 (quiet_step (fail))
                refine wpQuiet_step (fun K hK => ?_)
                go_simp
                apply Exists.intro
                refine ⟨fun p => ?_, hK _ ?_⟩
                · exact bw_of (w := W1) (p := p) (hV2.out p.W)
                clear hK K
                iterate 1 (quiet_step (fail))
                iterate 2 (quiet_step (fail))
                iterate 1 (quiet_step (fail))
                refine wpQuiet_step (fun K hK => ?_)
                go_simp
                apply Exists.intro
                refine ⟨fun p => ?_, hK _ ?_⟩
                · exact bw_of (w := W1) (p := p) (hV3.out p.W)
                clear hK K
                iterate 2 (quiet_step (fail))
                iterate 2 (quiet_step (fail))
                iterate 3 (quiet_step (fail))
                iterate 15 (quiet_step (fail))
                iterate 2 (quiet_step (fail))
                refine wpQuiet_nil ?_
                intro w3 hw'
                obtain ⟨⟨wx, hb_w3⟩, rfl⟩ := hw'
                go_wp2
                go_ret
                exact ⟨rfl, hB.trans ((hBW.trans (hb_w3.mono hBW.size)).mono hBz)⟩
          · obtain ⟨z, hz⟩ : ∃ z, leastK m1 m0 m2 = z := ⟨_, rfl⟩
            rw [hz] at hV3 v3
            have hq : ∀ W, (Op.equalIn 10000 34 (.agg #[.int .i64 (m0 : Int), .int .i64 (m1 : Int), .int .u32 (z : Int)]) (.agg #[.int .i64 (m0 : Int), .int .i64 (m1 : Int), .int .u32 (m2 : Int)])).run Try.prog W = .ok false W := fun W => by
              rw [eqFl]
              have : ((m0 : Int) == (m0 : Int) && ((m1 : Int) == (m1 : Int) && (z : Int) == (m2 : Int))) = false := by
                rw [Bool.eq_false_iff]
                intro h
                simp at h
                exact v3 (by omega)
              rw [this]
            obtain rfl : B = false := by
              rw [Bool.eq_false_iff]
              intro c
              have ht := (hB0.out.1 c) k hlt
              rw [hBk] at ht
              exact v3 (by rw [← hz]; simpa [Least] using ht.2.2.1)
            clear hz
            refine wp_region_below (by kernel_rfl) (by kernel_rfl) ?_
            iterate 1 (quiet_step (fail))
            refine wpQuiet_step (fun K hK => ?_)
            go_simp
            apply Exists.intro
            refine ⟨fun p => ?_, hK _ ?_⟩
            · exact bw_of (w := W1) (p := p) (hV1.out p.W)
            clear hK K
            iterate 2 (quiet_step (fail))
            iterate 9 (quiet_step (fail))
            refine wpQuiet_step (fun K hK => ?_)
            go_simp
            apply Exists.intro
            refine ⟨fun p => ?_, hK _ ?_⟩
            · exact bw_of (w := W1) (p := p) (hV2.out p.W)
            clear hK K
            iterate 1 (quiet_step (fail))
            iterate 2 (quiet_step (fail))
            iterate 1 (quiet_step (fail))
            refine wpQuiet_step (fun K hK => ?_)
            go_simp
            apply Exists.intro
            refine ⟨fun p => ?_, hK _ ?_⟩
            · exact bw_of (w := W1) (p := p) (hV3.out p.W)
            clear hK K
            iterate 2 (quiet_step (fail))
            iterate 2 (quiet_step (fail))
            iterate 3 go_big_quiet_skip
            iterate 15 go_big_quiet_skip
            iterate 1 go_big_quiet_skip
            iterate 1 (quiet_step (fail))
            refine wpQuiet_nil ?_
            intro w3 hw'
            obtain ⟨⟨wx, hb_w3⟩, rfl⟩ := hw'
            go_wp2
            go_ret
            exact ⟨rfl, hB.trans ((hBW.trans (hb_w3.mono hBW.size)).mono hBz)⟩
        · have hV2 := Lib.hid (fun W => sof_any W m0 m1 m2 n e s v1 false ⟨fun c => (by cases c), fun c => absurd c v2⟩)
          obtain rfl : B = false := by
            rw [Bool.eq_false_iff]
            intro c
            have ht := (hB0.out.1 c) k hlt
            rw [hBk] at ht
            exact v2 (by simpa using ht.2.1)
          refine wp_region_below (by kernel_rfl) (by kernel_rfl) ?_
          iterate 1 (quiet_step (fail))
          refine wpQuiet_step (fun K hK => ?_)
          go_simp
          apply Exists.intro
          refine ⟨fun p => ?_, hK _ ?_⟩
          · exact bw_of (w := W1) (p := p) (hV1.out p.W)
          clear hK K
          iterate 2 (quiet_step (fail))
          iterate 9 (quiet_step (fail))
          refine wpQuiet_step (fun K hK => ?_)
          go_simp
          apply Exists.intro
          refine ⟨fun p => ?_, hK _ ?_⟩
          · exact bw_of (w := W1) (p := p) (hV2.out p.W)
          clear hK K
          iterate 1 (quiet_step (fail))
          iterate 2 (quiet_step (fail))
          iterate 4 go_big_quiet_skip
          iterate 2 (quiet_step (fail))
          iterate 3 go_big_quiet_skip
          iterate 15 go_big_quiet_skip
          iterate 1 go_big_quiet_skip
          iterate 1 (quiet_step (fail))
          refine wpQuiet_nil ?_
          intro w3 hw'
          obtain ⟨⟨wx, hb_w3⟩, rfl⟩ := hw'
          go_wp2
          go_ret
          exact ⟨rfl, hB.trans ((hBW.trans (hb_w3.mono hBW.size)).mono hBz)⟩
      · have hV1 := Lib.hid (fun W => sok_f W y0 y1 y2 (by omega) (by omega) v1)
        obtain rfl : B = false := by
          rw [Bool.eq_false_iff]
          intro c
          have ht := (hB0.out.1 c) k hlt
          rw [hBk] at ht
          exact v1 ht.1
        refine wp_region_below (by kernel_rfl) (by kernel_rfl) ?_
        iterate 1 (quiet_step (fail))
        refine wpQuiet_step (fun K hK => ?_)
        go_simp
        apply Exists.intro
        refine ⟨fun p => ?_, hK _ ?_⟩
        · exact bw_of (w := W1) (p := p) (hV1.out p.W)
        clear hK K
        iterate 2 (quiet_step (fail))
        iterate 11 go_big_quiet_skip
        iterate 2 (quiet_step (fail))
        iterate 4 go_big_quiet_skip
        iterate 2 (quiet_step (fail))
        iterate 3 go_big_quiet_skip
        iterate 15 go_big_quiet_skip
        iterate 1 go_big_quiet_skip
        iterate 1 (quiet_step (fail))
        refine wpQuiet_nil ?_
        intro w3 hw'
        obtain ⟨⟨wx, hb_w3⟩, rfl⟩ := hw'
        go_wp2
        go_ret
        exact ⟨rfl, hB.trans ((hBW.trans (hb_w3.mono hBW.size)).mono hBz)⟩
    · obtain rfl : k = l := by omega
      have hd := decide_eq_false (show ¬ ((k : Int) < (k : Int)) by omega)
      obtain rfl : B = true := hB0.out.2 (fun i hi => hok.out i hi)
      go_wp2
      go_ret
      exact ⟨rfl, hB⟩
end
end Go.Proofs.Ytpobonomdfbanaa
/-
  Which sums of flags are valid: the program's word and the model's.
-/
namespace Go.Proofs.Ytpobonomdfbanaa
open Go.RowKit
set_option maxRecDepth 100000
section
variable (w : World)
theorem ivs_any (X : SM) (u : Value) (hS : SlT w u X.ts) (hbd : BdS X) (B : Bool) (hB : B = true ↔ VSum X) :
    Calls Try.prog 26 #[.agg #[.int .i64 X.n, .int .u32 X.e, .int .i64 X.s, u]] w fun r w' => r = .returned (.bool B) ∧ Below w.heap.size w w' := by
  by_cases hv : VG X.n X.e
  · cases hf : frB X.n X.s with
    | false =>
      obtain rfl : B = false := by
        rw [Bool.eq_false_iff]; intro c; have := (hB.1 c).2.1; rw [hf] at this; cases this
      exact ivs_frame w X.n X.e X.s u hv hf
    | true =>
      by_cases hl : X.ts.length ≤ 64
      · exact ivs_ok w X u hS hbd.2.2 hl hv hf B (hB.trans ⟨fun c => c.2.2.2, fun c => ⟨hv, hf, hl, c⟩⟩)
      · obtain rfl : B = false := by
          rw [Bool.eq_false_iff]; intro c; exact hl (hB.1 c).2.2.1
        obtain ⟨a, cap, rfl, h1, h2, _⟩ := hS
        exact ivs_len w X.n X.e X.s a X.ts.length cap (by omega) (by omega) hv hf
  · obtain rfl : B = false := by
      rw [Bool.eq_false_iff]; intro c; exact hv (hB.1 c).1
    exact ivs_type w X.n X.e X.s u hbd.2.1 hbd.1 hv
theorem sv5_any (X : SM) (u : Value) (G : Nat) (c1 : SB w G X.n X.e X.s u) (hS : SlT w u X.ts) (hbd : BdS X) (B : Bool) (hB : B = true ↔ VSum X) :
    Calls Try.prog 67 #[.pointer (some ⟨G, 0, none⟩)] w fun r w' => r = .returned (.bool B) ∧ Below w.heap.size w w' := by
  obtain ⟨a, cap, hu, h1, h2, _⟩ := id hS
  by_cases hv : VG X.n X.e
  · cases hf : frB X.n X.s with
    | false =>
      obtain rfl : B = false := by
        rw [Bool.eq_false_iff]; intro c; have := (hB.1 c).2.1; rw [hf] at this; cases this
      exact sv5_frame w G X.n X.e X.s a _ cap (by rw [← hu]; exact c1) hv hf
    | true =>
      by_cases hl : X.ts.length ≤ 64
      · exact sv5_ok w G X.n X.e X.s X.ts u c1 hS hbd.2.2 hl hv hf B (hB.trans ⟨fun c => c.2.2.2, fun c => ⟨hv, hf, hl, c⟩⟩)
      · obtain rfl : B = false := by
          rw [Bool.eq_false_iff]; intro c; exact hl (hB.1 c).2.2.1
        exact sv5_len w G X.n X.e X.s a X.ts.length cap (by rw [← hu]; exact c1) (by omega) (by omega) hv hf
  · obtain rfl : B = false := by
      rw [Bool.eq_false_iff]; intro c; exact hv (hB.1 c).1
    exact sv5_type w G X.n X.e X.s a _ cap (by rw [← hu]; exact c1) hbd.2.1 hbd.1 hv
theorem svs_any (X : SM) (u : Value) (hS : SlT w u X.ts) (hbd : BdS X) (B : Bool) (hB : B = true ↔ VSum X) :
    Calls Try.prog 24 #[.agg #[.int .i64 X.n, .int .u32 X.e, .int .i64 X.s, u]] w fun r w' => r = .returned (.bool B) ∧ Below w.heap.size w w' := by
  have hE := Lib.hid (fun W G (hb : Below w.heap.size w W) c1 => sv5_any W X u G c1 (hS.below hb) hbd B hB)
  obtain ⟨a, cap, rfl, _⟩ := hS
  obtain ⟨l, hl⟩ : ∃ l, X.ts.length = l := ⟨_, rfl⟩
  rw [hl] at hE ⊢
  clear hl hbd hB
  obtain ⟨W0, hW0⟩ : ∃ W0, W0 = w.alloc (.cells #[.int .i64 X.n, .int .u32 X.e, .int .i64 X.s, .slice a l cap] 50) := ⟨_, rfl⟩
  have hb0 : Below w.heap.size w W0 := by rw [hW0]; (repeat (first | exact Below.refl _ _ | assumption | refine bchain (by assumption) ?_ | refine balloc ?_ _ | apply Below.drew | apply below_drewN | (refine Below.alloc ?_ (by (try simp) <;> omega) _) | (refine Below.setCell ?_ (by (try simp) <;> omega) _)))
  have k0 : SB W0 w.heap.size X.n X.e X.s (.slice a l cap) := by rw [hW0]; exact SB.made _ _ _ _ _ _
  replace hW0 := Lib.hid hW0
  go_enter Try.func24, Try.ntmps24
  go_wp2_with fail
  rw [← hW0.out]
  refine (hE.out _ _ hb0 k0).mono ?_
  rintro r1 w1 ⟨rfl, hb1⟩
  go_wp2
  go_ret
  exact ⟨rfl, bchain hb1 hb0⟩
end
end Go.Proofs.Ytpobonomdfbanaa
/-
  THE TERMS OF A LIST, ONE AFTER ANOTHER: what slices.Values' iterator yields.
-/
namespace Go.Proofs.Ytpobonomdfbanaa
open Go.RowKit Go.Shelf
set_option maxRecDepth 100000
theorem take_split {ts : List TE} {j : Nat} (h : j < ts.length) : ∃ rest, ts = ts.take j ++ tAt ts j :: rest := by
  refine ⟨ts.drop (j + 1), ?_⟩
  have e : tAt ts j = ts[j] := by simp [tAt, List.getElem?_eq_getElem h]
  rw [e, List.getElem_cons_drop, List.take_append_drop]
theorem take_snoc {ts : List TE} {j : Nat} (h : j < ts.length) : ts.take (j + 1) = ts.take j ++ [tAt ts j] := by
  have e : tAt ts j = ts[j] := by simp [tAt, List.getElem?_eq_getElem h]
  rw [e, List.take_succ_eq_append_getElem h]
section
variable (w : World)
theorem valo_any (a : Option Addr) (l cap : Nat) :
    Calls Try.prog 89 #[.slice a l cap] w fun r w' => ∃ B, r = .returned (.func (.func 125) #[] #[.pointer (some ⟨B, 0, none⟩)]) ∧ w.heap.size ≤ B ∧ B < w'.heap.size ∧ w'.cell? ⟨B, 0, none⟩ = some (.slice a l cap) ∧ Below w.heap.size w w' := by
  go_enter Try.func89, Try.ntmps89
  go_wp2
  go_ret
  exact ⟨w.heap.size, rfl, Nat.le_refl _, by simp, by rw [cNew _ _ _ _ _ rfl]; rfl, by (repeat (first | exact Below.refl _ _ | assumption | refine bchain (by assumption) ?_ | refine balloc ?_ _ | apply Below.drew | apply below_drewN | (refine Below.alloc ?_ (by (try simp) <;> omega) _) | (refine Below.setCell ?_ (by (try simp) <;> omega) _)))⟩
end
/-- what the iterator reads -/
def VInv (Bs : Nat) (a : Option Addr) (cap : Nat) (ts : List TE) (A : World) : Prop := A.cell? ⟨Bs, 0, none⟩ = some (.slice a ts.length cap) ∧ (0 < ts.length → ∃ b off, a = some ⟨b, off, none⟩ ∧ ∀ i, i < ts.length → TCell A b off (tAt ts i) i)
set_option maxHeartbeats 2000000 in
theorem vals_own (ts : List TE) (a : Option Addr) (cap : Nat) (hl : ts.length ≤ 64) (nn Bs : Nat) (w : World) :
    SeqOwn Fence.wide nn Try.prog 125 #[.pointer (some ⟨Bs, 0, none⟩)] (VInv Bs a cap ts) (fun (x : TE) v _ => v = .agg #[.int .i64 x.k, .int .i64 x.n, .int .u32 x.e, .int .i64 x.p, .int .i64 x.q]) ts w := fun l J W _ hJ hJi hY h0 => by
  have hj0 := h0 (fun _ => False) W (fun _ h => h.elim) (Below.refl _ _)
  obtain ⟨c0, _⟩ := hJi _ _ _ hj0
  obtain ⟨M, hM⟩ : ∃ M, ts.length = M := ⟨_, rfl⟩
  have hSp := Lib.hid (fun j (h : j < M) => take_split (ts := ts) (by rw [hM]; exact h))
  have hSn := Lib.hid (fun j (h : j < M) => take_snoc (ts := ts) (by rw [hM]; exact h))
  have hEnd := Lib.hid (show ts.take M = ts by rw [← hM]; exact List.take_length)
  have hJi2 := Lib.hid (fun Own s A (h : J Own s A) => (show A.cell? ⟨Bs, 0, none⟩ = some (.slice a M cap) ∧ (0 < M → ∃ b off, a = some ⟨b, off, none⟩ ∧ ∀ i, i < M → TCell A b off (tAt ts i) i) by have := hJi Own s A h; unfold VInv at this; rw [hM] at this; exact this))
  rw [hM] at c0 hl
  have hJa := Lib.hid (fun s A (o : Obj) (h : J (fun _ => False) s A) => hJ (fun _ => False) (fun _ h => h.elim) s A (A.alloc o) h (Chg.of_below (balloc (Below.refl _ _) o)))
  replace hj0 := Lib.hid hj0
  replace hY := Lib.hid hY
  clear h0 hJ hJi hM
  refine callsIn_of_wp Try.func125 rfl trivial ?_ rfl
  simp only [Try.ntmps125, List.size_toArray, List.length_cons, List.length_nil, Nat.reduceAdd, Nat.reduceSub, Array.replicate_succ, Array.replicate_zero, List.push_toArray, List.append_toArray, List.nil_append, List.cons_append]
  gi_wp2
  clear c0
  gi_loopw [4, 7] (fun _ i wr => ∃ j : Nat, j ≤ M ∧ i = .int .i64 j ∧ J (fun _ => False) (ts.take j) wr) (fun _ i _ => M - (intOf i).toNat)
  case atStart => exact ⟨0, by omega, rfl, by rw [List.take_zero]; exact hj0.out⟩
  case round =>
    obtain ⟨j, hj, rfl, hJj⟩ := hrel
    by_cases hlt : j < M
    · obtain ⟨rest, hL⟩ := hSp.out j hlt
      obtain ⟨c0, hg⟩ := hJi2.out _ _ _ hJj
      obtain ⟨b, off, hae, hg2⟩ := hg (by omega)
      subst hae
      have hgj := hg2 j hlt
      obtain ⟨g, hBk⟩ : ∃ g, tAt ts j = g := ⟨_, rfl⟩
      have hn := hSn.out j hlt
      rw [hBk] at hgj hL hn
      obtain ⟨y0, y1, y2, y3, y4⟩ := g
      obtain ⟨s0, s1, s2, s3, s4⟩ := hgj
      have hJ1 := hJa.out _ _ (.cells #[.int .i64 y0, .int .i64 y1, .int .u32 y2, .int .i64 y3, .int .i64 y4] 100) hJj
      obtain ⟨fn, tmps, assign, body, hy, hR⟩ := hY.out (fun _ => False) _ _ rest _ (wr.alloc (.cells #[.int .i64 y0, .int .i64 y1, .int .u32 y2, .int .i64 y3, .int .i64 y4] 100)) (fun _ h => h.elim) hL hJ1 rfl
      replace hR := Lib.hid hR
      replace hn := Lib.hid hn
      have hjl : (j : Int) < (M : Int) := by omega
      have hj1 : (0 : Int) ≤ (j : Int) := by omega
      clear hL hJj hJ1 hg hg2
      gi_wp2
      refine ⟨fun h => (by cases h), hR.out.mono ?_⟩
      rintro e w1 ⟨rfl, hJ2, hz1, hu1⟩
      rw [← hn.out] at hJ2
      clear c0 hy s0 s1 s2 s3 s4
      gi_wp2
      go_roundw
      case rel => exact ⟨j + 1, by omega, by go_num, hJ2⟩
      case measure => simp [intOf]; omega
    · obtain rfl : j = M := by omega
      have hdd := decide_eq_false (show ¬ ((j : Int) < (j : Int)) by omega)
      rw [hEnd.out] at hJj
      replace hJj := Lib.hid hJj
      gi_wp2
      go_end0
      exact ⟨⟨_, rfl⟩, _, fun _ h => h.elim, hJj.out⟩
end Go.Proofs.Ytpobonomdfbanaa
/-
  THE TERMS THAT A FUNCTION TAKES, out of those that an iterator yields: the program's 'kept'.
-/
namespace Go.Proofs.Ytpobonomdfbanaa
open Go.RowKit Go.Shelf
set_option maxRecDepth 100000
attribute [local go_sem] Oper.semAt_some

/-- what the values are -/
structure KeptTE (α : Type) where
  a : α → Int
  b : α → Int
  c : α → Int
  d : α → Int
  f : α → Int
def KeptTE.val {α : Type} (E : KeptTE α) (x : α) : Value := .agg #[.int .i64 (E.a x), .int .i64 (E.b x), .int .u32 (E.c x), .int .i64 (E.d x), .int .i64 (E.f x)]
/-- .. in a block -/
structure KeptTM (W : World) (B : Nat) (a b c d f : Int) : Prop where
  lt : B < W.heap.size
  c0 : W.cell? ⟨B, 0, none⟩ = some (.int .i64 a)
  c1 : W.cell? ⟨B, 1, none⟩ = some (.int .i64 b)
  c2 : W.cell? ⟨B, 2, none⟩ = some (.int .u32 c)
  c3 : W.cell? ⟨B, 3, none⟩ = some (.int .i64 d)
  c4 : W.cell? ⟨B, 4, none⟩ = some (.int .i64 f)
theorem KeptTM.block {W W' : World} {B : Nat} {a b c d f : Int} (h : KeptTM W B a b c d f) (hz : W.heap.size ≤ W'.heap.size) (hs : W'.heap[B]? = W.heap[B]?) : KeptTM W' B a b c d f :=
  ⟨Nat.lt_of_lt_of_le h.lt hz, (World.cell?_of_block (a := ⟨B, 0, none⟩) hs).trans h.c0, (World.cell?_of_block (a := ⟨B, 1, none⟩) hs).trans h.c1, (World.cell?_of_block (a := ⟨B, 2, none⟩) hs).trans h.c2, (World.cell?_of_block (a := ⟨B, 3, none⟩) hs).trans h.c3, (World.cell?_of_block (a := ⟨B, 4, none⟩) hs).trans h.c4⟩
theorem KeptTM.below {W W' : World} {B : Nat} {a b c d f : Int} (h : KeptTM W B a b c d f) (hb : Below W.heap.size W W') : KeptTM W' B a b c d f := h.block hb.size (hb.block _ h.lt)
theorem KeptTM.made (W : World) (a b c d f : Int) (t : TypeId) : KeptTM (W.alloc (.cells #[.int .i64 (a), .int .i64 (b), .int .u32 (c), .int .i64 (d), .int .i64 (f)] t)) W.heap.size a b c d f :=
  ⟨by simp, by rw [World.cell?_alloc_new]; rfl, by rw [World.cell?_alloc_new]; rfl, by rw [World.cell?_alloc_new]; rfl, by rw [World.cell?_alloc_new]; rfl, by rw [World.cell?_alloc_new]; rfl⟩
theorem KeptTM.cellular (B : Nat) (a b c d f : Int) : Cellular (fun W => KeptTM W B a b c d f) := fun A l o o' h hl ho =>
  ⟨by have := h.lt; simpa [World.putObj] using this, cellular_cell _ _ A l o o' h.c0 hl ho, cellular_cell _ _ A l o o' h.c1 hl ho, cellular_cell _ _ A l o o' h.c2 hl ho, cellular_cell _ _ A l o o' h.c3 hl ho, cellular_cell _ _ A l o o' h.c4 hl ho⟩
/-- the values that p takes, as cells -/
def KeptTC {α : Type} (E : KeptTE α) (p : α → Bool) (pre : List α) : List Value := (pre.filter p).flatMap fun x => [.int .i64 (E.a x), .int .i64 (E.b x), .int .u32 (E.c x), .int .i64 (E.d x), .int .i64 (E.f x)]
theorem KeptTC_t {α : Type} {E : KeptTE α} {p : α → Bool} {pre : List α} {x : α} (h : p x = true) : KeptTC E p (pre ++ [x]) = KeptTC E p pre ++ [.int .i64 (E.a x), .int .i64 (E.b x), .int .u32 (E.c x), .int .i64 (E.d x), .int .i64 (E.f x)] := by
  simp [KeptTC, List.filter_append, h]
theorem KeptTC_f {α : Type} {E : KeptTE α} {p : α → Bool} {pre : List α} {x : α} (h : p x = false) : KeptTC E p (pre ++ [x]) = KeptTC E p pre := by
  simp [KeptTC, List.filter_append, h]
theorem KeptT_t {α : Type} {p : α → Bool} {pre : List α} {x : α} (h : p x = true) : ((pre ++ [x]).filter p).length = (pre.filter p).length + 1 := by simp [List.filter_append, h]
theorem KeptT_f {α : Type} {p : α → Bool} {pre : List α} {x : α} (h : p x = false) : ((pre ++ [x]).filter p).length = (pre.filter p).length := by simp [List.filter_append, h]
theorem KeptT_len {α : Type} {L pre rest : List α} {x : α} (h : L = pre ++ x :: rest) (hl : L.length ≤ 2000) (p : α → Bool) : (pre.filter p).length ≤ 2000 := by
  rw [h] at hl
  have h2 := List.length_filter_le p pre
  simp at hl
  omega
/-- what the loop of 'kept' keeps -/
structure KeptTI {α : Type} (w : World) (G : Nat) (E : KeptTE α) (p : α → Bool) (fv : Value) (Own : Nat → Prop) (pre : List α) (W : World) : Prop where
  below : Below G w W
  lt : G + 1 < W.heap.size
  f : W.cell? ⟨G, 0, none⟩ = some fv
  fz : W.frozen? ⟨G + 1, 0, none⟩ = false
  l : ∃ u, W.cell? ⟨G + 1, 0, none⟩ = some u ∧ W.ownsRow (G + 2) 100 5 u (pre.filter p).length (KeptTC E p pre) ∧ ∀ b, Value.ownBlock u = some b → ¬ Own b
theorem KeptTI.chg {α : Type} {w : World} {G : Nat} {E : KeptTE α} {p : α → Bool} {fv : Value} {Own : Nat → Prop} (ho : ∀ b, Own b → G + 2 ≤ b) {pre : List α} {A A' : World} (h : KeptTI w G E p fv Own pre A) (hc : Chg Own A A') : KeptTI w G E p fv Own pre A' := by
  have hlt := h.lt
  have h0 := hc.same G (by omega) (fun c => by have := ho _ c; omega)
  have h1 := hc.same (G + 1) hlt (fun c => by have := ho _ c; omega)
  refine ⟨?_, Nat.lt_of_lt_of_le h.lt hc.size, (World.cell?_of_block (a := ⟨G, 0, none⟩) h0).trans h.f, (World.frozen?_of_block (a := ⟨G + 1, 0, none⟩) h1).trans h.fz, ?_⟩
  · exact ⟨hc.os.trans h.below.os, hc.tape.trans h.below.tape, hc.output.trans h.below.output, Nat.le_trans h.below.size hc.size, fun q hq => (hc.same q (by omega) (fun c => by have := ho _ c; omega)).trans (h.below.block q hq)⟩
  · obtain ⟨u, e1, e2, e3⟩ := h.l
    refine ⟨u, (World.cell?_of_block (a := ⟨G + 1, 0, none⟩) h1).trans e1, ⟨e2.1, ?_⟩, e3⟩
    rcases e2.2 with hn | ⟨g, cap, cur, rfl, a1, a2, a3⟩
    · exact .inl hn
    · exact .inr ⟨g, cap, cur, rfl, a1, (hc.same g (Array.getElem?_eq_some_iff.1 a2).1 (e3 g rfl)).trans a2, a3⟩
theorem KeptT_info : (Try.prog.info? 100).map (fun i => (i.zero, i.size, i.bytes)) = some (some (.agg #[.int .i64 0, .int .i64 0, .int .u32 0, .int .i64 0, .int .i64 0]), 5, 40) := by kernel_rfl
section
variable (w : World)
set_option maxHeartbeats 4000000 in
theorem KeptT_any {α : Type} (E : KeptTE α) (gf : FuncId) (lb : Array Value) (Inv : World → Prop) (L : List α) (hlen : L.length ≤ 2000) (egf : ∀ args w, (callFunc gf args).run Try.prog w = .ok (.enter gf args) w)
    (hseq : ∀ n W, Below w.heap.size w W → SeqOwn Fence.wide n Try.prog gf lb Inv (fun x v _ => v = .agg #[.int .i64 (E.a x), .int .i64 (E.b x), .int .u32 (E.c x), .int .i64 (E.d x), .int .i64 (E.f x)]) L W) (hInv : ∀ A, Below w.heap.size w A → Inv A)
    (PF : FuncId) (caps : Array Value) (eg : ∀ args w, (callFunc PF args).run Try.prog w = .ok (.enter PF args) w) (p : α → Bool)
    (hPF : ∀ W x, x ∈ L → Below w.heap.size w W → Calls Try.prog PF (#[.agg #[.int .i64 (E.a x), .int .i64 (E.b x), .int .u32 (E.c x), .int .i64 (E.d x), .int .i64 (E.f x)]] ++ caps) W fun r w' => r = .returned (.bool (p x)) ∧ Below W.heap.size W w') :
    Calls Try.prog 88 #[.func (.func gf) #[] lb, .func (.func PF) #[] caps] w fun r w' =>
      (∃ u, r = .returned u ∧ w'.ownsRow w.heap.size 100 5 u (L.filter p).length (KeptTC E p L)) ∧ Below w.heap.size w w' := by
  obtain ⟨i0, hi, hz0, hz1, hz2⟩ := info_parts KeptT_info
  replace hi := Lib.hid hi
  replace hz0 := Lib.hid hz0
  replace hz1 := Lib.hid hz1
  replace hz2 := Lib.hid hz2
  replace hInv := Lib.hid hInv
  replace hseq := Lib.hid hseq
  replace hPF := Lib.hid hPF
  replace hlen := Lib.hid hlen
  refine (callsIn_wide (n := 5)).1 ?_
  refine callsIn_of_wp_marks Try.func88 rfl trivial ?_ rfl
  simp only [Try.ntmps88, List.size_toArray, List.length_cons, List.length_nil, Nat.reduceAdd, Nat.reduceSub, Array.replicate_succ, Array.replicate_zero, List.push_toArray, List.append_toArray, List.nil_append, List.cons_append]
  gi_wp2
  obtain ⟨wL, hwL⟩ : ∃ wL, wL = (w.alloc (.cells #[.func (.func PF) #[] caps] 114)).alloc (.cells #[.slice none 0 0] 48) := ⟨_, rfl⟩
  have s1 : ∀ (W : World) (o : Obj), (W.alloc o).heap.size = W.heap.size + 1 := fun W o => by simp
  have hLz : wL.heap.size = w.heap.size + 2 := by rw [hwL, s1, s1]
  have hBL : Below w.heap.size w wL := by rw [hwL]; (repeat (first | exact Below.refl _ _ | assumption | refine bchain (by assumption) ?_ | refine balloc ?_ _ | apply Below.drew | apply below_drewN | (refine Below.alloc ?_ (by (try simp) <;> omega) _) | (refine Below.setCell ?_ (by (try simp) <;> omega) _)))
  have hKI : ∀ Own : Nat → Prop, KeptTI w w.heap.size E p (.func (.func PF) #[] caps) Own [] wL := fun Own => by
    refine ⟨hBL, by omega, ?_, ?_, .slice none 0 0, ?_, ⟨by simp [KeptTC], .inl ⟨rfl, rfl⟩⟩, fun b hb => by cases hb⟩
    · rw [hwL, cOld _ _ _ _ (by rw [s1]; omega), cNew _ _ _ _ _ rfl]; rfl
    · rw [hwL, fNew _ _ _ _ _ (by rw [s1])]
    · rw [hwL, cNew _ _ _ _ _ (by rw [s1])]; rfl
  have hseqL := Lib.hid (hseq.out 4 wL hBL)
  rw [← hwL]
  obtain ⟨G, hG⟩ : ∃ G, w.heap.size = G := ⟨_, rfl⟩
  rw [hG] at hKI hLz hBL ⊢
  clear hwL s1
  refine wpIn_range_own rfl (by omega) (gf := gf) (lb := lb) rfl trivial egf
    hseqL.out (Below.refl _ _) rfl (fun _ _ _ _ h _ => h) (fun _ _ _ _ _ _ h _ _ => h)
    (fun Own pre W => KeptTI w G E p (.func (.func PF) #[] caps) Own pre W)
    (fun Own s A hs => hInv.out A (by rw [hG]; exact hs.below))
    (fun Own ho s A A' hs hc => hs.chg (fun b hb => by have := ho b hb; omega) hc)
    (fun Own A ho hA => (hKI Own).chg (fun b hb => by have := ho b hb; omega) (Chg.of_below hA))
    (fun v a' W => ∃ (Gb : Nat) (a b c d f : Int), v = .agg #[.int .i64 (a), .int .i64 (b), .int .u32 (c), .int .i64 (d), .int .i64 (f)] ∧ KeptTM W Gb a b c d f ∧ a' = { tmps := #[.func (.func gf) #[] lb, .func (.func PF) #[] caps, undef, .pointer (some ⟨G, 0, none⟩), .slice none 0 0, .pointer (some ⟨G + 1, 0, none⟩), .pointer (some ⟨Gb, 0, none⟩), .func (.func gf) #[] lb, v, undef, undef, undef, undef, undef, undef, undef, undef], defers := [] })
    (fun v a' A l o o' h hl ho => by obtain ⟨Gb, a, b, c, d, f, h1, h2, h3⟩ := h; exact ⟨Gb, a, b, c, d, f, h1, KeptTM.cellular Gb a b c d f A l o o' h2 hl ho, h3⟩) ?assign ?body ?done
  case assign =>
    intro l x v W K hv hK
    obtain rfl : v = _ := hv
    gi_wp2
    exact hK _ _ ((Below.refl _ _).alloc (Nat.le_refl _) _) ⟨W.heap.size, E.a x, E.b x, E.c x, E.d x, E.f x, rfl, KeptTM.made W _ _ _ _ _ _, rfl⟩
  case body =>
    clear hKI
    rintro l Own pre x rest v a' W ho hL hI hS ⟨Gb, a, b, c, d, f, hv, hFG, rfl⟩
    have hy : E.a x = a ∧ E.b x = b ∧ E.c x = c ∧ E.d x = d ∧ E.f x = f := by
      have hS' : v = _ := hS
      rw [hv] at hS'
      simp at hS'
      omega
    have hP := Lib.hid (fun W' (hb : Below W.heap.size W W') => hPF.out W' x (by rw [hL]; simp) (by rw [hG]; exact hI.below.trans (hb.mono (by have := hI.lt; omega))))
    have hpl := KeptT_len hL hlen.out p
    obtain ⟨i1, i2, i3, i4, _⟩ := id hI
    obtain ⟨g0, g1, g2, g3, g4, g5⟩ := id hFG
    have hL2 : 2 ≤ wL.heap.size := by omega
    obtain ⟨y0, y1, y2, y3, y4⟩ := hy
    rw [y0, y1, y2, y3, y4] at hP
    cases hb : p x
    · rw [hb] at hP
      have e1 := KeptT_f (pre := pre) hb
      have e2 := KeptTC_f (E := E) (pre := pre) hb
      have hfin : ∀ W3, Below W.heap.size W W3 → W.heap.size ≤ W3.heap.size ∧ (∀ b, Own b → W3.heap[b]? = W.heap[b]?) ∧ KeptTI w G E p (.func (.func PF) #[] caps) Own (pre ++ [x]) W3 := fun W3 h3 => by
        refine ⟨h3.size, fun b hb => h3.block b (ho b hb).2, ?_⟩
        have hc := hI.chg (fun b hb => by have := (ho b hb).1; omega) (Chg.of_below h3)
        obtain ⟨j1, j2, j3, j4, j5⟩ := hc
        exact ⟨j1, j2, j3, j4, by rw [e1, e2]; exact j5⟩
      replace hfin := Lib.hid hfin
      clear hI hFG hL hS hv e1 e2 hb hpl y0 y1 y2 y3 y4
      gi_wp2
      refine ⟨trivial, (CallsIn.inRound l (callsIn_wide.2 (hP.out W (Below.refl _ _)))).mono ?_⟩
      rintro r3 w3 ⟨rfl, hb3⟩
      gi_wp2
      exact hfin.out w3 hb3
    · rw [hb] at hP
      have e1 := KeptT_t (pre := pre) hb
      have e2 := KeptTC_t (E := E) (pre := pre) hb
      rw [y0, y1, y2, y3, y4] at e2
      have hog : ∀ b, Own b → G + 2 ≤ b := fun b hb => by have := (ho b hb).1; omega
      have hnx := fun W3 (h3 : Below W.heap.size W W3) => hI.chg hog (Chg.of_below h3)
      replace hnx := Lib.hid hnx
      replace e1 := Lib.hid e1
      replace e2 := Lib.hid e2
      clear hI hL hS hv hb y0 y1 y2 y3 y4
      gi_wp2
      refine ⟨trivial, (CallsIn.inRound l (callsIn_wide.2 (hP.out W (Below.refl _ _)))).mono ?_⟩
      rintro r3 w3 ⟨rfl, hb3⟩
      obtain ⟨_, k0, k1, k2, k3, k4⟩ := hFG.below hb3
      obtain ⟨j1, j2, j3, j4, u, j5, j6, j7⟩ := hnx.out w3 hb3
      replace j6 := Lib.hid j6
      have hsz3 := hb3.size
      have hnb : ∀ q, q < G + 2 → some q ≠ Value.ownBlock u := fun q hq c => by
        have := (j6.out.lt q c.symm).1
        omega
      replace hnb := Lib.hid hnb
      replace j7 := Lib.hid j7
      clear i1 i3 i4 g0 g1 g2 g3 g4 g5 hFG
      gi_wp2_with (gi_at_builtin; refine wpListIn_append_own_at _ rfl _ _ 48 rfl (G + 2) 100 i0 (.agg #[.int .i64 0, .int .i64 0, .int .u32 0, .int .i64 0, .int .i64 0]) 5 40 Try.underlying48 hi.out hz0.out hz1.out hz2.out rfl (by decide) _ _ _ rfl (j6.out.alloc _) ⟨w3.heap.size, 0, none⟩ 1 1 [.int .i64 (a), .int .i64 (b), .int .u32 (c), .int .i64 (d), .int .i64 (f)] rfl rfl (fun q u hq => by match q, hq with
        | 0, hq => simp at hq; subst hq; rw [show (⟨w3.heap.size, 0, none⟩ : Addr).add 0 = ⟨w3.heap.size, 0, none⟩ from rfl, World.cell?_alloc_new]; rfl
        | 1, hq => simp at hq; subst hq; rw [show (⟨w3.heap.size, 0, none⟩ : Addr).add 1 = ⟨w3.heap.size, 1, none⟩ from rfl, World.cell?_alloc_new]; rfl
        | 2, hq => simp at hq; subst hq; rw [show (⟨w3.heap.size, 0, none⟩ : Addr).add 2 = ⟨w3.heap.size, 2, none⟩ from rfl, World.cell?_alloc_new]; rfl
        | 3, hq => simp at hq; subst hq; rw [show (⟨w3.heap.size, 0, none⟩ : Addr).add 3 = ⟨w3.heap.size, 3, none⟩ from rfl, World.cell?_alloc_new]; rfl
        | 4, hq => simp at hq; subst hq; rw [show (⟨w3.heap.size, 0, none⟩ : Addr).add 4 = ⟨w3.heap.size, 4, none⟩ from rfl, World.cell?_alloc_new]; rfl
        | q + 5, hq => simp at hq) (fun u hu => by simp at hu; rcases hu with rfl | rfl | rfl | rfl | rfl <;> rfl) (by unfold maxLen; omega) (by omega) (by simp; omega) ?_; intro v' w4 hown' hgrow _ hat; obtain ⟨g, cap, rfl⟩ := Go.Joins.ownsRow_form hown' (by omega); have c1 := hgrow.cell (a := ⟨G + 1, 0, none⟩) ((cOld _ _ _ _ j2).trans j5) (hnb.out (G + 1) (by omega)); have c2 : w4.frozen? ⟨G + 1, 0, none⟩ = false := (World.frozen?_of_block (a := ⟨G + 1, 0, none⟩) (hgrow.block (G + 1) (by rw [World.size_alloc]; omega) (hnb.out (G + 1) (by omega)))).trans ((fOld _ _ _ _ j2).trans j4))
      have hbg : ∀ q, Value.ownBlock u = some q → G + 2 ≤ q := fun q hq => (j6.out.lt q hq).1
      have hz4 := hgrow.size
      rw [World.size_alloc] at hz4
      refine ⟨by show W.heap.size ≤ (World.setCell _ _ _).heap.size; simp; omega, fun b hb => ?_, ?_⟩
      · obtain ⟨b1, b2⟩ := ho b hb
        refine (Below.heap_setCell _ _ _ _ (by show b ≠ G + 1; omega)).trans ((hgrow.block b (by rw [World.size_alloc]; omega) (fun c => j7.out b c.symm hb)).trans ((Below.heap_alloc _ _ _ (by omega)).trans (hb3.block b b2)))
      · refine ⟨?_, by simp; omega, ?_, by rw [World.frozen?_setCell]; exact c2, _, World.cell?_setCell_same _ _ _ c1, ?_, fun b hb => ?_⟩
        · exact ((j1.alloc (by omega) _).grown hgrow (by rw [World.size_alloc]; omega) (fun q hq => by have := hbg q hq; omega)).setCell (p := ⟨G + 1, 0, none⟩) (by show G ≤ G + 1; omega) _
        · rw [World.cell?_setCell_other _ _ _ _ (by simp)]
          exact hgrow.cell (a := ⟨G, 0, none⟩) ((cOld _ _ _ _ (by omega)).trans j3) (hnb.out G (by omega))
        · rw [e1.out, e2.out]
          exact ownsRow_setCell_below hown' (by show G + 1 < G + 2; omega) _
        · intro hO
          obtain ⟨b1, b2⟩ := ho b hO
          rcases hat with hat | hat
          · exact j7.out b (hat.symm.trans hb) hO
          · rw [hat] at hb
            injection hb with hb
            rw [World.size_alloc] at hb
            omega
  case done =>
    rintro D Own W hD hI hK hOD
    obtain ⟨i1, i2, i3, i4, u, i5, i6, i7⟩ := hI
    have hne : Value.ownBlock u ≠ some D := fun c => i7 D c hOD
    obtain ⟨W5, hW5⟩ : ∃ W5, W5 = W.putObj D (.deferred none) := ⟨_, rfl⟩
    have hrow' : W5.ownsRow (G + 2) 100 5 u (L.filter p).length (KeptTC E p L) := by
      refine ⟨i6.1, ?_⟩
      rcases i6.2 with hn | ⟨g, cap, cur, rfl, a1, a2, a3⟩
      · exact .inl hn
      · refine .inr ⟨g, cap, cur, rfl, a1, ?_, a3⟩
        rw [hW5, World.putObj_heap_other (fun c => hne (by rw [← c]; rfl))]
        exact a2
    have hbe : Below G w W5 := by rw [hW5]; exact i1.trans (below_putObj _ _ _ (by omega))
    replace hrow' := Lib.hid hrow'
    replace hbe := Lib.hid hbe
    clear i6 i7 hne
    gi_wp2
    refine ⟨by simp, .inl ⟨_, _, rfl, run_takeDeferred hK, ?_⟩⟩
    rw [← hW5]
    refine ⟨u, by simp [results, Try.results88, go_sem], ⟨u, rfl, ?_⟩, by rw [hG]; exact hbe.out⟩
    rw [hG]
    exact Go.Joins.ownsRow_le hrow'.out (by omega)
end
end Go.Proofs.Ytpobonomdfbanaa
/-
  WithoutForbidden: the program's contract.
-/
namespace Go.Proofs.Ytpobonomdfbanaa
open Go.RowKit Go.Shelf
set_option maxRecDepth 100000
/-- is a term's graph free -/
def frT (gs : List (Int × Int)) (g : TE) : Bool := freeB g.n.toNat g.e.toNat gs
def teE : KeptTE TE := ⟨TE.k, TE.n, TE.e, TE.p, TE.q⟩
theorem kt_cells (p : TE → Bool) (ts : List TE) : KeptTC teE p ts = tsC (ts.filter p) := rfl
section
variable (w : World)
set_option maxHeartbeats 1000000 in
theorem wfc_any (k : Int) (n e : Nat) (p q : Int) (Ba : Nat) (h : VG n e) (a : Option Addr) (cap : Nat) (gs : List (Int × Int)) (hm : gs.length ≤ 1048576) (hc : Lies w a gs) (hV : AllV gs) (hBa : Ba < w.heap.size) (hA : w.cell? ⟨Ba, 0, none⟩ = some (.slice a gs.length cap)) :
    Calls Try.prog 90 #[.agg #[.int .i64 k, .int .i64 n, .int .u32 e, .int .i64 p, .int .i64 q], .pointer (some ⟨Ba, 0, none⟩)] w fun r w' => r = .returned (.bool (freeB n e gs)) ∧ Below w.heap.size w w' := by
  have hC := Lib.hid (fun W (hW : Below w.heap.size w W) => ifree_any W n e h a cap gs hm (hc.below hW) hV)
  obtain ⟨b, hb⟩ : ∃ b, freeB n e gs = b := ⟨_, rfl⟩
  obtain ⟨l, hl⟩ : ∃ l, gs.length = l := ⟨_, rfl⟩
  rw [hb, hl] at hC
  rw [hb]
  rw [hl] at hA
  clear hb hl hm hV hc
  go_enter Try.func90, Try.ntmps90
  go_wp2_with fail
  refine (hC.out _ (by (repeat (first | exact Below.refl _ _ | assumption | refine bchain (by assumption) ?_ | refine balloc ?_ _ | apply Below.drew | apply below_drewN | (refine Below.alloc ?_ (by (try simp) <;> omega) _) | (refine Below.setCell ?_ (by (try simp) <;> omega) _))))).mono ?_
  rintro r1 w1 ⟨rfl, hb1⟩
  go_wp2
  go_ret
  exact ⟨rfl, by (repeat (first | exact Below.refl _ _ | assumption | refine bchain (by assumption) ?_ | refine balloc ?_ _ | apply Below.drew | apply below_drewN | (refine Below.alloc ?_ (by (try simp) <;> omega) _) | (refine Below.setCell ?_ (by (try simp) <;> omega) _)))⟩
theorem iwf_sum (X : SM) (u : Value) (hS : SlT w u X.ts) (hbd : BdS X) (hv : ¬ VSum X) (b : Option Addr) (c d : Nat) :
    Calls Try.prog 41 #[.agg #[.int .i64 X.n, .int .u32 X.e, .int .i64 X.s, u], .slice b c d] w (RetS w ⟨0, 0, 0, []⟩ 1) := by
  have hV := Lib.hid (fun W (hb : Below w.heap.size w W) => ivs_any W X u (hS.below hb) hbd false ⟨fun c => (by cases c), fun c => absurd c hv⟩)
  obtain ⟨a, cap, rfl, _⟩ := id hS
  obtain ⟨l, hl⟩ : ∃ l, X.ts.length = l := ⟨_, rfl⟩
  rw [hl] at hV ⊢
  clear hl hS hbd hv
  obtain ⟨W0, hW0⟩ : ∃ W0, W0 = ((w.alloc (.cells #[.int .i64 X.n, .int .u32 X.e, .int .i64 X.s, .slice a l cap] 50)).alloc (.cells #[.slice b c d] 36)).alloc (.cells #[.int .i64 0, .int .u32 0, .int .i64 0, .slice none 0 0] 50) := ⟨_, rfl⟩
  have hb0 : Below w.heap.size w W0 := by rw [hW0]; (repeat (first | exact Below.refl _ _ | assumption | refine bchain (by assumption) ?_ | refine balloc ?_ _ | apply Below.drew | apply below_drewN | (refine Below.alloc ?_ (by (try simp) <;> omega) _) | (refine Below.setCell ?_ (by (try simp) <;> omega) _)))
  have sz : ∀ (W : World) (o : Obj), (W.alloc o).heap.size = W.heap.size + 1 := fun W o => by simp
  have k0 : SB W0 w.heap.size X.n X.e X.s (.slice a l cap) := by rw [hW0]; exact ((SB.made _ _ _ _ _ _).below (balloc (Below.refl _ _) _)).below (balloc (Below.refl _ _) _)
  have g0 : W0.cell? ⟨w.heap.size + 1, 0, none⟩ = some (.slice b c d) := by rw [hW0, cOld _ _ _ _ (by simp), cNew _ _ _ _ _ (by simp)]; rfl
  have r0 : SB W0 (w.heap.size + 1 + 1) 0 0 0 (.slice none 0 0) := by rw [hW0, ← sz w (.cells #[.int .i64 X.n, .int .u32 X.e, .int .i64 X.s, .slice a l cap] 50), ← sz _ (.cells #[.slice b c d] 36)]; exact SB.made _ _ _ _ _ _
  replace hW0 := Lib.hid hW0
  clear sz
  obtain ⟨_, x0, x1, x2, x3, _⟩ := id k0
  go_enter Try.func41, Try.ntmps41
  go_wp2_with fail
  rw [← hW0.out]
  go_wp2_with fail
  refine (hV.out _ hb0).mono ?_
  rintro r1 w1 ⟨rfl, hb1⟩
  have g1 := (hb1.cell (p := ⟨w.heap.size + 1, 0, none⟩) (by have := r0.lt; show w.heap.size + 1 < _; omega)).trans g0
  replace k0 := k0.below hb1
  replace r0 := r0.below hb1
  replace hb0 := bchain hb1 hb0
  clear hb1 x0 x1 x2 x3 g0
  have hsb := r0
  have hbw := hb0
  obtain ⟨_, d0, d1, d2, d3, fR⟩ := id hsb
  go_wp2
  have hF := hsb.all (0) (0) (0) (.slice none 0 0)
  have hBB := ((((hbw.setCell (p := ⟨w.heap.size + 1 + 1, 0, none⟩) (by show w.heap.size ≤ w.heap.size + 1 + 1; omega) (.int .i64 (0))).setCell (p := ⟨w.heap.size + 1 + 1, 1, none⟩) (by show w.heap.size ≤ w.heap.size + 1 + 1; omega) (.int .u32 (0))).setCell (p := ⟨w.heap.size + 1 + 1, 2, none⟩) (by show w.heap.size ≤ w.heap.size + 1 + 1; omega) (.int .i64 (0))).setCell (p := ⟨w.heap.size + 1 + 1, 3, none⟩) (by show w.heap.size ≤ w.heap.size + 1 + 1; omega) (.slice none 0 0))
  obtain ⟨WW, hWW⟩ : ∃ WW, WW = ((((w1.setCell ⟨w.heap.size + 1 + 1, 0, none⟩ (.int .i64 (0))).setCell ⟨w.heap.size + 1 + 1, 1, none⟩ (.int .u32 (0))).setCell ⟨w.heap.size + 1 + 1, 2, none⟩ (.int .i64 (0))).setCell ⟨w.heap.size + 1 + 1, 3, none⟩ (.slice none 0 0)) := ⟨_, rfl⟩
  rw [← hWW] at hF hBB ⊢
  clear hWW
  obtain ⟨_, hF0, hF1, hF2, hF3, _⟩ := hF
  exact bodyPost_ret (v := .tuple #[.agg #[.int .i64 (0), .int .u32 (0), .int .i64 (0), .slice none 0 0], .int .i64 1]) (by simp [results, Try.results41, go_sem, hF0, hF1, hF2, hF3]) rfl ⟨⟨_, rfl, ownT_nil⟩, hBB⟩
theorem iwf_code (X : SM) (u : Value) (hS : SlT w u X.ts) (hbd : BdS X) (hv : VSum X) (b : Option Addr) (c d : Nat) (q : Int) (hq : q ≠ 0) (hF : ∀ W, Below w.heap.size w W → Calls Try.prog 57 #[.slice b c d] W fun r w' => r = .returned (.int .i64 q) ∧ Below W.heap.size W w') :
    Calls Try.prog 41 #[.agg #[.int .i64 X.n, .int .u32 X.e, .int .i64 X.s, u], .slice b c d] w (RetS w ⟨0, 0, 0, []⟩ q) := by
  have hV := Lib.hid (fun W (hb : Below w.heap.size w W) => ivs_any W X u (hS.below hb) hbd true ⟨fun _ => hv, fun _ => rfl⟩)
  replace hF := Lib.hid hF
  have hne : (q == 0) = false := by simpa using hq
  obtain ⟨a, cap, rfl, _⟩ := id hS
  obtain ⟨l, hl⟩ : ∃ l, X.ts.length = l := ⟨_, rfl⟩
  rw [hl] at hV ⊢
  clear hl hS hbd hv hq
  obtain ⟨W0, hW0⟩ : ∃ W0, W0 = ((w.alloc (.cells #[.int .i64 X.n, .int .u32 X.e, .int .i64 X.s, .slice a l cap] 50)).alloc (.cells #[.slice b c d] 36)).alloc (.cells #[.int .i64 0, .int .u32 0, .int .i64 0, .slice none 0 0] 50) := ⟨_, rfl⟩
  have hb0 : Below w.heap.size w W0 := by rw [hW0]; (repeat (first | exact Below.refl _ _ | assumption | refine bchain (by assumption) ?_ | refine balloc ?_ _ | apply Below.drew | apply below_drewN | (refine Below.alloc ?_ (by (try simp) <;> omega) _) | (refine Below.setCell ?_ (by (try simp) <;> omega) _)))
  have sz : ∀ (W : World) (o : Obj), (W.alloc o).heap.size = W.heap.size + 1 := fun W o => by simp
  have k0 : SB W0 w.heap.size X.n X.e X.s (.slice a l cap) := by rw [hW0]; exact ((SB.made _ _ _ _ _ _).below (balloc (Below.refl _ _) _)).below (balloc (Below.refl _ _) _)
  have g0 : W0.cell? ⟨w.heap.size + 1, 0, none⟩ = some (.slice b c d) := by rw [hW0, cOld _ _ _ _ (by simp), cNew _ _ _ _ _ (by simp)]; rfl
  have r0 : SB W0 (w.heap.size + 1 + 1) 0 0 0 (.slice none 0 0) := by rw [hW0, ← sz w (.cells #[.int .i64 X.n, .int .u32 X.e, .int .i64 X.s, .slice a l cap] 50), ← sz _ (.cells #[.slice b c d] 36)]; exact SB.made _ _ _ _ _ _
  replace hW0 := Lib.hid hW0
  clear sz
  obtain ⟨_, x0, x1, x2, x3, _⟩ := id k0
  go_enter Try.func41, Try.ntmps41
  go_wp2_with fail
  rw [← hW0.out]
  go_wp2_with fail
  refine (hV.out _ hb0).mono ?_
  rintro r1 w1 ⟨rfl, hb1⟩
  have g1 := (hb1.cell (p := ⟨w.heap.size + 1, 0, none⟩) (by have := r0.lt; show w.heap.size + 1 < _; omega)).trans g0
  replace k0 := k0.below hb1
  replace r0 := r0.below hb1
  replace hb0 := bchain hb1 hb0
  clear hb1 x0 x1 x2 x3 g0
  go_wp2_with fail
  refine (hF.out _ hb0).mono ?_
  rintro r2 w2 ⟨rfl, hb2⟩
  have hsb := r0.below hb2
  have hbw := bchain hb2 hb0
  obtain ⟨_, d0, d1, d2, d3, fR⟩ := id hsb
  clear g1 hb2
  go_wp2
  have hF := hsb.all (0) (0) (0) (.slice none 0 0)
  have hBB := ((((hbw.setCell (p := ⟨w.heap.size + 1 + 1, 0, none⟩) (by show w.heap.size ≤ w.heap.size + 1 + 1; omega) (.int .i64 (0))).setCell (p := ⟨w.heap.size + 1 + 1, 1, none⟩) (by show w.heap.size ≤ w.heap.size + 1 + 1; omega) (.int .u32 (0))).setCell (p := ⟨w.heap.size + 1 + 1, 2, none⟩) (by show w.heap.size ≤ w.heap.size + 1 + 1; omega) (.int .i64 (0))).setCell (p := ⟨w.heap.size + 1 + 1, 3, none⟩) (by show w.heap.size ≤ w.heap.size + 1 + 1; omega) (.slice none 0 0))
  obtain ⟨WW, hWW⟩ : ∃ WW, WW = ((((w2.setCell ⟨w.heap.size + 1 + 1, 0, none⟩ (.int .i64 (0))).setCell ⟨w.heap.size + 1 + 1, 1, none⟩ (.int .u32 (0))).setCell ⟨w.heap.size + 1 + 1, 2, none⟩ (.int .i64 (0))).setCell ⟨w.heap.size + 1 + 1, 3, none⟩ (.slice none 0 0)) := ⟨_, rfl⟩
  rw [← hWW] at hF hBB ⊢
  clear hWW
  obtain ⟨_, hF0, hF1, hF2, hF3, _⟩ := hF
  exact bodyPost_ret (v := .tuple #[.agg #[.int .i64 (0), .int .u32 (0), .int .i64 (0), .slice none 0 0], .int .i64 q]) (by simp [results, Try.results41, go_sem, hF0, hF1, hF2, hF3]) rfl ⟨⟨_, rfl, ownT_nil⟩, hBB⟩
set_option maxHeartbeats 4000000 in
theorem iwf_ok (X : SM) (u : Value) (hS : SlT w u X.ts) (hbd : BdS X) (hv : VSum X) (v : Value) (gs : List (Int × Int)) (hG : SlG w v gs) (hm : gs.length ≤ 1048576) (hbg : Bd gs) (hAV : AllV gs) (h6 : gs.length ≤ 6) :
    Calls Try.prog 41 #[.agg #[.int .i64 X.n, .int .u32 X.e, .int .i64 X.s, u], v] w (RetS w ⟨X.n, X.e, X.s, X.ts.filter (frT gs)⟩ 0) := by
  obtain ⟨b, d, rfl, hc⟩ := hG.lies
  have hV := Lib.hid (fun W (hb : Below w.heap.size w W) => ivs_any W X u (hS.below hb) hbd true ⟨fun _ => hv, fun _ => rfl⟩)
  have hF := Lib.hid (fun W (hW : Below w.heap.size w W) => cf_ok W b d gs hm (hc.below hW) hbg hAV h6)
  obtain ⟨a, cap, rfl, h1, h2, h3⟩ := id hS
  have hK := Lib.hid (fun (W : World) (Bs Ba : Nat) (hW : Below w.heap.size w W) (hBs : Bs < W.heap.size) (c0 : W.cell? ⟨Bs, 0, none⟩ = some (.slice a X.ts.length cap)) (hBa : Ba < W.heap.size) (hA : W.cell? ⟨Ba, 0, none⟩ = some (.slice b gs.length d)) =>
    KeptT_any W teE 125 #[.pointer (some ⟨Bs, 0, none⟩)] (VInv Bs a cap X.ts) X.ts (by have := hv.2.2.1; omega) (enters_of Try.func125 (by kernel_rfl) rfl)
      (fun nn W' hW' => vals_own X.ts a cap hv.2.2.1 nn Bs W')
      (fun A hA' => ⟨(hA'.cell (p := ⟨Bs, 0, none⟩) hBs).trans c0, fun hl => by
        obtain ⟨bb, off, e1, e2, e3⟩ := h3 (List.length_pos_iff.1 hl)
        have hq : Below w.heap.size w A := hW.trans (hA'.mono hW.size)
        exact ⟨bb, off, e1, fun i hi => ⟨(hq.cell (p := ⟨bb, _, none⟩) e2).trans (e3 i hi).1, (hq.cell (p := ⟨bb, _, none⟩) e2).trans (e3 i hi).2.1, (hq.cell (p := ⟨bb, _, none⟩) e2).trans (e3 i hi).2.2.1, (hq.cell (p := ⟨bb, _, none⟩) e2).trans (e3 i hi).2.2.2.1, (hq.cell (p := ⟨bb, _, none⟩) e2).trans (e3 i hi).2.2.2.2⟩⟩⟩)
      90 #[.pointer (some ⟨Ba, 0, none⟩)] (enters_of Try.func90 (by kernel_rfl) rfl) (frT gs)
      (fun W' x hx hb => by
        obtain ⟨i, hi, rfl⟩ := List.getElem_of_mem hx
        have hok := hv.2.2.2 i hi
        have e : tAt X.ts i = X.ts[i] := by simp [tAt, List.getElem?_eq_getElem hi]
        unfold TOk at hok
        rw [e] at hok
        obtain ⟨n', e', hn, he⟩ : ∃ n' e' : Nat, X.ts[i].n = n' ∧ X.ts[i].e = e' := ⟨X.ts[i].n.toNat, X.ts[i].e.toNat, by have := hok.1.1.1; omega, by have := (hbd.2.2 i hi).1; rw [e] at this; omega⟩
        have := wfc_any W' X.ts[i].k n' e' X.ts[i].p X.ts[i].q Ba (by rw [← hn, ← he]; exact hok.1.1) b d gs hm (hc.below (hW.trans (hb.mono hW.size))) hAV (by have := hb.size; omega) ((hb.cell (p := ⟨Ba, 0, none⟩) hBa).trans hA)
        unfold frT teE
        dsimp only
        rw [hn, he]
        exact this))
  obtain ⟨T, hT⟩ : ∃ T, X.ts.filter (frT gs) = T := ⟨_, rfl⟩
  simp only [kt_cells, hT] at hK
  rw [hT]
  obtain ⟨l, hl⟩ : ∃ l, X.ts.length = l := ⟨_, rfl⟩
  obtain ⟨c, hcl⟩ : ∃ c, gs.length = c := ⟨_, rfl⟩
  rw [hl] at hV
  rw [hcl] at hF
  simp only [hl, hcl] at hK
  rw [hl, hcl]
  clear hl hcl hT hS hbd hv h1 h2 h3 hc hm hbg hAV h6
  obtain ⟨W0, hW0⟩ : ∃ W0, W0 = ((w.alloc (.cells #[.int .i64 X.n, .int .u32 X.e, .int .i64 X.s, .slice a l cap] 50)).alloc (.cells #[.slice b c d] 36)).alloc (.cells #[.int .i64 0, .int .u32 0, .int .i64 0, .slice none 0 0] 50) := ⟨_, rfl⟩
  have hb0 : Below w.heap.size w W0 := by rw [hW0]; (repeat (first | exact Below.refl _ _ | assumption | refine bchain (by assumption) ?_ | refine balloc ?_ _ | apply Below.drew | apply below_drewN | (refine Below.alloc ?_ (by (try simp) <;> omega) _) | (refine Below.setCell ?_ (by (try simp) <;> omega) _)))
  have sz : ∀ (W : World) (o : Obj), (W.alloc o).heap.size = W.heap.size + 1 := fun W o => by simp
  have k0 : SB W0 w.heap.size X.n X.e X.s (.slice a l cap) := by rw [hW0]; exact ((SB.made _ _ _ _ _ _).below (balloc (Below.refl _ _) _)).below (balloc (Below.refl _ _) _)
  have g0 : W0.cell? ⟨w.heap.size + 1, 0, none⟩ = some (.slice b c d) := by rw [hW0, cOld _ _ _ _ (by simp), cNew _ _ _ _ _ (by simp)]; rfl
  have r0 : SB W0 (w.heap.size + 1 + 1) 0 0 0 (.slice none 0 0) := by rw [hW0, ← sz w (.cells #[.int .i64 X.n, .int .u32 X.e, .int .i64 X.s, .slice a l cap] 50), ← sz _ (.cells #[.slice b c d] 36)]; exact SB.made _ _ _ _ _ _
  replace hW0 := Lib.hid hW0
  clear sz
  obtain ⟨_, x0, x1, x2, x3, _⟩ := id k0
  go_enter Try.func41, Try.ntmps41
  go_wp2_with fail
  rw [← hW0.out]
  go_wp2_with fail
  refine (hV.out _ hb0).mono ?_
  rintro r1 w1 ⟨rfl, hb1⟩
  have g1 := (hb1.cell (p := ⟨w.heap.size + 1, 0, none⟩) (by have := r0.lt; show w.heap.size + 1 < _; omega)).trans g0
  replace k0 := k0.below hb1
  replace r0 := r0.below hb1
  replace hb0 := bchain hb1 hb0
  clear hb1 x0 x1 x2 x3 g0
  go_wp2_with fail
  refine (hF.out _ hb0).mono ?_
  rintro r2 w2 ⟨rfl, hb2⟩
  have g2 := (hb2.cell (p := ⟨w.heap.size + 1, 0, none⟩) (by have := r0.lt; show w.heap.size + 1 < _; omega)).trans g1
  replace k0 := k0.below hb2
  replace r0 := r0.below hb2
  replace hb0 := bchain hb2 hb0
  clear hb2 g1
  obtain ⟨_, x0, x1, x2, x3, _⟩ := id k0
  go_wp2_with fail
  refine (valo_any _ a l cap).mono ?_
  rintro r3 w3 ⟨B, rfl, hBge, hBz, c3, hb3⟩
  have g3 := (hb3.cell (p := ⟨w.heap.size + 1, 0, none⟩) (by have := r0.lt; show w.heap.size + 1 < _; omega)).trans g2
  replace k0 := k0.below hb3
  replace r0 := r0.below hb3
  replace hb0 := bchain hb3 hb0
  have hk := Lib.hid (hK.out w3 B (w.heap.size + 1) hb0 hBz c3 (by have := r0.lt; omega) g3)
  clear hb3 g2 x0 x1 x2 x3 hBge hBz c3 g3
  go_wp2_with fail
  refine hk.out.mono ?_
  rintro r4 w4 ⟨⟨z, rfl, hown⟩, hb4⟩
  have hO := ownT_of_row (w0 := w3) hown (Nat.le_refl _)
  have hz5 := r0.lt
  have hw5 := hb0.size
  have k4 := k0.below hb4
  have hsb := r0.below hb4
  have hbw := bchain hb4 hb0
  clear k0 r0 hb0 hb4 hown hk
  obtain ⟨za, zc, rfl, _⟩ := id hO
  obtain ⟨tl, htl⟩ : ∃ tl, T.length = tl := ⟨_, rfl⟩
  have hown : OwnT w3 w4 (.slice za tl zc) T := by rw [← htl]; exact hO
  rw [htl]
  clear hO htl
  replace hown := Lib.hid hown
  obtain ⟨_, x0, x1, x2, x3, _⟩ := id k4
  obtain ⟨_, d0, d1, d2, d3, fR⟩ := id hsb
  go_wp2
  replace hown := hown.out
  have hF := hsb.all (X.n) (X.e) (X.s) (.slice za tl zc)
  have hBB := ((((hbw.setCell (p := ⟨w.heap.size + 1 + 1, 0, none⟩) (by show w.heap.size ≤ w.heap.size + 1 + 1; omega) (.int .i64 (X.n))).setCell (p := ⟨w.heap.size + 1 + 1, 1, none⟩) (by show w.heap.size ≤ w.heap.size + 1 + 1; omega) (.int .u32 (X.e))).setCell (p := ⟨w.heap.size + 1 + 1, 2, none⟩) (by show w.heap.size ≤ w.heap.size + 1 + 1; omega) (.int .i64 (X.s))).setCell (p := ⟨w.heap.size + 1 + 1, 3, none⟩) (by show w.heap.size ≤ w.heap.size + 1 + 1; omega) (.slice za tl zc))
  obtain ⟨WW, hWW⟩ : ∃ WW, WW = ((((w4.setCell ⟨w.heap.size + 1 + 1, 0, none⟩ (.int .i64 (X.n))).setCell ⟨w.heap.size + 1 + 1, 1, none⟩ (.int .u32 (X.e))).setCell ⟨w.heap.size + 1 + 1, 2, none⟩ (.int .i64 (X.s))).setCell ⟨w.heap.size + 1 + 1, 3, none⟩ (.slice za tl zc)) := ⟨_, rfl⟩
  have hOW := OwnT.four hown hz5 hw5 (.int .i64 (X.n)) (.int .u32 (X.e)) (.int .i64 (X.s)) (.slice za tl zc)
  rw [← hWW] at hF hBB hOW ⊢
  clear hWW
  obtain ⟨_, hF0, hF1, hF2, hF3, _⟩ := hF
  exact bodyPost_ret (v := .tuple #[.agg #[.int .i64 (X.n), .int .u32 (X.e), .int .i64 (X.s), .slice za tl zc], .int .i64 0]) (by simp [results, Try.results41, go_sem, hF0, hF1, hF2, hF3]) rfl ⟨⟨_, rfl, hOW⟩, hBB⟩
end
end Go.Proofs.Ytpobonomdfbanaa
/-
  WithoutForbidden: the model's contract.
-/
namespace Go.Proofs.Ytpobonomdfbanaa
open Go.RowKit Go.Shelf
set_option maxRecDepth 100000
attribute [local go_sem] Oper.semAt_some
/-- append onto a row of the call's own, as one step of a region that draws -/
theorem step_append_ownT {P : Program} {ops : Array Oper} {o : Oper} {a : Act} {w : World} {K : Act → World → Prop} {Q : Exit → Act → World → Prop} {E : Prop}
    (hg : o.guard = none) (s x : Operand) (t : TypeId) (hop : o.op = Op.call { callee := Callee.builtin Builtin.append, args := #[s, x], argTypes := #[t, t] })
    (base : Nat) (e : TypeId) (i : TypeInfo) (z : Value) (size bytes : Nat) (h1 : P.underlying t = some (.slice e)) (h2 : P.info? e = some i) (h3 : i.zero = some z) (h4 : i.size = size) (h5 : i.bytes = bytes) (h6 : z.cells.size = size) (h7 : 0 < size)
    (v : Value) (n : Nat) (xs : List Value) (hs : a.eval s = v) (hown : w.ownsRow base e size v n xs)
    (ad : Addr) (m c : Nat) (news : List Value) (hx : a.eval x = .slice (some ad) m c) (hn : news.length = m * size) (hc : ∀ j u, news[j]? = some u → w.cell? (ad.add j) = some u) (h1c : ∀ u ∈ news, u.oneCell' = true)
    (b1 : n + m ≤ maxLen) (b2 : (n + m) * bytes ≤ 140737488355328) (b3 : base ≤ w.heap.size)
    (hK : ∀ v' w', w'.ownsRow base e size v' (n + m) (xs ++ news) → w.grownBy w' v.ownBlock → K (a.put o.dst v') w') :
    if Region.wanted o (yielded ops a.tmps) = true then Oper.wp P o a w K Q else E := by
  have hw : Region.wanted o (yielded ops a.tmps) = true := by simp [Region.wanted, hg]
  rw [if_pos hw]
  obtain ⟨v', w', hrun, r1, r2, _⟩ := run_append_own (P := P) w base t o.type e i z size bytes h1 h2 h3 h4 h5 h6 h7 v n xs hown ad m c news hn hc h1c b1 b2 b3
  unfold Oper.wp
  simp [execOp, hop, resolve, invoke, builtin, hs, hx, hrun, Result.andThen]
  exact hK v' w' r1 r2
theorem SB.under {W W' : World} {B C : Nat} {n e s : Int} {u : Value} (h : SB W B n e s u) (hb : Below C W W') (hB : B < C) : SB W' B n e s u := by
  have hs := hb.block B hB
  exact ⟨Nat.lt_of_lt_of_le h.lt hb.size, (World.cell?_of_block (a := ⟨B, 0, none⟩) hs).trans h.c0, (World.cell?_of_block (a := ⟨B, 1, none⟩) hs).trans h.c1, (World.cell?_of_block (a := ⟨B, 2, none⟩) hs).trans h.c2, (World.cell?_of_block (a := ⟨B, 3, none⟩) hs).trans h.c3, fun o => (World.frozen?_of_block (a := ⟨B, o, none⟩) hs).trans (h.fz o)⟩
theorem own_other {w : World} {base : Nat} {e : TypeId} {sz n : Nat} {v : Value} {xs : List Value} (h : w.ownsRow base e sz v n xs) {a : Addr} (u : Value) (ha : a.block < base) : (w.setCell a u).ownsRow base e sz v n xs := by
  refine ⟨h.1, ?_⟩
  rcases h.2 with hn | ⟨g, cap, cur, rfl, a1, a2, a3⟩
  · exact .inl hn
  · exact .inr ⟨g, cap, cur, rfl, a1, (Below.heap_setCell _ _ _ _ (by omega)).trans a2, a3⟩
theorem own_some {w : World} {base : Nat} {e : TypeId} {sz n : Nat} {v : Value} {xs : List Value} (h : w.ownsRow base e sz v n xs) (hn : 0 < n) : ∃ g c, v = .slice (some ⟨g, 0, none⟩) n c := by
  rcases h.2 with ⟨_, h0⟩ | ⟨g, cap, cur, rfl, _⟩
  · omega
  · exact ⟨g, cap, rfl⟩
theorem frT_take {ts : List TE} {gs : List (Int × Int)} {i : Nat} (h : i < ts.length) : (ts.take (i + 1)).filter (frT gs) = (ts.take i).filter (frT gs) ++ (if frT gs (tAt ts i) then [tAt ts i] else []) := by
  rw [take_snoc h, List.filter_append]
  simp only [List.filter_cons, List.filter_nil]
/-- what the append's statement reads -/
def Wf11 (G O b o i l cap : Nat) (y0 y1 y2 y3 y4 : Int) (A : World) : Prop := A.cell? ⟨G, 3, none⟩ = some (.slice (some ⟨b, o, none⟩) l cap) ∧ A.cell? ⟨b, o + i * 5, none⟩ = some (.int .i64 y0) ∧ A.cell? ⟨b, o + i * 5 + 1, none⟩ = some (.int .i64 y1) ∧ A.cell? ⟨b, o + i * 5 + 2, none⟩ = some (.int .u32 y2) ∧ A.cell? ⟨b, o + i * 5 + 3, none⟩ = some (.int .i64 y3) ∧ A.cell? ⟨b, o + i * 5 + 4, none⟩ = some (.int .i64 y4) ∧ A.cell? ⟨O, 3, none⟩ = some (cellOf A ⟨O, 3, none⟩) ∧ A.frozen? ⟨O, 3, none⟩ = false
structure Wf1 (w : World) (G O b o i l cap : Nat) (y0 y1 y2 y3 y4 : Int) : Prop where
  hG : G < O
  hb : b < O
  g : w.cell? ⟨G, 3, none⟩ = some (.slice (some ⟨b, o, none⟩) l cap)
  s0 : w.cell? ⟨b, o + i * 5, none⟩ = some (.int .i64 y0)
  s1 : w.cell? ⟨b, o + i * 5 + 1, none⟩ = some (.int .i64 y1)
  s2 : w.cell? ⟨b, o + i * 5 + 2, none⟩ = some (.int .u32 y2)
  s3 : w.cell? ⟨b, o + i * 5 + 3, none⟩ = some (.int .i64 y3)
  s4 : w.cell? ⟨b, o + i * 5 + 4, none⟩ = some (.int .i64 y4)
  u : ∃ v, w.cell? ⟨O, 3, none⟩ = some v
  f : w.frozen? ⟨O, 3, none⟩ = false
theorem Wf1.keep {w W : World} {G O b o i l cap : Nat} {y0 y1 y2 y3 y4 : Int} (h : Wf1 w G O b o i l cap y0 y1 y2 y3 y4) (hb : Below (O + 1) w W) : Wf11 G O b o i l cap y0 y1 y2 y3 y4 W := by
  obtain ⟨v, hv⟩ := h.u
  have h1 := h.hG
  have h2 := h.hb
  exact ⟨(hb.cell (p := ⟨G, 3, none⟩) (by show G < _; omega)).trans h.g, (hb.cell (p := ⟨b, _, none⟩) (by show b < _; omega)).trans h.s0, (hb.cell (p := ⟨b, _, none⟩) (by show b < _; omega)).trans h.s1, (hb.cell (p := ⟨b, _, none⟩) (by show b < _; omega)).trans h.s2, (hb.cell (p := ⟨b, _, none⟩) (by show b < _; omega)).trans h.s3, (hb.cell (p := ⟨b, _, none⟩) (by show b < _; omega)).trans h.s4, cellOf_of ((hb.cell (p := ⟨O, 3, none⟩) (by show O < _; omega)).trans hv), (hb.frozen (p := ⟨O, 3, none⟩) (by show O < _; omega)).trans h.f⟩
theorem Wf1.held {w W S : World} {G O b o i l cap : Nat} {y0 y1 y2 y3 y4 : Int} {u : Value} (h : Wf1 w G O b o i l cap y0 y1 y2 y3 y4) (hb : Below (O + 1) w W) (hS : S = W.setCell ⟨O, 3, none⟩ u) : Wf11 G O b o i l cap y0 y1 y2 y3 y4 S := by
  obtain ⟨v, hv⟩ := h.u
  have h1 := h.hG
  have h2 := h.hb
  subst hS
  refine ⟨(World.cell?_setCell_other _ _ _ _ (by simp <;> omega)).trans ((hb.cell (p := ⟨G, 3, none⟩) (by show G < _; omega)).trans h.g), (World.cell?_setCell_other _ _ _ _ (by simp <;> omega)).trans ((hb.cell (p := ⟨b, _, none⟩) (by show b < _; omega)).trans h.s0), (World.cell?_setCell_other _ _ _ _ (by simp <;> omega)).trans ((hb.cell (p := ⟨b, _, none⟩) (by show b < _; omega)).trans h.s1), (World.cell?_setCell_other _ _ _ _ (by simp <;> omega)).trans ((hb.cell (p := ⟨b, _, none⟩) (by show b < _; omega)).trans h.s2), (World.cell?_setCell_other _ _ _ _ (by simp <;> omega)).trans ((hb.cell (p := ⟨b, _, none⟩) (by show b < _; omega)).trans h.s3), (World.cell?_setCell_other _ _ _ _ (by simp <;> omega)).trans ((hb.cell (p := ⟨b, _, none⟩) (by show b < _; omega)).trans h.s4), cellOf_of (World.cell?_setCell_same _ _ u ((hb.cell (p := ⟨O, 3, none⟩) (by show O < _; omega)).trans hv)), ?_⟩
  have := (hb.frozen (p := ⟨O, 3, none⟩) (by show O < _; omega)).trans h.f
  simp [this]
section
variable (w : World)
theorem swf_sum (X : SM) (u : Value) (hS : SlT w u X.ts) (hbd : BdS X) (hv : ¬ VSum X) (b : Option Addr) (c d : Nat) :
    Calls Try.prog 40 #[.agg #[.int .i64 X.n, .int .u32 X.e, .int .i64 X.s, u], .slice b c d] w (RetS w ⟨0, 0, 0, []⟩ 1) := by
  have hV := Lib.hid (fun W G (hb : Below w.heap.size w W) c1 => sv5_any W X u G c1 (hS.below hb) hbd false ⟨fun c => (by cases c), fun c => absurd c hv⟩)
  obtain ⟨a, cap, rfl, _⟩ := id hS
  obtain ⟨l, hl⟩ : ∃ l, X.ts.length = l := ⟨_, rfl⟩
  rw [hl] at hV ⊢
  clear hl hS hbd hv
  obtain ⟨W0, hW0⟩ : ∃ W0, W0 = (w.alloc (.cells #[.int .i64 X.n, .int .u32 X.e, .int .i64 X.s, .slice a l cap] 50)).alloc (.cells #[.int .i64 0, .int .u32 0, .int .i64 0, .slice none 0 0] 50) := ⟨_, rfl⟩
  have hb0 : Below w.heap.size w W0 := by rw [hW0]; (repeat (first | exact Below.refl _ _ | assumption | refine bchain (by assumption) ?_ | refine balloc ?_ _ | apply Below.drew | apply below_drewN | (refine Below.alloc ?_ (by (try simp) <;> omega) _) | (refine Below.setCell ?_ (by (try simp) <;> omega) _)))
  have sz : ∀ (W : World) (o : Obj), (W.alloc o).heap.size = W.heap.size + 1 := fun W o => by simp
  have k0 : SB W0 w.heap.size X.n X.e X.s (.slice a l cap) := by rw [hW0]; exact (SB.made _ _ _ _ _ _).below (balloc (Below.refl _ _) _)
  have r0 : SB W0 (w.heap.size + 1) 0 0 0 (.slice none 0 0) := by rw [hW0, ← sz w (.cells #[.int .i64 X.n, .int .u32 X.e, .int .i64 X.s, .slice a l cap] 50)]; exact SB.made _ _ _ _ _ _
  replace hW0 := Lib.hid hW0
  clear sz
  go_enter Try.func40, Try.ntmps40
  go_wp2_with fail
  rw [← hW0.out]
  refine (hV.out _ _ hb0 k0).mono ?_
  rintro r1 w1 ⟨rfl, hb1⟩
  replace k0 := k0.below hb1
  replace r0 := r0.below hb1
  replace hb0 := bchain hb1 hb0
  clear hb1
  have hsb := r0
  have hbw := hb0
  obtain ⟨_, d0, d1, d2, d3, fR⟩ := id hsb
  go_wp2
  have hF := hsb.all (0) (0) (0) (.slice none 0 0)
  have hBB := ((((hbw.setCell (p := ⟨w.heap.size + 1, 0, none⟩) (by show w.heap.size ≤ w.heap.size + 1; omega) (.int .i64 (0))).setCell (p := ⟨w.heap.size + 1, 1, none⟩) (by show w.heap.size ≤ w.heap.size + 1; omega) (.int .u32 (0))).setCell (p := ⟨w.heap.size + 1, 2, none⟩) (by show w.heap.size ≤ w.heap.size + 1; omega) (.int .i64 (0))).setCell (p := ⟨w.heap.size + 1, 3, none⟩) (by show w.heap.size ≤ w.heap.size + 1; omega) (.slice none 0 0))
  obtain ⟨WW, hWW⟩ : ∃ WW, WW = ((((w1.setCell ⟨w.heap.size + 1, 0, none⟩ (.int .i64 (0))).setCell ⟨w.heap.size + 1, 1, none⟩ (.int .u32 (0))).setCell ⟨w.heap.size + 1, 2, none⟩ (.int .i64 (0))).setCell ⟨w.heap.size + 1, 3, none⟩ (.slice none 0 0)) := ⟨_, rfl⟩
  rw [← hWW] at hF hBB ⊢
  clear hWW
  obtain ⟨_, hF0, hF1, hF2, hF3, _⟩ := hF
  exact bodyPost_ret (v := .tuple #[.agg #[.int .i64 (0), .int .u32 (0), .int .i64 (0), .slice none 0 0], .int .i64 1]) (by simp [results, Try.results40, go_sem, hF0, hF1, hF2, hF3]) rfl ⟨⟨_, rfl, ownT_nil⟩, hBB⟩
theorem swf_code (X : SM) (u : Value) (hS : SlT w u X.ts) (hbd : BdS X) (hv : VSum X) (b : Option Addr) (c d : Nat) (q : Int) (hq : q ≠ 0) (hF : ∀ W, Below w.heap.size w W → Calls Try.prog 51 #[.slice b c d] W fun r w' => r = .returned (.int .i64 q) ∧ Below W.heap.size W w') :
    Calls Try.prog 40 #[.agg #[.int .i64 X.n, .int .u32 X.e, .int .i64 X.s, u], .slice b c d] w (RetS w ⟨0, 0, 0, []⟩ q) := by
  have hV := Lib.hid (fun W G (hb : Below w.heap.size w W) c1 => sv5_any W X u G c1 (hS.below hb) hbd true ⟨fun _ => hv, fun _ => rfl⟩)
  replace hF := Lib.hid hF
  have hne : (q == 0) = false := by simpa using hq
  obtain ⟨a, cap, rfl, _⟩ := id hS
  obtain ⟨l, hl⟩ : ∃ l, X.ts.length = l := ⟨_, rfl⟩
  rw [hl] at hV ⊢
  clear hl hS hbd hv hq
  obtain ⟨W0, hW0⟩ : ∃ W0, W0 = (w.alloc (.cells #[.int .i64 X.n, .int .u32 X.e, .int .i64 X.s, .slice a l cap] 50)).alloc (.cells #[.int .i64 0, .int .u32 0, .int .i64 0, .slice none 0 0] 50) := ⟨_, rfl⟩
  have hb0 : Below w.heap.size w W0 := by rw [hW0]; (repeat (first | exact Below.refl _ _ | assumption | refine bchain (by assumption) ?_ | refine balloc ?_ _ | apply Below.drew | apply below_drewN | (refine Below.alloc ?_ (by (try simp) <;> omega) _) | (refine Below.setCell ?_ (by (try simp) <;> omega) _)))
  have sz : ∀ (W : World) (o : Obj), (W.alloc o).heap.size = W.heap.size + 1 := fun W o => by simp
  have k0 : SB W0 w.heap.size X.n X.e X.s (.slice a l cap) := by rw [hW0]; exact (SB.made _ _ _ _ _ _).below (balloc (Below.refl _ _) _)
  have r0 : SB W0 (w.heap.size + 1) 0 0 0 (.slice none 0 0) := by rw [hW0, ← sz w (.cells #[.int .i64 X.n, .int .u32 X.e, .int .i64 X.s, .slice a l cap] 50)]; exact SB.made _ _ _ _ _ _
  replace hW0 := Lib.hid hW0
  clear sz
  go_enter Try.func40, Try.ntmps40
  go_wp2_with fail
  rw [← hW0.out]
  refine (hV.out _ _ hb0 k0).mono ?_
  rintro r1 w1 ⟨rfl, hb1⟩
  replace k0 := k0.below hb1
  replace r0 := r0.below hb1
  replace hb0 := bchain hb1 hb0
  clear hb1
  go_wp2_with fail
  refine (hF.out _ hb0).mono ?_
  rintro r2 w2 ⟨rfl, hb2⟩
  have hsb := r0.below hb2
  have hbw := bchain hb2 hb0
  obtain ⟨_, d0, d1, d2, d3, fR⟩ := id hsb
  clear hb2
  go_wp2
  have hF := hsb.all (0) (0) (0) (.slice none 0 0)
  have hBB := ((((hbw.setCell (p := ⟨w.heap.size + 1, 0, none⟩) (by show w.heap.size ≤ w.heap.size + 1; omega) (.int .i64 (0))).setCell (p := ⟨w.heap.size + 1, 1, none⟩) (by show w.heap.size ≤ w.heap.size + 1; omega) (.int .u32 (0))).setCell (p := ⟨w.heap.size + 1, 2, none⟩) (by show w.heap.size ≤ w.heap.size + 1; omega) (.int .i64 (0))).setCell (p := ⟨w.heap.size + 1, 3, none⟩) (by show w.heap.size ≤ w.heap.size + 1; omega) (.slice none 0 0))
  obtain ⟨WW, hWW⟩ : ∃ WW, WW = ((((w2.setCell ⟨w.heap.size + 1, 0, none⟩ (.int .i64 (0))).setCell ⟨w.heap.size + 1, 1, none⟩ (.int .u32 (0))).setCell ⟨w.heap.size + 1, 2, none⟩ (.int .i64 (0))).setCell ⟨w.heap.size + 1, 3, none⟩ (.slice none 0 0)) := ⟨_, rfl⟩
  rw [← hWW] at hF hBB ⊢
  clear hWW
  obtain ⟨_, hF0, hF1, hF2, hF3, _⟩ := hF
  exact bodyPost_ret (v := .tuple #[.agg #[.int .i64 (0), .int .u32 (0), .int .i64 (0), .slice none 0 0], .int .i64 q]) (by simp [results, Try.results40, go_sem, hF0, hF1, hF2, hF3]) rfl ⟨⟨_, rfl, ownT_nil⟩, hBB⟩
set_option maxHeartbeats 8000000 in
theorem swf_ok (X : SM) (u : Value) (hS : SlT w u X.ts) (hbd : BdS X) (hv : VSum X) (v : Value) (gs : List (Int × Int)) (hG : SlG w v gs) (hm : gs.length ≤ 1048576) (hbg : Bd gs) (hAV : AllV gs) (h6 : gs.length ≤ 6) :
    Calls Try.prog 40 #[.agg #[.int .i64 X.n, .int .u32 X.e, .int .i64 X.s, u], v] w (RetS w ⟨X.n, X.e, X.s, X.ts.filter (frT gs)⟩ 0) := by
  obtain ⟨gb, gd, rfl, hc⟩ := hG.lies
  have hV := Lib.hid (fun W G (hb : Below w.heap.size w W) c1 => sv5_any W X u G c1 (hS.below hb) hbd true ⟨fun _ => hv, fun _ => rfl⟩)
  have hF := Lib.hid (fun W (hW : Below w.heap.size w W) => sf_ok W gb gd gs hm (hc.below hW) hbg hAV h6)
  obtain ⟨a, cap, rfl, h1, h2, h3⟩ := id hS
  have hl64 := hv.2.2.1
  have hEl := Lib.hid (fun i (hi : i < X.ts.length) W (hW : Below w.heap.size w W) => (by
    have hok := hv.2.2.2 i hi
    unfold TOk at hok
    obtain ⟨n', e', hn, he⟩ : ∃ n' e' : Nat, (tAt X.ts i).n = n' ∧ (tAt X.ts i).e = e' := ⟨(tAt X.ts i).n.toNat, (tAt X.ts i).e.toNat, by have := hok.1.1.1; omega, by have := (hbd.2.2 i hi).1; omega⟩
    have := sfree_any W n' e' (by rw [← hn, ← he]; exact hok.1.1) gb gd gs hm (hc.below hW) hAV
    unfold frT
    rw [hn, he]
    exact this : Calls Try.prog 87 #[.agg #[.int .i64 (tAt X.ts i).n, .int .u32 (tAt X.ts i).e], .slice gb gs.length gd] W fun r w' => r = .returned (.bool (frT gs (tAt X.ts i))) ∧ Below W.heap.size W w'))
  have hTk := Lib.hid (fun i (hi : i < X.ts.length) => frT_take (gs := gs) hi)
  have hEnd := Lib.hid (show (X.ts.take X.ts.length).filter (frT gs) = X.ts.filter (frT gs) by rw [List.take_length])
  have hTl := Lib.hid (fun i => (show ((X.ts.take i).filter (frT gs)).length ≤ 64 by have h1 := List.length_filter_le (frT gs) (X.ts.take i); rw [List.length_take] at h1; omega))
  obtain ⟨T, hT⟩ : ∃ T, X.ts.filter (frT gs) = T := ⟨_, rfl⟩
  rw [hT] at hEnd ⊢
  obtain ⟨l, hl⟩ : ∃ l, X.ts.length = l := ⟨_, rfl⟩
  obtain ⟨gl, hgl⟩ : ∃ gl, gs.length = gl := ⟨_, rfl⟩
  have h3b : Hid (0 < l → ∃ b off, a = some ⟨b, off, none⟩ ∧ b < w.heap.size ∧ ∀ i, i < l → TCell w b off (tAt X.ts i) i) := fun h => by rw [← hl] at h ⊢; exact h3 (List.length_pos_iff.1 h)
  rw [hl] at hV hl64 hEnd
  simp only [hl, hgl] at hEl
  rw [hgl] at hF
  rw [hl, hgl]
  have hTk2 := Lib.hid (fun i (hi : i < l) => hTk.out i (by rw [hl]; exact hi))
  clear hgl hT hS hbd hv h1 h2 h3 hc hm hbg hAV h6 hTk hl
  obtain ⟨i0, hi, hz0, hz1, hz2⟩ := info_parts info_term
  replace hi := Lib.hid hi
  replace hz0 := Lib.hid hz0
  replace hz1 := Lib.hid hz1
  replace hz2 := Lib.hid hz2
  obtain ⟨W0, hW0⟩ : ∃ W0, W0 = (w.alloc (.cells #[.int .i64 X.n, .int .u32 X.e, .int .i64 X.s, .slice a l cap] 50)).alloc (.cells #[.int .i64 0, .int .u32 0, .int .i64 0, .slice none 0 0] 50) := ⟨_, rfl⟩
  have hb0 : Below w.heap.size w W0 := by rw [hW0]; (repeat (first | exact Below.refl _ _ | assumption | refine bchain (by assumption) ?_ | refine balloc ?_ _ | apply Below.drew | apply below_drewN | (refine Below.alloc ?_ (by (try simp) <;> omega) _) | (refine Below.setCell ?_ (by (try simp) <;> omega) _)))
  have sz : ∀ (W : World) (o : Obj), (W.alloc o).heap.size = W.heap.size + 1 := fun W o => by simp
  have k0 : SB W0 w.heap.size X.n X.e X.s (.slice a l cap) := by rw [hW0]; exact (SB.made _ _ _ _ _ _).below (balloc (Below.refl _ _) _)
  have r0 : SB W0 (w.heap.size + 1) 0 0 0 (.slice none 0 0) := by rw [hW0, ← sz w (.cells #[.int .i64 X.n, .int .u32 X.e, .int .i64 X.s, .slice a l cap] 50)]; exact SB.made _ _ _ _ _ _
  replace hW0 := Lib.hid hW0
  clear sz
  go_enter Try.func40, Try.ntmps40
  go_wp2_with fail
  rw [← hW0.out]
  refine (hV.out _ _ hb0 k0).mono ?_
  rintro r1 w1 ⟨rfl, hb1⟩
  replace k0 := k0.below hb1
  replace r0 := r0.below hb1
  replace hb0 := bchain hb1 hb0
  clear hb1
  go_wp2_with fail
  refine (hF.out _ hb0).mono ?_
  rintro r2 w2 ⟨rfl, hb2⟩
  replace k0 := k0.below hb2
  replace r0 := r0.below hb2
  replace hb0 := bchain hb2 hb0
  clear hb2
  obtain ⟨W3, hW3⟩ : ∃ W3, W3 = w2.alloc (.cells #[.int .i64 X.n, .int .u32 X.e, .int .i64 X.s, .slice none 0 0] 50) := ⟨_, rfl⟩
  have hb23 : Below w2.heap.size w2 W3 := by rw [hW3]; exact balloc (Below.refl _ _) _
  have o3 : SB W3 w2.heap.size X.n X.e X.s (.slice none 0 0) := by rw [hW3]; exact SB.made _ _ _ _ _ _
  have k3 := k0.below hb23
  have r3 := r0.below hb23
  have b3 := bchain hb23 hb0
  have hw2 : w.heap.size + 1 < w2.heap.size := r0.lt
  obtain ⟨_, x0, x1, x2, x3, _⟩ := id k0
  go_wp2_with fail
  rw [← hW3]
  replace hW3 := Lib.hid hW3
  clear k0 r0 hb0 hb23 x0 x1 x2 x3
  go_loopw [8] (fun q wr => ∃ i : Nat, i ≤ l ∧ q = .int .i64 i ∧ (∃ z, SB wr w2.heap.size X.n X.e X.s z ∧ Hid (wr.ownsRow (w2.heap.size + 1) 100 5 z ((X.ts.take i).filter (frT gs)).length (tsC ((X.ts.take i).filter (frT gs))))) ∧ SB wr w.heap.size X.n X.e X.s (.slice a l cap) ∧ SB wr (w.heap.size + 1) 0 0 0 (.slice none 0 0) ∧ Below w.heap.size w wr) (fun q _ => l - (intOf q).toNat)
  case atStart => exact ⟨0, by omega, rfl, ⟨_, o3, by rw [List.take_zero]; exact ⟨rfl, .inl ⟨rfl, rfl⟩⟩⟩, k3, r3, b3⟩
  case round =>
    clear o3 k3 r3 b3
    obtain ⟨i, hi0, rfl, ⟨z, ho, hown⟩, hk, hr, hB⟩ := hrel
    obtain ⟨_, x0, x1, x2, x3, _⟩ := id hk
    by_cases hlt : i < l
    · obtain ⟨b, off, rfl, hb, hg⟩ := h3b.out (by omega)
      have hgi := hg i hlt
      have hE1 := Lib.hid (hEl.out i hlt)
      have hT1 := hTk2.out i hlt
      have hTi := hTl.out i
      obtain ⟨g, hBk⟩ : ∃ g, tAt X.ts i = g := ⟨_, rfl⟩
      obtain ⟨y0, y1, y2, y3, y4⟩ := g
      rw [hBk] at hgi hE1 hT1
      dsimp only at hE1
      have s0 : wr.cell? ⟨b, off + i * 5, none⟩ = some (.int .i64 y0) := by rw [hB.cell (p := ⟨b, _, none⟩) hb]; exact hgi.1
      have s1 : wr.cell? ⟨b, off + i * 5 + 1, none⟩ = some (.int .i64 y1) := by rw [hB.cell (p := ⟨b, _, none⟩) hb]; exact hgi.2.1
      have s2 : wr.cell? ⟨b, off + i * 5 + 2, none⟩ = some (.int .u32 y2) := by rw [hB.cell (p := ⟨b, _, none⟩) hb]; exact hgi.2.2.1
      have s3 : wr.cell? ⟨b, off + i * 5 + 3, none⟩ = some (.int .i64 y3) := by rw [hB.cell (p := ⟨b, _, none⟩) hb]; exact hgi.2.2.2.1
      have s4 : wr.cell? ⟨b, off + i * 5 + 4, none⟩ = some (.int .i64 y4) := by rw [hB.cell (p := ⟨b, _, none⟩) hb]; exact hgi.2.2.2.2
      have hkl : (i : Int) < (l : Int) := by omega
      have hk0 : (0 : Int) ≤ (i : Int) := by omega
      have hBz := hB.size
      obtain ⟨T1, hT1d⟩ : ∃ T1, (X.ts.take (i + 1)).filter (frT gs) = T1 := ⟨_, rfl⟩
      obtain ⟨T0, hT0d⟩ : ∃ T0, (X.ts.take i).filter (frT gs) = T0 := ⟨_, rfl⟩
      rw [hT1d, hT0d] at hT1
      rw [hT0d] at hown hTi
      obtain ⟨fb, hfb⟩ : ∃ fb, frT gs ⟨y0, y1, y2, y3, y4⟩ = fb := ⟨_, rfl⟩
      rw [hfb] at hE1 hT1
      replace hT1d := Lib.hid hT1d
      clear hgi hg hBk hfb hT0d
      go_wp2_with fail
      refine (hE1.out _ hB).mono ?_
      rintro r5 w5 ⟨rfl, hb5⟩
      have ho5 := ho.below hb5
      have hk5 := hk.below hb5
      have hr5 := hr.below hb5
      have hB5 := bchain hb5 hB
      have hown5 := Lib.hid (hown.out.kept (row := none) (w' := w5) ⟨hb5.os, hb5.tape, hb5.output, hb5.size, fun k hk _ => hb5.block k hk⟩ (by cases (Value.ownBlock _) <;> simp))
      have hbw5 : b < wr.heap.size := by omega
      have t0 := (hb5.cell (p := ⟨b, _, none⟩) hbw5).trans s0
      have t1 := (hb5.cell (p := ⟨b, _, none⟩) hbw5).trans s1
      have t2 := (hb5.cell (p := ⟨b, _, none⟩) hbw5).trans s2
      have t3 := (hb5.cell (p := ⟨b, _, none⟩) hbw5).trans s3
      have t4 := (hb5.cell (p := ⟨b, _, none⟩) hbw5).trans s4
      have hO5 : w2.heap.size < w5.heap.size := ho5.lt
      clear ho hk hr hown hb5 x0 x1 x2 x3 s0 s1 s2 s3 s4
      cases fb with
      | false =>
        have e : T1 = T0 := by rw [hT1]; simp
        subst e
        go_wp2
        go_roundw
        case rel => exact ⟨i + 1, by omega, by go_num, ⟨z, ho5, by show World.ownsRow _ _ _ _ _ _ _; rw [hT1d.out]; exact hown5.out⟩, hk5, hr5, hB5⟩
        case measure => simp [intOf]; omega
      | true =>
        have e : T1 = T0 ++ [⟨y0, y1, y2, y3, y4⟩] := by rw [hT1]; simp
        clear hT1
        obtain ⟨_, u0, u1, u2, u3, fo⟩ := id ho5
        obtain ⟨_, x0, x1, x2, x3, _⟩ := id hk5
        have hW1 : Wf1 w5 w.heap.size w2.heap.size b off i l cap y0 y1 y2 y3 y4 := ⟨by omega, by omega, x3, t0, t1, t2, t3, t4, ⟨_, u3⟩, fo 3⟩
        replace hW1 := Lib.hid hW1
        obtain ⟨tl, htl⟩ : ∃ tl, T0.length = tl := ⟨_, rfl⟩
        obtain ⟨T5, hT5⟩ : ∃ T5, tsC T0 = T5 := ⟨_, rfl⟩
        rw [htl, hT5] at hown5
        rw [htl] at hTi
        go_wp2_with fail
        have hcell : Hid (∀ q u, ([.int .i64 y0, .int .i64 y1, .int .u32 y2, .int .i64 y3, .int .i64 y4] : List Value)[q]? = some u → (w5.drew.alloc (.cells #[.int .i64 y0, .int .i64 y1, .int .u32 y2, .int .i64 y3, .int .i64 y4] 100)).cell? ((⟨w5.heap.size, 0, none⟩ : Addr).add q) = some u) := fun q u hq => by
          match q, hq with
          | 0, hq => simp at hq; subst hq; exact World.cell?_alloc_new w5.drew _ _ 0
          | 1, hq => simp at hq; subst hq; exact World.cell?_alloc_new w5.drew _ _ 1
          | 2, hq => simp at hq; subst hq; exact World.cell?_alloc_new w5.drew _ _ 2
          | 3, hq => simp at hq; subst hq; exact World.cell?_alloc_new w5.drew _ _ 3
          | 4, hq => simp at hq; subst hq; exact World.cell?_alloc_new w5.drew _ _ 4
          | q + 5, hq => simp at hq
        have hone : Hid (∀ u ∈ ([.int .i64 y0, .int .i64 y1, .int .u32 y2, .int .i64 y3, .int .i64 y4] : List Value), u.oneCell' = true) := fun u hu => by
          simp at hu
          rcases hu with rfl | rfl | rfl | rfl | rfl <;> rfl
        have hownA : Hid ((w5.drew.alloc (.cells #[.int .i64 y0, .int .i64 y1, .int .u32 y2, .int .i64 y3, .int .i64 y4] 100)).ownsRow (w2.heap.size + 1) 100 5 z tl T5) := World.ownsRow.alloc (w := w5.drew) hown5.out _
        have hbA : Below (w2.heap.size + 1) w5 (w5.drew.alloc (.cells #[.int .i64 y0, .int .i64 y1, .int .u32 y2, .int .i64 y3, .int .i64 y4] 100)) := Below.alloc (Below.drew (Below.mono (Below.refl _ w5) hO5)) (by show _ ≤ w5.heap.size; omega) _
        have hszA : w2.heap.size + 1 ≤ (w5.drew.alloc (.cells #[.int .i64 y0, .int .i64 y1, .int .u32 y2, .int .i64 y3, .int .i64 y4] 100)).heap.size := by have := hbA.size; omega
        replace hbA := Lib.hid hbA
        replace hszA := Lib.hid hszA
        have hne5 : w2.heap.size ≠ w5.heap.size := by omega
        have hne6 : b ≠ w5.heap.size := by have := hB5.size; omega
        have hne7 : w.heap.size ≠ w5.heap.size := by omega
        go_region_law ((refine step_append_ownT rfl (.tmp 40) (.tmp 46) 48 rfl (w2.heap.size + 1) 100 i0 (.agg #[.int .i64 0, .int .i64 0, .int .u32 0, .int .i64 0, .int .i64 0]) 5 40 Try.underlying48 hi.out hz0.out hz1.out hz2.out rfl (by decide) z tl T5 (by simp [Act.eval]) hownA.out ⟨w5.heap.size, 0, none⟩ 1 1 [.int .i64 y0, .int .i64 y1, .int .u32 y2, .int .i64 y3, .int .i64 y4] (by simp [Act.eval]) rfl hcell.out hone.out (by unfold maxLen; omega) (by omega) hszA.out ?_; intro v' w9 hown' hgrow; obtain ⟨vg, vc, hvv⟩ := own_some hown' (by omega); subst hvv; have hb9 : Below (w2.heap.size + 1) w5 w9 := hbA.out.grown hgrow hszA.out (fun k hk => (hown5.out.lt k hk).1); have q3 := (ho5.under hb9 (by omega)).c3; have qf := (ho5.under hb9 (by omega)).fz 3))
        all_goals
          have ho9 := (ho5.under hb9 (by omega)).putL (.slice (some ⟨vg, 0, none⟩) (tl + 1) vc)
          have hk9 := (hk5.under hb9 (by omega)).other (a := ⟨w2.heap.size, 3, none⟩) (.slice (some ⟨vg, 0, none⟩) (tl + 1) vc) (by show w2.heap.size ≠ w.heap.size; omega)
          have hr9 := (hr5.under hb9 (by omega)).other (a := ⟨w2.heap.size, 3, none⟩) (.slice (some ⟨vg, 0, none⟩) (tl + 1) vc) (by show w2.heap.size ≠ w.heap.size + 1; omega)
          have hB9 := (hB5.trans (hb9.mono (show w.heap.size ≤ w2.heap.size + 1 by omega))).setCell (p := ⟨w2.heap.size, 3, none⟩) (by show w.heap.size ≤ w2.heap.size; omega) (.slice (some ⟨vg, 0, none⟩) (tl + 1) vc)
          have hown9 : Hid ((w9.setCell ⟨w2.heap.size, 3, none⟩ (.slice (some ⟨vg, 0, none⟩) (tl + 1) vc)).ownsRow (w2.heap.size + 1) 100 5 (.slice (some ⟨vg, 0, none⟩) (tl + 1) vc) ((X.ts.take (i + 1)).filter (frT gs)).length (tsC ((X.ts.take (i + 1)).filter (frT gs)))) := by
            show World.ownsRow _ _ _ _ _ _ _
            rw [hT1d.out, e, tsC_snoc, List.length_append, htl, hT5]
            exact own_other hown' (.slice (some ⟨vg, 0, none⟩) (tl + 1) vc) (by show w2.heap.size < _; omega)
          clear hown' hgrow hb9 ho5 hk5 hr5 hB5 hW1 hown5
          go_wp2
          go_roundw
          case rel => exact ⟨i + 1, by omega, by go_num, ⟨_, ho9, hown9⟩, hk9, hr9, hB9⟩
          case measure => simp [intOf]; omega
    · obtain rfl : i = l := by omega
      have hd := decide_eq_false (show ¬ ((i : Int) < (i : Int)) by omega)
      have hown1 := hown.out
      rw [hEnd.out] at hown1
      have hO := ownT_of_row (w0 := w2) hown1 (by omega)
      obtain ⟨za, zc, rfl, _⟩ := id hO
      obtain ⟨tl, htl⟩ : ∃ tl, T.length = tl := ⟨_, rfl⟩
      have hOx : Hid (OwnT w2 wr (.slice za tl zc) T) := by rw [← htl]; exact hO
      rw [htl] at ho
      have hz5 := hw2
      have hw5 : w.heap.size ≤ w2.heap.size := by omega
      have hsb := hr
      have hbw := hB
      clear hO htl hown hown1
      obtain ⟨_, u0, u1, u2, u3, _⟩ := id ho
      obtain ⟨_, d0, d1, d2, d3, fR⟩ := id hsb
      go_wp2
      have hown := hOx.out
      have hF := hsb.all (X.n) (X.e) (X.s) (.slice za tl zc)
      have hBB := ((((hbw.setCell (p := ⟨w.heap.size + 1, 0, none⟩) (by show w.heap.size ≤ w.heap.size + 1; omega) (.int .i64 (X.n))).setCell (p := ⟨w.heap.size + 1, 1, none⟩) (by show w.heap.size ≤ w.heap.size + 1; omega) (.int .u32 (X.e))).setCell (p := ⟨w.heap.size + 1, 2, none⟩) (by show w.heap.size ≤ w.heap.size + 1; omega) (.int .i64 (X.s))).setCell (p := ⟨w.heap.size + 1, 3, none⟩) (by show w.heap.size ≤ w.heap.size + 1; omega) (.slice za tl zc))
      obtain ⟨WW, hWW⟩ : ∃ WW, WW = ((((wr.setCell ⟨w.heap.size + 1, 0, none⟩ (.int .i64 (X.n))).setCell ⟨w.heap.size + 1, 1, none⟩ (.int .u32 (X.e))).setCell ⟨w.heap.size + 1, 2, none⟩ (.int .i64 (X.s))).setCell ⟨w.heap.size + 1, 3, none⟩ (.slice za tl zc)) := ⟨_, rfl⟩
      have hOW := OwnT.four hown hz5 hw5 (.int .i64 (X.n)) (.int .u32 (X.e)) (.int .i64 (X.s)) (.slice za tl zc)
      rw [← hWW] at hF hBB hOW ⊢
      clear hWW
      obtain ⟨_, hF0, hF1, hF2, hF3, _⟩ := hF
      exact bodyPost_ret (v := .tuple #[.agg #[.int .i64 (X.n), .int .u32 (X.e), .int .i64 (X.s), .slice za tl zc], .int .i64 0]) (by simp [results, Try.results40, go_sem, hF0, hF1, hF2, hF3]) rfl ⟨⟨_, rfl, hOW⟩, hBB⟩
end
end Go.Proofs.Ytpobonomdfbanaa
