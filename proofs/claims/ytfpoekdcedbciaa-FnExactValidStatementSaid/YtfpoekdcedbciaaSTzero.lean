/-
  ZeroSum: both contracts.
-/
import Derived.Test.YtfpoekdcedbciaaSTown
import Derived.Test.YtfpoekdcedbciaaPlain
namespace Go.Proofs.Ytfpoekdcedbciaa
open Go.RowKit
set_option maxRecDepth 100000
/-- may a sum have a type with so many vertices, and a size -/
def frB (m s : Int) : Bool := decide (m ≤ 3 ∧ m ≤ s ∧ s ≤ 5)
section
variable (w : World)
theorem ihf_any (m f s : Int) :
    Calls Try.prog 121 #[.agg #[.int .i64 m, .int .u32 f], .int .i64 s] w fun r w' => r = .returned (.bool (frB m s)) ∧ Below w.heap.size w w' := by
  unfold frB
  by_cases h1 : m ≤ 3
  · by_cases h2 : m ≤ s
    · by_cases h3 : s ≤ 5
      · rw [decide_eq_true (show m ≤ 3 ∧ m ≤ s ∧ s ≤ 5 from ⟨h1, h2, h3⟩)]
        go_enter Try.func121, Try.ntmps121
        go_wp2
        go_ret
        exact ⟨rfl, by (repeat (first | exact Below.refl _ _ | assumption | refine bchain (by assumption) ?_ | refine balloc ?_ _ | apply Below.drew | apply below_drewN | (refine Below.alloc ?_ (by (try simp) <;> omega) _) | (refine Below.setCell ?_ (by (try simp) <;> omega) _)))⟩
      · rw [decide_eq_false (show ¬ (m ≤ 3 ∧ m ≤ s ∧ s ≤ 5) from fun c => h3 c.2.2)]
        go_enter Try.func121, Try.ntmps121
        go_wp2
        go_ret
        exact ⟨rfl, by (repeat (first | exact Below.refl _ _ | assumption | refine bchain (by assumption) ?_ | refine balloc ?_ _ | apply Below.drew | apply below_drewN | (refine Below.alloc ?_ (by (try simp) <;> omega) _) | (refine Below.setCell ?_ (by (try simp) <;> omega) _)))⟩
    · rw [decide_eq_false (show ¬ (m ≤ 3 ∧ m ≤ s ∧ s ≤ 5) from fun c => h2 c.2.1)]
      go_enter Try.func121, Try.ntmps121
      go_wp2
      go_ret
      exact ⟨rfl, by (repeat (first | exact Below.refl _ _ | assumption | refine bchain (by assumption) ?_ | refine balloc ?_ _ | apply Below.drew | apply below_drewN | (refine Below.alloc ?_ (by (try simp) <;> omega) _) | (refine Below.setCell ?_ (by (try simp) <;> omega) _)))⟩
  · rw [decide_eq_false (show ¬ (m ≤ 3 ∧ m ≤ s ∧ s ≤ 5) from fun c => h1 c.1)]
    go_enter Try.func121, Try.ntmps121
    go_wp2
    go_ret
    exact ⟨rfl, by (repeat (first | exact Below.refl _ _ | assumption | refine bchain (by assumption) ?_ | refine balloc ?_ _ | apply Below.drew | apply below_drewN | (refine Below.alloc ?_ (by (try simp) <;> omega) _) | (refine Below.setCell ?_ (by (try simp) <;> omega) _)))⟩
theorem sfr_any (m f s : Int) :
    Calls Try.prog 138 #[.agg #[.int .i64 m, .int .u32 f], .int .i64 s] w fun r w' => r = .returned (.bool (frB m s)) ∧ Below w.heap.size w w' := by
  unfold frB
  by_cases h1 : m ≤ 3
  · have hI := Lib.hid (fun W => show Calls Try.prog 141 #[.int .i64 s, .int .i64 m, .int .i64 5] W fun e w' => e = .returned (.bool (decide (m ≤ 3 ∧ m ≤ s ∧ s ≤ 5))) ∧ W = w' from by
      by_cases h2 : m ≤ s ∧ s ≤ 5
      · rw [decide_eq_true (show m ≤ 3 ∧ m ≤ s ∧ s ≤ 5 from ⟨h1, h2⟩)]; exact in_t W s m 5 h2.1 h2.2
      · rw [decide_eq_false (show ¬ (m ≤ 3 ∧ m ≤ s ∧ s ≤ 5) from fun c => h2 c.2)]; exact in_f W s m 5 (by omega))
    obtain ⟨b, hb⟩ : ∃ b, decide (m ≤ 3 ∧ m ≤ s ∧ s ≤ 5) = b := ⟨_, rfl⟩
    rw [hb] at hI ⊢
    clear hb
    go_enter Try.func138, Try.ntmps138
    go_wp2_with (go_at_call 141; refine (hI.out _).mono ?_; rintro r3 w3 ⟨rfl, rfl⟩)
    go_ret
    exact ⟨rfl, by (repeat (first | exact Below.refl _ _ | assumption | refine bchain (by assumption) ?_ | refine balloc ?_ _ | apply Below.drew | apply below_drewN | (refine Below.alloc ?_ (by (try simp) <;> omega) _) | (refine Below.setCell ?_ (by (try simp) <;> omega) _)))⟩
  · rw [decide_eq_false (show ¬ (m ≤ 3 ∧ m ≤ s ∧ s ≤ 5) from fun c => h1 c.1)]
    go_enter Try.func138, Try.ntmps138
    go_wp2
    go_ret
    exact ⟨rfl, by (repeat (first | exact Below.refl _ _ | assumption | refine bchain (by assumption) ?_ | refine balloc ?_ _ | apply Below.drew | apply below_drewN | (refine Below.alloc ?_ (by (try simp) <;> omega) _) | (refine Below.setCell ?_ (by (try simp) <;> omega) _)))⟩
theorem szz_inv (m f s : Int) (hf : f < 4294967296) (h0 : 0 ≤ f) (hv : ¬ VG m f) :
    Calls Try.prog 98 #[.agg #[.int .i64 m, .int .u32 f], .int .i64 s] w (RetS w ⟨0, 0, 0, []⟩ 1) := by
  obtain ⟨W0, hW0⟩ : ∃ W0, W0 = (w.alloc (.cells #[.int .i64 m, .int .u32 f] 36)).alloc (.cells #[.int .i64 0, .int .u32 0, .int .i64 0, .slice none 0 0] 39) := ⟨_, rfl⟩
  have hbw : Below w.heap.size w W0 := by rw [hW0]; (repeat (first | exact Below.refl _ _ | assumption | refine bchain (by assumption) ?_ | refine balloc ?_ _ | apply Below.drew | apply below_drewN | (refine Below.alloc ?_ (by (try simp) <;> omega) _) | (refine Below.setCell ?_ (by (try simp) <;> omega) _)))
  have sz : ∀ (W : World) (o : Obj), (W.alloc o).heap.size = W.heap.size + 1 := fun W o => by simp
  have hsb : SB W0 (w.heap.size + 1) 0 0 0 (.slice none 0 0) := by rw [hW0, ← sz w (.cells #[.int .i64 m, .int .u32 f] 36)]; exact SB.made _ 0 0 0 _ 39
  clear sz
  replace hW0 := Lib.hid hW0
  go_enter Try.func98, Try.ntmps98
  go_wp2_with fail
  rw [← hW0.out]
  refine (ok_f _ m f hf h0 hv).mono ?_
  rintro r1 w1 ⟨rfl, hb1⟩
  replace hsb := hsb.below hb1
  replace hbw := bchain hb1 hbw
  clear hb1
  obtain ⟨ltO, o0, o1, o2, o3, fO⟩ := id hsb
  go_wp2
  have hF := hsb.all (0) (0) (0) (.slice none 0 0)
  have hBB := ((((hbw.setCell (p := ⟨w.heap.size + 1, 0, none⟩) (by show w.heap.size ≤ w.heap.size + 1; omega) (.int .i64 (0))).setCell (p := ⟨w.heap.size + 1, 1, none⟩) (by show w.heap.size ≤ w.heap.size + 1; omega) (.int .u32 (0))).setCell (p := ⟨w.heap.size + 1, 2, none⟩) (by show w.heap.size ≤ w.heap.size + 1; omega) (.int .i64 (0))).setCell (p := ⟨w.heap.size + 1, 3, none⟩) (by show w.heap.size ≤ w.heap.size + 1; omega) (.slice none 0 0))
  obtain ⟨WW, hWW⟩ : ∃ WW, WW = ((((w1.setCell ⟨w.heap.size + 1, 0, none⟩ (.int .i64 (0))).setCell ⟨w.heap.size + 1, 1, none⟩ (.int .u32 (0))).setCell ⟨w.heap.size + 1, 2, none⟩ (.int .i64 (0))).setCell ⟨w.heap.size + 1, 3, none⟩ (.slice none 0 0)) := ⟨_, rfl⟩
  rw [← hWW] at hF hBB ⊢
  clear hWW
  obtain ⟨_, hF0, hF1, hF2, hF3, _⟩ := hF
  exact bodyPost_ret (v := .tuple #[.agg #[.int .i64 (0), .int .u32 (0), .int .i64 (0), .slice none 0 0], .int .i64 1]) (by simp [results, Try.results98, go_sem, hF0, hF1, hF2, hF3]) rfl ⟨⟨_, rfl, ownT_nil⟩, hBB⟩
theorem szz_ok (m f s : Int) (hv : VG m f) (c : Int) (X : SM) (hc : (frB m s = false ∧ c = 2 ∧ X = ⟨0, 0, 0, []⟩) ∨ (frB m s = true ∧ c = 0 ∧ X = ⟨m, f, s, []⟩)) :
    Calls Try.prog 98 #[.agg #[.int .i64 m, .int .u32 f], .int .i64 s] w (RetS w X c) := by
  have hR := Lib.hid (fun W => sfr_any W m f s)
  obtain ⟨W0, hW0⟩ : ∃ W0, W0 = (w.alloc (.cells #[.int .i64 m, .int .u32 f] 36)).alloc (.cells #[.int .i64 0, .int .u32 0, .int .i64 0, .slice none 0 0] 39) := ⟨_, rfl⟩
  have hbw : Below w.heap.size w W0 := by rw [hW0]; (repeat (first | exact Below.refl _ _ | assumption | refine bchain (by assumption) ?_ | refine balloc ?_ _ | apply Below.drew | apply below_drewN | (refine Below.alloc ?_ (by (try simp) <;> omega) _) | (refine Below.setCell ?_ (by (try simp) <;> omega) _)))
  have sz : ∀ (W : World) (o : Obj), (W.alloc o).heap.size = W.heap.size + 1 := fun W o => by simp
  have hg0 : W0.cell? ⟨w.heap.size, 0, none⟩ = some (.int .i64 m) := by rw [hW0, cOld _ _ _ _ (by simp), cNew _ _ _ _ _ rfl]; rfl
  have hg1 : W0.cell? ⟨w.heap.size, 1, none⟩ = some (.int .u32 f) := by rw [hW0, cOld _ _ _ _ (by simp), cNew _ _ _ _ _ rfl]; rfl
  have hsb : SB W0 (w.heap.size + 1) 0 0 0 (.slice none 0 0) := by rw [hW0, ← sz w (.cells #[.int .i64 m, .int .u32 f] 36)]; exact SB.made _ 0 0 0 _ 39
  clear sz
  replace hW0 := Lib.hid hW0
  rcases hc with ⟨hb, rfl, rfl⟩ | ⟨hb, rfl, rfl⟩
  all_goals
    rw [hb] at hR
    clear hb
    go_enter Try.func98, Try.ntmps98
    go_wp2_with fail
    rw [← hW0.out]
    refine (ok_t _ m f hv).mono ?_
    rintro r1 w1 ⟨rfl, hb1⟩
    replace hg0 := (hb1.cell (p := ⟨w.heap.size, 0, none⟩) (by have := hsb.lt; show w.heap.size < _; omega)).trans hg0
    replace hg1 := (hb1.cell (p := ⟨w.heap.size, 1, none⟩) (by have := hsb.lt; show w.heap.size < _; omega)).trans hg1
    replace hsb := hsb.below hb1
    replace hbw := bchain hb1 hbw
    clear hb1
    go_wp2_with fail
    refine (hR.out _).mono ?_
    rintro r2 w2 ⟨rfl, hb2⟩
    replace hg0 := (hb2.cell (p := ⟨w.heap.size, 0, none⟩) (by have := hsb.lt; show w.heap.size < _; omega)).trans hg0
    replace hg1 := (hb2.cell (p := ⟨w.heap.size, 1, none⟩) (by have := hsb.lt; show w.heap.size < _; omega)).trans hg1
    replace hsb := hsb.below hb2
    replace hbw := bchain hb2 hbw
    clear hb2
    obtain ⟨ltO, o0, o1, o2, o3, fO⟩ := id hsb
    go_wp2
  ·
    have hF := hsb.all (0) (0) (0) (.slice none 0 0)
    have hBB := ((((hbw.setCell (p := ⟨w.heap.size + 1, 0, none⟩) (by show w.heap.size ≤ w.heap.size + 1; omega) (.int .i64 (0))).setCell (p := ⟨w.heap.size + 1, 1, none⟩) (by show w.heap.size ≤ w.heap.size + 1; omega) (.int .u32 (0))).setCell (p := ⟨w.heap.size + 1, 2, none⟩) (by show w.heap.size ≤ w.heap.size + 1; omega) (.int .i64 (0))).setCell (p := ⟨w.heap.size + 1, 3, none⟩) (by show w.heap.size ≤ w.heap.size + 1; omega) (.slice none 0 0))
    obtain ⟨WW, hWW⟩ : ∃ WW, WW = ((((w2.setCell ⟨w.heap.size + 1, 0, none⟩ (.int .i64 (0))).setCell ⟨w.heap.size + 1, 1, none⟩ (.int .u32 (0))).setCell ⟨w.heap.size + 1, 2, none⟩ (.int .i64 (0))).setCell ⟨w.heap.size + 1, 3, none⟩ (.slice none 0 0)) := ⟨_, rfl⟩
    rw [← hWW] at hF hBB ⊢
    clear hWW
    obtain ⟨_, hF0, hF1, hF2, hF3, _⟩ := hF
    exact bodyPost_ret (v := .tuple #[.agg #[.int .i64 (0), .int .u32 (0), .int .i64 (0), .slice none 0 0], .int .i64 2]) (by simp [results, Try.results98, go_sem, hF0, hF1, hF2, hF3]) rfl ⟨⟨_, rfl, ownT_nil⟩, hBB⟩
  ·
    have hF := hsb.all (m) (f) (s) (.slice none 0 0)
    have hBB := ((((hbw.setCell (p := ⟨w.heap.size + 1, 0, none⟩) (by show w.heap.size ≤ w.heap.size + 1; omega) (.int .i64 (m))).setCell (p := ⟨w.heap.size + 1, 1, none⟩) (by show w.heap.size ≤ w.heap.size + 1; omega) (.int .u32 (f))).setCell (p := ⟨w.heap.size + 1, 2, none⟩) (by show w.heap.size ≤ w.heap.size + 1; omega) (.int .i64 (s))).setCell (p := ⟨w.heap.size + 1, 3, none⟩) (by show w.heap.size ≤ w.heap.size + 1; omega) (.slice none 0 0))
    obtain ⟨WW, hWW⟩ : ∃ WW, WW = ((((w2.setCell ⟨w.heap.size + 1, 0, none⟩ (.int .i64 (m))).setCell ⟨w.heap.size + 1, 1, none⟩ (.int .u32 (f))).setCell ⟨w.heap.size + 1, 2, none⟩ (.int .i64 (s))).setCell ⟨w.heap.size + 1, 3, none⟩ (.slice none 0 0)) := ⟨_, rfl⟩
    rw [← hWW] at hF hBB ⊢
    clear hWW
    obtain ⟨_, hF0, hF1, hF2, hF3, _⟩ := hF
    exact bodyPost_ret (v := .tuple #[.agg #[.int .i64 (m), .int .u32 (f), .int .i64 (s), .slice none 0 0], .int .i64 0]) (by simp [results, Try.results98, go_sem, hF0, hF1, hF2, hF3]) rfl ⟨⟨_, rfl, ownT_nil⟩, hBB⟩
end
end Go.Proofs.Ytfpoekdcedbciaa
