/-
  EVEN PATTERNS: the program's contract and the model's.
-/
import Derived.Test.YtfnjgdocmfmfgaaPr
namespace Go.Proofs.Ytfnjgdocmfmfgaa
open Go.RowKit
set_option maxRecDepth 100000
theorem low_one (k : Nat) (hk : 1 ≤ k ∧ k ≤ 4) : Fr.low 1 (k : Int) = some (1, (k : Int)) := by
  have hc : k = 1 ∨ k = 2 ∨ k = 3 ∨ k = 4 := by omega
  rcases hc with rfl | rfl | rfl | rfl <;> rfl
section
variable (w : World)
theorem iev_inv (n e s : Int) (hV : ∀ W, Calls Try.prog 51 #[.agg #[.int .i64 n, .int .u32 e]] W fun r w' => r = .returned (.bool false) ∧ Below W.heap.size W w') :
    Calls Try.prog 22 #[.agg #[.int .i64 n, .int .u32 e], .int .u32 s] w (RetP w ⟨0, 0, 0, []⟩ 1) := by
  unfold RetP
  dsimp only
  replace hV := Lib.hid hV
  obtain ⟨W0, hW0⟩ : ∃ W0, W0 = (w.alloc (.cells #[.int .i64 n, .int .u32 e] 30)).alloc (.cells #[.int .i64 0, .int .u32 0, .int .u32 0, .slice none 0 0] 33) := ⟨_, rfl⟩
  have hB0 : Below w.heap.size w W0 := by rw [hW0]; (repeat (first | exact Below.refl _ _ | assumption | refine bchain (by assumption) ?_ | refine balloc ?_ _ | apply Below.drew | apply below_drewN | (refine Below.alloc ?_ (by (try simp) <;> omega) _) | (refine Below.setCell ?_ (by (try simp) <;> omega) _)))
  have sz : (w.alloc (.cells #[.int .i64 n, .int .u32 e] 30)).heap.size = w.heap.size + 1 := by simp
  have g0 : W0.cell? ⟨w.heap.size, 0, none⟩ = some (.int .i64 n) := by rw [hW0]; exact ((balloc (Below.refl _ _) _).cell (p := ⟨w.heap.size, 0, none⟩) (by rw [sz]; show w.heap.size < _; omega)).trans (by rw [World.cell?_alloc_new]; rfl)
  have g1 : W0.cell? ⟨w.heap.size, 1, none⟩ = some (.int .u32 e) := by rw [hW0]; exact ((balloc (Below.refl _ _) _).cell (p := ⟨w.heap.size, 1, none⟩) (by rw [sz]; show w.heap.size < _; omega)).trans (by rw [World.cell?_alloc_new]; rfl)
  have k1 : PB W0 (w.heap.size + 1) 0 0 0 (.slice none 0 0) := by rw [hW0, ← sz]; exact PB.made _ 0 0 0 _ _
  have hlt : w.heap.size < W0.heap.size := by have := k1.lt; omega
  replace hW0 := Lib.hid hW0
  clear sz
  go_enter Try.func22, Try.ntmps22
  go_wp2_with fail
  rw [← hW0.out]
  go_wp2_with fail
  refine (hV.out _).mono ?_
  rintro r1 w1 ⟨rfl, hb1⟩
  have hsb := k1.below hb1
  have hbw := bchain hb1 hB0
  obtain ⟨_, q0, q1, q2, q3, fR⟩ := id hsb
  clear g0 g1 k1 hB0
  go_wp2
  clear q0 q1 q2 q3 fR
  have hF := hsb.all (0) (0) (0) (.slice none 0 0)
  have hBB := ((((hbw.setCell (p := ⟨w.heap.size + 1, 0, none⟩) (by show w.heap.size ≤ w.heap.size + 1; omega) (.int .i64 (0))).setCell (p := ⟨w.heap.size + 1, 1, none⟩) (by show w.heap.size ≤ w.heap.size + 1; omega) (.int .u32 (0))).setCell (p := ⟨w.heap.size + 1, 2, none⟩) (by show w.heap.size ≤ w.heap.size + 1; omega) (.int .u32 (0))).setCell (p := ⟨w.heap.size + 1, 3, none⟩) (by show w.heap.size ≤ w.heap.size + 1; omega) (.slice none 0 0))
  obtain ⟨WW, hWW⟩ : ∃ WW, WW = ((((w1.setCell ⟨w.heap.size + 1, 0, none⟩ (.int .i64 (0))).setCell ⟨w.heap.size + 1, 1, none⟩ (.int .u32 (0))).setCell ⟨w.heap.size + 1, 2, none⟩ (.int .u32 (0))).setCell ⟨w.heap.size + 1, 3, none⟩ (.slice none 0 0)) := ⟨_, rfl⟩
  rw [← hWW] at hF hBB ⊢
  clear hWW
  obtain ⟨_, hF0, hF1, hF2, hF3, _⟩ := hF
  exact bodyPost_ret (v := .tuple #[.agg #[.int .i64 (0), .int .u32 (0), .int .u32 (0), .slice none 0 0], .int .i64 1]) (by simp [results, Try.results22, go_sem, hF0, hF1, hF2, hF3]) rfl ⟨⟨_, rfl, ownF_nil⟩, hBB⟩
theorem sev_inv (n e s : Int) (hV : ∀ W, Calls Try.prog 56 #[.agg #[.int .i64 n, .int .u32 e]] W fun r w' => r = .returned (.bool false) ∧ Below W.heap.size W w') :
    Calls Try.prog 20 #[.agg #[.int .i64 n, .int .u32 e], .int .u32 s] w (RetP w ⟨0, 0, 0, []⟩ 1) := by
  unfold RetP
  dsimp only
  replace hV := Lib.hid hV
  obtain ⟨W0, hW0⟩ : ∃ W0, W0 = (w.alloc (.cells #[.int .i64 n, .int .u32 e] 30)).alloc (.cells #[.int .i64 0, .int .u32 0, .int .u32 0, .slice none 0 0] 33) := ⟨_, rfl⟩
  have hB0 : Below w.heap.size w W0 := by rw [hW0]; (repeat (first | exact Below.refl _ _ | assumption | refine bchain (by assumption) ?_ | refine balloc ?_ _ | apply Below.drew | apply below_drewN | (refine Below.alloc ?_ (by (try simp) <;> omega) _) | (refine Below.setCell ?_ (by (try simp) <;> omega) _)))
  have sz : (w.alloc (.cells #[.int .i64 n, .int .u32 e] 30)).heap.size = w.heap.size + 1 := by simp
  have g0 : W0.cell? ⟨w.heap.size, 0, none⟩ = some (.int .i64 n) := by rw [hW0]; exact ((balloc (Below.refl _ _) _).cell (p := ⟨w.heap.size, 0, none⟩) (by rw [sz]; show w.heap.size < _; omega)).trans (by rw [World.cell?_alloc_new]; rfl)
  have g1 : W0.cell? ⟨w.heap.size, 1, none⟩ = some (.int .u32 e) := by rw [hW0]; exact ((balloc (Below.refl _ _) _).cell (p := ⟨w.heap.size, 1, none⟩) (by rw [sz]; show w.heap.size < _; omega)).trans (by rw [World.cell?_alloc_new]; rfl)
  have k1 : PB W0 (w.heap.size + 1) 0 0 0 (.slice none 0 0) := by rw [hW0, ← sz]; exact PB.made _ 0 0 0 _ _
  have hlt : w.heap.size < W0.heap.size := by have := k1.lt; omega
  replace hW0 := Lib.hid hW0
  clear sz
  go_enter Try.func20, Try.ntmps20
  go_wp2_with fail
  rw [← hW0.out]
  go_wp2_with fail
  refine (hV.out _).mono ?_
  rintro r1 w1 ⟨rfl, hb1⟩
  have hsb := k1.below hb1
  have hbw := bchain hb1 hB0
  obtain ⟨_, q0, q1, q2, q3, fR⟩ := id hsb
  clear g0 g1 k1 hB0
  go_wp2
  clear q0 q1 q2 q3 fR
  have hF := hsb.all (0) (0) (0) (.slice none 0 0)
  have hBB := ((((hbw.setCell (p := ⟨w.heap.size + 1, 0, none⟩) (by show w.heap.size ≤ w.heap.size + 1; omega) (.int .i64 (0))).setCell (p := ⟨w.heap.size + 1, 1, none⟩) (by show w.heap.size ≤ w.heap.size + 1; omega) (.int .u32 (0))).setCell (p := ⟨w.heap.size + 1, 2, none⟩) (by show w.heap.size ≤ w.heap.size + 1; omega) (.int .u32 (0))).setCell (p := ⟨w.heap.size + 1, 3, none⟩) (by show w.heap.size ≤ w.heap.size + 1; omega) (.slice none 0 0))
  obtain ⟨WW, hWW⟩ : ∃ WW, WW = ((((w1.setCell ⟨w.heap.size + 1, 0, none⟩ (.int .i64 (0))).setCell ⟨w.heap.size + 1, 1, none⟩ (.int .u32 (0))).setCell ⟨w.heap.size + 1, 2, none⟩ (.int .u32 (0))).setCell ⟨w.heap.size + 1, 3, none⟩ (.slice none 0 0)) := ⟨_, rfl⟩
  rw [← hWW] at hF hBB ⊢
  clear hWW
  obtain ⟨_, hF0, hF1, hF2, hF3, _⟩ := hF
  exact bodyPost_ret (v := .tuple #[.agg #[.int .i64 (0), .int .u32 (0), .int .u32 (0), .slice none 0 0], .int .i64 1]) (by simp [results, Try.results20, go_sem, hF0, hF1, hF2, hF3]) rfl ⟨⟨_, rfl, ownF_nil⟩, hBB⟩
theorem iev_rng (n e s : Int) (h0 : 0 ≤ s) (h1 : s < 4294967296) (hp : hpB n s = false) (hV : ∀ W, Calls Try.prog 51 #[.agg #[.int .i64 n, .int .u32 e]] W fun r w' => r = .returned (.bool true) ∧ Below W.heap.size W w') :
    Calls Try.prog 22 #[.agg #[.int .i64 n, .int .u32 e], .int .u32 s] w (RetP w ⟨0, 0, 0, []⟩ 2) := by
  unfold RetP
  dsimp only
  have hP := Lib.hid (fun W => hp_any W n e s h0 h1)
  rw [hp] at hP
  replace hV := Lib.hid hV
  clear hp h0 h1
  obtain ⟨W0, hW0⟩ : ∃ W0, W0 = (w.alloc (.cells #[.int .i64 n, .int .u32 e] 30)).alloc (.cells #[.int .i64 0, .int .u32 0, .int .u32 0, .slice none 0 0] 33) := ⟨_, rfl⟩
  have hB0 : Below w.heap.size w W0 := by rw [hW0]; (repeat (first | exact Below.refl _ _ | assumption | refine bchain (by assumption) ?_ | refine balloc ?_ _ | apply Below.drew | apply below_drewN | (refine Below.alloc ?_ (by (try simp) <;> omega) _) | (refine Below.setCell ?_ (by (try simp) <;> omega) _)))
  have sz : (w.alloc (.cells #[.int .i64 n, .int .u32 e] 30)).heap.size = w.heap.size + 1 := by simp
  have g0 : W0.cell? ⟨w.heap.size, 0, none⟩ = some (.int .i64 n) := by rw [hW0]; exact ((balloc (Below.refl _ _) _).cell (p := ⟨w.heap.size, 0, none⟩) (by rw [sz]; show w.heap.size < _; omega)).trans (by rw [World.cell?_alloc_new]; rfl)
  have g1 : W0.cell? ⟨w.heap.size, 1, none⟩ = some (.int .u32 e) := by rw [hW0]; exact ((balloc (Below.refl _ _) _).cell (p := ⟨w.heap.size, 1, none⟩) (by rw [sz]; show w.heap.size < _; omega)).trans (by rw [World.cell?_alloc_new]; rfl)
  have k1 : PB W0 (w.heap.size + 1) 0 0 0 (.slice none 0 0) := by rw [hW0, ← sz]; exact PB.made _ 0 0 0 _ _
  have hlt : w.heap.size < W0.heap.size := by have := k1.lt; omega
  replace hW0 := Lib.hid hW0
  clear sz
  go_enter Try.func22, Try.ntmps22
  go_wp2_with fail
  rw [← hW0.out]
  go_wp2_with fail
  refine (hV.out _).mono ?_
  rintro r1 w1 ⟨rfl, hb1⟩
  have x0 := (hb1.cell (p := ⟨w.heap.size, 0, none⟩) hlt).trans g0
  have x1 := (hb1.cell (p := ⟨w.heap.size, 1, none⟩) hlt).trans g1
  clear g0 g1
  go_wp2_with fail
  refine (hP.out _).mono ?_
  rintro r2 w2 ⟨rfl, hb2⟩
  have hsb := (k1.below hb1).below hb2
  have hbw := bchain hb2 (bchain hb1 hB0)
  obtain ⟨_, q0, q1, q2, q3, fR⟩ := id hsb
  clear x0 x1 k1 hB0
  go_wp2
  clear q0 q1 q2 q3 fR
  have hF := hsb.all (0) (0) (0) (.slice none 0 0)
  have hBB := ((((hbw.setCell (p := ⟨w.heap.size + 1, 0, none⟩) (by show w.heap.size ≤ w.heap.size + 1; omega) (.int .i64 (0))).setCell (p := ⟨w.heap.size + 1, 1, none⟩) (by show w.heap.size ≤ w.heap.size + 1; omega) (.int .u32 (0))).setCell (p := ⟨w.heap.size + 1, 2, none⟩) (by show w.heap.size ≤ w.heap.size + 1; omega) (.int .u32 (0))).setCell (p := ⟨w.heap.size + 1, 3, none⟩) (by show w.heap.size ≤ w.heap.size + 1; omega) (.slice none 0 0))
  obtain ⟨WW, hWW⟩ : ∃ WW, WW = ((((w2.setCell ⟨w.heap.size + 1, 0, none⟩ (.int .i64 (0))).setCell ⟨w.heap.size + 1, 1, none⟩ (.int .u32 (0))).setCell ⟨w.heap.size + 1, 2, none⟩ (.int .u32 (0))).setCell ⟨w.heap.size + 1, 3, none⟩ (.slice none 0 0)) := ⟨_, rfl⟩
  rw [← hWW] at hF hBB ⊢
  clear hWW
  obtain ⟨_, hF0, hF1, hF2, hF3, _⟩ := hF
  exact bodyPost_ret (v := .tuple #[.agg #[.int .i64 (0), .int .u32 (0), .int .u32 (0), .slice none 0 0], .int .i64 2]) (by simp [results, Try.results22, go_sem, hF0, hF1, hF2, hF3]) rfl ⟨⟨_, rfl, ownF_nil⟩, hBB⟩
theorem sev_rng (n e s : Int) (h0 : 0 ≤ s) (h1 : s < 4294967296) (hp : hpB n s = false) (hV : ∀ W, Calls Try.prog 56 #[.agg #[.int .i64 n, .int .u32 e]] W fun r w' => r = .returned (.bool true) ∧ Below W.heap.size W w') :
    Calls Try.prog 20 #[.agg #[.int .i64 n, .int .u32 e], .int .u32 s] w (RetP w ⟨0, 0, 0, []⟩ 2) := by
  unfold RetP
  dsimp only
  have hP := Lib.hid (fun W => fm_any W n e s h0 h1)
  rw [hp] at hP
  replace hV := Lib.hid hV
  clear hp h0 h1
  obtain ⟨W0, hW0⟩ : ∃ W0, W0 = (w.alloc (.cells #[.int .i64 n, .int .u32 e] 30)).alloc (.cells #[.int .i64 0, .int .u32 0, .int .u32 0, .slice none 0 0] 33) := ⟨_, rfl⟩
  have hB0 : Below w.heap.size w W0 := by rw [hW0]; (repeat (first | exact Below.refl _ _ | assumption | refine bchain (by assumption) ?_ | refine balloc ?_ _ | apply Below.drew | apply below_drewN | (refine Below.alloc ?_ (by (try simp) <;> omega) _) | (refine Below.setCell ?_ (by (try simp) <;> omega) _)))
  have sz : (w.alloc (.cells #[.int .i64 n, .int .u32 e] 30)).heap.size = w.heap.size + 1 := by simp
  have g0 : W0.cell? ⟨w.heap.size, 0, none⟩ = some (.int .i64 n) := by rw [hW0]; exact ((balloc (Below.refl _ _) _).cell (p := ⟨w.heap.size, 0, none⟩) (by rw [sz]; show w.heap.size < _; omega)).trans (by rw [World.cell?_alloc_new]; rfl)
  have g1 : W0.cell? ⟨w.heap.size, 1, none⟩ = some (.int .u32 e) := by rw [hW0]; exact ((balloc (Below.refl _ _) _).cell (p := ⟨w.heap.size, 1, none⟩) (by rw [sz]; show w.heap.size < _; omega)).trans (by rw [World.cell?_alloc_new]; rfl)
  have k1 : PB W0 (w.heap.size + 1) 0 0 0 (.slice none 0 0) := by rw [hW0, ← sz]; exact PB.made _ 0 0 0 _ _
  have hlt : w.heap.size < W0.heap.size := by have := k1.lt; omega
  replace hW0 := Lib.hid hW0
  clear sz
  go_enter Try.func20, Try.ntmps20
  go_wp2_with fail
  rw [← hW0.out]
  go_wp2_with fail
  refine (hV.out _).mono ?_
  rintro r1 w1 ⟨rfl, hb1⟩
  have x0 := (hb1.cell (p := ⟨w.heap.size, 0, none⟩) hlt).trans g0
  have x1 := (hb1.cell (p := ⟨w.heap.size, 1, none⟩) hlt).trans g1
  clear g0 g1
  go_wp2_with fail
  refine (hP.out _).mono ?_
  rintro r2 w2 ⟨rfl, hb2⟩
  have hsb := (k1.below hb1).below hb2
  have hbw := bchain hb2 (bchain hb1 hB0)
  obtain ⟨_, q0, q1, q2, q3, fR⟩ := id hsb
  clear x0 x1 k1 hB0
  go_wp2
  clear q0 q1 q2 q3 fR
  have hF := hsb.all (0) (0) (0) (.slice none 0 0)
  have hBB := ((((hbw.setCell (p := ⟨w.heap.size + 1, 0, none⟩) (by show w.heap.size ≤ w.heap.size + 1; omega) (.int .i64 (0))).setCell (p := ⟨w.heap.size + 1, 1, none⟩) (by show w.heap.size ≤ w.heap.size + 1; omega) (.int .u32 (0))).setCell (p := ⟨w.heap.size + 1, 2, none⟩) (by show w.heap.size ≤ w.heap.size + 1; omega) (.int .u32 (0))).setCell (p := ⟨w.heap.size + 1, 3, none⟩) (by show w.heap.size ≤ w.heap.size + 1; omega) (.slice none 0 0))
  obtain ⟨WW, hWW⟩ : ∃ WW, WW = ((((w2.setCell ⟨w.heap.size + 1, 0, none⟩ (.int .i64 (0))).setCell ⟨w.heap.size + 1, 1, none⟩ (.int .u32 (0))).setCell ⟨w.heap.size + 1, 2, none⟩ (.int .u32 (0))).setCell ⟨w.heap.size + 1, 3, none⟩ (.slice none 0 0)) := ⟨_, rfl⟩
  rw [← hWW] at hF hBB ⊢
  clear hWW
  obtain ⟨_, hF0, hF1, hF2, hF3, _⟩ := hF
  exact bodyPost_ret (v := .tuple #[.agg #[.int .i64 (0), .int .u32 (0), .int .u32 (0), .slice none 0 0], .int .i64 2]) (by simp [results, Try.results20, go_sem, hF0, hF1, hF2, hF3]) rfl ⟨⟨_, rfl, ownF_nil⟩, hBB⟩
set_option maxHeartbeats 2000000 in
theorem iev_ok (k : Nat) (e s : Int) (h0 : 0 ≤ s) (h1 : s < 4294967296) (hp : hpB (k : Int) s = true) (hv : VG k e) :
    Calls Try.prog 22 #[.agg #[.int .i64 k, .int .u32 e], .int .u32 s] w (RetP w ⟨k, e, s, List.replicate k (1, (k : Int))⟩ 0) := by
  have hk : 1 ≤ k ∧ k ≤ 4 := by
    unfold hpB at hp
    rw [decide_eq_true_iff] at hp
    omega
  unfold RetP
  dsimp only
  have hP := Lib.hid (fun W => hp_any W (k : Int) e s h0 h1)
  rw [hp] at hP
  have hV := Lib.hid (fun W => valid_t W (k : Int) e hv)
  have hq := fun W => Fr.q_pos W 1 (k : Int) (by omega) (by omega) (by omega)
  rw [low_one k hk] at hq
  have hQ : Hid (∀ W, Calls Try.prog 59 #[.int .i64 1, .int .i64 k] W fun r w' => r = .returned (.agg #[.int .i64 1, .int .i64 k]) ∧ Below W.heap.size W w') := hq
  have hR := Lib.hid (fun W B0 h0 h1 => rep_any W k hk B0 1 1 (k : Int) h0 h1)
  clear hq hp h0 h1 hv
  obtain ⟨n, hn⟩ : ∃ n : Int, (k : Int) = n := ⟨_, rfl⟩
  rw [hn] at hP hV hQ hR ⊢
  obtain ⟨W0, hW0⟩ : ∃ W0, W0 = (w.alloc (.cells #[.int .i64 n, .int .u32 e] 30)).alloc (.cells #[.int .i64 0, .int .u32 0, .int .u32 0, .slice none 0 0] 33) := ⟨_, rfl⟩
  have hB0 : Below w.heap.size w W0 := by rw [hW0]; (repeat (first | exact Below.refl _ _ | assumption | refine bchain (by assumption) ?_ | refine balloc ?_ _ | apply Below.drew | apply below_drewN | (refine Below.alloc ?_ (by (try simp) <;> omega) _) | (refine Below.setCell ?_ (by (try simp) <;> omega) _)))
  have sz : (w.alloc (.cells #[.int .i64 n, .int .u32 e] 30)).heap.size = w.heap.size + 1 := by simp
  have g0 : W0.cell? ⟨w.heap.size, 0, none⟩ = some (.int .i64 n) := by rw [hW0]; exact ((balloc (Below.refl _ _) _).cell (p := ⟨w.heap.size, 0, none⟩) (by rw [sz]; show w.heap.size < _; omega)).trans (by rw [World.cell?_alloc_new]; rfl)
  have g1 : W0.cell? ⟨w.heap.size, 1, none⟩ = some (.int .u32 e) := by rw [hW0]; exact ((balloc (Below.refl _ _) _).cell (p := ⟨w.heap.size, 1, none⟩) (by rw [sz]; show w.heap.size < _; omega)).trans (by rw [World.cell?_alloc_new]; rfl)
  have k1 : PB W0 (w.heap.size + 1) 0 0 0 (.slice none 0 0) := by rw [hW0, ← sz]; exact PB.made _ 0 0 0 _ _
  have hlt : w.heap.size < W0.heap.size := by have := k1.lt; omega
  replace hW0 := Lib.hid hW0
  clear sz
  go_enter Try.func22, Try.ntmps22
  go_wp2_with fail
  rw [← hW0.out]
  go_wp2_with fail
  refine (hV.out _).mono ?_
  rintro r1 w1 ⟨rfl, hb1⟩
  have x0 := (hb1.cell (p := ⟨w.heap.size, 0, none⟩) hlt).trans g0
  have x1 := (hb1.cell (p := ⟨w.heap.size, 1, none⟩) hlt).trans g1
  clear g0 g1
  go_wp2_with fail
  refine (hP.out _).mono ?_
  rintro r2 w2 ⟨rfl, hb2⟩
  have hlt1 := Nat.lt_of_lt_of_le hlt hb1.size
  have y0 := (hb2.cell (p := ⟨w.heap.size, 0, none⟩) hlt1).trans x0
  have y1 := (hb2.cell (p := ⟨w.heap.size, 1, none⟩) hlt1).trans x1
  have hlt2 := Nat.lt_of_lt_of_le hlt1 hb2.size
  have k2 := (k1.below hb1).below hb2
  have hzR := k1.lt
  have hz12 : W0.heap.size ≤ w2.heap.size := Nat.le_trans hb1.size hb2.size
  have hB2 := bchain hb2 (bchain hb1 hB0)
  clear x0 x1 k1 hB0 hb1 hb2
  go_wp2_with fail
  go_region_held3 (fun A => A.cell? ⟨w.heap.size, 0, none⟩ = some (.int .i64 n))
    (exact old_cell hlt2 y0 (by (repeat (first | exact Below.refl _ _ | assumption | refine bchain (by assumption) ?_ | refine balloc ?_ _ | apply Below.drew | apply below_drewN | (refine Below.alloc ?_ (by (try simp) <;> omega) _) | (refine Below.setCell ?_ (by (try simp) <;> omega) _)))))
    (first
    | (go_at_call 59; refine (hQ.out _).mono ?_; rintro r3 w3 ⟨rfl, hb3⟩; have hb3' : Below w2.heap.size w2 w3 := bchain hb3 (Below.refl _ w2).drew; have z0 := (hb3'.cell (p := ⟨w.heap.size, 0, none⟩) hlt2).trans y0)
    | (go_at_call 58; refine (hR.out _ _ (by rw [World.cell?_alloc_new]; rfl) (by rw [World.cell?_alloc_new]; rfl)).mono ?_; rintro r4 w4 ⟨⟨u4, rfl, hU⟩, hb4⟩; obtain ⟨av, cv, rfl, _⟩ := id hU; have hb24 : Below w2.heap.size w2 w4 := bchain hb4 (balloc hb3' _)))
  have hsb := k2.below hb24
  have hbw := bchain hb24 hB2
  have hown : OwnF W0 w4 (.slice av k cv) (List.replicate k (1, n)) := by
    rw [List.length_replicate] at hU
    exact OwnF.mono hU (by have h5 := hb3'.size; have h6 := hlt2; simp; omega)
  have hz5 : w.heap.size + 1 < W0.heap.size := hzR
  have hw5 : w.heap.size ≤ W0.heap.size := by omega
  have v0 := old_cell hlt2 y0 hb24
  have v1 := old_cell hlt2 y1 hb24
  obtain ⟨_, q0, q1, q2, q3, fR⟩ := id hsb
  clear y0 y1 z0 hU hb4 hb3 k2
  go_wp2
  clear q0 q1 q2 q3 fR v0 v1
  have hF := hsb.all (n) (e) (s) (.slice av k cv)
  have hBB := ((((hbw.setCell (p := ⟨w.heap.size + 1, 0, none⟩) (by show w.heap.size ≤ w.heap.size + 1; omega) (.int .i64 (n))).setCell (p := ⟨w.heap.size + 1, 1, none⟩) (by show w.heap.size ≤ w.heap.size + 1; omega) (.int .u32 (e))).setCell (p := ⟨w.heap.size + 1, 2, none⟩) (by show w.heap.size ≤ w.heap.size + 1; omega) (.int .u32 (s))).setCell (p := ⟨w.heap.size + 1, 3, none⟩) (by show w.heap.size ≤ w.heap.size + 1; omega) (.slice av k cv))
  obtain ⟨WW, hWW⟩ : ∃ WW, WW = ((((w4.setCell ⟨w.heap.size + 1, 0, none⟩ (.int .i64 (n))).setCell ⟨w.heap.size + 1, 1, none⟩ (.int .u32 (e))).setCell ⟨w.heap.size + 1, 2, none⟩ (.int .u32 (s))).setCell ⟨w.heap.size + 1, 3, none⟩ (.slice av k cv)) := ⟨_, rfl⟩
  have hOW := OwnF.four hown hz5 hw5 (.int .i64 (n)) (.int .u32 (e)) (.int .u32 (s)) (.slice av k cv)
  rw [← hWW] at hF hBB hOW ⊢
  clear hWW
  obtain ⟨_, hF0, hF1, hF2, hF3, _⟩ := hF
  exact bodyPost_ret (v := .tuple #[.agg #[.int .i64 (n), .int .u32 (e), .int .u32 (s), .slice av k cv], .int .i64 0]) (by simp [results, Try.results22, go_sem, hF0, hF1, hF2, hF3]) rfl ⟨⟨_, rfl, hOW⟩, hBB⟩
/-- the box's block is as it was -/
theorem PB.same {W W' : World} {B : Nat} {n e s : Int} {u : Value} (h : PB W B n e s u) (hs : W'.heap[B]? = W.heap[B]?) (hz : W.heap.size ≤ W'.heap.size) : PB W' B n e s u :=
  ⟨Nat.lt_of_lt_of_le h.lt hz, (World.cell?_of_block (a := ⟨B, 0, none⟩) hs).trans h.c0, (World.cell?_of_block (a := ⟨B, 1, none⟩) hs).trans h.c1, (World.cell?_of_block (a := ⟨B, 2, none⟩) hs).trans h.c2, (World.cell?_of_block (a := ⟨B, 3, none⟩) hs).trans h.c3, fun o => (World.frozen?_of_block (a := ⟨B, o, none⟩) hs).trans (h.fz o)⟩
/-- a row that another block's store leaves alone -/
theorem row_far {W : World} {base : Nat} {t : TypeId} {sz : Nat} {v : Value} {n : Nat} {xs : List Value} (h : W.ownsRow base t sz v n xs) {a : Addr} (ha : a.block < base) (u : Value) : (W.setCell a u).ownsRow base t sz v n xs :=
  h.kept (row := some a.block) ⟨rfl, rfl, rfl, by simp, fun k hk hne => Below.heap_setCell _ _ _ _ (fun c => hne (by rw [c]))⟩ (by
    cases hv : v.ownBlock with
    | none => exact .inl rfl
    | some g => exact .inr (fun c => by injection c with c; have := (h.lt g hv).1; omega))
theorem replicate_snoc (k : Nat) (x : Int × Int) : List.replicate (k + 1) x = List.replicate k x ++ [x] := by
  rw [List.replicate_succ']
set_option maxHeartbeats 2000000 in
theorem sev_ok (k : Nat) (e s : Int) (h0 : 0 ≤ s) (h1 : s < 4294967296) (hp : hpB (k : Int) s = true) (hv : VG k e) :
    Calls Try.prog 20 #[.agg #[.int .i64 k, .int .u32 e], .int .u32 s] w (RetP w ⟨k, e, s, List.replicate k (1, (k : Int))⟩ 0) := by
  have hk : 1 ≤ k ∧ k ≤ 4 := by
    unfold hpB at hp
    rw [decide_eq_true_iff] at hp
    omega
  unfold RetP
  dsimp only
  have hP := Lib.hid (fun W => fm_any W (k : Int) e s h0 h1)
  rw [hp] at hP
  have hV := Lib.hid (fun W => ok_t W (k : Int) e hv)
  clear hp h0 h1 hv
  obtain ⟨i0, hi, hz0, hz1, hz2⟩ := info_parts info_frac
  replace hi := Lib.hid hi
  replace hz0 := Lib.hid hz0
  replace hz1 := Lib.hid hz1
  replace hz2 := Lib.hid hz2
  obtain ⟨n, hn⟩ : ∃ n : Int, (k : Int) = n := ⟨_, rfl⟩
  rw [hn] at hP hV ⊢
  obtain ⟨W0, hW0⟩ : ∃ W0, W0 = (w.alloc (.cells #[.int .i64 n, .int .u32 e] 30)).alloc (.cells #[.int .i64 0, .int .u32 0, .int .u32 0, .slice none 0 0] 33) := ⟨_, rfl⟩
  have hB0 : Below w.heap.size w W0 := by rw [hW0]; (repeat (first | exact Below.refl _ _ | assumption | refine bchain (by assumption) ?_ | refine balloc ?_ _ | apply Below.drew | apply below_drewN | (refine Below.alloc ?_ (by (try simp) <;> omega) _) | (refine Below.setCell ?_ (by (try simp) <;> omega) _)))
  have sz : (w.alloc (.cells #[.int .i64 n, .int .u32 e] 30)).heap.size = w.heap.size + 1 := by simp
  have g0 : W0.cell? ⟨w.heap.size, 0, none⟩ = some (.int .i64 n) := by rw [hW0]; exact ((balloc (Below.refl _ _) _).cell (p := ⟨w.heap.size, 0, none⟩) (by rw [sz]; show w.heap.size < _; omega)).trans (by rw [World.cell?_alloc_new]; rfl)
  have g1 : W0.cell? ⟨w.heap.size, 1, none⟩ = some (.int .u32 e) := by rw [hW0]; exact ((balloc (Below.refl _ _) _).cell (p := ⟨w.heap.size, 1, none⟩) (by rw [sz]; show w.heap.size < _; omega)).trans (by rw [World.cell?_alloc_new]; rfl)
  have k1 : PB W0 (w.heap.size + 1) 0 0 0 (.slice none 0 0) := by rw [hW0, ← sz]; exact PB.made _ 0 0 0 _ _
  have hlt : w.heap.size < W0.heap.size := by have := k1.lt; omega
  replace hW0 := Lib.hid hW0
  clear sz
  go_enter Try.func20, Try.ntmps20
  go_wp2_with fail
  rw [← hW0.out]
  go_wp2_with fail
  refine (hV.out _).mono ?_
  rintro r1 w1 ⟨rfl, hb1⟩
  have x0 := (hb1.cell (p := ⟨w.heap.size, 0, none⟩) hlt).trans g0
  have x1 := (hb1.cell (p := ⟨w.heap.size, 1, none⟩) hlt).trans g1
  clear g0 g1
  go_wp2_with fail
  refine (hP.out _).mono ?_
  rintro r2 w2 ⟨rfl, hb2⟩
  have hlt1 := Nat.lt_of_lt_of_le hlt hb1.size
  have y0 := (hb2.cell (p := ⟨w.heap.size, 0, none⟩) hlt1).trans x0
  have y1 := (hb2.cell (p := ⟨w.heap.size, 1, none⟩) hlt1).trans x1
  have hlt2 := Nat.lt_of_lt_of_le hlt1 hb2.size
  have k2 := (k1.below hb1).below hb2
  have hB2 := bchain hb2 (bchain hb1 hB0)
  have hz2' := k2.lt
  clear x0 x1 k1 hB0 hb1 hb2
  obtain ⟨W3, hW3⟩ : ∃ W3, W3 = w2.alloc (.cells #[.int .i64 n, .int .u32 e, .int .u32 s, .slice none 0 0] 33) := ⟨_, rfl⟩
  have kP : PB W3 w2.heap.size n e s (.slice none 0 0) := by rw [hW3]; exact PB.made _ _ _ _ _ _
  have b3 : Below w2.heap.size w2 W3 := by rw [hW3]; exact balloc (Below.refl _ _) _
  replace hW3 := Lib.hid hW3
  go_wp2_with fail
  rw [← hW3.out]
  go_wp2_with fail
  have hzz : w2.heap.size < W3.heap.size := kP.lt
  go_loopw [7] (fun i wr => ∃ (j : Nat) (v : Value), j ≤ k ∧ i = .int .i64 j ∧ Hid (PB wr w2.heap.size n e s v) ∧ Hid (wr.ownsRow W3.heap.size 66 2 v j (fsC (List.replicate j (1, n)))) ∧ W3.heap.size ≤ wr.heap.size ∧ Below w2.heap.size w2 wr) (fun i _ => k - (intOf i).toNat)
  case atStart => exact ⟨0, .slice none 0 0, by omega, rfl, kP, World.ownsRow_nil _ _ _ _, Nat.le_refl _, b3⟩
  case round =>
    clear kP b3
    obtain ⟨j, v, hj, rfl, hP2, hrow, hW3r, hB⟩ := hrel
    have v0 := old_cell hlt2 y0 hB
    have v1 := old_cell hlt2 y1 hB
    obtain ⟨ltP, p0, p1, p2, p3, fP⟩ := hP2.out
    by_cases hlt' : j < k
    · have hjn : (j : Int) < n := by omega
      have hd1 : decide ((j : Int) < n) = true := decide_eq_true hjn
      have hnb : w.heap.size ≠ wr.heap.size := by have := hB.size; omega
      have hnp : w2.heap.size ≠ wr.heap.size := by omega
      clear p0 p1 p2
      go_wp2_with (first
        | (at_builtin; refine wpList_append_own _ rfl _ _ 31 rfl W3.heap.size 66 i0 (.agg #[.int .i64 0, .int .i64 0]) 2 16 Try.underlying31 hi.out hz0.out hz1.out hz2.out rfl (by decide) _ _ _ rfl (hrow.out.alloc _) ⟨wr.heap.size, 0, none⟩ 1 1 [.int .i64 1, .int .i64 n] rfl rfl (fun q u hq => by match q, hq with
            | 0, hq => simp at hq; subst hq; rw [show (⟨wr.heap.size, 0, none⟩ : Addr).add 0 = ⟨wr.heap.size, 0, none⟩ from rfl, World.cell?_alloc_new]; rfl
            | 1, hq => simp at hq; subst hq; rw [show (⟨wr.heap.size, 0, none⟩ : Addr).add 1 = ⟨wr.heap.size, 1, none⟩ from rfl, World.cell?_alloc_new]; rfl
            | q + 2, hq => simp at hq) (fun u hu => by simp at hu; rcases hu with rfl | rfl <;> rfl) (by unfold maxLen; omega) (by omega) (by simp; omega) ?_; intro v' w5 hown' hgrow _; obtain ⟨av, cv, rfl, _⟩ := ownV_of_row hown' (Nat.le_refl W3.heap.size); have hP5 := Lib.hid ((hP2.out.below (balloc (Below.refl _ _) _)).same (hgrow.block w2.heap.size (by simp; omega) (fun c => by have := (hrow.out.lt w2.heap.size c.symm).1; omega)) hgrow.size); have hB5 : Below w2.heap.size w2 w5 := (balloc hB _).grown hgrow (by have := hB.size; simp; omega) (fun g hg => by have := (hrow.out.lt g hg).1; omega); obtain ⟨_, z0, z1, z2, z3, fz⟩ := hP5.out; have hz5 := hgrow.size))
      have hP6 : Hid (PB (w5.setCell ⟨w2.heap.size, 3, none⟩ (.slice av (j + 1) cv)) w2.heap.size n e s (.slice av (j + 1) cv)) := hP5.out.putL _
      have hrow6 : Hid ((w5.setCell ⟨w2.heap.size, 3, none⟩ (.slice av (j + 1) cv)).ownsRow W3.heap.size 66 2 (.slice av (j + 1) cv) (j + 1) (fsC (List.replicate (j + 1) (1, n)))) := by
        show World.ownsRow _ _ _ _ _ _ _
        rw [replicate_snoc, fsC_snoc]
        exact row_far hown' hzz _
      have hB6 : Below w2.heap.size w2 (w5.setCell ⟨w2.heap.size, 3, none⟩ (.slice av (j + 1) cv)) := hB5.setCell (p := ⟨w2.heap.size, 3, none⟩) (Nat.le_refl _) _
      have hz6 : W3.heap.size ≤ (w5.setCell ⟨w2.heap.size, 3, none⟩ (.slice av (j + 1) cv)).heap.size := by simp at hz5 ⊢; omega
      clear hP5 hB5 hown' hgrow z0 z1 z2 z3 fz hz5
      go_roundw
      case rel => exact ⟨j + 1, _, by omega, by go_num, hP6, hrow6, hz6, hB6⟩
      case measure => simp [intOf]; omega
    · obtain rfl : j = k := by omega
      have hd1 : decide ((j : Int) < n) = false := decide_eq_false (by omega)
      obtain ⟨av, cv, rfl, _⟩ := ownV_of_row hrow.out (Nat.le_refl W3.heap.size)
      have hsb := k2.below hB
      have hbw := bchain hB hB2
      have hown : OwnF w2 wr (.slice av j cv) (List.replicate j (1, n)) := by
        have h7 := hrow.out
        have h8 : (List.replicate j ((1 : Int), n)).length = j := by simp
        refine ownF_of_row (base := W3.heap.size) (e := 66) ?_ (by omega)
        rw [h8]
        exact h7
      have hz5 : w.heap.size + 1 < w2.heap.size := hz2'
      have hw5 : w.heap.size ≤ w2.heap.size := by omega
      obtain ⟨_, q0, q1, q2, q3, fR⟩ := id hsb
      clear hrow k2
      go_wp2
      clear q0 q1 q2 q3 fR v0 v1 p0 p1 p2 p3 fP
      have hF := hsb.all (n) (e) (s) (.slice av j cv)
      have hBB := ((((hbw.setCell (p := ⟨w.heap.size + 1, 0, none⟩) (by show w.heap.size ≤ w.heap.size + 1; omega) (.int .i64 (n))).setCell (p := ⟨w.heap.size + 1, 1, none⟩) (by show w.heap.size ≤ w.heap.size + 1; omega) (.int .u32 (e))).setCell (p := ⟨w.heap.size + 1, 2, none⟩) (by show w.heap.size ≤ w.heap.size + 1; omega) (.int .u32 (s))).setCell (p := ⟨w.heap.size + 1, 3, none⟩) (by show w.heap.size ≤ w.heap.size + 1; omega) (.slice av j cv))
      obtain ⟨WW, hWW⟩ : ∃ WW, WW = ((((wr.setCell ⟨w.heap.size + 1, 0, none⟩ (.int .i64 (n))).setCell ⟨w.heap.size + 1, 1, none⟩ (.int .u32 (e))).setCell ⟨w.heap.size + 1, 2, none⟩ (.int .u32 (s))).setCell ⟨w.heap.size + 1, 3, none⟩ (.slice av j cv)) := ⟨_, rfl⟩
      have hOW := OwnF.four hown hz5 hw5 (.int .i64 (n)) (.int .u32 (e)) (.int .u32 (s)) (.slice av j cv)
      rw [← hWW] at hF hBB hOW ⊢
      clear hWW
      obtain ⟨_, hF0, hF1, hF2, hF3, _⟩ := hF
      exact bodyPost_ret (v := .tuple #[.agg #[.int .i64 (n), .int .u32 (e), .int .u32 (s), .slice av j cv], .int .i64 0]) (by simp [results, Try.results20, go_sem, hF0, hF1, hF2, hF3]) rfl ⟨⟨_, rfl, hOW⟩, hBB⟩
end
end Go.Proofs.Ytfnjgdocmfmfgaa
