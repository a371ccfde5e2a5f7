/-
  FirstMapOf: both sides.
-/
import Derived.Test.YtfnjgdocmfmfgaaFm
namespace Go.Proofs.Ytfnjgdocmfmfgaa
open Go.RowKit
set_option maxRecDepth 100000
attribute [local go_sem] Oper.semAt_some
/-- a list of the call's own and a code are handed back -/
def RetNL (W : World) (l : Nat) (f : Nat → Int) (c : Int) (r : Ending) (w' : World) : Prop := (∃ u, r = .returned (.tuple #[u, .int .i64 c]) ∧ OwnI W w' u l f) ∧ Below W.heap.size W w'
theorem ownI_zero (w0 w : World) (a : Option Addr) (cap : Nat) (f : Nat → Int) (h : cap ≤ 9223372036854775807 := by omega) : OwnI w0 w (.slice a 0 cap) 0 f := ⟨a, cap, rfl, Nat.zero_le _, h, fun c => absurd c (Nat.lt_irrefl 0)⟩
def lenO (l : Nat) : Option Nat → Nat | some _ => l | none => 0
def codeO : Option Nat → Int | some _ => 0 | none => 6
section
variable (w : World)
theorem ifi_inv (n e s : Int) (a : Option Addr) (L cap : Nat) (hn hm : Int) (hV : ∀ W, Below w.heap.size w W → Calls Try.prog 16 #[.agg #[.int .i64 n, .int .u32 e, .int .u32 s, .slice a L cap]] W fun r w' => r = .returned (.bool false) ∧ Below W.heap.size W w') :
    Calls Try.prog 40 #[.agg #[.int .i64 n, .int .u32 e, .int .u32 s, .slice a L cap], .agg #[.int .i64 hn, .int .u32 hm]] w (RetNL w 0 (fun _ => 0) 1) := by
  unfold RetNL
  replace hV := Lib.hid hV
  obtain ⟨W0, hW0⟩ : ∃ W0, W0 = (w.alloc (.cells #[.int .i64 n, .int .u32 e, .int .u32 s, .slice a L cap] 33)).alloc (.cells #[.int .i64 hn, .int .u32 hm] 30) := ⟨_, rfl⟩
  have hB0 : Below w.heap.size w W0 := by rw [hW0]; (repeat (first | exact Below.refl _ _ | assumption | refine bchain (by assumption) ?_ | refine balloc ?_ _ | apply Below.drew | apply below_drewN | (refine Below.alloc ?_ (by (try simp) <;> omega) _) | (refine Below.setCell ?_ (by (try simp) <;> omega) _)))
  have k1 : PB W0 w.heap.size n e s (.slice a L cap) := by rw [hW0]; exact (PB.made w _ _ _ _ _).below (balloc (Below.refl _ _) _)
  have hz0 : w.heap.size + 1 < W0.heap.size := by rw [hW0]; simp
  have g0 : W0.cell? ⟨w.heap.size + 1, 0, none⟩ = some (.int .i64 hn) := by rw [hW0, cNew _ _ _ _ _ (by simp)]; rfl
  have g1 : W0.cell? ⟨w.heap.size + 1, 1, none⟩ = some (.int .u32 hm) := by rw [hW0, cNew _ _ _ _ _ (by simp)]; rfl
  replace hW0 := Lib.hid hW0
  obtain ⟨_, x0, x1, x2, x3, _⟩ := id k1
  go_enter Try.func40, Try.ntmps40
  go_wp2_with fail
  rw [← hW0.out]
  go_wp2_with fail
  refine (hV.out _ hB0).mono ?_
  rintro r1 w1 ⟨rfl, hb1⟩
  have f0 := (hb1.cell (p := ⟨w.heap.size + 1, 0, none⟩) hz0).trans g0
  have f1 := (hb1.cell (p := ⟨w.heap.size + 1, 1, none⟩) hz0).trans g1
  have hz1 : w.heap.size + 1 < w1.heap.size := Nat.lt_of_lt_of_le hz0 hb1.size
  clear x0 x1 x2 x3 g0 g1
  go_wp2
  exact bodyPost_ret (v := .tuple #[.slice none 0 0, .int .i64 1]) (by simp [results, Try.results40, go_sem]) rfl ⟨⟨_, rfl, ownI_zero _ _ _ _ _⟩, by (repeat (first | exact Below.refl _ _ | assumption | refine bchain (by assumption) ?_ | refine balloc ?_ _ | apply Below.drew | apply below_drewN | (refine Below.alloc ?_ (by (try simp) <;> omega) _) | (refine Below.setCell ?_ (by (try simp) <;> omega) _)))⟩
theorem ifi_bad (n e s : Int) (a : Option Addr) (L cap : Nat) (hn hm : Int) (hV : ∀ W, Below w.heap.size w W → Calls Try.prog 16 #[.agg #[.int .i64 n, .int .u32 e, .int .u32 s, .slice a L cap]] W fun r w' => r = .returned (.bool true) ∧ Below W.heap.size W w') (h0 : 0 ≤ hm) (h1 : hm < 4294967296) (hg : ¬ VG hn hm) :
    Calls Try.prog 40 #[.agg #[.int .i64 n, .int .u32 e, .int .u32 s, .slice a L cap], .agg #[.int .i64 hn, .int .u32 hm]] w (RetNL w 0 (fun _ => 0) 1) := by
  unfold RetNL
  replace hV := Lib.hid hV
  obtain ⟨W0, hW0⟩ : ∃ W0, W0 = (w.alloc (.cells #[.int .i64 n, .int .u32 e, .int .u32 s, .slice a L cap] 33)).alloc (.cells #[.int .i64 hn, .int .u32 hm] 30) := ⟨_, rfl⟩
  have hB0 : Below w.heap.size w W0 := by rw [hW0]; (repeat (first | exact Below.refl _ _ | assumption | refine bchain (by assumption) ?_ | refine balloc ?_ _ | apply Below.drew | apply below_drewN | (refine Below.alloc ?_ (by (try simp) <;> omega) _) | (refine Below.setCell ?_ (by (try simp) <;> omega) _)))
  have k1 : PB W0 w.heap.size n e s (.slice a L cap) := by rw [hW0]; exact (PB.made w _ _ _ _ _).below (balloc (Below.refl _ _) _)
  have hz0 : w.heap.size + 1 < W0.heap.size := by rw [hW0]; simp
  have g0 : W0.cell? ⟨w.heap.size + 1, 0, none⟩ = some (.int .i64 hn) := by rw [hW0, cNew _ _ _ _ _ (by simp)]; rfl
  have g1 : W0.cell? ⟨w.heap.size + 1, 1, none⟩ = some (.int .u32 hm) := by rw [hW0, cNew _ _ _ _ _ (by simp)]; rfl
  replace hW0 := Lib.hid hW0
  have hG := Lib.hid (fun W => valid_f W hn hm h1 h0 hg)
  obtain ⟨_, x0, x1, x2, x3, _⟩ := id k1
  go_enter Try.func40, Try.ntmps40
  go_wp2_with fail
  rw [← hW0.out]
  go_wp2_with fail
  refine (hV.out _ hB0).mono ?_
  rintro r1 w1 ⟨rfl, hb1⟩
  have f0 := (hb1.cell (p := ⟨w.heap.size + 1, 0, none⟩) hz0).trans g0
  have f1 := (hb1.cell (p := ⟨w.heap.size + 1, 1, none⟩) hz0).trans g1
  have hz1 : w.heap.size + 1 < w1.heap.size := Nat.lt_of_lt_of_le hz0 hb1.size
  clear x0 x1 x2 x3 g0 g1
  go_wp2_with fail
  refine (hG.out _).mono ?_
  rintro r2 w2 ⟨rfl, hb2⟩
  go_wp2
  exact bodyPost_ret (v := .tuple #[.slice none 0 0, .int .i64 1]) (by simp [results, Try.results40, go_sem]) rfl ⟨⟨_, rfl, ownI_zero _ _ _ _ _⟩, by (repeat (first | exact Below.refl _ _ | assumption | refine bchain (by assumption) ?_ | refine balloc ?_ _ | apply Below.drew | apply below_drewN | (refine Below.alloc ?_ (by (try simp) <;> omega) _) | (refine Below.setCell ?_ (by (try simp) <;> omega) _)))⟩
set_option maxHeartbeats 1000000 in
theorem ifi_ok (n e s : Int) (a : Option Addr) (L cap : Nat) (hn hm : Int) (hV : ∀ W, Below w.heap.size w W → Calls Try.prog 16 #[.agg #[.int .i64 n, .int .u32 e, .int .u32 s, .slice a L cap]] W fun r w' => r = .returned (.bool true) ∧ Below W.heap.size W w') (hg : VG hn hm) (N l : Nat) (o : Option Nat) (hM : ∀ W, Below w.heap.size w W → Calls Try.prog 77 #[.agg #[.int .i64 n, .int .u32 e, .int .u32 s, .slice a L cap], .agg #[.int .i64 hn, .int .u32 hm]] W (FirstR W N l o)) :
    Calls Try.prog 40 #[.agg #[.int .i64 n, .int .u32 e, .int .u32 s, .slice a L cap], .agg #[.int .i64 hn, .int .u32 hm]] w (RetNL w (lenO l o) (fun i => ((xn (dg N l (o.getD 0)) i : Nat) : Int)) (codeO o)) := by
  unfold RetNL
  replace hV := Lib.hid hV
  obtain ⟨W0, hW0⟩ : ∃ W0, W0 = (w.alloc (.cells #[.int .i64 n, .int .u32 e, .int .u32 s, .slice a L cap] 33)).alloc (.cells #[.int .i64 hn, .int .u32 hm] 30) := ⟨_, rfl⟩
  have hB0 : Below w.heap.size w W0 := by rw [hW0]; (repeat (first | exact Below.refl _ _ | assumption | refine bchain (by assumption) ?_ | refine balloc ?_ _ | apply Below.drew | apply below_drewN | (refine Below.alloc ?_ (by (try simp) <;> omega) _) | (refine Below.setCell ?_ (by (try simp) <;> omega) _)))
  have k1 : PB W0 w.heap.size n e s (.slice a L cap) := by rw [hW0]; exact (PB.made w _ _ _ _ _).below (balloc (Below.refl _ _) _)
  have hz0 : w.heap.size + 1 < W0.heap.size := by rw [hW0]; simp
  have g0 : W0.cell? ⟨w.heap.size + 1, 0, none⟩ = some (.int .i64 hn) := by rw [hW0, cNew _ _ _ _ _ (by simp)]; rfl
  have g1 : W0.cell? ⟨w.heap.size + 1, 1, none⟩ = some (.int .u32 hm) := by rw [hW0, cNew _ _ _ _ _ (by simp)]; rfl
  replace hW0 := Lib.hid hW0
  have hG := Lib.hid (fun W => valid_t W hn hm hg)
  unfold FirstR at hM
  replace hM := Lib.hid hM
  obtain ⟨_, x0, x1, x2, x3, _⟩ := id k1
  go_enter Try.func40, Try.ntmps40
  go_wp2_with fail
  rw [← hW0.out]
  go_wp2_with fail
  refine (hV.out _ hB0).mono ?_
  rintro r1 w1 ⟨rfl, hb1⟩
  have f0 := (hb1.cell (p := ⟨w.heap.size + 1, 0, none⟩) hz0).trans g0
  have f1 := (hb1.cell (p := ⟨w.heap.size + 1, 1, none⟩) hz0).trans g1
  have hz1 : w.heap.size + 1 < w1.heap.size := Nat.lt_of_lt_of_le hz0 hb1.size
  clear x0 x1 x2 x3 g0 g1
  go_wp2_with fail
  refine (hG.out _).mono ?_
  rintro r2 w2 ⟨rfl, hb2⟩
  have hB2 : Below w.heap.size w w2 := by (repeat (first | exact Below.refl _ _ | assumption | refine bchain (by assumption) ?_ | refine balloc ?_ _ | apply Below.drew | apply below_drewN | (refine Below.alloc ?_ (by (try simp) <;> omega) _) | (refine Below.setCell ?_ (by (try simp) <;> omega) _)))
  have k2 := (k1.below hb1).below hb2
  have e0 := (hb2.cell (p := ⟨w.heap.size + 1, 0, none⟩) hz1).trans f0
  have e1 := (hb2.cell (p := ⟨w.heap.size + 1, 1, none⟩) hz1).trans f1
  obtain ⟨_, x0, x1, x2, x3, _⟩ := id k2
  have hzz := hB2.size
  clear f0 f1
  go_wp2_with fail
  refine (hM.out _ hB2).mono ?_
  rintro r3 w3 ⟨v, rfl, hb3, ho⟩
  have hzz3 := hb3.size
  cases o with
  | none =>
    go_wp2
    exact bodyPost_ret (v := .tuple #[.slice none 0 0, .int .i64 6]) (by simp [results, Try.results40, go_sem]) rfl ⟨⟨_, rfl, ownI_zero _ _ _ _ _⟩, by (repeat (first | exact Below.refl _ _ | assumption | refine bchain (by assumption) ?_ | refine balloc ?_ _ | apply Below.drew | apply below_drewN | (refine Below.alloc ?_ (by (try simp) <;> omega) _) | (refine Below.setCell ?_ (by (try simp) <;> omega) _)))⟩
  | some k =>
    have ho2 := ho k rfl
    go_wp2
    exact bodyPost_ret (v := .tuple #[v, .int .i64 0]) (by simp [results, Try.results40, go_sem]) rfl ⟨⟨_, rfl, ho2.base hzz⟩, by (repeat (first | exact Below.refl _ _ | assumption | refine bchain (by assumption) ?_ | refine balloc ?_ _ | apply Below.drew | apply below_drewN | (refine Below.alloc ?_ (by (try simp) <;> omega) _) | (refine Below.setCell ?_ (by (try simp) <;> omega) _)))⟩
theorem sfi_inv (n e s : Int) (a : Option Addr) (L cap : Nat) (hn hm : Int) (hV : ∀ W, Below w.heap.size w W → ∀ G, PB W G n e s (.slice a L cap) → Calls Try.prog 49 #[.pointer (some ⟨G, 0, none⟩)] W fun r w' => r = .returned (.bool false) ∧ Below W.heap.size W w') :
    Calls Try.prog 39 #[.agg #[.int .i64 n, .int .u32 e, .int .u32 s, .slice a L cap], .agg #[.int .i64 hn, .int .u32 hm]] w (RetNL w 0 (fun _ => 0) 1) := by
  unfold RetNL
  replace hV := Lib.hid hV
  obtain ⟨W0, hW0⟩ : ∃ W0, W0 = (w.alloc (.cells #[.int .i64 n, .int .u32 e, .int .u32 s, .slice a L cap] 33)).alloc (.cells #[.int .i64 hn, .int .u32 hm] 30) := ⟨_, rfl⟩
  have hB0 : Below w.heap.size w W0 := by rw [hW0]; (repeat (first | exact Below.refl _ _ | assumption | refine bchain (by assumption) ?_ | refine balloc ?_ _ | apply Below.drew | apply below_drewN | (refine Below.alloc ?_ (by (try simp) <;> omega) _) | (refine Below.setCell ?_ (by (try simp) <;> omega) _)))
  have k1 : PB W0 w.heap.size n e s (.slice a L cap) := by rw [hW0]; exact (PB.made w _ _ _ _ _).below (balloc (Below.refl _ _) _)
  have hz0 : w.heap.size + 1 < W0.heap.size := by rw [hW0]; simp
  have g0 : W0.cell? ⟨w.heap.size + 1, 0, none⟩ = some (.int .i64 hn) := by rw [hW0, cNew _ _ _ _ _ (by simp)]; rfl
  have g1 : W0.cell? ⟨w.heap.size + 1, 1, none⟩ = some (.int .u32 hm) := by rw [hW0, cNew _ _ _ _ _ (by simp)]; rfl
  replace hW0 := Lib.hid hW0
  obtain ⟨_, x0, x1, x2, x3, _⟩ := id k1
  go_enter Try.func39, Try.ntmps39
  go_wp2_with fail
  rw [← hW0.out]
  go_wp2_with fail
  refine (hV.out _ hB0 _ k1).mono ?_
  rintro r1 w1 ⟨rfl, hb1⟩
  have f0 := (hb1.cell (p := ⟨w.heap.size + 1, 0, none⟩) hz0).trans g0
  have f1 := (hb1.cell (p := ⟨w.heap.size + 1, 1, none⟩) hz0).trans g1
  have hz1 : w.heap.size + 1 < w1.heap.size := Nat.lt_of_lt_of_le hz0 hb1.size
  clear x0 x1 x2 x3 g0 g1
  go_wp2
  exact bodyPost_ret (v := .tuple #[.slice (some ⟨w1.heap.size, 0, none⟩) 0 0, .int .i64 1]) (by simp [results, Try.results39, go_sem]) rfl ⟨⟨_, rfl, ownI_zero _ _ _ _ _⟩, by (repeat (first | exact Below.refl _ _ | assumption | refine bchain (by assumption) ?_ | refine balloc ?_ _ | apply Below.drew | apply below_drewN | (refine Below.alloc ?_ (by (try simp) <;> omega) _) | (refine Below.setCell ?_ (by (try simp) <;> omega) _)))⟩
theorem sfi_bad (n e s : Int) (a : Option Addr) (L cap : Nat) (hn hm : Int) (hV : ∀ W, Below w.heap.size w W → ∀ G, PB W G n e s (.slice a L cap) → Calls Try.prog 49 #[.pointer (some ⟨G, 0, none⟩)] W fun r w' => r = .returned (.bool true) ∧ Below W.heap.size W w') (h0 : 0 ≤ hm) (h1 : hm < 4294967296) (hg : ¬ VG hn hm) :
    Calls Try.prog 39 #[.agg #[.int .i64 n, .int .u32 e, .int .u32 s, .slice a L cap], .agg #[.int .i64 hn, .int .u32 hm]] w (RetNL w 0 (fun _ => 0) 1) := by
  unfold RetNL
  replace hV := Lib.hid hV
  obtain ⟨W0, hW0⟩ : ∃ W0, W0 = (w.alloc (.cells #[.int .i64 n, .int .u32 e, .int .u32 s, .slice a L cap] 33)).alloc (.cells #[.int .i64 hn, .int .u32 hm] 30) := ⟨_, rfl⟩
  have hB0 : Below w.heap.size w W0 := by rw [hW0]; (repeat (first | exact Below.refl _ _ | assumption | refine bchain (by assumption) ?_ | refine balloc ?_ _ | apply Below.drew | apply below_drewN | (refine Below.alloc ?_ (by (try simp) <;> omega) _) | (refine Below.setCell ?_ (by (try simp) <;> omega) _)))
  have k1 : PB W0 w.heap.size n e s (.slice a L cap) := by rw [hW0]; exact (PB.made w _ _ _ _ _).below (balloc (Below.refl _ _) _)
  have hz0 : w.heap.size + 1 < W0.heap.size := by rw [hW0]; simp
  have g0 : W0.cell? ⟨w.heap.size + 1, 0, none⟩ = some (.int .i64 hn) := by rw [hW0, cNew _ _ _ _ _ (by simp)]; rfl
  have g1 : W0.cell? ⟨w.heap.size + 1, 1, none⟩ = some (.int .u32 hm) := by rw [hW0, cNew _ _ _ _ _ (by simp)]; rfl
  replace hW0 := Lib.hid hW0
  have hG := Lib.hid (fun W => ok_f W hn hm h1 h0 hg)
  obtain ⟨_, x0, x1, x2, x3, _⟩ := id k1
  go_enter Try.func39, Try.ntmps39
  go_wp2_with fail
  rw [← hW0.out]
  go_wp2_with fail
  refine (hV.out _ hB0 _ k1).mono ?_
  rintro r1 w1 ⟨rfl, hb1⟩
  have f0 := (hb1.cell (p := ⟨w.heap.size + 1, 0, none⟩) hz0).trans g0
  have f1 := (hb1.cell (p := ⟨w.heap.size + 1, 1, none⟩) hz0).trans g1
  have hz1 : w.heap.size + 1 < w1.heap.size := Nat.lt_of_lt_of_le hz0 hb1.size
  clear x0 x1 x2 x3 g0 g1
  go_wp2_with fail
  refine (hG.out _).mono ?_
  rintro r2 w2 ⟨rfl, hb2⟩
  go_wp2
  exact bodyPost_ret (v := .tuple #[.slice (some ⟨w2.heap.size, 0, none⟩) 0 0, .int .i64 1]) (by simp [results, Try.results39, go_sem]) rfl ⟨⟨_, rfl, ownI_zero _ _ _ _ _⟩, by (repeat (first | exact Below.refl _ _ | assumption | refine bchain (by assumption) ?_ | refine balloc ?_ _ | apply Below.drew | apply below_drewN | (refine Below.alloc ?_ (by (try simp) <;> omega) _) | (refine Below.setCell ?_ (by (try simp) <;> omega) _)))⟩
set_option maxHeartbeats 1000000 in
theorem sfi_ok (n e s : Int) (a : Option Addr) (L cap : Nat) (hn hm : Int) (hV : ∀ W, Below w.heap.size w W → ∀ G, PB W G n e s (.slice a L cap) → Calls Try.prog 49 #[.pointer (some ⟨G, 0, none⟩)] W fun r w' => r = .returned (.bool true) ∧ Below W.heap.size W w') (hg : VG hn hm) (N l : Nat) (o : Option Nat) (hM : ∀ W, Below w.heap.size w W → ∀ G, PB W G n e s (.slice a L cap) → Calls Try.prog 75 #[.pointer (some ⟨G, 0, none⟩), .agg #[.int .i64 hn, .int .u32 hm]] W (FirstR W N l o)) :
    Calls Try.prog 39 #[.agg #[.int .i64 n, .int .u32 e, .int .u32 s, .slice a L cap], .agg #[.int .i64 hn, .int .u32 hm]] w (RetNL w (lenO l o) (fun i => ((xn (dg N l (o.getD 0)) i : Nat) : Int)) (codeO o)) := by
  unfold RetNL
  replace hV := Lib.hid hV
  obtain ⟨W0, hW0⟩ : ∃ W0, W0 = (w.alloc (.cells #[.int .i64 n, .int .u32 e, .int .u32 s, .slice a L cap] 33)).alloc (.cells #[.int .i64 hn, .int .u32 hm] 30) := ⟨_, rfl⟩
  have hB0 : Below w.heap.size w W0 := by rw [hW0]; (repeat (first | exact Below.refl _ _ | assumption | refine bchain (by assumption) ?_ | refine balloc ?_ _ | apply Below.drew | apply below_drewN | (refine Below.alloc ?_ (by (try simp) <;> omega) _) | (refine Below.setCell ?_ (by (try simp) <;> omega) _)))
  have k1 : PB W0 w.heap.size n e s (.slice a L cap) := by rw [hW0]; exact (PB.made w _ _ _ _ _).below (balloc (Below.refl _ _) _)
  have hz0 : w.heap.size + 1 < W0.heap.size := by rw [hW0]; simp
  have g0 : W0.cell? ⟨w.heap.size + 1, 0, none⟩ = some (.int .i64 hn) := by rw [hW0, cNew _ _ _ _ _ (by simp)]; rfl
  have g1 : W0.cell? ⟨w.heap.size + 1, 1, none⟩ = some (.int .u32 hm) := by rw [hW0, cNew _ _ _ _ _ (by simp)]; rfl
  replace hW0 := Lib.hid hW0
  have hG := Lib.hid (fun W => ok_t W hn hm hg)
  unfold FirstR at hM
  replace hM := Lib.hid hM
  obtain ⟨_, x0, x1, x2, x3, _⟩ := id k1
  go_enter Try.func39, Try.ntmps39
  go_wp2_with fail
  rw [← hW0.out]
  go_wp2_with fail
  refine (hV.out _ hB0 _ k1).mono ?_
  rintro r1 w1 ⟨rfl, hb1⟩
  have f0 := (hb1.cell (p := ⟨w.heap.size + 1, 0, none⟩) hz0).trans g0
  have f1 := (hb1.cell (p := ⟨w.heap.size + 1, 1, none⟩) hz0).trans g1
  have hz1 : w.heap.size + 1 < w1.heap.size := Nat.lt_of_lt_of_le hz0 hb1.size
  clear x0 x1 x2 x3 g0 g1
  go_wp2_with fail
  refine (hG.out _).mono ?_
  rintro r2 w2 ⟨rfl, hb2⟩
  have hB2 : Below w.heap.size w w2 := by (repeat (first | exact Below.refl _ _ | assumption | refine bchain (by assumption) ?_ | refine balloc ?_ _ | apply Below.drew | apply below_drewN | (refine Below.alloc ?_ (by (try simp) <;> omega) _) | (refine Below.setCell ?_ (by (try simp) <;> omega) _)))
  have k2 := (k1.below hb1).below hb2
  have e0 := (hb2.cell (p := ⟨w.heap.size + 1, 0, none⟩) hz1).trans f0
  have e1 := (hb2.cell (p := ⟨w.heap.size + 1, 1, none⟩) hz1).trans f1
  obtain ⟨_, x0, x1, x2, x3, _⟩ := id k2
  have hzz := hB2.size
  clear f0 f1
  go_wp2_with fail
  refine (hM.out _ hB2 _ k2).mono ?_
  rintro r3 w3 ⟨v, rfl, hb3, ho⟩
  have hzz3 := hb3.size
  cases o with
  | none =>
    go_wp2
    exact bodyPost_ret (v := .tuple #[.slice (some ⟨w3.heap.size, 0, none⟩) 0 0, .int .i64 6]) (by simp [results, Try.results39, go_sem]) rfl ⟨⟨_, rfl, ownI_zero _ _ _ _ _⟩, by (repeat (first | exact Below.refl _ _ | assumption | refine bchain (by assumption) ?_ | refine balloc ?_ _ | apply Below.drew | apply below_drewN | (refine Below.alloc ?_ (by (try simp) <;> omega) _) | (refine Below.setCell ?_ (by (try simp) <;> omega) _)))⟩
  | some k =>
    have ho2 := ho k rfl
    go_wp2
    exact bodyPost_ret (v := .tuple #[v, .int .i64 0]) (by simp [results, Try.results39, go_sem]) rfl ⟨⟨_, rfl, ho2.base hzz⟩, by (repeat (first | exact Below.refl _ _ | assumption | refine bchain (by assumption) ?_ | refine balloc ?_ _ | apply Below.drew | apply below_drewN | (refine Below.alloc ?_ (by (try simp) <;> omega) _) | (refine Below.setCell ?_ (by (try simp) <;> omega) _)))⟩
end
end Go.Proofs.Ytfnjgdocmfmfgaa
