/-
  IndexOfGraph: the program's and the model's contracts.
-/
import Derived.Test.YtmbjhncgdmbpaaaGFr
import Derived.Deep.RegionHeld3
namespace Go.Proofs.Ytmbjhncgdmbpaaa
open Go.RowKit Go.Shelf
set_option maxRecDepth 100000

theorem first_at {L : List Nat} {x : Nat} (h : x ∈ L) : ∃ p : Nat, L[p]? = some x ∧ ∀ i, i < p → L[i]? ≠ some x := by
  induction L with
  | nil => cases h
  | cons y L ih =>
    by_cases c : y = x
    · exact ⟨0, by rw [c]; rfl, fun i hi => by omega⟩
    · obtain ⟨p, h1, h2⟩ := ih (by rcases List.mem_cons.1 h with h | h; exact absurd h.symm c; exact h)
      refine ⟨p + 1, by simpa using h1, fun i hi => ?_⟩
      cases i with
      | zero => simpa using c
      | succ i => simpa using h2 i (by omega)
theorem least_gN {n e : Nat} (hn : n ≤ 5) (he : e < eMax n) : leastE n e ∈ gN n := by
  have hv := VK.mk' (k := 0) hn (by omega) (by omega) he
  have hm := leastK_mem hv
  have hv2 := tE_ok hv hm
  have hs := leastK_same hv hv2 hm
  have hl := hv2.lt'
  change leastE n (leastE n e) = leastE n e at hs
  change leastE n e < eMax n at hl
  unfold gN
  rw [List.mem_filter, List.mem_range]
  exact ⟨hl, by unfold isG; simpa using hs⟩
section
variable (w : World)
set_option maxHeartbeats 1000000 in
theorem six_any (n x p : Nat) (a0 : Option Addr) (cap0 : Nat) (hLi : Lies w a0 (lG n (eMax n))) (hp : (gN n)[p]? = some x) (hne : ∀ i, i < p → (gN n)[i]? ≠ some x) :
    Calls Try.prog 44 #[.slice a0 (gN n).length cap0, .agg #[.int .i64 n, .int .u32 x]] w fun r w' => r = .returned (.int .i64 p) ∧ Below w.heap.size w w' := by
  have hat := Lib.hid (fun k h => gN_at (n := n) (k := k) h)
  have hlL : (lG n (eMax n)).length = (gN n).length := by rw [lG_gN]; simp
  have hgl := gN_len n
  have hpG : p < (gN n).length := (List.getElem?_eq_some_iff.1 hp).1
  obtain ⟨G, hGl⟩ : ∃ G, (gN n).length = G := ⟨_, rfl⟩
  rw [hGl] at hat hlL hgl hpG ⊢
  replace hne := Lib.hid hne
  replace hLi := Lib.hid hLi
  clear hGl
  go_enter Try.func44, Try.ntmps44
  go_wp2
  obtain ⟨W0, hW0⟩ : ∃ W0, W0 = w.alloc (.cells #[.int .i64 (n : Int), .int .u32 (x : Int)] 36) := ⟨_, rfl⟩
  have v0 : W0.cell? ⟨w.heap.size, 0, none⟩ = some (.int .i64 n) := by rw [hW0, cNew _ _ _ _ _ rfl]; rfl
  have v1 : W0.cell? ⟨w.heap.size, 1, none⟩ = some (.int .u32 x) := by rw [hW0, cNew _ _ _ _ _ rfl]; rfl
  have vz : w.heap.size < W0.heap.size := by rw [hW0]; simp
  have hbw : Below w.heap.size w W0 := by rw [hW0]; (repeat (first | exact Below.refl _ _ | assumption | refine bchain (by assumption) ?_ | refine balloc ?_ _ | apply Below.drew | apply below_drewN | (refine Below.alloc ?_ (by (try simp) <;> omega) _) | (refine Below.setCell ?_ (by (try simp) <;> omega) _)))
  have hLz : Below w.heap.size w W0 := hbw
  rw [← hW0]
  clear hW0
  go_loopw [8] (fun i wr => ∃ k : Nat, k ≤ p ∧ i = .int .i64 k ∧ Below W0.heap.size W0 wr) (fun i _ => p - (intOf i).toNat)
  case atStart => exact ⟨0, by omega, rfl, Below.refl _ _⟩
  case round =>
    obtain ⟨k, hk, rfl, hB⟩ := hrel
    have hkG : k < G := by omega
    obtain ⟨y, hy, _, hga⟩ := hat.out k hkG
    obtain ⟨b, off, rfl, hb, hg⟩ := hLi.out k (by rw [hlL]; exact hkG)
    rw [hga] at hg
    have hb0 : b < W0.heap.size := Nat.lt_of_lt_of_le hb hLz.size
    have hsz := hB.size
    have q0 := (hB.cell (p := ⟨b, off + k * 2, none⟩) hb0).trans ((hLz.cell (p := ⟨b, off + k * 2, none⟩) hb).trans hg.1)
    have q1 := (hB.cell (p := ⟨b, off + k * 2 + 1, none⟩) hb0).trans ((hLz.cell (p := ⟨b, off + k * 2 + 1, none⟩) hb).trans hg.2)
    have u0 := (hB.cell (p := ⟨w.heap.size, 0, none⟩) vz).trans v0
    have u1 := (hB.cell (p := ⟨w.heap.size, 1, none⟩) vz).trans v1
    have zb : b < wr.heap.size := by omega
    have zv : w.heap.size < wr.heap.size := by omega
    have hkn : (k : Int) < (G : Int) := by omega
    clear hg hga
    by_cases hkp : k = p
    · subst hkp
      obtain rfl : x = y := by rw [hp] at hy; exact Option.some.inj hy
      go_wp2_with fail
      go_region_held3 (fun A => A.cell? ⟨b, off + k * 2, none⟩ = some (.int .i64 (n : Int)) ∧ A.cell? ⟨b, off + k * 2 + 1, none⟩ = some (.int .u32 (x : Int)) ∧ A.cell? ⟨w.heap.size, 0, none⟩ = some (.int .i64 (n : Int)) ∧ A.cell? ⟨w.heap.size, 1, none⟩ = some (.int .u32 (x : Int)))
        (exact ⟨old_cell zb q0 (by (repeat (first | exact Below.refl _ _ | assumption | refine bchain (by assumption) ?_ | refine balloc ?_ _ | apply Below.drew | apply below_drewN | (refine Below.alloc ?_ (by (try simp) <;> omega) _) | (refine Below.setCell ?_ (by (try simp) <;> omega) _)))), old_cell zb q1 (by (repeat (first | exact Below.refl _ _ | assumption | refine bchain (by assumption) ?_ | refine balloc ?_ _ | apply Below.drew | apply below_drewN | (refine Below.alloc ?_ (by (try simp) <;> omega) _) | (refine Below.setCell ?_ (by (try simp) <;> omega) _)))), old_cell zv u0 (by (repeat (first | exact Below.refl _ _ | assumption | refine bchain (by assumption) ?_ | refine balloc ?_ _ | apply Below.drew | apply below_drewN | (refine Below.alloc ?_ (by (try simp) <;> omega) _) | (refine Below.setCell ?_ (by (try simp) <;> omega) _)))), old_cell zv u1 (by (repeat (first | exact Below.refl _ _ | assumption | refine bchain (by assumption) ?_ | refine balloc ?_ _ | apply Below.drew | apply below_drewN | (refine Below.alloc ?_ (by (try simp) <;> omega) _) | (refine Below.setCell ?_ (by (try simp) <;> omega) _))))⟩)
        (fail)
      all_goals have hbs : Below W0.heap.size wr wr.drew := (Below.refl _ _).drew
      all_goals go_wp2
      all_goals
        go_ret
        exact ⟨rfl, hbw.trans ((hB.trans hbs).mono hbw.size)⟩
    · have hne1 : ¬ x = y := fun c => hne.out k (by omega) (by rw [hy, c])
      have hzf : ((x : Int) == (y : Int)) = false := by simp; omega
      have hzd : decide ((x : Int) = (y : Int)) = false := by simp; omega
      go_wp2_with fail
      go_region_held3 (fun A => A.cell? ⟨b, off + k * 2, none⟩ = some (.int .i64 (n : Int)) ∧ A.cell? ⟨b, off + k * 2 + 1, none⟩ = some (.int .u32 (y : Int)) ∧ A.cell? ⟨w.heap.size, 0, none⟩ = some (.int .i64 (n : Int)) ∧ A.cell? ⟨w.heap.size, 1, none⟩ = some (.int .u32 (x : Int)))
        (exact ⟨old_cell zb q0 (by (repeat (first | exact Below.refl _ _ | assumption | refine bchain (by assumption) ?_ | refine balloc ?_ _ | apply Below.drew | apply below_drewN | (refine Below.alloc ?_ (by (try simp) <;> omega) _) | (refine Below.setCell ?_ (by (try simp) <;> omega) _)))), old_cell zb q1 (by (repeat (first | exact Below.refl _ _ | assumption | refine bchain (by assumption) ?_ | refine balloc ?_ _ | apply Below.drew | apply below_drewN | (refine Below.alloc ?_ (by (try simp) <;> omega) _) | (refine Below.setCell ?_ (by (try simp) <;> omega) _)))), old_cell zv u0 (by (repeat (first | exact Below.refl _ _ | assumption | refine bchain (by assumption) ?_ | refine balloc ?_ _ | apply Below.drew | apply below_drewN | (refine Below.alloc ?_ (by (try simp) <;> omega) _) | (refine Below.setCell ?_ (by (try simp) <;> omega) _)))), old_cell zv u1 (by (repeat (first | exact Below.refl _ _ | assumption | refine bchain (by assumption) ?_ | refine balloc ?_ _ | apply Below.drew | apply below_drewN | (refine Below.alloc ?_ (by (try simp) <;> omega) _) | (refine Below.setCell ?_ (by (try simp) <;> omega) _))))⟩)
        (fail)
      all_goals go_wp2
      all_goals go_roundw
      case rel => exact ⟨k + 1, by omega, by go_num, hB.trans (Below.refl _ _).drew⟩
      case measure => simp [intOf]; omega
set_option maxHeartbeats 1000000 in
theorem six2_any (n e p : Nat) (h : VG n e) (hp : (gN n)[p]? = some (leastE n e)) (hne : ∀ i, i < p → (gN n)[i]? ≠ some (leastE n e)) :
    Calls Try.prog 15 #[.agg #[.int .i64 n, .int .u32 e]] w fun r w' => r = .returned (.tuple #[.int .i64 p, .int .i64 0]) ∧ Below w.heap.size w w' := by
  have hn5 : n ≤ 5 := by have := h.2.1; omega
  have hV := Lib.hid (fun W => ok_t W n e h)
  have hL := Lib.hid (fun W => sleast_any W n e h)
  have hA := Lib.hid (fun W => sall_any W n hn5)
  have hat := Lib.hid (fun k h => gN_at (n := n) (k := k) h)
  have hlL : (lG n (eMax n)).length = (gN n).length := by rw [lG_gN]; simp
  have hgl := gN_len n
  have hpG : p < (gN n).length := (List.getElem?_eq_some_iff.1 hp).1
  obtain ⟨G, hGl⟩ : ∃ G, (gN n).length = G := ⟨_, rfl⟩
  rw [hGl] at hat hlL hgl hpG
  obtain ⟨x, hx⟩ : ∃ x, leastE n e = x := ⟨_, rfl⟩
  rw [hx] at hL hp hne
  replace hne := Lib.hid hne
  have c0 : (w.alloc (.cells #[.int .i64 (n : Int), .int .u32 (e : Int)] 36)).cell? ⟨w.heap.size, 0, none⟩ = some (.int .i64 n) := by rw [cNew _ _ _ _ _ rfl]; rfl
  clear hGl h
  go_enter Try.func15, Try.ntmps15
  go_wp2_with (first
    | (go_at_call 40; refine (hV.out _).mono ?_; rintro r1 w1 ⟨rfl, hb1⟩; obtain ⟨hc1, hz1⟩ := bkeep hb1 w.heap.size (by (try simp) <;> omega))
    | (go_at_call 41; refine (hL.out _).mono ?_; rintro r2 w2 ⟨rfl, hb2⟩; obtain ⟨hc2, hz2⟩ := bkeep hb2 w.heap.size (by (try simp) <;> omega))
    | (go_at_call 42; refine (hA.out _).mono ?_; rintro r3 w3 ⟨⟨u0, rfl, hU⟩, hb3⟩; obtain ⟨a0, cap0, rfl, hLi⟩ := hU.sl.lies))
  obtain ⟨W0, hW0⟩ : ∃ W0, W0 = w3 := ⟨_, rfl⟩
  have v0 : W0.cell? ⟨w2.heap.size, 0, none⟩ = some (.int .i64 n) := by
    rw [hW0]
    exact (hb3.cell (p := ⟨w2.heap.size, 0, none⟩) (by simp)).trans (by rw [cNew _ _ _ _ _ rfl]; rfl)
  have v1 : W0.cell? ⟨w2.heap.size, 1, none⟩ = some (.int .u32 x) := by
    rw [hW0]
    exact (hb3.cell (p := ⟨w2.heap.size, 1, none⟩) (by simp)).trans (by rw [cNew _ _ _ _ _ rfl]; rfl)
  have vz : w2.heap.size < W0.heap.size := by rw [hW0]; have := hb3.size; simp at this; omega
  have hbw : Below w.heap.size w W0 := by rw [hW0]; (repeat (first | exact Below.refl _ _ | assumption | refine bchain (by assumption) ?_ | refine balloc ?_ _ | apply Below.drew | apply below_drewN | (refine Below.alloc ?_ (by (try simp) <;> omega) _) | (refine Below.setCell ?_ (by (try simp) <;> omega) _)))
  have hLz : Below W0.heap.size W0 W0 := Below.refl _ _
  rw [← hW0] at hLi ⊢
  clear hW0 hb3 hU
  replace hLi := Lib.hid hLi
  go_loopw [6] (fun i wr => ∃ k : Nat, k ≤ p ∧ i = .int .i64 k ∧ Below W0.heap.size W0 wr) (fun i _ => p - (intOf i).toNat)
  case atStart => exact ⟨0, by omega, rfl, Below.refl _ _⟩
  case round =>
    obtain ⟨k, hk, rfl, hB⟩ := hrel
    have hkG : k < G := by omega
    obtain ⟨y, hy, _, hga⟩ := hat.out k hkG
    obtain ⟨b, off, rfl, hb, hg⟩ := hLi.out k (by rw [hlL]; exact hkG)
    rw [hga] at hg
    have hb0 : b < W0.heap.size := Nat.lt_of_lt_of_le hb hLz.size
    have hsz := hB.size
    have q0 := (hB.cell (p := ⟨b, off + k * 2, none⟩) hb0).trans ((hLz.cell (p := ⟨b, off + k * 2, none⟩) hb).trans hg.1)
    have q1 := (hB.cell (p := ⟨b, off + k * 2 + 1, none⟩) hb0).trans ((hLz.cell (p := ⟨b, off + k * 2 + 1, none⟩) hb).trans hg.2)
    have u0 := (hB.cell (p := ⟨w2.heap.size, 0, none⟩) vz).trans v0
    have u1 := (hB.cell (p := ⟨w2.heap.size, 1, none⟩) vz).trans v1
    have zb : b < wr.heap.size := by omega
    have zv : w2.heap.size < wr.heap.size := by omega
    have hkn : (k : Int) < (G : Int) := by omega
    clear hg hga
    by_cases hkp : k = p
    · subst hkp
      obtain rfl : x = y := by rw [hp] at hy; exact Option.some.inj hy
      go_wp2_with fail
      go_region_held3 (fun A => A.cell? ⟨b, off + k * 2, none⟩ = some (.int .i64 (n : Int)) ∧ A.cell? ⟨b, off + k * 2 + 1, none⟩ = some (.int .u32 (x : Int)) ∧ A.cell? ⟨w2.heap.size, 0, none⟩ = some (.int .i64 (n : Int)) ∧ A.cell? ⟨w2.heap.size, 1, none⟩ = some (.int .u32 (x : Int)))
        (exact ⟨old_cell zb q0 (by (repeat (first | exact Below.refl _ _ | assumption | refine bchain (by assumption) ?_ | refine balloc ?_ _ | apply Below.drew | apply below_drewN | (refine Below.alloc ?_ (by (try simp) <;> omega) _) | (refine Below.setCell ?_ (by (try simp) <;> omega) _)))), old_cell zb q1 (by (repeat (first | exact Below.refl _ _ | assumption | refine bchain (by assumption) ?_ | refine balloc ?_ _ | apply Below.drew | apply below_drewN | (refine Below.alloc ?_ (by (try simp) <;> omega) _) | (refine Below.setCell ?_ (by (try simp) <;> omega) _)))), old_cell zv u0 (by (repeat (first | exact Below.refl _ _ | assumption | refine bchain (by assumption) ?_ | refine balloc ?_ _ | apply Below.drew | apply below_drewN | (refine Below.alloc ?_ (by (try simp) <;> omega) _) | (refine Below.setCell ?_ (by (try simp) <;> omega) _)))), old_cell zv u1 (by (repeat (first | exact Below.refl _ _ | assumption | refine bchain (by assumption) ?_ | refine balloc ?_ _ | apply Below.drew | apply below_drewN | (refine Below.alloc ?_ (by (try simp) <;> omega) _) | (refine Below.setCell ?_ (by (try simp) <;> omega) _))))⟩)
        (fail)
      all_goals have hbs : Below W0.heap.size wr wr.drew := (Below.refl _ _).drew
      all_goals go_wp2
      all_goals
        go_ret2
        exact ⟨rfl, hbw.trans ((hB.trans hbs).mono hbw.size)⟩
    · have hne1 : ¬ x = y := fun c => hne.out k (by omega) (by rw [hy, c])
      have hzf : ((y : Int) == (x : Int)) = false := by simp; omega
      have hzd : decide ((y : Int) = (x : Int)) = false := by simp; omega
      go_wp2_with fail
      go_region_held3 (fun A => A.cell? ⟨b, off + k * 2, none⟩ = some (.int .i64 (n : Int)) ∧ A.cell? ⟨b, off + k * 2 + 1, none⟩ = some (.int .u32 (y : Int)) ∧ A.cell? ⟨w2.heap.size, 0, none⟩ = some (.int .i64 (n : Int)) ∧ A.cell? ⟨w2.heap.size, 1, none⟩ = some (.int .u32 (x : Int)))
        (exact ⟨old_cell zb q0 (by (repeat (first | exact Below.refl _ _ | assumption | refine bchain (by assumption) ?_ | refine balloc ?_ _ | apply Below.drew | apply below_drewN | (refine Below.alloc ?_ (by (try simp) <;> omega) _) | (refine Below.setCell ?_ (by (try simp) <;> omega) _)))), old_cell zb q1 (by (repeat (first | exact Below.refl _ _ | assumption | refine bchain (by assumption) ?_ | refine balloc ?_ _ | apply Below.drew | apply below_drewN | (refine Below.alloc ?_ (by (try simp) <;> omega) _) | (refine Below.setCell ?_ (by (try simp) <;> omega) _)))), old_cell zv u0 (by (repeat (first | exact Below.refl _ _ | assumption | refine bchain (by assumption) ?_ | refine balloc ?_ _ | apply Below.drew | apply below_drewN | (refine Below.alloc ?_ (by (try simp) <;> omega) _) | (refine Below.setCell ?_ (by (try simp) <;> omega) _)))), old_cell zv u1 (by (repeat (first | exact Below.refl _ _ | assumption | refine bchain (by assumption) ?_ | refine balloc ?_ _ | apply Below.drew | apply below_drewN | (refine Below.alloc ?_ (by (try simp) <;> omega) _) | (refine Below.setCell ?_ (by (try simp) <;> omega) _))))⟩)
        (fail)
      all_goals go_wp2
      all_goals go_roundw
      case rel => exact ⟨k + 1, by omega, by go_num, hB.trans (Below.refl _ _).drew⟩
      case measure => simp [intOf]; omega
end
end Go.Proofs.Ytmbjhncgdmbpaaa
