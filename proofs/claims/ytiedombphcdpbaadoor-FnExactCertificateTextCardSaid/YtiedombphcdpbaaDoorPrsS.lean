/-
  PairsOf: the model's contract.
-/
import Derived.Test.YtiedombphcdpbaaDoorPrs
namespace Go.Proofs.YtiedombphcdpbaaDoor
open Go.RowKit
set_option maxRecDepth 100000

/-- the pairs before (i, j) that are edges -/
def prT (e j i : Nat) : List (Nat × Nat) := (prsTo j i).filter fun p => jn e p.1 p.2
theorem prT_end (e j : Nat) : prT e j j = prT e (j + 1) 0 := by simp [prT, prsTo, prs]
theorem prT_t {e i j : Nat} (h : jn e i j = true) : prT e j (i + 1) = prT e j i ++ [(i, j)] := by
  unfold prT; rw [prsTo_succ, List.filter_append]; simp [h]
theorem prT_f {e i j : Nat} (h : jn e i j = false) : prT e j (i + 1) = prT e j i := by
  unfold prT; rw [prsTo_succ, List.filter_append]; simp [h]
theorem prT_all (n e : Nat) : prT e n 0 = prE n e := by simp [prT, prE, prsTo_zero]
theorem prT_one (e : Nat) : prT e 1 0 = [] := rfl
theorem prT_len (e j i : Nat) (hj : j ≤ 5) (hi : i ≤ 5) : (prT e j i).length ≤ 30 := by
  have h1 := List.length_filter_le (fun p : Nat × Nat => jn e p.1 p.2) (prsTo j i)
  have h2 := prsTo_length j i
  have h3 : j * j ≤ 5 * 5 := Nat.mul_le_mul hj hj
  unfold prT
  omega
section
variable (w : World)
set_option maxHeartbeats 2000000 in
theorem sprs_any (n e : Nat) (h : VG n e) :
    Calls Tryd.prog 95 #[.agg #[.int .i64 n, .int .u32 e]] w fun r w' => (∃ v, r = .returned v ∧ OwnA w w' v (prE n e).length (pAt (prE n e))) ∧ Below w.heap.size w w' := by
  have he : e < 4294967296 := by have := h.2.2.2; have := eMax_le n; simp at *; omega
  have hn5 : n ≤ 5 := by have := h.2.1; omega
  obtain ⟨i0, hi, hz0, hz1, hz2⟩ := info_parts info_a2
  replace hi := Lib.hid hi
  replace hz0 := Lib.hid hz0
  replace hz1 := Lib.hid hz1
  replace hz2 := Lib.hid hz2
  have hbx := Lib.hid (show (w.alloc (.cells #[.int .i64 (n : Int), .int .u32 (e : Int)] 37)).cell? ⟨w.heap.size, 0, none⟩ = some (.int .i64 n) ∧ (w.alloc (.cells #[.int .i64 (n : Int), .int .u32 (e : Int)] 37)).cell? ⟨w.heap.size, 1, none⟩ = some (.int .u32 e) from ⟨by rw [cNew _ _ _ _ _ rfl]; rfl, by rw [cNew _ _ _ _ _ rfl]; rfl⟩)
  have s1 : ∀ (W : World) (o : Obj), (W.alloc o).heap.size = W.heap.size + 1 := fun W o => by simp
  replace s1 := Lib.hid s1
  go_enter Tryd.func95, Tryd.ntmps95
  go_wp2
  go_loopw [3, 4] (fun v s wr => ∃ j : Nat, 1 ≤ j ∧ (j ≤ n ∨ j = 1) ∧ s = .int .i64 j ∧ Hid (wr.ownsRow (w.heap.size + 1) 152 2 v (prT e j 0).length (flat (prT e j 0))) ∧ wr.cell? ⟨w.heap.size, 0, none⟩ = some (.int .i64 n) ∧ wr.cell? ⟨w.heap.size, 1, none⟩ = some (.int .u32 e) ∧ w.heap.size < wr.heap.size ∧ Below w.heap.size w wr) (fun _ s _ => n - (intOf s).toNat)
  case atStart =>
    refine ⟨1, by omega, .inr rfl, rfl, ?_, (cOld _ _ _ _ (by rw [s1.out]; omega)).trans hbx.out.1, (cOld _ _ _ _ (by rw [s1.out]; omega)).trans hbx.out.2, by rw [s1.out, s1.out]; omega, by (repeat (first | exact Below.refl _ _ | assumption | refine bchain (by assumption) ?_ | refine balloc ?_ _ | apply Below.drew | apply below_drewN | (refine Below.alloc ?_ (by (try simp) <;> omega) _) | (refine Below.setCell ?_ (by (try simp) <;> omega) _)))⟩
    show World.ownsRow _ _ _ _ _ _ _
    rw [prT_one]
    have := World.ownsRow_made (w.alloc (.cells #[.int .i64 (n : Int), .int .u32 (e : Int)] 37)) (base := w.heap.size + 1) (e := 152) (size := 2) #[] 0 (by rw [s1.out]; omega) (by omega) rfl
    rw [s1.out] at this
    exact this
  case round =>
    obtain ⟨j, hj1, hj, rfl, hown, c0, c1, hz, hb⟩ := hrel
    by_cases hlt : j < n
    · go_wp2
      obtain ⟨wo, rfl⟩ : ∃ wo : World, wo = wr := ⟨_, rfl⟩
      go_loopw [3, 5] (fun v s wr => ∃ i : Nat, i ≤ j ∧ s = .int .i64 i ∧ Hid (wr.ownsRow (w.heap.size + 1) 152 2 v (prT e j i).length (flat (prT e j i))) ∧ wr.cell? ⟨w.heap.size, 0, none⟩ = some (.int .i64 n) ∧ wr.cell? ⟨w.heap.size, 1, none⟩ = some (.int .u32 e) ∧ w.heap.size < wr.heap.size ∧ Below w.heap.size w wr) (fun _ s _ => j - (intOf s).toNat)
      case atStart => exact ⟨0, by omega, rfl, hown, c0, c1, hz, hb⟩
      case round =>
        clear c0 c1 hz hb hown
        obtain ⟨i, hi2, rfl, hown, c0, c1, hz, hb⟩ := hrel
        by_cases hlt2 : i < j
        · have hJ := Lib.hid (sjoined_any wr n e i j he (by omega) (by omega) (by omega))
          have hlen := prT_len e j i (by omega) (by omega)
          cases hbb : jn e i j
          · rw [hbb] at hJ
            have hnx := Lib.hid (prT_f hbb)
            clear hbb hlen
            go_wp2_with fail
            refine (hJ.out).mono ?_
            rintro r3 w3 ⟨rfl, hb3⟩
            obtain ⟨hc3_0, hz3_0⟩ := bkeep hb3 (w.heap.size) (by (try simp) <;> omega)
            have hown3 := hown.out.kept (row := none) (w' := w3) ⟨hb3.os, hb3.tape, hb3.output, hb3.size, fun k hk _ => hb3.block k hk⟩ (by cases (Value.ownBlock _) <;> simp)
            rw [← hnx.out] at hown3
            replace hown3 := Lib.hid hown3
            clear hown
            go_wp2
            go_roundw
            case rel => exact ⟨i + 1, by omega, by go_num, hown3, (hc3_0 0).trans c0, (hc3_0 1).trans c1, hz3_0, by (repeat (first | exact Below.refl _ _ | assumption | refine bchain (by assumption) ?_ | refine balloc ?_ _ | apply Below.drew | apply below_drewN | (refine Below.alloc ?_ (by (try simp) <;> omega) _) | (refine Below.setCell ?_ (by (try simp) <;> omega) _)))⟩
            case measure => simp [intOf]; omega
          · rw [hbb] at hJ
            have hnx := Lib.hid (prT_t hbb)
            clear hbb
            have hbd : ∀ W : World, (Instr.build 152 #[(0, .int .i64 (i : Int)), (1, .int .i64 (j : Int))]).run Tryd.prog W = .ok (.agg #[.int .i64 (i : Int), .int .i64 (j : Int)]) W := fun W => run_build W 152 _ _ (by kernel_rfl)
            go_wp2_with fail
            refine (hJ.out).mono ?_
            rintro r3 w3 ⟨rfl, hb3⟩
            obtain ⟨hc3_0, hz3_0⟩ := bkeep hb3 (w.heap.size) (by (try simp) <;> omega)
            have hown3 := Lib.hid (hown.out.kept (row := none) (w' := w3) ⟨hb3.os, hb3.tape, hb3.output, hb3.size, fun k hk _ => hb3.block k hk⟩ (by cases (Value.ownBlock _) <;> simp))
            clear hown
            have e0 := (hc3_0 0).trans c0
            have e1 := (hc3_0 1).trans c1
            have hB3 : Below w.heap.size w w3 := by (repeat (first | exact Below.refl _ _ | assumption | refine bchain (by assumption) ?_ | refine balloc ?_ _ | apply Below.drew | apply below_drewN | (refine Below.alloc ?_ (by (try simp) <;> omega) _) | (refine Below.setCell ?_ (by (try simp) <;> omega) _)))
            clear hc3_0 c0 c1
            go_wp2_with (at_builtin; refine wpList_append_own _ rfl _ _ 150 rfl (w.heap.size + 1) 152 i0 (.agg #[.int .i64 0, .int .i64 0]) 2 16 Tryd.underlying150 hi.out hz0.out hz1.out hz2.out rfl (by decide) _ _ _ rfl (hown3.out.alloc _) ⟨w3.heap.size, 0, none⟩ 1 1 [.int .i64 i, .int .i64 j] rfl rfl (fun q u hq => by match q, hq with
              | 0, hq => simp at hq; subst hq; rw [show (⟨w3.heap.size, 0, none⟩ : Addr).add 0 = ⟨w3.heap.size, 0, none⟩ from rfl, World.cell?_alloc_new]; rfl
              | 1, hq => simp at hq; subst hq; rw [show (⟨w3.heap.size, 0, none⟩ : Addr).add 1 = ⟨w3.heap.size, 1, none⟩ from rfl, World.cell?_alloc_new]; rfl
              | q + 2, hq => simp at hq) (fun u hu => by simp at hu; rcases hu with rfl | rfl <;> rfl) (by unfold maxLen; omega) (by omega) (by simp; omega) ?_; intro v' w4 hown' hgrow _)
            have hne : some w.heap.size ≠ Value.ownBlock _ := fun c => by
              have := (hown3.out.lt _ c.symm).1
              omega
            have f0 := hgrow.cell (a := ⟨w.heap.size, 0, none⟩) ((cOld _ _ _ _ hz3_0).trans e0) hne
            have f1 := hgrow.cell (a := ⟨w.heap.size, 1, none⟩) ((cOld _ _ _ _ hz3_0).trans e1) hne
            have hz4 : w.heap.size < w4.heap.size := by have := hgrow.size; simp at this; omega
            have hB4 : Below w.heap.size w w4 := (balloc hB3 _).grown hgrow (by simp; omega) (fun k hk => by have := (hown3.out.lt k hk).1; omega)
            have hown4 : Hid (w4.ownsRow (w.heap.size + 1) 152 2 v' (prT e j (i + 1)).length (flat (prT e j (i + 1)))) := by
              show World.ownsRow _ _ _ _ _ _ _
              rw [hnx.out, flat_snoc, List.length_append]
              exact hown'
            clear hown' hgrow hown3 hne e0 e1
            go_wp2
            go_roundw
            case rel => exact ⟨i + 1, by omega, by go_num, hown4, f0, f1, hz4, hB4⟩
            case measure => simp [intOf]; omega
        · obtain rfl : i = j := by omega
          have hdd := decide_eq_false (show ¬ ((i : Int) < (i : Int)) by omega)
          have hown3 := hown.out
          rw [prT_end] at hown3
          replace hown3 := Lib.hid hown3
          clear hown
          go_wp2
          go_roundw
          case rel => exact ⟨i + 1, by omega, .inl (by omega), by go_num, hown3, c0, c1, hz, hb⟩
          case measure => simp [intOf]; omega
    · have hdd := decide_eq_false (show ¬ ((j : Int) < (n : Int)) by omega)
      have hp : prT e j 0 = prE n e := by
        rcases hj with hj | hj
        · obtain rfl : j = n := by omega
          exact prT_all j e
        · subst hj
          have hn01 : n = 0 ∨ n = 1 := by omega
          rcases hn01 with rfl | rfl <;> rfl
      have hown2 := hown.out
      rw [hp] at hown2
      have hres := Lib.hid (ownA_of_row (w0 := w) hown2 (by omega))
      clear hown hown2 hp
      go_wp2
      go_ret
      exact ⟨⟨_, rfl, hres.out⟩, hb⟩
end
end Go.Proofs.YtiedombphcdpbaaDoor
