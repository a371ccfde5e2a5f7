/-
  THE ITERATOR OVER PAIRS OF VERTICES THAT ARE AS A FUNCTION TELLS: its contract; the lists of pairs.
-/
import Derived.Test.YtiedombphcdpbaaDoorPlain
import Derived.RangeFuncNested
import Derived.RangeFuncBound
import Derived.RangeFuncCalls
import Derived.RangeFuncLeaves
import Derived.RangeFuncWrites
import Derived.Shelf.Abstract
import Derived.Shelf.RegionOpen
import Derived.OwnWalkIn
import Derived.TacticsInMore
import Derived.LoopNIn
import Derived.LoopIn
namespace Go.Proofs.YtiedombphcdpbaaDoor
open Go.RowKit Go.Shelf
set_option maxRecDepth 100000

/-- the pairs of vertices before j, the lesser one first, in the order of their bits -/
def prs : Nat → List (Nat × Nat) | 0 => [] | j + 1 => prs j ++ (List.range j).map fun i => (i, j)
/-- .. and then those of j with the vertices before i -/
def prsTo (j i : Nat) : List (Nat × Nat) := prs j ++ (List.range i).map fun i => (i, j)
theorem prsTo_zero (j : Nat) : prsTo j 0 = prs j := by simp [prsTo]
theorem prsTo_end (j : Nat) : prsTo j j = prs (j + 1) := rfl
theorem prsTo_succ (j i : Nat) : prsTo j (i + 1) = prsTo j i ++ [(i, j)] := by simp [prsTo, List.range_succ]
theorem prs_length (j : Nat) : (prs j).length ≤ j * j := by
  induction j with
  | zero => simp [prs]
  | succ j ih =>
    simp only [prs, List.length_append, List.length_map, List.length_range]
    rw [Nat.add_mul, Nat.mul_add]
    omega
theorem prsTo_length (j i : Nat) : (prsTo j i).length ≤ j * j + i := by
  have := prs_length j
  simp only [prsTo, List.length_append, List.length_map, List.length_range]
  omega
/-- two vertices, the lesser one first -/
abbrev Pr (n : Nat) := { p : Nat × Nat // p.1 < p.2 ∧ p.2 < n }
abbrev Pr.encs {n : Nat} (x : Pr n) : Array Value := #[.int .i64 (x.1.1 : Nat), .int .i64 (x.1.2 : Nat)]
def vals {n : Nat} (xs : List (Pr n)) : List (Nat × Nat) := xs.map Subtype.val
theorem vals_snoc {n : Nat} (xs : List (Pr n)) (x : Pr n) : vals (xs ++ [x]) = vals xs ++ [x.1] := by simp [vals]
theorem vals_length {n : Nat} (xs : List (Pr n)) : (vals xs).length = xs.length := by simp [vals]

theorem below_grown {W w' : World} (h : Below W.heap.size W w') : W.grownBy w' none := ⟨h.os, h.tape, h.output, h.size, fun k hk _ => h.block k hk⟩

/-- two blocks lie as they lay -/
def Kp2 (Bg Ba : Nat) (W W' : World) : Prop := W.heap.size ≤ W'.heap.size ∧ W'.heap[Bg]? = W.heap[Bg]? ∧ W'.heap[Ba]? = W.heap[Ba]?
theorem Kp2.refl (Bg Ba : Nat) (W : World) : Kp2 Bg Ba W W := ⟨Nat.le_refl _, rfl, rfl⟩
theorem Kp2.trans {Bg Ba : Nat} {A B C : World} (h : Kp2 Bg Ba A B) (k : Kp2 Bg Ba B C) : Kp2 Bg Ba A C := ⟨Nat.le_trans h.1 k.1, k.2.1.trans h.2.1, k.2.2.trans h.2.2⟩
theorem Kp2.of_below {Bg Ba : Nat} {A B : World} (h : Below A.heap.size A B) (hg : Bg < A.heap.size) (ha : Ba < A.heap.size) : Kp2 Bg Ba A B := ⟨h.size, h.block _ hg, h.block _ ha⟩
theorem Kp2.put {Bg Ba : Nat} {w : World} (hg : Bg < w.heap.size) (ha : Ba < w.heap.size) (W : World) (l : Nat) (o o' : Obj) (hl : w.heap.size ≤ l) (_h : W.heap[l]? = some o) (_ : o.isCells = false) (_ : o.isWalk = false) : Kp2 Bg Ba W (W.putObj l o') :=
  ⟨by simp [World.putObj], World.putObj_heap_other (by omega), World.putObj_heap_other (by omega)⟩
theorem Kp2.set {Bg Ba : Nat} (W : World) (p : Addr) (v : Value) (hg : p.block ≠ Bg) (ha : p.block ≠ Ba) : Kp2 Bg Ba W (W.setCell p v) :=
  ⟨by simp, Below.heap_setCell _ _ _ _ (Ne.symm hg), Below.heap_setCell _ _ _ _ (Ne.symm ha)⟩

set_option maxHeartbeats 1000000 in
theorem pj_stops (k : Nat) (hk : 1 ≤ k) (n e : Nat) (hn : n ≤ 5) (b : Nat → Nat → Bool) (Bg Ba : Nat) (w : World) (hBg : Bg < w.heap.size) (hBa : Ba < w.heap.size)
    (hg0 : w.cell? ⟨Bg, 0, none⟩ = some (.int .i64 n)) (hg1 : w.cell? ⟨Bg, 1, none⟩ = some (.int .u32 e)) (ha : w.cell? ⟨Ba, 0, none⟩ = some (.func (.func 120) #[] #[]))
    (hA : ∀ W i j, i < j → j ≤ 4 → Calls Tryd.prog 120 #[.agg #[.int .i64 n, .int .u32 e], .int .i64 (i : Nat), .int .i64 (j : Nat)] W fun r w' => r = .returned (.bool (b i j)) ∧ Below W.heap.size W w') :
    SeqStopsK Fence.wide k Tryd.prog 145 #[.pointer (some ⟨Bg, 0, none⟩), .pointer (some ⟨Ba, 0, none⟩)] (Pr.encs (n := n)) (Kp2 Bg Ba)
      (fun xs => vals xs = (prs n).filter (fun p => b p.1 p.2)) (fun pre => ∃ i j, i < j ∧ j < n ∧ b i j = true ∧ vals pre = (prsTo j i).filter (fun p => b p.1 p.2) ++ [(i, j)]) 100 w := fun l J Jx W hW hJ hJx hY h0 => by
  refine callsIn_of_wp Tryd.func145 rfl trivial ?_ rfl
  simp only [Tryd.ntmps145, List.size_toArray, List.length_cons, List.length_nil, Nat.reduceAdd, Nat.reduceSub, Array.replicate_succ, Array.replicate_zero, List.push_toArray, List.append_toArray, List.nil_append, List.cons_append]
  have hcg0 : W.cell? ⟨Bg, 0, none⟩ = some (.int .i64 n) := (hW.cell (p := ⟨Bg, 0, none⟩) hBg).trans hg0
  have hJd : ∀ (s : List (Pr n)) (A B : World), J s A → Below A.heap.size A B → J s B := fun s A B h hb => hJ s A B none h (below_grown hb) (fun r e => by cases e)
  replace hJd := Lib.hid hJd
  replace hJ := Lib.hid hJ
  replace hJx := Lib.hid hJx
  replace hY := Lib.hid hY
  replace hA := Lib.hid hA
  gi_wp2
  gi_loopw [4, 8] (fun _ p wr => ∃ j : Nat, j ≤ n ∧ p = .int .i64 j ∧ (∃ pre, vals pre = (prs j).filter (fun p => b p.1 p.2) ∧ J pre wr) ∧ Kp2 Bg Ba W wr) (fun _ p _ => n - (intOf p).toNat)
  case atStart => exact ⟨0, by omega, rfl, ⟨[], rfl, h0⟩, Kp2.refl _ _ _⟩
  case round =>
    obtain ⟨j, hj, rfl, ⟨pre, hp, hJp⟩, hB⟩ := hrel
    by_cases hlt : j < n
    · replace hp := Lib.hid hp
      replace hJp := Lib.hid hJp
      gi_wp2
      obtain ⟨wo, rfl⟩ : ∃ wo : World, wo = wr := ⟨_, rfl⟩
      gi_loopw [5, 12] (fun _ p wr => ∃ i : Nat, i ≤ j ∧ p = .int .i64 i ∧ (∃ pre, vals pre = (prsTo j i).filter (fun p => b p.1 p.2) ∧ J pre wr) ∧ Kp2 Bg Ba W wr) (fun _ p _ => j - (intOf p).toNat)
      case atStart => exact ⟨0, by omega, rfl, ⟨pre, by rw [prsTo_zero]; exact hp.out, hJp.out⟩, hB⟩
      case round =>
        obtain ⟨i, hi, rfl, ⟨pre, hp, hJp⟩, hB2⟩ := hrel
        by_cases hlt2 : i < j
        · have q0 : wr.cell? ⟨Bg, 0, none⟩ = some (.int .i64 n) := (World.cell?_of_block hB2.2.1).trans hcg0
          have q1 : wr.cell? ⟨Bg, 1, none⟩ = some (.int .u32 e) := (World.cell?_of_block hB2.2.1).trans ((hW.cell (p := ⟨Bg, 1, none⟩) hBg).trans hg1)
          have qa : wr.cell? ⟨Ba, 0, none⟩ = some (.func (.func 120) #[] #[]) := (World.cell?_of_block hB2.2.2).trans ((hW.cell (p := ⟨Ba, 0, none⟩) hBa).trans ha)
          have hsz : Bg < wr.heap.size ∧ Ba < wr.heap.size := by have h1 := hW.size; have h2 := hB2.1; omega
          have hC := hA.out wr i j hlt2 (by omega)
          replace hp := Lib.hid hp
          replace hJp := Lib.hid hJp
          have hlt3 : (i : Int) < (j : Int) := by omega
          cases hb : b i j
          · rw [hb] at hC
            replace hC := Lib.hid hC
            have hfil : (prsTo j (i + 1)).filter (fun p => b p.1 p.2) = (prsTo j i).filter (fun p => b p.1 p.2) := by rw [prsTo_succ, List.filter_append]; simp [hb]
            replace hfil := Lib.hid hfil
            clear hb
            gi_wp2_with (refine ⟨trivial, ?_⟩; gi_at_call 120; refine (callsIn_wide.2 hC.out).mono ?_; rintro r3 w3 ⟨rfl, hb3⟩)
            refine ⟨fun _ h => (by cases h), ?_⟩
            gi_wp2
            go_roundw
            case rel => exact ⟨i + 1, by omega, by go_num, ⟨pre, by rw [hfil.out]; exact hp.out, hJd.out _ _ _ hJp.out hb3⟩, hB2.trans (Kp2.of_below hb3 hsz.1 hsz.2)⟩
            case measure => simp [intOf]; omega
          · rw [hb] at hC
            replace hC := Lib.hid hC
            have hfil : (prsTo j (i + 1)).filter (fun p => b p.1 p.2) = (prsTo j i).filter (fun p => b p.1 p.2) ++ [(i, j)] := by rw [prsTo_succ, List.filter_append]; simp [hb]
            replace hfil := Lib.hid hfil
            replace hb := Lib.hid hb
            have hlen : pre.length < 100 := by
              have h1 := vals_length pre
              rw [hp.out] at h1
              have h2 := List.length_filter_le (fun p : Nat × Nat => b p.1 p.2) (prsTo j i)
              have h3 := prsTo_length j i
              have h4 : j * j ≤ 4 * 4 := Nat.mul_le_mul (by omega) (by omega)
              omega
            replace hlen := Lib.hid hlen
            gi_wp2_with (refine ⟨trivial, ?_⟩; gi_at_call 120; refine (callsIn_wide.2 hC.out).mono ?_; rintro r3 w3 ⟨rfl, hb3⟩; obtain ⟨fn, tmps, assign, body, hy, hR⟩ := hY.out pre ⟨(i, j), hlt2, hlt⟩ w3 (hJd.out _ _ _ hJp.out hb3) hlen.out; dsimp only [Pr.encs] at hy)
            refine hR.mono ?_
            rintro r4 w4 (⟨rfl, hJ4, hk4⟩ | ⟨rfl, hJx4⟩)
            · gi_wp2
              go_roundw
              case rel => exact ⟨i + 1, by omega, by go_num, ⟨pre ++ [⟨(i, j), hlt2, hlt⟩], by rw [vals_snoc, hfil.out, hp.out], hJ4⟩, (hB2.trans (Kp2.of_below hb3 hsz.1 hsz.2)).trans hk4⟩
              case measure => simp [intOf]; omega
            · gi_wp2
              refine bodyPost_ret (results_none rfl _ _ _) rfl ?_
              exact ⟨⟨_, rfl⟩, .inr ⟨pre ++ [⟨(i, j), hlt2, hlt⟩], ⟨i, j, hlt2, hlt, hb.out, by rw [vals_snoc, hp.out]⟩, hJx4⟩⟩
        · obtain rfl : i = j := by omega
          rw [prsTo_end] at hp
          replace hp := Lib.hid hp
          replace hJp := Lib.hid hJp
          have hdd := decide_eq_false (show ¬ ((i : Int) < (i : Int)) by omega)
          gi_wp2
          go_roundw
          case rel => exact ⟨i + 1, by omega, by go_num, ⟨pre, hp.out, hJp.out⟩, hB2⟩
          case measure => simp [intOf]; omega
    · obtain rfl : j = n := by omega
      have hdd := decide_eq_false (show ¬ ((j : Int) < (j : Int)) by omega)
      replace hp := Lib.hid hp
      replace hJp := Lib.hid hJp
      gi_wp2
      go_end0
      exact ⟨⟨_, rfl⟩, .inl ⟨pre, hp.out, hJp.out⟩⟩
end Go.Proofs.YtiedombphcdpbaaDoor
