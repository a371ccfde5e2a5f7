/-
  A FLAG WITH ITS UNLABELLED VERTICES IN EVERY ORDER: the program's iterator.
-/
import Derived.Test.YtncbimbbkealmaaGreatDoorKSees
import Derived.Test.YtncbimbbkealmaaGreatDoorIter
import Derived.Test.YtncbimbbkealmaaGreatDoorLeast
import Derived.Test.YtncbimbbkealmaaGreatDoorKVal
namespace Go.Proofs.YtncbimbbkealmaaGreatDoor
open Go.RowKit Go.Shelf
set_option maxRecDepth 100000
attribute [local go_sem] Oper.semAt_some

/-- the orders of n vertices that keep the first k -/
def turns (n k : Nat) : List (List Nat) := ext n (n - k) (List.range k)
theorem turns_all : ∀ n, n ≤ 5 → ∀ k, k ≤ 3 → k ≤ n → (turns n k).all (okList n n) = true := by decide +kernel
theorem turns_ok {n k : Nat} (hn : n ≤ 5) (hk : k ≤ 3) (hkn : k ≤ n) {x : List Nat} (hx : x ∈ turns n k) : okList n n x = true := List.all_eq_true.1 (turns_all n hn k hk hkn) x hx
/-- what the closure promises the iterator -/
def RoundsC (Y Fb : Nat) (L : List (List Nat)) (B0 : Nat) (J Jx : List (List Nat) → World → Prop) : Prop :=
  ∀ pre x rest v W1, L = pre ++ x :: rest → J pre W1 → SlI W1 v (zl x) → Calls Tryz.prog 105 #[v, .pointer (some ⟨Y, 0, none⟩), .pointer (some ⟨Fb, 0, none⟩)] W1 fun e W' =>
    (e = .returned (.bool true) ∧ J (pre ++ [x]) W' ∧ Upper B0 W1 W') ∨ (e = .returned (.bool false) ∧ Jx (pre ++ [x]) W')

set_option maxHeartbeats 1000000 in
theorem llc_zero (n k B B0 Y Fb : Nat) (hk : k ≤ 5) (hB : B0 ≤ B) (L : List (List Nat)) (J Jx : List (List Nat) → World → Prop) (hY : RoundsC Y Fb L B0 J Jx)
    (p : List Nat) (pre rest : List (List Nat)) (W : World) (hp : p.length = k) (hL : L = pre ++ [p] ++ rest) (h0 : J pre W) (hM : LMem W B k p) :
    Calls Tryz.prog 94 #[.int .i64 n, .int .i64 k, .slice (some ⟨B, 0, none⟩) k k, .func (.func 105) #[] #[.pointer (some ⟨Y, 0, none⟩), .pointer (some ⟨Fb, 0, none⟩)]] W fun e W' =>
      (e = .returned (.bool true) ∧ J (pre ++ [p]) W' ∧ LMem W' B k p) ∨ (e = .returned (.bool false) ∧ ∃ q, Jx q W') := by
  have hR := hY pre p rest _ W (by rw [hL]; simp) h0 (hM.sl (by omega))
  rw [hp] at hR
  replace hR := Lib.hid hR
  replace hM := Lib.hid hM
  clear hL h0 hp hY
  go_enter Tryz.func94, Tryz.ntmps94
  go_wp2_with (go_at_call 105; refine (hR.out).mono ?_; rintro e w1 (⟨rfl, hJ1, hu1⟩ | ⟨rfl, hx1⟩))
  · go_ret
    exact .inl ⟨rfl, hJ1, hM.out.upper hu1 hB⟩
  · go_ret
    exact .inr ⟨rfl, _, hx1⟩

set_option maxHeartbeats 4000000 in
theorem llc_in (n k B B0 Y Fb : Nat) (hn : n ≤ 5) (hk : k ≤ 5) (hB : B0 ≤ B) (L : List (List Nat)) (J Jx : List (List Nat) → World → Prop) (hJ : Under B0 J) (hY : RoundsC Y Fb L B0 J Jx) (m : Nat) :
    ∀ (p : List Nat) (pl : Nat) (pre rest : List (List Nat)) (W : World), p.length = pl → pl + m = k → L = pre ++ ext n m p ++ rest → J pre W → LMem W B k p →
    Calls Tryz.prog 94 #[.int .i64 n, .int .i64 k, .slice (some ⟨B, 0, none⟩) pl k, .func (.func 105) #[] #[.pointer (some ⟨Y, 0, none⟩), .pointer (some ⟨Fb, 0, none⟩)]] W fun e W' =>
      (e = .returned (.bool true) ∧ J (pre ++ ext n m p) W' ∧ LMem W' B k p) ∨ (e = .returned (.bool false) ∧ ∃ q, Jx q W') := by
  induction m with
  | zero =>
    intro p pl pre rest W hpl hp hL h0 hM
    obtain rfl : pl = k := hp
    exact llc_zero n pl B B0 Y Fb hk hB L J Jx hY p pre rest W hpl hL h0 hM
  | succ m ih =>
    intro p pl pre rest W hpl hp hL h0 hM
    obtain ⟨i0, hi0, hs0⟩ := info_i64s
    have hlt : pl < k := by omega
    have hne : ((pl : Int) == (k : Int)) = false := by simp; omega
    replace hY := Lib.hid hY
    replace ih := Lib.hid ih
    replace hL := Lib.hid hL
    replace hJ := Lib.hid hJ
    replace hM := Lib.hid hM
    replace h0 := Lib.hid h0
    replace hpl := Lib.hid hpl
    replace hp := Lib.hid hp
    replace hi0 := Lib.hid hi0
    replace hs0 := Lib.hid hs0
    go_enter Tryz.func94, Tryz.ntmps94
    go_wp2
    go_loopw [9, 18] (fun _ c wr => ∃ j : Nat, j ≤ n ∧ c = .int .i64 j ∧ J (pre ++ extTo n m p j) wr ∧ LMem wr B k p) (fun _ c _ => n - (intOf c).toNat)
    case atStart => exact ⟨0, by omega, rfl, by rw [extTo_zero, List.append_nil]; exact h0.out, hM.out⟩
    case round =>
      obtain ⟨j, hj, rfl, hJj, hMj⟩ := hrel
      by_cases hlt2 : j < n
      · have hC := contains_any wr _ p j (hMj.sl (by omega)) (by have := hpl.out; omega)
        rw [hpl.out] at hC
        replace hJj := Lib.hid hJj
        have hM0 := Lib.hid hMj
        cases hb : p.contains j
        · rw [hb] at hC
          replace hC := Lib.hid hC
          have hx := Lib.hid (extTo_f (n := n) (m := m) hb)
          obtain ⟨z, hz⟩ := hMj.cells pl hlt
          have hfz := hMj.free pl hlt
          have hBl := hMj.lt
          obtain ⟨t, ht⟩ := extTo_pre (n := n) (m := m) (p := p) (j := j + 1) (by omega)
          have hcall := Lib.hid (fun W2 hJ2 hM2 => ih.out (p ++ [j]) (pl + 1) (pre ++ extTo n m p j) (t ++ rest) W2 (by simp [hpl.out]) (by have := hp.out; omega) (by rw [hL.out, ht, hx.out]; simp [List.append_assoc]) hJ2 hM2)
          have hJ2 := Lib.hid (hJ.out _ _ _ hJj.out (show Below B0 wr ((wr.setCell ⟨B, pl, none⟩ (.int .i64 (j : Int))).alloc (.cells #[.int .i64 (j : Int)] 2)) from ((Below.refl B0 wr).setCell (p := ⟨B, pl, none⟩) hB _).alloc (by simp; omega) _))
          have hM2 := hM0.out.push (by have := hpl.out; omega) j
          rw [hpl.out] at hM2
          replace hM2 := Lib.hid (hM2.below (balloc (Below.refl _ _) (.cells #[.int .i64 (j : Int)] 2)))
          clear hb hMj ht
          go_wp2_with (first
            | (go_at_call 74; refine (hC.out).mono ?_; rintro r3 w3 ⟨rfl, rfl⟩)
            | (go_at_call 94; refine (hcall.out _ hJ2.out hM2.out).mono ?_; rintro r4 w4 (⟨rfl, hJ4, hM4⟩ | ⟨rfl, hx4⟩)))
          · go_roundw
            case rel => exact ⟨j + 1, by omega, by go_num, by rw [hx.out, ← List.append_assoc]; exact hJ4, hM4.pop⟩
            case measure => simp [intOf]; omega
          · go_ret
            exact .inr ⟨rfl, hx4⟩
        · rw [hb] at hC
          replace hC := Lib.hid hC
          have hx := Lib.hid (extTo_t (n := n) (m := m) hb)
          clear hb hMj
          go_wp2_with (go_at_call 74; refine (hC.out).mono ?_; rintro r3 w3 ⟨rfl, rfl⟩)
          go_roundw
          case rel => exact ⟨j + 1, by omega, by go_num, by rw [hx.out]; exact hJj.out, hM0.out⟩
          case measure => simp [intOf]; omega
      · obtain rfl : j = n := by omega
        have hdd := decide_eq_false (show ¬ ((j : Int) < (j : Int)) by omega)
        replace hJj := Lib.hid hJj
        replace hMj := Lib.hid hMj
        go_wp2
        go_ret
        exact .inl ⟨rfl, by rw [← extTo_end]; exact hJj.out, hMj.out⟩

section
variable (w : World)
theorem to_any (k n e : Int) :
    Calls Tryz.prog 86 #[.agg #[.int .i64 k, .int .i64 n, .int .u32 e]] w fun r w' => ∃ B, r = .returned (.func (.func 103) #[] #[.pointer (some ⟨B, 0, none⟩)]) ∧ w.heap.size ≤ B ∧ FC w' B k n e ∧ Below w.heap.size w w' := by
  go_enter Tryz.func86, Tryz.ntmps86
  go_wp2
  go_ret
  exact ⟨w.heap.size, rfl, Nat.le_refl _, FC.made w k n e _, by (repeat (first | exact Below.refl _ _ | assumption | refine bchain (by assumption) ?_ | refine balloc ?_ _ | apply Below.drew | apply below_drewN | (refine Below.alloc ?_ (by (try simp) <;> omega) _) | (refine Below.setCell ?_ (by (try simp) <;> omega) _)))⟩

set_option maxHeartbeats 1000000 in
theorem labels_any (k n e : Nat) (hk : k ≤ n) (hn : n ≤ 5) :
    Calls Tryz.prog 104 #[.agg #[.int .i64 k, .int .i64 n, .int .u32 e]] w fun r w' => ∃ B, r = .returned (.slice (some ⟨B, 0, none⟩) k n) ∧ w.heap.size ≤ B ∧ LMem w' B n (List.range k) ∧ Below w.heap.size w w' := by
  obtain ⟨O, hO⟩ : ∃ O, O = Obj.cells (madeCells #[.int .i64 0] n) 2 := ⟨_, rfl⟩
  obtain ⟨i0, hi0, hz0, hs0, hb0⟩ := info_parts info_i64
  have hmk : ∀ W : World, (Instr.makeSlice 69 (.int .i64 k) (.int .i64 n)).run Tryz.prog W = .ok (.slice (some ⟨W.heap.size, 0, none⟩) k n) (W.alloc O) := fun W => by
    have hr := run_make (P := Tryz.prog) W 69 2 i0 (.int .i64 0) Tryz.underlying69 hi0 hz0 .i64 .i64 (k : Int) (n : Int) (by omega) (by omega) (by rw [hb0]; omega) (by omega)
    simp only [Int.toNat_natCast, hs0, Nat.mul_one] at hr
    rw [hO]
    exact hr
  obtain ⟨wf, hwf⟩ : ∃ wf, wf = w.alloc (.cells #[.int .i64 k, .int .i64 n, .int .u32 e] 43) := ⟨_, rfl⟩
  have hM := LMem.made wf n 2 (fun i hi => by simp [madeCells, hi, Nat.mod_one])
  rw [← hO] at hM
  have hM0 := Lib.hid hM
  clear hM hi0 hz0 hs0 hb0
  replace hO := Lib.hid hO
  subst hwf
  go_enter Tryz.func104, Tryz.ntmps104
  go_wp2
  go_loopw [4, 13] (fun _ i wr => ∃ j : Nat, j ≤ k ∧ i = .int .i64 j ∧ LMem wr (w.heap.size + 1) n (List.range j) ∧ Below w.heap.size w wr) (fun _ i _ => k - (intOf i).toNat)
  case atStart =>
    have h := hM0.out
    simp only [World.size_alloc] at h
    exact ⟨0, by omega, rfl, h, by (repeat (first | exact Below.refl _ _ | assumption | refine bchain (by assumption) ?_ | refine balloc ?_ _ | apply Below.drew | apply below_drewN | (refine Below.alloc ?_ (by (try simp) <;> omega) _) | (refine Below.setCell ?_ (by (try simp) <;> omega) _)))⟩
  case round =>
    obtain ⟨j, hj, rfl, hM, hb⟩ := hrel
    by_cases hlt : j < k
    · obtain ⟨z, hz⟩ := hM.cells j (by omega)
      have hfz := hM.free j (by omega)
      have hp := hM.push (by simp; omega) j
      rw [List.length_range] at hp
      rw [← List.range_succ] at hp
      replace hp := Lib.hid hp
      replace hM := Lib.hid hM
      go_wp2
      go_roundw
      case rel => exact ⟨j + 1, by omega, by go_num, hp.out, hb.setCell (p := ⟨w.heap.size + 1, j, none⟩) (by show w.heap.size ≤ w.heap.size + 1; omega) _⟩
      case measure => simp [intOf]; omega
    · obtain rfl : j = k := by omega
      have hdd := decide_eq_false (show ¬ ((j : Int) < (j : Int)) by omega)
      replace hM := Lib.hid hM
      go_wp2
      go_ret
      exact ⟨_, rfl, by omega, hM.out, hb⟩

set_option maxHeartbeats 2000000 in
theorem tt_any (nn l Y Fb k n e : Nat) (x : List Nat) (v : Value) (hS : SlI w v (zl x)) (hn5 : n ≤ 5) (he : e < 4294967296) (hx : okList n n x = true) (hf : FC w Fb k n e) (hYl : Y < w.heap.size) (hy : w.cell? ⟨Y, 0, none⟩ = some (.func (.yield l) #[] #[])) (R : Bool → World → Prop)
    (hY : ∀ m W2, Below w.heap.size w W2 → YieldAt Fence.wide m Tryz.prog l #[.agg #[.int .i64 k, .int .i64 n, .int .u32 (onL e x : Nat)]] W2 fun e W' => ∃ b : Bool, e = .returned (.bool b) ∧ R b W') :
    CallsIn Fence.wide nn Tryz.prog 105 #[v, .pointer (some ⟨Y, 0, none⟩), .pointer (some ⟨Fb, 0, none⟩)] w fun e W' => ∃ b : Bool, e = .returned (.bool b) ∧ R b W' := by
  have hOn := Lib.hid (ionL_any w.drew v x n n e hS hn5 he hx)
  obtain ⟨y, hyy⟩ : ∃ y : Nat, onL e x = y := ⟨_, rfl⟩
  rw [hyy] at hOn hY
  replace hY := Lib.hid hY
  obtain ⟨q0, q1, q2, q3⟩ := hf
  clear hyy hS hx
  refine callsIn_of_wp Tryz.func105 rfl trivial ?_ rfl
  simp only [Tryz.ntmps105, List.size_toArray, List.length_cons, List.length_nil, Nat.reduceAdd, Nat.reduceSub, Array.replicate_succ, Array.replicate_zero, List.push_toArray, List.append_toArray, List.nil_append, List.cons_append]
  gi_wp2
  gi_region_with (first
    | (refine ⟨trivial, fun h => (by cases h), ?_⟩; gi_at_call 75; refine (callsIn_wide.2 hOn.out).mono ?_; rintro r3 w3 ⟨rfl, hb3⟩; obtain ⟨hc3, hz3⟩ := bkeep hb3 Fb q0; obtain ⟨hd3, hz4⟩ := bkeep hb3 Y hYl; obtain ⟨fn, tmps, assign, body, hy3, hR⟩ := hY.out (nn - 1) w3 (by (repeat (first | exact Below.refl _ _ | assumption | refine bchain (by assumption) ?_ | refine balloc ?_ _ | apply Below.drew | apply below_drewN | (refine Below.alloc ?_ (by (try simp) <;> omega) _) | (refine Below.setCell ?_ (by (try simp) <;> omega) _)))))
    | (refine ⟨fun h => (by cases h), hR.mono ?_⟩; rintro e4 w4 ⟨b4, rfl, hr4⟩))
  all_goals gi_wp2
  all_goals go_ret
  all_goals exact ⟨b4, rfl, hr4⟩
end
end Go.Proofs.YtncbimbbkealmaaGreatDoor
