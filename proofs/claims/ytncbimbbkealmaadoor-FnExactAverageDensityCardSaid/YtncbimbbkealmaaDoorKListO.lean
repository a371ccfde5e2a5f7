/-
  THE LISTS OF DIFFERENT VERTICES: what the program's iterator yields, for loops whose rounds make and change memory.
-/
import Derived.Test.YtncbimbbkealmaaDoorCfM1
import Derived.Test.YtncbimbbkealmaaDoorIter
namespace Go.Proofs.YtncbimbbkealmaaDoor
open Go.RowKit Go.Shelf
set_option maxRecDepth 100000

theorem yield_mono' {F : Fence} {m : Nat} {P : Program} {l : Nat} {args : Array Value} {W : World} {R R' : Ending → World → Prop} (h : YieldAt F m P l args W R) (hR : ∀ e w, R e w → R' e w) : YieldAt F m P l args W R' := by
  obtain ⟨fn, tmps, assign, body, hy, hr⟩ := h
  exact ⟨fn, tmps, assign, body, hy, hr.mono hR⟩
/-- what the caller's rounds promise the iterator -/
def RoundsY (L : List (List Nat)) (B l : Nat) (J : List (List Nat) → World → Prop) : Prop :=
  ∀ m pre x rest v W1, L = pre ++ x :: rest → J pre W1 → B < W1.heap.size → SlI W1 v (zl x) → YieldAt Fence.wide m Tryd.prog l #[v] W1 fun e W' =>
    e = .returned (.bool true) ∧ J (pre ++ [x]) W' ∧ W1.heap.size ≤ W'.heap.size ∧ W'.heap[B]? = W1.heap[B]?

set_option maxHeartbeats 1000000 in
theorem lly_zero (n k l B : Nat) (hk : k ≤ 5) (L : List (List Nat)) (J : List (List Nat) → World → Prop) (hY : RoundsY L B l J)
    (p : List Nat) (nn : Nat) (pre rest : List (List Nat)) (W : World) (hp : p.length = k) (hL : L = pre ++ [p] ++ rest) (h0 : J pre W) (hM : LMem W B k p) :
    CallsIn Fence.wide nn Tryd.prog 126 #[.int .i64 n, .int .i64 k, .slice (some ⟨B, 0, none⟩) k k, .func (.yield l) #[] #[]] W fun e W' =>
      e = .returned (.bool true) ∧ J (pre ++ [p]) W' ∧ LMem W' B k p := by
  obtain ⟨fn, tmps, assign, body, hy, hR⟩ := hY (nn - 1) pre p rest _ W (by rw [hL]; simp) h0 hM.lt (hM.sl (by omega))
  rw [hp] at hy
  replace hR := Lib.hid hR
  replace hM := Lib.hid hM
  clear hL h0 hp hY
  refine callsIn_of_wp Tryd.func126 rfl trivial ?_ rfl
  simp only [Tryd.ntmps126, List.size_toArray, List.length_cons, List.length_nil, Nat.reduceAdd, Nat.reduceSub, Array.replicate_succ, Array.replicate_zero, List.push_toArray, List.append_toArray, List.nil_append, List.cons_append]
  gi_wp2
  refine ⟨fun h => (by cases h), hR.out.mono ?_⟩
  rintro e w1 ⟨rfl, hJ1, hz1, hu1⟩
  gi_wp2
  go_ret
  exact ⟨rfl, hJ1, hM.out.block hz1 hu1⟩

set_option maxHeartbeats 4000000 in
theorem lly_in (n k l B : Nat) (hn : n ≤ 5) (hk : k ≤ 5) (L : List (List Nat)) (J : List (List Nat) → World → Prop) (hJ : ∀ s A A', J s A → Chg (fun b => b = B) A A' → J s A') (hY : RoundsY L B l J) (m : Nat) :
    ∀ (p : List Nat) (pl nn : Nat) (pre rest : List (List Nat)) (W : World), p.length = pl → pl + m = k → L = pre ++ ext n m p ++ rest → J pre W → LMem W B k p →
    CallsIn Fence.wide nn Tryd.prog 126 #[.int .i64 n, .int .i64 k, .slice (some ⟨B, 0, none⟩) pl k, .func (.yield l) #[] #[]] W fun e W' =>
      e = .returned (.bool true) ∧ J (pre ++ ext n m p) W' ∧ LMem W' B k p := by
  induction m with
  | zero =>
    intro p pl nn pre rest W hpl hp hL h0 hM
    obtain rfl : pl = k := hp
    exact lly_zero n pl l B hk L J hY p nn pre rest W hpl hL h0 hM
  | succ m ih =>
    intro p pl nn pre rest W hpl hp hL h0 hM
    obtain ⟨i0, hi0, hs0⟩ := info_i64s
    have hlt : pl < k := by omega
    have hne : ((pl : Int) == (k : Int)) = false := by simp; omega
    replace hY := Lib.hid hY
    replace ih := Lib.hid ih
    replace hL := Lib.hid hL
    replace hJ := Lib.hid hJ
    replace hM := Lib.hid hM
    replace h0 := Lib.hid h0
    replace hpl := Lib.hid hpl
    replace hp := Lib.hid hp
    replace hi0 := Lib.hid hi0
    replace hs0 := Lib.hid hs0
    refine callsIn_of_wp Tryd.func126 rfl trivial ?_ rfl
    simp only [Tryd.ntmps126, List.size_toArray, List.length_cons, List.length_nil, Nat.reduceAdd, Nat.reduceSub, Array.replicate_succ, Array.replicate_zero, List.push_toArray, List.append_toArray, List.nil_append, List.cons_append]
    gi_wp2
    gi_loopw [9, 18] (fun _ c wr => ∃ j : Nat, j ≤ n ∧ c = .int .i64 j ∧ J (pre ++ extTo n m p j) wr ∧ LMem wr B k p) (fun _ c _ => n - (intOf c).toNat)
    case atStart => exact ⟨0, by omega, rfl, by rw [extTo_zero, List.append_nil]; exact h0.out, hM.out⟩
    case round =>
      obtain ⟨j, hj, rfl, hJj, hMj⟩ := hrel
      by_cases hlt2 : j < n
      · have hC := contains_any wr _ p j (hMj.sl (by omega)) (by have := hpl.out; omega)
        rw [hpl.out] at hC
        replace hJj := Lib.hid hJj
        have hM0 := Lib.hid hMj
        cases hb : p.contains j
        · rw [hb] at hC
          replace hC := Lib.hid hC
          have hx := Lib.hid (extTo_f (n := n) (m := m) hb)
          obtain ⟨z, hz⟩ := hMj.cells pl hlt
          have hfz := hMj.free pl hlt
          have hBl := hMj.lt
          obtain ⟨t, ht⟩ := extTo_pre (n := n) (m := m) (p := p) (j := j + 1) (by omega)
          have hcall := Lib.hid (fun nn W2 hJ2 hM2 => ih.out (p ++ [j]) (pl + 1) nn (pre ++ extTo n m p j) (t ++ rest) W2 (by simp [hpl.out]) (by have := hp.out; omega) (by rw [hL.out, ht, hx.out]; simp [List.append_assoc]) hJ2 hM2)
          have hJ2 := Lib.hid (hJ.out _ _ _ hJj.out (show Chg (fun b => b = B) wr ((wr.setCell ⟨B, pl, none⟩ (.int .i64 (j : Int))).alloc (.cells #[.int .i64 (j : Int)] 2)) from (Chg.setCell (Own := fun b => b = B) wr ⟨B, pl, none⟩ _ rfl).trans (Chg.of_below ((Below.refl _ _).alloc (Nat.le_refl _) _))))
          have hM2 := hM0.out.push (by have := hpl.out; omega) j
          rw [hpl.out] at hM2
          replace hM2 := Lib.hid (hM2.below (balloc (Below.refl _ _) (.cells #[.int .i64 (j : Int)] 2)))
          clear hb hMj ht
          gi_wp2_with (first
            | (refine ⟨trivial, fun h => (by cases h), ?_⟩; gi_at_call 114; refine (callsIn_wide.2 hC.out).mono ?_; rintro r3 w3 ⟨rfl, rfl⟩)
            | (refine ⟨trivial, fun h => (by cases h), ?_⟩; gi_at_call 126; refine (hcall.out _ _ hJ2.out hM2.out).mono ?_; rintro r4 w4 ⟨rfl, hJ4, hM4⟩))
          go_roundw
          case rel => exact ⟨j + 1, by omega, by go_num, by rw [hx.out, ← List.append_assoc]; exact hJ4, hM4.pop⟩
          case measure => simp [intOf]; omega
        · rw [hb] at hC
          replace hC := Lib.hid hC
          have hx := Lib.hid (extTo_t (n := n) (m := m) hb)
          clear hb hMj
          gi_wp2_with (refine ⟨trivial, fun h => (by cases h), ?_⟩; gi_at_call 114; refine (callsIn_wide.2 hC.out).mono ?_; rintro r3 w3 ⟨rfl, rfl⟩)
          go_roundw
          case rel => exact ⟨j + 1, by omega, by go_num, by rw [hx.out]; exact hJj.out, hM0.out⟩
          case measure => simp [intOf]; omega
      · obtain rfl : j = n := by omega
        have hdd := decide_eq_false (show ¬ ((j : Int) < (j : Int)) by omega)
        replace hJj := Lib.hid hJj
        replace hMj := Lib.hid hMj
        gi_wp2
        go_ret
        exact ⟨rfl, by rw [← extTo_end]; exact hJj.out, hMj.out⟩

set_option maxHeartbeats 4000000 in
theorem lists_own (n k : Nat) (hn : n ≤ 5) (hk : k ≤ 5) (nn Bn Bk : Nat) (w : World) (hBn : Bn < w.heap.size) (hBk : Bk < w.heap.size) (gn : w.cell? ⟨Bn, 0, none⟩ = some (.int .i64 n)) (gk : w.cell? ⟨Bk, 0, none⟩ = some (.int .i64 k)) :
    SeqOwn Fence.wide nn Tryd.prog 135 #[.pointer (some ⟨Bn, 0, none⟩), .pointer (some ⟨Bk, 0, none⟩)] (fun _ => True) See (lists n k) w := fun l J W hW hJ _ hY h0 => by
  have c1 : W.cell? ⟨Bn, 0, none⟩ = some (.int .i64 n) := (hW.cell (p := ⟨Bn, 0, none⟩) hBn).trans gn
  have c2 : W.cell? ⟨Bk, 0, none⟩ = some (.int .i64 k) := (hW.cell (p := ⟨Bk, 0, none⟩) hBk).trans gk
  have hfol : Tryd.prog.follows .mixedOrders = true := by kernel_rfl
  obtain ⟨O, hO⟩ : ∃ O, O = Obj.cells (madeCells #[.int .i64 0] k) 2 := ⟨_, rfl⟩
  obtain ⟨i0, hi0, hz0, hs0, hb0⟩ := info_parts info_i64
  have hmk : ∀ W : World, (Instr.makeSlice 70 (.int .i64 0) (.int .i64 k)).run Tryd.prog W = .ok (.slice (some ⟨W.heap.size, 0, none⟩) 0 k) (W.alloc O) := fun W => by
    have hr := run_make (P := Tryd.prog) W 70 2 i0 (.int .i64 0) Tryd.underlying70 hi0 hz0 .i64 .i64 ((0 : Nat) : Int) (k : Int) (by omega) (by omega) (by rw [hb0]; omega) (by omega)
    simp only [Int.toNat_natCast, hs0, Nat.mul_one] at hr
    rw [hO]
    exact hr
  obtain ⟨B, hB⟩ : ∃ B, B = W.heap.size := ⟨_, rfl⟩
  have hog : ∀ b, (fun b => b = B) b → W.heap.size ≤ b := fun b hb => by simp at hb; omega
  obtain ⟨J', hJ'd⟩ : ∃ J' : List (List Nat) → World → Prop, J' = fun pre A => J (fun b => b = B) pre A := ⟨_, rfl⟩
  have hJ' : ∀ s A A', J' s A → Chg (fun b => b = B) A A' → J' s A' := by
    subst hJ'd
    exact fun s A A' h hc => hJ _ hog s A A' h hc
  have hR : RoundsY (lists n k) B l J' := fun m pre x rest v W1 hL hj hBl hs => by
    subst hJ'd
    refine anyDepth (yield_mono' (hY _ pre x rest v W1 (fun b (hb : b = B) => ⟨hog b hb, by omega⟩) hL hj hs) ?_)
    rintro e W' ⟨h1, h2, h3, h4⟩
    exact ⟨h1, h2, h3, h4 B rfl⟩
  have hM := LMem.made W k 2 (fun i hi => by simp [madeCells, hi, Nat.mod_one])
  rw [← hO, ← hB] at hM
  have hj0 : J' [] ((W.alloc O).drew) := by
    subst hJ'd
    exact h0 _ _ hog (((Below.refl _ W).alloc (Nat.le_refl _) O).drew)
  have hcall := Lib.hid (fun nn => (lly_in n k l B hn hk (lists n k) J' hJ' hR k [] 0 nn [] [] ((W.alloc O).drew) rfl (by omega) (by simp [lists])
    hj0 (hM.below ((Below.refl _ _).drew))).mono (R' := fun e w' => ∃ b : Bool, e = .returned (.bool b) ∧ Hid (∃ Own : Nat → Prop, (∀ b, Own b → W.heap.size ≤ b) ∧ J Own (lists n k) w')) (by
      subst hJ'd
      rintro e w' ⟨h1, h2, _⟩
      exact ⟨_, h1, _, hog, h2⟩))
  have d1 := (cOld W O Bn 0 (Nat.lt_of_lt_of_le hBn hW.size)).trans c1
  have d2 := (cOld W O Bk 0 (Nat.lt_of_lt_of_le hBk hW.size)).trans c2
  clear hM hW hBn hBk gn gk hi0 hz0 hs0 hb0 hR hY hJ' hj0 hog hJ'd
  replace hO := Lib.hid hO
  replace hJ := Lib.hid hJ
  replace h0 := Lib.hid h0
  rw [hB] at hcall
  refine callsIn_wide.2 ?_
  go_enter Tryd.func135, Tryd.ntmps135
  go_wp2
  go_region_with (go_at_call 126; refine (callsIn_wide.1 (hcall.out 0)).mono ?_; rintro r4 w4 ⟨b4, rfl, hg4⟩)
  all_goals go_wp2
  all_goals go_end0
  all_goals exact ⟨⟨_, rfl⟩, hg4.out⟩
end Go.Proofs.YtncbimbbkealmaaDoor
