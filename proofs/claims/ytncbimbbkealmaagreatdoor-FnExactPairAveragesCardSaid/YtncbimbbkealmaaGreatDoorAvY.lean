/-
  KListO, KLabs, FdB, AvZ, in one text.
-/
import Derived.Test.YtncbimbbkealmaaGreatDoorCfM1
import Derived.Test.YtncbimbbkealmaaGreatDoorIter
import Derived.Test.YtncbimbbkealmaaGreatDoorKLab
import Derived.Test.YtncbimbbkealmaaGreatDoorFd
import Derived.Test.YtncbimbbkealmaaGreatDoorJdM
import Derived.Test.YtncbimbbkealmaaGreatDoorRiR
import Derived.OwnWalkIn
import Derived.TacticsInMore
import Derived.Deep.RegionHeld3
import Derived.BigQuiet
import Derived.Test.YtncbimbbkealmaaGreatDoorRi
import Derived.Deep.DeepCutAuto
/-
  THE LISTS OF DIFFERENT VERTICES: what the program's iterator yields, for loops whose rounds make and change memory.
-/
namespace Go.Proofs.YtncbimbbkealmaaGreatDoor
open Go.RowKit Go.Shelf
set_option maxRecDepth 100000

theorem yield_mono' {F : Fence} {m : Nat} {P : Program} {l : Nat} {args : Array Value} {W : World} {R R' : Ending → World → Prop} (h : YieldAt F m P l args W R) (hR : ∀ e w, R e w → R' e w) : YieldAt F m P l args W R' := by
  obtain ⟨fn, tmps, assign, body, hy, hr⟩ := h
  exact ⟨fn, tmps, assign, body, hy, hr.mono hR⟩
/-- what the caller's rounds promise the iterator -/
def RoundsY (L : List (List Nat)) (B l : Nat) (J : List (List Nat) → World → Prop) : Prop :=
  ∀ m pre x rest v W1, L = pre ++ x :: rest → J pre W1 → B < W1.heap.size → SlI W1 v (zl x) → YieldAt Fence.wide m Tryz.prog l #[v] W1 fun e W' =>
    e = .returned (.bool true) ∧ J (pre ++ [x]) W' ∧ W1.heap.size ≤ W'.heap.size ∧ W'.heap[B]? = W1.heap[B]?

set_option maxHeartbeats 1000000 in
theorem lly_zero (n k l B : Nat) (hk : k ≤ 5) (L : List (List Nat)) (J : List (List Nat) → World → Prop) (hY : RoundsY L B l J)
    (p : List Nat) (nn : Nat) (pre rest : List (List Nat)) (W : World) (hp : p.length = k) (hL : L = pre ++ [p] ++ rest) (h0 : J pre W) (hM : LMem W B k p) :
    CallsIn Fence.wide nn Tryz.prog 94 #[.int .i64 n, .int .i64 k, .slice (some ⟨B, 0, none⟩) k k, .func (.yield l) #[] #[]] W fun e W' =>
      e = .returned (.bool true) ∧ J (pre ++ [p]) W' ∧ LMem W' B k p := by
  obtain ⟨fn, tmps, assign, body, hy, hR⟩ := hY (nn - 1) pre p rest _ W (by rw [hL]; simp) h0 hM.lt (hM.sl (by omega))
  rw [hp] at hy
  replace hR := Lib.hid hR
  replace hM := Lib.hid hM
  clear hL h0 hp hY
  refine callsIn_of_wp Tryz.func94 rfl trivial ?_ rfl
  simp only [Tryz.ntmps94, List.size_toArray, List.length_cons, List.length_nil, Nat.reduceAdd, Nat.reduceSub, Array.replicate_succ, Array.replicate_zero, List.push_toArray, List.append_toArray, List.nil_append, List.cons_append]
  gi_wp2
  refine ⟨fun h => (by cases h), hR.out.mono ?_⟩
  rintro e w1 ⟨rfl, hJ1, hz1, hu1⟩
  gi_wp2
  go_ret
  exact ⟨rfl, hJ1, hM.out.block hz1 hu1⟩

set_option maxHeartbeats 4000000 in
theorem lly_in (n k l B : Nat) (hn : n ≤ 5) (hk : k ≤ 5) (L : List (List Nat)) (J : List (List Nat) → World → Prop) (hJ : ∀ s A A', J s A → Chg (fun b => b = B) A A' → J s A') (hY : RoundsY L B l J) (m : Nat) :
    ∀ (p : List Nat) (pl nn : Nat) (pre rest : List (List Nat)) (W : World), p.length = pl → pl + m = k → L = pre ++ ext n m p ++ rest → J pre W → LMem W B k p →
    CallsIn Fence.wide nn Tryz.prog 94 #[.int .i64 n, .int .i64 k, .slice (some ⟨B, 0, none⟩) pl k, .func (.yield l) #[] #[]] W fun e W' =>
      e = .returned (.bool true) ∧ J (pre ++ ext n m p) W' ∧ LMem W' B k p := by
  induction m with
  | zero =>
    intro p pl nn pre rest W hpl hp hL h0 hM
    obtain rfl : pl = k := hp
    exact lly_zero n pl l B hk L J hY p nn pre rest W hpl hL h0 hM
  | succ m ih =>
    intro p pl nn pre rest W hpl hp hL h0 hM
    obtain ⟨i0, hi0, hs0⟩ := info_i64s
    have hlt : pl < k := by omega
    have hne : ((pl : Int) == (k : Int)) = false := by simp; omega
    replace hY := Lib.hid hY
    replace ih := Lib.hid ih
    replace hL := Lib.hid hL
    replace hJ := Lib.hid hJ
    replace hM := Lib.hid hM
    replace h0 := Lib.hid h0
    replace hpl := Lib.hid hpl
    replace hp := Lib.hid hp
    replace hi0 := Lib.hid hi0
    replace hs0 := Lib.hid hs0
    refine callsIn_of_wp Tryz.func94 rfl trivial ?_ rfl
    simp only [Tryz.ntmps94, List.size_toArray, List.length_cons, List.length_nil, Nat.reduceAdd, Nat.reduceSub, Array.replicate_succ, Array.replicate_zero, List.push_toArray, List.append_toArray, List.nil_append, List.cons_append]
    gi_wp2
    gi_loopw [9, 18] (fun _ c wr => ∃ j : Nat, j ≤ n ∧ c = .int .i64 j ∧ J (pre ++ extTo n m p j) wr ∧ LMem wr B k p) (fun _ c _ => n - (intOf c).toNat)
    case atStart => exact ⟨0, by omega, rfl, by rw [extTo_zero, List.append_nil]; exact h0.out, hM.out⟩
    case round =>
      obtain ⟨j, hj, rfl, hJj, hMj⟩ := hrel
      by_cases hlt2 : j < n
      · have hC := contains_any wr _ p j (hMj.sl (by omega)) (by have := hpl.out; omega)
        rw [hpl.out] at hC
        replace hJj := Lib.hid hJj
        have hM0 := Lib.hid hMj
        cases hb : p.contains j
        · rw [hb] at hC
          replace hC := Lib.hid hC
          have hx := Lib.hid (extTo_f (n := n) (m := m) hb)
          obtain ⟨z, hz⟩ := hMj.cells pl hlt
          have hfz := hMj.free pl hlt
          have hBl := hMj.lt
          obtain ⟨t, ht⟩ := extTo_pre (n := n) (m := m) (p := p) (j := j + 1) (by omega)
          have hcall := Lib.hid (fun nn W2 hJ2 hM2 => ih.out (p ++ [j]) (pl + 1) nn (pre ++ extTo n m p j) (t ++ rest) W2 (by simp [hpl.out]) (by have := hp.out; omega) (by rw [hL.out, ht, hx.out]; simp [List.append_assoc]) hJ2 hM2)
          have hJ2 := Lib.hid (hJ.out _ _ _ hJj.out (show Chg (fun b => b = B) wr ((wr.setCell ⟨B, pl, none⟩ (.int .i64 (j : Int))).alloc (.cells #[.int .i64 (j : Int)] 2)) from (Chg.setCell (Own := fun b => b = B) wr ⟨B, pl, none⟩ _ rfl).trans (Chg.of_below ((Below.refl _ _).alloc (Nat.le_refl _) _))))
          have hM2 := hM0.out.push (by have := hpl.out; omega) j
          rw [hpl.out] at hM2
          replace hM2 := Lib.hid (hM2.below (balloc (Below.refl _ _) (.cells #[.int .i64 (j : Int)] 2)))
          clear hb hMj ht
          gi_wp2_with (first
            | (refine ⟨trivial, fun h => (by cases h), ?_⟩; gi_at_call 74; refine (callsIn_wide.2 hC.out).mono ?_; rintro r3 w3 ⟨rfl, rfl⟩)
            | (refine ⟨trivial, fun h => (by cases h), ?_⟩; gi_at_call 94; refine (hcall.out _ _ hJ2.out hM2.out).mono ?_; rintro r4 w4 ⟨rfl, hJ4, hM4⟩))
          go_roundw
          case rel => exact ⟨j + 1, by omega, by go_num, by rw [hx.out, ← List.append_assoc]; exact hJ4, hM4.pop⟩
          case measure => simp [intOf]; omega
        · rw [hb] at hC
          replace hC := Lib.hid hC
          have hx := Lib.hid (extTo_t (n := n) (m := m) hb)
          clear hb hMj
          gi_wp2_with (refine ⟨trivial, fun h => (by cases h), ?_⟩; gi_at_call 74; refine (callsIn_wide.2 hC.out).mono ?_; rintro r3 w3 ⟨rfl, rfl⟩)
          go_roundw
          case rel => exact ⟨j + 1, by omega, by go_num, by rw [hx.out]; exact hJj.out, hM0.out⟩
          case measure => simp [intOf]; omega
      · obtain rfl : j = n := by omega
        have hdd := decide_eq_false (show ¬ ((j : Int) < (j : Int)) by omega)
        replace hJj := Lib.hid hJj
        replace hMj := Lib.hid hMj
        gi_wp2
        go_ret
        exact ⟨rfl, by rw [← extTo_end]; exact hJj.out, hMj.out⟩

set_option maxHeartbeats 4000000 in
theorem lists_own (n k : Nat) (hn : n ≤ 5) (hk : k ≤ 5) (nn Bn Bk : Nat) (w : World) (hBn : Bn < w.heap.size) (hBk : Bk < w.heap.size) (gn : w.cell? ⟨Bn, 0, none⟩ = some (.int .i64 n)) (gk : w.cell? ⟨Bk, 0, none⟩ = some (.int .i64 k)) :
    SeqOwn Fence.wide nn Tryz.prog 93 #[.pointer (some ⟨Bn, 0, none⟩), .pointer (some ⟨Bk, 0, none⟩)] (fun _ => True) See (lists n k) w := fun l J W hW hJ _ hY h0 => by
  have c1 : W.cell? ⟨Bn, 0, none⟩ = some (.int .i64 n) := (hW.cell (p := ⟨Bn, 0, none⟩) hBn).trans gn
  have c2 : W.cell? ⟨Bk, 0, none⟩ = some (.int .i64 k) := (hW.cell (p := ⟨Bk, 0, none⟩) hBk).trans gk
  have hfol : Tryz.prog.follows .mixedOrders = true := by kernel_rfl
  obtain ⟨O, hO⟩ : ∃ O, O = Obj.cells (madeCells #[.int .i64 0] k) 2 := ⟨_, rfl⟩
  obtain ⟨i0, hi0, hz0, hs0, hb0⟩ := info_parts info_i64
  have hmk : ∀ W : World, (Instr.makeSlice 69 (.int .i64 0) (.int .i64 k)).run Tryz.prog W = .ok (.slice (some ⟨W.heap.size, 0, none⟩) 0 k) (W.alloc O) := fun W => by
    have hr := run_make (P := Tryz.prog) W 69 2 i0 (.int .i64 0) Tryz.underlying69 hi0 hz0 .i64 .i64 ((0 : Nat) : Int) (k : Int) (by omega) (by omega) (by rw [hb0]; omega) (by omega)
    simp only [Int.toNat_natCast, hs0, Nat.mul_one] at hr
    rw [hO]
    exact hr
  obtain ⟨B, hB⟩ : ∃ B, B = W.heap.size := ⟨_, rfl⟩
  have hog : ∀ b, (fun b => b = B) b → W.heap.size ≤ b := fun b hb => by simp at hb; omega
  obtain ⟨J', hJ'd⟩ : ∃ J' : List (List Nat) → World → Prop, J' = fun pre A => J (fun b => b = B) pre A := ⟨_, rfl⟩
  have hJ' : ∀ s A A', J' s A → Chg (fun b => b = B) A A' → J' s A' := by
    subst hJ'd
    exact fun s A A' h hc => hJ _ hog s A A' h hc
  have hR : RoundsY (lists n k) B l J' := fun m pre x rest v W1 hL hj hBl hs => by
    subst hJ'd
    refine anyDepth (yield_mono' (hY _ pre x rest v W1 (fun b (hb : b = B) => ⟨hog b hb, by omega⟩) hL hj hs) ?_)
    rintro e W' ⟨h1, h2, h3, h4⟩
    exact ⟨h1, h2, h3, h4 B rfl⟩
  have hM := LMem.made W k 2 (fun i hi => by simp [madeCells, hi, Nat.mod_one])
  rw [← hO, ← hB] at hM
  have hj0 : J' [] ((W.alloc O).drew) := by
    subst hJ'd
    exact h0 _ _ hog (((Below.refl _ W).alloc (Nat.le_refl _) O).drew)
  have hcall := Lib.hid (fun nn => (lly_in n k l B hn hk (lists n k) J' hJ' hR k [] 0 nn [] [] ((W.alloc O).drew) rfl (by omega) (by simp [lists])
    hj0 (hM.below ((Below.refl _ _).drew))).mono (R' := fun e w' => ∃ b : Bool, e = .returned (.bool b) ∧ Hid (∃ Own : Nat → Prop, (∀ b, Own b → W.heap.size ≤ b) ∧ J Own (lists n k) w')) (by
      subst hJ'd
      rintro e w' ⟨h1, h2, _⟩
      exact ⟨_, h1, _, hog, h2⟩))
  have d1 := (cOld W O Bn 0 (Nat.lt_of_lt_of_le hBn hW.size)).trans c1
  have d2 := (cOld W O Bk 0 (Nat.lt_of_lt_of_le hBk hW.size)).trans c2
  clear hM hW hBn hBk gn gk hi0 hz0 hs0 hb0 hR hY hJ' hj0 hog hJ'd
  replace hO := Lib.hid hO
  replace hJ := Lib.hid hJ
  replace h0 := Lib.hid h0
  rw [hB] at hcall
  refine callsIn_wide.2 ?_
  go_enter Tryz.func93, Tryz.ntmps93
  go_wp2
  go_region_with (go_at_call 94; refine (callsIn_wide.1 (hcall.out 0)).mono ?_; rintro r4 w4 ⟨b4, rfl, hg4⟩)
  all_goals go_wp2
  all_goals go_end0
  all_goals exact ⟨⟨_, rfl⟩, hg4.out⟩
end Go.Proofs.YtncbimbbkealmaaGreatDoor
/-
  THE LISTS OF LABELS OF A GRAPH, AS ARRAYS: what the program's iterator yields.
-/
namespace Go.Proofs.YtncbimbbkealmaaGreatDoor
open Go.RowKit Go.Shelf
set_option maxRecDepth 100000
attribute [local go_sem] Oper.semAt_some

section
variable (w : World)
theorem labsO_any (n k : Int) :
    Calls Tryz.prog 52 #[.int .i64 n, .int .i64 k] w fun r w' => ∃ B, r = .returned (.func (.func 70) #[] #[.pointer (some ⟨B, 0, none⟩), .pointer (some ⟨B + 1, 0, none⟩)]) ∧ LoMade w w' B n k := by
  have s1 : ∀ (W : World) (o : Obj), (W.alloc o).heap.size = W.heap.size + 1 := fun W o => by simp
  replace s1 := Lib.hid s1
  go_enter Tryz.func52, Tryz.ntmps52
  go_wp2
  go_ret
  refine ⟨w.heap.size, rfl, by (repeat (first | exact Below.refl _ _ | assumption | refine bchain (by assumption) ?_ | refine balloc ?_ _ | apply Below.drew | apply below_drewN | (refine Below.alloc ?_ (by (try simp) <;> omega) _) | (refine Below.setCell ?_ (by (try simp) <;> omega) _))), Nat.le_refl _, by rw [s1.out, s1.out]; omega, ?_, ?_⟩
  · rw [cOld _ _ _ _ (by rw [s1.out]; omega), cNew _ _ _ _ _ rfl]; rfl
  · rw [cNew _ _ _ _ _ (by rw [s1.out])]; rfl
end
set_option maxHeartbeats 4000000 in
theorem labs_own (n k : Nat) (hn : n ≤ 5) (hk : k ≤ 3) (nn Bn Bk : Nat) (w : World) (hBn : Bn < w.heap.size) (hBk : Bk < w.heap.size) (gn : w.cell? ⟨Bn, 0, none⟩ = some (.int .i64 n)) (gk : w.cell? ⟨Bk, 0, none⟩ = some (.int .i64 k)) :
    SeqOwn Fence.wide nn Tryz.prog 70 #[.pointer (some ⟨Bn, 0, none⟩), .pointer (some ⟨Bk, 0, none⟩)] (fun _ => True) (fun x v _ => v = arr x) (lists n k) w := fun l J W hW hJ _ hY h0 => by
  have c1 : W.cell? ⟨Bn, 0, none⟩ = some (.int .i64 n) := (hW.cell (p := ⟨Bn, 0, none⟩) hBn).trans gn
  have c2 : W.cell? ⟨Bk, 0, none⟩ = some (.int .i64 k) := (hW.cell (p := ⟨Bk, 0, none⟩) hBk).trans gk
  have hz := hW.size
  obtain ⟨Y, hY0⟩ : ∃ Y, W.heap.size = Y := ⟨_, rfl⟩
  refine callsIn_wide.2 ((callsIn_wide (n := 5)).1 ?_)
  refine callsIn_of_wp_marks Tryz.func70 rfl trivial ?_ rfl
  simp only [Tryz.ntmps70, List.size_toArray, List.length_cons, List.length_nil, Nat.reduceAdd, Nat.reduceSub, Array.replicate_succ, Array.replicate_zero, List.push_toArray, List.append_toArray, List.nil_append, List.cons_append]
  have d1 := (cOld W (.cells #[.func (.yield l) #[] #[]] 99) Bn 0 (by omega)).trans c1
  have d2 := (cOld W (.cells #[.func (.yield l) #[] #[]] 99) Bk 0 (by omega)).trans c2
  have hYc0 : (W.alloc (.cells #[.func (.yield l) #[] #[]] 99)).cell? ⟨Y, 0, none⟩ = some (.func (.yield l) #[] #[]) := by rw [cNew _ _ _ _ _ hY0.symm]; rfl
  have hWY : Below W.heap.size W (W.alloc (.cells #[.func (.yield l) #[] #[]] 99)) := by (repeat (first | exact Below.refl _ _ | assumption | refine bchain (by assumption) ?_ | refine balloc ?_ _ | apply Below.drew | apply below_drewN | (refine Below.alloc ?_ (by (try simp) <;> omega) _) | (refine Below.setCell ?_ (by (try simp) <;> omega) _)))
  have hszY : (W.alloc (.cells #[.func (.yield l) #[] #[]] 99)).heap.size = Y + 1 := by simp [hY0]
  replace hJ := Lib.hid hJ
  replace hY := Lib.hid hY
  replace h0 := Lib.hid h0
  replace hYc0 := Lib.hid hYc0
  clear c1 c2 hW gn gk
  gi_wp2_with (refine ⟨trivial, ?_⟩; gi_at_call 71; refine (callsIn_wide.2 (lo_any _ n k)).mono ?_; rintro r3 w3 ⟨B, rfl, hM⟩)
  obtain ⟨hMb, hMge, hMlt, hMn, hMk⟩ := hM
  rw [hszY] at hMge hMb
  have hYc : w3.cell? ⟨Y, 0, none⟩ = some (.func (.yield l) #[] #[]) := (hMb.cell (p := ⟨Y, 0, none⟩) (by show Y < Y + 1; omega)).trans hYc0.out
  have hB3 : Below W.heap.size W w3 := hWY.trans (hMb.mono (by omega))
  have hog : ∀ Own : Nat → Prop, (∀ b, Own b → w3.heap.size ≤ b) → ∀ b, (Own b ∨ b = Y) → W.heap.size ≤ b := fun Own ho b hb => by
    rcases hb with hb | hb
    · have := ho b hb; omega
    · omega
  clear d1 d2 hYc0 hMb hWY hszY
  have hcl : ∀ A, Below w3.heap.size w3 A → A.cell? ⟨Y, 0, none⟩ = some (.func (.yield l) #[] #[]) ∧ Y < A.heap.size := fun A hA => ⟨(hA.cell (p := ⟨Y, 0, none⟩) (by show Y < _; omega)).trans hYc, by have := hA.size; omega⟩
  replace hcl := Lib.hid hcl
  replace hog := Lib.hid hog
  have hfol : Tryz.prog.follows .mixedOrders = true := by kernel_rfl
  refine wpIn_range_own rfl (by omega) (gf := 93) (lb := #[.pointer (some ⟨B, 0, none⟩), .pointer (some ⟨B + 1, 0, none⟩)]) rfl trivial (enters_of Tryz.func93 (by kernel_rfl) rfl)
    (lists_own n k hn (by omega) 4 B (B + 1) w3 (by omega) (by omega) hMn hMk) (Below.refl _ _) rfl See.below See.cellular
    (fun Own pre A => (∀ b, Own b → w3.heap.size ≤ b) ∧ J (fun b => Own b ∨ b = Y) pre A ∧ A.cell? ⟨Y, 0, none⟩ = some (.func (.yield l) #[] #[]) ∧ Y < A.heap.size)
    (fun _ _ _ _ => trivial)
    (fun Own ho s A A' hs hc => ⟨ho, hJ.out _ (hog.out Own ho) _ _ _ hs.2.1 (hc.mono (fun b hb => .inl hb)), (World.cell?_of_block (a := ⟨Y, 0, none⟩) (hc.same Y hs.2.2.2 (fun c => by have := ho _ c; omega))).trans hs.2.2.1, Nat.lt_of_lt_of_le hs.2.2.2 hc.size⟩)
    (fun Own A ho hA => ⟨ho, h0.out _ A (hog.out Own ho) (hB3.trans (hA.mono hB3.size)), hcl.out A hA⟩)
    (fun v a' _ => a' = { tmps := #[.func (.yield l) #[] #[], .pointer (some ⟨Bn, 0, none⟩), .pointer (some ⟨Bk, 0, none⟩), .pointer (some ⟨Y, 0, none⟩), v, .int .i64 n, .int .i64 k, .func (.func 93) #[] #[.pointer (some ⟨B, 0, none⟩), .pointer (some ⟨B + 1, 0, none⟩)], v, undef, undef, undef, undef, undef], defers := [] })
    (fun _ _ _ _ _ _ h _ _ => h) ?assign ?body ?done
  case assign =>
    intro l' x v A K hv hK
    gi_wp2
    exact hK _ _ (Below.refl _ _) rfl
  case body =>
    rintro l' Own pre x rest v a' A ho hL ⟨hoo, hj, hyc, hylt⟩ hS rfl
    have hx := lists_ok (n := n) (k := k) hn (by omega) (x := x) (by rw [hL]; simp)
    have hog2 := hog.out Own (fun b hb => (ho b hb).1)
    have hlab := Lib.hid (fun A' (hb : Below A.heap.size A A') => lab_any A' v x (See.below x v A A' hS hb) (by rw [ok_length hx]; exact hk))
    have hYl := Lib.hid (fun A' (hb : Below A.heap.size A A') => hY.out (fun b => Own b ∨ b = Y) pre x rest (arr x) A' (fun b hb2 => ⟨hog2 b hb2, by
      have := hb.size
      rcases hb2 with h | h
      · have := (ho b h).2; omega
      · omega⟩) hL (hJ.out _ hog2 _ _ _ hj (Chg.of_below hb)) rfl)
    have hfin := Lib.hid (fun (A1 A2 : World) (hb : Below A.heap.size A A1) (h1 : J (fun b => Own b ∨ b = Y) (pre ++ [x]) A2) (h2 : A1.heap.size ≤ A2.heap.size) (h3 : ∀ b, (Own b ∨ b = Y) → A2.heap[b]? = A1.heap[b]?) =>
      (show ownPost Own (fun pre A => (∀ b, Own b → w3.heap.size ≤ b) ∧ J (fun b => Own b ∨ b = Y) pre A ∧ A.cell? ⟨Y, 0, none⟩ = some (.func (.yield l) #[] #[]) ∧ Y < A.heap.size) (pre ++ [x]) A .normal { tmps := #[], defers := [] } A2 from
        ⟨Nat.le_trans hb.size h2, fun b hb2 => (h3 b (.inl hb2)).trans (hb.block b (ho b hb2).2), hoo, h1, (World.cell?_of_block (a := ⟨Y, 0, none⟩) (h3 Y (.inr rfl))).trans ((hb.cell (p := ⟨Y, 0, none⟩) hylt).trans hyc), by have := hb.size; omega⟩))
    clear hj hx hL
    gi_wp2
    gi_region_with_o (first
      | (refine ⟨trivial, ?_⟩; gi_at_call 72; refine (CallsIn.inRound l' (callsIn_wide.2 (hlab.out _ (by (repeat (first | exact Below.refl _ _ | assumption | refine bchain (by assumption) ?_ | refine balloc ?_ _ | apply Below.drew | apply below_drewN | (refine Below.alloc ?_ (by (try simp) <;> omega) _) | (refine Below.setCell ?_ (by (try simp) <;> omega) _))))))).mono ?_; rintro r4 w4 ⟨rfl, hb4⟩; have hyc4 := (hb4.cell (p := ⟨Y, 0, none⟩) (by first | exact hylt | simpa using hylt)).trans hyc; obtain ⟨fn, tmps, assign, body, hy4, hR⟩ := anyDepth (m' := 2) (hYl.out w4 (by (repeat (first | exact Below.refl _ _ | assumption | refine bchain (by assumption) ?_ | refine balloc ?_ _ | apply Below.drew | apply below_drewN | (refine Below.alloc ?_ (by (try simp) <;> omega) _) | (refine Below.setCell ?_ (by (try simp) <;> omega) _))))))
      | (refine RoundIn.mono (F := Fence.wide.inRound l') hR ?_; rintro e5 w5 ⟨rfl, hj5, hz5, hu5⟩))
    all_goals gi_wp2
    all_goals exact hfin.out _ _ (by (repeat (first | exact Below.refl _ _ | assumption | refine bchain (by assumption) ?_ | refine balloc ?_ _ | apply Below.drew | apply below_drewN | (refine Below.alloc ?_ (by (try simp) <;> omega) _) | (refine Below.setCell ?_ (by (try simp) <;> omega) _)))) hj5 hz5 hu5
  case done =>
    rintro D Own A hD ⟨hoo, hj, _, _⟩ hK hOD
    have hog2 := hog.out Own hoo
    have hj2 := Lib.hid (hJ.out _ hog2 _ _ _ hj (Chg.putObj A D (.deferred none) (.inl hOD)))
    clear hj
    gi_wp2
    refine ⟨by simp, .inl ⟨_, _, rfl, run_takeDeferred hK, ?_⟩⟩
    exact ⟨.tuple #[], by simp [results, Tryz.results70, go_sem], ⟨_, rfl⟩, _, hog2, hj2.out⟩
end Go.Proofs.YtncbimbbkealmaaGreatDoor
/-
  FlagDensity and GraphDensity: both sides.
-/
namespace Go.Proofs.YtncbimbbkealmaaGreatDoor
open Go.RowKit Go.Shelf
set_option maxRecDepth 100000
attribute [local go_sem] Oper.semAt_some
theorem fd0_made (w : World) (k0 n0 e0 k n e : Int) : Fd0 (((w.alloc (.cells #[.int .i64 k0, .int .i64 n0, .int .u32 e0] 43)).alloc (.cells #[.int .i64 k, .int .i64 n, .int .u32 e] 43)).alloc (.cells #[.int .i64 0, .int .i64 0] 51)) w.heap.size k0 n0 e0 k n e := by
  obtain ⟨hF0, hG0⟩ := two_boxes w k0 n0 e0 k n e 43
  have hR0 := FqB.made ((w.alloc (.cells #[.int .i64 k0, .int .i64 n0, .int .u32 e0] 43)).alloc (.cells #[.int .i64 k, .int .i64 n, .int .u32 e] 43)) 0 0 51
  rw [World.size_alloc, World.size_alloc] at hR0
  exact ⟨hF0.below (balloc (Below.refl _ _) _), hG0.below (balloc (Below.refl _ _) _), hR0⟩
/-- a graph's box -/
structure GxB (W : World) (B : Nat) (n e : Int) : Prop where
  lt : B < W.heap.size
  c0 : W.cell? ⟨B, 0, none⟩ = some (.int .i64 n)
  c1 : W.cell? ⟨B, 1, none⟩ = some (.int .u32 e)
theorem GxB.below {W W' : World} {B : Nat} {n e : Int} (h : GxB W B n e) (hb : Below W.heap.size W W') : GxB W' B n e :=
  ⟨Nat.lt_of_lt_of_le h.lt hb.size, (hb.cell (p := ⟨B, 0, none⟩) h.lt).trans h.c0, (hb.cell (p := ⟨B, 1, none⟩) h.lt).trans h.c1⟩
theorem GxB.made (W : World) (n e : Int) (t : TypeId) : GxB (W.alloc (.cells #[.int .i64 n, .int .u32 e] t)) W.heap.size n e :=
  ⟨by simp, by rw [World.cell?_alloc_new]; rfl, by rw [World.cell?_alloc_new]; rfl⟩
structure Gd0 (w : World) (G : Nat) (n0 e0 n e : Int) : Prop where
  f : GxB w G n0 e0
  g : GxB w (G + 1) n e
  r : FqB w (G + 2) 0 0
theorem Gd0.below {w W : World} {G : Nat} {n0 e0 n e : Int} (h : Gd0 w G n0 e0 n e) (hb : Below w.heap.size w W) : Gd0 W G n0 e0 n e := ⟨h.f.below hb, h.g.below hb, h.r.below hb⟩
theorem gd0_made (w : World) (n0 e0 n e : Int) : Gd0 (((w.alloc (.cells #[.int .i64 n0, .int .u32 e0] 32)).alloc (.cells #[.int .i64 n, .int .u32 e] 32)).alloc (.cells #[.int .i64 0, .int .i64 0] 51)) w.heap.size n0 e0 n e := by
  have hG0 := GxB.made (w.alloc (.cells #[.int .i64 n0, .int .u32 e0] 32)) n e 32
  rw [World.size_alloc] at hG0
  have hR0 := FqB.made ((w.alloc (.cells #[.int .i64 n0, .int .u32 e0] 32)).alloc (.cells #[.int .i64 n, .int .u32 e] 32)) 0 0 51
  rw [World.size_alloc, World.size_alloc] at hR0
  exact ⟨((GxB.made w n0 e0 _).below (balloc (Below.refl _ _) _)).below (balloc (Below.refl _ _) _), hG0.below (balloc (Below.refl _ _) _), hR0⟩
section
variable (w : World)
end
theorem vk_zero {n e : Nat} (h : VG n e) : VK ((0 : Nat) : Int) n e := ⟨h, by omega, by omega, by have := h.1; omega⟩
section
variable (w : World)
end
section
variable (w : World)
end
end Go.Proofs.YtncbimbbkealmaaGreatDoor
namespace Go.Proofs.YtncbimbbkealmaaGreatDoor
open Go.RowKit Go.Shelf
set_option maxRecDepth 100000
attribute [local go_sem] Oper.semAt_some
theorem tE_type {n k e y : Nat} (hn : n ≤ 5) (hk : k ≤ 3) (hkn : k ≤ n) (h : y ∈ tE n k e) : onL y (List.range k) = onL e (List.range k) := by
  obtain ⟨x, hx, rfl⟩ := List.mem_map.1 h
  obtain ⟨h1, h2⟩ := (turns_iff hn hk hkn).1 hx
  rw [onL_comp e h1 (range_ok hkn) hn]
  congr 1
  have hp : ∀ i, i ∈ List.range k → x[i]?.getD 0 = i := fun i hi => by
    have hik := List.mem_range.1 hi
    have h3 : (x.take k)[i]? = some i := by rw [h2, List.getElem?_range hik]
    rw [List.getElem?_take_of_lt hik] at h3
    rw [h3]; rfl
  unfold cmp
  rw [List.map_congr_left hp, List.map_id']
/-- has the flag that a list of labels makes the type t -/
def tB (n k e t : Nat) (x : List Nat) : Bool := onL (onL e (ordF n x)) (List.range k) == t
/-- the sum over such lists -/
def avS (n k e t : Nat) (N : List Nat → Nat) (pre : List (List Nat)) : Nat := ((pre.filter (tB n k e t)).map N).sum
theorem avS_t {n k e t : Nat} {N : List Nat → Nat} {pre : List (List Nat)} {x : List Nat} (h : tB n k e t x = true) : avS n k e t N (pre ++ [x]) = avS n k e t N pre + N x := by simp [avS, List.filter_append, h]
theorem avS_f {n k e t : Nat} {N : List Nat → Nat} {pre : List (List Nat)} {x : List Nat} (h : tB n k e t x = false) : avS n k e t N (pre ++ [x]) = avS n k e t N pre := by simp [avS, List.filter_append, h]
theorem avS_le {n k e t : Nat} {N : List Nat → Nat} {D : Nat} : ∀ (pre : List (List Nat)), (∀ x, x ∈ pre → tB n k e t x = true → N x ≤ D) → avS n k e t N pre ≤ pre.length * D
  | [], _ => by simp [avS]
  | x :: r, h => by
    have h1 := avS_le r (fun y hy => h y (List.mem_cons_of_mem _ hy))
    unfold avS at h1 ⊢
    cases hb : tB n k e t x
    · rw [List.filter_cons_of_neg (by simp [hb]), List.length_cons, Nat.add_mul]; omega
    · have h2 := h x (by simp) hb
      rw [List.filter_cons_of_pos hb, List.map_cons, List.sum_cons, List.length_cons, Nat.add_mul]; omega
theorem lists_l60 : ∀ n, n ≤ 5 → ∀ k, k ≤ 3 → (lists n k).length ≤ 60 := by decide +kernel
theorem lists_p : ∀ n, n ≤ 5 → ∀ k, k ≤ n → 0 < (lists n k).length := by decide +kernel
namespace Fr
theorem low_nil {D : Nat} (h0 : 0 < D) (h : D ≤ 1000000000) : low ((0 : Nat) : Int) (D : Int) = some (0, 1) := by
  obtain ⟨a, b, hl, h1, h2⟩ := low_at (X := 0) (D := D) (by omega) h
  rw [hl]
  rw [Nat.gcd_zero_left] at h1 h2
  have ha : a = 0 := by
    rcases Nat.mul_eq_zero.1 h1.symm with h3 | h3
    · omega
    · exact h3
  have hb : b = 1 := Nat.eq_of_mul_eq_mul_left h0 (by omega)
  rw [ha, hb]
  rfl
theorem div_low {X D L : Nat} {a : Int × Int} (hX : X ≤ 1000000000) (hD : D ≤ 1000000000) (hD0 : 0 < D) (ha : low (X : Int) (D : Int) = some a) : divF a ((L : Int), 1) = low (X : Int) ((D * L : Nat) : Int) := by
  obtain ⟨a1, a2, ea, x1, x2⟩ := low_at hX hD
  rw [ea] at ha
  cases ha
  obtain ⟨g, hg⟩ : ∃ g, Nat.gcd X D = g := ⟨_, rfl⟩
  rw [hg] at x1 x2
  have hg0 : 0 < g := Nat.pos_of_ne_zero (fun c => by rw [c] at x2; omega)
  unfold divF
  dsimp only
  have e1 : (a1 : Int) * 1 = ((a1 : Nat) : Int) := by simp
  have e2 : (a2 : Int) * (L : Int) = ((a2 * L : Nat) : Int) := by simp
  rw [e1, e2, ← low_scale g _ _ hg0]
  rw [← x1, ← Nat.mul_assoc, ← x2]
end Fr
/-- what the loop keeps: all old blocks but the sum's and the counter's -/
structure KA (w w8 : World) (Bs Bl : Nat) (S : Int × Int) (c : Nat) (A : World) : Prop where
  below : Below w.heap.size w A
  ge : w8.heap.size ≤ A.heap.size
  old : ∀ b, b < w8.heap.size → b ≠ Bs → b ≠ Bl → A.heap[b]? = w8.heap[b]?
  sum : FqB A Bs S.1 S.2
  cnt : A.cell? ⟨Bl, 0, none⟩ = some (.int .i64 (c : Int))
  cfz : A.frozen? ⟨Bl, 0, none⟩ = false
theorem FqB.blk {W W' : World} {B : Nat} {p q : Int} (h : FqB W B p q) (hz : W.heap.size ≤ W'.heap.size) (hs : W'.heap[B]? = W.heap[B]?) : FqB W' B p q :=
  ⟨Nat.lt_of_lt_of_le h.lt hz, (World.cell?_of_block (a := ⟨B, 0, none⟩) hs).trans h.c0, (World.cell?_of_block (a := ⟨B, 1, none⟩) hs).trans h.c1, fun o => (World.frozen?_of_block (a := ⟨B, o, none⟩) hs).trans (h.fz o)⟩
theorem KA.chg {w w8 A A' : World} {Bs Bl : Nat} {S : Int × Int} {c : Nat} {Own : Nat → Prop} (hw : w.heap.size ≤ w8.heap.size) (hs : Bs < w8.heap.size) (hl : Bl < w8.heap.size) (ho : ∀ b, Own b → w8.heap.size ≤ b) (h : KA w w8 Bs Bl S c A) (hc : Chg Own A A') : KA w w8 Bs Bl S c A' := by
  have hq : ∀ b, b < w8.heap.size → A'.heap[b]? = A.heap[b]? := fun b hb => hc.same b (Nat.lt_of_lt_of_le hb h.ge) (fun c => by have := ho b c; omega)
  exact ⟨⟨hc.os.trans h.below.os, hc.tape.trans h.below.tape, hc.output.trans h.below.output, Nat.le_trans h.below.size hc.size, fun q hh => (hq q (by omega)).trans (h.below.block q hh)⟩, Nat.le_trans h.ge hc.size, fun b h1 h2 h3 => (hq b h1).trans (h.old b h1 h2 h3), h.sum.blk hc.size (hq Bs hs), (World.cell?_of_block (a := ⟨Bl, 0, none⟩) (hq Bl hl)).trans h.cnt, (World.frozen?_of_block (a := ⟨Bl, 0, none⟩) (hq Bl hl)).trans h.cfz⟩
theorem KA.after {w w8 A A' : World} {Bs Bl : Nat} {S : Int × Int} {c : Nat} (hw : w.heap.size ≤ w8.heap.size) (hs : Bs < w8.heap.size) (hl : Bl < w8.heap.size) (h : KA w w8 Bs Bl S c A) (hb : Below A.heap.size A A') : KA w w8 Bs Bl S c A' :=
  h.chg hw hs hl (Own := fun _ => False) (fun _ hf => hf.elim) (Chg.of_below hb)
theorem KA.step {w w8 A : World} {Bs Bl : Nat} {S : Int × Int} {c : Nat} (hw : w.heap.size ≤ Bl) (hne : Bs ≠ Bl) (h : KA w w8 Bs Bl S c A) (v : Int) (hv : v = ((c + 1 : Nat) : Int)) : KA w w8 Bs Bl S (c + 1) (A.setCell ⟨Bl, 0, none⟩ (.int .i64 v)) := by
  subst hv
  exact ⟨h.below.setCell (p := ⟨Bl, 0, none⟩) hw _, by simpa using h.ge, fun b h1 h2 h3 => (Below.heap_setCell _ _ _ _ h3).trans (h.old b h1 h2 h3), h.sum.blk (by simp) (Below.heap_setCell _ _ _ _ hne), World.cell?_setCell_same _ _ _ h.cnt, by rw [World.frozen?_setCell]; exact h.cfz⟩
theorem KA.put {w w8 A A' : World} {Bs Bl : Nat} {S S' : Int × Int} {c : Nat} (hw : w.heap.size ≤ Bs) (hne : Bs ≠ Bl) (hl : Bl < w8.heap.size) (h : KA w w8 Bs Bl S c A) (hc : Chg (fun b => b = Bs) A A') (hS : FqB A' Bs S'.1 S'.2) : KA w w8 Bs Bl S' c A' := by
  have hq : ∀ b, b < A.heap.size → b ≠ Bs → A'.heap[b]? = A.heap[b]? := fun b hb hn => hc.same b hb hn
  have hlA : Bl < A.heap.size := Nat.lt_of_lt_of_le hl h.ge
  exact ⟨⟨hc.os.trans h.below.os, hc.tape.trans h.below.tape, hc.output.trans h.below.output, Nat.le_trans h.below.size hc.size, fun q hh => (hq q (Nat.lt_of_lt_of_le hh h.below.size) (by omega)).trans (h.below.block q hh)⟩, Nat.le_trans h.ge hc.size, fun b h1 h2 h3 => (hq b (Nat.lt_of_lt_of_le h1 h.ge) h2).trans (h.old b h1 h2 h3), hS, (World.cell?_of_block (a := ⟨Bl, 0, none⟩) (hq Bl hlA (fun c => hne c.symm))).trans h.cnt, (World.frozen?_of_block (a := ⟨Bl, 0, none⟩) (hq Bl hlA (fun c => hne c.symm))).trans h.cfz⟩
/-- 'below' over a change of one later block -/
theorem below_chg {w A A' : World} {Bs : Nat} (hw : w.heap.size ≤ Bs) (h : Below w.heap.size w A) (hc : Chg (fun b => b = Bs) A A') : Below w.heap.size w A' :=
  ⟨hc.os.trans h.os, hc.tape.trans h.tape, hc.output.trans h.output, Nat.le_trans h.size hc.size, fun q hh => (hc.same q (Nat.lt_of_lt_of_le hh h.size) (by omega)).trans (h.block q hh)⟩
end Go.Proofs.YtncbimbbkealmaaGreatDoor
/-
  AVERAGES OF A GRAPH: the program's averageOf, over whatever is told of each flag.
-/
namespace Go.Proofs.YtncbimbbkealmaaGreatDoor
open Go.RowKit Go.Shelf
set_option maxRecDepth 100000
attribute [local go_sem] Oper.semAt_some
theorem store_func {P : Program} {w : World} {a : Addr} {m : Mode} (fn : Fn) : (store a (.func fn #[] #[]) m).run P w = stored P w a (.func fn #[] #[]) m := run_store P w a _ m rfl
attribute [local go_sem] store_func
/-- the function at an index of the table -/
def tabF : Nat → FuncId
  | 0 => 48
  | 1 => 49
  | _ => 50
/-- an iterator whose rounds are told that the world is a later one -/
theorem SeqOwn.later {α : Type} {F : Fence} {n : Nat} {P : Program} {g : Nat} {lb : Array Value} {See : α → Value → World → Prop} {L : List α} {w : World} (h : SeqOwn F n P g lb (fun _ => True) See L w) :
    SeqOwn F n P g lb (fun A => w.heap.size ≤ A.heap.size) (fun x v A => See x v A ∧ w.heap.size ≤ A.heap.size) L w :=
  fun l J W hW hJ hJi hY h0 => h l J W hW hJ (fun _ _ _ _ => trivial) (fun Own pre x rest v W1 ho hL hj hs => hY Own pre x rest v W1 ho hL hj ⟨hs, hJi _ _ _ hj⟩) h0
/-- averageOf's boxes -/
structure Av0 (W : World) (G G1 G2 G3 G4 q k n0 e0 : Nat) (k1 n1 e1 : Int) (n e : Nat) : Prop where
  lt : G < W.heap.size ∧ G1 < W.heap.size ∧ G2 < W.heap.size ∧ G3 < W.heap.size ∧ G4 < W.heap.size
  wh : W.cell? ⟨G, 0, none⟩ = some (.int .i64 q)
  s0 : W.cell? ⟨G1, 0, none⟩ = some (.int .i64 k)
  s1 : W.cell? ⟨G1, 1, none⟩ = some (.int .i64 n0)
  s2 : W.cell? ⟨G1, 2, none⟩ = some (.int .u32 e0)
  s3 : W.cell? ⟨G1, 3, none⟩ = some (.int .i64 k1)
  s4 : W.cell? ⟨G1, 4, none⟩ = some (.int .i64 n1)
  s5 : W.cell? ⟨G1, 5, none⟩ = some (.int .u32 e1)
  g0 : W.cell? ⟨G2, 0, none⟩ = some (.int .i64 n)
  g1 : W.cell? ⟨G2, 1, none⟩ = some (.int .u32 e)
  r : FqB W G3 0 0
  tb : W.cell? ⟨G4, q, none⟩ = some (.func (.func (tabF q)) #[] #[])
theorem Av0.blk {W W' : World} {G G1 G2 G3 G4 q k n0 e0 : Nat} {k1 n1 e1 : Int} {n e : Nat} (h : Av0 W G G1 G2 G3 G4 q k n0 e0 k1 n1 e1 n e) (hz : W.heap.size ≤ W'.heap.size) (h0 : W'.heap[G]? = W.heap[G]?) (h1 : W'.heap[G1]? = W.heap[G1]?) (h2 : W'.heap[G2]? = W.heap[G2]?) (h3 : W'.heap[G3]? = W.heap[G3]?) (h4 : W'.heap[G4]? = W.heap[G4]?) : Av0 W' G G1 G2 G3 G4 q k n0 e0 k1 n1 e1 n e := by
  obtain ⟨⟨l0, l1, l2, l3, l4⟩, a, b0, b1, b2, b3, b4, b5, c0, c1, d, t⟩ := h
  have hh : ∀ (g : Nat) (o : Nat) (v : Value), W'.heap[g]? = W.heap[g]? → W.cell? ⟨g, o, none⟩ = some v → W'.cell? ⟨g, o, none⟩ = some v := fun g o v e1 e2 => (World.cell?_of_block (a := ⟨g, o, none⟩) e1).trans e2
  exact ⟨⟨Nat.lt_of_lt_of_le l0 hz, Nat.lt_of_lt_of_le l1 hz, Nat.lt_of_lt_of_le l2 hz, Nat.lt_of_lt_of_le l3 hz, Nat.lt_of_lt_of_le l4 hz⟩, hh _ _ _ h0 a, hh _ _ _ h1 b0, hh _ _ _ h1 b1, hh _ _ _ h1 b2, hh _ _ _ h1 b3, hh _ _ _ h1 b4, hh _ _ _ h1 b5, hh _ _ _ h2 c0, hh _ _ _ h2 c1, d.blk hz h3, hh _ _ _ h4 t⟩
theorem Av0.below {W W' : World} {G G1 G2 G3 G4 q k n0 e0 : Nat} {k1 n1 e1 : Int} {n e : Nat} (h : Av0 W G G1 G2 G3 G4 q k n0 e0 k1 n1 e1 n e) (hb : Below W.heap.size W W') : Av0 W' G G1 G2 G3 G4 q k n0 e0 k1 n1 e1 n e :=
  h.blk hb.size (hb.block _ h.lt.1) (hb.block _ h.lt.2.1) (hb.block _ h.lt.2.2.1) (hb.block _ h.lt.2.2.2.1) (hb.block _ h.lt.2.2.2.2)
theorem av0_made (w : World) (q k n0 e0 : Nat) (k1 n1 e1 : Int) (n e : Nat) (hq : q < 3) : Av0 (((((w.alloc (.cells #[.int .i64 (q : Int)] 3)).alloc (.cells #[.int .i64 (k : Int), .int .i64 (n0 : Int), .int .u32 (e0 : Int), .int .i64 k1, .int .i64 n1, .int .u32 e1] 54)).alloc (.cells #[.int .i64 (n : Int), .int .u32 (e : Int)] 32)).alloc (.cells #[.int .i64 0, .int .i64 0] 51)).alloc (.cells #[.func (.func 48) #[] #[], .func (.func 49) #[] #[], .func (.func 50) #[] #[]] 80)) w.heap.size (w.heap.size + 1) (w.heap.size + 2) (w.heap.size + 3) (w.heap.size + 4) q k n0 e0 k1 n1 e1 n e := by
  have s1 : ∀ (W : World) (o : Obj), (W.alloc o).heap.size = W.heap.size + 1 := fun W o => by simp
  refine ⟨⟨?_, ?_, ?_, ?_, ?_⟩, ?_, ?_, ?_, ?_, ?_, ?_, ?_, ?_, ?_, ⟨?_, ?_, ?_, ?_⟩, ?_⟩
  · rw [s1, s1, s1, s1, s1]; omega
  · rw [s1, s1, s1, s1, s1]; omega
  · rw [s1, s1, s1, s1, s1]; omega
  · rw [s1, s1, s1, s1, s1]; omega
  · rw [s1, s1, s1, s1, s1]; omega
  · simp [go_sem]
  · simp [go_sem]
  · simp [go_sem]
  · simp [go_sem]
  · simp [go_sem]
  · simp [go_sem]
  · simp [go_sem]
  · simp [go_sem]
  · simp [go_sem]
  · rw [s1, s1, s1, s1, s1]; omega
  · simp [go_sem]
  · simp [go_sem]
  · intro o; simp [go_sem]
  · have hc : q = 0 ∨ q = 1 ∨ q = 2 := by omega
    rcases hc with rfl | rfl | rfl
    · simp [go_sem, tabF]
    · simp [go_sem, tabF]
    · simp [go_sem, tabF]
/-- what holds when the operations of the test of the types have come up -/
structure TJ (W0 : World) (FV F1 T1 T2 PV : Value) (b : Bool) (f : Nat → Bool) (t29 t30 t31 t32 t33 t34 : Value) (W : World) : Prop where
  below : Below W0.heap.size W0 W
  h0 : f 0 = true → t29 = FV
  h1 : f 1 = true → t30 = T1
  h2 : f 2 = true → t31 = PV
  h3 : f 3 = true → t32 = F1
  h4 : f 4 = true → t33 = T2
  h5 : f 5 = true → t34 = .bool b
section
variable {W0 : World} {FV F1 T1 T2 PV : Value} {b : Bool} {f : Nat → Bool} {t29 t30 t31 t32 t33 t34 : Value} {W : World}
theorem TJ.world (h : TJ W0 FV F1 T1 T2 PV b f t29 t30 t31 t32 t33 t34 W) {W' : World} (hb : Below W.heap.size W W') : TJ W0 FV F1 T1 T2 PV b f t29 t30 t31 t32 t33 t34 W' :=
  ⟨bchain hb h.below, fun e => h.h0 e, fun e => h.h1 e, fun e => h.h2 e, fun e => h.h3 e, fun e => h.h4 e, fun e => h.h5 e⟩
theorem TJ.p0 (h : TJ W0 FV F1 T1 T2 PV b f t29 t30 t31 t32 t33 t34 W) : TJ W0 FV F1 T1 T2 PV b (setf f 0) (FV) t30 t31 t32 t33 t34 W :=
  ⟨h.below, fun _ => rfl, fun e => h.h1 e, fun e => h.h2 e, fun e => h.h3 e, fun e => h.h4 e, fun e => h.h5 e⟩
theorem TJ.p1 (h : TJ W0 FV F1 T1 T2 PV b f t29 t30 t31 t32 t33 t34 W) : TJ W0 FV F1 T1 T2 PV b (setf f 1) t29 (T1) t31 t32 t33 t34 W :=
  ⟨h.below, fun e => h.h0 e, fun _ => rfl, fun e => h.h2 e, fun e => h.h3 e, fun e => h.h4 e, fun e => h.h5 e⟩
theorem TJ.p2 (h : TJ W0 FV F1 T1 T2 PV b f t29 t30 t31 t32 t33 t34 W) : TJ W0 FV F1 T1 T2 PV b (setf f 2) t29 t30 (PV) t32 t33 t34 W :=
  ⟨h.below, fun e => h.h0 e, fun e => h.h1 e, fun _ => rfl, fun e => h.h3 e, fun e => h.h4 e, fun e => h.h5 e⟩
theorem TJ.p3 (h : TJ W0 FV F1 T1 T2 PV b f t29 t30 t31 t32 t33 t34 W) : TJ W0 FV F1 T1 T2 PV b (setf f 3) t29 t30 t31 (F1) t33 t34 W :=
  ⟨h.below, fun e => h.h0 e, fun e => h.h1 e, fun e => h.h2 e, fun _ => rfl, fun e => h.h4 e, fun e => h.h5 e⟩
theorem TJ.p4 (h : TJ W0 FV F1 T1 T2 PV b f t29 t30 t31 t32 t33 t34 W) : TJ W0 FV F1 T1 T2 PV b (setf f 4) t29 t30 t31 t32 (T2) t34 W :=
  ⟨h.below, fun e => h.h0 e, fun e => h.h1 e, fun e => h.h2 e, fun e => h.h3 e, fun _ => rfl, fun e => h.h5 e⟩
theorem TJ.p5 (h : TJ W0 FV F1 T1 T2 PV b f t29 t30 t31 t32 t33 t34 W) : TJ W0 FV F1 T1 T2 PV b (setf f 5) t29 t30 t31 t32 t33 (.bool b) W :=
  ⟨h.below, fun e => h.h0 e, fun e => h.h1 e, fun e => h.h2 e, fun e => h.h3 e, fun e => h.h4 e, fun _ => rfl⟩
end
/-- what holds when the operations of the sum have come up -/
structure AJ (W0 : World) (Bs : Nat) (QV PV FV SV GV XV : Value) (a b x5 y5 : Int) (f : Nat → Bool) (t35 t36 t37 t38 t39 t40 t41 t42 : Value) (W : World) : Prop where
  chg : Chg (fun b => b = Bs) W0 W
  sum : FqB W Bs (if f 8 then x5 else a) (if f 8 then y5 else b)
  ge : W0.heap.size ≤ W.heap.size
  d7 : f 7 = true → f 0 = true
  d8 : f 8 = true → f 0 = true
  h0 : f 0 = true → t35 = .agg #[.int .i64 a, .int .i64 b]
  h1 : f 1 = true → t36 = QV
  h2 : f 2 = true → t37 = PV
  h3 : f 3 = true → t38 = FV
  h4 : f 4 = true → t39 = SV
  h5 : f 5 = true → t40 = GV
  h6 : f 6 = true → t41 = XV
  h7 : f 7 = true → t42 = .agg #[.int .i64 x5, .int .i64 y5]
section
variable {W0 : World} {Bs : Nat} {QV PV FV SV GV XV : Value} {a b x5 y5 : Int} {f : Nat → Bool} {t35 t36 t37 t38 t39 t40 t41 t42 : Value} {W : World}
theorem AJ.world (h : AJ W0 Bs QV PV FV SV GV XV a b x5 y5 f t35 t36 t37 t38 t39 t40 t41 t42 W) {W' : World} (hb : Below W.heap.size W W') : AJ W0 Bs QV PV FV SV GV XV a b x5 y5 f t35 t36 t37 t38 t39 t40 t41 t42 W' :=
  ⟨h.chg.trans (Chg.of_below hb), h.sum.below hb, Nat.le_trans h.ge hb.size, h.d7, h.d8, fun e => h.h0 e, fun e => h.h1 e, fun e => h.h2 e, fun e => h.h3 e, fun e => h.h4 e, fun e => h.h5 e, fun e => h.h6 e, fun e => h.h7 e⟩
theorem AJ.p0 (h : AJ W0 Bs QV PV FV SV GV XV a b x5 y5 f t35 t36 t37 t38 t39 t40 t41 t42 W) : AJ W0 Bs QV PV FV SV GV XV a b x5 y5 (setf f 0) (.agg #[.int .i64 a, .int .i64 b]) t36 t37 t38 t39 t40 t41 t42 W :=
  ⟨h.chg, h.sum, h.ge, fun _ => rfl, fun _ => rfl, fun _ => rfl, fun e => h.h1 e, fun e => h.h2 e, fun e => h.h3 e, fun e => h.h4 e, fun e => h.h5 e, fun e => h.h6 e, fun e => h.h7 e⟩
theorem AJ.p1 (h : AJ W0 Bs QV PV FV SV GV XV a b x5 y5 f t35 t36 t37 t38 t39 t40 t41 t42 W) : AJ W0 Bs QV PV FV SV GV XV a b x5 y5 (setf f 1) t35 (QV) t37 t38 t39 t40 t41 t42 W :=
  ⟨h.chg, h.sum, h.ge, fun e => h.d7 e, fun e => h.d8 e, fun e => h.h0 e, fun _ => rfl, fun e => h.h2 e, fun e => h.h3 e, fun e => h.h4 e, fun e => h.h5 e, fun e => h.h6 e, fun e => h.h7 e⟩
theorem AJ.p2 (h : AJ W0 Bs QV PV FV SV GV XV a b x5 y5 f t35 t36 t37 t38 t39 t40 t41 t42 W) : AJ W0 Bs QV PV FV SV GV XV a b x5 y5 (setf f 2) t35 t36 (PV) t38 t39 t40 t41 t42 W :=
  ⟨h.chg, h.sum, h.ge, fun e => h.d7 e, fun e => h.d8 e, fun e => h.h0 e, fun e => h.h1 e, fun _ => rfl, fun e => h.h3 e, fun e => h.h4 e, fun e => h.h5 e, fun e => h.h6 e, fun e => h.h7 e⟩
theorem AJ.p3 (h : AJ W0 Bs QV PV FV SV GV XV a b x5 y5 f t35 t36 t37 t38 t39 t40 t41 t42 W) : AJ W0 Bs QV PV FV SV GV XV a b x5 y5 (setf f 3) t35 t36 t37 (FV) t39 t40 t41 t42 W :=
  ⟨h.chg, h.sum, h.ge, fun e => h.d7 e, fun e => h.d8 e, fun e => h.h0 e, fun e => h.h1 e, fun e => h.h2 e, fun _ => rfl, fun e => h.h4 e, fun e => h.h5 e, fun e => h.h6 e, fun e => h.h7 e⟩
theorem AJ.p4 (h : AJ W0 Bs QV PV FV SV GV XV a b x5 y5 f t35 t36 t37 t38 t39 t40 t41 t42 W) : AJ W0 Bs QV PV FV SV GV XV a b x5 y5 (setf f 4) t35 t36 t37 t38 (SV) t40 t41 t42 W :=
  ⟨h.chg, h.sum, h.ge, fun e => h.d7 e, fun e => h.d8 e, fun e => h.h0 e, fun e => h.h1 e, fun e => h.h2 e, fun e => h.h3 e, fun _ => rfl, fun e => h.h5 e, fun e => h.h6 e, fun e => h.h7 e⟩
theorem AJ.p5 (h : AJ W0 Bs QV PV FV SV GV XV a b x5 y5 f t35 t36 t37 t38 t39 t40 t41 t42 W) : AJ W0 Bs QV PV FV SV GV XV a b x5 y5 (setf f 5) t35 t36 t37 t38 t39 (GV) t41 t42 W :=
  ⟨h.chg, h.sum, h.ge, fun e => h.d7 e, fun e => h.d8 e, fun e => h.h0 e, fun e => h.h1 e, fun e => h.h2 e, fun e => h.h3 e, fun e => h.h4 e, fun _ => rfl, fun e => h.h6 e, fun e => h.h7 e⟩
theorem AJ.p6 (h : AJ W0 Bs QV PV FV SV GV XV a b x5 y5 f t35 t36 t37 t38 t39 t40 t41 t42 W) : AJ W0 Bs QV PV FV SV GV XV a b x5 y5 (setf f 6) t35 t36 t37 t38 t39 t40 (XV) t42 W :=
  ⟨h.chg, h.sum, h.ge, fun e => h.d7 e, fun e => h.d8 e, fun e => h.h0 e, fun e => h.h1 e, fun e => h.h2 e, fun e => h.h3 e, fun e => h.h4 e, fun e => h.h5 e, fun _ => rfl, fun e => h.h7 e⟩
theorem AJ.p7 (h : AJ W0 Bs QV PV FV SV GV XV a b x5 y5 f t35 t36 t37 t38 t39 t40 t41 t42 W) (g0 : f 0 = true) : AJ W0 Bs QV PV FV SV GV XV a b x5 y5 (setf f 7) t35 t36 t37 t38 t39 t40 t41 (.agg #[.int .i64 x5, .int .i64 y5]) W :=
  ⟨h.chg, h.sum, h.ge, fun _ => g0, fun e => h.d8 e, fun e => h.h0 e, fun e => h.h1 e, fun e => h.h2 e, fun e => h.h3 e, fun e => h.h4 e, fun e => h.h5 e, fun e => h.h6 e, fun _ => rfl⟩
theorem AJ.s8 (h : AJ W0 Bs QV PV FV SV GV XV a b x5 y5 f t35 t36 t37 t38 t39 t40 t41 t42 W) (g0 : f 0 = true) : AJ W0 Bs QV PV FV SV GV XV a b x5 y5 (setf f 8) t35 t36 t37 t38 t39 t40 t41 t42 ((W.setCell ⟨Bs, 0, none⟩ (.int .i64 x5)).setCell ⟨Bs, 1, none⟩ (.int .i64 y5)) :=
  ⟨h.chg.trans ⟨rfl, rfl, rfl, by simp, fun i _ hn => (Below.heap_setCell _ _ _ _ hn).trans (Below.heap_setCell _ _ _ _ hn)⟩, h.sum.put x5 y5, by simpa using h.ge, fun e => h.d7 e, fun _ => g0, fun e => h.h0 e, fun e => h.h1 e, fun e => h.h2 e, fun e => h.h3 e, fun e => h.h4 e, fun e => h.h5 e, fun e => h.h6 e, fun e => h.h7 e⟩
end
section
variable (w : World)
set_option maxHeartbeats 8000000 in
theorem iav_any (q k n e n0 e0 : Nat) (k1 n1 e1 : Int) (hq : q < 3) (hg : VG n e) (h0 : VK k n0 e0) (hkn : k ≤ n) (N : List Nat → Nat) (vf : List Nat → Int × Int) (D : Nat) (hD0 : 0 < D) (hD : D ≤ 1000) (eg : ∀ args w, (callFunc (tabF q) args).run Tryz.prog w = .ok (.enter (tabF q) args) w)
    (hN : ∀ x, x ∈ lists n k → tB n k e (onL e0 (List.range k)) x = true → N x ≤ D ∧ Fr.low (N x : Int) (D : Int) = some (vf x))
    (hF : ∀ W x, Below w.heap.size w W → x ∈ lists n k → tB n k e (onL e0 (List.range k)) x = true → Calls Tryz.prog (tabF q) #[.agg #[.int .i64 k, .int .i64 n0, .int .u32 e0, .int .i64 k1, .int .i64 n1, .int .u32 e1], .agg #[.int .i64 k, .int .i64 n, .int .u32 (onL e (ordF n x) : Nat)]] W fun r w' => r = .returned (.agg #[.int .i64 (vf x).1, .int .i64 (vf x).2]) ∧ Below W.heap.size W w')
    (R : Int × Int) (hR : Fr.low (avS n k e (onL e0 (List.range k)) N (lists n k) : Nat) ((D * (lists n k).length : Nat) : Int) = some R) :
    Calls Tryz.prog 25 #[.int .i64 q, .agg #[.int .i64 k, .int .i64 n0, .int .u32 e0, .int .i64 k1, .int .i64 n1, .int .u32 e1], .agg #[.int .i64 n, .int .u32 e]] w
      fun r w' => r = .returned (.agg #[.int .i64 R.1, .int .i64 R.2]) ∧ Below w.heap.size w w' := by
  have hnl : n ≤ 5 := by have := hg.2.1; omega
  obtain ⟨_, hn05, hk3, hk0⟩ := h0.nums
  have hWh := Lib.hid (fun W n => Fr.whole_any W n)
  have hLb := Lib.hid (fun W => labsO_any W (n : Int) (k : Int))
  have hTy0 := Lib.hid (fun W => ity_any W k n0 e0 h0)
  obtain ⟨t, ht⟩ : ∃ t, onL e0 (List.range k) = t := ⟨_, rfl⟩
  rw [ht] at hTy0 hN hF hR
  have hl60 := lists_l60 n hnl k hk3
  have hlp := lists_p n hnl k hkn
  -- the sums
  have hlow := fun (pre : List (List Nat)) (hp : ∀ x, x ∈ pre → x ∈ lists n k) (hl : pre.length ≤ 60) => (show ∃ s, Fr.low (avS n k e t N pre : Nat) (D : Int) = some s ∧ Fr.VP s ∧ avS n k e t N pre ≤ 60000 from by
    have h1 := avS_le (n := n) (k := k) (e := e) (t := t) (N := N) (D := D) pre (fun x hx hb => (hN x (hp x hx) hb).1)
    have h2 : pre.length * D ≤ 60 * 1000 := Nat.mul_le_mul hl hD
    obtain ⟨a, b, hab, _⟩ := Fr.low_at (X := avS n k e t N pre) (D := D) (by omega) (by omega)
    exact ⟨_, hab, Fr.low_vf (by omega) hab, by omega⟩)
  have hG0 := Lib.hid (av0_made w q k n0 e0 k1 n1 e1 n e hq)
  have hEg := Lib.hid eg
  replace hN := Lib.hid hN
  replace hF := Lib.hid hF
  replace hR := Lib.hid hR
  replace hlow := Lib.hid hlow
  clear ht
  refine (callsIn_wide (n := 7)).1 ?_
  refine callsIn_of_wp_marks Tryz.func25 rfl trivial ?_ rfl
  simp only [Tryz.ntmps25, List.size_toArray, List.length_cons, List.length_nil, Nat.reduceAdd, Nat.reduceSub, Array.replicate_succ, Array.replicate_zero, List.push_toArray, List.append_toArray, List.nil_append, List.cons_append]
  gi_wp2_with fail
  refine ⟨trivial, ?_⟩
  gi_at_call 51
  refine (callsIn_wide.2 (hWh.out _ _)).mono ?_
  rintro r3 w3 ⟨rfl, hb3⟩
  have hV3 := hG0.out.below hb3
  have hB3 : Below w.heap.size w w3 := by (repeat (first | exact Below.refl _ _ | assumption | refine bchain (by assumption) ?_ | refine balloc ?_ _ | apply Below.drew | apply below_drewN | (refine Below.alloc ?_ (by (try simp) <;> omega) _) | (refine Below.setCell ?_ (by (try simp) <;> omega) _)))
  obtain ⟨G1, hG1⟩ : ∃ x, w.heap.size + 1 = x := ⟨_, rfl⟩
  obtain ⟨G2, hG2⟩ : ∃ x, w.heap.size + 2 = x := ⟨_, rfl⟩
  obtain ⟨G3, hG3⟩ : ∃ x, w.heap.size + 3 = x := ⟨_, rfl⟩
  obtain ⟨G4, hG4⟩ : ∃ x, w.heap.size + 4 = x := ⟨_, rfl⟩
  rw [show (w.heap.size + 1 + 1 + 1 + 1 : Nat) = w.heap.size + 4 by omega, show (w.heap.size + 1 + 1 + 1 : Nat) = w.heap.size + 3 by omega, show (w.heap.size + 1 + 1 : Nat) = w.heap.size + 2 by omega]
  rw [hG1, hG2, hG3, hG4] at hV3 ⊢
  obtain ⟨W5, hW5⟩ : ∃ W5, W5 = (w3.alloc (.cells #[.int .i64 0, .int .i64 1] 51)).alloc (.cells #[.int .i64 0] 2) := ⟨_, rfl⟩
  have hb5 : Below w3.heap.size w3 W5 := by rw [hW5]; (repeat (first | exact Below.refl _ _ | assumption | refine bchain (by assumption) ?_ | refine balloc ?_ _ | apply Below.drew | apply below_drewN | (refine Below.alloc ?_ (by (try simp) <;> omega) _) | (refine Below.setCell ?_ (by (try simp) <;> omega) _)))
  have hz5 : W5.heap.size = w3.heap.size + 2 := by rw [hW5]; simp
  have hV5 := hV3.below hb5
  have kS5 : FqB W5 w3.heap.size 0 1 := by rw [hW5]; exact (FqB.made w3 0 1 _).below (balloc (Below.refl _ _) _)
  have kL5 : W5.cell? ⟨w3.heap.size + 1, 0, none⟩ = some (.int .i64 0) := by rw [hW5, cNew _ _ _ _ _ (by simp)]; rfl
  have kZ5 : W5.frozen? ⟨w3.heap.size + 1, 0, none⟩ = false := by rw [hW5, fNew _ _ _ _ _ (by simp)]
  have hB5 : Below w.heap.size w W5 := hB3.trans (hb5.mono hB3.size)
  obtain ⟨⟨y0, y1, y2, y3, y4⟩, wh, s0, s1, s2, s3, s4, s5, g0, g1, kr, tb⟩ := id hV3
  replace kr := Lib.hid kr
  replace hV3 := Lib.hid hV3
  replace kS5 := Lib.hid kS5
  replace kL5 := Lib.hid kL5
  replace kZ5 := Lib.hid kZ5
  replace hW5 := Lib.hid hW5
  have hGw : w.heap.size ≤ G3 := by omega
  clear hG1 hG2 hG3 hG4 hb3 hb5 hB3 hG0
  gi_wp2_with fail
  rw [← hW5.out]
  obtain ⟨Bs, hBs⟩ : ∃ x, w3.heap.size = x := ⟨_, rfl⟩
  obtain ⟨Bl, hBl⟩ : ∃ x, Bs + 1 = x := ⟨_, rfl⟩
  replace kL5 := kL5.out
  replace kZ5 := kZ5.out
  replace kS5 := kS5.out
  rw [hBs] at kS5 kL5 kZ5 hz5 y0 y1 y2 y3 y4
  rw [hBl] at kL5 kZ5
  rw [hBs, hBl]
  replace kS5 := Lib.hid kS5
  replace kL5 := Lib.hid kL5
  replace kZ5 := Lib.hid kZ5
  clear wh s0 s1 s2 s3 s4 s5 g0 g1 kr tb hBs hW5
  refine ⟨trivial, ?_⟩
  gi_at_call 52
  refine (callsIn_wide.2 (hLb.out _)).mono ?_
  rintro r8 w8 ⟨B, rfl, hM⟩
  obtain ⟨hb8, hBge, hBlt, gn, gk⟩ := hM
  have hz8 := hb8.size
  have hB8 : Below w.heap.size w w8 := hB5.trans (hb8.mono hB5.size)
  have kV8 := Lib.hid (hV5.below hb8)
  have hI8 := Lib.hid (show KA w w8 Bs Bl (0, 1) 0 w8 from ⟨hB8, Nat.le_refl _, fun _ _ _ _ => rfl, kS5.out.below hb8, (hb8.cell (p := ⟨Bl, 0, none⟩) (by show Bl < _; omega)).trans kL5.out, (hb8.frozen (p := ⟨Bl, 0, none⟩) (by show Bl < _; omega)).trans kZ5.out⟩)
  have hw8 := hB8.size
  have hwB : w.heap.size < Bs := y0
  clear hV3 hV5 kS5 kL5 kZ5 hb8 hB5 hLb
  gi_wp2_with fail
  refine wpIn_range_own rfl (by omega) (gf := 70) (lb := #[.pointer (some ⟨B, 0, none⟩), .pointer (some ⟨B + 1, 0, none⟩)]) rfl trivial (enters_of Tryz.func70 (by kernel_rfl) rfl)
    (labs_own n k hnl hk3 6 B (B + 1) w8 (by omega) hBlt gn gk).later (Below.refl _ _) rfl (fun _ _ _ _ h hb => ⟨h.1, Nat.le_trans h.2 hb.size⟩) (fun _ _ A l o o' h hl ho => ⟨h.1, by simpa [World.putObj] using h.2⟩)
    (fun _ pre A => ∃ s, Fr.low (avS n k e t N pre : Nat) (D : Int) = some s ∧ Fr.VP s ∧ KA w w8 Bs Bl s pre.length A)
    (fun _ s A hs => by obtain ⟨_, _, _, h⟩ := hs; exact h.ge)
    (fun Own ho s A A' hs hc => by obtain ⟨s', h1, h2, h3⟩ := hs; exact ⟨s', h1, h2, h3.chg hw8 (by omega) (by omega) ho hc⟩)
    (fun Own A ho hA => ⟨(0, 1), Fr.low_nil hD0 (by omega), ⟨by decide, by decide, by decide, by decide, by decide⟩, hI8.out.after hw8 (by omega) (by omega) hA⟩)
    (fun v a' A => ∃ (Z : Nat) (x0 x1 x2 : Nat), w8.heap.size ≤ Z ∧ A.cell? ⟨Z, 0, none⟩ = some (.int .i64 x0) ∧ A.cell? ⟨Z, 1, none⟩ = some (.int .i64 x1) ∧ A.cell? ⟨Z, 2, none⟩ = some (.int .i64 x2) ∧ v = .agg #[.int .i64 x0, .int .i64 x1, .int .i64 x2] ∧ a' = { tmps := #[.int .i64 q, .agg #[.int .i64 k, .int .i64 n0, .int .u32 e0, .int .i64 k1, .int .i64 n1, .int .u32 e1], .agg #[.int .i64 n, .int .u32 e], .pointer (some ⟨w.heap.size, 0, none⟩), .pointer (some ⟨G1, 0, none⟩), .pointer (some ⟨G2, 0, none⟩), .pointer (some ⟨G3, 0, none⟩), .pointer (some ⟨G4, 0, none⟩), .pointer (some ⟨Bs, 0, none⟩), .pointer (some ⟨Bl, 0, none⟩), .pointer (some ⟨Z, 0, none⟩), undef, .agg #[.func (.func 48) #[] #[], .func (.func 49) #[] #[], .func (.func 50) #[] #[]], .agg #[.int .i64 0, .int .i64 1], .pointer (some ⟨G2, 0, none⟩), .int .i64 n, .pointer (some ⟨G1, 0, none⟩), .pointer (some ⟨G1, 0, none⟩), .int .i64 k, .func (.func 70) #[] #[.pointer (some ⟨B, 0, none⟩), .pointer (some ⟨B + 1, 0, none⟩)], v, undef, undef, undef, undef, undef, undef, undef, undef, undef, undef, undef, undef, undef, undef, undef, undef, undef, undef, undef, undef, undef, undef, undef, undef, undef, undef], defers := [] })
    (fun v a' A l o o' h hl ho => by obtain ⟨Z, x0, x1, x2, h1, h2, h3, h4, h5⟩ := h; exact ⟨Z, x0, x1, x2, h1, cellular_cell _ _ A l o o' h2 hl ho, cellular_cell _ _ A l o o' h3 hl ho, cellular_cell _ _ A l o o' h4 hl ho, h5⟩) ?assign ?body ?done
  case assign =>
    intro l x v A K hv hK
    obtain ⟨rfl, hz⟩ := hv
    unfold arr at hK ⊢
    obtain ⟨x0, hx0⟩ : ∃ x0 : Nat, x[0]?.getD 0 = x0 := ⟨_, rfl⟩
    obtain ⟨x1, hx1⟩ : ∃ x1 : Nat, x[1]?.getD 0 = x1 := ⟨_, rfl⟩
    obtain ⟨x2, hx2⟩ : ∃ x2 : Nat, x[2]?.getD 0 = x2 := ⟨_, rfl⟩
    rw [hx0, hx1, hx2] at hK ⊢
    have hfin := Lib.hid (hK _ (A.alloc (.cells #[.int .i64 (x0 : Int), .int .i64 (x1 : Int), .int .i64 (x2 : Int)] 85)) (balloc (Below.refl _ _) _) ⟨A.heap.size, x0, x1, x2, hz, by rw [cNew _ _ _ _ _ rfl]; rfl, by rw [cNew _ _ _ _ _ rfl]; rfl, by rw [cNew _ _ _ _ _ rfl]; rfl, rfl, rfl⟩)
    gi_wp2
    exact hfin.out
  case body =>
    rintro l Own pre x rest v a' A ho hL ⟨sp, hsl, hsv, hI⟩ ⟨hS, _⟩ ⟨Z, x0, x1, x2, hZ, c0, c1, c2, hv, rfl⟩
    have hx : x ∈ lists n k := by rw [hL]; simp
    have hok := lists_ok hnl (by omega) hx
    have hLd := Lib.hid (fun W => labd_any W n e k x hg hk3 hok)
    have hVf : VK k n (onL e (ordF n x) : Nat) := VK.mk' hnl hk3 hkn (onL_ltP e (ordF_ok hnl hk3 hok) hnl)
    have hTy1 := Lib.hid (fun W => ity_any W k n _ hVf)
    have hpl : pre.length < 60 := by
      have h2 := hl60
      rw [hL] at h2
      simp at h2
      omega
    have hxp : ∀ y, y ∈ pre → y ∈ lists n k := fun y hy => by rw [hL]; simp [hy]
    have hxq : ∀ y, y ∈ pre ++ [x] → y ∈ lists n k := fun y hy => by
      rcases List.mem_append.1 hy with h | h
      · exact hxp y h
      · simp at h; rw [h]; exact hx
    have hl0 := hlow.out pre hxp (by omega)
    have hl1 := hlow.out (pre ++ [x]) hxq (by rw [List.length_append]; simp; omega)
    have hFx := fun W (hW : Below w.heap.size w W) (hb : tB n k e t x = true) => hF.out W x hW hx hb
    have hNx := hN.out x hx
    obtain ⟨y, hy⟩ : ∃ y, onL e (ordF n x) = y := ⟨_, rfl⟩
    rw [hy] at hLd hTy1 hVf hFx
    obtain ⟨u, hu⟩ : ∃ u, onL y (List.range k) = u := ⟨_, rfl⟩
    rw [hu] at hTy1
    have htb : tB n k e t x = (u == t) := by unfold tB; rw [hy, hu]
    have hax : arr x = .agg #[.int .i64 x0, .int .i64 x1, .int .i64 x2] := (show v = arr x from hS).symm.trans hv
    rw [hax] at hLd
    obtain ⟨c, hc⟩ : ∃ c, pre.length = c := ⟨_, rfl⟩
    have hcl : (pre ++ [x]).length = c + 1 := by rw [List.length_append, hc]; rfl
    rw [hc] at hI hpl
    have kVA := kV8.out.blk hI.ge (hI.old _ (by omega) (by omega) (by omega)) (hI.old _ (by omega) (by omega) (by omega)) (hI.old _ (by omega) (by omega) (by omega)) (hI.old _ (by omega) (by omega) (by omega)) (hI.old _ (by omega) (by omega) (by omega))
    have hwr : IntKind.i64.wrap ((c : Int) + 1) = (c : Int) + 1 := IntWalk.i64_in _ ⟨by omega, by omega⟩
    have hZl := World.block_lt_of_cell? A ⟨Z, 0, none⟩ c0
    have hcn := hI.cnt
    have hcz := hI.cfz
    have hI1 := hI.step (by omega) (by omega) ((c : Int) + 1) (by omega)
    have hge := hI.ge
    obtain ⟨b, hbd⟩ : ∃ b, (u == t) = b := ⟨_, rfl⟩
    have hq0 := fun W => eqGrK W k k u t
    rw [show ((k : Int) == (k : Int) && (u : Int) == (t : Int)) = b by rw [← hbd, Bool.eq_iff_iff]; simp; omega] at hq0
    rw [hbd] at htb
    have ne1 : Bl ≠ G2 := by omega
    have ne2 : Bl ≠ G1 := by omega
    have ne3 : Bl ≠ Z := by omega
    have ne4 : G2 ≠ Bl := by omega
    have ne5 : G1 ≠ Bl := by omega
    have ne6 : Z ≠ Bl := by omega
    obtain ⟨_, wh, s0, s1, s2, s3, s4, s5, g0, g1, kr, tb⟩ := id kVA
    have hV1 := Lib.hid (show Av0 (A.setCell ⟨Bl, 0, none⟩ (.int .i64 ((c : Int) + 1))) w.heap.size G1 G2 G3 G4 q k n0 e0 k1 n1 e1 n e from kVA.blk (by simp) (Below.heap_setCell _ _ _ _ (by show _ ≠ Bl; omega)) (Below.heap_setCell _ _ _ _ (by show _ ≠ Bl; omega)) (Below.heap_setCell _ _ _ _ (by show _ ≠ Bl; omega)) (Below.heap_setCell _ _ _ _ (by show _ ≠ Bl; omega)) (Below.heap_setCell _ _ _ _ (by show _ ≠ Bl; omega)))
    have hs1 : (A.setCell ⟨Bl, 0, none⟩ (.int .i64 ((c : Int) + 1))).heap.size = A.heap.size := by simp
    have ho1 := Lib.hid (fun b2 (hb : Own b2) => (show (A.setCell ⟨Bl, 0, none⟩ (.int .i64 ((c : Int) + 1))).heap[b2]? = A.heap[b2]? from Below.heap_setCell _ _ _ _ (by have := (ho b2 hb).1; show b2 ≠ Bl; omega)))
    replace ho := Lib.hid ho
    replace hI1 := Lib.hid hI1
    replace kr := Lib.hid kr
    replace kVA := Lib.hid kVA
    replace hl0 := Lib.hid hl0
    replace hl1 := Lib.hid hl1
    replace hFx := Lib.hid hFx
    replace hNx := Lib.hid hNx
    replace htb := Lib.hid htb
    replace hsl := Lib.hid hsl
    subst hv
    clear hS hax hL hxp hxq hok hVf hu hbd hI hy hlow hF hN hR
    gi_wp2_with fail
    refine ⟨trivial, (CallsIn.inRound l (callsIn_wide.2 (hLd.out _))).mono ?_⟩
    rintro r5 w5 ⟨rfl, hb5⟩
    have hI5 := hI1.out.after hw8 (by omega) (by omega) hb5
    have kV5 := hV1.out.below hb5
    have hz5' := hb5.size
    rw [hs1] at hz5'
    have hw5 : Bs < w5.heap.size := by omega
    obtain ⟨W6, hW6⟩ : ∃ W6, W6 = w5.alloc (.cells #[.int .i64 (k : Int), .int .i64 (n : Int), .int .u32 (y : Int)] 43) := ⟨_, rfl⟩
    have hb6 : Below w5.heap.size w5 W6 := by rw [hW6]; (repeat (first | exact Below.refl _ _ | assumption | refine bchain (by assumption) ?_ | refine balloc ?_ _ | apply Below.drew | apply below_drewN | (refine Below.alloc ?_ (by (try simp) <;> omega) _) | (refine Below.setCell ?_ (by (try simp) <;> omega) _)))
    have kF : Hid (FC W6 w5.heap.size k n y) := by rw [hW6]; exact FC.made w5 k n y _
    have kV6 := Lib.hid (kV5.below hb6)
    have hI6 := Lib.hid (hI5.after hw8 (by omega) (by omega) hb6)
    have ho6 := Lib.hid (fun b2 (hb : Own b2) => (show W6.heap[b2]? = A.heap[b2]? ∧ b2 < W6.heap.size from ⟨(hb6.block b2 (by have := (ho.out b2 hb).2; omega)).trans ((hb5.block b2 (by have := (ho.out b2 hb).2; rw [hs1]; exact this)).trans (ho1.out b2 hb)), by have := (ho.out b2 hb).2; have := hb6.size; omega⟩))
    have hz6 : w5.heap.size < W6.heap.size := by rw [hW6]; simp
    replace hW6 := Lib.hid hW6
    clear wh s0 s1 s2 s3 s4 s5 g0 g1 kr tb hb5 hb6 kV5 hI5 hI1 hV1 kVA c0 c1 c2 hcn hcz ho1
    gi_wp2
    rw [← hW6.out]
    refine wpInR_region_inv (fun f ac W => ∃ t29 t30 t31 t32 t33 t34, ac = { tmps := #[.int .i64 q, .agg #[.int .i64 k, .int .i64 n0, .int .u32 e0, .int .i64 k1, .int .i64 n1, .int .u32 e1], .agg #[.int .i64 n, .int .u32 e], .pointer (some ⟨w.heap.size, 0, none⟩), .pointer (some ⟨G1, 0, none⟩), .pointer (some ⟨G2, 0, none⟩), .pointer (some ⟨G3, 0, none⟩), .pointer (some ⟨G4, 0, none⟩), .pointer (some ⟨Bs, 0, none⟩), .pointer (some ⟨Bl, 0, none⟩), .pointer (some ⟨Z, 0, none⟩), .pointer (some ⟨w5.heap.size, 0, none⟩), .agg #[.func (.func 48) #[] #[], .func (.func 49) #[] #[], .func (.func 50) #[] #[]], .agg #[.int .i64 0, .int .i64 1], .pointer (some ⟨G2, 0, none⟩), .int .i64 n, .pointer (some ⟨G1, 0, none⟩), .pointer (some ⟨G1, 0, none⟩), .int .i64 k, .func (.func 70) #[] #[.pointer (some ⟨B, 0, none⟩), .pointer (some ⟨B + 1, 0, none⟩)], .agg #[.int .i64 x0, .int .i64 x1, .int .i64 x2], .int .i64 c, .int .i64 (c + 1), .agg #[.int .i64 n, .int .u32 e], .pointer (some ⟨G1, 0, none⟩), .pointer (some ⟨G1, 0, none⟩), .int .i64 k, .agg #[.int .i64 x0, .int .i64 x1, .int .i64 x2], .agg #[.int .i64 k, .int .i64 n, .int .u32 y], t29, t30, t31, t32, t33, t34, undef, undef, undef, undef, undef, undef, undef, undef, undef, undef, undef, undef], defers := [] } ∧ TJ W6 (.agg #[.int .i64 k, .int .i64 n, .int .u32 y]) (.agg #[.int .i64 k, .int .i64 n0, .int .u32 e0]) (.agg #[.int .i64 k, .int .u32 u]) (.agg #[.int .i64 k, .int .u32 t]) (.pointer (some ⟨G1, 0, none⟩)) b f t29 t30 t31 t32 t33 t34 W) (by kernel_rfl) (by kernel_rfl) (by kernel_rfl) ?start ?step ?last
    case start => exact ⟨_, _, _, _, _, _, rfl, (Below.refl _ W6).drew, fun e => (by cases e), fun e => (by cases e), fun e => (by cases e), fun e => (by cases e), fun e => (by cases e), fun e => (by cases e)⟩
    case step =>
      intro i o f ac W ho hf hdep hI
      obtain ⟨t29, t30, t31, t32, t33, t34, rfl, hJ⟩ := hI
      have hi : i < 6 := (Array.getElem?_eq_some_iff.1 ho).1
      have hc : i = 0 ∨ i = 1 ∨ i = 2 ∨ i = 3 ∨ i = 4 ∨ i = 5 := by omega
      clear hi
      rcases hc with rfl | rfl | rfl | rfl | rfl | rfl
      · obtain rfl := Option.some.inj ho
        obtain ⟨_, f0, f1, f2⟩ := kF.out.below hJ.below
        refine wpOpS_step rfl (fun K hK => ?_)
        go_simp
        exact hK _ _ ⟨_, _, _, _, _, _, rfl, hJ.p0⟩
      · obtain rfl := Option.some.inj ho
        have d0 : f 0 = true := hdep ⟨0, .data⟩ (by simp) (by decide)
        obtain rfl := hJ.h0 d0
        refine wpOpS_step rfl (fun K hK => ?_)
        go_simp
        go_wp2_with (go_at_call 45; refine (hTy1.out _).mono ?_; rintro r3 w3 ⟨rfl, hb3⟩)
        exact ⟨_, _, _, _, _, _, rfl, (hJ.world hb3).p1⟩
      · obtain rfl := Option.some.inj ho
        refine wpOpS_step rfl (fun K hK => ?_)
        go_simp
        exact hK _ _ ⟨_, _, _, _, _, _, rfl, hJ.p2⟩
      · obtain rfl := Option.some.inj ho
        have d2 : f 2 = true := hdep ⟨2, .data⟩ (by simp) (by decide)
        obtain rfl := hJ.h2 d2
        obtain ⟨_, _, s0, s1, s2, s3, s4, s5, _⟩ := kV6.out.below hJ.below
        refine wpOpS_step rfl (fun K hK => ?_)
        go_simp
        exact hK _ _ ⟨_, _, _, _, _, _, rfl, hJ.p3⟩
      · obtain rfl := Option.some.inj ho
        have d3 : f 3 = true := hdep ⟨3, .data⟩ (by simp) (by decide)
        obtain rfl := hJ.h3 d3
        refine wpOpS_step rfl (fun K hK => ?_)
        go_simp
        go_wp2_with (go_at_call 45; refine (hTy0.out _).mono ?_; rintro r3 w3 ⟨rfl, hb3⟩)
        exact ⟨_, _, _, _, _, _, rfl, (hJ.world hb3).p4⟩
      · obtain rfl := Option.some.inj ho
        have d1 : f 1 = true := hdep ⟨1, .data⟩ (by simp) (by decide)
        have d4 : f 4 = true := hdep ⟨4, .data⟩ (by simp) (by decide)
        obtain rfl := hJ.h1 d1
        obtain rfl := hJ.h4 d4
        refine wpOpS_step rfl (fun K hK => ?_)
        go_simp
        exact hK _ _ ⟨_, _, _, _, _, _, rfl, hJ.p5⟩
    case last =>
      intro f ac W hall hIx
      obtain ⟨t29, t30, t31, t32, t33, t34, rfl, hJ⟩ := hIx
      obtain rfl := hJ.h0 (hall 0 (show 0 < 6 by decide))
      obtain rfl := hJ.h1 (hall 1 (show 1 < 6 by decide))
      obtain rfl := hJ.h2 (hall 2 (show 2 < 6 by decide))
      obtain rfl := hJ.h3 (hall 3 (show 3 < 6 by decide))
      obtain rfl := hJ.h4 (hall 4 (show 4 < 6 by decide))
      obtain rfl := hJ.h5 (hall 5 (show 5 < 6 by decide))
      have hb7 := hJ.below
      clear hJ hall
      obtain ⟨W7, hW7⟩ : ∃ W7, W7 = W := ⟨_, rfl⟩
      rw [← hW7] at hb7 ⊢
      clear hW7
      have hI7 := hI6.out.after hw8 (by omega) (by omega) hb7
      have kV7 := Lib.hid (kV6.out.below hb7)
      have kF7 := Lib.hid (kF.out.below hb7)
      have hz7 := hb7.size
      have ho7 := Lib.hid (fun b2 (hb : Own b2) => (show W7.heap[b2]? = A.heap[b2]? ∧ b2 < W7.heap.size from ⟨(hb7.block b2 (ho6.out b2 hb).2).trans (ho6.out b2 hb).1, Nat.lt_of_lt_of_le (ho6.out b2 hb).2 hz7⟩))
      have hB7 := Lib.hid hI7.below
      cases b
      · have hst := avS_f (N := N) (pre := pre) htb.out
        rw [hst] at hl1
        have hfin : Hid (A.heap.size ≤ W7.heap.size ∧ (∀ b2, Own b2 → W7.heap[b2]? = A.heap[b2]?) ∧ ∃ s, Fr.low (avS n k e t N (pre ++ [x]) : Nat) (D : Int) = some s ∧ Fr.VP s ∧ KA w w8 Bs Bl s (pre ++ [x]).length W7) :=
          ⟨by omega, fun b2 hb => (ho7.out b2 hb).1, sp, by rw [hst]; exact hsl.out, hsv, by rw [hcl]; exact hI7⟩
        clear hst hl1
        gi_wp2
        exact hfin.out
      · have hst := avS_t (N := N) (pre := pre) htb.out
        obtain ⟨hNd, hNl⟩ := hNx.out htb.out
        obtain ⟨s', hs1', hs2', hs3'⟩ := hl1.out
        obtain ⟨s0', hs01, hs02, hs03⟩ := hl0.out
        rw [hst] at hs1' hs3'
        have hadd := Fr.add_low (X := avS n k e t N pre) (Y := N x) (D := D) (by omega) (by omega) (by omega) hD0 hsl.out hNl
        rw [hs1'] at hadd
        have hPl := Lib.hid (fun W => Fr.plus_any W sp (vf x) hsv (Fr.low_vf (by omega) hNl))
        rw [hadd] at hPl
        have hF8 := Lib.hid (fun W hW => hFx.out W hW htb.out)
        simp only [Fr.fv, Fr.qe] at hPl
        obtain ⟨vx, hvx⟩ : ∃ z, (vf x).1 = z := ⟨_, rfl⟩
        obtain ⟨vy, hvy⟩ : ∃ z, (vf x).2 = z := ⟨_, rfl⟩
        rw [hvx, hvy] at hPl hF8
        obtain ⟨sa, sb⟩ := sp
        obtain ⟨x5, y5⟩ := s'
        dsimp only at hPl
        have hks := hI7.sum
        have hfin : Hid (∀ W9 : World, Chg (fun b => b = Bs) W7 W9 → FqB W9 Bs x5 y5 → A.heap.size ≤ W9.heap.size ∧ (∀ b2, Own b2 → W9.heap[b2]? = A.heap[b2]?) ∧ ∃ s, Fr.low (avS n k e t N (pre ++ [x]) : Nat) (D : Int) = some s ∧ Fr.VP s ∧ KA w w8 Bs Bl s (pre ++ [x]).length W9) := fun W9 hc9 hs9 =>
          ⟨by have := hc9.size; omega, fun b2 hb => (hc9.same b2 (ho7.out b2 hb).2 (by have := (ho.out b2 hb).1; show b2 ≠ Bs; omega)).trans (ho7.out b2 hb).1, (x5, y5), by rw [hst]; exact hs1', hs2', by rw [hcl]; exact hI7.put (S' := (x5, y5)) (by omega) (by omega) (by omega) hc9 hs9⟩
        have hq3 : (q : Int) < 3 := by omega
        replace hks := Lib.hid hks
        clear hst hl1 hl0 hs1' hs2' hs3' hs01 hs02 hs03 hadd hNd hNl hsv hsl hFx hNx hI7 hvx hvy htb kV6 kF hI6 ho6 ho7 hLd hTy1 hb7
        gi_wp2
        refine wpInR_region_inv (fun f ac W => ∃ t35 t36 t37 t38 t39 t40 t41 t42, ac = { tmps := #[.int .i64 q, .agg #[.int .i64 k, .int .i64 n0, .int .u32 e0, .int .i64 k1, .int .i64 n1, .int .u32 e1], .agg #[.int .i64 n, .int .u32 e], .pointer (some ⟨w.heap.size, 0, none⟩), .pointer (some ⟨G1, 0, none⟩), .pointer (some ⟨G2, 0, none⟩), .pointer (some ⟨G3, 0, none⟩), .pointer (some ⟨G4, 0, none⟩), .pointer (some ⟨Bs, 0, none⟩), .pointer (some ⟨Bl, 0, none⟩), .pointer (some ⟨Z, 0, none⟩), .pointer (some ⟨w5.heap.size, 0, none⟩), .agg #[.func (.func 48) #[] #[], .func (.func 49) #[] #[], .func (.func 50) #[] #[]], .agg #[.int .i64 0, .int .i64 1], .pointer (some ⟨G2, 0, none⟩), .int .i64 n, .pointer (some ⟨G1, 0, none⟩), .pointer (some ⟨G1, 0, none⟩), .int .i64 k, .func (.func 70) #[] #[.pointer (some ⟨B, 0, none⟩), .pointer (some ⟨B + 1, 0, none⟩)], .agg #[.int .i64 x0, .int .i64 x1, .int .i64 x2], .int .i64 c, .int .i64 (c + 1), .agg #[.int .i64 n, .int .u32 e], .pointer (some ⟨G1, 0, none⟩), .pointer (some ⟨G1, 0, none⟩), .int .i64 k, .agg #[.int .i64 x0, .int .i64 x1, .int .i64 x2], .agg #[.int .i64 k, .int .i64 n, .int .u32 y], .agg #[.int .i64 k, .int .i64 n, .int .u32 y], .agg #[.int .i64 k, .int .u32 u], .pointer (some ⟨G1, 0, none⟩), .agg #[.int .i64 k, .int .i64 n0, .int .u32 e0], .agg #[.int .i64 k, .int .u32 t], .bool true, t35, t36, t37, t38, t39, t40, t41, t42, undef, undef, undef, undef], defers := [] } ∧ AJ W7 Bs (.int .i64 q) (.pointer (some ⟨G4, q, none⟩)) (.func (.func (tabF q)) #[] #[]) (.agg #[.int .i64 k, .int .i64 n0, .int .u32 e0, .int .i64 k1, .int .i64 n1, .int .u32 e1]) (.agg #[.int .i64 k, .int .i64 n, .int .u32 y]) (.agg #[.int .i64 vx, .int .i64 vy]) sa sb x5 y5 f t35 t36 t37 t38 t39 t40 t41 t42 W) (by kernel_rfl) (by kernel_rfl) (by kernel_rfl) ?start ?step ?last
        case start => exact ⟨_, _, _, _, _, _, _, _, rfl, Chg.of_below (Below.refl _ W7).drew, hks.out.below (Below.refl _ W7).drew, Nat.le_refl _, fun e => (by cases e), fun e => (by cases e), fun e => (by cases e), fun e => (by cases e), fun e => (by cases e), fun e => (by cases e), fun e => (by cases e), fun e => (by cases e), fun e => (by cases e), fun e => (by cases e)⟩
        case step =>
          intro i o f ac W ho hf hdep hI
          obtain ⟨t35, t36, t37, t38, t39, t40, t41, t42, rfl, hJ⟩ := hI
          have hi : i < 9 := (Array.getElem?_eq_some_iff.1 ho).1
          have hc : i = 0 ∨ i = 1 ∨ i = 2 ∨ i = 3 ∨ i = 4 ∨ i = 5 ∨ i = 6 ∨ i = 7 ∨ i = 8 := by omega
          clear hi
          rcases hc with rfl | rfl | rfl | rfl | rfl | rfl | rfl | rfl | rfl
          · obtain rfl := Option.some.inj ho
            have e8 : ¬ f 8 = true := fun c => by have := hJ.d8 c; rw [hf] at this; cases this
            have ks := hJ.sum
            rw [if_neg e8, if_neg e8] at ks
            obtain ⟨_, z0, z1, _⟩ := ks
            refine wpOpS_step rfl (fun K hK => ?_)
            go_simp
            exact hK _ _ ⟨_, _, _, _, _, _, _, _, rfl, hJ.p0⟩
          · obtain rfl := Option.some.inj ho
            have kv := kV7.out.blk hJ.ge (hJ.chg.same _ kV7.out.lt.1 (by show _ ≠ Bs; omega)) (hJ.chg.same _ kV7.out.lt.2.1 (by show _ ≠ Bs; omega)) (hJ.chg.same _ kV7.out.lt.2.2.1 (by show _ ≠ Bs; omega)) (hJ.chg.same _ kV7.out.lt.2.2.2.1 (by show _ ≠ Bs; omega)) (hJ.chg.same _ kV7.out.lt.2.2.2.2 (by show _ ≠ Bs; omega))
            obtain ⟨_, wh, _⟩ := kv
            refine wpOpS_step rfl (fun K hK => ?_)
            go_simp
            exact hK _ _ ⟨_, _, _, _, _, _, _, _, rfl, hJ.p1⟩
          · obtain rfl := Option.some.inj ho
            have d1 : f 1 = true := hdep ⟨1, .data⟩ (by simp) (by decide)
            obtain rfl := hJ.h1 d1
            refine wpOpS_step rfl (fun K hK => ?_)
            go_simp
            exact hK _ _ ⟨_, _, _, _, _, _, _, _, rfl, hJ.p2⟩
          · obtain rfl := Option.some.inj ho
            have d2 : f 2 = true := hdep ⟨2, .data⟩ (by simp) (by decide)
            obtain rfl := hJ.h2 d2
            have kv := kV7.out.blk hJ.ge (hJ.chg.same _ kV7.out.lt.1 (by show _ ≠ Bs; omega)) (hJ.chg.same _ kV7.out.lt.2.1 (by show _ ≠ Bs; omega)) (hJ.chg.same _ kV7.out.lt.2.2.1 (by show _ ≠ Bs; omega)) (hJ.chg.same _ kV7.out.lt.2.2.2.1 (by show _ ≠ Bs; omega)) (hJ.chg.same _ kV7.out.lt.2.2.2.2 (by show _ ≠ Bs; omega))
            have tb := kv.tb
            refine wpOpS_step rfl (fun K hK => ?_)
            go_simp
            exact hK _ _ ⟨_, _, _, _, _, _, _, _, rfl, hJ.p3⟩
          · obtain rfl := Option.some.inj ho
            have kv := kV7.out.blk hJ.ge (hJ.chg.same _ kV7.out.lt.1 (by show _ ≠ Bs; omega)) (hJ.chg.same _ kV7.out.lt.2.1 (by show _ ≠ Bs; omega)) (hJ.chg.same _ kV7.out.lt.2.2.1 (by show _ ≠ Bs; omega)) (hJ.chg.same _ kV7.out.lt.2.2.2.1 (by show _ ≠ Bs; omega)) (hJ.chg.same _ kV7.out.lt.2.2.2.2 (by show _ ≠ Bs; omega))
            obtain ⟨_, _, s0, s1, s2, s3, s4, s5, _⟩ := kv
            refine wpOpS_step rfl (fun K hK => ?_)
            go_simp
            exact hK _ _ ⟨_, _, _, _, _, _, _, _, rfl, hJ.p4⟩
          · obtain rfl := Option.some.inj ho
            obtain ⟨f0, f1, f2, f3⟩ := kF7.out
            have q0 := (World.cell?_of_block (a := ⟨w5.heap.size, 0, none⟩) (hJ.chg.same _ f0 (by show w5.heap.size ≠ Bs; omega))).trans f1
            have q1 := (World.cell?_of_block (a := ⟨w5.heap.size, 1, none⟩) (hJ.chg.same _ f0 (by show w5.heap.size ≠ Bs; omega))).trans f2
            have q2 := (World.cell?_of_block (a := ⟨w5.heap.size, 2, none⟩) (hJ.chg.same _ f0 (by show w5.heap.size ≠ Bs; omega))).trans f3
            refine wpOpS_step rfl (fun K hK => ?_)
            go_simp
            exact hK _ _ ⟨_, _, _, _, _, _, _, _, rfl, hJ.p5⟩
          · obtain rfl := Option.some.inj ho
            have d3 : f 3 = true := hdep ⟨3, .data⟩ (by simp) (by decide)
            have d4 : f 4 = true := hdep ⟨4, .data⟩ (by simp) (by decide)
            have d5 : f 5 = true := hdep ⟨5, .data⟩ (by simp) (by decide)
            obtain rfl := hJ.h3 d3
            obtain rfl := hJ.h4 d4
            obtain rfl := hJ.h5 d5
            have heg := hEg.out
            refine wpOpS_step rfl (fun K hK => ?_)
            go_simp
            refine (hF8.out _ (below_chg (by omega) hB7.out hJ.chg)).mono ?_
            rintro r3 w3 ⟨rfl, hb3⟩
            exact hK _ _ ⟨_, _, _, _, _, _, _, _, rfl, (hJ.world hb3).p6⟩
          · obtain rfl := Option.some.inj ho
            have d0 : f 0 = true := hdep ⟨0, .data⟩ (by simp) (by decide)
            have d6 : f 6 = true := hdep ⟨6, .data⟩ (by simp) (by decide)
            obtain rfl := hJ.h0 d0
            obtain rfl := hJ.h6 d6
            refine wpOpS_step rfl (fun K hK => ?_)
            go_simp
            go_wp2_with (go_at_call 54; refine (hPl.out _).mono ?_; rintro r3 w3 ⟨rfl, hb3⟩)
            exact ⟨_, _, _, _, _, _, _, _, rfl, (hJ.world hb3).p7 d0⟩
          · obtain rfl := Option.some.inj ho
            have d7 : f 7 = true := hdep ⟨7, .data⟩ (by simp) (by decide)
            obtain rfl := hJ.h7 d7
            obtain ⟨hzl, z0, z1, z2⟩ := id hJ.sum
            have z20 := z2 0
            have z21 := z2 1
            refine wpOpS_step rfl (fun K hK => ?_)
            go_simp
            exact hK _ _ ⟨_, _, _, _, _, _, _, _, rfl, hJ.s8 (hJ.d7 d7)⟩
        case last =>
          intro f ac W hall hIx
          obtain ⟨t35, t36, t37, t38, t39, t40, t41, t42, rfl, hJ⟩ := hIx
          obtain rfl := hJ.h0 (hall 0 (show 0 < 9 by decide))
          obtain rfl := hJ.h1 (hall 1 (show 1 < 9 by decide))
          obtain rfl := hJ.h2 (hall 2 (show 2 < 9 by decide))
          obtain rfl := hJ.h3 (hall 3 (show 3 < 9 by decide))
          obtain rfl := hJ.h4 (hall 4 (show 4 < 9 by decide))
          obtain rfl := hJ.h5 (hall 5 (show 5 < 9 by decide))
          obtain rfl := hJ.h6 (hall 6 (show 6 < 9 by decide))
          obtain rfl := hJ.h7 (hall 7 (show 7 < 9 by decide))
          have hs9 := hJ.sum
          rw [if_pos (hall 8 (show 8 < 9 by decide)), if_pos (hall 8 (show 8 < 9 by decide))] at hs9
          have hc9 := hJ.chg
          clear hJ hall
          have hfn := Lib.hid (hfin.out W hc9 hs9)
          clear hs9 hc9
          gi_wp2
          exact hfn.out
  case done =>
    rintro D1 Own A hD ⟨sp, hsl, hsv, hI⟩ hK hOD
    have hsz := hl60
    have kVA := kV8.out.blk hI.ge (hI.old _ (by omega) (by omega) (by omega)) (hI.old _ (by omega) (by omega) (by omega)) (hI.old _ (by omega) (by omega) (by omega)) (hI.old _ (by omega) (by omega) (by omega)) (hI.old _ (by omega) (by omega) (by omega))
    obtain ⟨Ln, hLn⟩ : ∃ z, (lists n k).length = z := ⟨_, rfl⟩
    have hRr := hR.out
    obtain ⟨s9, hs91, _, hs93⟩ := hlow.out (lists n k) (fun _ h => h) (by omega)
    have hdv := Fr.div_low (X := avS n k e t N (lists n k)) (D := D) (L := Ln) (by omega) (by omega) hD0 hsl
    rw [hLn] at hRr hsz hlp hI
    rw [hRr] at hdv
    have hOv := Lib.hid (fun W => Fr.over_any W sp ((Ln : Int), 1) hsv ⟨by show (1 : Int) ≤ 1; decide, by show (1 : Int) ≤ 1000000000; decide, by show -1000000000 ≤ (Ln : Int); omega, by show (Ln : Int) ≤ 1000000000; omega, by show Int.gcd (Ln : Int) 1 = 1; simp⟩ (by show (Ln : Int) ≠ 0; omega))
    rw [hdv] at hOv
    have hWl := Lib.hid (fun W => hWh.out W (Ln : Int))
    obtain ⟨sa, sb⟩ := sp
    obtain ⟨RX, hRX⟩ : ∃ z, R.1 = z := ⟨_, rfl⟩
    obtain ⟨RY, hRY⟩ : ∃ z, R.2 = z := ⟨_, rfl⟩
    simp only [Fr.fv, Fr.qe] at hOv
    rw [hRX, hRY] at hOv
    have hkS := hI.sum
    have hkc := hI.cnt
    have hbA := hI.below
    have hgA := hI.ge
    have hBlA := World.block_lt_of_cell? A ⟨Bl, 0, none⟩ hkc
    have kr := kVA.r
    have hk0 : Hid (∀ W, Below A.heap.size A W → (W.cell? ⟨Bs, 0, none⟩ = some (.int .i64 sa) ∧ W.cell? ⟨Bs, 1, none⟩ = some (.int .i64 sb) ∧ W.cell? ⟨Bl, 0, none⟩ = some (.int .i64 Ln) ∧ W.cell? ⟨G3, 0, none⟩ = some (cellAt W ⟨G3, 0, none⟩) ∧ W.cell? ⟨G3, 1, none⟩ = some (cellAt W ⟨G3, 1, none⟩) ∧ W.frozen? ⟨G3, 0, none⟩ = false ∧ W.frozen? ⟨G3, 1, none⟩ = false)) := fun W hW => by
      have a1 := hkS.below hW
      have a2 := kr.below hW
      exact ⟨a1.c0, a1.c1, (hW.cell (p := ⟨Bl, 0, none⟩) hBlA).trans hkc, cellAt_of a2.c0, cellAt_of a2.c1, a2.fz 0, a2.fz 1⟩
    have hk1 : Hid (∀ W S : World, Below A.heap.size A W → S = (W.setCell ⟨G3, 0, none⟩ (.int .i64 RX)).setCell ⟨G3, 1, none⟩ (.int .i64 RY) → (S.cell? ⟨Bs, 0, none⟩ = some (.int .i64 sa) ∧ S.cell? ⟨Bs, 1, none⟩ = some (.int .i64 sb) ∧ S.cell? ⟨Bl, 0, none⟩ = some (.int .i64 Ln) ∧ S.cell? ⟨G3, 0, none⟩ = some (cellAt S ⟨G3, 0, none⟩) ∧ S.cell? ⟨G3, 1, none⟩ = some (cellAt S ⟨G3, 1, none⟩) ∧ S.frozen? ⟨G3, 0, none⟩ = false ∧ S.frozen? ⟨G3, 1, none⟩ = false)) := fun W S hW hS => by
      subst hS
      have a1 := hkS.below hW
      have a2 := (kr.below hW).put RX RY
      have hs : ∀ (g o : Nat) (v : Value), g ≠ G3 → W.cell? ⟨g, o, none⟩ = some v → ((W.setCell ⟨G3, 0, none⟩ (.int .i64 RX)).setCell ⟨G3, 1, none⟩ (.int .i64 RY)).cell? ⟨g, o, none⟩ = some v := fun g o v hg hv => (World.cell?_of_block (a := ⟨g, o, none⟩) ((Below.heap_setCell _ _ _ _ hg).trans (Below.heap_setCell _ _ _ _ hg))).trans hv
      exact ⟨hs _ _ _ (by omega) a1.c0, hs _ _ _ (by omega) a1.c1, hs _ _ _ (by omega) ((hW.cell (p := ⟨Bl, 0, none⟩) hBlA).trans hkc), cellAt_of a2.c0, cellAt_of a2.c1, a2.fz 0, a2.fz 1⟩
    obtain ⟨_, z0, z1, z2⟩ := id kr
    have z20 := z2 0
    have z21 := z2 1
    obtain ⟨_, u0, u1, u2⟩ := id hkS
    have hDA : D1 < A.heap.size := (Array.getElem?_eq_some_iff.1 hK).1
    have hfin : Hid (∀ W, Below A.heap.size A W → (∃ v, (∃ W2, W2 = (W.setCell ⟨G3, 0, none⟩ (.int .i64 RX)).setCell ⟨G3, 1, none⟩ (.int .i64 RY) ∧ W2.heap[D1]? = some (.deferred (some [])) ∧ (W2.putObj D1 (.deferred none)).cell? ⟨G3, 0, none⟩ = some (.int .i64 RX) ∧ (W2.putObj D1 (.deferred none)).cell? ⟨G3, 1, none⟩ = some (.int .i64 RY) ∧ Below w.heap.size w (W2.putObj D1 (.deferred none))) ∧ v = Value.agg #[.int .i64 RX, .int .i64 RY])) := fun W hW => by
      have hK2 : ((W.setCell ⟨G3, 0, none⟩ (.int .i64 RX)).setCell ⟨G3, 1, none⟩ (.int .i64 RY)).heap[D1]? = some (.deferred (some [])) :=
        (Below.heap_setCell _ _ _ _ (by show D1 ≠ G3; omega)).trans ((Below.heap_setCell _ _ _ _ (by show D1 ≠ G3; omega)).trans ((hW.block _ hDA).trans hK))
      have a2 := (kr.below hW).put RX RY
      have r1 := cell_kept a2.c0 (grownBy_putObj' _ D1 (.deferred none)) (fun r e => by cases e; exact ⟨_, hK2, rfl⟩)
      have r2 := cell_kept a2.c1 (grownBy_putObj' _ D1 (.deferred none)) (fun r e => by cases e; exact ⟨_, hK2, rfl⟩)
      have hbW : Below w.heap.size w ((W.setCell ⟨G3, 0, none⟩ (.int .i64 RX)).setCell ⟨G3, 1, none⟩ (.int .i64 RY)) := ((hbA.trans (hW.mono hbA.size)).setCell (p := ⟨G3, 0, none⟩) (by show w.heap.size ≤ G3; omega) _).setCell (p := ⟨G3, 1, none⟩) (by show w.heap.size ≤ G3; omega) _
      exact ⟨_, ⟨_, rfl, hK2, r1, r2, hbW.trans (below_putObj _ _ _ (by omega))⟩, rfl⟩
    replace kVA := Lib.hid kVA
    replace kr := Lib.hid kr
    replace hkS := Lib.hid hkS
    clear hI hlow hF hN hR hRr hdv hs91 hs93 hLn hTy0 kV8 hI8 hWh hK hOD
    gi_wp2
    refine wpIn_wide.2 ?_
    go_region_held3 (fun W => W.cell? ⟨Bs, 0, none⟩ = some (.int .i64 sa) ∧ W.cell? ⟨Bs, 1, none⟩ = some (.int .i64 sb) ∧ W.cell? ⟨Bl, 0, none⟩ = some (.int .i64 Ln) ∧ W.cell? ⟨G3, 0, none⟩ = some (cellAt W ⟨G3, 0, none⟩) ∧ W.cell? ⟨G3, 1, none⟩ = some (cellAt W ⟨G3, 1, none⟩) ∧ W.frozen? ⟨G3, 0, none⟩ = false ∧ W.frozen? ⟨G3, 1, none⟩ = false)
      (first | exact hk1.out _ _ (by (repeat (first | exact Below.refl _ _ | assumption | refine bchain (by assumption) ?_ | refine balloc ?_ _ | apply Below.drew | apply below_drewN | (refine Below.alloc ?_ (by (try simp) <;> omega) _) | (refine Below.setCell ?_ (by (try simp) <;> omega) _)))) rfl | exact hk0.out _ (by (repeat (first | exact Below.refl _ _ | assumption | refine bchain (by assumption) ?_ | refine balloc ?_ _ | apply Below.drew | apply below_drewN | (refine Below.alloc ?_ (by (try simp) <;> omega) _) | (refine Below.setCell ?_ (by (try simp) <;> omega) _)))))
      (first
        | (go_at_call 51; refine (hWl.out _).mono ?_; rintro r4 w4 ⟨rfl, hb4⟩)
        | (go_at_call 55; refine (hOv.out _).mono ?_; rintro r5 w5 ⟨rfl, hb5⟩; obtain ⟨v9, ⟨W2, hW2, hK2, r1, r2, hbe⟩, hv9⟩ := hfin.out w5 (by (repeat (first | exact Below.refl _ _ | assumption | refine bchain (by assumption) ?_ | refine balloc ?_ _ | apply Below.drew | apply below_drewN | (refine Below.alloc ?_ (by (try simp) <;> omega) _) | (refine Below.setCell ?_ (by (try simp) <;> omega) _)))); replace hW2 := Lib.hid hW2; replace hbe := Lib.hid hbe))
    all_goals
      gi_wp2
      rw [← hW2.out]
      refine ⟨by simp, .inl ⟨_, _, rfl, run_takeDeferred hK2, ?_⟩⟩
      exact ⟨.agg #[.int .i64 RX, .int .i64 RY], by simp [results, Tryz.results25, go_sem, r1, r2], by rw [hRX, hRY], hbe.out⟩
end
end Go.Proofs.YtncbimbbkealmaaGreatDoor
/-
  AverageFactor, AverageDensity: the program; what averageOf asks of each flag.
-/
namespace Go.Proofs.YtncbimbbkealmaaGreatDoor
open Go.RowKit Go.Shelf
set_option maxRecDepth 100000
attribute [local go_sem] Oper.semAt_some
/-- what is sought, a flag, a result -/
structure Mt0 (W : World) (G k n0 e0 : Nat) (k1 n1 e1 : Int) (n y : Nat) : Prop where
  lt : G < W.heap.size
  s0 : W.cell? ⟨G, 0, none⟩ = some (.int .i64 k)
  s1 : W.cell? ⟨G, 1, none⟩ = some (.int .i64 n0)
  s2 : W.cell? ⟨G, 2, none⟩ = some (.int .u32 e0)
  s3 : W.cell? ⟨G, 3, none⟩ = some (.int .i64 k1)
  s4 : W.cell? ⟨G, 4, none⟩ = some (.int .i64 n1)
  s5 : W.cell? ⟨G, 5, none⟩ = some (.int .u32 e1)
  g : FC W (G + 1) k n y
  r : FqB W (G + 2) 0 0
theorem Mt0.below {W W' : World} {G k n0 e0 : Nat} {k1 n1 e1 : Int} {n y : Nat} (h : Mt0 W G k n0 e0 k1 n1 e1 n y) (hb : Below W.heap.size W W') : Mt0 W' G k n0 e0 k1 n1 e1 n y :=
  ⟨Nat.lt_of_lt_of_le h.lt hb.size, (hb.cell (p := ⟨G, 0, none⟩) h.lt).trans h.s0, (hb.cell (p := ⟨G, 1, none⟩) h.lt).trans h.s1, (hb.cell (p := ⟨G, 2, none⟩) h.lt).trans h.s2, (hb.cell (p := ⟨G, 3, none⟩) h.lt).trans h.s3, (hb.cell (p := ⟨G, 4, none⟩) h.lt).trans h.s4, (hb.cell (p := ⟨G, 5, none⟩) h.lt).trans h.s5, h.g.below hb, h.r.below hb⟩
theorem mt0_made (w : World) (k n0 e0 : Nat) (k1 n1 e1 : Int) (n y : Nat) : Mt0 (((w.alloc (.cells #[.int .i64 (k : Int), .int .i64 (n0 : Int), .int .u32 (e0 : Int), .int .i64 k1, .int .i64 n1, .int .u32 e1] 54)).alloc (.cells #[.int .i64 (k : Int), .int .i64 (n : Int), .int .u32 (y : Int)] 43)).alloc (.cells #[.int .i64 0, .int .i64 0] 51)) w.heap.size k n0 e0 k1 n1 e1 n y := by
  have hg := FC.made (w.alloc (.cells #[.int .i64 (k : Int), .int .i64 (n0 : Int), .int .u32 (e0 : Int), .int .i64 k1, .int .i64 n1, .int .u32 e1] 54)) k n y 43
  have hr := FqB.made ((w.alloc (.cells #[.int .i64 (k : Int), .int .i64 (n0 : Int), .int .u32 (e0 : Int), .int .i64 k1, .int .i64 n1, .int .u32 e1] 54)).alloc (.cells #[.int .i64 (k : Int), .int .i64 (n : Int), .int .u32 (y : Int)] 43)) 0 0 51
  rw [World.size_alloc] at hg
  rw [World.size_alloc, World.size_alloc] at hr
  exact ⟨by simp; omega, by simp [go_sem], by simp [go_sem], by simp [go_sem], by simp [go_sem], by simp [go_sem], by simp [go_sem], hg.below (balloc (Below.refl _ _) _), hr⟩
section
variable (w : World)
theorem mat_any (k n e0 y : Nat) (k1 n1 e1 : Int) (h0 : VK k n e0) (h : VK k n y) :
    Calls Tryz.prog 48 #[.agg #[.int .i64 k, .int .i64 n, .int .u32 e0, .int .i64 k1, .int .i64 n1, .int .u32 e1], .agg #[.int .i64 k, .int .i64 n, .int .u32 y]] w fun r w' => r = .returned (.agg #[.int .i64 (if leastK n k y == leastK n k e0 then 1 else 0), .int .i64 1]) ∧ Below w.heap.size w w' := by
  have hL1 := Lib.hid (fun W => leastK_any W k n y h)
  have hL2 := Lib.hid (fun W => leastK_any W k n e0 h0)
  have hW0 := Lib.hid (fun W => Fr.whole_any W 0)
  have hW1 := Lib.hid (fun W => Fr.whole_any W 1)
  have k0 := mt0_made w k n e0 k1 n1 e1 n y
  obtain ⟨a, ha⟩ : ∃ a, leastK n k y = a := ⟨_, rfl⟩
  obtain ⟨b, hb⟩ : ∃ b, leastK n k e0 = b := ⟨_, rfl⟩
  rw [ha] at hL1 ⊢
  rw [hb] at hL2 ⊢
  obtain ⟨c, hc⟩ : ∃ c, (a == b) = c := ⟨_, rfl⟩
  have hq : ∀ W, (Op.equalIn 10000 43 (.agg #[.int .i64 k, .int .i64 n, .int .u32 a]) (.agg #[.int .i64 k, .int .i64 n, .int .u32 b])).run Tryz.prog W = .ok c W := fun W => by
    rw [eqFl]
    congr 1
    rw [← hc, Bool.eq_iff_iff]
    simp
    omega
  rw [hc]
  obtain ⟨W0, hW⟩ : ∃ W0, W0 = ((w.alloc (.cells #[.int .i64 (k : Int), .int .i64 (n : Int), .int .u32 (e0 : Int), .int .i64 k1, .int .i64 n1, .int .u32 e1] 54)).alloc (.cells #[.int .i64 (k : Int), .int .i64 (n : Int), .int .u32 (y : Int)] 43)).alloc (.cells #[.int .i64 0, .int .i64 0] 51) := ⟨_, rfl⟩
  rw [← hW] at k0
  have hB0 : Below w.heap.size w W0 := by rw [hW]; (repeat (first | exact Below.refl _ _ | assumption | refine bchain (by assumption) ?_ | refine balloc ?_ _ | apply Below.drew | apply below_drewN | (refine Below.alloc ?_ (by (try simp) <;> omega) _) | (refine Below.setCell ?_ (by (try simp) <;> omega) _)))
  have q0 := bw_cell k0.lt k0.s0
  have q1 := bw_cell k0.lt k0.s1
  have q2 := bw_cell k0.lt k0.s2
  have q3 := bw_cell k0.g.lt k0.g.c0
  have q4 := bw_cell k0.g.lt k0.g.c1
  have q5 := bw_cell k0.g.lt k0.g.c2
  replace k0 := Lib.hid k0
  replace hW := Lib.hid hW
  clear ha hb hc h h0
  go_enter Tryz.func48, Tryz.ntmps48
  go_wp2
  rw [← hW.out]
  refine wp_region_below (by kernel_rfl) (by kernel_rfl) ?_
  iterate 1 (quiet_step (fail))
  refine wpQuiet_step (fun K hK => ?_)
  go_simp
  apply Exists.intro
  refine ⟨fun p => ?_, hK _ ?_⟩
  · exact bw_of (w := W0) (p := p) (hL1.out p.W)
  clear hK K
  iterate 2 (quiet_step (fail))
  refine wpQuiet_step (fun K hK => ?_)
  go_simp
  apply Exists.intro
  refine ⟨fun p => ?_, hK _ ?_⟩
  · exact bw_of (w := W0) (p := p) (hL2.out p.W)
  clear hK K
  iterate 1 (quiet_step (fail))
  refine wpQuiet_nil ?_
  intro w3 hw'
  obtain ⟨⟨wx, hb_w3⟩, rfl⟩ := hw'
  clear q0 q1 q2 q3 q4 q5
  have hB3 : Below w.heap.size w w3 := hB0.trans (hb_w3.mono hB0.size)
  have k3 := Lib.hid (k0.out.below hb_w3)
  cases c
  · go_wp2_with fail
    refine (hW0.out _).mono ?_
    rintro r4 w4 ⟨rfl, hb4⟩
    have kf := k3.out.below hb4
    obtain ⟨_, z0, z1, z2⟩ := id kf.r
    have z20 := z2 0
    have z21 := z2 1
    obtain ⟨_, F0, F1, _⟩ := kf.r.put 0 1
    replace kf := Lib.hid kf
    go_wp2
    exact bodyPost_ret (v := .agg #[.int .i64 0, .int .i64 1]) (by simp [results, Tryz.results48, go_sem, F0, F1] <;> rfl) rfl ⟨rfl, by (repeat (first | exact Below.refl _ _ | assumption | refine bchain (by assumption) ?_ | refine balloc ?_ _ | apply Below.drew | apply below_drewN | (refine Below.alloc ?_ (by (try simp) <;> omega) _) | (refine Below.setCell ?_ (by (try simp) <;> omega) _)))⟩
  · go_wp2_with fail
    refine (hW1.out _).mono ?_
    rintro r4 w4 ⟨rfl, hb4⟩
    have kf := k3.out.below hb4
    obtain ⟨_, z0, z1, z2⟩ := id kf.r
    have z20 := z2 0
    have z21 := z2 1
    obtain ⟨_, F0, F1, _⟩ := kf.r.put 1 1
    replace kf := Lib.hid kf
    go_wp2
    exact bodyPost_ret (v := .agg #[.int .i64 1, .int .i64 1]) (by simp [results, Tryz.results48, go_sem, F0, F1] <;> rfl) rfl ⟨rfl, by (repeat (first | exact Below.refl _ _ | assumption | refine bchain (by assumption) ?_ | refine balloc ?_ _ | apply Below.drew | apply below_drewN | (refine Below.alloc ?_ (by (try simp) <;> omega) _) | (refine Below.setCell ?_ (by (try simp) <;> omega) _)))⟩
theorem den_any (k n n0 e0 y : Nat) (k1 n1 e1 : Int) (h0 : VK k n0 e0) (h : VK k n y) (hle : n0 ≤ n) (hT : TabZ w) :
    Calls Tryz.prog 49 #[.agg #[.int .i64 k, .int .i64 n0, .int .u32 e0, .int .i64 k1, .int .i64 n1, .int .u32 e1], .agg #[.int .i64 k, .int .i64 n, .int .u32 y]] w fun r w' => r = .returned (.agg #[.int .i64 (fdF k n y n0 e0).1, .int .i64 (fdF k n y n0 e0).2]) ∧ Below w.heap.size w w' := by
  have hD := Lib.hid (fun W (hW : Below w.heap.size w W) => ifd_any W k n y n0 e0 h h0 hle (hT.below hW))
  have k0 := Lib.hid (mt0_made w k n0 e0 k1 n1 e1 n y)
  obtain ⟨X, hX⟩ : ∃ X, (fdF k n y n0 e0).1 = X := ⟨_, rfl⟩
  obtain ⟨Y, hY⟩ : ∃ Y, (fdF k n y n0 e0).2 = Y := ⟨_, rfl⟩
  rw [hX, hY] at hD ⊢
  clear hX hY h h0 hT hle
  go_enter Tryz.func49, Tryz.ntmps49
  go_wp2_with fail
  refine (hD.out _ (by (repeat (first | exact Below.refl _ _ | assumption | refine bchain (by assumption) ?_ | refine balloc ?_ _ | apply Below.drew | apply below_drewN | (refine Below.alloc ?_ (by (try simp) <;> omega) _) | (refine Below.setCell ?_ (by (try simp) <;> omega) _))))).mono ?_
  rintro r4 w4 ⟨rfl, hb4⟩
  have kf := k0.out.below hb4
  obtain ⟨_, z0, z1, z2⟩ := id kf.r
  have z20 := z2 0
  have z21 := z2 1
  obtain ⟨_, F0, F1, _⟩ := kf.r.put X Y
  replace kf := Lib.hid kf
  go_wp2
  exact bodyPost_ret (v := .agg #[.int .i64 X, .int .i64 Y]) (by simp [results, Tryz.results49, go_sem, F0, F1] <;> rfl) rfl ⟨rfl, by (repeat (first | exact Below.refl _ _ | assumption | refine bchain (by assumption) ?_ | refine balloc ?_ _ | apply Below.drew | apply below_drewN | (refine Below.alloc ?_ (by (try simp) <;> omega) _) | (refine Below.setCell ?_ (by (try simp) <;> omega) _)))⟩
theorem joi_any (k n n0 e0 y : Nat) (n1 e1 : Nat) (h0 : VK k n0 e0) (h1 : VK k n1 e1) (h : VK k n y) (hle : n0 + n1 ≤ n + k) (hT : TabZ w) :
    Calls Tryz.prog 50 #[.agg #[.int .i64 k, .int .i64 n0, .int .u32 e0, .int .i64 k, .int .i64 n1, .int .u32 e1], .agg #[.int .i64 k, .int .i64 n, .int .u32 y]] w fun r w' => r = .returned (.agg #[.int .i64 (jdF k n y n0 e0 n1 e1).1, .int .i64 (jdF k n y n0 e0 n1 e1).2]) ∧ Below w.heap.size w w' := by
  have hD := Lib.hid (fun W (hW : Below w.heap.size w W) => ijd_any W k n y n0 e0 n1 e1 h h0 h1 hle (hT.below hW))
  have k0 := Lib.hid (mt0_made w k n0 e0 k n1 e1 n y)
  obtain ⟨X, hX⟩ : ∃ X, (jdF k n y n0 e0 n1 e1).1 = X := ⟨_, rfl⟩
  obtain ⟨Y, hY⟩ : ∃ Y, (jdF k n y n0 e0 n1 e1).2 = Y := ⟨_, rfl⟩
  rw [hX, hY] at hD ⊢
  clear hX hY h h0 h1 hT hle
  go_enter Tryz.func50, Tryz.ntmps50
  go_wp2_with fail
  refine (hD.out _ (by (repeat (first | exact Below.refl _ _ | assumption | refine bchain (by assumption) ?_ | refine balloc ?_ _ | apply Below.drew | apply below_drewN | (refine Below.alloc ?_ (by (try simp) <;> omega) _) | (refine Below.setCell ?_ (by (try simp) <;> omega) _))))).mono ?_
  rintro r4 w4 ⟨rfl, hb4⟩
  have kf := k0.out.below hb4
  obtain ⟨_, z0, z1, z2⟩ := id kf.r
  have z20 := z2 0
  have z21 := z2 1
  obtain ⟨_, F0, F1, _⟩ := kf.r.put X Y
  replace kf := Lib.hid kf
  go_wp2
  exact bodyPost_ret (v := .agg #[.int .i64 X, .int .i64 Y]) (by simp [results, Tryz.results50, go_sem, F0, F1] <;> rfl) rfl ⟨rfl, by (repeat (first | exact Below.refl _ _ | assumption | refine bchain (by assumption) ?_ | refine balloc ?_ _ | apply Below.drew | apply below_drewN | (refine Below.alloc ?_ (by (try simp) <;> omega) _) | (refine Below.setCell ?_ (by (try simp) <;> omega) _)))⟩
end
/-- do labels make the flag -/
def mtP (n k e : Nat) (x : List Nat) : Bool := leastK n k (onL e (ordF n x)) == leastK n k e
def mtN (n k e : Nat) (x : List Nat) : Nat := if mtP n k e x then 1 else 0
/-- how many lists of labels make the flag -/
def mtC (n k e : Nat) (pre : List (List Nat)) : Nat := pre.countP (mtP n k e)
theorem mtP_type {n k e : Nat} (h : VK k n e) {x : List Nat} (hx : x ∈ lists n k) (hm : mtP n k e x = true) : tB n k e (onL e (List.range k)) x = true := by
  obtain ⟨_, hn, hk, hkn⟩ := h.nums
  have hok := ordF_ok hn hk (lists_ok hn (by omega) hx)
  have hV : VK k n (onL e (ordF n x)) := VK.mk' hn hk hkn (onL_ltP e hok hn)
  have h1 := (orb h hV).2 (by unfold mtP at hm; simpa using hm)
  unfold tB
  rw [tE_type hn hk hkn h1]
  simp
theorem avS_mt {n k e : Nat} (h : VK k n e) : ∀ pre : List (List Nat), (∀ x, x ∈ pre → x ∈ lists n k) → avS n k e (onL e (List.range k)) (mtN n k e) pre = mtC n k e pre
  | [], _ => rfl
  | x :: r, hp => by
    have ih := avS_mt h r (fun y hy => hp y (List.mem_cons_of_mem _ hy))
    unfold avS at ih ⊢
    unfold mtC at ih ⊢
    cases hb : mtP n k e x
    · cases hc : tB n k e (onL e (List.range k)) x
      · rw [List.filter_cons_of_neg (by simp [hc]), List.countP_cons_of_neg (by simp [hb])]; exact ih
      · rw [List.filter_cons_of_pos hc, List.map_cons, List.sum_cons, List.countP_cons_of_neg (by simp [hb]), ih]; simp [mtN, hb]
    · rw [List.filter_cons_of_pos (mtP_type h (hp x (by simp)) hb), List.map_cons, List.sum_cons, List.countP_cons_of_pos hb, ih]; simp [mtN, hb]; omega
theorem mtC_le (n k e : Nat) (pre : List (List Nat)) : mtC n k e pre ≤ pre.length := List.countP_le_length
/-- the average factor -/
def afF (n k e : Nat) : Int × Int := (Fr.low (mtC n k e (lists n k) : Nat) ((lists n k).length : Nat)).getD (0, 1)
theorem af_low {n k : Nat} (e : Nat) (hn : n ≤ 5) (hk : k ≤ 3) (hkn : k ≤ n) : Fr.low (mtC n k e (lists n k) : Nat) ((lists n k).length : Nat) = some (afF n k e) ∧ mtC n k e (lists n k) ≤ 60 ∧ 0 < (lists n k).length ∧ (lists n k).length ≤ 60 := by
  have h1 := lists_l60 n hn k hk
  have h2 := lists_p n hn k hkn
  have h3 := mtC_le n k e (lists n k)
  obtain ⟨a, b, hl, _⟩ := Fr.low_at (X := mtC n k e (lists n k)) (D := (lists n k).length) (by omega) (by omega)
  refine ⟨?_, by omega, h2, h1⟩
  unfold afF
  rw [hl]
  rfl
/-- the average of a density -/
def adN (n k e n0 e0 : Nat) (x : List Nat) : Nat := fdN k n (onL e (ordF n x)) n0 e0
def adS (n k e n0 e0 : Nat) (pre : List (List Nat)) : Nat := avS n k e (onL e0 (List.range k)) (adN n k e n0 e0) pre
def adF (n k e n0 e0 : Nat) : Int × Int := (Fr.low (adS n k e n0 e0 (lists n k) : Nat) ((fdA k n n0 * (lists n k).length : Nat) : Int)).getD (0, 1)
theorem ad_low {n k n0 : Nat} (e e0 : Nat) (hn : n ≤ 5) (hk : k ≤ 3) (hk0 : k ≤ n0) (hle : n0 ≤ n) : Fr.low (adS n k e n0 e0 (lists n k) : Nat) ((fdA k n n0 * (lists n k).length : Nat) : Int) = some (adF n k e n0 e0) := by
  have h1 := lists_l60 n hn k hk
  have hf := fun e => fd_low (e := e) (e0 := e0) hn hk0 hle
  have h3 : adS n k e n0 e0 (lists n k) ≤ (lists n k).length * 10 := avS_le _ (fun x _ _ => (hf _).1)
  have h4 : fdA k n n0 * (lists n k).length ≤ 10 * 60 := Nat.mul_le_mul (hf 0).2.2.1 h1
  obtain ⟨a, b, hl, _⟩ := Fr.low_at (X := adS n k e n0 e0 (lists n k)) (D := fdA k n n0 * (lists n k).length) (by omega) (by omega)
  unfold adF
  rw [hl]
  rfl
theorem fdN_le {k n e n0 e0 : Nat} : fdN k n e n0 e0 ≤ fdA k n n0 := cntP_le _ _
section
variable (w : World)
theorem eg_tab (q : Nat) : ∀ args w, (callFunc (tabF q) args).run Tryz.prog w = .ok (.enter (tabF q) args) w := by
  match q with
  | 0 => exact enters_of Tryz.func48 (by kernel_rfl) rfl
  | 1 => exact enters_of Tryz.func49 (by kernel_rfl) rfl
  | q + 2 => exact enters_of Tryz.func50 (by kernel_rfl) rfl
theorem iaf_avg (k n e : Nat) (h : VK k n e) :
    Calls Tryz.prog 25 #[.int .i64 0, .agg #[.int .i64 k, .int .i64 n, .int .u32 e, .int .i64 0, .int .i64 0, .int .u32 0], .agg #[.int .i64 n, .int .u32 e]] w
      fun r w' => r = .returned (.agg #[.int .i64 (afF n k e).1, .int .i64 (afF n k e).2]) ∧ Below w.heap.size w w' := by
  obtain ⟨_, hn, hk, hkn⟩ := h.nums
  obtain ⟨l1, l2, l3, l4⟩ := af_low e hn hk hkn
  have hlow : ∀ x : List Nat, mtN n k e x ≤ 1 ∧ Fr.low (mtN n k e x : Int) ((1 : Nat) : Int) = some (((mtN n k e x : Nat) : Int), 1) := fun x => by
    unfold mtN
    split
    · exact ⟨by omega, by decide⟩
    · exact ⟨by omega, by decide⟩
  exact iav_any w 0 k n e n e 0 0 0 (by omega) h.1 h hkn (mtN n k e) (fun x => (((mtN n k e x : Nat) : Int), 1)) 1 (by omega) (by omega) (eg_tab 0) (fun x _ _ => hlow x)
    (fun W x hW hx _ => by
      have hok := ordF_ok hn hk (lists_ok hn (by omega) hx)
      have hV : VK k n (onL e (ordF n x)) := VK.mk' hn hk hkn (onL_ltP e hok hn)
      refine (mat_any W k n e _ 0 0 0 h hV).mono ?_
      rintro r w' ⟨rfl, hb⟩
      refine ⟨?_, hb⟩
      unfold mtN mtP
      split <;> rfl)
    (afF n k e) (by rw [avS_mt h _ (fun _ h => h), Nat.one_mul]; exact l1)
theorem iad_avg (k n e n0 e0 : Nat) (hg : VG n e) (h0 : VK k n0 e0) (hle : n0 ≤ n) (hT : TabZ w) :
    Calls Tryz.prog 25 #[.int .i64 1, .agg #[.int .i64 k, .int .i64 n0, .int .u32 e0, .int .i64 0, .int .i64 0, .int .u32 0], .agg #[.int .i64 n, .int .u32 e]] w
      fun r w' => r = .returned (.agg #[.int .i64 (adF n k e n0 e0).1, .int .i64 (adF n k e n0 e0).2]) ∧ Below w.heap.size w w' := by
  obtain ⟨_, hn0, hk, hk0⟩ := h0.nums
  have hn : n ≤ 5 := by have := hg.2.1; omega
  have hf := fun e => fd_low (k := k) (n := n) (e := e) (e0 := e0) hn hk0 hle
  exact iav_any w 1 k n e n0 e0 0 0 0 (by omega) hg h0 (by omega) (adN n k e n0 e0) (fun x => fdF k n (onL e (ordF n x)) n0 e0) (fdA k n n0) (hf 0).2.1 (by have := (hf 0).2.2.1; omega) (eg_tab 1) (fun x _ _ => ⟨fdN_le, (hf _).2.2.2⟩)
    (fun W x hW hx _ => by
      have hok := ordF_ok hn hk (lists_ok hn (by omega) hx)
      have hV : VK k n (onL e (ordF n x)) := VK.mk' hn hk (by omega) (onL_ltP e hok hn)
      exact den_any W k n n0 e0 _ 0 0 0 h0 hV hle (hT.below hW))
    (adF n k e n0 e0) (ad_low e e0 hn hk hk0 hle)
end
/-- AverageDensity's boxes -/
structure Ad0 (w : World) (G : Nat) (k0 n0 e0 n e : Int) : Prop where
  f : FC w G k0 n0 e0
  g : GxB w (G + 1) n e
  r : FqB w (G + 2) 0 0
theorem Ad0.below {w W : World} {G : Nat} {k0 n0 e0 n e : Int} (h : Ad0 w G k0 n0 e0 n e) (hb : Below w.heap.size w W) : Ad0 W G k0 n0 e0 n e := ⟨h.f.below hb, h.g.below hb, h.r.below hb⟩
theorem ad0_made (w : World) (k0 n0 e0 n e : Int) : Ad0 (((w.alloc (.cells #[.int .i64 k0, .int .i64 n0, .int .u32 e0] 43)).alloc (.cells #[.int .i64 n, .int .u32 e] 32)).alloc (.cells #[.int .i64 0, .int .i64 0] 51)) w.heap.size k0 n0 e0 n e := by
  have hG0 := GxB.made (w.alloc (.cells #[.int .i64 k0, .int .i64 n0, .int .u32 e0] 43)) n e 32
  rw [World.size_alloc] at hG0
  have hR0 := FqB.made ((w.alloc (.cells #[.int .i64 k0, .int .i64 n0, .int .u32 e0] 43)).alloc (.cells #[.int .i64 n, .int .u32 e] 32)) 0 0 51
  rw [World.size_alloc, World.size_alloc] at hR0
  exact ⟨((FC.made w k0 n0 e0 _).below (balloc (Below.refl _ _) _)).below (balloc (Below.refl _ _) _), hG0.below (balloc (Below.refl _ _) _), hR0⟩
section
variable (w : World)
end
end Go.Proofs.YtncbimbbkealmaaGreatDoor
namespace Go.Proofs.YtncbimbbkealmaaGreatDoor
open Go.RowKit Go.Shelf
set_option maxRecDepth 100000
attribute [local go_sem] Oper.semAt_some
/-- a list with one more vertex less than v -/
def exV (x : List Nat) (v : Nat) : List (List Nat) := (List.range v).flatMap fun u => if x.contains u then [] else [x ++ [u]]
def exJ (n : Nat) (L : List (List Nat)) : List (List Nat) := L.flatMap fun x => exV x n
theorem exV_t {x : List Nat} {v : Nat} (h : x.contains v = true) : exV x (v + 1) = exV x v := by
  unfold exV
  rw [List.range_succ, List.flatMap_append, List.flatMap_cons, List.flatMap_nil, h]
  simp
theorem exV_f {x : List Nat} {v : Nat} (h : x.contains v = false) : exV x (v + 1) = exV x v ++ [x ++ [v]] := by
  unfold exV
  rw [List.range_succ, List.flatMap_append, List.flatMap_cons, List.flatMap_nil, h]
  simp
theorem exV_len (x : List Nat) (v : Nat) : (exV x v).length ≤ v := by
  induction v with
  | zero => simp [exV]
  | succ v ih =>
    cases h : x.contains v
    · rw [exV_f h, List.length_append]; simp; omega
    · rw [exV_t h]; omega
theorem exJ_len (n : Nat) : ∀ L : List (List Nat), (exJ n L).length ≤ L.length * n
  | [] => by simp [exJ]
  | x :: r => by
    have h1 := exJ_len n r
    have h2 := exV_len x n
    unfold exJ at h1 ⊢
    rw [List.flatMap_cons, List.length_append, List.length_cons, Nat.add_mul]
    omega
theorem exJ_snoc (n : Nat) (L : List (List Nat)) (x : List Nat) : exJ n (L ++ [x]) = exJ n L ++ exV x n := by simp [exJ]
theorem exJ_take {n : Nat} {L : List (List Nat)} {j : Nat} (h : j < L.length) : exJ n (L.take (j + 1)) = exJ n (L.take j) ++ exV (L[j]?.getD []) n := by
  rw [← exJ_snoc]
  congr 1
  rw [List.take_add_one, List.getElem?_eq_getElem h]
  rfl
theorem lists_succ : ∀ n, n ≤ 5 → ∀ k, k ≤ 2 → exJ n (lists n k) = lists n (k + 1) := by decide +kernel
theorem lists_row : ∀ n, n ≤ 5 → ∀ k, k ≤ 3 → (lists n k).all (fun x => decide (x.length ≤ 3)) = true := by decide +kernel
theorem lists_l : ∀ n, n ≤ 5 → ∀ k, k ≤ 3 → (lists n k).length ≤ 60 := by decide +kernel
/-- the base may be less -/
theorem OwnLs.mono {base base' : Nat} {W : World} {v : Value} {L : List (List Nat)} (h : OwnLs base W v L) (hb : base' ≤ base) : OwnLs base' W v L := by
  obtain ⟨us, ⟨h1, h3, h4⟩, h2⟩ := h
  exact ⟨us, ⟨h1, fun i hi => by obtain ⟨g, c, e1, e2⟩ := h3 i hi; exact ⟨g, c, e1, ll_mono e2 hb⟩, h4⟩, ll_mono h2 hb⟩
/-- a row, as it is read and copied -/
theorem OwnLs.readS {base : Nat} {W : World} {v : Value} {L : List (List Nat)} (h : OwnLs base W v L) : ∃ a cap, v = .slice a L.length cap ∧
    ∀ i, i < L.length → ∃ g r c, a = some ⟨g, 0, none⟩ ∧ g < W.heap.size ∧ W.cell? ⟨g, i, none⟩ = some (.slice (some ⟨r, 0, none⟩) (L[i]?.getD []).length c) ∧ W.ownsRow base 2 1 (.slice (some ⟨r, 0, none⟩) (L[i]?.getD []).length c) (L[i]?.getD []).length (rowV (L[i]?.getD [])) := by
  obtain ⟨us, ⟨h1, h3, _⟩, h2⟩ := h
  rcases h2.2 with ⟨e0, e1⟩ | ⟨g, cap, cur, rfl, a1, a2, a3, a4, a5, a6⟩
  · exact ⟨none, 0, by rw [e0, e1], fun i hi => by omega⟩
  · refine ⟨some ⟨g, 0, none⟩, cap, rfl, fun i hi => ?_⟩
    obtain ⟨gu, cu, e1, e2⟩ := h3 i hi
    refine ⟨g, gu, cu, rfl, (Array.getElem?_eq_some_iff.1 a2).1, ?_, e2⟩
    have h1 : (cur.toList.take (L.length * 1))[i]? = some (.slice (some ⟨gu, 0, none⟩) (L[i]?.getD []).length cu) := by rw [a6]; exact e1
    rw [List.getElem?_take_of_lt (by omega)] at h1
    simpa [World.cell?, a2] using h1
/-- the list of one empty list -/
theorem OwnLs.one (W : World) : OwnLs W.heap.size ((W.alloc (.cells #[] 2)).alloc (.cells #[.slice (some ⟨W.heap.size, 0, none⟩) 0 0] 69)) (.slice (some ⟨W.heap.size + 1, 0, none⟩) 1 1) [[]] := by
  have h0 := World.ownsRow_made (e := 2) (base := W.heap.size) (size := 1) W #[] 0 (Nat.le_refl _) (by unfold maxLen; omega) rfl
  refine ⟨[.slice (some ⟨W.heap.size, 0, none⟩) 0 0], ⟨rfl, fun i hi => ?_, fun i j u u' hij hu hu' => ?_⟩, ⟨rfl, .inr ⟨W.heap.size + 1, 1, #[.slice (some ⟨W.heap.size, 0, none⟩) 0 0], rfl, by omega, ?_, Nat.le_refl 1, by unfold maxLen; omega, rfl, rfl⟩⟩⟩
  · obtain rfl : i = 0 := by simp at hi; exact hi
    exact ⟨W.heap.size, 0, rfl, h0.alloc _⟩
  · have := (List.getElem?_eq_some_iff.1 hu').1
    simp at this
    omega
  · have := World.alloc_heap_new (W.alloc (.cells #[] 2)) (.cells #[.slice (some ⟨W.heap.size, 0, none⟩) 0 0] 69)
    rwa [World.size_alloc] at this
section
variable (w : World)
set_option maxHeartbeats 1000000 in
theorem sown_any (base : Nat) (x : List Nat) (r c : Nat) (hx : x.length ≤ 5) (hS : w.ownsRow base 2 1 (.slice (some ⟨r, 0, none⟩) x.length c) x.length (rowV x)) :
    Calls Tryz.prog 61 #[.slice (some ⟨r, 0, none⟩) x.length c] w fun e w' => (∃ g c', e = .returned (.slice (some ⟨g, 0, none⟩) x.length c') ∧ w'.ownsRow w.heap.size 2 1 (.slice (some ⟨g, 0, none⟩) x.length c') x.length (rowV x)) ∧ Below w.heap.size w w' := by
  obtain ⟨i0, hi, hz0, hz1, hz2⟩ := info_parts info_i64
  replace hi := Lib.hid hi
  replace hz0 := Lib.hid hz0
  replace hz1 := Lib.hid hz1
  replace hz2 := Lib.hid hz2
  have hown0 : Hid ((w.alloc (.cells #[] 2)).ownsRow w.heap.size 2 1 (.slice (some ⟨w.heap.size, 0, none⟩) 0 0) 0 []) := World.ownsRow_made w #[] 0 (Nat.le_refl _) (by unfold maxLen; omega) rfl
  have hsrc := Lib.hid (World.ownsRow.cells (hS.alloc (.cells #[] 2)) (g := r) rfl)
  have hrl : (rowV x).length = x.length := by simp [rowV]
  have h1c : Hid (∀ u ∈ rowV x, u.oneCell' = true) := fun u hu => by unfold rowV at hu; rw [List.mem_map] at hu; obtain ⟨_, _, rfl⟩ := hu; rfl
  obtain ⟨X, hX⟩ : ∃ X, rowV x = X := ⟨_, rfl⟩
  rw [hX] at hsrc hrl h1c ⊢
  obtain ⟨l, hl⟩ : ∃ l, x.length = l := ⟨_, rfl⟩
  rw [hl] at hx hrl ⊢
  clear hS hX hl
  go_enter Tryz.func61, Tryz.ntmps61
  go_wp2_with (at_builtin; refine wpList_append_own _ rfl _ _ 69 rfl w.heap.size 2 i0 (.int .i64 0) 1 8 Tryz.underlying69 hi.out hz0.out hz1.out hz2.out rfl (by decide) _ _ _ rfl hown0.out ⟨r, 0, none⟩ l c X rfl (by rw [hrl]; omega) hsrc.out h1c.out (by unfold maxLen; omega) (by omega) (by simp) ?_; intro v1 w1 hown1 hgrow1 hnil)
  have hb1 : Below w.heap.size w w1 := ((Below.refl _ w).alloc (Nat.le_refl _) _).grown hgrow1 (by simp) (fun k hk => (hown0.out.lt k hk).1)
  rw [Nat.zero_add, List.nil_append] at hown1
  have hform : ∃ g c', v1 = .slice (some ⟨g, 0, none⟩) l c' := by
    rcases hown1.2 with ⟨e0, _⟩ | ⟨g, cap, cur, e, _⟩
    · have := (hnil.1 e0).1
      cases this
    · exact ⟨g, cap, e⟩
  obtain ⟨g, c', rfl⟩ := hform
  replace hown1 := Lib.hid hown1
  clear hgrow1 hnil
  go_wp2
  go_ret
  exact ⟨⟨g, c', rfl, hown1.out⟩, hb1⟩
set_option maxHeartbeats 4000000 in
theorem slists_any (n k : Nat) (hn : n ≤ 5) (hk : k ≤ 3) :
    Calls Tryz.prog 34 #[.int .i64 k, .int .i64 n] w fun r w' => (∃ v, r = .returned v ∧ Hid (OwnLs w.heap.size w' v (lists n k))) ∧ Below w.heap.size w w' := by
  obtain ⟨i0, hi, hz0, hz1, hz2⟩ := info_parts info_i64
  obtain ⟨i1, ji, jz0, jz1, jz2⟩ := info_parts ll_info
  replace hi := Lib.hid hi
  replace hz0 := Lib.hid hz0
  replace hz1 := Lib.hid hz1
  replace hz2 := Lib.hid hz2
  replace ji := Lib.hid ji
  replace jz0 := Lib.hid jz0
  replace jz1 := Lib.hid jz1
  replace jz2 := Lib.hid jz2
  have hsucc := Lib.hid (fun i (hi : i < k) => lists_succ n hn i (by omega))
  have hrow := Lib.hid (fun i (hi : i ≤ k) (x : List Nat) (hx : x ∈ lists n i) => (show x.length ≤ 3 from by simpa using List.all_eq_true.1 (lists_row n hn i (by omega)) x hx))
  have hlen := Lib.hid (fun i (hi : i ≤ k) => lists_l n hn i (by omega))
  have h1 := Lib.hid (OwnLs.one w)
  go_enter Tryz.func34, Tryz.ntmps34
  go_wp2
  go_loopw [5, 6] (fun v c wr => ∃ i : Nat, i ≤ k ∧ c = .int .i64 i ∧ Hid (OwnLs w.heap.size wr v (lists n i)) ∧ Below w.heap.size w wr) (fun _ c _ => k - (intOf c).toNat)
  case atStart => exact ⟨0, by omega, rfl, h1, by (repeat (first | exact Below.refl _ _ | assumption | refine bchain (by assumption) ?_ | refine balloc ?_ _ | apply Below.drew | apply below_drewN | (refine Below.alloc ?_ (by (try simp) <;> omega) _) | (refine Below.setCell ?_ (by (try simp) <;> omega) _)))⟩
  case round =>
    obtain ⟨i, hik, rfl, hO, hb⟩ := hrel
    by_cases hlt : i < k
    · have hlt2 : (i : Int) < (k : Int) := by omega
      have hge := hb.size
      obtain ⟨a, cap, rfl, hR⟩ := hO.out.readS
      have hLl := hlen.out i (by omega)
      have hLr := Lib.hid (hrow.out i (by omega))
      have hLs := Lib.hid (hsucc.out i hlt)
      obtain ⟨L, hL⟩ : ∃ L, lists n i = L := ⟨_, rfl⟩
      rw [hL] at hR hLl hLr hLs hO ⊢
      obtain ⟨N, hN⟩ : ∃ N, L.length = N := ⟨_, rfl⟩
      rw [hN] at hR hLl ⊢
      replace hN := Lib.hid hN
      replace hR := Lib.hid hR
      rename World => V
      go_wp2
      have hst0 : Hid (OwnLs V.heap.size (V.alloc (.cells #[] 69)) (.slice (some ⟨V.heap.size, 0, none⟩) 0 0) []) := OwnLs.made _ _ 0 (Nat.le_refl _) rfl
      have hbb0 : Below V.heap.size V (V.alloc (.cells #[] 69)) := (Below.refl _ _).alloc (Nat.le_refl _) _
      go_loopw [7, 8] (fun u c wr => ∃ j : Nat, j ≤ N ∧ c = .int .i64 j ∧ Hid (OwnLs V.heap.size wr u (exJ n (L.take j))) ∧ Below V.heap.size V wr) (fun _ c _ => N - (intOf c).toNat)
      case atStart => exact ⟨0, by omega, rfl, by rw [List.take_zero]; exact hst0, hbb0⟩
      case round =>
        clear hst0 hbb0
        obtain ⟨j, hj, rfl, hO2, hb2⟩ := hrel
        by_cases hlj : j < N
        · have hlj2 : (j : Int) < (N : Int) := by omega
          have hjL : j < L.length := by rw [hN.out]; exact hlj
          obtain ⟨g, r, cc, rfl, hg, hcell, hrw⟩ := hR.out j hlj
          have hmem : L[j]?.getD [] ∈ L := by rw [List.getElem?_eq_getElem hjL]; exact List.getElem_mem hjL
          have htk := Lib.hid (exJ_take (n := n) hjL)
          have hx3 := hLr.out _ hmem
          have hjl := exJ_len n (L.take j)
          rw [List.length_take, Nat.min_eq_left (by omega)] at hjl
          have hjn : j * n ≤ 300 := by
            have : j * n ≤ 60 * 5 := Nat.mul_le_mul (by omega) hn
            omega
          obtain ⟨x, hx⟩ : ∃ x, L[j]?.getD [] = x := ⟨_, rfl⟩
          rw [hx] at hcell hrw htk hx3
          obtain ⟨l, hl⟩ : ∃ l, x.length = l := ⟨_, rfl⟩
          rw [hl] at hcell
          obtain ⟨J, hJ⟩ : ∃ J, exJ n (L.take j) = J := ⟨_, rfl⟩
          rw [hJ] at hO2 htk hjl
          have hge2 := hb2.size
          rename World => V2
          clear hmem hx hJ
          replace hrw := Lib.hid hrw
          go_wp2
          go_loopw [7, 9] (fun u c wr => ∃ v : Nat, v ≤ n ∧ c = .int .i64 v ∧ Hid (OwnLs V.heap.size wr u (J ++ exV x v)) ∧ Below V.heap.size V wr) (fun _ c _ => n - (intOf c).toNat)
          case atStart => exact ⟨0, by omega, rfl, by rw [show exV x 0 = [] from rfl, List.append_nil]; exact hO2, hb2⟩
          case round =>
            obtain ⟨v, hv, rfl, hO3, hb3⟩ := hrel
            by_cases hlv : v < n
            · have hlv2 : (v : Int) < (n : Int) := by omega
              have hge3 := hb3.size
              have c3 := (hb3.cell (p := ⟨g, j, none⟩) hg).trans hcell
              have g3 : g < wr.heap.size := Nat.lt_of_lt_of_le hg hge3
              have hrw3 := row_below hrw.out hb3
              have hHas := Lib.hid (has_any wr _ x v (rowV_see hrw3 rfl) (by omega))
              rw [hl] at hHas
              have hel := exV_len x v
              cases hc : x.contains v
              · rw [hc] at hHas
                have hst := Lib.hid (exV_f hc)
                have hOw := Lib.hid (sown_any wr _ x r cc (by omega) hrw3)
                rw [hl] at hOw
                clear hc
                obtain ⟨M, hM⟩ : ∃ M, J ++ exV x v = M := ⟨_, rfl⟩
                have hMl : M.length ≤ 400 := by rw [← hM, List.length_append]; omega
                have hst2 : Hid (J ++ exV x (v + 1) = M ++ [x ++ [v]]) := by
                  show _ = _
                  rw [hst.out, ← List.append_assoc, hM]
                rw [hM] at hO3
                have hl3 : l ≤ 3 := by omega
                have hxl := Lib.hid hl
                clear hM hst hrw3 hel hl
                go_wp2_with (first
                  | (go_at_call 60; refine (hHas.out).mono ?_; rintro r1 w1 ⟨rfl, rfl⟩)
                  | (go_at_call 61; refine (hOw.out).mono ?_; rintro r2 w2 ⟨⟨g2, c2, rfl, hown2⟩, hb4⟩; replace hown2 := Lib.hid hown2; have hz4 := hb4.size)
                  | (at_builtin
                     refine wpList_append_own _ rfl _ _ 69 rfl wr.heap.size 2 i0 (.int .i64 0) 1 8 Tryz.underlying69 hi.out hz0.out hz1.out hz2.out rfl (by decide) _ _ _ rfl (hown2.out.alloc _) ⟨w2.heap.size, 0, none⟩ 1 1 [.int .i64 v] rfl rfl (fun q u hq => by cases q with | zero => simp at hq; subst hq; rw [show (⟨w2.heap.size, 0, none⟩ : Addr).add 0 = ⟨w2.heap.size, 0, none⟩ from rfl, World.cell?_alloc_new]; rfl | succ q => simp at hq) (fun u hu => by simp at hu; subst hu; rfl) (by unfold maxLen; omega) (by omega) (by simp; omega) ?_
                     intro v3 w3 hown3 hgrow3 _
                     obtain ⟨g3, c3', rfl⟩ := Go.Joins.ownsRow_form hown3 (by omega)
                     have hb5 : Below wr.heap.size wr w3 := (hb4.alloc hz4 _).grown hgrow3 (by simp; omega) (fun k hk => (hown2.out.lt k hk).1)
                     have hown3' : Hid (w3.ownsRow wr.heap.size 2 1 (.slice (some ⟨g3, 0, none⟩) (l + 1) c3') (l + 1) (rowV (x ++ [v]))) := by
                       show w3.ownsRow _ _ _ _ _ _
                       rw [rowV_snoc]
                       exact hown3
                     obtain ⟨us, z1, z2⟩ := hO3.out
                     have z5 := Lib.hid z1.lt
                     replace z1 := Lib.hid (z1.below hb5)
                     replace z2 := Lib.hid (row_below z2 hb5)
                     have hz5 := hb5.size
                     have hbb := Lib.hid (hb3.trans (hb5.mono hge3))
                     obtain ⟨m, hm⟩ : ∃ m, M.length = m := ⟨_, rfl⟩
                     rw [hm] at hMl z2
                     clear hown3 hgrow3 hO3 hb4 hz4 hb5)
                  | (at_builtin
                     refine wpList_append_own _ rfl _ _ 65 rfl V.heap.size 69 i1 (.slice none 0 0) 1 24 Tryz.underlying65 ji.out jz0.out jz1.out jz2.out rfl (by decide) _ _ _ rfl (z2.out.alloc _) ⟨w3.heap.size, 0, none⟩ 1 1 [.slice (some ⟨g3, 0, none⟩) (l + 1) c3'] rfl rfl (fun q u hq => by cases q with | zero => simp at hq; subst hq; rw [show (⟨w3.heap.size, 0, none⟩ : Addr).add 0 = ⟨w3.heap.size, 0, none⟩ from rfl, World.cell?_alloc_new]; rfl | succ q => simp at hq) (fun u hu => by simp at hu; subst hu; rfl) (by unfold maxLen; omega) (by omega) (by have := hbb.out.size; simp; omega) ?_
                     intro v5 w5 hown5 hgrow5 _))
                have hO6 : Hid (OwnLs V.heap.size w5 v5 (J ++ exV x (v + 1))) := by
                  rw [hst2.out]
                  have hxl2 : (x ++ [v]).length = l + 1 := by rw [List.length_append, hxl.out]; rfl
                  exact OwnLs.push (b2 := wr.heap.size) (z1.out.below (balloc (Below.refl _ _) _)) (by rw [hm]; exact z2.out.alloc _) hge3 z5.out (by rw [hxl2]; exact hown3'.out.alloc _) (by rw [hm, hxl2]; exact hown5) hgrow5
                have hb6 : Below V.heap.size V w5 := (hbb.out.alloc hbb.out.size _).grown hgrow5 (by have := hbb.out.size; simp; omega) (fun k hk => (z2.out.lt k hk).1)
                clear hown5 hgrow5 z1 z2 z5 hm hown3'
                go_wp2
                go_roundw
                case rel => exact ⟨v + 1, by omega, by go_num, hO6, hb6⟩
                case measure => simp [intOf]; omega
              · rw [hc] at hHas
                have hst := Lib.hid (exV_t hc)
                clear hc
                go_wp2_with (go_at_call 60; refine (hHas.out).mono ?_; rintro r1 w1 ⟨rfl, rfl⟩)
                go_roundw
                case rel => exact ⟨v + 1, by omega, by go_num, by rw [hst.out]; exact hO3, hb3⟩
                case measure => simp [intOf]; omega
            · obtain rfl : v = n := by omega
              have hdd := decide_eq_false (show ¬ ((v : Int) < (v : Int)) by omega)
              go_wp2
              go_roundw
              case rel => exact ⟨j + 1, by omega, by go_num, by rw [htk.out]; exact hO3, hb3⟩
              case measure => simp [intOf]; omega
        · obtain rfl : j = N := by omega
          have hdd := decide_eq_false (show ¬ ((j : Int) < (j : Int)) by omega)
          have ht : L.take j = L := by rw [← hN.out, List.take_length]
          rw [ht] at hO2
          go_wp2
          go_roundw
          case rel => exact ⟨i + 1, by omega, by go_num, by rw [← hLs.out]; exact hO2.out.mono hge, hb.trans (hb2.mono hge)⟩
          case measure => simp [intOf]; omega
    · obtain rfl : i = k := by omega
      have hdd := decide_eq_false (show ¬ ((i : Int) < (i : Int)) by omega)
      go_wp2
      go_ret
      exact ⟨⟨_, rfl, hO⟩, hb⟩
end
end Go.Proofs.YtncbimbbkealmaaGreatDoor
/-
  AverageFactor, AverageDensity: the model.
-/
namespace Go.Proofs.YtncbimbbkealmaaGreatDoor
open Go.RowKit Go.Shelf
set_option maxRecDepth 100000
attribute [local go_sem] Oper.semAt_some
theorem mtC_take {n k e j : Nat} {L : List (List Nat)} (h : j < L.length) : mtC n k e (L.take (j + 1)) = mtC n k e (L.take j) + if mtP n k e (L[j]?.getD []) then 1 else 0 := by
  rw [List.take_add_one, List.getElem?_eq_getElem h]
  unfold mtC
  simp only [Option.toList, List.countP_append, Option.getD_some]
  rw [List.countP_cons, List.countP_nil, Nat.zero_add]
/-- rows of numbers, as they are read -/
theorem rowV_sls {W : World} {base r c : Nat} {x : List Nat} (h : W.ownsRow base 2 1 (.slice (some ⟨r, 0, none⟩) x.length c) x.length (rowV x)) : SlS W (.slice (some ⟨r, 0, none⟩) x.length c) (zl x) :=
  ⟨rowV_see h rfl, ⟨r, 0, none⟩, c, by rw [zl_length]⟩
section
variable (w : World)
end
/-- a list makes a flag, put into a new box -/
structure CJ (W0 : World) (GV V6 V8 AV RV : Value) (k n y : Int) (f : Nat → Bool) (t40 t41 t42 t43 t44 t45 t9 : Value) (W : World) : Prop where
  below : Below W0.heap.size W0 W
  h6 : f 6 = true → ∃ B, t9 = .pointer (some ⟨B, 0, none⟩) ∧ W0.heap.size ≤ B ∧ FC W B (if f 7 then k else 0) (if f 7 then n else 0) (if f 7 then y else 0) ∧ (∀ o, W.frozen? ⟨B, o, none⟩ = false)
  d7 : f 7 = true → f 6 = true
  h0 : f 0 = true → t40 = GV
  h1 : f 1 = true → t41 = V6
  h2 : f 2 = true → t42 = V8
  h3 : f 3 = true → t43 = AV
  h4 : f 4 = true → t44 = RV
  h5 : f 5 = true → t45 = .agg #[.int .i64 k, .int .i64 n, .int .u32 y]
section
variable {W0 : World} {GV V6 V8 AV RV : Value} {k n y : Int} {f : Nat → Bool} {t40 t41 t42 t43 t44 t45 t9 : Value} {W : World}
theorem CJ.world (h : CJ W0 GV V6 V8 AV RV k n y f t40 t41 t42 t43 t44 t45 t9 W) {W' : World} (hb : Below W.heap.size W W') : CJ W0 GV V6 V8 AV RV k n y f t40 t41 t42 t43 t44 t45 t9 W' :=
  ⟨bchain hb h.below, fun e => let ⟨B, e1, e2, q, z⟩ := h.h6 e; ⟨B, e1, e2, q.below hb, fun o => (hb.frozen (p := ⟨B, o, none⟩) q.lt).trans (z o)⟩, h.d7, fun e => h.h0 e, fun e => h.h1 e, fun e => h.h2 e, fun e => h.h3 e, fun e => h.h4 e, fun e => h.h5 e⟩
theorem CJ.p0 (h : CJ W0 GV V6 V8 AV RV k n y f t40 t41 t42 t43 t44 t45 t9 W) : CJ W0 GV V6 V8 AV RV k n y (setf f 0) (GV) t41 t42 t43 t44 t45 t9 W :=
  ⟨h.below, fun e => h.h6 e, fun e => h.d7 e, fun _ => rfl, fun e => h.h1 e, fun e => h.h2 e, fun e => h.h3 e, fun e => h.h4 e, fun e => h.h5 e⟩
theorem CJ.p1 (h : CJ W0 GV V6 V8 AV RV k n y f t40 t41 t42 t43 t44 t45 t9 W) : CJ W0 GV V6 V8 AV RV k n y (setf f 1) t40 (V6) t42 t43 t44 t45 t9 W :=
  ⟨h.below, fun e => h.h6 e, fun e => h.d7 e, fun e => h.h0 e, fun _ => rfl, fun e => h.h2 e, fun e => h.h3 e, fun e => h.h4 e, fun e => h.h5 e⟩
theorem CJ.p2 (h : CJ W0 GV V6 V8 AV RV k n y f t40 t41 t42 t43 t44 t45 t9 W) : CJ W0 GV V6 V8 AV RV k n y (setf f 2) t40 t41 (V8) t43 t44 t45 t9 W :=
  ⟨h.below, fun e => h.h6 e, fun e => h.d7 e, fun e => h.h0 e, fun e => h.h1 e, fun _ => rfl, fun e => h.h3 e, fun e => h.h4 e, fun e => h.h5 e⟩
theorem CJ.p3 (h : CJ W0 GV V6 V8 AV RV k n y f t40 t41 t42 t43 t44 t45 t9 W) : CJ W0 GV V6 V8 AV RV k n y (setf f 3) t40 t41 t42 (AV) t44 t45 t9 W :=
  ⟨h.below, fun e => h.h6 e, fun e => h.d7 e, fun e => h.h0 e, fun e => h.h1 e, fun e => h.h2 e, fun _ => rfl, fun e => h.h4 e, fun e => h.h5 e⟩
theorem CJ.p4 (h : CJ W0 GV V6 V8 AV RV k n y f t40 t41 t42 t43 t44 t45 t9 W) : CJ W0 GV V6 V8 AV RV k n y (setf f 4) t40 t41 t42 t43 (RV) t45 t9 W :=
  ⟨h.below, fun e => h.h6 e, fun e => h.d7 e, fun e => h.h0 e, fun e => h.h1 e, fun e => h.h2 e, fun e => h.h3 e, fun _ => rfl, fun e => h.h5 e⟩
theorem CJ.p5 (h : CJ W0 GV V6 V8 AV RV k n y f t40 t41 t42 t43 t44 t45 t9 W) : CJ W0 GV V6 V8 AV RV k n y (setf f 5) t40 t41 t42 t43 t44 (.agg #[.int .i64 k, .int .i64 n, .int .u32 y]) t9 W :=
  ⟨h.below, fun e => h.h6 e, fun e => h.d7 e, fun e => h.h0 e, fun e => h.h1 e, fun e => h.h2 e, fun e => h.h3 e, fun e => h.h4 e, fun _ => rfl⟩
theorem CJ.a6 (h : CJ W0 GV V6 V8 AV RV k n y f t40 t41 t42 t43 t44 t45 t9 W) (hf : f 6 = false) (t : TypeId) : CJ W0 GV V6 V8 AV RV k n y (setf f 6) t40 t41 t42 t43 t44 t45 (.pointer (some ⟨W.heap.size, 0, none⟩)) (W.alloc (.cells #[.int .i64 0, .int .i64 0, .int .u32 0] t)) := by
  have hb : Below W.heap.size W (W.alloc (.cells #[.int .i64 0, .int .i64 0, .int .u32 0] t)) := balloc (Below.refl _ _) _
  have h7 : ¬ f 7 = true := fun e => by have := h.d7 e; rw [hf] at this; cases this
  have k := h.world hb
  refine ⟨k.below, fun _ => ⟨W.heap.size, rfl, h.below.size, ?_, fun o => by simp⟩, fun _ => rfl, fun e => k.h0 e, fun e => k.h1 e, fun e => k.h2 e, fun e => k.h3 e, fun e => k.h4 e, fun e => k.h5 e⟩
  show FC _ _ (if f 7 then _ else 0) (if f 7 then _ else 0) (if f 7 then _ else 0)
  rw [if_neg h7, if_neg h7, if_neg h7]
  exact FC.made W 0 0 0 t
theorem CJ.s7 (h : CJ W0 GV V6 V8 AV RV k n y f t40 t41 t42 t43 t44 t45 t9 W) (g6 : f 6 = true) {B : Nat} {a b c : Int} (e0 : t9 = .pointer (some ⟨B, 0, none⟩)) (hB : W0.heap.size ≤ B) (k0 : FC W B a b c) (z : ∀ o, W.frozen? ⟨B, o, none⟩ = false) : CJ W0 GV V6 V8 AV RV k n y (setf f 7) t40 t41 t42 t43 t44 t45 t9 (((W.setCell ⟨B, 0, none⟩ (.int .i64 k)).setCell ⟨B, 1, none⟩ (.int .i64 n)).setCell ⟨B, 2, none⟩ (.int .u32 y)) := by
  have h1 := h.below.setCell (p := ⟨B, 0, none⟩) hB (.int .i64 k)
  have h2 := h1.setCell (p := ⟨B, 1, none⟩) hB (.int .i64 n)
  refine ⟨h2.setCell (p := ⟨B, 2, none⟩) hB _, fun _ => ⟨B, e0, hB, ⟨by simpa using k0.lt, ?_, ?_, ?_⟩, fun o => by simp [z o]⟩, fun _ => g6, fun e => h.h0 e, fun e => h.h1 e, fun e => h.h2 e, fun e => h.h3 e, fun e => h.h4 e, fun e => h.h5 e⟩
  · rw [World.cell?_setCell_other _ _ _ _ (by simp), World.cell?_setCell_other _ _ _ _ (by simp)]
    exact World.cell?_setCell_same _ _ _ k0.c0
  · rw [World.cell?_setCell_other _ _ _ _ (by simp)]
    exact World.cell?_setCell_same _ _ _ ((World.cell?_setCell_other _ _ _ _ (by simp)).trans k0.c1)
  · exact World.cell?_setCell_same _ _ _ ((World.cell?_setCell_other _ _ _ _ (by simp)).trans ((World.cell?_setCell_other _ _ _ _ (by simp)).trans k0.c2))
end
/-- the sum grows -/
structure DJ (W0 : World) (Bs : Nat) (FV GV XV : Value) (a b x5 y5 : Int) (f : Nat → Bool) (t52 t53 t54 t55 t56 t51 t57 t58 : Value) (W : World) : Prop where
  chg : Chg (fun b => b = Bs) W0 W
  sum : FqB W Bs (if f 8 then x5 else a) (if f 8 then y5 else b)
  ge : W0.heap.size ≤ W.heap.size
  d4 : f 4 = true → f 0 = true
  d5 : f 5 = true → f 0 = true
  d6 : f 6 = true → f 0 = true
  d8 : f 8 = true → f 0 = true
  h0 : f 0 = true → t52 = .agg #[.int .i64 a, .int .i64 b]
  h1 : f 1 = true → t53 = FV
  h2 : f 2 = true → t54 = GV
  h3 : f 3 = true → t55 = XV
  h4 : f 4 = true → t56 = .tuple #[.agg #[.int .i64 x5, .int .i64 y5], .int .i64 0]
  h5 : f 5 = true → t51 = .tuple #[.agg #[.int .i64 x5, .int .i64 y5], .int .i64 0]
  h6 : f 6 = true → t57 = .agg #[.int .i64 x5, .int .i64 y5]
  h7 : f 7 = true → t58 = .int .i64 0
section
variable {W0 : World} {Bs : Nat} {FV GV XV : Value} {a b x5 y5 : Int} {f : Nat → Bool} {t52 t53 t54 t55 t56 t51 t57 t58 : Value} {W : World}
theorem DJ.world (h : DJ W0 Bs FV GV XV a b x5 y5 f t52 t53 t54 t55 t56 t51 t57 t58 W) {W' : World} (hb : Below W.heap.size W W') : DJ W0 Bs FV GV XV a b x5 y5 f t52 t53 t54 t55 t56 t51 t57 t58 W' :=
  ⟨h.chg.trans (Chg.of_below hb), h.sum.below hb, Nat.le_trans h.ge hb.size, h.d4, h.d5, h.d6, h.d8, fun e => h.h0 e, fun e => h.h1 e, fun e => h.h2 e, fun e => h.h3 e, fun e => h.h4 e, fun e => h.h5 e, fun e => h.h6 e, fun e => h.h7 e⟩
theorem DJ.p0 (h : DJ W0 Bs FV GV XV a b x5 y5 f t52 t53 t54 t55 t56 t51 t57 t58 W) : DJ W0 Bs FV GV XV a b x5 y5 (setf f 0) (.agg #[.int .i64 a, .int .i64 b]) t53 t54 t55 t56 t51 t57 t58 W :=
  ⟨h.chg, h.sum, h.ge, fun _ => rfl, fun _ => rfl, fun _ => rfl, fun _ => rfl, fun _ => rfl, fun e => h.h1 e, fun e => h.h2 e, fun e => h.h3 e, fun e => h.h4 e, fun e => h.h5 e, fun e => h.h6 e, fun e => h.h7 e⟩
theorem DJ.p1 (h : DJ W0 Bs FV GV XV a b x5 y5 f t52 t53 t54 t55 t56 t51 t57 t58 W) : DJ W0 Bs FV GV XV a b x5 y5 (setf f 1) t52 (FV) t54 t55 t56 t51 t57 t58 W :=
  ⟨h.chg, h.sum, h.ge, fun e => h.d4 e, fun e => h.d5 e, fun e => h.d6 e, fun e => h.d8 e, fun e => h.h0 e, fun _ => rfl, fun e => h.h2 e, fun e => h.h3 e, fun e => h.h4 e, fun e => h.h5 e, fun e => h.h6 e, fun e => h.h7 e⟩
theorem DJ.p2 (h : DJ W0 Bs FV GV XV a b x5 y5 f t52 t53 t54 t55 t56 t51 t57 t58 W) : DJ W0 Bs FV GV XV a b x5 y5 (setf f 2) t52 t53 (GV) t55 t56 t51 t57 t58 W :=
  ⟨h.chg, h.sum, h.ge, fun e => h.d4 e, fun e => h.d5 e, fun e => h.d6 e, fun e => h.d8 e, fun e => h.h0 e, fun e => h.h1 e, fun _ => rfl, fun e => h.h3 e, fun e => h.h4 e, fun e => h.h5 e, fun e => h.h6 e, fun e => h.h7 e⟩
theorem DJ.p3 (h : DJ W0 Bs FV GV XV a b x5 y5 f t52 t53 t54 t55 t56 t51 t57 t58 W) : DJ W0 Bs FV GV XV a b x5 y5 (setf f 3) t52 t53 t54 (XV) t56 t51 t57 t58 W :=
  ⟨h.chg, h.sum, h.ge, fun e => h.d4 e, fun e => h.d5 e, fun e => h.d6 e, fun e => h.d8 e, fun e => h.h0 e, fun e => h.h1 e, fun e => h.h2 e, fun _ => rfl, fun e => h.h4 e, fun e => h.h5 e, fun e => h.h6 e, fun e => h.h7 e⟩
theorem DJ.p4 (h : DJ W0 Bs FV GV XV a b x5 y5 f t52 t53 t54 t55 t56 t51 t57 t58 W) (g0 : f 0 = true) : DJ W0 Bs FV GV XV a b x5 y5 (setf f 4) t52 t53 t54 t55 (.tuple #[.agg #[.int .i64 x5, .int .i64 y5], .int .i64 0]) t51 t57 t58 W :=
  ⟨h.chg, h.sum, h.ge, fun _ => g0, fun e => h.d5 e, fun e => h.d6 e, fun e => h.d8 e, fun e => h.h0 e, fun e => h.h1 e, fun e => h.h2 e, fun e => h.h3 e, fun _ => rfl, fun e => h.h5 e, fun e => h.h6 e, fun e => h.h7 e⟩
theorem DJ.p5 (h : DJ W0 Bs FV GV XV a b x5 y5 f t52 t53 t54 t55 t56 t51 t57 t58 W) (g0 : f 0 = true) : DJ W0 Bs FV GV XV a b x5 y5 (setf f 5) t52 t53 t54 t55 t56 (.tuple #[.agg #[.int .i64 x5, .int .i64 y5], .int .i64 0]) t57 t58 W :=
  ⟨h.chg, h.sum, h.ge, fun e => h.d4 e, fun _ => g0, fun e => h.d6 e, fun e => h.d8 e, fun e => h.h0 e, fun e => h.h1 e, fun e => h.h2 e, fun e => h.h3 e, fun e => h.h4 e, fun _ => rfl, fun e => h.h6 e, fun e => h.h7 e⟩
theorem DJ.p6 (h : DJ W0 Bs FV GV XV a b x5 y5 f t52 t53 t54 t55 t56 t51 t57 t58 W) (g0 : f 0 = true) : DJ W0 Bs FV GV XV a b x5 y5 (setf f 6) t52 t53 t54 t55 t56 t51 (.agg #[.int .i64 x5, .int .i64 y5]) t58 W :=
  ⟨h.chg, h.sum, h.ge, fun e => h.d4 e, fun e => h.d5 e, fun _ => g0, fun e => h.d8 e, fun e => h.h0 e, fun e => h.h1 e, fun e => h.h2 e, fun e => h.h3 e, fun e => h.h4 e, fun e => h.h5 e, fun _ => rfl, fun e => h.h7 e⟩
theorem DJ.p7 (h : DJ W0 Bs FV GV XV a b x5 y5 f t52 t53 t54 t55 t56 t51 t57 t58 W) : DJ W0 Bs FV GV XV a b x5 y5 (setf f 7) t52 t53 t54 t55 t56 t51 t57 (.int .i64 0) W :=
  ⟨h.chg, h.sum, h.ge, fun e => h.d4 e, fun e => h.d5 e, fun e => h.d6 e, fun e => h.d8 e, fun e => h.h0 e, fun e => h.h1 e, fun e => h.h2 e, fun e => h.h3 e, fun e => h.h4 e, fun e => h.h5 e, fun e => h.h6 e, fun _ => rfl⟩
theorem DJ.s8 (h : DJ W0 Bs FV GV XV a b x5 y5 f t52 t53 t54 t55 t56 t51 t57 t58 W) (g0 : f 0 = true) : DJ W0 Bs FV GV XV a b x5 y5 (setf f 8) t52 t53 t54 t55 t56 t51 t57 t58 ((W.setCell ⟨Bs, 0, none⟩ (.int .i64 x5)).setCell ⟨Bs, 1, none⟩ (.int .i64 y5)) :=
  ⟨h.chg.trans ⟨rfl, rfl, rfl, by simp, fun i _ hn => (Below.heap_setCell _ _ _ _ hn).trans (Below.heap_setCell _ _ _ _ hn)⟩, h.sum.put x5 y5, by simpa using h.ge, fun e => h.d4 e, fun e => h.d5 e, fun e => h.d6 e, fun _ => g0, fun e => h.h0 e, fun e => h.h1 e, fun e => h.h2 e, fun e => h.h3 e, fun e => h.h4 e, fun e => h.h5 e, fun e => h.h6 e, fun e => h.h7 e⟩
end
/-- the quotient, put into a new box -/
structure EJ (W0 : World) (SL : Value) (N a b RX RY : Int) (f : Nat → Bool) (t60 t61 t62 t63 t64 t59 t65 t66 t10 t11 : Value) (W : World) : Prop where
  below : Below W0.heap.size W0 W
  h8 : f 8 = true → ∃ B, t10 = .pointer (some ⟨B, 0, none⟩) ∧ W0.heap.size ≤ B ∧ FqB W B (if f 9 then RX else 0) (if f 9 then RY else 0)
  d9 : f 9 = true → f 8 = true
  h0 : f 0 = true → t60 = .agg #[.int .i64 a, .int .i64 b]
  h1 : f 1 = true → t61 = SL
  h2 : f 2 = true → t62 = .int .i64 N
  h3 : f 3 = true → t63 = .agg #[.int .i64 N, .int .i64 1]
  h4 : f 4 = true → t64 = .tuple #[.agg #[.int .i64 RX, .int .i64 RY], .int .i64 0]
  h5 : f 5 = true → t59 = .tuple #[.agg #[.int .i64 RX, .int .i64 RY], .int .i64 0]
  h6 : f 6 = true → t65 = .agg #[.int .i64 RX, .int .i64 RY]
  h7 : f 7 = true → t66 = .int .i64 0
  h10 : f 10 = true → t11 = .int .i64 0
section
variable {W0 : World} {SL : Value} {N a b RX RY : Int} {f : Nat → Bool} {t60 t61 t62 t63 t64 t59 t65 t66 t10 t11 : Value} {W : World}
theorem EJ.world (h : EJ W0 SL N a b RX RY f t60 t61 t62 t63 t64 t59 t65 t66 t10 t11 W) {W' : World} (hb : Below W.heap.size W W') : EJ W0 SL N a b RX RY f t60 t61 t62 t63 t64 t59 t65 t66 t10 t11 W' :=
  ⟨bchain hb h.below, fun e => let ⟨B, e1, e2, q⟩ := h.h8 e; ⟨B, e1, e2, q.below hb⟩, h.d9, fun e => h.h0 e, fun e => h.h1 e, fun e => h.h2 e, fun e => h.h3 e, fun e => h.h4 e, fun e => h.h5 e, fun e => h.h6 e, fun e => h.h7 e, fun e => h.h10 e⟩
theorem EJ.p0 (h : EJ W0 SL N a b RX RY f t60 t61 t62 t63 t64 t59 t65 t66 t10 t11 W) : EJ W0 SL N a b RX RY (setf f 0) (.agg #[.int .i64 a, .int .i64 b]) t61 t62 t63 t64 t59 t65 t66 t10 t11 W :=
  ⟨h.below, fun e => h.h8 e, fun e => h.d9 e, fun _ => rfl, fun e => h.h1 e, fun e => h.h2 e, fun e => h.h3 e, fun e => h.h4 e, fun e => h.h5 e, fun e => h.h6 e, fun e => h.h7 e, fun e => h.h10 e⟩
theorem EJ.p1 (h : EJ W0 SL N a b RX RY f t60 t61 t62 t63 t64 t59 t65 t66 t10 t11 W) : EJ W0 SL N a b RX RY (setf f 1) t60 (SL) t62 t63 t64 t59 t65 t66 t10 t11 W :=
  ⟨h.below, fun e => h.h8 e, fun e => h.d9 e, fun e => h.h0 e, fun _ => rfl, fun e => h.h2 e, fun e => h.h3 e, fun e => h.h4 e, fun e => h.h5 e, fun e => h.h6 e, fun e => h.h7 e, fun e => h.h10 e⟩
theorem EJ.p2 (h : EJ W0 SL N a b RX RY f t60 t61 t62 t63 t64 t59 t65 t66 t10 t11 W) : EJ W0 SL N a b RX RY (setf f 2) t60 t61 (.int .i64 N) t63 t64 t59 t65 t66 t10 t11 W :=
  ⟨h.below, fun e => h.h8 e, fun e => h.d9 e, fun e => h.h0 e, fun e => h.h1 e, fun _ => rfl, fun e => h.h3 e, fun e => h.h4 e, fun e => h.h5 e, fun e => h.h6 e, fun e => h.h7 e, fun e => h.h10 e⟩
theorem EJ.p3 (h : EJ W0 SL N a b RX RY f t60 t61 t62 t63 t64 t59 t65 t66 t10 t11 W) : EJ W0 SL N a b RX RY (setf f 3) t60 t61 t62 (.agg #[.int .i64 N, .int .i64 1]) t64 t59 t65 t66 t10 t11 W :=
  ⟨h.below, fun e => h.h8 e, fun e => h.d9 e, fun e => h.h0 e, fun e => h.h1 e, fun e => h.h2 e, fun _ => rfl, fun e => h.h4 e, fun e => h.h5 e, fun e => h.h6 e, fun e => h.h7 e, fun e => h.h10 e⟩
theorem EJ.p4 (h : EJ W0 SL N a b RX RY f t60 t61 t62 t63 t64 t59 t65 t66 t10 t11 W) : EJ W0 SL N a b RX RY (setf f 4) t60 t61 t62 t63 (.tuple #[.agg #[.int .i64 RX, .int .i64 RY], .int .i64 0]) t59 t65 t66 t10 t11 W :=
  ⟨h.below, fun e => h.h8 e, fun e => h.d9 e, fun e => h.h0 e, fun e => h.h1 e, fun e => h.h2 e, fun e => h.h3 e, fun _ => rfl, fun e => h.h5 e, fun e => h.h6 e, fun e => h.h7 e, fun e => h.h10 e⟩
theorem EJ.p5 (h : EJ W0 SL N a b RX RY f t60 t61 t62 t63 t64 t59 t65 t66 t10 t11 W) : EJ W0 SL N a b RX RY (setf f 5) t60 t61 t62 t63 t64 (.tuple #[.agg #[.int .i64 RX, .int .i64 RY], .int .i64 0]) t65 t66 t10 t11 W :=
  ⟨h.below, fun e => h.h8 e, fun e => h.d9 e, fun e => h.h0 e, fun e => h.h1 e, fun e => h.h2 e, fun e => h.h3 e, fun e => h.h4 e, fun _ => rfl, fun e => h.h6 e, fun e => h.h7 e, fun e => h.h10 e⟩
theorem EJ.p6 (h : EJ W0 SL N a b RX RY f t60 t61 t62 t63 t64 t59 t65 t66 t10 t11 W) : EJ W0 SL N a b RX RY (setf f 6) t60 t61 t62 t63 t64 t59 (.agg #[.int .i64 RX, .int .i64 RY]) t66 t10 t11 W :=
  ⟨h.below, fun e => h.h8 e, fun e => h.d9 e, fun e => h.h0 e, fun e => h.h1 e, fun e => h.h2 e, fun e => h.h3 e, fun e => h.h4 e, fun e => h.h5 e, fun _ => rfl, fun e => h.h7 e, fun e => h.h10 e⟩
theorem EJ.p7 (h : EJ W0 SL N a b RX RY f t60 t61 t62 t63 t64 t59 t65 t66 t10 t11 W) : EJ W0 SL N a b RX RY (setf f 7) t60 t61 t62 t63 t64 t59 t65 (.int .i64 0) t10 t11 W :=
  ⟨h.below, fun e => h.h8 e, fun e => h.d9 e, fun e => h.h0 e, fun e => h.h1 e, fun e => h.h2 e, fun e => h.h3 e, fun e => h.h4 e, fun e => h.h5 e, fun e => h.h6 e, fun _ => rfl, fun e => h.h10 e⟩
theorem EJ.p10 (h : EJ W0 SL N a b RX RY f t60 t61 t62 t63 t64 t59 t65 t66 t10 t11 W) : EJ W0 SL N a b RX RY (setf f 10) t60 t61 t62 t63 t64 t59 t65 t66 t10 (.int .i64 0) W :=
  ⟨h.below, fun e => h.h8 e, fun e => h.d9 e, fun e => h.h0 e, fun e => h.h1 e, fun e => h.h2 e, fun e => h.h3 e, fun e => h.h4 e, fun e => h.h5 e, fun e => h.h6 e, fun e => h.h7 e, fun _ => rfl⟩
theorem EJ.a8 (h : EJ W0 SL N a b RX RY f t60 t61 t62 t63 t64 t59 t65 t66 t10 t11 W) (hf : f 8 = false) (t : TypeId) : EJ W0 SL N a b RX RY (setf f 8) t60 t61 t62 t63 t64 t59 t65 t66 (.pointer (some ⟨W.heap.size, 0, none⟩)) t11 (W.alloc (.cells #[.int .i64 0, .int .i64 0] t)) := by
  have hb : Below W.heap.size W (W.alloc (.cells #[.int .i64 0, .int .i64 0] t)) := balloc (Below.refl _ _) _
  have h9 : ¬ f 9 = true := fun e => by have := h.d9 e; rw [hf] at this; cases this
  have k := h.world hb
  refine ⟨k.below, fun _ => ⟨W.heap.size, rfl, h.below.size, ?_⟩, fun _ => rfl, fun e => k.h0 e, fun e => k.h1 e, fun e => k.h2 e, fun e => k.h3 e, fun e => k.h4 e, fun e => k.h5 e, fun e => k.h6 e, fun e => k.h7 e, fun e => k.h10 e⟩
  show FqB _ _ (if f 9 then _ else 0) (if f 9 then _ else 0)
  rw [if_neg h9, if_neg h9]
  exact FqB.made W 0 0 t
theorem EJ.s9 (h : EJ W0 SL N a b RX RY f t60 t61 t62 t63 t64 t59 t65 t66 t10 t11 W) (g8 : f 8 = true) {B : Nat} {x y : Int} (e0 : t10 = .pointer (some ⟨B, 0, none⟩)) (hB : W0.heap.size ≤ B) (k0 : FqB W B x y) : EJ W0 SL N a b RX RY (setf f 9) t60 t61 t62 t63 t64 t59 t65 t66 t10 t11 ((W.setCell ⟨B, 0, none⟩ (.int .i64 RX)).setCell ⟨B, 1, none⟩ (.int .i64 RY)) :=
  ⟨(h.below.setCell (p := ⟨B, 0, none⟩) hB _).setCell (p := ⟨B, 1, none⟩) hB _, fun _ => ⟨B, e0, hB, k0.put RX RY⟩, fun _ => g8, fun e => h.h0 e, fun e => h.h1 e, fun e => h.h2 e, fun e => h.h3 e, fun e => h.h4 e, fun e => h.h5 e, fun e => h.h6 e, fun e => h.h7 e, fun e => h.h10 e⟩
end
section
variable (w : World)
end
end Go.Proofs.YtncbimbbkealmaaGreatDoor
namespace Go.Proofs.YtncbimbbkealmaaGreatDoor
open Go.RowKit Go.Shelf
set_option maxRecDepth 100000
end Go.Proofs.YtncbimbbkealmaaGreatDoor
