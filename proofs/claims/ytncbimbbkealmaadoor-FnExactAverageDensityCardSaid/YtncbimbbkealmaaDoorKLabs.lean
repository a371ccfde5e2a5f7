/-
  THE LISTS OF LABELS OF A GRAPH, AS ARRAYS: what the program's iterator yields.
-/
import Derived.Test.YtncbimbbkealmaaDoorKListO
import Derived.Test.YtncbimbbkealmaaDoorKLab
namespace Go.Proofs.YtncbimbbkealmaaDoor
open Go.RowKit Go.Shelf
set_option maxRecDepth 100000
attribute [local go_sem] Oper.semAt_some

section
variable (w : World)
theorem labsO_any (n k : Int) :
    Calls Tryd.prog 86 #[.int .i64 n, .int .i64 k] w fun r w' => ∃ B, r = .returned (.func (.func 118) #[] #[.pointer (some ⟨B, 0, none⟩), .pointer (some ⟨B + 1, 0, none⟩)]) ∧ LoMade w w' B n k := by
  have s1 : ∀ (W : World) (o : Obj), (W.alloc o).heap.size = W.heap.size + 1 := fun W o => by simp
  replace s1 := Lib.hid s1
  go_enter Tryd.func86, Tryd.ntmps86
  go_wp2
  go_ret
  refine ⟨w.heap.size, rfl, by (repeat (first | exact Below.refl _ _ | assumption | refine bchain (by assumption) ?_ | refine balloc ?_ _ | apply Below.drew | apply below_drewN | (refine Below.alloc ?_ (by (try simp) <;> omega) _) | (refine Below.setCell ?_ (by (try simp) <;> omega) _))), Nat.le_refl _, by rw [s1.out, s1.out]; omega, ?_, ?_⟩
  · rw [cOld _ _ _ _ (by rw [s1.out]; omega), cNew _ _ _ _ _ rfl]; rfl
  · rw [cNew _ _ _ _ _ (by rw [s1.out])]; rfl
end
set_option maxHeartbeats 4000000 in
theorem labs_own (n k : Nat) (hn : n ≤ 5) (hk : k ≤ 3) (nn Bn Bk : Nat) (w : World) (hBn : Bn < w.heap.size) (hBk : Bk < w.heap.size) (gn : w.cell? ⟨Bn, 0, none⟩ = some (.int .i64 n)) (gk : w.cell? ⟨Bk, 0, none⟩ = some (.int .i64 k)) :
    SeqOwn Fence.wide nn Tryd.prog 118 #[.pointer (some ⟨Bn, 0, none⟩), .pointer (some ⟨Bk, 0, none⟩)] (fun _ => True) (fun x v _ => v = arr x) (lists n k) w := fun l J W hW hJ _ hY h0 => by
  have c1 : W.cell? ⟨Bn, 0, none⟩ = some (.int .i64 n) := (hW.cell (p := ⟨Bn, 0, none⟩) hBn).trans gn
  have c2 : W.cell? ⟨Bk, 0, none⟩ = some (.int .i64 k) := (hW.cell (p := ⟨Bk, 0, none⟩) hBk).trans gk
  have hz := hW.size
  obtain ⟨Y, hY0⟩ : ∃ Y, W.heap.size = Y := ⟨_, rfl⟩
  refine callsIn_wide.2 ((callsIn_wide (n := 5)).1 ?_)
  refine callsIn_of_wp_marks Tryd.func118 rfl trivial ?_ rfl
  simp only [Tryd.ntmps118, List.size_toArray, List.length_cons, List.length_nil, Nat.reduceAdd, Nat.reduceSub, Array.replicate_succ, Array.replicate_zero, List.push_toArray, List.append_toArray, List.nil_append, List.cons_append]
  have d1 := (cOld W (.cells #[.func (.yield l) #[] #[]] 141) Bn 0 (by omega)).trans c1
  have d2 := (cOld W (.cells #[.func (.yield l) #[] #[]] 141) Bk 0 (by omega)).trans c2
  have hYc0 : (W.alloc (.cells #[.func (.yield l) #[] #[]] 141)).cell? ⟨Y, 0, none⟩ = some (.func (.yield l) #[] #[]) := by rw [cNew _ _ _ _ _ hY0.symm]; rfl
  have hWY : Below W.heap.size W (W.alloc (.cells #[.func (.yield l) #[] #[]] 141)) := by (repeat (first | exact Below.refl _ _ | assumption | refine bchain (by assumption) ?_ | refine balloc ?_ _ | apply Below.drew | apply below_drewN | (refine Below.alloc ?_ (by (try simp) <;> omega) _) | (refine Below.setCell ?_ (by (try simp) <;> omega) _)))
  have hszY : (W.alloc (.cells #[.func (.yield l) #[] #[]] 141)).heap.size = Y + 1 := by simp [hY0]
  replace hJ := Lib.hid hJ
  replace hY := Lib.hid hY
  replace h0 := Lib.hid h0
  replace hYc0 := Lib.hid hYc0
  clear c1 c2 hW gn gk
  gi_wp2_with (refine ⟨trivial, ?_⟩; gi_at_call 119; refine (callsIn_wide.2 (lo_any _ n k)).mono ?_; rintro r3 w3 ⟨B, rfl, hM⟩)
  obtain ⟨hMb, hMge, hMlt, hMn, hMk⟩ := hM
  rw [hszY] at hMge hMb
  have hYc : w3.cell? ⟨Y, 0, none⟩ = some (.func (.yield l) #[] #[]) := (hMb.cell (p := ⟨Y, 0, none⟩) (by show Y < Y + 1; omega)).trans hYc0.out
  have hB3 : Below W.heap.size W w3 := hWY.trans (hMb.mono (by omega))
  have hog : ∀ Own : Nat → Prop, (∀ b, Own b → w3.heap.size ≤ b) → ∀ b, (Own b ∨ b = Y) → W.heap.size ≤ b := fun Own ho b hb => by
    rcases hb with hb | hb
    · have := ho b hb; omega
    · omega
  clear d1 d2 hYc0 hMb hWY hszY
  have hcl : ∀ A, Below w3.heap.size w3 A → A.cell? ⟨Y, 0, none⟩ = some (.func (.yield l) #[] #[]) ∧ Y < A.heap.size := fun A hA => ⟨(hA.cell (p := ⟨Y, 0, none⟩) (by show Y < _; omega)).trans hYc, by have := hA.size; omega⟩
  replace hcl := Lib.hid hcl
  replace hog := Lib.hid hog
  have hfol : Tryd.prog.follows .mixedOrders = true := by kernel_rfl
  refine wpIn_range_own rfl (by omega) (gf := 135) (lb := #[.pointer (some ⟨B, 0, none⟩), .pointer (some ⟨B + 1, 0, none⟩)]) rfl trivial (enters_of Tryd.func135 (by kernel_rfl) rfl)
    (lists_own n k hn (by omega) 4 B (B + 1) w3 (by omega) (by omega) hMn hMk) (Below.refl _ _) rfl See.below See.cellular
    (fun Own pre A => (∀ b, Own b → w3.heap.size ≤ b) ∧ J (fun b => Own b ∨ b = Y) pre A ∧ A.cell? ⟨Y, 0, none⟩ = some (.func (.yield l) #[] #[]) ∧ Y < A.heap.size)
    (fun _ _ _ _ => trivial)
    (fun Own ho s A A' hs hc => ⟨ho, hJ.out _ (hog.out Own ho) _ _ _ hs.2.1 (hc.mono (fun b hb => .inl hb)), (World.cell?_of_block (a := ⟨Y, 0, none⟩) (hc.same Y hs.2.2.2 (fun c => by have := ho _ c; omega))).trans hs.2.2.1, Nat.lt_of_lt_of_le hs.2.2.2 hc.size⟩)
    (fun Own A ho hA => ⟨ho, h0.out _ A (hog.out Own ho) (hB3.trans (hA.mono hB3.size)), hcl.out A hA⟩)
    (fun v a' _ => a' = { tmps := #[.func (.yield l) #[] #[], .pointer (some ⟨Bn, 0, none⟩), .pointer (some ⟨Bk, 0, none⟩), .pointer (some ⟨Y, 0, none⟩), v, .int .i64 n, .int .i64 k, .func (.func 135) #[] #[.pointer (some ⟨B, 0, none⟩), .pointer (some ⟨B + 1, 0, none⟩)], v, undef, undef, undef, undef, undef], defers := [] })
    (fun _ _ _ _ _ _ h _ _ => h) ?assign ?body ?done
  case assign =>
    intro l' x v A K hv hK
    gi_wp2
    exact hK _ _ (Below.refl _ _) rfl
  case body =>
    rintro l' Own pre x rest v a' A ho hL ⟨hoo, hj, hyc, hylt⟩ hS rfl
    have hx := lists_ok (n := n) (k := k) hn (by omega) (x := x) (by rw [hL]; simp)
    have hog2 := hog.out Own (fun b hb => (ho b hb).1)
    have hlab := Lib.hid (fun A' (hb : Below A.heap.size A A') => lab_any A' v x (See.below x v A A' hS hb) (by rw [ok_length hx]; exact hk))
    have hYl := Lib.hid (fun A' (hb : Below A.heap.size A A') => hY.out (fun b => Own b ∨ b = Y) pre x rest (arr x) A' (fun b hb2 => ⟨hog2 b hb2, by
      have := hb.size
      rcases hb2 with h | h
      · have := (ho b h).2; omega
      · omega⟩) hL (hJ.out _ hog2 _ _ _ hj (Chg.of_below hb)) rfl)
    have hfin := Lib.hid (fun (A1 A2 : World) (hb : Below A.heap.size A A1) (h1 : J (fun b => Own b ∨ b = Y) (pre ++ [x]) A2) (h2 : A1.heap.size ≤ A2.heap.size) (h3 : ∀ b, (Own b ∨ b = Y) → A2.heap[b]? = A1.heap[b]?) =>
      (show ownPost Own (fun pre A => (∀ b, Own b → w3.heap.size ≤ b) ∧ J (fun b => Own b ∨ b = Y) pre A ∧ A.cell? ⟨Y, 0, none⟩ = some (.func (.yield l) #[] #[]) ∧ Y < A.heap.size) (pre ++ [x]) A .normal { tmps := #[], defers := [] } A2 from
        ⟨Nat.le_trans hb.size h2, fun b hb2 => (h3 b (.inl hb2)).trans (hb.block b (ho b hb2).2), hoo, h1, (World.cell?_of_block (a := ⟨Y, 0, none⟩) (h3 Y (.inr rfl))).trans ((hb.cell (p := ⟨Y, 0, none⟩) hylt).trans hyc), by have := hb.size; omega⟩))
    clear hj hx hL
    gi_wp2
    gi_region_with_o (first
      | (refine ⟨trivial, ?_⟩; gi_at_call 120; refine (CallsIn.inRound l' (callsIn_wide.2 (hlab.out _ (by (repeat (first | exact Below.refl _ _ | assumption | refine bchain (by assumption) ?_ | refine balloc ?_ _ | apply Below.drew | apply below_drewN | (refine Below.alloc ?_ (by (try simp) <;> omega) _) | (refine Below.setCell ?_ (by (try simp) <;> omega) _))))))).mono ?_; rintro r4 w4 ⟨rfl, hb4⟩; have hyc4 := (hb4.cell (p := ⟨Y, 0, none⟩) (by first | exact hylt | simpa using hylt)).trans hyc; obtain ⟨fn, tmps, assign, body, hy4, hR⟩ := anyDepth (m' := 2) (hYl.out w4 (by (repeat (first | exact Below.refl _ _ | assumption | refine bchain (by assumption) ?_ | refine balloc ?_ _ | apply Below.drew | apply below_drewN | (refine Below.alloc ?_ (by (try simp) <;> omega) _) | (refine Below.setCell ?_ (by (try simp) <;> omega) _))))))
      | (refine RoundIn.mono (F := Fence.wide.inRound l') hR ?_; rintro e5 w5 ⟨rfl, hj5, hz5, hu5⟩))
    all_goals gi_wp2
    all_goals exact hfin.out _ _ (by (repeat (first | exact Below.refl _ _ | assumption | refine bchain (by assumption) ?_ | refine balloc ?_ _ | apply Below.drew | apply below_drewN | (refine Below.alloc ?_ (by (try simp) <;> omega) _) | (refine Below.setCell ?_ (by (try simp) <;> omega) _)))) hj5 hz5 hu5
  case done =>
    rintro D Own A hD ⟨hoo, hj, _, _⟩ hK hOD
    have hog2 := hog.out Own hoo
    have hj2 := Lib.hid (hJ.out _ hog2 _ _ _ hj (Chg.putObj A D (.deferred none) (.inl hOD)))
    clear hj
    gi_wp2
    refine ⟨by simp, .inl ⟨_, _, rfl, run_takeDeferred hK, ?_⟩⟩
    exact ⟨.tuple #[], by simp [results, Tryd.results118, go_sem], ⟨_, rfl⟩, _, hog2, hj2.out⟩
end Go.Proofs.YtncbimbbkealmaaDoor
