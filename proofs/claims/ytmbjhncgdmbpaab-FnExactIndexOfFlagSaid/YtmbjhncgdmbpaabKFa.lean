/-
  THE SET OF ALL FLAGS THAT ARE ALIKE A FLAG: the program's contract.
-/
import Derived.Test.YtmbjhncgdmbpaabKLeast
import Derived.Test.YtmbjhncgdmbpaabKTurnO
import Derived.Test.YtmbjhncgdmbpaabKSet
import Derived.Test.YtmbjhncgdmbpaabOrb
namespace Go.Proofs.Ytmbjhncgdmbpaab
open Go.RowKit Go.Shelf
set_option maxRecDepth 100000
attribute [local go_sem] Oper.semAt_some

section
variable (w : World)
set_option maxHeartbeats 4000000 in
theorem fa_any (k n e : Nat) (h : VK k n e) :
    Calls Try.prog 51 #[.agg #[.int .i64 k, .int .i64 n, .int .u32 e]] w fun r w' => (∃ B, r = .returned (.map (some B)) ∧ w.heap.size ≤ B ∧ FSet w' B k n (tE n k e)) ∧ Below w.heap.size w w' := by
  obtain ⟨he, hn5, hk3, hkn⟩ := h.nums
  refine (callsIn_wide (n := 5)).1 ?_
  refine callsIn_of_wp_marks Try.func51 rfl trivial ?_ rfl
  simp only [Try.ntmps51, List.size_toArray, List.length_cons, List.length_nil, Nat.reduceAdd, Nat.reduceSub, Array.replicate_succ, Array.replicate_zero, List.push_toArray, List.append_toArray, List.nil_append, List.cons_append]
  have hmm := @run_makeMap Try.prog
  have hS0 := FSet.made (w.alloc (.cells #[.int .i64 (k : Int), .int .i64 (n : Int), .int .u32 (e : Int)] 49)) k n (by omega) hn5
  replace hS0 := Lib.hid hS0
  gi_wp2_with (refine ⟨trivial, ?_⟩; gi_at_call 73; refine (callsIn_wide.2 (to_any _ k n e)).mono ?_; rintro r1 w1 ⟨B, rfl, hBge, hFB, hb1⟩)
  have s1 : ∀ (W : World) (o : Obj), (W.alloc o).heap.size = W.heap.size + 1 := fun W o => by simp
  have hB1 : Below w.heap.size w w1 := by (repeat (first | exact Below.refl _ _ | assumption | refine bchain (by assumption) ?_ | refine balloc ?_ _ | apply Below.drew | apply below_drewN | (refine Below.alloc ?_ (by (try simp) <;> omega) _) | (refine Below.setCell ?_ (by (try simp) <;> omega) _)))
  obtain ⟨G, hG⟩ : ∃ G, w.heap.size = G := ⟨_, rfl⟩
  have hS1 : FSet w1 (G + 1) k n [] := by
    have h1 := hS0.out
    rw [s1, hG] at h1
    have h2 := h1.below ((Below.refl _ _).alloc (Nat.le_refl _) (.cells #[.map (some (w.heap.size + 1))] 77))
    exact h2.below hb1
  have hc1 : w1.cell? ⟨G + 2, 0, none⟩ = some (.map (some (G + 1))) := by
    rw [hb1.cell (p := ⟨G + 2, 0, none⟩) (by show G + 2 < _; rw [s1, s1, s1]; omega), cNew _ _ _ _ _ (by rw [s1, s1]; omega), hG]
    rfl
  have hz1 : G + 3 ≤ w1.heap.size := by have := hb1.size; rw [s1, s1, s1] at this; omega
  rw [s1, s1, s1] at hBge
  rw [hG] at hB1 hBge ⊢
  have hBl := hFB.lt
  clear hb1 hS0 s1 hmm
  refine wpIn_range_own rfl (by omega) (gf := 86) (lb := #[.pointer (some ⟨B, 0, none⟩)]) rfl trivial (enters_of Try.func86 (by kernel_rfl) rfl)
    (turns_own k n e h 4 B w1 hBl) (Below.refl _ _) rfl (SeeK.below k n e) (SeeK.cellular k n e)
    (fun _ pre W => FSet W (G + 1) k n (pre.map (onL e)) ∧ FC W B k n e ∧ W.cell? ⟨G + 2, 0, none⟩ = some (.map (some (G + 1))) ∧ w1.heap.size ≤ W.heap.size ∧ Below G w W)
    (fun _ s A hs => hs.2.1)
    (fun Own ho s A A' hs hc => by
      obtain ⟨a1, a2, a3, a4, a5⟩ := hs
      have hne : ∀ b, b < w1.heap.size → A'.heap[b]? = A.heap[b]? := fun b hb => hc.same b (by omega) (fun c => by have := ho b c; omega)
      exact ⟨a1.of_block (hne _ (by omega)), a2.block hc.size (hne _ hBl), (World.cell?_of_block (a := ⟨G + 2, 0, none⟩) (hne (G + 2) (by omega))).trans a3, Nat.le_trans a4 hc.size,
        ⟨hc.os.trans a5.os, hc.tape.trans a5.tape, hc.output.trans a5.output, Nat.le_trans a5.size hc.size, fun q hq => (hne q (by omega)).trans (a5.block q hq)⟩⟩)
    (fun Own A ho hA => ⟨hS1.below hA, hFB.below hA, (hA.cell (p := ⟨G + 2, 0, none⟩) (by show G + 2 < _; omega)).trans hc1, hA.size, hB1.trans (hA.mono (by omega))⟩)
    (fun v a' W => ∃ Gb y : Nat, v = .agg #[.int .i64 k, .int .i64 n, .int .u32 y] ∧ FC W Gb k n y ∧ a' = { tmps := #[.agg #[.int .i64 k, .int .i64 n, .int .u32 e], .pointer (some ⟨G, 0, none⟩), .map none, .pointer (some ⟨G + 1 + 1, 0, none⟩), .pointer (some ⟨Gb, 0, none⟩), .map (some (G + 1)), .agg #[.int .i64 k, .int .i64 n, .int .u32 e], .func (.func 86) #[] #[.pointer (some ⟨B, 0, none⟩)], v, undef, undef, undef], defers := [] })
    (fun v a' A l o o' h hl ho => by obtain ⟨Gb, y, h1, h2, h3⟩ := h; exact ⟨Gb, y, h1, FC.cellular Gb k n y A l o o' h2 hl ho, h3⟩) ?assign ?body ?done
  case assign =>
    intro l x v W K hv hK
    obtain rfl : v = _ := hv
    gi_wp2
    exact hK _ _ ((Below.refl _ _).alloc (Nat.le_refl _) _) ⟨W.heap.size, onL e x, rfl, FC.made W k n _ _, rfl⟩
  case body =>
    rintro l Own pre x rest v a' W ho hL ⟨a1, a2, a3, a4, a5⟩ hS ⟨Gb, y, hv, hFG, rfl⟩
    have hx := turns_ok (n := n) (k := k) hn5 hk3 hkn (x := x) (by rw [hL]; simp)
    have hy : onL e x = y := by
      have hS' : v = _ := hS
      rw [hv] at hS'
      simp at hS'
      omega
    have hyl : y < 4294967296 := by
      have := onL_lt e x (by rw [ok_length hx]; exact hn5)
      omega
    have hS2 : FSet W (G + 1) k n (pre.map (onL e)) := a1
    have hmap : pre.map (onL e) ++ [y] = (pre ++ [x]).map (onL e) := by rw [← hy]; simp
    have hfin := Lib.hid (fun (w4 : World) (hS4 : FSet w4 (G + 1) k n (pre.map (onL e) ++ [y])) (hg4 : W.grownBy w4 (some (G + 1))) =>
      (show ownPost Own (fun pre W => FSet W (G + 1) k n (pre.map (onL e)) ∧ FC W B k n e ∧ W.cell? ⟨G + 2, 0, none⟩ = some (.map (some (G + 1))) ∧ w1.heap.size ≤ W.heap.size ∧ Below G w W) (pre ++ [x]) W .normal { tmps := #[], defers := [] } w4 from
        ⟨hg4.size, fun b hb => hg4.block b (ho b hb).2 (by intro c; injection c with c; have := (ho b hb).1; omega), by rw [← hmap]; exact hS4, a2.block hg4.size (hg4.block B a2.lt (by intro c; injection c with c; omega)),
          (World.cell?_of_block (a := ⟨G + 2, 0, none⟩) (hg4.block (G + 2) (by omega) (by intro c; injection c with c; omega))).trans a3, Nat.le_trans a4 hg4.size, a5.grown hg4 (by omega) (fun q hq => by injection hq with hq; omega)⟩))
    obtain ⟨S, hSd⟩ : ∃ S, pre.map (onL e) = S := ⟨_, rfl⟩
    rw [hSd] at hfin hS2
    replace hS2 := Lib.hid hS2
    obtain ⟨g0, g1, g2, g3⟩ := hFG
    clear a1 a2 a5 hS hv hL hmap hSd hy hx hS1 hFB hB1 hc1
    gi_wp2_with (gi_at_mapUpdate; refine wpListIn_flagStore rfl _ _ _ rfl (G + 1) k n S rfl hS2.out y rfl rfl hyl ?_; intro w4 hS4 hg4)
    exact hfin.out w4 hS4 hg4
  case done =>
    rintro D Own W hD ⟨a1, a2, a3, a4, a5⟩ hK hOD
    have hne : ∀ b, b < w1.heap.size → (W.putObj D (.deferred none)).heap[b]? = W.heap[b]? := fun b hb => World.putObj_heap_other (by omega)
    have hS5 := Lib.hid (a1.of_block (hne (G + 1) (by omega)))
    have hB5 := Lib.hid (a5.trans (below_putObj W D (.deferred none) (by omega)))
    clear a1 a2 a5 hS1 hFB hB1 hc1 hne
    gi_wp2
    refine ⟨by simp, .inl ⟨_, _, rfl, run_takeDeferred hK, ?_⟩⟩
    exact ⟨.map (some (G + 1)), by simp [results, Try.results51, go_sem], ⟨G + 1, rfl, by omega, hS5.out⟩, by rw [hG]; exact hB5.out⟩
end
end Go.Proofs.Ytmbjhncgdmbpaab
