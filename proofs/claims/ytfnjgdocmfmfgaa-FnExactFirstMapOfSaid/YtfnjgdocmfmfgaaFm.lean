/-
  firstMap: the program's first map: contract.
-/
import Derived.Test.YtfnjgdocmfmfgaaF1
import Derived.Test.YtfnjgdocmfmfgaaCn
import Derived.Test.YtfnjgdocmfmfgaaWn
namespace Go.Proofs.Ytfnjgdocmfmfgaa
open Go.RowKit Go.Shelf
set_option maxRecDepth 100000
attribute [local go_sem] Oper.semAt_some
theorem split_place {N n : Nat} {pre rest : List (List Nat)} {x : List Nat} (h : allM N n = pre ++ x :: rest) : pre.length < N ^ n ∧ x = dg N n pre.length ∧ ∀ j, j < pre.length → dg N n j ∈ pre := by
  have hl : (allM N n).length = N ^ n := by simp [allM]
  have hlt : pre.length < N ^ n := by rw [← hl, h]; simp
  have hget : ∀ j, j < N ^ n → (allM N n)[j]? = some (dg N n j) := fun j hj => by simp [allM, hj]
  refine ⟨hlt, ?_, fun j hj => ?_⟩
  · have := hget _ hlt
    rw [h] at this
    simpa using this
  · have := hget j (by omega)
    rw [h, List.getElem?_append_left hj] at this
    exact List.mem_of_getElem? this
theorem mdE_lt (e lo : Nat) (x : List Nat) (hx : x.length ≤ 5) : mdE e lo x < 1024 := by
  obtain ⟨xs, h⟩ := vals_of ((prs x.length).filter fun p => pjn e lo (xn x p.1) (xn x p.2)) (fun p hp => by
    have := mem_prs _ p (List.mem_filter.1 hp).1
    omega)
  unfold mdE
  rw [← h]
  exact foldE_lt (by omega) xs
theorem OwnI.base {w0 w1 w : World} {v : Value} {l : Nat} {f : Nat → Int} (h : OwnI w1 w v l f) (hz : w0.heap.size ≤ w1.heap.size) : OwnI w0 w v l f := by
  obtain ⟨a, cap, e, h1, h2, h3⟩ := h
  refine ⟨a, cap, e, h1, h2, fun hp => ?_⟩
  obtain ⟨B, e2, h4, h5⟩ := h3 hp
  exact ⟨B, e2, by omega, h5⟩
/-- firstMap's boxes: the pattern, the graph, the two results, the web -/
structure FB (W : World) (G Wb : Nat) (N e lo n m : Int) (u iw r4 r5 : Value) : Prop where
  l1 : G + 3 < Wb
  l2 : Wb < W.heap.size
  p0 : W.cell? ⟨G, 0, none⟩ = some (.int .i64 N)
  p1 : W.cell? ⟨G, 1, none⟩ = some (.int .u32 e)
  p2 : W.cell? ⟨G, 2, none⟩ = some (.int .u32 lo)
  p3 : W.cell? ⟨G, 3, none⟩ = some u
  h0 : W.cell? ⟨G + 1, 0, none⟩ = some (.int .i64 n)
  h1 : W.cell? ⟨G + 1, 1, none⟩ = some (.int .u32 m)
  c4 : W.cell? ⟨G + 2, 0, none⟩ = some r4
  c5 : W.cell? ⟨G + 3, 0, none⟩ = some r5
  f4 : W.frozen? ⟨G + 2, 0, none⟩ = false
  f5 : W.frozen? ⟨G + 3, 0, none⟩ = false
  cw : W.cell? ⟨Wb, 0, none⟩ = some iw
section
variable {W W' : World} {G Wb B : Nat} {N e lo n m : Int} {u iw r4 r5 : Value}
theorem FB.under (h : FB W G Wb N e lo n m u iw r4 r5) (hb : Below B W W') (hB : Wb < B) : FB W' G Wb N e lo n m u iw r4 r5 := by
  have h1 := h.l1
  exact ⟨h1, Nat.lt_of_lt_of_le h.l2 hb.size, (hb.cell (p := ⟨G, 0, none⟩) (show G < B by omega)).trans h.p0, (hb.cell (p := ⟨G, 1, none⟩) (show G < B by omega)).trans h.p1, (hb.cell (p := ⟨G, 2, none⟩) (show G < B by omega)).trans h.p2, (hb.cell (p := ⟨G, 3, none⟩) (show G < B by omega)).trans h.p3,
    (hb.cell (p := ⟨G + 1, 0, none⟩) (show G + 1 < B by omega)).trans h.h0, (hb.cell (p := ⟨G + 1, 1, none⟩) (show G + 1 < B by omega)).trans h.h1, (hb.cell (p := ⟨G + 2, 0, none⟩) (show G + 2 < B by omega)).trans h.c4, (hb.cell (p := ⟨G + 3, 0, none⟩) (show G + 3 < B by omega)).trans h.c5,
    (hb.frozen (p := ⟨G + 2, 0, none⟩) (show G + 2 < B by omega)).trans h.f4, (hb.frozen (p := ⟨G + 3, 0, none⟩) (show G + 3 < B by omega)).trans h.f5, (hb.cell (p := ⟨Wb, 0, none⟩) hB).trans h.cw⟩
theorem FB.below (h : FB W G Wb N e lo n m u iw r4 r5) (hb : Below W.heap.size W W') : FB W' G Wb N e lo n m u iw r4 r5 := h.under hb h.l2
theorem FB.put (h : FB W G Wb N e lo n m u iw r4 r5) (v4 v5 : Value) : FB ((W.setCell ⟨G + 2, 0, none⟩ v4).setCell ⟨G + 3, 0, none⟩ v5) G Wb N e lo n m u iw v4 v5 := by
  have h1 := h.l1
  have o : ∀ (g k : Nat) (v : Value), g ≠ G + 2 → g ≠ G + 3 → W.cell? ⟨g, k, none⟩ = some v → ((W.setCell ⟨G + 2, 0, none⟩ v4).setCell ⟨G + 3, 0, none⟩ v5).cell? ⟨g, k, none⟩ = some v := fun g k v a b c => by
    rw [World.cell?_setCell_other _ _ _ _ (by simp <;> omega), World.cell?_setCell_other _ _ _ _ (by simp <;> omega)]
    exact c
  refine ⟨h1, by simpa using h.l2, o _ _ _ (by omega) (by omega) h.p0, o _ _ _ (by omega) (by omega) h.p1, o _ _ _ (by omega) (by omega) h.p2, o _ _ _ (by omega) (by omega) h.p3, o _ _ _ (by omega) (by omega) h.h0, o _ _ _ (by omega) (by omega) h.h1, ?_, ?_, by simp [h.f4], by simp [h.f5], o _ _ _ (by omega) (by omega) h.cw⟩
  · rw [World.cell?_setCell_other _ _ _ _ (by simp)]
    exact World.cell?_setCell_same _ _ _ h.c4
  · exact World.cell?_setCell_same _ _ _ ((World.cell?_setCell_other _ _ _ _ (by simp)).trans h.c5)
theorem FB.turn (h : FB W G Wb N e lo n m u iw r4 r5) (l : Nat) (o o' : Obj) (hl : W.heap[l]? = some o) (ho : o.isCells = false) : FB (W.putObj l o') G Wb N e lo n m u iw r4 r5 := by
  have c : ∀ a v, W.cell? a = some v → (W.putObj l o').cell? a = some v := fun a v h => cell_kept h (grownBy_putObj' W l o') (fun r e => by cases e; exact ⟨o, hl, ho⟩)
  have f : ∀ a v, W.cell? a = some v → W.frozen? a = false → (W.putObj l o').frozen? a = false := fun a v h h2 => (frozen_kept h (grownBy_putObj' W l o') (fun r e => by cases e; exact ⟨o, hl, ho⟩)).trans h2
  exact ⟨h.l1, by simpa [World.putObj] using h.l2, c _ _ h.p0, c _ _ h.p1, c _ _ h.p2, c _ _ h.p3, c _ _ h.h0, c _ _ h.h1, c _ _ h.c4, c _ _ h.c5, f _ _ h.c4 h.f4, f _ _ h.c5 h.f5, c _ _ h.cw⟩
theorem OwnI.turn {w : World} {v : Value} {k : Nat} {f : Nat → Int} (h : OwnI w W v k f) (l : Nat) (o o' : Obj) (hl : W.heap[l]? = some o) (ho : o.isCells = false) : OwnI w (W.putObj l o') v k f := by
  obtain ⟨a, cap, e, h1, h2, h3⟩ := h
  refine ⟨a, cap, e, h1, h2, fun hz => ?_⟩
  obtain ⟨B, e2, h4, h5, h6, h7⟩ := h3 hz
  exact ⟨B, e2, h4, by simpa [World.putObj] using h5, fun i hi => cell_kept (h6 i hi) (grownBy_putObj' W l o') (fun r e => by cases e; exact ⟨o, hl, ho⟩),
    fun i hi => (frozen_kept (h6 i hi) (grownBy_putObj' W l o') (fun r e => by cases e; exact ⟨o, hl, ho⟩)).trans (h7 i hi)⟩
end
section
variable (w : World)
set_option maxHeartbeats 4000000 in
theorem ifirst_any (n m N e lo : Nat) (hN1 : 1 ≤ N) (hN4 : N ≤ 4) (hn5 : n ≤ 5) (hm : m < eMax n) (he : e < 4294967296) (hlo : lo < 4294967296) (b off cap : Nat)
    (gs : List (Int × Int)) (hA : AllW gs) (hgl : gs.length = N) (hb : b < w.heap.size) (hg : ∀ i, i < N → Fr.GCell w b off (Fr.gAt gs i) i) (o : Option Nat) (hO : FirstO N n (OkM n m e lo gs) o) :
    Calls Try.prog 77 #[.agg #[.int .i64 N, .int .u32 e, .int .u32 lo, .slice (some ⟨b, off, none⟩) N cap], .agg #[.int .i64 n, .int .u32 m]] w (FirstR w N n o) := by
  have hm10 : m < 1024 := by have := eMax_le n; omega
  unfold FirstR
  obtain ⟨wT, wV, hwv, hmt, hna⟩ : ∃ T v, webV N e lo = .iface T v ∧ (∀ W : World, (method 273 T v "loop.example/g01169/impl.parts").run Try.prog W = .ok (161, .agg #[.int .i64 N, .int .u32 e]) W) ∧ (∀ W : World, (nilAhead 273 T v "loop.example/g01169/impl.parts").run Try.prog W = .ok (some false) W) := by
    unfold webV
    split
    · exact ⟨_, _, rfl, fun _ => by kernel_rfl, fun _ => by kernel_rfl⟩
    · exact ⟨_, _, rfl, fun _ => by kernel_rfl, fun _ => by kernel_rfl⟩
  have hwo := Lib.hid (fun W => wo_any W N e lo)
  rw [hwv] at hwo
  obtain ⟨G, hG⟩ : ∃ G, w.heap.size = G := ⟨_, rfl⟩
  obtain ⟨W0, hW0⟩ : ∃ W0, W0 = (((w.alloc (.cells #[.int .i64 N, .int .u32 e, .int .u32 lo, .slice (some ⟨b, off, none⟩) N cap] 33)).alloc (.cells #[.int .i64 n, .int .u32 m] 30)).alloc (.cells #[.slice none 0 0] 46)).alloc (.cells #[.bool false] 4) := ⟨_, rfl⟩
  have hB0 : Below w.heap.size w W0 := by rw [hW0]; (repeat (first | exact Below.refl _ _ | assumption | refine bchain (by assumption) ?_ | refine balloc ?_ _ | apply Below.drew | apply below_drewN | (refine Below.alloc ?_ (by (try simp) <;> omega) _) | (refine Below.setCell ?_ (by (try simp) <;> omega) _)))
  have hs0 : W0.heap.size = G + 4 := by rw [hW0, ← hG]; simp
  replace hW0 := Lib.hid hW0
  replace hO := Lib.hid hO
  replace hg := Lib.hid hg
  replace hA := Lib.hid hA
  refine (callsIn_wide (n := 5)).1 ?_
  refine callsIn_of_wp_marks Try.func77 rfl trivial ?_ rfl
  simp only [Try.ntmps77, List.size_toArray, List.length_cons, List.length_nil, Nat.reduceAdd, Nat.reduceSub, Array.replicate_succ, Array.replicate_zero, List.push_toArray, List.append_toArray, List.nil_append, List.cons_append]
  refine wpIn_seq ?_
  gi_wp2_with fail
  refine wpIn_scope_straight ?_
  gi_wp2_with fail
  rw [← hW0.out]
  refine ⟨trivial, ?_⟩
  refine (callsIn_wide.2 (hwo.out _)).mono ?_
  rintro r1 w1 ⟨rfl, hb1⟩
  obtain ⟨Wb, hWb⟩ : ∃ Wb, w1.heap.size = Wb := ⟨_, rfl⟩
  obtain ⟨W2, hW2⟩ : ∃ W2, W2 = w1.alloc (.cells #[.iface wT wV] 92) := ⟨_, rfl⟩
  have hB2 : Below G w W2 := by rw [hW2, ← hG]; exact balloc (bchain hb1 hB0) _
  have hF2 : FB W2 G Wb N e lo n m (.slice (some ⟨b, off, none⟩) N cap) (.iface wT wV) (.slice none 0 0) (.bool false) := by
    have hsz := hb1.size
    have hbA : Below W0.heap.size W0 W2 := by rw [hW2]; exact balloc hb1 _
    have hE := hW0.out
    have cA : ∀ g k v, g < G + 4 → W0.cell? ⟨g, k, none⟩ = some v → W2.cell? ⟨g, k, none⟩ = some v := fun g k v hg h => (hbA.cell (p := ⟨g, k, none⟩) (show g < W0.heap.size by omega)).trans h
    have fA : ∀ g k, g < G + 4 → W0.frozen? ⟨g, k, none⟩ = false → W2.frozen? ⟨g, k, none⟩ = false := fun g k hg h => (hbA.frozen (p := ⟨g, k, none⟩) (show g < W0.heap.size by omega)).trans h
    refine ⟨by omega, by rw [hW2]; simp; omega, cA _ _ _ (by omega) ?_, cA _ _ _ (by omega) ?_, cA _ _ _ (by omega) ?_, cA _ _ _ (by omega) ?_, cA _ _ _ (by omega) ?_, cA _ _ _ (by omega) ?_, cA _ _ _ (by omega) ?_, cA _ _ _ (by omega) ?_, fA _ _ (by omega) ?_, fA _ _ (by omega) ?_, ?_⟩
    · rw [hE, cOld _ _ _ _ (by simp <;> omega), cOld _ _ _ _ (by simp <;> omega), cOld _ _ _ _ (by simp <;> omega), cNew _ _ _ _ _ hG.symm]; rfl
    · rw [hE, cOld _ _ _ _ (by simp <;> omega), cOld _ _ _ _ (by simp <;> omega), cOld _ _ _ _ (by simp <;> omega), cNew _ _ _ _ _ hG.symm]; rfl
    · rw [hE, cOld _ _ _ _ (by simp <;> omega), cOld _ _ _ _ (by simp <;> omega), cOld _ _ _ _ (by simp <;> omega), cNew _ _ _ _ _ hG.symm]; rfl
    · rw [hE, cOld _ _ _ _ (by simp <;> omega), cOld _ _ _ _ (by simp <;> omega), cOld _ _ _ _ (by simp <;> omega), cNew _ _ _ _ _ hG.symm]; rfl
    · rw [hE, cOld _ _ _ _ (by simp <;> omega), cOld _ _ _ _ (by simp <;> omega), cNew _ _ _ _ _ (by simp <;> omega)]; rfl
    · rw [hE, cOld _ _ _ _ (by simp <;> omega), cOld _ _ _ _ (by simp <;> omega), cNew _ _ _ _ _ (by simp <;> omega)]; rfl
    · rw [hE, cOld _ _ _ _ (by simp <;> omega), cNew _ _ _ _ _ (by simp <;> omega)]; rfl
    · rw [hE, cNew _ _ _ _ _ (by simp <;> omega)]; rfl
    · rw [hE, fOld _ _ _ _ (by simp <;> omega), fNew _ _ _ _ _ (by simp <;> omega)]
    · rw [hE, fNew _ _ _ _ _ (by simp <;> omega)]
    · rw [hW2, cNew _ _ _ _ _ hWb.symm]; rfl
  replace hW2 := Lib.hid hW2
  gi_wp2_with fail
  rw [← hW2.out]
  refine wpIn_label ?_
  gi_step
  gi_step
  refine wpIn_seq ?_
  refine wpIn_seq ?_
  refine wpIn_mono (Q := Exit.then (fun a' w' => ∃ B, FB w' G Wb N e lo n m (.slice (some ⟨b, off, none⟩) N cap) (.iface wT wV) (.slice none 0 0) (.bool false) ∧ Below G w w' ∧ Wb < B ∧ B + 1 < w'.heap.size ∧ CInv B (B + 1) n N w' ∧ a' = { tmps := #[.agg #[.int .i64 N, .int .u32 e, .int .u32 lo, .slice (some ⟨b, off, none⟩) N cap], .agg #[.int .i64 n, .int .u32 m], .pointer (some ⟨G, 0, none⟩), .pointer (some ⟨G + 1, 0, none⟩), .pointer (some ⟨G + 1 + 1, 0, none⟩), .pointer (some ⟨G + 1 + 1 + 1, 0, none⟩), .pointer (some ⟨Wb, 0, none⟩), undef, undef, undef, .pointer (some ⟨G, 0, none⟩), .agg #[.int .i64 N, .int .u32 e], .pointer (some ⟨G, 2, none⟩), .int .u32 lo, .iface wT wV, .pointer (some ⟨G + 1, 0, none⟩), .int .i64 n, .iface wT wV, .int .i64 N, .func (.func 124) #[] #[.pointer (some ⟨B, 0, none⟩), .pointer (some ⟨B + 1, 0, none⟩)], undef, undef, undef, undef, undef, undef, undef, undef, undef, undef, undef, undef, undef, undef, undef, undef, undef, undef, undef, undef, undef, undef, undef, undef, undef], defers := [] }) (fun _ _ _ => False)) ?reg ?rest
  case reg =>
    have hF2h := Lib.hid hF2
    obtain ⟨_, _, _, _, _, _, g0, _, _, _, _, _, gw⟩ := hF2
    gi_wp2
    gi_region_with (first
      | (refine ⟨trivial, ?_⟩; gi_at_call 161; refine (callsIn_wide.2 (wpt_any _ N e)).mono ?_; rintro r3 w3 ⟨rfl, hb3⟩; have hx3 : Below W2.heap.size W2 w3 := (by (repeat (first | exact Below.refl _ _ | assumption | refine bchain (by assumption) ?_ | refine balloc ?_ _ | apply Below.drew | apply below_drewN | (refine Below.alloc ?_ (by (try simp) <;> omega) _) | (refine Below.setCell ?_ (by (try simp) <;> omega) _)))); have g3 := (hF2h.out.below hx3).h0; have g4 := (hF2h.out.below hx3).cw)
      | (refine ⟨trivial, ?_⟩; gi_at_call 104; refine (callsIn_wide.2 (co_any _ n N)).mono ?_; rintro r4 w4 ⟨B, rfl, hM⟩))
    all_goals
      have hbM := hM.below
      have hge := hM.ge
      have hx4 : Below W2.heap.size W2 w4 := by (repeat (first | exact Below.refl _ _ | assumption | refine bchain (by assumption) ?_ | refine balloc ?_ _ | apply Below.drew | apply below_drewN | (refine Below.alloc ?_ (by (try simp) <;> omega) _) | (refine Below.setCell ?_ (by (try simp) <;> omega) _)))
      have hs3 := hx3.size
      refine ⟨B, hF2h.out.below hx4, hB2.trans (hx4.mono (by have := hB2.size; omega)), ?_, hM.lt, ⟨hM.gn, hM.gb⟩, rfl⟩
      have := hF2h.out.l2
      try simp at hge
      omega
  case rest =>
    rintro ex a' w4 hQ
    cases ex with
    | exit id => exact hQ.elim
    | goto l => exact hQ.elim
    | ret => exact hQ.elim
    | panic ch => exact hQ.elim
    | outgrown => exact hQ.elim
    | normal =>
    obtain ⟨B, hF, hBw, hWB, hBl, hCI, rfl⟩ := hQ
    gi_wp2
    refine wpIn_range_seesC rfl (by omega) (gf := 124) (lb := #[.pointer (some ⟨B, 0, none⟩), .pointer (some ⟨B + 1, 0, none⟩)]) rfl trivial (enters_of Try.func124 (by kernel_rfl) rfl)
      (counts_sees n N hN1 hN4 hn5 4 B (B + 1) w4 hBl) (Below.refl _ _) rfl SeeN.below SeeN.cellular
      (fun pre W => FB W G Wb N e lo n m (.slice (some ⟨b, off, none⟩) N cap) (.iface wT wV) (.slice none 0 0) (.bool false) ∧ CInv B (B + 1) n N W ∧ Below G w W ∧ Hid (∀ y ∈ pre, ¬ OkM n m e lo gs y))
      (fun c _ W => c = .ret ∧ ∃ v, FB W G Wb N e lo n m (.slice (some ⟨b, off, none⟩) N cap) (.iface wT wV) v (.bool true) ∧ Below G w W ∧ ∃ k, o = some k ∧ OwnI w W v n fun i => ((xn (dg N n k) i : Nat) : Int))
      (fun s A hs => hs.2.1)
      (fun s A A' hs hb => ⟨hs.1.under hb (by omega), ⟨(hb.cell (p := ⟨B, 0, none⟩) (show B < _ by omega)).trans hs.2.1.1, (hb.cell (p := ⟨B + 1, 0, none⟩) (show B + 1 < _ by omega)).trans hs.2.1.2⟩, hs.2.2.1.trans (hb.mono (by have := hF.l1; omega)), hs.2.2.2⟩)
      (fun c s A l q q' hl hs h1 h2 => by
        obtain ⟨hc, v, hf, hb, k, hk, ho⟩ := hs
        exact ⟨hc, v, hf.turn l q q' h1 h2, hb.trans (below_putObj _ _ _ (by have := hF.l1; omega)), k, hk, ho.turn l q q' h1 h2⟩)
      ⟨hF, hCI, hBw, fun y hy => by cases hy⟩
      (fun v a' _ => a' = { tmps := #[.agg #[.int .i64 N, .int .u32 e, .int .u32 lo, .slice (some ⟨b, off, none⟩) N cap], .agg #[.int .i64 n, .int .u32 m], .pointer (some ⟨G, 0, none⟩), .pointer (some ⟨G + 1, 0, none⟩), .pointer (some ⟨G + 1 + 1, 0, none⟩), .pointer (some ⟨G + 1 + 1 + 1, 0, none⟩), .pointer (some ⟨Wb, 0, none⟩), v, undef, undef, .pointer (some ⟨G, 0, none⟩), .agg #[.int .i64 N, .int .u32 e], .pointer (some ⟨G, 2, none⟩), .int .u32 lo, .iface wT wV, .pointer (some ⟨G + 1, 0, none⟩), .int .i64 n, .iface wT wV, .int .i64 N, .func (.func 124) #[] #[.pointer (some ⟨B, 0, none⟩), .pointer (some ⟨B + 1, 0, none⟩)], v, undef, undef, undef, undef, undef, undef, undef, undef, undef, undef, undef, undef, undef, undef, undef, undef, undef, undef, undef, undef, undef, undef, undef, undef], defers := [] }) (fun _ _ _ _ _ _ h _ _ => h) ?assign ?body ?done ?stop
    case assign =>
      intro l x v W K hS hK
      gi_wp2
      exact hK _ _ (Below.refl _ _) rfl
    case body =>
      rintro l pre x rest v a' W hl _ hL ⟨hF, hC, hB, hno⟩ hS rfl
      obtain ⟨hk, hx, hpre⟩ := split_place hL
      obtain ⟨k, hkk⟩ : ∃ k, pre.length = k := ⟨_, rfl⟩
      rw [hkk] at hk hx hpre
      have hxl : x.length = n := by rw [hx]; exact dg_length _ _ _
      have hxb : Hid (∀ i, i < n → xn x i < N) := by rw [hx]; exact fun i hi => dg_lt N hN1 n k i hi
      have hno2 : ∀ j, j < k → ¬ OkM n m e lo gs (dg N n j) := fun j hj => hno.out _ (hpre j hj)
      have hWz := hB.size
      have hfin : ¬ OkM n m e lo gs x → ∀ W', Below W.heap.size W W' → Upper w4.heap.size W W' ∧ (FB W' G Wb N e lo n m (.slice (some ⟨b, off, none⟩) N cap) (.iface wT wV) (.slice none 0 0) (.bool false) ∧ CInv B (B + 1) n N W' ∧ Below G w W' ∧ Hid (∀ y ∈ pre ++ [x], ¬ OkM n m e lo gs y)) := fun h W' hb' => by
        refine ⟨Upper.of_below hb', hF.below hb', ⟨?_, ?_⟩, hB.trans (hb'.mono (by omega)), ?_⟩
        · exact (hb'.cell (p := ⟨B, 0, none⟩) (World.block_lt_of_cell? W _ hC.1)).trans hC.1
        · exact (hb'.cell (p := ⟨B + 1, 0, none⟩) (World.block_lt_of_cell? W _ hC.2)).trans hC.2
        · intro y hy
          rcases List.mem_append.1 hy with c | c
          · exact hno.out y c
          · rw [List.mem_singleton.1 c]
            exact h
      have hfok : OkM n m e lo gs x → ∀ W' u, Below W.heap.size W W' → OwnI W W' u n (fun i => ((xn x i : Nat) : Int)) → Upper w4.heap.size W ((W'.setCell ⟨G + 2, 0, none⟩ u).setCell ⟨G + 3, 0, none⟩ (.bool true)) ∧
          (∃ v, FB ((W'.setCell ⟨G + 2, 0, none⟩ u).setCell ⟨G + 3, 0, none⟩ (.bool true)) G Wb N e lo n m (.slice (some ⟨b, off, none⟩) N cap) (.iface wT wV) v (.bool true) ∧ Below G w ((W'.setCell ⟨G + 2, 0, none⟩ u).setCell ⟨G + 3, 0, none⟩ (.bool true)) ∧ ∃ k, o = some k ∧ OwnI w ((W'.setCell ⟨G + 2, 0, none⟩ u).setCell ⟨G + 3, 0, none⟩ (.bool true)) v n fun i => ((xn (dg N n k) i : Nat) : Int)) := fun h W' u hb' ho => by
        have q1 := hF.l1
        have q2 := hF.l2
        refine ⟨((Upper.of_below hb').trans (Upper.setCell _ _ _ (by show G + 2 < _; omega))).trans (Upper.setCell _ _ _ (by show G + 3 < _; omega)), u, (hF.below hb').put _ _, ((hB.trans (hb'.mono (by omega))).setCell (p := ⟨G + 2, 0, none⟩) (by show G ≤ G + 2; omega) _).setCell (p := ⟨G + 3, 0, none⟩) (by show G ≤ G + 3; omega) _, k, hO.out.is hk (by rw [← hx]; exact h) hno2, ?_⟩
        rw [← hx]
        obtain ⟨a, cp, e0, e1, e2, e3⟩ := ho
        refine ⟨a, cp, e0, e1, e2, fun hz => ?_⟩
        obtain ⟨g, f0, f1, f2, f3, f4⟩ := e3 hz
        refine ⟨g, f0, by omega, by simpa using f2, fun i hi => ?_, fun i hi => by simp [f4 i hi]⟩
        rw [World.cell?_setCell_other _ _ _ _ (by simp <;> omega), World.cell?_setCell_other _ _ _ _ (by simp <;> omega)]
        exact f3 i hi
      have hgw : ∀ W', Below G w W' → ∀ a, a < N → Fr.GCell W' b off (Fr.gAt gs a) a := fun W' h a ha => ⟨(h.cell (p := ⟨b, _, none⟩) (show b < G by omega)).trans (hg.out a ha).1, (h.cell (p := ⟨b, _, none⟩) (show b < G by omega)).trans (hg.out a ha).2⟩
      have hBW := Lib.hid (fun W' (h : Below W.heap.size W W') => hB.trans (h.mono (show G ≤ W.heap.size by omega)))
      replace hgw := Lib.hid hgw
      replace hfin := Lib.hid hfin
      replace hfok := Lib.hid hfok
      have hSx := Lib.hid hS
      obtain ⟨Bx, rfl, hBx, hcx⟩ := hS
      rw [hxl] at hSx hcx ⊢
      have hFx := Lib.hid hF
      replace hcx := Lib.hid hcx
      clear hL hx hpre hno2 hF hC hB hno hkk hk
      gi_wp2
      gi_loopw [9, 23] (fun _ i wr => ∃ q : Nat, q ≤ n ∧ i = .int .i64 q ∧ Hid (∀ j, j < q → 0 < (Fr.gAt gs (xn x j)).1) ∧ Below W.heap.size W wr) (fun _ i _ => n - (intOf i).toNat)
      case atStart => exact ⟨0, by omega, rfl, (fun j hj => by omega), Below.refl _ _⟩
      case round =>
        obtain ⟨q, hq, rfl, hpos, hb2⟩ := hrel
        have hFq := Lib.hid (hFx.out.below hb2)
        by_cases hlq : q < n
        · have hlq2 : (q : Int) < (n : Int) := by omega
          have hq0 : (0 : Int) ≤ (q : Int) := by omega
          have hc := (hb2.cell (p := ⟨Bx, q, none⟩) hBx).trans (hcx.out q hlq)
          have ha := hxb.out q hlq
          have hv := hA.out (xn x q) (by rw [hgl]; exact ha)
          obtain ⟨s0, s1⟩ := hgw.out wr (hBW.out _ hb2) (xn x q) ha
          have hstep : 0 < (Fr.gAt gs (xn x q)).1 → Hid (∀ j, j < q + 1 → 0 < (Fr.gAt gs (xn x j)).1) := fun h j hj => by
            by_cases c : j = q
            · rw [c]; exact h
            · exact hpos.out j (by omega)
          have hbad : ¬ 0 < (Fr.gAt gs (xn x q)).1 → ¬ OkM n m e lo gs x := fun h h2 => h (h2.1 q hlq)
          obtain ⟨a, hxa⟩ : ∃ a, xn x q = a := ⟨_, rfl⟩
          rw [hxa] at hc ha hv s0 s1 hstep hbad
          obtain ⟨y, z, hyz⟩ : ∃ y z, Fr.gAt gs a = (y, z) := ⟨_, _, rfl⟩
          rw [hyz] at hv s0 s1 hstep hbad
          dsimp only at s0 s1 hstep hbad
          have ha0 : (0 : Int) ≤ (a : Int) := by omega
          have ha1 : (a : Int) < (N : Int) := by omega
          have hp3 := hFq.out.p3
          replace hstep := Lib.hid hstep
          replace hbad := Lib.hid hbad
          have hcs := Lib.hid (fun W' (h : Below wr.heap.size wr W') => (⟨(hFq.out.below h).p3, hgw.out W' (hBW.out _ (bchain h hb2)) a ha⟩ : W'.cell? ⟨G, 3, none⟩ = some (.slice (some ⟨b, off, none⟩) N cap) ∧ Fr.GCell W' b off (Fr.gAt gs a) a))
          rw [hyz] at hcs
          by_cases hy : 0 < y
          · have hqe : ∀ W, (Op.equalIn 10000 66 (.agg #[.int .i64 y, .int .i64 z]) (.agg #[.int .i64 0, .int .i64 1])).run Try.prog W = .ok false W := fun W => by
              rw [Fr.eqFr, show (y == 0) = false by simp; omega]
              rfl
            have hst := hstep.out hy
            clear hpos hxa hyz hv hstep hbad
            gi_wp2
            gi_region_with (refine ⟨trivial, ?_⟩; gi_at_call 91; refine (CallsIn.inRound l (callsIn_wide.2 (Fr.whole_any _ 0))).mono ?_; rintro r3 w3 ⟨rfl, hb3⟩; have hx3 : Below wr.heap.size wr w3 := (by (repeat (first | exact Below.refl _ _ | assumption | refine bchain (by assumption) ?_ | refine balloc ?_ _ | apply Below.drew | apply below_drewN | (refine Below.alloc ?_ (by (try simp) <;> omega) _) | (refine Below.setCell ?_ (by (try simp) <;> omega) _)))); obtain ⟨d0, d1, d2⟩ := hcs.out w3 hx3; dsimp only at d1 d2)
            all_goals gi_wp2
            all_goals
              have hx4 : Below W.heap.size W w3 := bchain hx3 hb2
              go_roundw
              case rel => exact ⟨q + 1, by omega, by go_num, hst, by (repeat (first | exact Below.refl _ _ | assumption | refine bchain (by assumption) ?_ | refine balloc ?_ _ | apply Below.drew | apply below_drewN | (refine Below.alloc ?_ (by (try simp) <;> omega) _) | (refine Below.setCell ?_ (by (try simp) <;> omega) _)))⟩
              case measure => simp [intOf]; omega
          · have hy0 : y = 0 := by have := hv.2; dsimp only at this; omega
            have hz1 : z = 1 := by
              have h1 := hv.1
              have h2 : 1 ≤ z := h1.1
              have h3 : Int.gcd y z = 1 := h1.2.2.2.2
              rw [hy0, Int.gcd_zero_left] at h3
              omega
            subst hy0
            subst hz1
            have hqe : ∀ W, (Op.equalIn 10000 66 (.agg #[.int .i64 0, .int .i64 1]) (.agg #[.int .i64 0, .int .i64 1])).run Try.prog W = .ok true W := fun W => by
              rw [Fr.eqFr]
              rfl
            have hno3 := hbad.out hy
            clear hpos hxa hyz hv hstep hbad
            gi_wp2
            gi_region_with (refine ⟨trivial, ?_⟩; gi_at_call 91; refine (CallsIn.inRound l (callsIn_wide.2 (Fr.whole_any _ 0))).mono ?_; rintro r3 w3 ⟨rfl, hb3⟩; have hx3 : Below wr.heap.size wr w3 := (by (repeat (first | exact Below.refl _ _ | assumption | refine bchain (by assumption) ?_ | refine balloc ?_ _ | apply Below.drew | apply below_drewN | (refine Below.alloc ?_ (by (try simp) <;> omega) _) | (refine Below.setCell ?_ (by (try simp) <;> omega) _)))); obtain ⟨d0, d1, d2⟩ := hcs.out w3 hx3; dsimp only at d1 d2)
            all_goals gi_wp2
            all_goals exact hfin.out hno3 _ (by (repeat (first | exact Below.refl _ _ | assumption | refine bchain (by assumption) ?_ | refine balloc ?_ _ | apply Below.drew | apply below_drewN | (refine Below.alloc ?_ (by (try simp) <;> omega) _) | (refine Below.setCell ?_ (by (try simp) <;> omega) _))))
        · obtain rfl : q = n := by omega
          have hd := decide_eq_false (show ¬ ((q : Int) < (q : Int)) by omega)
          have hh1 := hFq.out.h1
          have hcw := hFq.out.cw
          have hfr := hFq.out
          have hmd := fun W' (h : Below W.heap.size W W') => made_any W' N e lo he hlo x (by omega) (fun i hi => by have := hxb.out i (by omega); omega) (.slice (some ⟨Bx, 0, none⟩) q q) ((SeeN.below x _ W W' hSx.out h).sl (by omega))
          rw [hwv, hxl] at hmd
          have hcl := Lib.hid (fun W' (h : Below W.heap.size W W') => clone_n W' (.slice (some ⟨Bx, 0, none⟩) q q) x q hxl (SeeN.below x _ W W' hSx.out h) hn5)
          have hylt := mdE_lt e lo x (by omega)
          have hfi := fits_iff q m e lo x hn5 hxl hm
          have han := andNot_fits m (mdE e lo x) (by omega) (by omega)
          obtain ⟨y, hy⟩ : ∃ y : Nat, mdE e lo x = y := ⟨_, rfl⟩
          rw [hy] at hmd hylt hfi han
          replace hmd := Lib.hid hmd
          have hcs := Lib.hid (fun W' (h : Below W.heap.size W W') => (⟨(hFx.out.below h).h1, (hFx.out.below h).cw⟩ : W'.cell? ⟨G + 1, 1, none⟩ = some (.int .u32 m) ∧ W'.cell? ⟨Wb, 0, none⟩ = some (.iface wT wV)))
          have hfd : ∀ W : World, (Instr.field 30 (.agg #[.int .i64 (q : Int), .int .u32 (y : Int)]) 1).run Try.prog W = .ok (.int .u32 (y : Int)) W := fun _ => by kernel_rfl
          by_cases hfit : FitsM q m e lo x
          · have hOk := Lib.hid (show OkM q m e lo gs x from ⟨hpos.out, hfit⟩)
            rw [decide_eq_true (hfi.2 hfit)] at han
            clear hfi hfit hy hpos hfr
            gi_wp2
            gi_region_with (refine ⟨trivial, ?_⟩; gi_at_call 72; refine (CallsIn.inRound l (callsIn_wide.2 (hmd.out _ (by (repeat (first | exact Below.refl _ _ | assumption | refine bchain (by assumption) ?_ | refine balloc ?_ _ | apply Below.drew | apply below_drewN | (refine Below.alloc ?_ (by (try simp) <;> omega) _) | (refine Below.setCell ?_ (by (try simp) <;> omega) _))))))).mono ?_; rintro r5 w5 ⟨rfl, hb5⟩; have hx5 : Below W.heap.size W w5 := (by (repeat (first | exact Below.refl _ _ | assumption | refine bchain (by assumption) ?_ | refine balloc ?_ _ | apply Below.drew | apply below_drewN | (refine Below.alloc ?_ (by (try simp) <;> omega) _) | (refine Below.setCell ?_ (by (try simp) <;> omega) _)))); obtain ⟨d1, d2⟩ := hcs.out w5 hx5)
            all_goals gi_wp2_with (refine ⟨trivial, ?_⟩; gi_at_call 105; refine (CallsIn.inRound l (callsIn_wide.2 (hcl.out _ (by (repeat (first | exact Below.refl _ _ | assumption | refine bchain (by assumption) ?_ | refine balloc ?_ _ | apply Below.drew | apply below_drewN | (refine Below.alloc ?_ (by (try simp) <;> omega) _) | (refine Below.setCell ?_ (by (try simp) <;> omega) _))))))).mono ?_; rintro r6 w6 ⟨⟨u, rfl, ho6⟩, hb6⟩; have hx6 : Below W.heap.size W w6 := (by (repeat (first | exact Below.refl _ _ | assumption | refine bchain (by assumption) ?_ | refine balloc ?_ _ | apply Below.drew | apply below_drewN | (refine Below.alloc ?_ (by (try simp) <;> omega) _) | (refine Below.setCell ?_ (by (try simp) <;> omega) _)))); obtain ⟨ua, uc, hue, _⟩ := id ho6.out; subst hue; obtain ⟨q1, q2, _, _, _, _, _, _, c4, c5, f4, f5, _⟩ := hFx.out.below hx6)
            all_goals (have hz := hfok.out hOk.out w6 _ hx6 (ho6.out.base (by first | exact hx5.size | exact hx5.drew.size)); exact ⟨hz.1, rfl, hz.2⟩)
          · have hOk := Lib.hid (show ¬ OkM q m e lo gs x from fun h => hfit h.2)
            rw [decide_eq_false (fun c => hfit (hfi.1 c))] at han
            clear hfi hfit hy hpos hfr
            gi_wp2
            gi_region_with (refine ⟨trivial, ?_⟩; gi_at_call 72; refine (CallsIn.inRound l (callsIn_wide.2 (hmd.out _ (by (repeat (first | exact Below.refl _ _ | assumption | refine bchain (by assumption) ?_ | refine balloc ?_ _ | apply Below.drew | apply below_drewN | (refine Below.alloc ?_ (by (try simp) <;> omega) _) | (refine Below.setCell ?_ (by (try simp) <;> omega) _))))))).mono ?_; rintro r5 w5 ⟨rfl, hb5⟩; have hx5 : Below W.heap.size W w5 := (by (repeat (first | exact Below.refl _ _ | assumption | refine bchain (by assumption) ?_ | refine balloc ?_ _ | apply Below.drew | apply below_drewN | (refine Below.alloc ?_ (by (try simp) <;> omega) _) | (refine Below.setCell ?_ (by (try simp) <;> omega) _)))); obtain ⟨d1, d2⟩ := hcs.out w5 hx5)
            all_goals gi_wp2
            all_goals exact hfin.out hOk.out _ (by (repeat (first | exact Below.refl _ _ | assumption | refine bchain (by assumption) ?_ | refine balloc ?_ _ | apply Below.drew | apply below_drewN | (refine Below.alloc ?_ (by (try simp) <;> omega) _) | (refine Below.setCell ?_ (by (try simp) <;> omega) _))))
    case done =>
      rintro D W hD ⟨hF, hC, hB, hno⟩ hK
      have hFp := Lib.hid (hF.put (.slice none 0 0) (.bool false))
      obtain ⟨q1, q2, _, _, _, _, _, _, c4, c5, f4, f5, _⟩ := hF
      obtain rfl : o = none := hO.out.none_of fun j hj => hno.out _ (List.mem_map.2 ⟨j, List.mem_range.2 hj, rfl⟩)
      gi_wp2
      rw [Exit.noGoto_ret]
      gi_step
      have hK' := (KeepsOthers.setCell (W.setCell ⟨G + 2, 0, none⟩ (.slice none 0 0)) ⟨G + 3, 0, none⟩ (.bool false)).same D _ ((KeepsOthers.setCell W ⟨G + 2, 0, none⟩ (.slice none 0 0)).same D _ hK rfl) rfl
      refine ⟨by simp, .inl ⟨_, _, rfl, run_takeDeferred hK', ?_⟩⟩
      have c0 := cell_kept hFp.out.c4 (grownBy_putObj' _ D (.deferred none)) (fun r e => by cases e; exact ⟨_, hK', rfl⟩)
      have c1 := cell_kept hFp.out.c5 (grownBy_putObj' _ D (.deferred none)) (fun r e => by cases e; exact ⟨_, hK', rfl⟩)
      refine ⟨.tuple #[.slice none 0 0, .bool false], by simp [results, Try.results77, go_sem, c0, c1], _, rfl, ?_, fun k hk => by cases hk⟩
      rw [hG]
      exact ((hB.setCell (p := ⟨G + 2, 0, none⟩) (by show _ ≤ G + 2; omega) _).setCell (p := ⟨G + 3, 0, none⟩) (by show _ ≤ G + 3; omega) _).trans (below_putObj _ _ _ (by omega))
    case stop =>
      rintro D c pre W hD ⟨rfl, v, hf, hb, k, hk, ho⟩ hK
      subst hk
      have q1 := hf.l1
      gi_wp2
      rw [Exit.noGoto_ret]
      gi_step
      refine ⟨by simp, .inl ⟨_, _, rfl, run_takeDeferred hK, ?_⟩⟩
      have c0 := cell_kept hf.c4 (grownBy_putObj' _ D (.deferred none)) (fun r e => by cases e; exact ⟨_, hK, rfl⟩)
      have c1 := cell_kept hf.c5 (grownBy_putObj' _ D (.deferred none)) (fun r e => by cases e; exact ⟨_, hK, rfl⟩)
      refine ⟨.tuple #[v, .bool true], by simp [results, Try.results77, go_sem, c0, c1], _, rfl, ?_, fun k2 hk2 => ?_⟩
      · rw [hG]
        exact hb.trans (below_putObj _ _ _ (by omega))
      · cases hk2
        exact ho.turn _ _ _ hK rfl
end
end Go.Proofs.Ytfnjgdocmfmfgaa
