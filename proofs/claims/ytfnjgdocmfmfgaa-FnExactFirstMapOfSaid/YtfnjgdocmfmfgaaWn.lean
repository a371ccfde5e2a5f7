/-
  madeBy: the program's contract.
-/
import Derived.Test.YtfnjgdocmfmfgaaWp
import Derived.Test.YtfnjgdocmfmfgaaInts
namespace Go.Proofs.Ytfnjgdocmfmfgaa
open Go.RowKit Go.Shelf
set_option maxRecDepth 100000
attribute [local go_sem] Oper.semAt_some
/-- numbers, as the program holds them -/
def zn (x : List Nat) : List Int := x.map fun v : Nat => (v : Int)
theorem zn_length (x : List Nat) : (zn x).length = x.length := by simp [zn]
theorem zn_get (x : List Nat) (i : Nat) : (zn x)[i]?.getD 0 = ((x[i]?.getD 0 : Nat) : Int) := by
  unfold zn
  rw [List.getElem?_map]
  cases x[i]? <;> rfl
def xn (x : List Nat) (i : Nat) : Nat := x[i]?.getD 0
/-- the bits of the graph whose vertices lie in the parts of a list -/
def mdE (e lo : Nat) (x : List Nat) : Nat := foldE ((prs x.length).filter fun p => pjn e lo (xn x p.1) (xn x p.2))
section
variable (w : World)
theorem pm_any (n e : Int) (Bw Bl : Nat) :
    Calls Try.prog 96 #[.agg #[.int .i64 n, .int .u32 e], .func (.func 100) #[] #[.pointer (some ⟨Bw, 0, none⟩), .pointer (some ⟨Bl, 0, none⟩)]] w fun r w' => r = .returned (.func (.func 122) #[] #[.pointer (some ⟨w.heap.size, 0, none⟩), .pointer (some ⟨w.heap.size + 1, 0, none⟩)]) ∧
      Below w.heap.size w w' ∧ w.heap.size + 2 ≤ w'.heap.size ∧ w'.cell? ⟨w.heap.size, 0, none⟩ = some (.int .i64 n) ∧ w'.cell? ⟨w.heap.size, 1, none⟩ = some (.int .u32 e) ∧ w'.cell? ⟨w.heap.size + 1, 0, none⟩ = some (.func (.func 100) #[] #[.pointer (some ⟨Bw, 0, none⟩), .pointer (some ⟨Bl, 0, none⟩)]) := by
  go_enter Try.func96, Try.ntmps96
  go_wp2
  go_ret
  refine ⟨rfl, by (repeat (first | exact Below.refl _ _ | assumption | refine bchain (by assumption) ?_ | refine balloc ?_ _ | apply Below.drew | apply below_drewN | (refine Below.alloc ?_ (by (try simp) <;> omega) _) | (refine Below.setCell ?_ (by (try simp) <;> omega) _))), by simp, ?_, ?_, ?_⟩
  · rw [cOld _ _ _ _ (by simp), cNew _ _ _ _ _ rfl]; rfl
  · rw [cOld _ _ _ _ (by simp), cNew _ _ _ _ _ rfl]; rfl
  · rw [cNew _ _ _ _ _ (by simp)]; rfl
set_option maxHeartbeats 4000000 in
theorem made_any (n e lo : Nat) (he : e < 4294967296) (hlo : lo < 4294967296) (x : List Nat) (hx5 : x.length ≤ 5) (x4 : ∀ i, i < x.length → xn x i ≤ 4) (lv : Value) (hS : SlI w lv (zn x)) :
    Calls Try.prog 72 #[webV n e lo, lv] w fun r w' => r = .returned (.agg #[.int .i64 (x.length : Nat), .int .u32 (mdE e lo x : Nat)]) ∧ Below w.heap.size w w' := by
  obtain ⟨L, hL⟩ : ∃ L, x.length = L := ⟨_, rfl⟩
  obtain ⟨a, cap, rfl, hc1, hc2, h3⟩ := hS
  rw [zn_length, hL] at h3 hc1 ⊢
  obtain ⟨wT, wV, hwv⟩ : ∃ T v, webV n e lo = .iface T v := by unfold webV; split <;> exact ⟨_, _, rfl⟩
  rw [hwv]
  obtain ⟨W0, hW0⟩ : ∃ W0, W0 = (((w.alloc (.cells #[.iface wT wV] 92)).alloc (.cells #[.slice a L cap] 46)).alloc (.cells #[.int .i64 0, .int .u32 0] 30)).alloc (.cells #[.int .i64 L, .int .u32 0] 30) := ⟨_, rfl⟩
  have hB0 : Below w.heap.size w W0 := by rw [hW0]; (repeat (first | exact Below.refl _ _ | assumption | refine bchain (by assumption) ?_ | refine balloc ?_ _ | apply Below.drew | apply below_drewN | (refine Below.alloc ?_ (by (try simp) <;> omega) _) | (refine Below.setCell ?_ (by (try simp) <;> omega) _)))
  have hs0 : W0.heap.size = w.heap.size + 4 := by rw [hW0]; simp
  have c0 : W0.cell? ⟨w.heap.size, 0, none⟩ = some (.iface wT wV) := by
    rw [hW0, cOld _ _ _ _ (by simp <;> omega), cOld _ _ _ _ (by simp <;> omega), cOld _ _ _ _ (by simp <;> omega), cNew _ _ _ _ _ rfl]; rfl
  have c1 : W0.cell? ⟨w.heap.size + 1, 0, none⟩ = some (.slice a L cap) := by
    rw [hW0, cOld _ _ _ _ (by simp <;> omega), cOld _ _ _ _ (by simp <;> omega), cNew _ _ _ _ _ (by simp)]; rfl
  have c2 : W0.cell? ⟨w.heap.size + 2, 0, none⟩ = some (.int .i64 0) := by
    rw [hW0, cOld _ _ _ _ (by simp <;> omega), cNew _ _ _ _ _ (by simp)]; rfl
  have c3 : W0.cell? ⟨w.heap.size + 2, 1, none⟩ = some (.int .u32 0) := by
    rw [hW0, cOld _ _ _ _ (by simp <;> omega), cNew _ _ _ _ _ (by simp)]; rfl
  have c4 : W0.cell? ⟨w.heap.size + 3, 0, none⟩ = some (.int .i64 L) := by
    rw [hW0, cNew _ _ _ _ _ (by simp)]; rfl
  have c5 : W0.cell? ⟨w.heap.size + 3, 1, none⟩ = some (.int .u32 0) := by
    rw [hW0, cNew _ _ _ _ _ (by simp)]; rfl
  have fz2 : ∀ o, W0.frozen? ⟨w.heap.size + 2, o, none⟩ = false := fun o => by rw [hW0, fOld _ _ _ _ (by simp <;> omega), fNew _ _ _ _ _ (by simp)]
  have fz3 : ∀ o, W0.frozen? ⟨w.heap.size + 3, o, none⟩ = false := fun o => by rw [hW0, fNew _ _ _ _ _ (by simp)]
  replace hW0 := Lib.hid hW0
  refine (callsIn_wide (n := 5)).1 ?_
  refine callsIn_of_wp_marks Try.func72 rfl trivial ?_ rfl
  simp only [Try.ntmps72, List.size_toArray, List.length_cons, List.length_nil, Nat.reduceAdd, Nat.reduceSub, Array.replicate_succ, Array.replicate_zero, List.push_toArray, List.append_toArray, List.nil_append, List.cons_append]
  gi_wp2_with fail
  rw [← hW0.out]
  refine ⟨trivial, ?_⟩
  refine (callsIn_wide.2 (pm_any _ (L : Int) 0 w.heap.size (w.heap.size + 1))).mono ?_
  rintro r2 w2 ⟨rfl, hb2, hz3, g0, g1, ga⟩
  rw [hs0] at hz3 g0 g1 ga ⊢
  have hB2 : Below w.heap.size w w2 := bchain hb2 hB0
  have hlt : ∀ k, k < 4 → w.heap.size + k < W0.heap.size := fun k hk => by omega
  have d0 := (hb2.cell (p := ⟨w.heap.size, 0, none⟩) (hlt 0 (by omega))).trans c0
  have d1 := (hb2.cell (p := ⟨w.heap.size + 1, 0, none⟩) (hlt 1 (by omega))).trans c1
  have r0 := (hb2.cell (p := ⟨w.heap.size + 2, 0, none⟩) (hlt 2 (by omega))).trans c2
  have r1 := (hb2.cell (p := ⟨w.heap.size + 2, 1, none⟩) (hlt 2 (by omega))).trans c3
  have p0 := (hb2.cell (p := ⟨w.heap.size + 3, 0, none⟩) (hlt 3 (by omega))).trans c4
  have p1 := (hb2.cell (p := ⟨w.heap.size + 3, 1, none⟩) (hlt 3 (by omega))).trans c5
  have s0 := (hb2.frozen (p := ⟨w.heap.size + 2, 0, none⟩) (hlt 2 (by omega))).trans (fz2 0)
  have s1 := (hb2.frozen (p := ⟨w.heap.size + 2, 1, none⟩) (hlt 2 (by omega))).trans (fz2 1)
  have f1 := (hb2.frozen (p := ⟨w.heap.size + 3, 1, none⟩) (hlt 3 (by omega))).trans (fz3 1)
  have hsz := hB2.size
  obtain ⟨P, hP⟩ : ∃ P, w.heap.size + 3 = P := ⟨_, rfl⟩
  rw [show w.heap.size + 4 = P + 1 by omega] at hz3 g0 g1 ga ⊢
  rw [hP] at p0 p1 f1
  obtain ⟨bb, hbb, hbx⟩ : ∃ bb, bb < w.heap.size + 1 ∧ ∀ W, KpL [P + 1, P + 1 + 1, w.heap.size, w.heap.size + 1, bb] w2 W → ∀ i j, i < j → j < L →
      Calls Try.prog 100 #[.agg #[.int .i64 (L : Nat), .int .u32 ((0 : Nat) : Int)], .int .i64 (i : Nat), .int .i64 (j : Nat), .pointer (some ⟨w.heap.size, 0, none⟩), .pointer (some ⟨w.heap.size + 1, 0, none⟩)] W fun r w' => r = .returned (.bool (pjn e lo (xn x i) (xn x j))) ∧ Below W.heap.size W w' := by
    by_cases h0 : zn x = []
    · refine ⟨w.heap.size, by omega, fun W hW i j hij hj => ?_⟩
      have := zn_length x
      rw [h0] at this
      simp at this
      omega
    · obtain ⟨b, off, rfl, hb, hcell⟩ := h3 h0
      refine ⟨b, by omega, fun W hW i j hij hj => ?_⟩
      have k0 : W.cell? ⟨w.heap.size, 0, none⟩ = some (webV n e lo) := by rw [hwv]; exact (World.cell?_of_block (hW.2 w.heap.size (by simp))).trans d0
      have k1 : W.cell? ⟨w.heap.size + 1, 0, none⟩ = some (.slice (some ⟨b, off, none⟩) L cap) := (World.cell?_of_block (hW.2 (w.heap.size + 1) (by simp))).trans d1
      have kx : ∀ q, q < L → W.cell? ⟨b, off + q, none⟩ = some (.int .i64 (xn x q : Nat)) := fun q hq => by
        rw [World.cell?_of_block (a := ⟨b, off + q, none⟩) (hW.2 b (by simp)), hB2.cell (p := ⟨b, off + q, none⟩) hb, hcell q hq, zn_get]
        rfl
      exact mb_any W n e lo he hlo _ _ w.heap.size (w.heap.size + 1) b off L cap i j _ _ k0 k1 (by omega) hj (kx i (by omega)) (kx j hj) (x4 i (by omega)) (x4 j (by omega))
  have hbs : ∀ b ∈ [P + 1, P + 1 + 1, w.heap.size, w.heap.size + 1, bb], b < w2.heap.size := fun b hb => by
    simp at hb
    rcases hb with rfl | rfl | rfl | rfl | rfl <;> omega
  have hpb : ∀ b ∈ [P + 1, P + 1 + 1, w.heap.size, w.heap.size + 1, bb], P ≠ b := fun b hb => by
    simp at hb
    rcases hb with rfl | rfl | rfl | rfl | rfl <;> omega
  have hPlt : P < w2.heap.size := by omega
  have hPge : w.heap.size ≤ P := by omega
  have hRP : w.heap.size + 2 ≠ P := by omega
  clear hlt c0 c1 c2 c3 c4 c5 fz2 fz3 hb2 hs0 h3 hc1 hc2 d0 d1 hB0 hW0
  rw [show w.heap.size + 1 + 1 + 1 = P by omega]
  obtain ⟨R, hR⟩ : ∃ R, w.heap.size + 2 = R := ⟨_, rfl⟩
  rw [show w.heap.size + 1 + 1 = R by omega]
  rw [hR] at r0 r1 s0 s1 hRP
  have hRlt : R < w2.heap.size := by omega
  have hRge : w.heap.size ≤ R := by omega
  have hn5 : L ≤ 5 := by omega
  clear hP
  gi_wp2
  refine wpIn_rangeFunc_ownG rfl (by omega) (gf := 122) (lb := #[.pointer (some ⟨P + 1, 0, none⟩), .pointer (some ⟨P + 1 + 1, 0, none⟩)]) rfl trivial (enters_of Try.func122 (by kernel_rfl) rfl)
    (pm_stops 4 (by omega) L 0 hn5 (fun i j => pjn e lo (xn x i) (xn x j)) (P + 1) (P + 1 + 1) w2 (by omega) (by omega) [P + 1, P + 1 + 1, w.heap.size, w.heap.size + 1, bb] (by simp) (by simp) hbs w.heap.size (w.heap.size + 1) g0 g1 ga (fun W i j h => hbx W h i j))
    KpL.trans (KpL.put hbs) (Below.refl _ _) (fun _ => rfl)
    (fun pre W => (W.cell? ⟨P, 0, none⟩ = some (.int .i64 L) ∧ W.cell? ⟨P, 1, none⟩ = some (.int .u32 (foldE (vals pre) : Nat)) ∧ W.frozen? ⟨P, 1, none⟩ = false ∧
      W.cell? ⟨R, 0, none⟩ = some (.int .i64 0) ∧ W.cell? ⟨R, 1, none⟩ = some (.int .u32 0) ∧ W.frozen? ⟨R, 0, none⟩ = false ∧ W.frozen? ⟨R, 1, none⟩ = false) ∧ Below w.heap.size w W)
    (fun _ _ _ => False)
    (OwnFrom.and (Own.from (fun s A B row hs hg hr => ⟨cell_kept hs.1 hg hr, cell_kept hs.2.1 hg hr, (frozen_kept hs.2.1 hg hr).trans hs.2.2.1, cell_kept hs.2.2.2.1 hg hr, cell_kept hs.2.2.2.2.1 hg hr, (frozen_kept hs.2.2.2.1 hg hr).trans hs.2.2.2.2.2.1, (frozen_kept hs.2.2.2.2.1 hg hr).trans hs.2.2.2.2.2.2⟩) _) (ownFrom_below (Nat.le_refl _) hsz))
    (fun _ _ _ _ _ hs _ _ => hs)
    ⟨⟨p0, p1, f1, r0, r1, s0, s1⟩, hB2⟩
    (fun x => { tmps := #[.iface wT wV, .slice a L cap, .pointer (some ⟨w.heap.size, 0, none⟩), .pointer (some ⟨w.heap.size + 1, 0, none⟩), .pointer (some ⟨R, 0, none⟩), .pointer (some ⟨P, 0, none⟩), .func (.func 100) #[] #[.pointer (some ⟨w.heap.size, 0, none⟩), .pointer (some ⟨w.heap.size + 1, 0, none⟩)], .int .i64 (x.1.1 : Nat), .int .i64 (x.1.2 : Nat), .slice a L cap, .int .i64 L, .agg #[.int .i64 L, .int .u32 0], .func (.func 100) #[] #[.pointer (some ⟨w.heap.size, 0, none⟩), .pointer (some ⟨w.heap.size + 1, 0, none⟩)], .agg #[.int .i64 L, .int .u32 0], .func (.func 100) #[] #[.pointer (some ⟨w.heap.size, 0, none⟩), .pointer (some ⟨w.heap.size + 1, 0, none⟩)], .func (.func 122) #[] #[.pointer (some ⟨P + 1, 0, none⟩), .pointer (some ⟨P + 1 + 1, 0, none⟩)], .int .i64 (x.1.1 : Nat), .int .i64 (x.1.2 : Nat), undef, undef, undef, undef, undef, undef, undef, undef], defers := [] }) ?assign ?body ?done ?stop
  case assign =>
    intro l x W K hK
    gi_wp2
    exact hK
  case body =>
    rintro l pre ⟨⟨i, j⟩, hij, hj⟩ W ⟨⟨q0, q1, q2, q3, q4, q5, q6⟩, hB⟩ _
    dsimp only at hij hj ⊢
    have hJ := Lib.hid (fun W => pbit_any W i j (by omega) (by omega))
    have hfl := foldE_lt hn5 pre
    have hpl := pb_le i j (by omega) (by omega)
    have hor := u32_or_nat (foldE (vals pre)) (pb i j) (by omega) (by omega)
    have hnx : foldE (vals (pre ++ [⟨(i, j), hij, hj⟩])) = foldE (vals pre) ||| pb i j := by rw [vals_snoc, foldE_snoc]
    obtain ⟨y, hy⟩ : ∃ y : Nat, foldE (vals pre) ||| pb i j = y := ⟨_, rfl⟩
    rw [hy] at hor hnx
    obtain ⟨x', hx⟩ : ∃ x : Nat, foldE (vals pre) = x := ⟨_, rfl⟩
    rw [hx] at q1 hor
    obtain ⟨z, hz⟩ : ∃ z : Nat, pb i j = z := ⟨_, rfl⟩
    rw [hz] at hor hJ
    replace hnx := Lib.hid hnx
    clear hy hx hz hfl hpl
    gi_wp2
    gi_region_with (refine ⟨trivial, ?_⟩; gi_at_call 98; refine (CallsIn.inRound l (callsIn_wide.2 (hJ.out _))).mono ?_; rintro r4 w4 ⟨rfl, rfl⟩)
    all_goals gi_wp2
    all_goals
      have hko := (KeepsOthers.setCell W ⟨P, 1, none⟩ (.int .u32 y)).from w2.heap.size
      exact ⟨⟨hko.size, hko.same⟩, KpL.set W ⟨P, 1, none⟩ _ hpb,
        ⟨cellMiss q0 (by simp), by rw [hnx.out]; exact cellHit q1, by simp [q2], cellMiss q3 (by simp <;> omega), cellMiss q4 (by simp <;> omega), by simp [q5], by simp [q6]⟩, by (repeat (first | exact Below.refl _ _ | assumption | refine bchain (by assumption) ?_ | refine balloc ?_ _ | apply Below.drew | apply below_drewN | (refine Below.alloc ?_ (by (try simp) <;> omega) _) | (refine Below.setCell ?_ (by (try simp) <;> omega) _)))⟩
  case done =>
    rintro D xs W hD hS ⟨⟨q0, q1, q2, q3, q4, q5, q6⟩, hB⟩ hK
    have hx : foldE (vals xs) = mdE e lo x := by rw [hS]; unfold mdE; rw [hL]
    rw [hx] at q1
    obtain ⟨y, hy⟩ : ∃ y : Nat, mdE e lo x = y := ⟨_, rfl⟩
    rw [hy] at q1
    replace hy := Lib.hid hy
    gi_wp2
    have hK' := (KeepsOthers.setCell (W.setCell ⟨R, 0, none⟩ (.int .i64 L)) ⟨R, 1, none⟩ (.int .u32 y)).same D _ ((KeepsOthers.setCell W ⟨R, 0, none⟩ (.int .i64 L)).same D _ hK rfl) rfl
    have h2 := twoCells q3 q4 (.int .i64 L) (.int .u32 y)
    refine ⟨by simp, .inl ⟨_, _, rfl, run_takeDeferred hK', ?_⟩⟩
    have c0 := cell_kept h2.1 (grownBy_putObj' _ D (.deferred none)) (fun r e => by cases e; exact ⟨_, hK', rfl⟩)
    have c1 := cell_kept h2.2 (grownBy_putObj' _ D (.deferred none)) (fun r e => by cases e; exact ⟨_, hK', rfl⟩)
    refine ⟨.agg #[.int .i64 L, .int .u32 y], by simp [results, Try.results72, go_sem, c0, c1], by rw [hy.out], ?_⟩
    exact ((hB.setCell (p := ⟨R, 0, none⟩) (by show _ ≤ R; omega) _).setCell (p := ⟨R, 1, none⟩) (by show _ ≤ R; omega) _).trans (belowK_b (w := w) (Nat.le_refl _) _ D _ _ (by omega) hK' rfl rfl)
  case stop =>
    rintro D c pre W _ _ h _
    exact h.elim
end
end Go.Proofs.Ytfnjgdocmfmfgaa
