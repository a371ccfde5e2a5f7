/-
  CONTRACT OF OppositeGraph, the program's (a loop over the iterator of pairs) and the model's; the plain fact that both are one.
-/
import Derived.Test.YtfnjgdocmfmfgaaPairs
import Derived.Test.YtfnjgdocmfmfgaaMade
namespace Go.Proofs.Ytfnjgdocmfmfgaa
open Go.RowKit Go.Shelf
set_option maxRecDepth 100000
attribute [local go_sem] Oper.semAt_some

/-- the bits of some pairs -/
def foldE (ps : List (Nat × Nat)) : Nat := ps.foldl (fun acc p => acc ||| pb p.1 p.2) 0
theorem foldE_snoc (ps : List (Nat × Nat)) (p : Nat × Nat) : foldE (ps ++ [p]) = foldE ps ||| pb p.1 p.2 := by simp [foldE]
theorem foldE_lt {n : Nat} (hn : n ≤ 5) (xs : List (Pr n)) : foldE (vals xs) < 2 ^ 10 := by
  have : ∀ (ys : List (Pr n)) (a : Nat), a < 2 ^ 10 → (vals ys).foldl (fun acc p => acc ||| pb p.1 p.2) a < 2 ^ 10 := by
    intro ys
    induction ys with
    | nil => intro a h; exact h
    | cons y ys ih => intro a h; exact ih _ (Nat.or_lt_two_pow h (pb_lt y.1.1 y.1.2 y.2.1 (by have := y.2.2; omega)))
  exact this xs 0 (by omega)
/-- the bits of the opposite graph -/
def oppE (n e : Nat) : Nat := foldE ((prs n).filter fun p => !jn e p.1 p.2)
theorem oppE_eq : ∀ n, n ≤ 5 → ∀ e, e < eMax n → oppE n e = (eMax n - 1) ^^^ e := by decide +kernel

section
variable (w : World)
theorem apart_any (n e i j : Nat) (he : e < 4294967296) (hi : i ≤ 4) (hj : j ≤ 4) :
    Calls Try.prog 97 #[.agg #[.int .i64 n, .int .u32 e], .int .i64 i, .int .i64 j] w fun r w' => r = .returned (.bool (!jn e i j)) ∧ Below w.heap.size w w' := by
  have hJ := Lib.hid (fun W => joined_any W n e i j he hi hj)
  obtain ⟨b, hb⟩ : ∃ b, jn e i j = b := ⟨_, rfl⟩
  rw [hb] at hJ ⊢
  clear hb he hi hj
  go_enter Try.func97, Try.ntmps97
  go_wp2_with fail
  refine (hJ.out _).mono ?_
  rintro r1 w1 ⟨rfl, hb1⟩
  go_wp2
  go_ret
  exact ⟨rfl, by (repeat (first | exact Below.refl _ _ | assumption | refine bchain (by assumption) ?_ | refine balloc ?_ _ | apply Below.drew | apply below_drewN | (refine Below.alloc ?_ (by (try simp) <;> omega) _) | (refine Below.setCell ?_ (by (try simp) <;> omega) _)))⟩

/-- the iterator, made: its two boxes -/
def PtMade (w w' : World) (n e : Int) (A : Nat) : Prop := Below w.heap.size w w' ∧ w.heap.size + 2 ≤ w'.heap.size ∧ w'.cell? ⟨w.heap.size, 0, none⟩ = some (.int .i64 n) ∧ w'.cell? ⟨w.heap.size, 1, none⟩ = some (.int .u32 e) ∧ w'.cell? ⟨w.heap.size + 1, 0, none⟩ = some (.func (.func A) #[] #[])
theorem pt_any (n e : Int) (A : Nat) :
    Calls Try.prog 96 #[.agg #[.int .i64 n, .int .u32 e], .func (.func A) #[] #[]] w fun r w' => r = .returned (.func (.func 122) #[] #[.pointer (some ⟨w.heap.size, 0, none⟩), .pointer (some ⟨w.heap.size + 1, 0, none⟩)]) ∧ PtMade w w' n e A := by
  go_enter Try.func96, Try.ntmps96
  go_wp2
  go_ret
  refine ⟨rfl, by (repeat (first | exact Below.refl _ _ | assumption | refine bchain (by assumption) ?_ | refine balloc ?_ _ | apply Below.drew | apply below_drewN | (refine Below.alloc ?_ (by (try simp) <;> omega) _) | (refine Below.setCell ?_ (by (try simp) <;> omega) _))), by simp, ?_, ?_, ?_⟩
  · rw [cOld _ _ _ _ (by simp), cNew _ _ _ _ _ rfl]; rfl
  · rw [cOld _ _ _ _ (by simp), cNew _ _ _ _ _ rfl]; rfl
  · rw [cNew _ _ _ _ _ (by simp)]; rfl

set_option maxHeartbeats 2000000 in
theorem opp_ok (n e : Nat) (h : VG n e) :
    Calls Try.prog 67 #[.agg #[.int .i64 n, .int .u32 e]] w fun r w' => r = .returned (.tuple #[.agg #[.int .i64 n, .int .u32 (oppE n e : Nat)], .int .i64 0]) ∧ Below w.heap.size w w' := by
  have he : e < 4294967296 := by have := h.2.2.2; have := eMax_le n; simp at *; omega
  have hn5 : n ≤ 5 := by have := h.2.1; omega
  refine (callsIn_wide (n := 5)).1 ?_
  refine callsIn_of_wp_marks Try.func67 rfl trivial ?_ rfl
  simp only [Try.ntmps67, List.size_toArray, List.length_cons, List.length_nil, Nat.reduceAdd, Nat.reduceSub, Array.replicate_succ, Array.replicate_zero, List.push_toArray, List.append_toArray, List.nil_append, List.cons_append]
  gi_wp2_with (first
    | (refine ⟨trivial, ?_⟩; gi_at_call 51; refine (callsIn_wide.2 (valid_t _ n e h)).mono ?_; rintro r1 w1 ⟨rfl, hb1⟩; obtain ⟨hc1, hz1⟩ := bkeep hb1 w.heap.size (by (try simp) <;> omega); obtain ⟨hc2, hz2⟩ := bkeep hb1 (w.heap.size + 1) (by (try simp) <;> omega); have hf1 := bkeepz hb1 (w.heap.size + 1) (by (try simp) <;> omega))
    | (refine ⟨trivial, ?_⟩; gi_at_call 96; refine (callsIn_wide.2 (pt_any _ n e 97)).mono ?_; rintro r2 w2 ⟨rfl, hM⟩))
  obtain ⟨hb2, hz3, g0, g1, ga⟩ := hM
  have e1 : (w1.alloc (.cells #[.int .i64 (n : Int), .int .u32 0] 30)).heap.size = w1.heap.size + 1 := by simp
  rw [e1] at g0 g1 ga hz3
  have hB1 : Below w.heap.size w w1 := by (repeat (first | exact Below.refl _ _ | assumption | refine bchain (by assumption) ?_ | refine balloc ?_ _ | apply Below.drew | apply below_drewN | (refine Below.alloc ?_ (by (try simp) <;> omega) _) | (refine Below.setCell ?_ (by (try simp) <;> omega) _)))
  have hB2 : Below w.heap.size w w2 := by (repeat (first | exact Below.refl _ _ | assumption | refine bchain (by assumption) ?_ | refine balloc ?_ _ | apply Below.drew | apply below_drewN | (refine Below.alloc ?_ (by (try simp) <;> omega) _) | (refine Below.setCell ?_ (by (try simp) <;> omega) _)))
  have p0 : w2.cell? ⟨w1.heap.size, 0, none⟩ = some (.int .i64 n) := (hb2.cell (p := ⟨w1.heap.size, 0, none⟩) (by rw [e1]; show w1.heap.size < _; omega)).trans (by rw [cNew _ _ _ _ _ rfl]; rfl)
  have p1 : w2.cell? ⟨w1.heap.size, 1, none⟩ = some (.int .u32 0) := (hb2.cell (p := ⟨w1.heap.size, 1, none⟩) (by rw [e1]; show w1.heap.size < _; omega)).trans (by rw [cNew _ _ _ _ _ rfl]; rfl)
  have f1 : w2.frozen? ⟨w1.heap.size, 1, none⟩ = false := (hb2.frozen (p := ⟨w1.heap.size, 1, none⟩) (by rw [e1]; show w1.heap.size < _; omega)).trans (fNew _ _ _ _ _ rfl)
  have rr : ∀ o, w2.cell? ⟨w.heap.size + 1, o, none⟩ = w1.cell? ⟨w.heap.size + 1, o, none⟩ := fun o => (hb2.cell (p := ⟨w.heap.size + 1, o, none⟩) (by rw [e1]; show w.heap.size + 1 < _; omega)).trans (cOld _ _ _ _ hz2)
  have fr : ∀ o, w2.frozen? ⟨w.heap.size + 1, o, none⟩ = w1.frozen? ⟨w.heap.size + 1, o, none⟩ := fun o => (hb2.frozen (p := ⟨w.heap.size + 1, o, none⟩) (by rw [e1]; show w.heap.size + 1 < _; omega)).trans (fOld _ _ _ _ hz2)
  have r0 : w2.cell? ⟨w.heap.size + 1, 0, none⟩ = some (.int .i64 0) := by rw [rr, hc2, cNew _ _ _ _ _ (by simp)]; rfl
  have r1 : w2.cell? ⟨w.heap.size + 1, 1, none⟩ = some (.int .u32 0) := by rw [rr, hc2, cNew _ _ _ _ _ (by simp)]; rfl
  have s0 : w2.frozen? ⟨w.heap.size + 1, 0, none⟩ = false := by rw [fr, hf1, fNew _ _ _ _ _ (by simp)]
  have s1 : w2.frozen? ⟨w.heap.size + 1, 1, none⟩ = false := by rw [fr, hf1, fNew _ _ _ _ _ (by simp)]
  have hsz := hB2.size
  obtain ⟨P, hP⟩ : ∃ P, w1.heap.size = P := ⟨_, rfl⟩
  rw [hP] at g0 g1 ga p0 p1 f1 hz3 hz2 ⊢
  have hPlt : P < w2.heap.size := by omega
  have hPge : w.heap.size ≤ P := by omega
  clear rr fr hc1 hc2 hf1 hb1 hb2 hB1 hz1 e1
  refine wpIn_rangeFunc_ownG rfl (by omega) (gf := 122) (lb := #[.pointer (some ⟨P + 1, 0, none⟩), .pointer (some ⟨P + 1 + 1, 0, none⟩)]) rfl trivial (enters_of Try.func122 (by kernel_rfl) rfl)
    (pa_stops 4 (by omega) n e hn5 (fun i j => !jn e i j) (P + 1) (P + 1 + 1) w2 (by omega) (by omega) g0 g1 ga (fun W i j hij hj => apart_any W n e i j he (by omega) hj))
    Kp2.trans (Kp2.put (by omega) (by omega)) (Below.refl _ _) (fun _ => rfl)
    (fun pre W => (W.cell? ⟨P, 0, none⟩ = some (.int .i64 n) ∧ W.cell? ⟨P, 1, none⟩ = some (.int .u32 (foldE (vals pre) : Nat)) ∧ W.frozen? ⟨P, 1, none⟩ = false ∧
      W.cell? ⟨w.heap.size + 1, 0, none⟩ = some (.int .i64 0) ∧ W.cell? ⟨w.heap.size + 1, 1, none⟩ = some (.int .u32 0) ∧ W.frozen? ⟨w.heap.size + 1, 0, none⟩ = false ∧ W.frozen? ⟨w.heap.size + 1, 1, none⟩ = false) ∧ Below w.heap.size w W)
    (fun _ _ _ => False)
    (OwnFrom.and (Own.from (fun s A B row hs hg hr => ⟨cell_kept hs.1 hg hr, cell_kept hs.2.1 hg hr, (frozen_kept hs.2.1 hg hr).trans hs.2.2.1, cell_kept hs.2.2.2.1 hg hr, cell_kept hs.2.2.2.2.1 hg hr, (frozen_kept hs.2.2.2.1 hg hr).trans hs.2.2.2.2.2.1, (frozen_kept hs.2.2.2.2.1 hg hr).trans hs.2.2.2.2.2.2⟩) _) (ownFrom_below (Nat.le_refl _) hsz))
    (fun _ _ _ _ _ hs _ _ => hs)
    ⟨⟨p0, p1, f1, r0, r1, s0, s1⟩, hB2⟩
    (fun x => { tmps := #[.agg #[.int .i64 n, .int .u32 e], .pointer (some ⟨w.heap.size, 0, none⟩), .pointer (some ⟨w.heap.size + 1, 0, none⟩), .int .i64 0, .pointer (some ⟨P, 0, none⟩), .int .i64 (x.1.1 : Nat), .int .i64 (x.1.2 : Nat), .agg #[.int .i64 n, .int .u32 e], .bool true, .bool false, undef, .pointer (some ⟨w.heap.size, 0, none⟩), .int .i64 n, .agg #[.int .i64 n, .int .u32 0], .agg #[.int .i64 n, .int .u32 e],
      .func (.func 122) #[] #[.pointer (some ⟨P + 1, 0, none⟩), .pointer (some ⟨P + 1 + 1, 0, none⟩)], .int .i64 (x.1.1 : Nat), .int .i64 (x.1.2 : Nat), undef, undef, undef, undef, undef, undef, undef, undef], defers := [] }) ?assign ?body ?done ?stop
  case assign =>
    intro l x W K hK
    gi_wp2
    exact hK
  case body =>
    rintro l pre ⟨⟨i, j⟩, hij, hj⟩ W ⟨⟨q0, q1, q2, q3, q4, q5, q6⟩, hB⟩ _
    dsimp only at hij hj ⊢
    have hJ := Lib.hid (fun W => pbit_any W i j (by omega) (by omega))
    have hfl := foldE_lt hn5 pre
    have hpl := pb_le i j (by omega) (by omega)
    have hor := u32_or_nat (foldE (vals pre)) (pb i j) (by omega) (by omega)
    have hnx : foldE (vals (pre ++ [⟨(i, j), hij, hj⟩])) = foldE (vals pre) ||| pb i j := by rw [vals_snoc, foldE_snoc]
    obtain ⟨y, hy⟩ : ∃ y : Nat, foldE (vals pre) ||| pb i j = y := ⟨_, rfl⟩
    rw [hy] at hor hnx
    obtain ⟨x, hx⟩ : ∃ x : Nat, foldE (vals pre) = x := ⟨_, rfl⟩
    rw [hx] at q1 hor
    obtain ⟨z, hz⟩ : ∃ z : Nat, pb i j = z := ⟨_, rfl⟩
    rw [hz] at hor hJ
    replace hnx := Lib.hid hnx
    clear hy hx hz hfl hpl
    have k1 := Lib.hid q0
    have k2 := Lib.hid q1
    gi_wp2
    gi_region_with (refine ⟨trivial, ?_⟩; gi_at_call 98; refine (CallsIn.inRound l (callsIn_wide.2 (hJ.out _))).mono ?_; rintro r4 w4 ⟨rfl, rfl⟩)
    all_goals gi_wp2
    all_goals
      have hko := (KeepsOthers.setCell W ⟨P, 1, none⟩ (.int .u32 y)).from w2.heap.size
      exact ⟨⟨hko.size, hko.same⟩, Kp2.set W ⟨P, 1, none⟩ _ (by show P ≠ _; omega) (by show P ≠ _; omega),
        ⟨cellMiss q0 (by simp), by rw [hnx.out]; exact cellHit q1, by simp [q2], cellMiss q3 (by simp <;> omega), cellMiss q4 (by simp <;> omega), by simp [q5], by simp [q6]⟩, by (repeat (first | exact Below.refl _ _ | assumption | refine bchain (by assumption) ?_ | refine balloc ?_ _ | apply Below.drew | apply below_drewN | (refine Below.alloc ?_ (by (try simp) <;> omega) _) | (refine Below.setCell ?_ (by (try simp) <;> omega) _)))⟩
  case done =>
    rintro D xs W hD hS ⟨⟨q0, q1, q2, q3, q4, q5, q6⟩, hB⟩ hK
    have hx : foldE (vals xs) = oppE n e := by rw [hS]; rfl
    rw [hx] at q1
    obtain ⟨x, hx⟩ : ∃ x : Nat, oppE n e = x := ⟨_, rfl⟩
    rw [hx] at q1
    replace hx := Lib.hid hx
    gi_wp2
    have hK' := (KeepsOthers.setCell (W.setCell ⟨w.heap.size + 1, 0, none⟩ (.int .i64 n)) ⟨w.heap.size + 1, 1, none⟩ (.int .u32 x)).same D _ ((KeepsOthers.setCell W ⟨w.heap.size + 1, 0, none⟩ (.int .i64 n)).same D _ hK rfl) rfl
    have h2 := twoCells q3 q4 (.int .i64 n) (.int .u32 x)
    refine ⟨by simp, .inl ⟨_, _, rfl, run_takeDeferred hK', ?_⟩⟩
    have c0 := cell_kept h2.1 (grownBy_putObj' _ D (.deferred none)) (fun r e => by cases e; exact ⟨_, hK', rfl⟩)
    have c1 := cell_kept h2.2 (grownBy_putObj' _ D (.deferred none)) (fun r e => by cases e; exact ⟨_, hK', rfl⟩)
    refine ⟨.tuple #[.agg #[.int .i64 n, .int .u32 x], .int .i64 0], by simp [results, Try.results67, go_sem, c0, c1], by rw [hx.out], ?_⟩
    exact ((hB.setCell (p := ⟨w.heap.size + 1, 0, none⟩) (by show _ ≤ w.heap.size + 1; omega) _).setCell (p := ⟨w.heap.size + 1, 1, none⟩) (by show _ ≤ w.heap.size + 1; omega) _).trans (belowK_b (w := w) (Nat.le_refl _) _ D _ _ (by omega) hK' rfl rfl)
  case stop =>
    rintro D c pre W _ _ h _
    exact h.elim
theorem opp_inv (n e : Int) (hn : e < 4294967296) (he0 : 0 ≤ e) (h : ¬ VG n e) :
    Calls Try.prog 67 #[.agg #[.int .i64 n, .int .u32 e]] w fun r w' => r = .returned (.tuple #[.agg #[.int .i64 0, .int .u32 0], .int .i64 1]) ∧ Below w.heap.size w w' := by
  go_enter Try.func67, Try.ntmps67
  go_wp2_with fail
  refine (valid_f _ n e hn he0 h).mono ?_
  rintro r1 w1 ⟨rfl, hb1⟩
  obtain ⟨hc1_0, hz1_0⟩ := bkeep hb1 (w.heap.size + 1) (by (try simp) <;> omega)
  have hf1_0 := bkeepz hb1 (w.heap.size + 1) (by (try simp) <;> omega)
  go_wp2
  exact bodyPost_ret (v := .tuple #[.agg #[.int .i64 0, .int .u32 0], .int .i64 1]) (by simp [results, Try.results67, go_sem, hc1_0]) rfl ⟨rfl, by (repeat (first | exact Below.refl _ _ | assumption | refine bchain (by assumption) ?_ | refine balloc ?_ _ | apply Below.drew | apply below_drewN | (refine Below.alloc ?_ (by (try simp) <;> omega) _) | (refine Below.setCell ?_ (by (try simp) <;> omega) _)))⟩
theorem sopp_inv (n e : Int) (hn : e < 4294967296) (he0 : 0 ≤ e) (h : ¬ VG n e) :
    Calls Try.prog 66 #[.agg #[.int .i64 n, .int .u32 e]] w fun r w' => r = .returned (.tuple #[.agg #[.int .i64 0, .int .u32 0], .int .i64 1]) ∧ Below w.heap.size w w' := by
  go_enter Try.func66, Try.ntmps66
  go_wp2_with fail
  refine (ok_f _ n e hn he0 h).mono ?_
  rintro r1 w1 ⟨rfl, hb1⟩
  obtain ⟨hc1_0, hz1_0⟩ := bkeep hb1 (w.heap.size + 1) (by (try simp) <;> omega)
  have hf1_0 := bkeepz hb1 (w.heap.size + 1) (by (try simp) <;> omega)
  go_wp2
  exact bodyPost_ret (v := .tuple #[.agg #[.int .i64 0, .int .u32 0], .int .i64 1]) (by simp [results, Try.results66, go_sem, hc1_0]) rfl ⟨rfl, by (repeat (first | exact Below.refl _ _ | assumption | refine bchain (by assumption) ?_ | refine balloc ?_ _ | apply Below.drew | apply below_drewN | (refine Below.alloc ?_ (by (try simp) <;> omega) _) | (refine Below.setCell ?_ (by (try simp) <;> omega) _)))⟩
theorem sopp_ok (n e : Nat) (h : VG n e) :
    Calls Try.prog 66 #[.agg #[.int .i64 n, .int .u32 e]] w fun r w' => r = .returned (.tuple #[.agg #[.int .i64 n, .int .u32 (oppE n e : Nat)], .int .i64 0]) ∧ Below w.heap.size w w' := by
  have he : e < 4294967296 := by have := h.2.2.2; have := eMax_le n; simp at *; omega
  have hn5 : n ≤ 5 := by have := h.2.1; omega
  have hx := oppE_eq n hn5 e (by have := h.2.2.2; simp at this; omega)
  have hmx := eMax_le n
  have hxor := u32_xor_nat (eMax n - 1) e (by omega) he
  rw [← hx] at hxor
  have hC := Lib.hid (fun W => scomplete_in W n hn5)
  obtain ⟨x, hxx⟩ : ∃ x : Nat, oppE n e = x := ⟨_, rfl⟩
  rw [hxx] at hxor ⊢
  obtain ⟨y, hy⟩ : ∃ y : Nat, eMax n - 1 = y := ⟨_, rfl⟩
  rw [hy] at hxor hC
  clear hx hy hxx hmx he
  go_enter Try.func66, Try.ntmps66
  go_wp2_with fail
  refine (ok_t _ n e h).mono ?_
  rintro r1 w1 ⟨rfl, hb1⟩
  obtain ⟨hc1_0, hz1_0⟩ := bkeep hb1 (w.heap.size) (by (try simp) <;> omega)
  obtain ⟨hc1_1, hz1_1⟩ := bkeep hb1 (w.heap.size + 1) (by (try simp) <;> omega)
  have hf1_1 := bkeepz hb1 (w.heap.size + 1) (by (try simp) <;> omega)
  go_wp2_with fail
  refine (hC.out _).mono ?_
  rintro r2 w2 ⟨rfl, hb2⟩
  obtain ⟨hc2_0, hz2_0⟩ := bkeep hb2 (w.heap.size) (by (try simp) <;> omega)
  obtain ⟨hc2_1, hz2_1⟩ := bkeep hb2 (w.heap.size + 1) (by (try simp) <;> omega)
  have hf2_1 := bkeepz hb2 (w.heap.size + 1) (by (try simp) <;> omega)
  go_wp2
  have h0 : w2.cell? ⟨w.heap.size + 1, 0, none⟩ = some (.int .i64 0) := by rw [hc2_1, hc1_1, cNew _ _ _ _ _ (by simp)]; rfl
  have h1 : w2.cell? ⟨w.heap.size + 1, 1, none⟩ = some (.int .u32 0) := by rw [hc2_1, hc1_1, cNew _ _ _ _ _ (by simp)]; rfl
  have h2 := fun O => twoCellsA hz2_1 h0 h1 (.int .i64 n) (.int .u32 x) O
  exact bodyPost_ret (v := .tuple #[.agg #[.int .i64 n, .int .u32 x], .int .i64 0]) (by simp [results, Try.results66, go_sem, (h2 _).1, (h2 _).2]) rfl ⟨rfl, by (repeat (first | exact Below.refl _ _ | assumption | refine bchain (by assumption) ?_ | refine balloc ?_ _ | apply Below.drew | apply below_drewN | (refine Below.alloc ?_ (by (try simp) <;> omega) _) | (refine Below.setCell ?_ (by (try simp) <;> omega) _)))⟩
end

theorem opp_both (n e : Int) (hn : e < 4294967296) (he0 : 0 ≤ e) : ∃ (m f c : Int),
    (∀ W, Calls Try.prog 66 #[.agg #[.int .i64 n, .int .u32 e]] W fun r w' => r = .returned (.tuple #[.agg #[.int .i64 m, .int .u32 f], .int .i64 c]) ∧ Below W.heap.size W w') ∧
    (∀ W, Calls Try.prog 67 #[.agg #[.int .i64 n, .int .u32 e]] W fun r w' => r = .returned (.tuple #[.agg #[.int .i64 m, .int .u32 f], .int .i64 c]) ∧ Below W.heap.size W w') := by
  by_cases h : VG n e
  · obtain ⟨n', rfl⟩ : ∃ k : Nat, n = k := ⟨n.toNat, by have := h.1; omega⟩
    obtain ⟨e', rfl⟩ : ∃ k : Nat, e = k := ⟨e.toNat, by omega⟩
    exact ⟨_, _, _, fun W => sopp_ok W n' e' h, fun W => opp_ok W n' e' h⟩
  · exact ⟨_, _, _, fun W => sopp_inv W n e hn he0 h, fun W => opp_inv W n e hn he0 h⟩
end Go.Proofs.Ytfnjgdocmfmfgaa
