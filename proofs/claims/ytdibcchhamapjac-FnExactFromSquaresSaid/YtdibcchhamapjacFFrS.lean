/-
  FromSquares: the model, whole.
-/
import Derived.Test.YtdibcchhamapjacFFrI
import Derived.Test.YtdibcchhamapjacFScS
import Derived.Test.YtdibcchhamapjacFAdS
namespace Go.Proofs.Ytdibcchhamapjac
open Go.RowKit
set_option maxRecDepth 100000
def Emp (v : Value) : Prop := ∃ u cap, v = .slice u 0 cap ∧ cap ≤ 9223372036854775807
def FSp (ps : List (Int × Int)) (rs : List (List (Int × Int))) (w' : World) (v : Value) (c : Int) : Prop :=
  (c ≠ 0 ∧ Chk ps rs c ∧ Emp v) ∨ (Chk ps rs 0 ∧ ((c = 0 ∧ ∃ s, FrS ps.length ps rs ps.length s ∧ SlM w' v (matL ps.length s)) ∨ (c = 3 ∧ (∀ s, ¬ FrS ps.length ps rs ps.length s) ∧ Emp v)))
theorem svl_any (v : Value) (xs : List (Int × Int)) (hm : xs.length ≤ 1048576) : ∃ B : Bool, (B = true ↔ Vl xs) ∧ ∀ W, SlG W v xs →
    Calls Try.prog 56 #[v] W fun r w' => r = .returned (.bool B) ∧ Below W.heap.size W w' := by
  by_cases h : Vl xs
  · exact ⟨true, ⟨fun _ => h, fun _ => rfl⟩, fun W hW => svl_t W v xs hW h⟩
  · exact ⟨false, ⟨fun c => absurd c (by simp), fun c => absurd c h⟩, fun W hW => svl_f W v xs hW hm h⟩
section
variable (w : World)
theorem ssqR (a : Option Addr) (cap n : Nat) (xs : List (Int × Int)) (hn : xs.length = n) (hn8 : n ≤ 8) (hc : Lies w a xs) (hV : AllV xs) :
    Calls Try.prog 57 #[.slice a n cap] w fun r w' => ((AllO n (oS xs) ∧ ∃ v, r = .returned (.tuple #[v, .int .i64 0]) ∧ SlM w' v (matL n (gS xs))) ∨ (¬ AllO n (oS xs) ∧ ∃ v, r = .returned (.tuple #[v, .int .i64 3]))) ∧ Below w.heap.size w w' := by
  subst hn
  refine (ssq_any w a cap xs hn8 hc hV).mono ?_
  rintro r w' ⟨⟨h, v, e, hM⟩ | ⟨⟨i, j, hi, hj, hf⟩, u, c, e, _⟩, hb⟩
  · exact ⟨.inl ⟨h, v, e, hM.slm⟩, hb⟩
  · exact ⟨.inr ⟨fun h => absurd hf (by rw [h i j hi hj]; simp), _, e⟩, hb⟩
theorem sscR (n : Nat) (g : Nat → Nat → Int × Int) (x y : Int) (u : Value) (h : SlM w u (matL n g)) (hv : VS n g) (hn8 : n ≤ 8) (hy : VP (x, y)) :
    Calls Try.prog 52 #[u, .agg #[.int .i64 x, .int .i64 y]] w fun r w' => ((AllO n (oO (scF (matL n g) (x, y))) ∧ ∃ v, r = .returned (.tuple #[v, .int .i64 0]) ∧ SlM w' v (matL n (gO (scF (matL n g) (x, y))))) ∨ (¬ AllO n (oO (scF (matL n g) (x, y))) ∧ ∃ v, r = .returned (.tuple #[v, .int .i64 3]))) ∧ Below w.heap.size w w' := by
  obtain ⟨a, cap, e, hR⟩ := h.rows
  subst e
  refine (ssc_any w a cap (matL n g) x y hR (hv.vm hn8) hy).mono ?_
  rw [matL_length]
  rintro r w' ⟨⟨h, v, e, hM⟩ | ⟨⟨i, j, hi, hj, hf⟩, u, c, e, _⟩, hb⟩
  · exact ⟨.inl ⟨h, v, e, hM.slm⟩, hb⟩
  · exact ⟨.inr ⟨fun h => absurd hf (by rw [h i j hi hj]; simp), _, e⟩, hb⟩
theorem sadR (n : Nat) (g f : Nat → Nat → Int × Int) (u u' : Value) (h : SlM w u (matL n g)) (h' : SlM w u' (matL n f)) (hv : VS n g) (hv' : VS n f) (hn8 : n ≤ 8) :
    Calls Try.prog 46 #[u, u'] w fun r w' => ((AllO n (oO (adF (matL n g) (matL n f))) ∧ ∃ v, r = .returned (.tuple #[v, .int .i64 0]) ∧ SlM w' v (matL n (gO (adF (matL n g) (matL n f))))) ∨ (¬ AllO n (oO (adF (matL n g) (matL n f))) ∧ ∃ v, r = .returned (.tuple #[v, .int .i64 3]))) ∧ Below w.heap.size w w' := by
  obtain ⟨a, cap, e, hR⟩ := h.rows
  obtain ⟨a', cap', e', hR'⟩ := h'.rows
  subst e e'
  have hc := sad_any w a cap a' cap' (matL n g) (matL n f) hR hR' (hv.vm hn8) (hv'.vm hn8) (by rw [matL_length, matL_length])
  rw [matL_length] at hc ⊢
  rw [matL_length]
  refine hc.mono ?_
  rintro r w' ⟨⟨h, v, e, hM⟩ | ⟨⟨i, j, hi, hj, hf⟩, u, c, e, _⟩, hb⟩
  · exact ⟨.inl ⟨h, v, e, hM.slm⟩, hb⟩
  · exact ⟨.inr ⟨fun h => absurd hf (by rw [h i j hi hj]; simp), _, e⟩, hb⟩
set_option maxHeartbeats 4000000 in
theorem sFS_any (v v2 : Value) (ps : List (Int × Int)) (rs : List (List (Int × Int))) (hS : SlG w v ps) (hS2 : SlM w v2 rs) (hm : ps.length ≤ 1048576) (hm2 : rs.length ≤ 1048576) (hr : ∀ i, i < rs.length → (rAt rs i).length ≤ 1048576) :
    Calls Try.prog 33 #[v, v2] w fun r w' => (∃ v c, r = .returned (.tuple #[v, .int .i64 c]) ∧ FSp ps rs w' v c) ∧ Below w.heap.size w w' := by
  obtain ⟨B0, hB0, hI⟩ := svl_any v ps hm
  have hIr : ∀ k u, k < rs.length → ∃ B : Bool, (B = true ↔ Vl (rAt rs k)) ∧ ∀ W', SlG W' u (rAt rs k) → Calls Try.prog 56 #[u] W' fun r w' => r = .returned (.bool B) ∧ Below W'.heap.size W' w' := fun k u hk => svl_any u _ (hr k hk)
  obtain ⟨a, cap, rfl, hLi⟩ := hS.lies
  obtain ⟨a2, cap2, rfl, hR⟩ := hS2.rows
  have hE := Lib.hid (fun W n (h : n ≤ 8) => sempty_any W n h)
  replace hI := Lib.hid hI
  replace hIr := Lib.hid hIr
  replace hS := Lib.hid hS
  replace hR := Lib.hid hR
  replace hLi := Lib.hid hLi
  obtain ⟨n, hn⟩ : ∃ n, ps.length = n := ⟨_, rfl⟩
  obtain ⟨l, hl⟩ : ∃ n, rs.length = n := ⟨_, rfl⟩
  have hF1 : Hid (∀ W v, ¬ (Vl ps ∧ AllR rs l) → Emp v → FSp ps rs W v 1) := fun W v h he => .inl ⟨by decide, .inl ⟨rfl, by rw [hl]; exact h⟩, he⟩
  have hF2 : Hid (∀ W v, Vl ps → AllR rs l → ¬ ((n ≤ 8 ∧ l = n) ∧ LenR n rs l) → Emp v → FSp ps rs W v 2) := fun W v h h1 h2 he => .inl ⟨by decide, .inr (.inl ⟨rfl, ⟨h, by rw [hl]; exact h1⟩, by rw [hl, hn]; exact h2⟩), he⟩
  have hF3 : Hid (∀ W v, Vl ps → AllR rs l → (n ≤ 8 ∧ l = n) → LenR n rs l → (∀ s, ¬ FrS n ps rs n s) → Emp v → FSp ps rs W v 3) := fun W v h h1 h2 h3 h4 he => .inr ⟨.inr (.inr ⟨rfl, ⟨h, by rw [hl]; exact h1⟩, by rw [hl, hn]; exact h2, by rw [hl, hn]; exact h3⟩), .inr ⟨rfl, by rw [hn]; exact h4, he⟩⟩
  have hF0 : Hid (∀ W v s, Vl ps → AllR rs l → (n ≤ 8 ∧ l = n) → LenR n rs l → FrS n ps rs n s → SlM W v (matL n s) → FSp ps rs W v 0) := fun W v s h h1 h2 h3 h4 he => .inr ⟨.inr (.inr ⟨rfl, ⟨h, by rw [hl]; exact h1⟩, by rw [hl, hn]; exact h2, by rw [hl, hn]; exact h3⟩), .inl ⟨rfl, s, by rw [hn]; exact h4, by rw [hn]; exact he⟩⟩
  have hEmp : Hid (∀ u, Emp (.slice u 0 0)) := fun u => ⟨u, 0, rfl, by omega⟩
  rw [hn] at hI hS hm ⊢
  rw [hl] at hIr hm2 ⊢
  replace hn := Lib.hid hn
  replace hl := Lib.hid hl
  replace hB0 := Lib.hid hB0
  clear hS2 hr
  go_enter Try.func33, Try.ntmps33
  go_wp2_with fail
  refine (hI.out _ (hS.out.below (by (repeat (first | exact Below.refl _ _ | assumption | refine bchain (by assumption) ?_ | refine balloc ?_ _ | apply Below.drew | apply below_drewN | (refine Below.alloc ?_ (by (try simp) <;> omega) _) | (refine Below.setCell ?_ (by (try simp) <;> omega) _)))))).mono ?_
  rintro r1 w1 ⟨rfl, hb1⟩
  cases B0 with
  | false =>
    have hno : Hid (¬ (Vl ps ∧ AllR rs l)) := fun h => by have := hB0.out.2 h.1; cases this
    clear hB0
    go_wp2
    go_ret2
    exact ⟨⟨_, _, rfl, hF1.out _ _ hno.out (hEmp.out _)⟩, by (repeat (first | exact Below.refl _ _ | assumption | refine bchain (by assumption) ?_ | refine balloc ?_ _ | apply Below.drew | apply below_drewN | (refine Below.alloc ?_ (by (try simp) <;> omega) _) | (refine Below.setCell ?_ (by (try simp) <;> omega) _)))⟩
  | true =>
    have hVp : Hid (Vl ps) := hB0.out.1 rfl
    clear hB0
    go_wp2
    go_loopw [7] (fun i wr => ∃ k : Nat, k ≤ l ∧ i = .int .i64 k ∧ Hid (AllR rs k) ∧ Below w.heap.size w wr) (fun i _ => l - (intOf i).toNat)
    case atStart => exact ⟨0, by omega, rfl, fun i hi => absurd hi (by omega), by (repeat (first | exact Below.refl _ _ | assumption | refine bchain (by assumption) ?_ | refine balloc ?_ _ | apply Below.drew | apply below_drewN | (refine Below.alloc ?_ (by (try simp) <;> omega) _) | (refine Below.setCell ?_ (by (try simp) <;> omega) _)))⟩
    case round =>
      clear hb1
      obtain ⟨k, hk, rfl, hA, hb⟩ := hrel
      by_cases hlt : k < l
      · obtain ⟨B2, off2, rfl, hB2, u, hu, hSu⟩ := hR.out k (by have := hl.out; omega)
        obtain ⟨Bk, hBk, hIk⟩ := hIr.out k u hlt
        obtain ⟨a3, cap3, rfl, _⟩ := id hSu
        obtain ⟨l3, hl3⟩ : ∃ l, (rAt rs k).length = l := ⟨_, rfl⟩
        rw [hl3] at hu hIk hSu
        have c0 := (hb.cell (p := ⟨B2, _, none⟩) hB2).trans hu
        have hkl : (k : Int) < (l : Int) := by omega
        have hk0 : (0 : Int) ≤ (k : Int) := by omega
        have hSw := Lib.hid (hSu.below hb)
        replace hIk := Lib.hid hIk
        replace hBk := Lib.hid hBk
        clear hSu hu hl3
        go_wp2_with fail
        refine (hIk.out _ hSw.out).mono ?_
        rintro r1 w2 ⟨rfl, hb1⟩
        cases Bk with
        | true =>
          have hA2 : Hid (AllR rs (k + 1)) := AllR.succ.2 ⟨hA.out, hBk.out.1 rfl⟩
          clear hBk hA
          go_wp2
          go_roundw
          case rel => exact ⟨k + 1, by omega, by go_num, hA2.out, by (repeat (first | exact Below.refl _ _ | assumption | refine bchain (by assumption) ?_ | refine balloc ?_ _ | apply Below.drew | apply below_drewN | (refine Below.alloc ?_ (by (try simp) <;> omega) _) | (refine Below.setCell ?_ (by (try simp) <;> omega) _)))⟩
          case measure => simp [intOf]; omega
        | false =>
          have hno : Hid (¬ (Vl ps ∧ AllR rs l)) := fun h => by have := hBk.out.2 (h.2 k hlt); cases this
          clear hBk hA
          go_wp2
          go_ret2
          exact ⟨⟨_, _, rfl, hF1.out _ _ hno.out (hEmp.out _)⟩, by (repeat (first | exact Below.refl _ _ | assumption | refine bchain (by assumption) ?_ | refine balloc ?_ _ | apply Below.drew | apply below_drewN | (refine Below.alloc ?_ (by (try simp) <;> omega) _) | (refine Below.setCell ?_ (by (try simp) <;> omega) _)))⟩
      · obtain rfl : k = l := by omega
        have hd := decide_eq_false (show ¬ ((k : Int) < (k : Int)) by omega)
        by_cases h1 : n ≤ 8
        · have hd1 := decide_eq_false (show ¬ (n : Int) > 8 by omega)
          by_cases h2 : k = n
          · subst h2
            have hd2 : ((k : Int) != (k : Int)) = false := by simp
            go_wp2
            go_loopw [8] (fun i wr => ∃ j : Nat, j ≤ k ∧ i = .int .i64 j ∧ Hid (LenR k rs j) ∧ Below w.heap.size w wr) (fun i _ => k - (intOf i).toNat)
            case atStart => exact ⟨0, by omega, rfl, fun i hi => absurd hi (by omega), hb⟩
            case round =>
              clear hb
              obtain ⟨j, hj, rfl, hLn, hb⟩ := hrel
              by_cases hjk : j < k
              · obtain ⟨B2, off2, rfl, hB2, u, hu, hSu⟩ := hR.out j (by have := hl.out; omega)
                obtain ⟨a3, cap3, rfl, _⟩ := id hSu
                have c0 := (hb.cell (p := ⟨B2, _, none⟩) hB2).trans hu
                have hjl : (j : Int) < (k : Int) := by omega
                have hj0 : (0 : Int) ≤ (j : Int) := by omega
                by_cases hq : (rAt rs j).length = k
                · have hL2 : Hid (LenR k rs (j + 1)) := LenR.succ.2 ⟨hLn.out, hq⟩
                  rw [hq] at c0
                  clear hSu hu hq hLn
                  go_wp2
                  go_roundw
                  case rel => exact ⟨j + 1, by omega, by go_num, hL2.out, by (repeat (first | exact Below.refl _ _ | assumption | refine bchain (by assumption) ?_ | refine balloc ?_ _ | apply Below.drew | apply below_drewN | (refine Below.alloc ?_ (by (try simp) <;> omega) _) | (refine Below.setCell ?_ (by (try simp) <;> omega) _)))⟩
                  case measure => simp [intOf]; omega
                · have hno : Hid (¬ ((k ≤ 8 ∧ k = k) ∧ LenR k rs k)) := fun h => hq (h.2 j hjk)
                  obtain ⟨l3, hl3⟩ : ∃ l, (rAt rs j).length = l := ⟨_, rfl⟩
                  rw [hl3] at c0 hq
                  have hd3 : ((l3 : Int) != (k : Int)) = true := by simp; omega
                  clear hSu hu hq hLn hl3
                  go_wp2
                  go_ret2
                  exact ⟨⟨_, _, rfl, hF2.out _ _ hVp.out hA.out hno.out (hEmp.out _)⟩, by (repeat (first | exact Below.refl _ _ | assumption | refine bchain (by assumption) ?_ | refine balloc ?_ _ | apply Below.drew | apply below_drewN | (refine Below.alloc ?_ (by (try simp) <;> omega) _) | (refine Below.setCell ?_ (by (try simp) <;> omega) _)))⟩
              · obtain rfl : j = k := by omega
                have hfit : Hid (Fits j rs) := ⟨hl.out, fun i hi => ⟨hLn.out i hi, (hA.out i hi).2⟩⟩
                go_wp2_with fail
                refine (hE.out _ j h1).mono ?_
                rintro r3 w3 ⟨⟨v3, rfl, hM3⟩, hb3⟩
                have hM0 := Lib.hid hM3.slm
                have hB3 : Below w.heap.size w w3 := by (repeat (first | exact Below.refl _ _ | assumption | refine bchain (by assumption) ?_ | refine balloc ?_ _ | apply Below.drew | apply below_drewN | (refine Below.alloc ?_ (by (try simp) <;> omega) _) | (refine Below.setCell ?_ (by (try simp) <;> omega) _)))
                clear hM3 hb3 hb
                go_wp2
                go_loopw [9, 10, 11, 12, 13, 14, 15, 16] (fun v i _ _ _ _ _ _ wr => ∃ (t : Nat) (s : Nat → Nat → Int × Int), t ≤ j ∧ i = .int .i64 t ∧ FrS j ps rs t s ∧ Hid (SlM wr v (matL j s)) ∧ Below w.heap.size w wr) (fun _ i _ _ _ _ _ _ _ => j - (intOf i).toNat)
                case atStart => exact ⟨0, _, by omega, rfl, FrS.zero, hM0.out, hB3⟩
                case round =>
                  clear hM0 hB3
                  obtain ⟨t, s, ht, rfl, hs, hM, hb⟩ := hrel
                  by_cases htj : t < j
                  · obtain ⟨B, off, rfl, hB, hg⟩ := hLi.out t (by have := hn.out; omega)
                    obtain ⟨x, y, hxy⟩ : ∃ p q : Int, gAt ps t = (p, q) := ⟨_, _, rfl⟩
                    have s0 : wr.cell? ⟨B, off + t * 2, none⟩ = some (.int .i64 x) := by rw [hb.cell (p := ⟨B, _, none⟩) hB, hg.1, hxy]
                    have s1 : wr.cell? ⟨B, off + t * 2 + 1, none⟩ = some (.int .i64 y) := by rw [hb.cell (p := ⟨B, _, none⟩) hB, hg.2, hxy]
                    have hbw : B < wr.heap.size := Nat.lt_of_lt_of_le hB hb.size
                    obtain ⟨B2, off2, a4, dc, rfl, hB2, hrow, hLk⟩ := row_at w hR.out hfit.out htj
                    have c0 := (hb.cell (p := ⟨B2, _, none⟩) hB2).trans hrow
                    have hvp : VP (x, y) := by rw [← hxy]; exact hVp.out.2 t (by have := hn.out; omega)
                    have hsv := FrS.vs hVp.out.2 hn.out hfit.out.2 (by omega) hs
                    have hQ1 := Lib.hid (ssqR wr a4 dc j (rAt rs t) (hfit.out.2 t htj).1 h1 (hLk.below hb) (hfit.out.2 t htj).2)
                    have htn : (t : Int) < (j : Int) := by omega
                    have ht0 : (0 : Int) ≤ (t : Int) := by omega
                    clear hg hrow hLk
                    go_wp2_with fail
                    refine hQ1.out.mono ?_
                    rintro r4 w4 ⟨⟨hA1, u4, rfl, hM4⟩ | ⟨hA1, u4, rfl⟩, hb4⟩
                    · have hQ2 := Lib.hid (fun W (h : SlM W u4 (matL j (gS (rAt rs t)))) => sscR W j (gS (rAt rs t)) x y u4 h (sq_vs (hfit.out.2 t htj).1 (hfit.out.2 t htj).2 hA1) h1 hvp)
                      have hv2 := Lib.hid (fun h => sc_vs (sq_vs (hfit.out.2 t htj).1 (hfit.out.2 t htj).2 hA1) hvp h)
                      have hb04 : Below w.heap.size w w4 := hb.trans (hb4.mono hb.size)
                      have e0 := (hb4.cell (p := ⟨B, _, none⟩) hbw).trans s0
                      have e1 := (hb4.cell (p := ⟨B, _, none⟩) hbw).trans s1
                      have hMs := Lib.hid (hM.out.below hb4)
                      replace hM4 := Lib.hid hM4
                      replace hA1 := Lib.hid hA1
                      replace hs := Lib.hid hs
                      replace hsv := Lib.hid hsv
                      replace hxy := Lib.hid hxy
                      replace hvp := Lib.hid hvp
                      clear s0 s1 c0 hb hb4 hM hQ1
                      go_wp2_with fail
                      refine (hQ2.out _ hM4.out).mono ?_
                      rintro r5 w5 ⟨⟨hA2, u5, rfl, hM5⟩ | ⟨hA2, u5, rfl⟩, hb5⟩
                      · have hQ3 := Lib.hid (sadR w5 j s _ _ u5 (hMs.out.below hb5) hM5 hsv.out (hv2.out hA2) h1)
                        have hsq : Hid (sqG j ps rs t = gO (scF (matL j (gS (rAt rs t))) (x, y))) := by show _ = _; unfold sqG; rw [hxy.out]
                        have hb05 : Below w.heap.size w w5 := hb04.trans (hb5.mono hb04.size)
                        replace hA2 := Lib.hid hA2
                        clear hb5 hb04 hM5 hM4 hMs e0 e1 hQ2
                        go_wp2_with fail
                        refine hQ3.out.mono ?_
                        rintro r6 w6 ⟨⟨hA3, u6, rfl, hM6⟩ | ⟨hA3, u6, rfl⟩, hb6⟩
                        · have hnext : FrS j ps rs (t + 1) (gO (adF (matL j s) (matL j (gO (scF (matL j (gS (rAt rs t))) (x, y)))))) := by
                            rw [← hsq.out]
                            exact FrS.succ hs.out hA1.out (by rw [hxy.out]; exact hA2.out) (by rw [hsq.out]; exact hA3)
                          replace hnext := Lib.hid hnext
                          replace hM6 := Lib.hid hM6
                          have hb06 : Below w.heap.size w w6 := hb05.trans (hb6.mono hb05.size)
                          clear hb05 hb6 hA3 hQ3 hsq
                          go_wp2
                          go_roundw
                          case rel => exact ⟨t + 1, _, by omega, by go_num, hnext.out, hM6.out, hb06⟩
                          case measure => simp [intOf]; omega
                        · have hno : Hid (∀ s, ¬ FrS j ps rs j s) := FrS.stop (k := t) (fun q hq => by
                            obtain ⟨t', ht', _, _, h3'⟩ := hq.prev
                            rw [FrS.uniq ht' hs.out, hsq.out] at h3'
                            exact hA3 h3') j htj
                          have hb06 : Below w.heap.size w w6 := hb05.trans (hb6.mono hb05.size)
                          clear hb05 hb6 hA3 hQ3 hsq
                          go_wp2
                          go_ret2
                          exact ⟨⟨_, _, rfl, hF3.out _ _ hVp.out hA.out ⟨h1, by trivial⟩ hLn.out hno.out (hEmp.out _)⟩, hb06⟩
                      · have hno : Hid (∀ s, ¬ FrS j ps rs j s) := FrS.stop (k := t) (fun q hq => by
                          obtain ⟨t', ht', _, h2', _⟩ := hq.prev
                          rw [hxy.out] at h2'
                          exact hA2 h2') j htj
                        have hb05 : Below w.heap.size w w5 := hb04.trans (hb5.mono hb04.size)
                        clear hb04 hb5 hA2
                        go_wp2
                        go_ret2
                        exact ⟨⟨_, _, rfl, hF3.out _ _ hVp.out hA.out ⟨h1, by trivial⟩ hLn.out hno.out (hEmp.out _)⟩, hb05⟩
                    · have hno : Hid (∀ s, ¬ FrS j ps rs j s) := FrS.stop (k := t) (fun q hq => by
                        obtain ⟨t', ht', h1', _, _⟩ := hq.prev
                        exact hA1 h1') j htj
                      have hb04 : Below w.heap.size w w4 := hb.trans (hb4.mono hb.size)
                      clear hb4 hb hA1
                      go_wp2
                      go_ret2
                      exact ⟨⟨_, _, rfl, hF3.out _ _ hVp.out hA.out ⟨h1, by trivial⟩ hLn.out hno.out (hEmp.out _)⟩, hb04⟩
                  · obtain rfl : t = j := by omega
                    have hd := decide_eq_false (show ¬ ((t : Int) < (t : Int)) by omega)
                    replace hs := Lib.hid hs
                    go_wp2
                    go_ret2
                    exact ⟨⟨_, _, rfl, hF0.out _ _ s hVp.out hA.out ⟨h1, by trivial⟩ hLn.out hs.out hM.out⟩, hb⟩
          · have hno : Hid (¬ ((n ≤ 8 ∧ k = n) ∧ LenR n rs k)) := fun h => h2 h.1.2
            have hd2 : ((k : Int) != (n : Int)) = true := by simp; omega
            clear h2
            go_wp2
            go_ret2
            exact ⟨⟨_, _, rfl, hF2.out _ _ hVp.out hA.out hno.out (hEmp.out _)⟩, by (repeat (first | exact Below.refl _ _ | assumption | refine bchain (by assumption) ?_ | refine balloc ?_ _ | apply Below.drew | apply below_drewN | (refine Below.alloc ?_ (by (try simp) <;> omega) _) | (refine Below.setCell ?_ (by (try simp) <;> omega) _)))⟩
        · have hno : Hid (¬ ((n ≤ 8 ∧ k = n) ∧ LenR n rs k)) := fun h => h1 h.1.1
          have hd1 := decide_eq_true (show (n : Int) > 8 by omega)
          clear h1
          go_wp2
          go_ret2
          exact ⟨⟨_, _, rfl, hF2.out _ _ hVp.out hA.out hno.out (hEmp.out _)⟩, by (repeat (first | exact Below.refl _ _ | assumption | refine bchain (by assumption) ?_ | refine balloc ?_ _ | apply Below.drew | apply below_drewN | (refine Below.alloc ?_ (by (try simp) <;> omega) _) | (refine Below.setCell ?_ (by (try simp) <;> omega) _)))⟩
end
end Go.Proofs.Ytdibcchhamapjac
