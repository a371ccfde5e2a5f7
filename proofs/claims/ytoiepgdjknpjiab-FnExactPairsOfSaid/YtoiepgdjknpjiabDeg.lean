/-
  CONTRACT OF DegreesOf, the program's and the model's; the plain fact that both count the same.
-/
import Derived.Test.YtoiepgdjknpjiabOpp
import Derived.Test.YtoiepgdjknpjiabOwnI
namespace Go.Proofs.Ytoiepgdjknpjiab
open Go.RowKit Go.Shelf
set_option maxRecDepth 100000
attribute [local go_sem] Oper.semAt_some

theorem cell_lt {W : World} {B o : Nat} {v : Value} (h : W.cell? ⟨B, o, none⟩ = some v) : B < W.heap.size := by
  unfold World.cell? at h
  rcases Nat.lt_or_ge B W.heap.size with h1 | h1
  · exact h1
  · simp [Array.getElem?_eq_none h1] at h
/-- how many of the pairs have the vertex v -/
def degs (ps : List (Nat × Nat)) (v : Nat) : Nat := ps.foldl (fun c p => c + (if v = p.1 then 1 else 0) + (if v = p.2 then 1 else 0)) 0
theorem degs_snoc (ps : List (Nat × Nat)) (p : Nat × Nat) (v : Nat) : degs (ps ++ [p]) v = degs ps v + (if v = p.1 then 1 else 0) + (if v = p.2 then 1 else 0) := by simp [degs]
theorem degs_le (ps : List (Nat × Nat)) (v : Nat) : degs ps v ≤ 2 * ps.length := by
  have : ∀ (qs : List (Nat × Nat)) (a : Nat), qs.foldl (fun c p => c + (if v = p.1 then 1 else 0) + (if v = p.2 then 1 else 0)) a ≤ a + 2 * qs.length := by
    intro qs
    induction qs with
    | nil => intro a; simp
    | cons q qs ih =>
      intro a
      refine Nat.le_trans (ih _) ?_
      simp only [List.length_cons]
      split <;> split <;> omega
  simpa [degs] using this ps 0
/-- how many of the vertices before m are joined to i -/
def cnt (e i : Nat) : Nat → Nat | 0 => 0 | m + 1 => cnt e i m + if i ≠ m ∧ jn e i m = true then 1 else 0
theorem cnt_le (e i m : Nat) : cnt e i m ≤ m := by
  induction m with
  | zero => simp [cnt]
  | succ m ih => simp only [cnt]; split <;> omega
def degE (n e v : Nat) : Nat := degs ((prs n).filter fun p => jn e p.1 p.2) v
theorem degE_eq : ∀ n, n ≤ 5 → ∀ e, e < eMax n → ∀ v, v < n → degE n e v = cnt e v n := by decide +kernel

section
variable (w : World)
theorem sjoined_self (n e i : Nat) :
    Calls Try.prog 55 #[.agg #[.int .i64 n, .int .u32 e], .int .i64 i, .int .i64 i] w fun r w' => r = .returned (.bool false) ∧ Below w.heap.size w w' := by
  have hd2 : ((i : Int) != (i : Int)) = false := by simp
  go_enter Try.func55, Try.ntmps55
  go_wp2
  go_quiet (fail)
  go_wp2
  go_ret
  exact ⟨rfl, by (repeat (first | exact Below.refl _ _ | assumption | refine bchain (by assumption) ?_ | refine balloc ?_ _ | apply Below.drew | apply below_drewN | (refine Below.alloc ?_ (by (try simp) <;> omega) _) | (refine Below.setCell ?_ (by (try simp) <;> omega) _)))⟩

theorem sdeg_inv (n e : Int) (hn : e < 4294967296) (he0 : 0 ≤ e) (h : ¬ VG n e) :
    Calls Try.prog 30 #[.agg #[.int .i64 n, .int .u32 e]] w fun r w' => (∃ v, r = .returned (.tuple #[v, .int .i64 1]) ∧ OwnI w w' v 0 (fun _ => 0)) ∧ Below w.heap.size w w' := by
  go_enter Try.func30, Try.ntmps30
  go_wp2_with fail
  refine (ok_f _ n e hn he0 h).mono ?_
  rintro r1 w1 ⟨rfl, hb1⟩
  go_wp2
  go_ret2
  exact ⟨⟨_, rfl, _, 0, rfl, by omega, by omega, fun c => absurd c (Nat.lt_irrefl _)⟩, by (repeat (first | exact Below.refl _ _ | assumption | refine bchain (by assumption) ?_ | refine balloc ?_ _ | apply Below.drew | apply below_drewN | (refine Below.alloc ?_ (by (try simp) <;> omega) _) | (refine Below.setCell ?_ (by (try simp) <;> omega) _)))⟩
theorem ideg_inv (n e : Int) (hn : e < 4294967296) (he0 : 0 ≤ e) (h : ¬ VG n e) :
    Calls Try.prog 31 #[.agg #[.int .i64 n, .int .u32 e]] w fun r w' => (∃ v, r = .returned (.tuple #[v, .int .i64 1]) ∧ OwnI w w' v 0 (fun _ => 0)) ∧ Below w.heap.size w w' := by
  go_enter Try.func31, Try.ntmps31
  go_wp2_with fail
  refine (valid_f _ n e hn he0 h).mono ?_
  rintro r1 w1 ⟨rfl, hb1⟩
  go_wp2
  go_ret2
  exact ⟨⟨_, rfl, _, 0, rfl, by omega, by omega, fun c => absurd c (Nat.lt_irrefl _)⟩, by (repeat (first | exact Below.refl _ _ | assumption | refine bchain (by assumption) ?_ | refine balloc ?_ _ | apply Below.drew | apply below_drewN | (refine Below.alloc ?_ (by (try simp) <;> omega) _) | (refine Below.setCell ?_ (by (try simp) <;> omega) _)))⟩

set_option maxHeartbeats 1000000 in
theorem sdeg_ok (n e : Nat) (h : VG n e) :
    Calls Try.prog 30 #[.agg #[.int .i64 n, .int .u32 e]] w fun r w' => (∃ v, r = .returned (.tuple #[v, .int .i64 0]) ∧ OwnI w w' v n (fun v => (degE n e v : Nat))) ∧ Below w.heap.size w w' := by
  have he : e < 4294967296 := by have := h.2.2.2; have := eMax_le n; simp at *; omega
  have hn5 : n ≤ 5 := by have := h.2.1; omega
  have hx := Lib.hid (degE_eq n hn5 e (by have := h.2.2.2; simp at this; omega))
  have hmk := run_make_row' (P := Try.prog) 38 2 (.int .i64 0) 8 Try.underlying38 info_i64 rfl .i64 .i64 n (by omega) (by omega)
  obtain ⟨O, hO⟩ : ∃ O, O = Obj.cells (madeCells #[.int .i64 0] n) 2 := ⟨_, rfl⟩
  rw [← hO] at hmk
  replace hO := Lib.hid hO
  go_enter Try.func30, Try.ntmps30
  go_wp2_with fail
  refine (ok_t _ n e h).mono ?_
  rintro r1 w1 ⟨rfl, hb1⟩
  obtain ⟨hc1_0, hz1_0⟩ := bkeep hb1 (w.heap.size) (by (try simp) <;> omega)
  go_wp2
  have g0 : w1.cell? ⟨w.heap.size, 0, none⟩ = some (.int .i64 n) := by rw [hc1_0, cNew _ _ _ _ _ rfl]; rfl
  have g1 : w1.cell? ⟨w.heap.size, 1, none⟩ = some (.int .u32 e) := by rw [hc1_0, cNew _ _ _ _ _ rfl]; rfl
  have hB1 : Below w.heap.size w w1 := by (repeat (first | exact Below.refl _ _ | assumption | refine bchain (by assumption) ?_ | refine balloc ?_ _ | apply Below.drew | apply below_drewN | (refine Below.alloc ?_ (by (try simp) <;> omega) _) | (refine Below.setCell ?_ (by (try simp) <;> omega) _)))
  obtain ⟨B, hB⟩ : ∃ B, w1.heap.size = B := ⟨_, rfl⟩
  have hBge := hB1.size
  have q0 := (cOld w1 O w.heap.size 0 hz1_0).trans g0
  have q1 := (cOld w1 O w.heap.size 1 hz1_0).trans g1
  have qC : CF (w1.alloc O) B n (fun _ => 0) := fun i hi => by rw [hO.out]; exact madeCell w1 n B _ hB.symm i hi
  have qF : ∀ o, (w1.alloc O).frozen? ⟨B, o, none⟩ = false := fun o => by rw [hO.out]; exact fNew _ _ _ _ _ hB.symm
  have qs : (w1.alloc O).heap.size = B + 1 := by simp [hB]
  have qB : Below w.heap.size w (w1.alloc O) := balloc hB1 O
  have hBw : w.heap.size < B := by omega
  rw [hB] at hBge ⊢
  replace qC := Lib.hid qC
  replace qF := Lib.hid qF
  replace qs := Lib.hid qs
  replace hB := Lib.hid hB
  clear hc1_0 hb1 g0 g1 hB1 hz1_0
  go_loopw [5] (fun p wr => ∃ i : Nat, i ≤ n ∧ p = .int .i64 i ∧ CF wr B n (fun v => if v < i then (cnt e v n : Nat) else 0) ∧ (∀ o, wr.frozen? ⟨B, o, none⟩ = false) ∧ wr.cell? ⟨w.heap.size, 0, none⟩ = some (.int .i64 n) ∧ wr.cell? ⟨w.heap.size, 1, none⟩ = some (.int .u32 e) ∧ B < wr.heap.size ∧ Below w.heap.size w wr) (fun p _ => n - (intOf p).toNat)
  case atStart => exact ⟨0, by omega, rfl, qC.out.congr (fun i hi => by simp), qF.out, q0, q1, by rw [qs.out]; omega, qB⟩
  case round =>
    clear q0 q1 qC qF qs qB
    obtain ⟨i, hi, rfl, hC, hF, c0, c1, hsz, hb⟩ := hrel
    by_cases hlt : i < n
    · have hC0 := Lib.hid hC
      have hF0 := Lib.hid hF
      have hb0 := hb
      have hs0 := hsz
      have d0 := Lib.hid c0
      have d1 := Lib.hid c1
      clear hC hF
      go_wp2
      obtain ⟨wo, rfl⟩ : ∃ wo : World, wo = wr := ⟨_, rfl⟩
      clear c0 c1 hsz hb
      go_loopw [6] (fun p wr => ∃ j : Nat, j ≤ n ∧ p = .int .i64 j ∧ CF wr B n (fun v => if v < i then (cnt e v n : Nat) else if v = i then (cnt e i j : Nat) else 0) ∧ (∀ o, wr.frozen? ⟨B, o, none⟩ = false) ∧ wr.cell? ⟨w.heap.size, 0, none⟩ = some (.int .i64 n) ∧ wr.cell? ⟨w.heap.size, 1, none⟩ = some (.int .u32 e) ∧ B < wr.heap.size ∧ Below w.heap.size w wr) (fun p _ => n - (intOf p).toNat)
      case atStart => exact ⟨0, by omega, rfl, hC0.out.congr (fun v hv => by simp [cnt]), hF0.out, d0.out, d1.out, hs0, hb0⟩
      case round =>
        obtain ⟨j, hj, rfl, hC, hF, c0, c1, hsz, hb⟩ := hrel
        by_cases hlt2 : j < n
        · have hJ : ∃ b : Bool, (∀ W, Calls Try.prog 55 #[.agg #[.int .i64 n, .int .u32 e], .int .i64 i, .int .i64 j] W fun r w' => r = .returned (.bool b) ∧ Below W.heap.size W w') ∧ (b = true ↔ i ≠ j ∧ jn e i j = true) := by
            by_cases hij : i = j
            · subst hij; exact ⟨false, fun W => sjoined_self W n e i, by simp⟩
            · exact ⟨jn e i j, fun W => sjoined_any W n e i j he (by omega) (by omega) hij, by simp [hij]⟩
          obtain ⟨b, hJ, hb2⟩ := hJ
          replace hJ := Lib.hid hJ
          have hcell := hC i hlt
          simp only [Nat.lt_irrefl, if_false, if_true] at hcell
          have hfz := hF i
          have hle := cnt_le e i j
          have hC0 := Lib.hid hC
          have hF0 := Lib.hid hF
          have hw0 : w.heap.size < wr.heap.size := by omega
          obtain ⟨x, hxx⟩ : ∃ x, cnt e i j = x := ⟨_, rfl⟩
          rw [hxx] at hcell hle
          have hnx : cnt e i (j + 1) = x + if b = true then 1 else 0 := by
            rw [cnt, hxx]
            by_cases hbb : b = true
            · rw [if_pos (hb2.1 hbb), if_pos hbb]
            · rw [if_neg (fun c => hbb (hb2.2 c)), if_neg hbb]
          replace hxx := Lib.hid hxx
          clear hC hF hb2
          cases b
          · have hnx := Lib.hid hnx
            go_wp2_with fail
            refine (hJ.out _).mono ?_
            rintro r3 w3 ⟨rfl, hb3⟩
            have e0 := (hb3.cell (p := ⟨w.heap.size, 0, none⟩) hw0).trans c0
            have e1 := (hb3.cell (p := ⟨w.heap.size, 1, none⟩) hw0).trans c1
            go_wp2
            go_roundw
            case rel => exact ⟨j + 1, by omega, by go_num, (hC0.out.below hb3 hsz).congr (fun v hv => by rw [hnx.out, hxx.out]; simp), fun o => (hb3.frozen (p := ⟨B, o, none⟩) hsz).trans (hF0.out o), e0, e1, Nat.lt_of_lt_of_le hsz hb3.size, by (repeat (first | exact Below.refl _ _ | assumption | refine bchain (by assumption) ?_ | refine balloc ?_ _ | apply Below.drew | apply below_drewN | (refine Below.alloc ?_ (by (try simp) <;> omega) _) | (refine Below.setCell ?_ (by (try simp) <;> omega) _)))⟩
            case measure => simp [intOf]; omega
          · have hnx := Lib.hid hnx
            go_wp2_with fail
            refine (hJ.out _).mono ?_
            rintro r3 w3 ⟨rfl, hb3⟩
            have e0 := (hb3.cell (p := ⟨w.heap.size, 0, none⟩) hw0).trans c0
            have e1 := (hb3.cell (p := ⟨w.heap.size, 1, none⟩) hw0).trans c1
            have e2 := (hb3.cell (p := ⟨B, i, none⟩) hsz).trans hcell
            have e3 := (hb3.frozen (p := ⟨B, i, none⟩) hsz).trans hfz
            have hn := (hC0.out.below hb3 hsz).set (k := i) (x := (x : Int) + 1) (g := fun v => if v < i then (cnt e v n : Nat) else if v = i then (cnt e i (j + 1) : Nat) else 0) hlt (by rw [hnx.out]; simp) (fun v hv => by simp [hv])
            replace hn := Lib.hid hn
            have hF3 := Lib.hid (fun o => (hb3.frozen (p := ⟨B, o, none⟩) hsz).trans (hF0.out o))
            have hs3 := Nat.lt_of_lt_of_le hsz hb3.size
            go_wp2
            go_roundw
            case rel => exact ⟨j + 1, by omega, by go_num, hn.out, fun o => by simp [hF3.out o], (World.cell?_setCell_other _ _ _ _ (by simp <;> omega)).trans e0, (World.cell?_setCell_other _ _ _ _ (by simp <;> omega)).trans e1, by simp; omega, by (repeat (first | exact Below.refl _ _ | assumption | refine bchain (by assumption) ?_ | refine balloc ?_ _ | apply Below.drew | apply below_drewN | (refine Below.alloc ?_ (by (try simp) <;> omega) _) | (refine Below.setCell ?_ (by (try simp) <;> omega) _)))⟩
            case measure => simp [intOf]; omega
        · obtain rfl : j = n := by omega
          have hdd := decide_eq_false (show ¬ ((j : Int) < (j : Int)) by omega)
          have hC0 := Lib.hid (hC.congr (g := fun v => if v < i + 1 then (cnt e v j : Nat) else 0) (fun v hv => by
            by_cases c : v < i
            · rw [if_pos c, if_pos (by omega)]
            · by_cases d : v = i
              · subst d; rw [if_neg c, if_pos rfl, if_pos (by omega)]
              · rw [if_neg c, if_neg d, if_neg (by omega)]))
          have hF0 := Lib.hid hF
          clear hC hF
          go_wp2
          go_roundw
          case rel => exact ⟨i + 1, by omega, by go_num, hC0.out, hF0.out, c0, c1, hsz, hb⟩
          case measure => simp [intOf]; omega
    · obtain rfl : i = n := by omega
      have hdd := decide_eq_false (show ¬ ((i : Int) < (i : Int)) by omega)
      have hC0 := Lib.hid (hC.congr (g := fun v => (degE i e v : Nat)) (fun v hv => by rw [if_pos hv, hx.out v hv]))
      have hF0 := Lib.hid hF
      clear hC hF
      go_wp2
      go_ret2
      exact ⟨⟨_, rfl, _, i, rfl, Nat.le_refl _, by omega, fun _ => ⟨B, rfl, by omega, hsz, hC0.out, fun o _ => hF0.out o⟩⟩, hb⟩

theorem eo_any (n e : Int) :
    Calls Try.prog 45 #[.agg #[.int .i64 n, .int .u32 e]] w fun r w' => ∃ Bg, r = .returned (.func (.func 64) #[] #[.pointer (some ⟨Bg, 0, none⟩), .pointer (some ⟨Bg + 1, 0, none⟩)]) ∧
      w.heap.size ≤ Bg ∧ Below w.heap.size w w' ∧ Bg + 2 ≤ w'.heap.size ∧ w'.cell? ⟨Bg, 0, none⟩ = some (.int .i64 n) ∧ w'.cell? ⟨Bg, 1, none⟩ = some (.int .u32 e) ∧ w'.cell? ⟨Bg + 1, 0, none⟩ = some (.func (.func 62) #[] #[]) := by
  go_enter Try.func45, Try.ntmps45
  go_wp2_with fail
  refine (pt_any _ n e 62).mono ?_
  rintro r1 w1 ⟨rfl, hb1, hz, g0, g1, ga⟩
  have e1 : (w.alloc (.cells #[.int .i64 n, .int .u32 e] 28)).heap.size = w.heap.size + 1 := by simp
  go_wp2
  go_ret
  exact ⟨w.heap.size + 1, rfl, by omega, by (repeat (first | exact Below.refl _ _ | assumption | refine bchain (by assumption) ?_ | refine balloc ?_ _ | apply Below.drew | apply below_drewN | (refine Below.alloc ?_ (by (try simp) <;> omega) _) | (refine Below.setCell ?_ (by (try simp) <;> omega) _))), by omega, by rw [← e1]; exact g0, by rw [← e1]; exact g1, by rw [← e1]; exact ga⟩

set_option maxHeartbeats 2000000 in
theorem ideg_ok (n e : Nat) (h : VG n e) :
    Calls Try.prog 31 #[.agg #[.int .i64 n, .int .u32 e]] w fun r w' => (∃ v, r = .returned (.tuple #[v, .int .i64 0]) ∧ OwnI w w' v n (fun v => (degE n e v : Nat))) ∧ Below w.heap.size w w' := by
  have he : e < 4294967296 := by have := h.2.2.2; have := eMax_le n; simp at *; omega
  have hn5 : n ≤ 5 := by have := h.2.1; omega
  have hmk := run_make_row' (P := Try.prog) 38 2 (.int .i64 0) 8 Try.underlying38 info_i64 rfl .i64 .i64 n (by omega) (by omega)
  obtain ⟨O, hO⟩ : ∃ O, O = Obj.cells (madeCells #[.int .i64 0] n) 2 := ⟨_, rfl⟩
  rw [← hO] at hmk
  replace hO := Lib.hid hO
  refine (callsIn_wide (n := 5)).1 ?_
  refine callsIn_of_wp_marks Try.func31 rfl trivial ?_ rfl
  simp only [Try.ntmps31, List.size_toArray, List.length_cons, List.length_nil, Nat.reduceAdd, Nat.reduceSub, Array.replicate_succ, Array.replicate_zero, List.push_toArray, List.append_toArray, List.nil_append, List.cons_append]
  gi_wp2_with (first
    | (refine ⟨trivial, ?_⟩; gi_at_call 44; refine (callsIn_wide.2 (valid_t _ n e h)).mono ?_; rintro r1 w1 ⟨rfl, hb1⟩; obtain ⟨hc1, hz1⟩ := bkeep hb1 w.heap.size (by (try simp) <;> omega))
    | (refine ⟨trivial, ?_⟩; gi_at_call 45; refine (callsIn_wide.2 (eo_any _ n e)).mono ?_; rintro r2 w2 ⟨Bg, rfl, hBg, hb2, hz2, g0, g1, ga⟩))
  have hB1 : Below w.heap.size w w1 := by (repeat (first | exact Below.refl _ _ | assumption | refine bchain (by assumption) ?_ | refine balloc ?_ _ | apply Below.drew | apply below_drewN | (refine Below.alloc ?_ (by (try simp) <;> omega) _) | (refine Below.setCell ?_ (by (try simp) <;> omega) _)))
  have hB2 : Below w.heap.size w w2 := by (repeat (first | exact Below.refl _ _ | assumption | refine bchain (by assumption) ?_ | refine balloc ?_ _ | apply Below.drew | apply below_drewN | (refine Below.alloc ?_ (by (try simp) <;> omega) _) | (refine Below.setCell ?_ (by (try simp) <;> omega) _)))
  have hBge := hB1.size
  have hsz := hB2.size
  have es : ((w1.alloc O).alloc (.cells #[.slice (some ⟨w1.heap.size, 0, none⟩) n n] 38)).heap.size = w1.heap.size + 2 := by simp
  rw [es] at hBg
  have k1 : ∀ o, w2.cell? ⟨w1.heap.size, o, none⟩ = (w1.alloc O).cell? ⟨w1.heap.size, o, none⟩ := fun o => (hb2.cell (p := ⟨w1.heap.size, o, none⟩) (by rw [es]; show w1.heap.size < _; omega)).trans (cOld _ _ _ _ (by simp))
  have k2 : ∀ o, w2.frozen? ⟨w1.heap.size, o, none⟩ = (w1.alloc O).frozen? ⟨w1.heap.size, o, none⟩ := fun o => (hb2.frozen (p := ⟨w1.heap.size, o, none⟩) (by rw [es]; show w1.heap.size < _; omega)).trans (fOld _ _ _ _ (by simp))
  have qP : w2.cell? ⟨w1.heap.size + 1, 0, none⟩ = some (.slice (some ⟨w1.heap.size, 0, none⟩) n n) := (hb2.cell (p := ⟨w1.heap.size + 1, 0, none⟩) (by rw [es]; show w1.heap.size + 1 < _; omega)).trans (by rw [cNew _ _ _ _ _ (by simp)]; rfl)
  have qC : CF w2 w1.heap.size n (fun _ => 0) := fun i hi => by rw [k1, hO.out]; exact madeCell w1 n _ _ rfl i hi
  have qF : ∀ o, o < n → w2.frozen? ⟨w1.heap.size, o, none⟩ = false := fun o _ => by rw [k2, hO.out]; exact fNew _ _ _ _ _ rfl
  obtain ⟨B, hB⟩ : ∃ B, w1.heap.size = B := ⟨_, rfl⟩
  rw [hB] at qP qC qF hBg hBge ⊢
  have hBlt : B + 1 < w2.heap.size := by omega
  clear k1 k2 hc1 hb1 hb2 hB1 hz1 es
  refine wpIn_rangeFunc_ownG rfl (by omega) (gf := 64) (lb := #[.pointer (some ⟨Bg, 0, none⟩), .pointer (some ⟨Bg + 1, 0, none⟩)]) rfl trivial (enters_of Try.func64 (by kernel_rfl) rfl)
    (pj_stops 4 (by omega) n e hn5 (fun i j => jn e i j) Bg (Bg + 1) w2 (by omega) (by omega) g0 g1 ga (fun W i j hij hj => joined_any W n e i j he (by omega) hj))
    Kp2.trans (Kp2.put (by omega) (by omega)) (Below.refl _ _) (fun _ => rfl)
    (fun pre W => (CF W B n (fun v => (degs (vals pre) v : Nat)) ∧ (∀ o, o < n → W.frozen? ⟨B, o, none⟩ = false) ∧ W.cell? ⟨B + 1, 0, none⟩ = some (.slice (some ⟨B, 0, none⟩) n n)) ∧ Below w.heap.size w W)
    (fun _ _ _ => False)
    (OwnFrom.and (Own.from (fun s A B row hs hg hr => ⟨fun i hi => cell_kept (hs.1 i hi) hg hr, fun i hi => (frozen_kept (hs.1 i hi) hg hr).trans (hs.2.1 i hi), cell_kept hs.2.2 hg hr⟩) _) (ownFrom_below (Nat.le_refl _) hsz))
    (fun _ _ _ _ _ hs _ _ => hs)
    ⟨⟨qC, qF, qP⟩, hB2⟩
    (fun x => { tmps := #[.agg #[.int .i64 n, .int .u32 e], .pointer (some ⟨w.heap.size, 0, none⟩), .slice none 0 0, .int .i64 0, .pointer (some ⟨B + 1, 0, none⟩), .int .i64 (x.1.1 : Nat), .int .i64 (x.1.2 : Nat), .agg #[.int .i64 n, .int .u32 e], .bool true, .bool false, .pointer (some ⟨w.heap.size, 0, none⟩), .int .i64 n, .slice (some ⟨B, 0, none⟩) n n, .agg #[.int .i64 n, .int .u32 e],
      .func (.func 64) #[] #[.pointer (some ⟨Bg, 0, none⟩), .pointer (some ⟨Bg + 1, 0, none⟩)], .int .i64 (x.1.1 : Nat), .int .i64 (x.1.2 : Nat), undef, undef, undef, undef, undef, undef, undef, undef, undef, undef, undef, undef, undef], defers := [] }) ?assign ?body ?done ?stop
  case assign =>
    intro l x W K hK
    gi_wp2
    exact hK
  case body =>
    rintro l pre ⟨⟨i, j⟩, hij, hj⟩ W ⟨⟨qC, qF, qP⟩, hb⟩ hlen
    dsimp only at hij hj ⊢
    have ci : W.cell? ⟨B, i, none⟩ = some (.int .i64 (degs (vals pre) i : Nat)) := qC i (by omega)
    have cj : W.cell? ⟨B, j, none⟩ = some (.int .i64 (degs (vals pre) j : Nat)) := qC j hj
    have fi := qF i (by omega)
    have fj := qF j hj
    have li := degs_le (vals pre) i
    have lj := degs_le (vals pre) j
    rw [vals_length] at li lj
    have hx : ∀ v, degs (vals (pre ++ [⟨(i, j), hij, hj⟩])) v = degs (vals pre) v + (if v = i then 1 else 0) + (if v = j then 1 else 0) := fun v => by rw [vals_snoc, degs_snoc]
    have h1 := qC.set (k := i) (x := (degs (vals pre) i : Int) + 1) (g := fun v => ((degs (vals pre) v + (if v = i then 1 else 0) : Nat) : Int)) (by omega) (by simp) (fun v hv => by simp [hv])
    have h2 := h1.set (k := j) (x := (degs (vals pre) j : Int) + 1) (g := fun v => (degs (vals (pre ++ [⟨(i, j), hij, hj⟩])) v : Nat)) hj (by rw [hx, if_neg (show ¬ j = i by omega), if_pos rfl]; simp) (fun v hv => by rw [hx]; simp [hv])
    have cj2 := (World.cell?_setCell_other W ⟨B, i, none⟩ ⟨B, j, none⟩ (.int .i64 ((degs (vals pre) i : Int) + 1)) (by simp <;> omega)).trans cj
    have hsz2 := hb.size
    replace h2 := Lib.hid h2
    replace qF := Lib.hid qF
    clear h1 qC hx
    obtain ⟨x, hxx⟩ : ∃ x : Nat, degs (vals pre) i = x := ⟨_, rfl⟩
    obtain ⟨y, hyy⟩ : ∃ y : Nat, degs (vals pre) j = y := ⟨_, rfl⟩
    rw [hxx] at ci li h2 cj2
    rw [hyy] at cj lj h2 cj2
    clear hxx hyy
    gi_wp2
    have hko := ((KeepsOthers.setCell W ⟨B, i, none⟩ (.int .i64 ((x : Int) + 1))).trans (KeepsOthers.setCell _ ⟨B, j, none⟩ (.int .i64 ((y : Int) + 1)))).from w2.heap.size
    exact ⟨hko, (Kp2.set W ⟨B, i, none⟩ _ (by show B ≠ _; omega) (by show B ≠ _; omega)).trans (Kp2.set _ ⟨B, j, none⟩ _ (by show B ≠ _; omega) (by show B ≠ _; omega)),
      ⟨h2.out, fun o ho => by simp [qF.out o ho], (World.cell?_setCell_other _ _ _ _ (by simp <;> omega)).trans ((World.cell?_setCell_other _ _ _ _ (by simp <;> omega)).trans qP)⟩, by (repeat (first | exact Below.refl _ _ | assumption | refine bchain (by assumption) ?_ | refine balloc ?_ _ | apply Below.drew | apply below_drewN | (refine Below.alloc ?_ (by (try simp) <;> omega) _) | (refine Below.setCell ?_ (by (try simp) <;> omega) _)))⟩
  case done =>
    rintro D xs W hD hS ⟨⟨qC, qF, qP⟩, hb⟩ hK
    have qC2 := Lib.hid (qC.congr (g := fun v => (degE n e v : Nat)) (fun v hv => by rw [degE, hS]))
    have qF2 := Lib.hid qF
    clear qC qF
    gi_wp2
    refine ⟨by simp, .inl ⟨_, _, rfl, run_takeDeferred hK, ?_⟩⟩
    have hbe := hb.trans (belowK_b (w := w) (Nat.le_refl _) W D _ (.deferred none) (by omega) hK rfl rfl)
    refine ⟨_, results_tmp2 rfl _ _ _, ⟨_, rfl, _, n, rfl, Nat.le_refl _, by omega, fun hn0 => ⟨B, rfl, by omega, ?_, ?_, ?_⟩⟩, hbe⟩
    · have h1 := cell_lt (qC2.out 0 hn0)
      simpa [World.putObj] using h1
    · exact fun i hi => cell_kept (qC2.out i hi) (grownBy_putObj' _ D (.deferred none)) (fun r e => by cases e; exact ⟨_, hK, rfl⟩)
    · exact fun i hi => (frozen_kept (qC2.out i hi) (grownBy_putObj' _ D (.deferred none)) (fun r e => by cases e; exact ⟨_, hK, rfl⟩)).trans (qF2.out i hi)
  case stop =>
    rintro D c pre W _ _ h _
    exact h.elim
end

theorem deg_both (n e : Int) (hn : e < 4294967296) (he0 : 0 ≤ e) : ∃ (l : Nat) (f : Nat → Int) (c : Int), l ≤ 5 ∧
    (∀ W, Calls Try.prog 30 #[.agg #[.int .i64 n, .int .u32 e]] W fun r w' => (∃ v, r = .returned (.tuple #[v, .int .i64 c]) ∧ OwnI W w' v l f) ∧ Below W.heap.size W w') ∧
    (∀ W, Calls Try.prog 31 #[.agg #[.int .i64 n, .int .u32 e]] W fun r w' => (∃ v, r = .returned (.tuple #[v, .int .i64 c]) ∧ OwnI W w' v l f) ∧ Below W.heap.size W w') := by
  by_cases h : VG n e
  · obtain ⟨n', rfl⟩ : ∃ k : Nat, n = k := ⟨n.toNat, by have := h.1; omega⟩
    obtain ⟨e', rfl⟩ : ∃ k : Nat, e = k := ⟨e.toNat, by omega⟩
    exact ⟨_, _, _, by have := h.2.1; omega, fun W => sdeg_ok W n' e' h, fun W => ideg_ok W n' e' h⟩
  · exact ⟨_, _, _, by omega, fun W => sdeg_inv W n e hn he0 h, fun W => ideg_inv W n e hn he0 h⟩
end Go.Proofs.Ytoiepgdjknpjiab
