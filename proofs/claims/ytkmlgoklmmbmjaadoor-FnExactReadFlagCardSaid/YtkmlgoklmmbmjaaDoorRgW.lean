/-
  ReadGraph: the program's readGraphWords.
-/
import Derived.Test.YtkmlgoklmmbmjaaDoorRgP
import Derived.Test.YtkmlgoklmmbmjaaDoorRgS
namespace Go.Proofs.YtkmlgoklmmbmjaaDoor
open Go.RowKit
set_option maxRecDepth 100000
attribute [local go_sem] Oper.semAt_some
attribute [-go_sem] run_slice_l run_slice_any
def flatI (ps : List (Int × Int)) : List Value := ps.flatMap fun p => [.int .i64 p.1, .int .i64 p.2]
theorem flatI_snoc (ps : List (Int × Int)) (p : Int × Int) : flatI (ps ++ [p]) = flatI ps ++ [.int .i64 p.1, .int .i64 p.2] := by simp [flatI]
theorem flatI_get (ps : List (Int × Int)) : ∀ i, i < ps.length → (flatI ps)[i * 2]? = some (.int .i64 (pf ps i).1) ∧ (flatI ps)[i * 2 + 1]? = some (.int .i64 (pf ps i).2) := by
  induction ps with
  | nil => intro i hi; simp at hi
  | cons p ps ih =>
    intro i hi
    rw [show flatI (p :: ps) = .int .i64 p.1 :: .int .i64 p.2 :: flatI ps from rfl]
    cases i with
    | zero => exact ⟨rfl, rfl⟩
    | succ i =>
      have := ih i (by simpa using hi)
      rw [show (i + 1) * 2 = i * 2 + 1 + 1 by omega]
      simpa [pf] using this
theorem ownA_of_rowI {w0 w : World} {base : Nat} {e : TypeId} {v : Value} {ps : List (Int × Int)} (h : w.ownsRow base e 2 v ps.length (flatI ps)) (hb : w0.heap.size ≤ base) : OwnA w0 w v ps.length (pf ps) := by
  obtain ⟨hl, (⟨rfl, h0⟩ | ⟨g, cap, cur, rfl, hg, hh, hn, hc, hs, hx⟩)⟩ := h
  · exact ⟨none, 0, by rw [h0], fun c => absurd c (by omega)⟩
  · have hcell : ∀ i, w.cell? ⟨g, i, none⟩ = cur[i]? := fun i => by simp [World.cell?, hh]
    have hat : ∀ j u, j < ps.length * 2 → (flatI ps)[j]? = some u → cur[j]? = some u := fun j u hj hu => by
      have h1 : (cur.toList.take (ps.length * 2))[j]? = some u := by rw [hx]; exact hu
      rw [List.getElem?_take_of_lt hj] at h1
      simpa using h1
    refine ⟨some ⟨g, 0, none⟩, cap, rfl, fun _ => ⟨g, rfl, Nat.le_trans hb hg, (Array.getElem?_eq_some_iff.1 hh).1, fun i hi => ?_, fun o => by simp [World.frozen?, hh]⟩⟩
    obtain ⟨f0, f1⟩ := flatI_get ps i hi
    exact ⟨(hcell _).trans (hat _ _ (by omega) f0), (hcell _).trans (hat _ _ (by omega) f1)⟩
/-- GraphOf over whatever pairs -/
theorem igo_res (n : Int) (l : Nat) (f : Nat → Int × Int) (hm : l ≤ 1048576) : ∃ (m e : Nat) (c : Int), e < 4294967296 ∧
    (∀ W0 W v, OwnA W0 W v l f → Calls Tryd.prog 67 #[.int .i64 n, v] W fun r w' => r = .returned (.tuple #[.agg #[.int .i64 m, .int .u32 e], .int .i64 c]) ∧ Below W.heap.size W w') ∧
    (0 ≤ n → n ≤ 5 → (∀ i, i < l → IsP n (f i).1 (f i).2) → (m : Int) = n ∧ e = geE f l ∧ c = 0) := by
  by_cases hr : n < 0 ∨ 5 < n
  · exact ⟨0, 0, 2, by omega, fun _ W v _ => igo_out W n v hr, fun h1 h2 => by omega⟩
  · obtain ⟨n', rfl⟩ : ∃ k : Nat, n = k := ⟨n.toNat, by omega⟩
    have hn : n' ≤ 5 := by omega
    rcases Nat.eq_zero_or_pos l with h0 | h0
    · subst h0
      exact ⟨n', 0, 0, by omega, fun _ W v h => by obtain ⟨a, cap, rfl, _⟩ := h; exact igo_empty W a cap n' hn, fun _ _ _ => ⟨rfl, rfl, rfl⟩⟩
    · have hj : ∃ j, j ≤ l ∧ (∀ i, i < j → IsP n' (f i).1 (f i).2) ∧ (j < l → ¬ IsP n' (f j).1 (f j).2) := by
        clear hm h0
        induction l with
        | zero => exact ⟨0, Nat.le_refl _, fun i hi => absurd hi (by omega), fun h => absurd h (by omega)⟩
        | succ l ih =>
          obtain ⟨j, h1, h2, h3⟩ := ih
          rcases Nat.lt_or_ge j l with h | h
          · exact ⟨j, by omega, h2, fun _ => h3 h⟩
          · obtain rfl : j = l := by omega
            by_cases hP : IsP n' (f j).1 (f j).2
            · exact ⟨j + 1, by omega, fun i hi => by
                rcases Nat.lt_or_ge i j with h | h
                · exact h2 i h
                · obtain rfl : i = j := by omega
                  exact hP, fun h => absurd h (by omega)⟩
            · exact ⟨j, by omega, h2, fun _ => hP⟩
      obtain ⟨j, hj1, hj2, hj3⟩ := hj
      by_cases hjl : j < l
      · refine ⟨0, 0, 2, by omega, fun W0 W v h => ?_, fun _ _ h => absurd (h j hjl) (hj3 hjl)⟩
        obtain ⟨a, cap, rfl, hB⟩ := h
        obtain ⟨B, rfl, hB1, hB2, hca, hfz⟩ := hB h0
        have := igo_some W B cap n' l f j hn h0 hm hB2 hca hj1 hj2 hj3
        rwa [if_pos hjl] at this
      · obtain rfl : j = l := by omega
        refine ⟨n', geE f j, 0, by have := geE_lt n' f (by omega) j hj2; omega, fun W0 W v h => ?_, fun _ _ _ => ⟨rfl, rfl, rfl⟩⟩
        obtain ⟨a, cap, rfl, hB⟩ := h
        obtain ⟨B, rfl, hB1, hB2, hca, hfz⟩ := hB h0
        have := igo_some W B cap n' j f j hn h0 hm hB2 hca hj1 hj2 hj3
        rwa [if_neg hjl] at this
/-- what is read off the words -/
def RwP (ws : List (List UInt8)) (r : Ending) : Prop := ∃ (n e : Nat) (b : Bool), r = .returned (.tuple #[.agg #[.int .i64 n, .int .u32 e], .bool b]) ∧ e < 4294967296 ∧ (b = true → 2 ≤ ws.length) ∧
  ∀ n' e' : Nat, VG n' e' → ws = gWord :: Lib.decDigits n' :: (prE n' e').map pWord → n = n' ∧ e = e' ∧ b = true
theorem rwP_bad {ws : List (List UInt8)} (h : ∀ n e : Nat, VG n e → ws ≠ gWord :: Lib.decDigits n :: (prE n e).map pWord) : RwP ws (.returned (.tuple #[.agg #[.int .i64 0, .int .u32 0], .bool false])) := ⟨0, 0, false, rfl, by omega, (fun c => by cases c), fun n e hv hw => absurd hw (h n e hv)⟩
section
variable (w : World)
set_option maxHeartbeats 4000000 in
theorem irw_any (ws : List (List UInt8)) (B L cap : Nat) (hws : ws.length = L) (h1L : 1 ≤ L) (hLm : L ≤ 1048578) (hcap : L ≤ cap) (hcm : cap ≤ 9223372036854775807) (hB : B < w.heap.size)
    (hcell : ∀ i (h : i < ws.length), w.cell? ⟨B, i, none⟩ = some (.string (tx ws[i]))) (hwl : ∀ u ∈ ws, u.length ≤ 2000000) (hL : LibW w) :
    Calls Tryd.prog 45 #[.slice (some ⟨B, 0, none⟩) L cap] w fun r w' => RwP ws r ∧ Below w.heap.size w w' := by
  replace hcell := Lib.hid (fun i (hi : i < L) => hcell i (by omega))
  replace hwl := Lib.hid hwl
  replace hws := Lib.hid hws
  have hKw := Lib.hid (fun (n e : Nat) (h : ws = gWord :: Lib.decDigits n :: (prE n e).map pWord) => show L = (prE n e).length + 2 ∧ (∀ h0 : 0 < L, ws[0]'(by have := hws.out; omega) = gWord) ∧ (∀ h1 : 1 < L, ws[1]'(by have := hws.out; omega) = Lib.decDigits n) ∧ ∀ k, (hk : k + 2 < L) → ∃ p, (prE n e)[k]? = some p ∧ ws[k + 2]'(by have := hws.out; omega) = pWord p by
    have hLL : L = (prE n e).length + 2 := by rw [← hws.out, h]; simp
    refine ⟨hLL, fun h0 => by simp only [h, List.getElem_cons_zero], fun h1 => by simp only [h, List.getElem_cons_succ, List.getElem_cons_zero], fun k hk => ?_⟩
    have hj : k < (prE n e).length := by omega
    refine ⟨(prE n e)[k], List.getElem?_eq_getElem hj, ?_⟩
    simp only [h, List.getElem_cons_succ, List.getElem_map])
  obtain ⟨i0, hi, hz0, hz1, hz2⟩ := info_parts info_a2
  replace hi := Lib.hid hi
  replace hz0 := Lib.hid hz0
  replace hz1 := Lib.hid hz1
  replace hz2 := Lib.hid hz2
  have hfR := GxB.made w 0 0 36
  have hB0 : Below w.heap.size w (w.alloc (.cells #[.int .i64 0, .int .u32 0] 36)) := by (repeat (first | exact Below.refl _ _ | assumption | refine bchain (by assumption) ?_ | refine balloc ?_ _ | apply Below.drew | apply below_drewN | (refine Below.alloc ?_ (by (try simp) <;> omega) _) | (refine Below.setCell ?_ (by (try simp) <;> omega) _)))
  obtain ⟨W0, hW0⟩ : ∃ W0, W0 = w.alloc (.cells #[.int .i64 0, .int .u32 0] 36) := ⟨_, rfl⟩
  rw [← hW0] at hfR hB0
  replace hW0 := Lib.hid hW0
  have hL' := Lib.hid (fun W (h : Below w.heap.size w W) => hL.below h)
  clear hL
  have hfR' := Lib.hid hfR
  obtain ⟨_, r0, r1, rz⟩ := hfR
  have rz0 := rz 0
  have rz1 := rz 1
  clear rz
  have h0 := hcell.out 0 (by omega)
  have hBne : w.heap.size ≠ B := by omega
  have hBne2 : B ≠ w.heap.size := by omega
  obtain ⟨u0, hu0⟩ : ∃ u, ws[0]'(by have := hws.out; omega) = u := ⟨_, rfl⟩
  rw [hu0] at h0
  have hq0 : ((tx u0).toList == [103, 114, 97, 112, 104]) = decide (u0 = gWord) := by
    rw [show (tx u0).toList = u0 from ByteArray.toList_mk u0]
    by_cases h : u0 = gWord
    · subst h; rfl
    · rw [decide_eq_false h]; exact beq_false_of_ne h
  have hb0 := Lib.hid (fun (h : u0 ≠ gWord) => rwP_bad (ws := ws) (fun n e _ hw => h (by rw [← hu0]; exact (hKw.out n e hw).2.1 (by omega))))
  obtain ⟨t0, ht0⟩ : ∃ t, tx u0 = t := ⟨_, rfl⟩
  rw [ht0] at h0 hq0
  clear ht0 hu0
  by_cases hL2 : L < 2
  · have hbad := Lib.hid (rwP_bad (ws := ws) (fun n e _ hw => by have := (hKw.out n e hw).1; omega))
    have d1 := decide_eq_true (show ((L : Int) < 2) by omega)
    clear hq0 h0
    go_enter Tryd.func45, Tryd.ntmps45
    go_wp2
    exact bodyPost_ret (v := .tuple #[.agg #[.int .i64 0, .int .u32 0], .bool false]) (by simp [results, Tryd.results45, go_sem]) rfl ⟨hbad.out, by rw [← hW0.out]; exact hB0⟩
  have d1 := decide_eq_false (show ¬ ((L : Int) < 2) by omega)
  by_cases hg : u0 = gWord
  rotate_left
  · have hbad := Lib.hid (hb0.out hg)
    rw [decide_eq_false hg] at hq0
    clear hg
    go_enter Tryd.func45, Tryd.ntmps45
    go_wp2
    exact bodyPost_ret (v := .tuple #[.agg #[.int .i64 0, .int .u32 0], .bool false]) (by simp [results, Tryd.results45, go_sem]) rfl ⟨hbad.out, by rw [← hW0.out]; exact hB0⟩
  rw [decide_eq_true hg] at hq0
  clear hg hb0
  have h1 := hcell.out 1 (by omega)
  obtain ⟨u1, hu1⟩ : ∃ u, ws[1]'(by have := hws.out; omega) = u := ⟨_, rfl⟩
  rw [hu1] at h1
  have hP1 := Lib.hid (fun W (h : Below w.heap.size w W) => pi_any W u1 (hwl.out u1 (by rw [← hu1]; exact List.getElem_mem _)) (hL'.out W h))
  have hKn := Lib.hid (fun (n e : Nat) (hw : ws = gWord :: Lib.decDigits n :: (prE n e).map pWord) => show u1 = Lib.decDigits n by rw [← hu1]; exact (hKw.out n e hw).2.2.1 (by omega))
  obtain ⟨t1, ht1⟩ : ∃ t, tx u1 = t := ⟨_, rfl⟩
  rw [ht1] at h1 hP1
  clear ht1 hu1
  go_enter Tryd.func45, Tryd.ntmps45
  go_wp2_with fail
  rw [← hW0.out]
  refine (hP1.out _ hB0).mono ?_
  rintro r2 w2 ⟨⟨v, ev, rfl, hpr⟩, hb2⟩
  replace hfR' := Lib.hid (hfR'.out.below hb2)
  have hB2 := bchain hb2 hB0
  clear hb2 r0 r1 rz0 rz1 h0 h1 hq0
  rcases hpr with ⟨rfl, hok⟩ | ⟨⟨t, p0, rfl⟩, hno⟩
  rotate_left
  · have hbad := Lib.hid (rwP_bad (ws := ws) (fun n e hv hw => by
      have h := hKn.out n e hw
      subst h
      have := (vg_nat hv).1
      exact hno _ (parse_dec n (by omega))))
    obtain ⟨_, r0, r1, rz⟩ := hfR'.out
    have rz0 := rz 0
    have rz1 := rz 1
    clear hno rz
    go_wp2
    have hG := (hfR'.out).put (0) (0)
    have hBB := ((hB2).setCell (p := ⟨w.heap.size, 0, none⟩) (by show w.heap.size ≤ w.heap.size; omega) (.int .i64 (0))).setCell (p := ⟨w.heap.size, 1, none⟩) (by show w.heap.size ≤ w.heap.size; omega) (.int .u32 (0))
    obtain ⟨WW, hWW⟩ : ∃ WW, WW = ((w2).setCell ⟨w.heap.size, 0, none⟩ (.int .i64 (0))).setCell ⟨w.heap.size, 1, none⟩ (.int .u32 (0)) := ⟨_, rfl⟩
    rw [← hWW] at hG hBB ⊢
    clear hWW
    obtain ⟨_, F0, F1, _⟩ := hG
    exact bodyPost_ret (v := .tuple #[.agg #[.int .i64 (0), .int .u32 (0)], .bool false]) (by simp [results, Tryd.results45, go_sem, F0, F1]) rfl ⟨hbad.out, hBB⟩
  have hKv := Lib.hid (fun (n e : Nat) (hv : VG n e) (hw : ws = gWord :: Lib.decDigits n :: (prE n e).map pWord) => show v = (n : Int) by
    have h := hKn.out n e hw
    have := (vg_nat hv).1
    rw [h, parse_dec n (by omega)] at hok
    exact (Lib.NumEnd.ok.inj hok).symm)
  replace hcell := Lib.hid (fun i (hi : i < L) => (hB2.cell (p := ⟨B, i, none⟩) hB).trans (hcell.out i hi))
  have hBz2 : B < w2.heap.size := Nat.lt_of_lt_of_le hB hB2.size
  have hRz : w.heap.size < w2.heap.size := hfR'.out.lt
  clear hok hKn hP1
  obtain ⟨M, rfl⟩ : ∃ M, L = M + 2 := ⟨L - 2, by omega⟩
  have hsl : ∃ (o c2 : Nat), (∀ W : World, (Instr.slice 78 (.slice (some ⟨B, 0, none⟩) (M + 2) cap) (some (.int .i64 2)) none none).run Tryd.prog W = .ok (.slice (some ⟨B, o, none⟩) M c2) W) ∧ (0 < M → o = 2) ∧ M ≤ c2 ∧ c2 ≤ 9223372036854775807 := by
    have hu : Tryd.prog.underlying 78 = some (.slice (Tryd.prog.elem 78)) := by kernel_rfl
    by_cases hc : cap = 2
    · subst hc
      refine ⟨0, 0, fun W => ?_, fun h => by omega, by omega, by omega⟩
      rw [run_slice_l (ht := hu) (h0 := by omega) (h1 := by omega)]
      simp [go_sem, sliced]
    · refine ⟨2, cap - 2, fun W => ?_, fun _ => rfl, by omega, by omega⟩
      rw [run_slice_l (ht := hu) (h0 := by omega) (h1 := by omega)]
      simp [go_sem, sliced]
      exact hc
  obtain ⟨o, c2, hsl, ho, hc2, hc2m⟩ := hsl
  have hIR := Lib.hid (fun (W : World) (h : Below w.heap.size w W) (u : List UInt8) (hu : u ∈ ws) => irp_any W u (hwl.out u hu) (hL'.out W h))
  go_wp2_with fail
  go_loopw [6, 8, 9, 10, 36] (fun vp _ _ _ i wr => ∃ (k : Nat) (ps : List (Int × Int)), k ≤ M ∧ i = .int .i64 k ∧ ps.length = k ∧ Hid (wr.ownsRow w2.heap.size 67 2 vp k (flatI ps)) ∧ Hid (∀ n e : Nat, VG n e → ws = gWord :: Lib.decDigits n :: (prE n e).map pWord → ∀ j, j < k → pf ps j = pAt (prE n e) j) ∧ Below w2.heap.size w2 wr) (fun _ _ _ _ i _ => M - (intOf i).toNat)
  case atStart => exact ⟨0, [], by omega, rfl, rfl, Lib.hid (World.ownsRow_nil _ _ _ _), Lib.hid (fun _ _ _ _ j hj => by omega), Below.refl _ _⟩
  case round =>
    obtain ⟨k, ps, hkM, rfl, hps, hown, hpf, hBr⟩ := hrel
    have hBw := bchain hBr hB2
    by_cases hlt : k < M
    · have hd := decide_eq_true (show ((k : Int) < (M : Int)) by omega)
      obtain rfl : o = 2 := ho (by omega)
      have q := (hBr.cell (p := ⟨B, k + 2, none⟩) hBz2).trans (hcell.out (k + 2) (by omega))
      have hkw : k + 2 < ws.length := by rw [hws.out]; omega
      have hKu := Lib.hid (fun (n e : Nat) (hw : ws = gWord :: Lib.decDigits n :: (prE n e).map pWord) => (hKw.out n e hw).2.2.2 k (by omega))
      have hI := Lib.hid (fun W (h : Below w.heap.size w W) => hIR.out W h (ws[k + 2]) (List.getElem_mem _))
      obtain ⟨u, hu⟩ : ∃ u, ws[k + 2] = u := ⟨_, rfl⟩
      simp only [hu] at q hKu hI
      obtain ⟨t2, ht2⟩ : ∃ t, tx u = t := ⟨_, rfl⟩
      rw [ht2] at q hI
      rw [Nat.add_comm] at q
      clear ht2 hu hkw
      go_wp2_with fail
      refine (hI.out _ hBw).mono ?_
      rintro r3 w3 ⟨⟨x, y, b, rfl, hxy⟩, hb3⟩
      have hB3 := bchain hb3 hBr
      have hBw3 := bchain hb3 hBw
      have hown3 := Lib.hid (hown.out.kept (row := none) (w' := w3) ⟨hb3.os, hb3.tape, hb3.output, hb3.size, fun k hk _ => hb3.block k hk⟩ (by cases (Value.ownBlock _) <;> simp))
      have hfR3 := hfR'.out.below hB3
      clear hown q
      cases b
      · have hbad := Lib.hid (rwP_bad (ws := ws) (fun n e hv hw => by
          obtain ⟨p, h1, h2⟩ := hKu.out n e hw
          have hsm := prE_small (vg_nat hv).1 p (List.mem_of_getElem? h1)
          have := (hxy p (by omega) (by omega) h2).2.2
          cases this))
        have hfR3' := Lib.hid hfR3
        obtain ⟨_, r0, r1, rz⟩ := hfR3
        have rz0 := rz 0
        have rz1 := rz 1
        clear rz hxy
        go_wp2
        have hG := ((hfR3'.out).put (0) (0)).below (balloc (Below.refl _ _) (.cells #[.int .i64 x, .int .i64 y] 67))
        have hBB := balloc (((hBw3).setCell (p := ⟨w.heap.size, 0, none⟩) (by show w.heap.size ≤ w.heap.size; omega) (.int .i64 (0))).setCell (p := ⟨w.heap.size, 1, none⟩) (by show w.heap.size ≤ w.heap.size; omega) (.int .u32 (0))) (.cells #[.int .i64 x, .int .i64 y] 67)
        obtain ⟨WW, hWW⟩ : ∃ WW, WW = (((w3).setCell ⟨w.heap.size, 0, none⟩ (.int .i64 (0))).setCell ⟨w.heap.size, 1, none⟩ (.int .u32 (0))).alloc (.cells #[.int .i64 x, .int .i64 y] 67) := ⟨_, rfl⟩
        rw [← hWW] at hG hBB ⊢
        clear hWW
        obtain ⟨_, F0, F1, _⟩ := hG
        exact bodyPost_ret (v := .tuple #[.agg #[.int .i64 (0), .int .u32 (0)], .bool false]) (by simp [results, Tryd.results45, go_sem, F0, F1]) rfl ⟨hbad.out, hBB⟩
      have hpf' := Lib.hid (fun (n e : Nat) (hv : VG n e) (hw : ws = gWord :: Lib.decDigits n :: (prE n e).map pWord) => show ∀ j, j < k + 1 → pf (ps ++ [(x, y)]) j = pAt (prE n e) j from fun j hj => by
        obtain ⟨p, h1, h2⟩ := hKu.out n e hw
        have hsm := prE_small (vg_nat hv).1 p (List.mem_of_getElem? h1)
        obtain ⟨f1, f2, _⟩ := hxy p (by omega) (by omega) h2
        by_cases h : j = k
        · subst h
          unfold pf pAt
          rw [List.getElem?_append_right (by omega), hps, Nat.sub_self, h1]
          show (x, y) = _
          rw [f1, f2]
          rfl
        · have := hpf.out n e hv hw j (by omega)
          unfold pf at this ⊢
          rwa [List.getElem?_append_left (by omega)])
      have hM20 : k < 1048577 := by omega
      have hs3 := hB3.size
      have hnx := Lib.hid (flatI_snoc ps (x, y))
      clear hxy hKu hI hfR3
      go_wp2_with (at_builtin; refine wpList_append_own _ rfl _ _ 65 rfl w2.heap.size 67 i0 (.agg #[.int .i64 0, .int .i64 0]) 2 16 Tryd.underlying65 hi.out hz0.out hz1.out hz2.out rfl (by decide) _ _ _ rfl ((hown3.out.alloc _).alloc _) ⟨w3.heap.size + 1, 0, none⟩ 1 1 [.int .i64 x, .int .i64 y] rfl rfl (fun q u hq => by match q, hq with
        | 0, hq => simp at hq; subst hq; rw [show (⟨w3.heap.size + 1, 0, none⟩ : Addr).add 0 = ⟨w3.heap.size + 1, 0, none⟩ from rfl, cNew _ _ _ _ _ (by simp)]; rfl
        | 1, hq => simp at hq; subst hq; rw [show (⟨w3.heap.size + 1, 0, none⟩ : Addr).add 1 = ⟨w3.heap.size + 1, 1, none⟩ from rfl, cNew _ _ _ _ _ (by simp)]; rfl
        | q + 2, hq => simp at hq) (fun u hu => by simp at hu; rcases hu with rfl | rfl <;> rfl) (by unfold maxLen; omega) (by omega) (by simp; omega) ?_; intro v' w4 hown' hgrow _)
      have hB4 : Below w2.heap.size w2 w4 := (balloc (balloc hB3 _) _).grown hgrow (by simp; have := hB3.size; omega) (fun k hk => (hown3.out.lt k hk).1)
      have hown4 : Hid (w4.ownsRow w2.heap.size 67 2 v' (k + 1) (flatI (ps ++ [(x, y)]))) := by
        show World.ownsRow _ _ _ _ _ _ _
        rw [hnx.out]
        exact hown'
      clear hown' hgrow hown3
      go_wp2
      go_roundw
      case rel => exact ⟨k + 1, ps ++ [(x, y)], by omega, by go_num, by simp [hps], hown4, hpf', hB4⟩
      case measure => simp [intOf]; omega
    · obtain rfl : k = M := by omega
      have hd := decide_eq_false (show ¬ ((k : Int) < (k : Int)) by omega)
      obtain ⟨m, e, c, he, hG, hG2⟩ := igo_res v k (pf ps) (by omega)
      have hA := hown.out
      rw [← hps] at hA
      replace hA := ownA_of_rowI (w0 := w2) hA (Nat.le_refl _)
      rw [hps] at hA
      have hGc := Lib.hid (hG _ _ _ hA)
      have hfin : ∀ b : Bool, (c == 0) = b → Hid (RwP ws (.returned (.tuple #[.agg #[.int .i64 (m : Int), .int .u32 (e : Int)], .bool b]))) := fun b hb => ⟨m, e, b, rfl, he, (fun _ => by rw [hws.out]; omega), fun n' e' hv hw => by
        have hlen := (hKw.out n' e' hw).1
        have hv5 := (vg_nat hv).1
        have hvn := hKv.out n' e' hv hw
        have hpw := hpf.out n' e' hv hw
        obtain ⟨g1, g2, g3⟩ := hG2 (by omega) (by omega) (fun i hi => by
          have hi' : i < (prE n' e').length := by omega
          rw [hpw i hi, hvn]
          have := prE_isP hv5 (prE n' e')[i] (List.getElem_mem hi')
          simpa [pAt, List.getElem?_eq_getElem hi'] using this)
        refine ⟨by omega, ?_, by rw [← hb, g3]; rfl⟩
        rw [g2, ← geE_all hv, show (prE n' e').length = k by omega]
        have : ∀ j, j ≤ k → geE (pf ps) j = geE (pAt (prE n' e')) j := fun j => by
          induction j with
          | zero => intro _; rfl
          | succ j ih => intro hj; rw [geE, geE, ih (by omega), hpw j (by omega)]
        exact this k (Nat.le_refl _)⟩
      obtain ⟨b, hb⟩ : ∃ b, (c == 0) = b := ⟨_, rfl⟩
      have hok := hfin b hb
      have hfR3 := hfR'.out.below hBr
      clear hG hG2 hA hfin hown hpf he
      go_wp2_with fail
      refine hGc.out.mono ?_
      rintro r3 w3 ⟨rfl, hb3⟩
      have hfRb := hfR3.below hb3
      have hBw3 := bchain hb3 hBw
      have hfR4 := Lib.hid hfRb
      obtain ⟨_, r0, r1, rz⟩ := hfRb
      have rz0 := rz 0
      have rz1 := rz 1
      clear rz hfR3 hGc
      go_wp2
      have hG := ((hfR4.out).put (m) (e)).below (balloc (Below.refl _ _) (.cells #[.int .i64 (m : Int), .int .u32 (e : Int)] 36))
      have hBB := balloc (((hBw3).setCell (p := ⟨w.heap.size, 0, none⟩) (by show w.heap.size ≤ w.heap.size; omega) (.int .i64 (m))).setCell (p := ⟨w.heap.size, 1, none⟩) (by show w.heap.size ≤ w.heap.size; omega) (.int .u32 (e))) (.cells #[.int .i64 (m : Int), .int .u32 (e : Int)] 36)
      obtain ⟨WW, hWW⟩ : ∃ WW, WW = (((w3).setCell ⟨w.heap.size, 0, none⟩ (.int .i64 (m))).setCell ⟨w.heap.size, 1, none⟩ (.int .u32 (e))).alloc (.cells #[.int .i64 (m : Int), .int .u32 (e : Int)] 36) := ⟨_, rfl⟩
      rw [← hWW] at hG hBB ⊢
      clear hWW
      obtain ⟨_, F0, F1, _⟩ := hG
      exact bodyPost_ret (v := .tuple #[.agg #[.int .i64 (m), .int .u32 (e)], .bool b]) (by simp [results, Tryd.results45, go_sem, F0, F1]) rfl ⟨hok.out, hBB⟩
end
end Go.Proofs.YtkmlgoklmmbmjaaDoor
