/-
  ReadGraph: the model's contract.
-/
import Derived.Test.YtkmlgoklmmbmjaaDoorWg
import Derived.Test.YtkmlgoklmmbmjaaDoorSw
namespace Go.Proofs.YtkmlgoklmmbmjaaDoor
open Go.RowKit
set_option maxRecDepth 100000
attribute [local go_sem] Oper.semAt_some
attribute [-go_sem] run_index_string run_slice_string run_slice_string_l
/-- a graph's box -/
structure GxB (W : World) (B : Nat) (n e : Int) : Prop where
  lt : B < W.heap.size
  c0 : W.cell? ⟨B, 0, none⟩ = some (.int .i64 n)
  c1 : W.cell? ⟨B, 1, none⟩ = some (.int .u32 e)
  fz : ∀ o, W.frozen? ⟨B, o, none⟩ = false
theorem GxB.below {W W' : World} {B : Nat} {n e : Int} (h : GxB W B n e) (hb : Below W.heap.size W W') : GxB W' B n e :=
  ⟨Nat.lt_of_lt_of_le h.lt hb.size, (hb.cell (p := ⟨B, 0, none⟩) h.lt).trans h.c0, (hb.cell (p := ⟨B, 1, none⟩) h.lt).trans h.c1, fun o => (hb.frozen (p := ⟨B, o, none⟩) h.lt).trans (h.fz o)⟩
theorem GxB.drew {W : World} {B : Nat} {n e : Int} (h : GxB W B n e) : GxB W.drew B n e := ⟨h.lt, h.c0, h.c1, h.fz⟩
theorem GxB.put {W : World} {B : Nat} {n e : Int} (h : GxB W B n e) (n' e' : Int) : GxB ((W.setCell ⟨B, 0, none⟩ (.int .i64 n')).setCell ⟨B, 1, none⟩ (.int .u32 e')) B n' e' :=
  ⟨by simpa using h.lt, (World.cell?_setCell_other _ _ _ _ (by simp)).trans (World.cell?_setCell_same _ _ _ h.c0), World.cell?_setCell_same _ _ _ ((World.cell?_setCell_other _ _ _ _ (by simp)).trans h.c1), fun o => by simp [h.fz o]⟩
theorem GxB.put1 {W : World} {B : Nat} {n e : Int} (h : GxB W B n e) (e' : Int) : GxB (W.setCell ⟨B, 1, none⟩ (.int .u32 e')) B n e' :=
  ⟨by simpa using h.lt, (World.cell?_setCell_other _ _ _ _ (by simp)).trans h.c0, World.cell?_setCell_same _ _ _ h.c1, fun o => by simp [h.fz o]⟩
theorem GxB.other {W : World} {B : Nat} {n e : Int} (h : GxB W B n e) {a : Addr} (v : Value) (hp : a.block ≠ B) : GxB (W.setCell a v) B n e := by
  have hs : (W.setCell a v).heap[B]? = W.heap[B]? := Below.heap_setCell _ _ _ _ (by omega)
  exact ⟨by simpa using h.lt, (World.cell?_of_block (a := ⟨B, 0, none⟩) hs).trans h.c0, (World.cell?_of_block (a := ⟨B, 1, none⟩) hs).trans h.c1, fun o => by simp [h.fz o]⟩
theorem GxB.made (W : World) (n e : Int) (t : TypeId) : GxB (W.alloc (.cells #[.int .i64 n, .int .u32 e] t)) W.heap.size n e :=
  ⟨by simp, by rw [World.cell?_alloc_new]; rfl, by rw [World.cell?_alloc_new]; rfl, fun o => by simp⟩
/-- what is read off a text: either it is a valid graph's, or it is no valid graph's -/
def RgR (l : List UInt8) (n e c : Int) : Prop :=
  (c = 0 ∧ VG n e ∧ ∃ n' e' : Nat, n = n' ∧ e = e' ∧ l = gText n' (prE n' e')) ∨ (c = 5 ∧ n = 0 ∧ e = 0 ∧ ∀ n' e' : Nat, VG n' e' → l ≠ gText n' (prE n' e'))
def RgP (l : List UInt8) (r : Ending) : Prop := ∃ n e c, r = .returned (.tuple #[.agg #[.int .i64 n, .int .u32 e], .int .i64 c]) ∧ RgR l n e c
theorem rgP_bad {l : List UInt8} (h : ∀ n e : Nat, VG n e → l ≠ gText n (prE n e)) : RgP l (.returned (.tuple #[.agg #[.int .i64 0, .int .u32 0], .int .i64 5])) := ⟨0, 0, 5, rfl, .inr ⟨rfl, rfl, rfl, h⟩⟩
theorem rgP_ok {l : List UInt8} {n e : Nat} (h : VG n e) (hl : l = gText n (prE n e)) : RgP l (.returned (.tuple #[.agg #[.int .i64 n, .int .u32 e], .int .i64 0])) := ⟨n, e, 0, rfl, .inl ⟨rfl, h, n, e, rfl, rfl, hl⟩⟩
theorem dec_inj {a b : Nat} (h : Lib.decDigits a = Lib.decDigits b) : a = b := by
  have h1 := dvL_dec a
  rw [h, dvL_dec] at h1
  exact (Option.some.inj h1).symm
theorem vg_nat {n e : Nat} (h : VG n e) : n ≤ 5 ∧ e < 4294967296 := by
  refine ⟨by have := h.2.1; omega, ?_⟩
  have h4 := h.2.2.2
  have := eMax_le n
  rw [Int.toNat_natCast] at h4
  simp at *
  omega
instance decVG (n e : Int) : Decidable (VG n e) := by unfold VG; infer_instance
/-- GraphText over whatever graph -/
theorem sgt_any (W : World) (n e : Nat) (he : e < 4294967296) : Calls Tryd.prog 15 #[.agg #[.int .i64 n, .int .u32 e]] W fun r w' => r = .returned (.string (tx (if VG n e then gText n (prE n e) else []))) ∧ Below W.heap.size W w' := by
  by_cases h : VG n e
  · rw [if_pos h]; exact sgt_t W n e h
  · rw [if_neg h]; exact sgt_f W n e (by omega) (by omega) h
/-- the bits of the first pairs -/
def bitsTo (ps : List (Nat × Nat)) (k : Nat) : Nat := geE (pAt ps) k
section
variable (w : World)
set_option maxHeartbeats 4000000 in
theorem srg_any (l : List UInt8) (hl : l.length ≤ 2000000) :
    Calls Tryd.prog 18 #[.string (tx l)] w fun r w' => RgP l r ∧ Below w.heap.size w w' := by
  have hS : ∀ W, Calls Tryd.prog 41 #[.string (tx l), .int .u8 32] W fun r w' => (∃ v, r = .returned v ∧ WordsAt W w' v (splA 32 [] l)) ∧ Below W.heap.size W w' := fun W => sspl_any W l 32 hl
  replace hS := Lib.hid hS
  have hwl : ∀ u ∈ splA 32 [] l, u.length ≤ 2000000 := splA_len hl
  have hK := Lib.hid (fun (n e : Nat) (_hv : VG n e) (he : l = gText n (prE n e)) => show splA 32 [] l = gWord :: Lib.decDigits n :: (prE n e).map pWord by rw [he, words_g])
  have hct := splA_count 32 l []
  obtain ⟨ws, hws⟩ : ∃ ws, splA 32 [] l = ws := ⟨_, rfl⟩
  rw [hws] at hS hwl hK hct
  have hWS := Lib.hid hws
  clear hws
  have hwn : 0 < ws.length ∧ ws.length ≤ 2000001 := by omega
  have htl := Lib.hid (show (tx l).toList = l from ByteArray.toList_mk l)
  obtain ⟨s, hs⟩ : ∃ s, tx l = s := ⟨_, rfl⟩
  rw [hs] at hS htl ⊢
  clear hs hct
  replace hwl := Lib.hid hwl
  have hN := Lib.hid (fun W u (hu : u.length ≤ 2000000) => snum_any W u hu)
  have hfR := Lib.hid (GxB.made w 0 0 36)
  have hB0 : Below w.heap.size w (w.alloc (.cells #[.int .i64 0, .int .u32 0] 36)) := by (repeat (first | exact Below.refl _ _ | assumption | refine bchain (by assumption) ?_ | refine balloc ?_ _ | apply Below.drew | apply below_drewN | (refine Below.alloc ?_ (by (try simp) <;> omega) _) | (refine Below.setCell ?_ (by (try simp) <;> omega) _)))
  obtain ⟨W0, hW0⟩ : ∃ W0, W0 = w.alloc (.cells #[.int .i64 0, .int .u32 0] 36) := ⟨_, rfl⟩
  rw [← hW0] at hfR hB0
  replace hW0 := Lib.hid hW0
  go_enter Tryd.func18, Tryd.ntmps18
  go_wp2_with fail
  rw [← hW0.out]
  go_wp2_with fail
  refine (hS.out _).mono ?_
  rintro r1 w1 ⟨⟨v, rfl, B, cap, rfl, hB1, hB2, hcell⟩, hb1⟩
  have hfR1 := hfR.out.below hb1
  have hBl1 := bchain hb1 hB0
  obtain ⟨L, hL⟩ : ∃ L, ws.length = L := ⟨_, rfl⟩
  rw [hL] at hwn ⊢
  replace hcell := Lib.hid (fun i (hi : i < L) => hcell i (by omega))
  have hfR1' := Lib.hid hfR1
  obtain ⟨_, r0, r1, rz⟩ := hfR1
  have rz0 := rz 0
  have rz1 := rz 1
  clear rz
  by_cases hL2 : L < 2
  · have hbad := Lib.hid (rgP_bad (fun n e hv he => by have hW := hK.out n e hv he; rw [hW] at hL; simp at hL; omega))
    have d1 := decide_eq_true (show ((L : Int) < 2) by omega)
    replace hL := Lib.hid hL
    go_wp2
    have hG := (hfR1'.out).put (0) (0)
    have hBB := ((hBl1).setCell (p := ⟨w.heap.size, 0, none⟩) (by show w.heap.size ≤ w.heap.size; omega) (.int .i64 (0))).setCell (p := ⟨w.heap.size, 1, none⟩) (by show w.heap.size ≤ w.heap.size; omega) (.int .u32 (0))
    obtain ⟨WW, hWW⟩ : ∃ WW, WW = ((w1).setCell ⟨w.heap.size, 0, none⟩ (.int .i64 (0))).setCell ⟨w.heap.size, 1, none⟩ (.int .u32 (0)) := ⟨_, rfl⟩
    rw [← hWW] at hG hBB ⊢
    clear hWW
    obtain ⟨_, F0, F1, _⟩ := hG
    exact bodyPost_ret (v := .tuple #[.agg #[.int .i64 (0), .int .u32 (0)], .int .i64 5]) (by simp [results, Tryd.results18, go_sem, F0, F1]) rfl ⟨hbad.out, hBB⟩
  have d1 := decide_eq_false (show ¬ ((L : Int) < 2) by omega)
  have h0 := hcell.out 0 (by omega)
  obtain ⟨u0, hu0⟩ : ∃ u, ws[0] = u := ⟨_, rfl⟩
  rw [hu0] at h0
  by_cases hg : u0 = gWord
  rotate_left
  · have hbad := Lib.hid (rgP_bad (fun n e hv he => by have hW := hK.out n e hv he; subst hW; exact hg hu0.symm))
    have hne : ((tx u0).toList == [103, 114, 97, 112, 104]) = false := by
      rw [show (tx u0).toList = u0 from ByteArray.toList_mk u0]
      exact beq_false_of_ne hg
    obtain ⟨t0, ht0⟩ : ∃ t, tx u0 = t := ⟨_, rfl⟩
    rw [ht0] at h0 hne
    replace hL := Lib.hid hL
    clear ht0 hg hu0
    go_wp2
    have hG := (hfR1'.out).put (0) (0)
    have hBB := ((hBl1).setCell (p := ⟨w.heap.size, 0, none⟩) (by show w.heap.size ≤ w.heap.size; omega) (.int .i64 (0))).setCell (p := ⟨w.heap.size, 1, none⟩) (by show w.heap.size ≤ w.heap.size; omega) (.int .u32 (0))
    obtain ⟨WW, hWW⟩ : ∃ WW, WW = ((w1).setCell ⟨w.heap.size, 0, none⟩ (.int .i64 (0))).setCell ⟨w.heap.size, 1, none⟩ (.int .u32 (0)) := ⟨_, rfl⟩
    rw [← hWW] at hG hBB ⊢
    clear hWW
    obtain ⟨_, F0, F1, _⟩ := hG
    exact bodyPost_ret (v := .tuple #[.agg #[.int .i64 (0), .int .u32 (0)], .int .i64 5]) (by simp [results, Tryd.results18, go_sem, F0, F1]) rfl ⟨hbad.out, hBB⟩
  subst hg
  obtain ⟨u1, hu1⟩ : ∃ u, ws[1] = u := ⟨_, rfl⟩
  have h1 := hcell.out 1 (by omega)
  rw [hu1] at h1
  have hu1l := hwl.out u1 (by rw [← hu1]; exact List.getElem_mem _)
  have hN1 := Lib.hid (fun W => hN.out W u1 hu1l)
  have he0 : ((tx gWord).toList == [103, 114, 97, 112, 104]) = true := by
    rw [show (tx gWord).toList = gWord from ByteArray.toList_mk gWord]; rfl
  obtain ⟨t0, ht0⟩ : ∃ t, tx gWord = t := ⟨_, rfl⟩
  rw [ht0] at h0 he0
  replace ht0 := Lib.hid ht0
  replace hu0 := Lib.hid hu0
  obtain ⟨t1, ht1⟩ : ∃ t, tx u1 = t := ⟨_, rfl⟩
  rw [ht1] at h1 hN1
  replace ht1 := Lib.hid ht1
  have hKn := Lib.hid (fun (n e : Nat) (hv : VG n e) (he : l = gText n (prE n e)) => show u1 = Lib.decDigits n by
    have hW := hK.out n e hv he
    rw [← hu1]
    simp only [hW, List.getElem_cons_succ, List.getElem_cons_zero])
  replace hL := Lib.hid hL
  clear hu1 hu1l
  go_wp2_with fail
  refine (hN1.out _).mono ?_
  rintro r2 w2 ⟨⟨n1, b1, rfl, hR1⟩, hb2⟩
  have hn1 := hR1.1
  replace hR1 := Lib.hid hR1
  have hfR2 := hfR1'.out.below hb2
  have hBl2 := bchain hb2 hBl1
  have hB2' : B < w2.heap.size := Nat.lt_of_lt_of_le hB2 hb2.size
  replace hcell := Lib.hid (fun i (hi : i < L) => (hb2.cell (p := ⟨B, i, none⟩) hB2).trans (hcell.out i hi))
  clear hfR1' r0 r1 rz0 rz1 h0 h1 hb2 hB2
  have hfR2' := Lib.hid hfR2
  obtain ⟨_, r0, r1, rz⟩ := hfR2
  have rz0 := rz 0
  have rz1 := rz 1
  clear rz
  by_cases hb : b1 = true ∧ n1 ≤ 5
  rotate_left
  · have hbad := Lib.hid (rgP_bad (fun n e hv he => by
      have h5 := (vg_nat hv).1
      obtain ⟨c1, c2⟩ := hR1.out.2 n (by omega) (hKn.out n e hv he)
      exact hb ⟨c2, by omega⟩))
    cases b1
    · clear hb
      go_wp2
      have hG := (hfR2'.out).put (0) (0)
      have hBB := ((hBl2).setCell (p := ⟨w.heap.size, 0, none⟩) (by show w.heap.size ≤ w.heap.size; omega) (.int .i64 (0))).setCell (p := ⟨w.heap.size, 1, none⟩) (by show w.heap.size ≤ w.heap.size; omega) (.int .u32 (0))
      obtain ⟨WW, hWW⟩ : ∃ WW, WW = ((w2).setCell ⟨w.heap.size, 0, none⟩ (.int .i64 (0))).setCell ⟨w.heap.size, 1, none⟩ (.int .u32 (0)) := ⟨_, rfl⟩
      rw [← hWW] at hG hBB ⊢
      clear hWW
      obtain ⟨_, F0, F1, _⟩ := hG
      exact bodyPost_ret (v := .tuple #[.agg #[.int .i64 (0), .int .u32 (0)], .int .i64 5]) (by simp [results, Tryd.results18, go_sem, F0, F1]) rfl ⟨hbad.out, hBB⟩
    · have d5 := decide_eq_true (show (5 : Int) < (n1 : Int) by have : ¬ n1 ≤ 5 := fun c => hb ⟨rfl, c⟩; omega)
      clear hb
      go_wp2
      have hG := (hfR2'.out).put (0) (0)
      have hBB := ((hBl2).setCell (p := ⟨w.heap.size, 0, none⟩) (by show w.heap.size ≤ w.heap.size; omega) (.int .i64 (0))).setCell (p := ⟨w.heap.size, 1, none⟩) (by show w.heap.size ≤ w.heap.size; omega) (.int .u32 (0))
      obtain ⟨WW, hWW⟩ : ∃ WW, WW = ((w2).setCell ⟨w.heap.size, 0, none⟩ (.int .i64 (0))).setCell ⟨w.heap.size, 1, none⟩ (.int .u32 (0)) := ⟨_, rfl⟩
      rw [← hWW] at hG hBB ⊢
      clear hWW
      obtain ⟨_, F0, F1, _⟩ := hG
      exact bodyPost_ret (v := .tuple #[.agg #[.int .i64 (0), .int .u32 (0)], .int .i64 5]) (by simp [results, Tryd.results18, go_sem, F0, F1]) rfl ⟨hbad.out, hBB⟩
  obtain ⟨rfl, hn5⟩ := hb
  have d5 := decide_eq_false (show ¬ (5 : Int) < (n1 : Int) by omega)
  have hKn2 := Lib.hid (fun (n e : Nat) (hv : VG n e) (he : l = gText n (prE n e)) => show n1 = n from (hR1.out.2 n (by have := (vg_nat hv).1; omega) (hKn.out n e hv he)).1)
  have hKw := Lib.hid (fun (n e : Nat) (hv : VG n e) (he : l = gText n (prE n e)) => show L = (prE n e).length + 2 ∧ ∀ k, 2 ≤ k → (hk : k < L) → ∃ p, (prE n e)[k - 2]? = some p ∧ ws[k]'(by have := hL.out; omega) = pWord p by
    have hW := hK.out n e hv he
    have hLL : L = (prE n e).length + 2 := by rw [← hL.out, hW]; simp
    refine ⟨hLL, fun k h2 hk => ?_⟩
    obtain ⟨j, rfl⟩ : ∃ j, k = j + 2 := ⟨k - 2, by omega⟩
    have hj : j < (prE n e).length := by omega
    refine ⟨(prE n e)[j], by rw [Nat.add_sub_cancel]; exact List.getElem?_eq_getElem hj, ?_⟩
    simp only [hW, List.getElem_cons_succ, List.getElem_map])
  have hl0 := Lib.hid (show l ≠ [] from fun c => by
    have := hL.out
    rw [← hWS.out, c] at this
    simp [splA] at this
    omega)
  clear hN1 hR1 hKn
  have hbA : Below w2.heap.size w2 (w2.alloc (.cells #[.int .i64 (n1 : Int), .int .u32 0] 36)) := balloc (Below.refl _ _) _
  clear r0 r1 rz0 rz1 hbA
  have hfA := GxB.made w2 (n1 : Int) 0 36
  obtain ⟨A, hA⟩ : ∃ A, w2.heap.size = A := ⟨_, rfl⟩
  have hRA : w.heap.size < A := by have := hfR2'.out.lt; omega
  rw [hA] at hfA
  go_wp2
  replace hA := Lib.hid hA
  go_loopw [8, 9, 10, 11, 12, 13] (fun i _ _ _ _ _ wr => ∃ k E : Nat, 2 ≤ k ∧ k ≤ L ∧ i = .int .i64 k ∧ E < 2048 ∧ Hid (∀ n e : Nat, VG n e → l = gText n (prE n e) → E = bitsTo (prE n e) (k - 2)) ∧ GxB wr A n1 E ∧ Below w2.heap.size w2 wr) (fun i _ _ _ _ _ _ => L - (intOf i).toNat)
  case atStart => exact ⟨2, 0, by omega, by omega, rfl, by omega, Lib.hid (fun _ _ _ _ => rfl), hfA, balloc (Below.refl _ _) _⟩
  case round =>
    obtain ⟨k, E, hk2, hkL, rfl, hE, hEq, hfA, hBr⟩ := hrel
    have hfR := Lib.hid (hfR2'.out.below hBr)
    have hfA' := Lib.hid hfA
    have hBw := Lib.hid (bchain hBr hBl2)
    clear hfA
    by_cases hlt : k < L
    · have hd := decide_eq_true (show ((k : Int) < (L : Int)) by omega)
      have hkw : k < ws.length := by rw [hL.out]; exact hlt
      have q := (hBr.cell (p := ⟨B, k, none⟩) hB2').trans (hcell.out k hlt)
      have hKu := Lib.hid (fun (n e : Nat) (hv : VG n e) (he : l = gText n (prE n e)) => (hKw.out n e hv he).2 k hk2 hlt)
      obtain ⟨u, hu⟩ : ∃ u, ws[k] = u := ⟨_, rfl⟩
      have hul := hwl.out u (by rw [← hu]; exact List.getElem_mem _)
      simp only [hu] at q hKu
      have hS2 : ∀ W, Calls Tryd.prog 41 #[.string (tx u), .int .u8 45] W fun r w' => (∃ v, r = .returned v ∧ WordsAt W w' v (splA 45 [] u)) ∧ Below W.heap.size W w' := fun W => sspl_any W u 45 hul
      replace hS2 := Lib.hid hS2
      have hwl2 : ∀ v ∈ splA 45 [] u, v.length ≤ 2000000 := splA_len hul
      have hct2 := splA_count 45 u []
      have hKe := Lib.hid (fun (n e : Nat) (hv : VG n e) (he : l = gText n (prE n e)) => show ∃ p, (prE n e)[k - 2]? = some p ∧ splA 45 [] u = [Lib.decDigits p.1, Lib.decDigits p.2] by
        obtain ⟨p, h1, h2⟩ := hKu.out n e hv he
        exact ⟨p, h1, by rw [h2, ends_p]⟩)
      obtain ⟨es, hes⟩ : ∃ es, splA 45 [] u = es := ⟨_, rfl⟩
      rw [hes] at hS2 hwl2 hct2 hKe
      have hen : 0 < es.length ∧ es.length ≤ 2000001 := by omega
      replace hwl2 := Lib.hid hwl2
      obtain ⟨t2, ht2⟩ : ∃ t, tx u = t := ⟨_, rfl⟩
      rw [ht2] at q hS2
      clear ht2 hes hKu hu hul hct2 hkw
      go_wp2_with fail
      refine (hS2.out _).mono ?_
      rintro r3 w3 ⟨⟨v2, rfl, B2, cap2, rfl, hC1, hC2, hcell2⟩, hb3⟩
      have hB3 := bchain hb3 hBr
      clear hS2 q
      replace hfR := Lib.hid (hfR.out.below hb3)
      replace hfA' := Lib.hid (hfA'.out.below hb3)
      replace hBw := Lib.hid (bchain hb3 hBw.out)
      obtain ⟨L2, hL2⟩ : ∃ L2, es.length = L2 := ⟨_, rfl⟩
      rw [hL2] at hen ⊢
      by_cases h2 : L2 = 2
      rotate_left
      · have hbad := Lib.hid (rgP_bad (fun n e hv he => by
          obtain ⟨p, _, h⟩ := hKe.out n e hv he
          rw [h] at hL2
          exact h2 hL2.symm))
        have hne2 : ((L2 : Int) == 2) = false := by simp; omega
        obtain ⟨_, r0, r1, rz⟩ := hfR.out
        have rz0 := rz 0
        have rz1 := rz 1
        clear rz hcell2 hL2 h2
        go_wp2
        have hG := (hfR.out).put (0) (0)
        have hBB := ((hBw.out).setCell (p := ⟨w.heap.size, 0, none⟩) (by show w.heap.size ≤ w.heap.size; omega) (.int .i64 (0))).setCell (p := ⟨w.heap.size, 1, none⟩) (by show w.heap.size ≤ w.heap.size; omega) (.int .u32 (0))
        obtain ⟨WW, hWW⟩ : ∃ WW, WW = ((w3).setCell ⟨w.heap.size, 0, none⟩ (.int .i64 (0))).setCell ⟨w.heap.size, 1, none⟩ (.int .u32 (0)) := ⟨_, rfl⟩
        rw [← hWW] at hG hBB ⊢
        clear hWW
        obtain ⟨_, F0, F1, _⟩ := hG
        exact bodyPost_ret (v := .tuple #[.agg #[.int .i64 (0), .int .u32 (0)], .int .i64 5]) (by simp [results, Tryd.results18, go_sem, F0, F1]) rfl ⟨hbad.out, hBB⟩
      subst h2
      obtain ⟨e0, e1, rfl⟩ : ∃ e0 e1, es = [e0, e1] := by
        match es, hL2 with
        | [a, b], _ => exact ⟨a, b, rfl⟩
      have x0 := hcell2 0 (by simp)
      have x1 := hcell2 1 (by simp)
      simp only [List.getElem_cons_zero, List.getElem_cons_succ] at x0 x1
      have hM0 := Lib.hid (fun W => hN.out W e0 (hwl2.out e0 (by simp)))
      have hM1 := Lib.hid (fun W => hN.out W e1 (hwl2.out e1 (by simp)))
      have hKe0 := Lib.hid (fun (n e : Nat) (hv : VG n e) (he : l = gText n (prE n e)) => show ∃ p, (prE n e)[k - 2]? = some p ∧ e0 = Lib.decDigits p.1 ∧ e1 = Lib.decDigits p.2 by
        obtain ⟨p, h1, h2⟩ := hKe.out n e hv he
        exact ⟨p, h1, (List.cons.inj h2).1, (List.cons.inj (List.cons.inj h2).2).1⟩)
      obtain ⟨s0, hs0⟩ : ∃ t, tx e0 = t := ⟨_, rfl⟩
      obtain ⟨s1, hs1⟩ : ∃ t, tx e1 = t := ⟨_, rfl⟩
      rw [hs0] at x0 hM0
      rw [hs1] at x1 hM1
      clear hs0 hs1 hcell2 hKe hL2 hwl2
      go_wp2_with fail
      refine (hM0.out _).mono ?_
      rintro r4 w4 ⟨⟨a, one, rfl, hRa⟩, hb4⟩
      have ha := hRa.1
      replace hRa := Lib.hid hRa
      replace x1 := (hb4.cell (p := ⟨B2, 1, none⟩) hC2).trans x1
      replace hfR := Lib.hid (hfR.out.below hb4)
      replace hfA' := Lib.hid (hfA'.out.below hb4)
      replace hBw := Lib.hid (bchain hb4 hBw.out)
      have hB4 := bchain hb4 hB3
      clear x0 hM0 hb3 hb4 hB3
      go_wp2_with fail
      refine (hM1.out _).mono ?_
      rintro r5 w5 ⟨⟨b, two, rfl, hRb⟩, hb5⟩
      have hb := hRb.1
      replace hRb := Lib.hid hRb
      replace hfR := Lib.hid (hfR.out.below hb5)
      replace hfA' := Lib.hid (hfA'.out.below hb5)
      replace hBw := Lib.hid (bchain hb5 hBw.out)
      have hB5 := bchain hb5 hB4
      clear x1 hM1 hb5 hB4
      have hKp := Lib.hid (fun (n e : Nat) (hv : VG n e) (he : l = gText n (prE n e)) => show ∃ p, (prE n e)[k - 2]? = some p ∧ a = p.1 ∧ b = p.2 ∧ one = true ∧ two = true ∧ IsP (n1 : Int) a b by
        obtain ⟨p, h1, h2, h3⟩ := hKe0.out n e hv he
        have hm := List.mem_of_getElem? h1
        have hsm := prE_small (vg_nat hv).1 p hm
        have hip := prE_isP (vg_nat hv).1 p hm
        obtain ⟨k1, k2⟩ := hRa.out.2 p.1 (by omega) h2
        obtain ⟨k3, k4⟩ := hRb.out.2 p.2 (by omega) h3
        refine ⟨p, h1, k1, k3, k2, k4, ?_⟩
        rw [k1, k3, hKn2.out n e hv he]
        exact hip)
      clear hRa hRb hKe0
      obtain ⟨_, r0, r1, rz⟩ := hfR.out
      have rz0 := rz 0
      have rz1 := rz 1
      clear rz
      by_cases hP : IsP (n1 : Int) a b
      rotate_left
      · have hbad := Lib.hid (rgP_bad (fun n e hv he => by
          obtain ⟨p, _, _, _, _, _, h⟩ := hKp.out n e hv he
          exact hP h))
        have hT := Lib.hid (fun W => sp_f W n1 a b hP (by omega) (by omega))
        clear hP
        cases one
        · go_wp2
          have hG := (hfR.out).put (0) (0)
          have hBB := ((hBw.out).setCell (p := ⟨w.heap.size, 0, none⟩) (by show w.heap.size ≤ w.heap.size; omega) (.int .i64 (0))).setCell (p := ⟨w.heap.size, 1, none⟩) (by show w.heap.size ≤ w.heap.size; omega) (.int .u32 (0))
          obtain ⟨WW, hWW⟩ : ∃ WW, WW = ((w5).setCell ⟨w.heap.size, 0, none⟩ (.int .i64 (0))).setCell ⟨w.heap.size, 1, none⟩ (.int .u32 (0)) := ⟨_, rfl⟩
          rw [← hWW] at hG hBB ⊢
          clear hWW
          obtain ⟨_, F0, F1, _⟩ := hG
          exact bodyPost_ret (v := .tuple #[.agg #[.int .i64 (0), .int .u32 (0)], .int .i64 5]) (by simp [results, Tryd.results18, go_sem, F0, F1]) rfl ⟨hbad.out, hBB⟩
        cases two
        · go_wp2
          have hG := (hfR.out).put (0) (0)
          have hBB := ((hBw.out).setCell (p := ⟨w.heap.size, 0, none⟩) (by show w.heap.size ≤ w.heap.size; omega) (.int .i64 (0))).setCell (p := ⟨w.heap.size, 1, none⟩) (by show w.heap.size ≤ w.heap.size; omega) (.int .u32 (0))
          obtain ⟨WW, hWW⟩ : ∃ WW, WW = ((w5).setCell ⟨w.heap.size, 0, none⟩ (.int .i64 (0))).setCell ⟨w.heap.size, 1, none⟩ (.int .u32 (0)) := ⟨_, rfl⟩
          rw [← hWW] at hG hBB ⊢
          clear hWW
          obtain ⟨_, F0, F1, _⟩ := hG
          exact bodyPost_ret (v := .tuple #[.agg #[.int .i64 (0), .int .u32 (0)], .int .i64 5]) (by simp [results, Tryd.results18, go_sem, F0, F1]) rfl ⟨hbad.out, hBB⟩
        go_wp2_with (go_at_call 43; refine (hT.out _).mono ?_; rintro r6 w6 ⟨rfl, rfl⟩)
        have hG := (hfR.out).put (0) (0)
        have hBB := ((hBw.out).setCell (p := ⟨w.heap.size, 0, none⟩) (by show w.heap.size ≤ w.heap.size; omega) (.int .i64 (0))).setCell (p := ⟨w.heap.size, 1, none⟩) (by show w.heap.size ≤ w.heap.size; omega) (.int .u32 (0))
        obtain ⟨WW, hWW⟩ : ∃ WW, WW = ((w5).setCell ⟨w.heap.size, 0, none⟩ (.int .i64 (0))).setCell ⟨w.heap.size, 1, none⟩ (.int .u32 (0)) := ⟨_, rfl⟩
        rw [← hWW] at hG hBB ⊢
        clear hWW
        obtain ⟨_, F0, F1, _⟩ := hG
        exact bodyPost_ret (v := .tuple #[.agg #[.int .i64 (0), .int .u32 (0)], .int .i64 5]) (by simp [results, Tryd.results18, go_sem, F0, F1]) rfl ⟨hbad.out, hBB⟩
      by_cases ho : one = true ∧ two = true
      rotate_left
      · have hbad := Lib.hid (rgP_bad (fun n e hv he => by
          obtain ⟨p, _, _, _, h3, h4, _⟩ := hKp.out n e hv he
          exact ho ⟨h3, h4⟩))
        clear hP
        cases one
        · clear ho
          go_wp2
          have hG := (hfR.out).put (0) (0)
          have hBB := ((hBw.out).setCell (p := ⟨w.heap.size, 0, none⟩) (by show w.heap.size ≤ w.heap.size; omega) (.int .i64 (0))).setCell (p := ⟨w.heap.size, 1, none⟩) (by show w.heap.size ≤ w.heap.size; omega) (.int .u32 (0))
          obtain ⟨WW, hWW⟩ : ∃ WW, WW = ((w5).setCell ⟨w.heap.size, 0, none⟩ (.int .i64 (0))).setCell ⟨w.heap.size, 1, none⟩ (.int .u32 (0)) := ⟨_, rfl⟩
          rw [← hWW] at hG hBB ⊢
          clear hWW
          obtain ⟨_, F0, F1, _⟩ := hG
          exact bodyPost_ret (v := .tuple #[.agg #[.int .i64 (0), .int .u32 (0)], .int .i64 5]) (by simp [results, Tryd.results18, go_sem, F0, F1]) rfl ⟨hbad.out, hBB⟩
        cases two
        · clear ho
          go_wp2
          have hG := (hfR.out).put (0) (0)
          have hBB := ((hBw.out).setCell (p := ⟨w.heap.size, 0, none⟩) (by show w.heap.size ≤ w.heap.size; omega) (.int .i64 (0))).setCell (p := ⟨w.heap.size, 1, none⟩) (by show w.heap.size ≤ w.heap.size; omega) (.int .u32 (0))
          obtain ⟨WW, hWW⟩ : ∃ WW, WW = ((w5).setCell ⟨w.heap.size, 0, none⟩ (.int .i64 (0))).setCell ⟨w.heap.size, 1, none⟩ (.int .u32 (0)) := ⟨_, rfl⟩
          rw [← hWW] at hG hBB ⊢
          clear hWW
          obtain ⟨_, F0, F1, _⟩ := hG
          exact bodyPost_ret (v := .tuple #[.agg #[.int .i64 (0), .int .u32 (0)], .int .i64 5]) (by simp [results, Tryd.results18, go_sem, F0, F1]) rfl ⟨hbad.out, hBB⟩
        exact absurd ⟨rfl, rfl⟩ ho
      obtain ⟨rfl, rfl⟩ := ho
      have hT := Lib.hid (fun W => sp_t W n1 a b hP (by omega))
      have hx4 : a ≤ 4 := by have := hP.1; have := hP.2.1; omega
      have hy4 : b ≤ 4 := by have := hP.2.2.1; have := hP.2.2.2.1; omega
      have hJ := Lib.hid (fun W => sbit_int W a b a b rfl rfl hx4 hy4)
      have hpl := pb_le a b hx4 hy4
      have hor := u32_or_nat E (pb a b) (by omega) (by omega)
      have hEn := Lib.hid (fun (n e : Nat) (hv : VG n e) (he : l = gText n (prE n e)) => show E ||| pb a b = bitsTo (prE n e) (k + 1 - 2) by
        obtain ⟨p, h1, h2, h3, _⟩ := hKp.out n e hv he
        have hj : k + 1 - 2 = (k - 2) + 1 := by omega
        rw [hj, hEq.out n e hv he]
        unfold bitsTo
        rw [geE]
        simp [pAt, h1, h2, h3])
      have hlt2 : E ||| pb a b < 2048 := Nat.or_lt_two_pow (n := 11) hE (by omega)
      obtain ⟨z, hz⟩ : ∃ z, pb a b = z := ⟨_, rfl⟩
      rw [hz] at hor hJ hEn hlt2
      obtain ⟨v, hv⟩ : ∃ v, E ||| z = v := ⟨_, rfl⟩
      rw [hv] at hor hEn hlt2
      clear hP hx4 hy4 hpl hz hv r0 r1 rz0 rz1 hKp
      obtain ⟨W, hW⟩ : ∃ W, W = w5 := ⟨_, rfl⟩
      obtain ⟨_, q0, q1, qz⟩ := hfA'.out
      have qz1 := qz 1
      clear qz
      go_wp2_with (go_at_call 43; refine (hT.out _).mono ?_; rintro r6 w6 ⟨rfl, rfl⟩)
      go_still_tail 5, (by kernel_rfl)
      still_call ((hJ.out _).mono fun _ _ h => ⟨h.1, h.2.symm⟩)
      refine wpStill_nil ?_
      change wpList _ _ _ _ _ w5.drew
      go_wp2
      go_roundw
      case rel => exact ⟨k + 1, v, by omega, by omega, by go_num, hlt2, hEn, hfA'.out.drew.put1 _, hB5.drew.setCell (p := ⟨A, 1, none⟩) (Nat.le_of_eq hA.out) _⟩
      case measure => simp [intOf]; omega
    · obtain rfl : k = L := by omega
      have hd := decide_eq_false (show ¬ ((k : Int) < (k : Int)) by omega)
      have hE2 := Lib.hid (fun (n e : Nat) (hv : VG n e) (he : l = gText n (prE n e)) => show n1 = n ∧ E = e by
        refine ⟨hKn2.out n e hv he, ?_⟩
        rw [hEq.out n e hv he, show k - 2 = (prE n e).length by have := (hKw.out n e hv he).1; omega]
        exact geE_all hv)
      have hG := Lib.hid (fun W => sgt_any W n1 E (by omega))
      obtain ⟨g, hg⟩ : ∃ g, (if VG n1 E then gText n1 (prE n1 E) else []) = g := ⟨_, rfl⟩
      rw [hg] at hG
      have hq : ((tx g).toList == s.toList) = decide (g = l) := by
        rw [htl.out, show (tx g).toList = g from ByteArray.toList_mk g]
        by_cases h : g = l
        · subst h; simp
        · rw [decide_eq_false h]; exact beq_false_of_ne h
      replace hg := Lib.hid hg
      obtain ⟨_, q0, q1, _⟩ := hfA'.out
      obtain ⟨t3, ht3⟩ : ∃ t, tx g = t := ⟨_, rfl⟩
      rw [ht3] at hq hG
      clear ht3 hlt
      go_wp2_with fail
      refine (hG.out _).mono ?_
      rintro r6 w6 ⟨rfl, hb6⟩
      replace hfR := Lib.hid (hfR.out.below hb6)
      replace hfA' := Lib.hid (hfA'.out.below hb6)
      replace hBw := Lib.hid (bchain hb6 hBw.out)
      clear q0 q1 hb6
      obtain ⟨_, q0, q1, _⟩ := hfA'.out
      obtain ⟨_, r0, r1, rz⟩ := hfR.out
      have rz0 := rz 0
      have rz1 := rz 1
      clear rz
      by_cases h : g = l
      · have hok : Hid (RgP l (.returned (.tuple #[.agg #[.int .i64 (n1 : Int), .int .u32 (E : Int)], .int .i64 0]))) := by
          have h1 := hg.out
          by_cases c : VG n1 E
          · rw [if_pos c] at h1
            exact rgP_ok c (h.symm.trans h1.symm)
          · rw [if_neg c] at h1
            exact absurd (h.symm.trans h1.symm) hl0.out
        rw [decide_eq_true h] at hq
        clear h
        go_wp2
        have hG := (hfR.out).put (n1) (E)
        have hBB := ((hBw.out).setCell (p := ⟨w.heap.size, 0, none⟩) (by show w.heap.size ≤ w.heap.size; omega) (.int .i64 (n1))).setCell (p := ⟨w.heap.size, 1, none⟩) (by show w.heap.size ≤ w.heap.size; omega) (.int .u32 (E))
        obtain ⟨WW, hWW⟩ : ∃ WW, WW = ((w6).setCell ⟨w.heap.size, 0, none⟩ (.int .i64 (n1))).setCell ⟨w.heap.size, 1, none⟩ (.int .u32 (E)) := ⟨_, rfl⟩
        rw [← hWW] at hG hBB ⊢
        clear hWW
        obtain ⟨_, F0, F1, _⟩ := hG
        exact bodyPost_ret (v := .tuple #[.agg #[.int .i64 (n1), .int .u32 (E)], .int .i64 0]) (by simp [results, Tryd.results18, go_sem, F0, F1]) rfl ⟨hok.out, hBB⟩
      · have hbad := Lib.hid (rgP_bad (fun n e hv he => by
          obtain ⟨rfl, rfl⟩ := hE2.out n e hv he
          apply h
          rw [← hg.out, if_pos hv, he]))
        rw [decide_eq_false h] at hq
        clear h
        go_wp2
        have hG := (hfR.out).put (0) (0)
        have hBB := ((hBw.out).setCell (p := ⟨w.heap.size, 0, none⟩) (by show w.heap.size ≤ w.heap.size; omega) (.int .i64 (0))).setCell (p := ⟨w.heap.size, 1, none⟩) (by show w.heap.size ≤ w.heap.size; omega) (.int .u32 (0))
        obtain ⟨WW, hWW⟩ : ∃ WW, WW = ((w6).setCell ⟨w.heap.size, 0, none⟩ (.int .i64 (0))).setCell ⟨w.heap.size, 1, none⟩ (.int .u32 (0)) := ⟨_, rfl⟩
        rw [← hWW] at hG hBB ⊢
        clear hWW
        obtain ⟨_, F0, F1, _⟩ := hG
        exact bodyPost_ret (v := .tuple #[.agg #[.int .i64 (0), .int .u32 (0)], .int .i64 5]) (by simp [results, Tryd.results18, go_sem, F0, F1]) rfl ⟨hbad.out, hBB⟩
end
end Go.Proofs.YtkmlgoklmmbmjaaDoor
