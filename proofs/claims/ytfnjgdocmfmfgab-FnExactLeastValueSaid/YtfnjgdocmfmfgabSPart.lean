/-
  PARTS OF GRAPHS: the model's contract; HasPart of both.
-/
import Derived.Test.YtfnjgdocmfmfgabPart
import Derived.Test.YtfnjgdocmfmfgabSLeast
namespace Go.Proofs.Ytfnjgdocmfmfgab
open Go.RowKit Go.Shelf
set_option maxRecDepth 100000

/-- the boxes of two graphs -/
structure H2 (wr : World) (G : Nat) (n e k f : Int) : Prop where
  size : G + 1 < wr.heap.size
  g0 : wr.cell? ⟨G, 0, none⟩ = some (.int .i64 n)
  g1 : wr.cell? ⟨G, 1, none⟩ = some (.int .u32 e)
  h0 : wr.cell? ⟨G + 1, 0, none⟩ = some (.int .i64 k)
  h1 : wr.cell? ⟨G + 1, 1, none⟩ = some (.int .u32 f)
theorem H2.under {wr w' : World} {G B : Nat} {n e k f : Int} (h : H2 wr G n e k f) (hb : Below B wr w') (hB : G + 1 < B) : H2 w' G n e k f where
  size := Nat.lt_of_lt_of_le h.size hb.size
  g0 := (hb.cell (p := ⟨G, 0, none⟩) (by show G < B; omega)).trans h.g0
  g1 := (hb.cell (p := ⟨G, 1, none⟩) (by show G < B; omega)).trans h.g1
  h0 := (hb.cell (p := ⟨G + 1, 0, none⟩) hB).trans h.h0
  h1 := (hb.cell (p := ⟨G + 1, 1, none⟩) hB).trans h.h1
theorem H2.begin (w : World) (n e k f : Int) (t : TypeId) : H2 ((w.alloc (.cells #[.int .i64 n, .int .u32 e] t)).alloc (.cells #[.int .i64 k, .int .u32 f] t)) w.heap.size n e k f := by
  have s1 : ∀ (W : World) (o : Obj), (W.alloc o).heap.size = W.heap.size + 1 := fun W o => by simp
  constructor
  · rw [s1, s1]; omega
  · rw [cOld _ _ _ _ (by rw [s1]; omega), cNew _ _ _ _ _ rfl]; rfl
  · rw [cOld _ _ _ _ (by rw [s1]; omega), cNew _ _ _ _ _ rfl]; rfl
  · rw [cNew _ _ _ _ _ (by rw [s1])]; rfl
  · rw [cNew _ _ _ _ _ (by rw [s1])]; rfl

theorem spart_big (w : World) (n e k f : Nat) (hn5 : n ≤ 5) (hk5 : k ≤ 5) (hkn : n < k) :
    Calls Try.prog 79 #[.agg #[.int .i64 n, .int .u32 e], .agg #[.int .i64 k, .int .u32 f]] w fun r w' => r = .returned (.bool (partB n e k f)) ∧ Below w.heap.size w w' := by
  have hpb : Hid (partB n e k f = false) := by
    show partB n e k f = false
    unfold partB
    rw [lists_none n hn5 k hk5 hkn]
    rfl
  go_enter Try.func79, Try.ntmps79
  go_wp2
  go_ret
  exact ⟨by rw [hpb.out]; rfl, by (repeat (first | exact Below.refl _ _ | assumption | refine bchain (by assumption) ?_ | refine balloc ?_ _ | apply Below.drew | apply below_drewN | (refine Below.alloc ?_ (by (try simp) <;> omega) _) | (refine Below.setCell ?_ (by (try simp) <;> omega) _)))⟩

set_option maxHeartbeats 4000000 in
theorem spart_any (w : World) (n e k f : Nat) (h : VG n e) (h2 : VG k f) :
    Calls Try.prog 79 #[.agg #[.int .i64 n, .int .u32 e], .agg #[.int .i64 k, .int .u32 f]] w fun r w' => r = .returned (.bool (partB n e k f)) ∧ Below w.heap.size w w' := by
  have he : e < 4294967296 := by have := h.2.2.2; have := eMax_le n; simp at *; omega
  have hfm : f < eMax k := by have := h2.2.2.2; simp at this; omega
  have hf : f < 1024 := by have := eMax_le k; omega
  have hn5 : n ≤ 5 := by have := h.2.1; omega
  have hk5 : k ≤ 5 := by have := h2.2.1; omega
  rcases Nat.lt_or_ge n k with hkn | hkn
  · exact spart_big w n e k f hn5 hk5 hkn
  have hP0 := H2.begin w n e k f 33
  go_enter Try.func79, Try.ntmps79
  go_wp2_with fail
  refine (first_any _ k hk5).mono ?_
  rintro r2 w2 ⟨⟨v, rfl, hO⟩, hb2⟩
  have hB2 : Below w.heap.size w w2 := by (repeat (first | exact Below.refl _ _ | assumption | refine bchain (by assumption) ?_ | refine balloc ?_ _ | apply Below.drew | apply below_drewN | (refine Below.alloc ?_ (by (try simp) <;> omega) _) | (refine Below.setCell ?_ (by (try simp) <;> omega) _)))
  have hP2 := Lib.hid (hP0.under (w' := w2) hb2 hP0.size)
  obtain ⟨w0, hw0⟩ : ∃ w0, w0 = ((w.alloc (.cells #[.int .i64 (n : Int), .int .u32 (e : Int)] 33)).alloc (.cells #[.int .i64 (k : Int), .int .u32 (f : Int)] 33)) := ⟨_, rfl⟩
  have hG0 : w.heap.size + 1 < w0.heap.size := by rw [hw0]; exact hP0.size
  rw [← hw0] at hO
  obtain ⟨G, hG⟩ : ∃ G, w.heap.size = G := ⟨_, rfl⟩
  rw [hG] at hP2 hB2 hG0
  replace hB2 := Lib.hid hB2
  replace hO := Lib.hid (hO.congr (fun i hi => lf_range k i hi))
  rw [hG]
  clear hb2 hP0 hw0 h h2
  replace hG := Lib.hid hG
  go_wp2_with fail
  go_loopg [6] ((lists n k).length) (fun c s wr => SlHead w0 v n k (fun pre W => (∀ x ∈ pre, fits e f k x = false) ∧ H2 W G n e k f ∧ Below G w W) c s wr)
  case atStart =>
    have hfl := lists_first n hn5 k hkn
    exact .inl ⟨0, _, (List.getElem?_eq_some_iff.1 hfl).1, by omega, rfl, hfl, hO.out, fun x hx => (by cases hx), hP2.out, hB2.out⟩
  case round =>
    rcases hrel with ⟨j, x, hj, hc, rfl, hx, hOx, hno, hPx, hBx⟩ | ⟨hc, rfl, hno, hPx, hBx⟩
    · have hok := lists_ok hn5 hk5 (x := x) (List.mem_of_getElem? hx)
      have hst := lists_step hn5 hkn hj hx
      have hOn := Lib.hid (sonL_any wr.drew v x n k e (show See x v wr.drew from hOx.see (ok_length hok)) hn5 he hok)
      have hft := fits_eq (e := e) (f := f) (k := k) (x := x) hk5 (ok_length hok) hfm
      have hyl := onL_lt e x (by rw [ok_length hok]; exact hk5)
      have hand := u32_and_nat f (onL e x) (by omega) (by omega)
      have hle : f &&& onL e x < 4294967296 := Nat.lt_of_le_of_lt Nat.and_le_left (by omega)
      obtain ⟨ok, hok2⟩ : ∃ ok, fits e f k x = ok := ⟨_, rfl⟩
      rw [hok2] at hft
      have hyes : Hid (ok = true → partB n e k f = true) := fun c => by
        unfold partB
        rw [List.any_eq_true]
        exact ⟨x, List.mem_of_getElem? hx, by rw [hok2, c]⟩
      have hno2 : Hid (ok = false → ∀ y ∈ (lists n k).take (j + 1), fits e f k y = false) := fun c y hy => by
        rw [take_snoc' hx, List.mem_append] at hy
        rcases hy with hy | hy
        · exact hno y hy
        · simp only [List.mem_singleton] at hy; subst hy; rw [hok2, c]
      obtain ⟨y, hy⟩ : ∃ y, onL e x = y := ⟨_, rfl⟩
      rw [hy] at hOn hft hand hyl hle
      obtain ⟨z, hz⟩ : ∃ z, f &&& y = z := ⟨_, rfl⟩
      rw [hz] at hft hand hle
      have hbe : ((z : Int) == (f : Int)) = ok := by rw [← hft, Bool.eq_iff_iff]; simp; omega
      have hfd : ∀ W : World, (Instr.field 33 (.agg #[.int .i64 (k : Int), .int .u32 (y : Int)]) 1).run Try.prog W = .ok (.int .u32 (y : Int)) W := fun _ => by kernel_rfl
      clear hft hy hz hok2
      have hend : ∀ (e4 : Ending) (W w4 : World), ok = false → NextAt n k w0 v x W e4 w4 → H2 W G n e k f → Below G w W →
          ∃ ok2 : Bool, e4 = .returned (.bool ok2) ∧ Hid (∃ c', c' < gk ∧ SlHead w0 v n k (fun pre W => (∀ x ∈ pre, fits e f k x = false) ∧ H2 W G n e k f ∧ Below G w W) c' (.bool ok2) w4) := fun e4 W w4 hokf hN hPW hBW => by
        have hn2 := hno2.out hokf
        rcases hN with ⟨x', hy, he4, hyk, hOy, hbN⟩ | ⟨hy, he4, hbN⟩
        · rw [hst] at hy
          have hj1 := (List.getElem?_eq_some_iff.1 hy).1
          exact ⟨true, he4, (lists n k).length - (j + 1), by omega, .inl ⟨j + 1, x', hj1, rfl, rfl, hy, hOy, hn2, hPW.under hbN hG0, hBW.trans (hbN.mono (by omega))⟩⟩
        · rw [hst] at hy
          have hj1 : (lists n k).length ≤ j + 1 := by simpa using hy
          rw [List.take_of_length_le hj1] at hn2
          exact ⟨false, he4, 0, by omega, .inr ⟨rfl, rfl, hn2, hPW.under hbN hG0, hBW.trans (hbN.mono (by omega))⟩⟩
      replace hend := Lib.hid hend
      obtain ⟨q0, q1, q2, q3, q4⟩ := id hPx
      replace hPx := Lib.hid hPx
      replace hx := Lib.hid hx
      replace hst := Lib.hid hst
      replace hOx := Lib.hid hOx
      replace hno := Lib.hid hno
      replace hc := Lib.hid hc
      go_wp2_with fail
      go_region_with (go_at_call 58; refine (hOn.out).mono ?_; rintro r3 w3 ⟨rfl, hb3⟩; obtain ⟨hc3, hz3⟩ := bkeep hb3 (G + 1) q0)
      all_goals
        have hb3' := (show Below wr.heap.size wr w3 from (Below.refl _ wr).drew.trans hb3)
        have hOw := Lib.hid (hOx.out.below hb3')
        have hPw := hPx.out.under hb3' q0
        have q1' := hPw.g0
        have hBw : Below G w w3 := hBx.trans (hb3'.mono (by omega))
        cases ok
        · go_wp2_with fail
          refine (next_any _ w0 v n k x hOw.out hn5 hk5 hok).mono ?_
          rintro r4 w4 hN
          obtain ⟨ok2, rfl, hE⟩ := hend.out r4 _ w4 (by first | trivial | rfl) hN hPw hBw
          clear hN
          go_wp2
          obtain ⟨c', hc1, hc2⟩ := hE.out
          go_roundg c'
          case measure => exact hc1
          case rel => exact hc2
        · have hyt := Lib.hid (hyes.out (by first | trivial | rfl))
          clear hyes
          go_wp2_with fail
          go_ret
          exact ⟨by rw [hyt.out]; rfl, by rw [hG.out]; exact hBw⟩
    · have hpb : Hid (partB n e k f = false) := by
        show partB n e k f = false
        unfold partB
        rw [List.any_eq_false]
        intro x hx
        rw [hno x hx]
        simp
      clear hno hPx
      go_wp2
      go_ret
      exact ⟨by rw [hpb.out]; rfl, by rw [hG.out]; exact hBx⟩

end Go.Proofs.Ytfnjgdocmfmfgab
