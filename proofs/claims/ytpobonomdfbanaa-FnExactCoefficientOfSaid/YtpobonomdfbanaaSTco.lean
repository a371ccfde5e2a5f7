/-
  The fraction of a flag in a sum: both walks over the terms.
-/
import Derived.Test.YtpobonomdfbanaaSTv
namespace Go.Proofs.Ytpobonomdfbanaa
open Go.RowKit Go.Shelf
set_option maxRecDepth 100000
/-- a fraction's box -/
structure FrB (W : World) (B : Nat) (p q : Int) : Prop where
  lt : B < W.heap.size
  c0 : W.cell? ⟨B, 0, none⟩ = some (.int .i64 p)
  c1 : W.cell? ⟨B, 1, none⟩ = some (.int .i64 q)
  fz : ∀ o, W.frozen? ⟨B, o, none⟩ = false
theorem FrB.below {W W' : World} {B : Nat} {p q : Int} (h : FrB W B p q) (hb : Below W.heap.size W W') : FrB W' B p q :=
  ⟨Nat.lt_of_lt_of_le h.lt hb.size, (hb.cell (p := ⟨B, 0, none⟩) h.lt).trans h.c0, (hb.cell (p := ⟨B, 1, none⟩) h.lt).trans h.c1, fun o => (hb.frozen (p := ⟨B, o, none⟩) h.lt).trans (h.fz o)⟩
theorem FrB.made (W : World) (p q : Int) (t : TypeId) : FrB (W.alloc (.cells #[.int .i64 p, .int .i64 q] t)) W.heap.size p q :=
  ⟨by simp, by rw [World.cell?_alloc_new]; rfl, by rw [World.cell?_alloc_new]; rfl, fun o => by simp⟩
theorem FrB.put {W : World} {B : Nat} {p q : Int} (h : FrB W B p q) (p' q' : Int) : FrB ((W.setCell ⟨B, 0, none⟩ (.int .i64 p')).setCell ⟨B, 1, none⟩ (.int .i64 q')) B p' q' :=
  ⟨by simpa using h.lt, (World.cell?_setCell_other _ _ _ _ (by simp)).trans (World.cell?_setCell_same _ _ _ h.c0), World.cell?_setCell_same _ _ _ ((World.cell?_setCell_other _ _ _ _ (by simp)).trans h.c1), fun o => by simp [h.fz o]⟩
theorem FrB.drewN {W : World} {B : Nat} {p q : Int} (h : FrB W B p q) (m : Nat) : FrB (W.drewN m) B p q := ⟨h.lt, h.c0, h.c1, h.fz⟩
theorem FC.drewN {W : World} {B : Nat} {k n e : Int} (h : FC W B k n e) (m : Nat) : FC (W.drewN m) B k n e := ⟨h.lt, h.c0, h.c1, h.c2⟩
/-- has a term this flag -/
def isT (k n y : Int) (g : TE) : Bool := g.k == k && (g.n == n && g.e == y)
/-- the fraction of a flag -/
def coF (ts : List TE) (k n y : Int) : Int × Int := match ts.find? (isT k n y) with
  | some g => (g.p, g.q)
  | none => (0, 1)
theorem coF_hit {ts : List TE} {k n y : Int} {i : Nat} (hi : i < ts.length) (hn : ∀ j, j < i → isT k n y (tAt ts j) = false) (hh : isT k n y (tAt ts i) = true) : coF ts k n y = ((tAt ts i).p, (tAt ts i).q) := by
  have e : ts.find? (isT k n y) = some (tAt ts i) := by
    rw [List.find?_eq_some_iff_getElem]
    refine ⟨hh, i, hi, by simp [tAt, List.getElem?_eq_getElem hi], fun j hj => ?_⟩
    have := hn j hj
    simp [tAt, List.getElem?_eq_getElem (show j < ts.length by omega)] at this
    simp [this]
  unfold coF
  rw [e]
theorem coF_miss {ts : List TE} {k n y : Int} (hn : ∀ j, j < ts.length → isT k n y (tAt ts j) = false) : coF ts k n y = (0, 1) := by
  have e : ts.find? (isT k n y) = none := by
    rw [List.find?_eq_none]
    intro g hg
    obtain ⟨j, hj, rfl⟩ := List.getElem_of_mem hg
    have := hn j hj
    simp [tAt, List.getElem?_eq_getElem hj] at this
    simp [this]
  unfold coF
  rw [e]
section
variable (w : World)
set_option maxHeartbeats 4000000 in
theorem ico_any (n e s k m y : Int) (ts : List TE) (u : Value) (hS : SlT w u ts) (hl64 : ts.length ≤ 64) (P Q : Int) (hPQ : coF ts k m y = (P, Q)) :
    Calls Try.prog 86 #[.agg #[.int .i64 n, .int .u32 e, .int .i64 s, u], .agg #[.int .i64 k, .int .i64 m, .int .u32 y]] w fun r w' => r = .returned (.agg #[.int .i64 P, .int .i64 Q]) ∧ Below w.heap.size w w' := by
  obtain ⟨a, cap, rfl, h1, h2, h3⟩ := hS
  replace hPQ := Lib.hid hPQ
  obtain ⟨l, hld⟩ : ∃ l, ts.length = l := ⟨_, rfl⟩
  have h3b : Hid (0 < l → ∃ b off, a = some ⟨b, off, none⟩ ∧ b < w.heap.size ∧ ∀ i, i < l → TCell w b off (tAt ts i) i) := fun h => by rw [← hld] at h ⊢; exact h3 (List.length_pos_iff.1 h)
  rw [hld] at h1 hl64 ⊢
  replace hld := Lib.hid hld
  clear h3
  obtain ⟨W0, hW0⟩ : ∃ W0, W0 = ((w.alloc (.cells #[.int .i64 n, .int .u32 e, .int .i64 s, .slice a l cap] 50)).alloc (.cells #[.int .i64 k, .int .i64 m, .int .u32 y] 34)).alloc (.cells #[.int .i64 0, .int .i64 0] 63) := ⟨_, rfl⟩
  have hb0 : Below w.heap.size w W0 := by rw [hW0]; (repeat (first | exact Below.refl _ _ | assumption | refine bchain (by assumption) ?_ | refine balloc ?_ _ | apply Below.drew | apply below_drewN | (refine Below.alloc ?_ (by (try simp) <;> omega) _) | (refine Below.setCell ?_ (by (try simp) <;> omega) _)))
  have sz : ∀ (W : World) (o : Obj), (W.alloc o).heap.size = W.heap.size + 1 := fun W o => by simp
  have k0 : SB W0 w.heap.size n e s (.slice a l cap) := by rw [hW0]; exact ((SB.made _ _ _ _ _ _).below (balloc (Below.refl _ _) _)).below (balloc (Below.refl _ _) _)
  have f0 : FC W0 (w.heap.size + 1) k m y := by rw [hW0, ← sz w (.cells #[.int .i64 n, .int .u32 e, .int .i64 s, .slice a l cap] 50)]; exact (FC.made _ _ _ _ _).below (balloc (Below.refl _ _) _)
  have r0 : FrB W0 (w.heap.size + 1 + 1) 0 0 := by rw [hW0, ← sz w (.cells #[.int .i64 n, .int .u32 e, .int .i64 s, .slice a l cap] 50), ← sz _ (.cells #[.int .i64 k, .int .i64 m, .int .u32 y] 34)]; exact FrB.made _ _ _ _
  replace hW0 := Lib.hid hW0
  clear sz
  obtain ⟨_, x0, x1, x2, x3, _⟩ := id k0
  go_enter Try.func86, Try.ntmps86
  go_wp2_with fail
  rw [← hW0.out]
  go_wp2
  go_loopw [6, 10] (fun _ q wr => ∃ i : Nat, i ≤ l ∧ q = .int .i64 i ∧ (∀ j, j < i → isT k m y (tAt ts j) = false) ∧ FC wr (w.heap.size + 1) k m y ∧ FrB wr (w.heap.size + 1 + 1) 0 0 ∧ Below w.heap.size w wr) (fun _ q _ => l - (intOf q).toNat)
  case atStart => exact ⟨0, by omega, rfl, fun j hj => by omega, f0, r0, hb0⟩
  case round =>
    clear k0 f0 r0 hb0 x0 x1 x2 x3
    obtain ⟨i, hi, rfl, hno, hf, hr, hB⟩ := hrel
    replace hno := Lib.hid hno
    by_cases hlt : i < l
    · skip
      obtain ⟨b, off, rfl, hb, hg⟩ := h3b.out (by omega)
      have hgi := hg i hlt
      obtain ⟨g, hBk⟩ : ∃ g, tAt ts i = g := ⟨_, rfl⟩
      obtain ⟨y0, y1, y2, y3, y4⟩ := g
      rw [hBk] at hgi
      have s0 : wr.cell? ⟨b, off + i * 5, none⟩ = some (.int .i64 y0) := by rw [hB.cell (p := ⟨b, _, none⟩) hb]; exact hgi.1
      have s1 : wr.cell? ⟨b, off + i * 5 + 1, none⟩ = some (.int .i64 y1) := by rw [hB.cell (p := ⟨b, _, none⟩) hb]; exact hgi.2.1
      have s2 : wr.cell? ⟨b, off + i * 5 + 2, none⟩ = some (.int .u32 y2) := by rw [hB.cell (p := ⟨b, _, none⟩) hb]; exact hgi.2.2.1
      have s3 : wr.cell? ⟨b, off + i * 5 + 3, none⟩ = some (.int .i64 y3) := by rw [hB.cell (p := ⟨b, _, none⟩) hb]; exact hgi.2.2.2.1
      have s4 : wr.cell? ⟨b, off + i * 5 + 4, none⟩ = some (.int .i64 y4) := by rw [hB.cell (p := ⟨b, _, none⟩) hb]; exact hgi.2.2.2.2
      have hkl : (i : Int) < (l : Int) := by omega
      have hk0 : (0 : Int) ≤ (i : Int) := by omega
      have hBz := hB.size
      clear hgi hg
      obtain ⟨W1, hW1⟩ : ∃ W1, W1 = wr.alloc (.cells #[.int .i64 y0, .int .i64 y1, .int .u32 y2, .int .i64 y3, .int .i64 y4] 100) := ⟨_, rfl⟩
      have hBW : Below wr.heap.size wr W1 := by rw [hW1]; (repeat (first | exact Below.refl _ _ | assumption | refine bchain (by assumption) ?_ | refine balloc ?_ _ | apply Below.drew | apply below_drewN | (refine Below.alloc ?_ (by (try simp) <;> omega) _) | (refine Below.setCell ?_ (by (try simp) <;> omega) _)))
      have tb : TB W1 wr.heap.size y0 y1 y2 y3 y4 := by rw [hW1]; exact TB.made _ _ _ _ _ _ _
      have hf1 := hf.below hBW
      have hr1 := hr.below hBW
      have hB1 := hB.trans (hBW.mono hBz)
      replace hW1 := Lib.hid hW1
      obtain ⟨zf, f0, f1, f2⟩ := id hf
      obtain ⟨zr, d0, d1, fR⟩ := id hr
      have hn1 : w.heap.size + 1 ≠ wr.heap.size := by omega
      have hn2 : w.heap.size + 1 + 1 ≠ wr.heap.size := by omega
      replace hr := Lib.hid hr
      clear hf hBW tb
      by_cases c : y0 = k ∧ y1 = m ∧ y2 = y
      · obtain ⟨rfl, rfl, rfl⟩ := c
        have hh := coF_hit (ts := ts) (by rw [hld.out]; exact hlt) hno.out (by rw [hBk]; simp [isT])
        rw [hPQ.out, hBk] at hh
        dsimp only at hh
        cases hh
        have hq : ∀ W, (Op.equalIn 10000 34 (.agg #[.int .i64 y0, .int .i64 y1, .int .u32 y2]) (.agg #[.int .i64 y0, .int .i64 y1, .int .u32 y2])).run Try.prog W = .ok true W := fun W => by rw [eqFl]; simp
        have hF := (hr.out.put P Q).below (balloc (Below.refl _ _) (.cells #[.int .i64 y0, .int .i64 y1, .int .u32 y2, .int .i64 P, .int .i64 Q] 100))
        have hBB := balloc ((hB.setCell (p := ⟨w.heap.size + 1 + 1, 0, none⟩) (by show w.heap.size ≤ w.heap.size + 1 + 1; omega) (.int .i64 P)).setCell (p := ⟨w.heap.size + 1 + 1, 1, none⟩) (by show w.heap.size ≤ w.heap.size + 1 + 1; omega) (.int .i64 Q)) (.cells #[.int .i64 y0, .int .i64 y1, .int .u32 y2, .int .i64 P, .int .i64 Q] 100)
        go_wp2
        obtain ⟨WW, hWW⟩ : ∃ WW, WW = ((wr.setCell ⟨w.heap.size + 1 + 1, 0, none⟩ (.int .i64 P)).setCell ⟨w.heap.size + 1 + 1, 1, none⟩ (.int .i64 Q)).alloc (.cells #[.int .i64 y0, .int .i64 y1, .int .u32 y2, .int .i64 P, .int .i64 Q] 100) := ⟨_, rfl⟩
        rw [← hWW] at hF hBB ⊢
        clear hWW
        obtain ⟨_, hF0, hF1, _⟩ := hF
        exact bodyPost_ret (v := .agg #[.int .i64 P, .int .i64 Q]) (by simp [results, Try.results86, go_sem, hF0, hF1]) rfl ⟨rfl, hBB⟩
      · have hq : ∀ W, (Op.equalIn 10000 34 (.agg #[.int .i64 y0, .int .i64 y1, .int .u32 y2]) (.agg #[.int .i64 k, .int .i64 m, .int .u32 y])).run Try.prog W = .ok false W := fun W => by
          rw [eqFl]
          have : (y0 == k && (y1 == m && y2 == y)) = false := by
            rw [Bool.eq_false_iff]
            intro h
            simp at h
            exact c h
          rw [this]
        have hno2 : ∀ j, j < i + 1 → isT k m y (tAt ts j) = false := fun j hj => by
          by_cases e : j = i
          · subst e
            rw [hBk, Bool.eq_false_iff]
            intro h
            simp [isT] at h
            exact c h
          · exact hno.out j (by omega)
        replace hno2 := Lib.hid hno2
        clear hno c
        go_wp2
        rw [← hW1.out]
        go_roundw
        case rel => exact ⟨i + 1, by omega, by go_num, hno2.out, hf1, hr1, hB1⟩
        case measure => simp [intOf]; omega
    · obtain rfl : i = l := by omega
      have hd := decide_eq_false (show ¬ ((i : Int) < (i : Int)) by omega)
      have hh := coF_miss (ts := ts) (fun j hj => hno.out j (by rw [← hld.out]; exact hj))
      rw [hPQ.out] at hh
      cases hh
      go_wp2_with fail
      refine (iwh_any _ 0).mono ?_
      rintro r3 w3 ⟨rfl, hb3⟩
      have hfb := hr.below hb3
      have hbw := bchain hb3 hB
      obtain ⟨_, d0, d1, fR⟩ := id hfb
      go_wp2
      have hF := hfb.put (0) (1)
      have hBB := ((hbw.setCell (p := ⟨w.heap.size + 1 + 1, 0, none⟩) (by show w.heap.size ≤ w.heap.size + 1 + 1; omega) (.int .i64 (0))).setCell (p := ⟨w.heap.size + 1 + 1, 1, none⟩) (by show w.heap.size ≤ w.heap.size + 1 + 1; omega) (.int .i64 (1)))
      obtain ⟨WW, hWW⟩ : ∃ WW, WW = ((w3.setCell ⟨w.heap.size + 1 + 1, 0, none⟩ (.int .i64 (0))).setCell ⟨w.heap.size + 1 + 1, 1, none⟩ (.int .i64 (1))) := ⟨_, rfl⟩
      rw [← hWW] at hF hBB ⊢
      clear hWW
      obtain ⟨_, hF0, hF1, _⟩ := hF
      exact bodyPost_ret (v := .agg #[.int .i64 (0), .int .i64 (1)]) (by simp [results, Try.results86, go_sem, hF0, hF1]) rfl ⟨rfl, hBB⟩
end
end Go.Proofs.Ytpobonomdfbanaa
