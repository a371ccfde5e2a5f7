/-
  CONTRACTS: GraphOf of the program and of the model, for every list of pairs.
-/
import Derived.Test.YtkmlgoklmmbmjaaDoorPrsIn
import Derived.Test.YtkmlgoklmmbmjaaDoorPair
import Derived.StillTailTactics
namespace Go.Proofs.YtkmlgoklmmbmjaaDoor
open Go.RowKit
set_option maxRecDepth 100000

/-- the edges of the first k pairs -/
def geE (f : Nat → Int × Int) : Nat → Nat
  | 0 => 0
  | k + 1 => geE f k ||| pb (f k).1.toNat (f k).2.toNat
theorem geE_lt (n : Int) (f : Nat → Int × Int) (hn : n ≤ 5) : ∀ k, (∀ i, i < k → IsP n (f i).1 (f i).2) → geE f k < 2048
  | 0, _ => by simp [geE]
  | k + 1, h => by
    have h1 := h k (by omega)
    have h2 := geE_lt n f hn k (fun i hi => h i (by omega))
    have h3 := pb_le (f k).1.toNat (f k).2.toNat (by have := h1.1; have := h1.2.1; omega) (by have := h1.2.2.1; have := h1.2.2.2.1; omega)
    exact Nat.or_lt_two_pow (n := 11) h2 (by omega)
/-- the two blocks of a function that makes a graph: the result's, the graph's -/
structure Q2 (wr : World) (G : Nat) (n acc : Int) : Prop where
  size : G + 1 < wr.heap.size
  r0 : wr.cell? ⟨G, 0, none⟩ = some (.int .i64 0)
  r1 : wr.cell? ⟨G, 1, none⟩ = some (.int .u32 0)
  p0 : wr.cell? ⟨G + 1, 0, none⟩ = some (.int .i64 n)
  p1 : wr.cell? ⟨G + 1, 1, none⟩ = some (.int .u32 acc)
  fr0 : wr.frozen? ⟨G, 0, none⟩ = false
  fr1 : wr.frozen? ⟨G, 1, none⟩ = false
  fp1 : wr.frozen? ⟨G + 1, 1, none⟩ = false
theorem Q2.start (w : World) (n : Int) (t : TypeId) : Q2 ((w.alloc (.cells #[.int .i64 0, .int .u32 0] t)).alloc (.cells #[.int .i64 n, .int .u32 0] t)) w.heap.size n 0 := by
  have s1 : ∀ (W : World) (o : Obj), (W.alloc o).heap.size = W.heap.size + 1 := fun W o => by simp
  constructor
  · rw [s1, s1]; omega
  · rw [cOld _ _ _ _ (by rw [s1]; omega), cNew _ _ _ _ _ rfl]; rfl
  · rw [cOld _ _ _ _ (by rw [s1]; omega), cNew _ _ _ _ _ rfl]; rfl
  · rw [cNew _ _ _ _ _ (by rw [s1])]; rfl
  · rw [cNew _ _ _ _ _ (by rw [s1])]; rfl
  · rw [fOld _ _ _ _ (by rw [s1]; omega), fNew _ _ _ _ _ rfl]
  · rw [fOld _ _ _ _ (by rw [s1]; omega), fNew _ _ _ _ _ rfl]
  · rw [fNew _ _ _ _ _ (by rw [s1])]
theorem Q2.below {wr w' : World} {G : Nat} {n acc : Int} (h : Q2 wr G n acc) (hb : Below wr.heap.size wr w') : Q2 w' G n acc where
  size := Nat.lt_of_lt_of_le h.size hb.size
  r0 := (hb.cell (p := ⟨G, 0, none⟩) (by have := h.size; show G < _; omega)).trans h.r0
  r1 := (hb.cell (p := ⟨G, 1, none⟩) (by have := h.size; show G < _; omega)).trans h.r1
  p0 := (hb.cell (p := ⟨G + 1, 0, none⟩) h.size).trans h.p0
  p1 := (hb.cell (p := ⟨G + 1, 1, none⟩) h.size).trans h.p1
  fr0 := (hb.frozen (p := ⟨G, 0, none⟩) (by have := h.size; show G < _; omega)).trans h.fr0
  fr1 := (hb.frozen (p := ⟨G, 1, none⟩) (by have := h.size; show G < _; omega)).trans h.fr1
  fp1 := (hb.frozen (p := ⟨G + 1, 1, none⟩) h.size).trans h.fp1
theorem Q2.drew {wr : World} {G : Nat} {n acc : Int} (h : Q2 wr G n acc) : Q2 wr.drew G n acc := ⟨h.size, h.r0, h.r1, h.p0, h.p1, h.fr0, h.fr1, h.fp1⟩
theorem Q2.set {wr : World} {G : Nat} {n acc : Int} (h : Q2 wr G n acc) (x : Int) : Q2 (wr.setCell ⟨G + 1, 1, none⟩ (.int .u32 x)) G n x where
  size := by have := h.size; simpa using this
  r0 := (World.cell?_setCell_other _ _ _ _ (by simp)).trans h.r0
  r1 := (World.cell?_setCell_other _ _ _ _ (by simp)).trans h.r1
  p0 := (World.cell?_setCell_other _ _ _ _ (by simp)).trans h.p0
  p1 := World.cell?_setCell_same _ _ _ h.p1
  fr0 := by simp [h.fr0]
  fr1 := by simp [h.fr1]
  fp1 := by simp [h.fp1]
section
variable (w : World)
theorem igo_some (B cap n : Nat) (l : Nat) (f : Nat → Int × Int) (j : Nat) (hn : n ≤ 5) (h1 : 0 < l) (hm : l ≤ 1048576) (hB : B < w.heap.size) (hc : CA w B l f) (hj : j ≤ l)
    (hg : ∀ i, i < j → IsP n (f i).1 (f i).2) (hb : j < l → ¬ IsP n (f j).1 (f j).2) :
    Calls Tryd.prog 67 #[.int .i64 n, .slice (some ⟨B, 0, none⟩) l cap] w fun r w' => r = .returned (if j < l then .tuple #[.agg #[.int .i64 0, .int .u32 0], .int .i64 2] else .tuple #[.agg #[.int .i64 n, .int .u32 (geE f l : Nat)], .int .i64 0]) ∧ Below w.heap.size w w' := by
  replace hc := Lib.hid hc
  replace hg := Lib.hid hg
  replace hb := Lib.hid hb
  obtain ⟨R, hR⟩ : ∃ R, R = (if j < l then Value.tuple #[.agg #[.int .i64 0, .int .u32 0], .int .i64 2] else .tuple #[.agg #[.int .i64 n, .int .u32 (geE f l : Nat)], .int .i64 0]) := ⟨_, rfl⟩
  rw [← hR]
  replace hR := Lib.hid hR
  go_enter Tryd.func67, Tryd.ntmps67
  go_wp2_with (go_at_call 61; refine (vc_t _ _ (by omega) (by omega)).mono ?_; rintro r w1 ⟨rfl, rfl⟩)
  go_loopw [8, 17] (fun _ i wr => ∃ k : Nat, k ≤ j ∧ i = .int .i64 k ∧ Q2 wr w.heap.size n (geE f k) ∧ Below w.heap.size w wr) (fun _ i _ => l - (intOf i).toNat)
  case atStart => exact ⟨0, by omega, rfl, Q2.start w _ _, by (repeat (first | exact Below.refl _ _ | assumption | refine bchain (by assumption) ?_ | refine balloc ?_ _ | apply Below.drew | apply below_drewN | (refine Below.alloc ?_ (by (try simp) <;> omega) _) | (refine Below.setCell ?_ (by (try simp) <;> omega) _)))⟩
  case round =>
    obtain ⟨k, hk, rfl, hQ, hBl⟩ := hrel
    by_cases hkl : k < l
    · have hcl := hc.out k hkl
      obtain ⟨x, y, hxy⟩ : ∃ x y, f k = (x, y) := ⟨_, _, rfl⟩
      have hs0 : wr.cell? ⟨B, k * 2, none⟩ = some (.int .i64 x) := by rw [hBl.cell (p := ⟨B, _, none⟩) hB, hcl.1, hxy]
      have hs1 : wr.cell? ⟨B, k * 2 + 1, none⟩ = some (.int .i64 y) := by rw [hBl.cell (p := ⟨B, _, none⟩) hB, hcl.2, hxy]
      clear hcl
      by_cases hkj : k < j
      · have hP := hg.out k hkj
        have hlt := geE_lt n f (by omega) k (fun i hi => hg.out i (by omega))
        rw [hxy] at hP
        have hnx := Lib.hid (show geE f (k + 1) = geE f k ||| pb x.toNat y.toNat by rw [geE, hxy])
        have hx4 : x.toNat ≤ 4 := by have := hP.1; have := hP.2.1; omega
        have hy4 : y.toNat ≤ 4 := by have := hP.2.2.1; have := hP.2.2.2.1; omega
        have hJ := Lib.hid (fun W => pbit_int W x y x.toNat y.toNat (by have := hP.1; omega) (by have := hP.2.2.1; omega) hx4 hy4)
        have hT := Lib.hid (fun W => ip_t W n x y hP)
        have hpl := pb_le x.toNat y.toNat hx4 hy4
        have hor := u32_or_nat (geE f k) (pb x.toNat y.toNat) (by omega) (by omega)
        obtain ⟨z, hz⟩ : ∃ z, pb x.toNat y.toNat = z := ⟨_, rfl⟩
        rw [hz] at hor hJ hnx
        obtain ⟨u, hu⟩ : ∃ u, geE f k = u := ⟨_, rfl⟩
        rw [hu] at hor hQ hnx
        obtain ⟨v, hv⟩ : ∃ v, u ||| z = v := ⟨_, rfl⟩
        rw [hv] at hor hnx
        clear hxy hP hlt hx4 hy4 hpl hz hu hv
        have hQ0 := Lib.hid hQ
        obtain ⟨q0, q1, q2, q3, q4, q5, q6, q7⟩ := hQ
        clear q1 q2 q3 q4 q5 q6 q7
        go_wp2_with (go_at_call 84; refine (hT.out _).mono ?_; rintro r w3 ⟨rfl, rfl⟩)
        obtain ⟨W, hW⟩ : ∃ W, W = wr.alloc (Obj.cells #[Value.int IntKind.i64 x, Value.int IntKind.i64 y] 67) := ⟨_, rfl⟩
        rw [← hW]
        obtain ⟨b0, hb0⟩ : ∃ b0, b0 = wr.heap.size := ⟨_, rfl⟩
        rw [← hb0]
        have hB2 : Below w.heap.size w W := by rw [hW]; (repeat (first | exact Below.refl _ _ | assumption | refine bchain (by assumption) ?_ | refine balloc ?_ _ | apply Below.drew | apply below_drewN | (refine Below.alloc ?_ (by (try simp) <;> omega) _) | (refine Below.setCell ?_ (by (try simp) <;> omega) _)))
        have hQ2 : Q2 W w.heap.size n u := by rw [hW]; exact hQ0.out.below (by (repeat (first | exact Below.refl _ _ | assumption | refine bchain (by assumption) ?_ | refine balloc ?_ _ | apply Below.drew | apply below_drewN | (refine Below.alloc ?_ (by (try simp) <;> omega) _) | (refine Below.setCell ?_ (by (try simp) <;> omega) _))))
        have hy0 : W.cell? ⟨b0, 0, none⟩ = some (.int .i64 x) := by rw [hW, cNew _ _ _ _ _ hb0]; rfl
        have hy1 : W.cell? ⟨b0, 1, none⟩ = some (.int .i64 y) := by rw [hW, cNew _ _ _ _ _ hb0]; rfl
        clear hW hb0 hQ0 hBl hs0 hs1 q0
        have hQ0 := Lib.hid hQ2
        obtain ⟨q0, q1, q2, q3, q4, q5, q6, q7⟩ := hQ2
        clear q1 q2 q3 q5 q6
        go_still_tail 7, (by kernel_rfl)
        still_call ((hJ.out _).mono fun _ _ h => ⟨h.1, h.2.symm⟩)
        refine wpStill_nil ?_
        change wpList _ _ _ _ _ W.drew
        go_wp2
        go_roundw
        case rel => exact ⟨k + 1, by omega, by go_num, by rw [hnx.out]; exact (hQ0.out.drew.set _), by (repeat (first | exact Below.refl _ _ | assumption | refine bchain (by assumption) ?_ | refine balloc ?_ _ | apply Below.drew | apply below_drewN | (refine Below.alloc ?_ (by (try simp) <;> omega) _) | (refine Below.setCell ?_ (by (try simp) <;> omega) _)))⟩
        case measure => simp [intOf]; omega
      · obtain rfl : k = j := by omega
        have hP := hb.out hkl
        rw [hxy] at hP
        have hT := Lib.hid (fun W => ip_f W n x y hP)
        have hR2 := hR.out
        rw [if_pos hkl] at hR2
        clear hxy hP
        have hQ0 := Lib.hid hQ
        obtain ⟨q0, q1, q2, q3, q4, q5, q6, q7⟩ := hQ
        clear q1 q2 q3 q4 q5 q6 q7
        replace hR2 := Lib.hid hR2
        go_wp2_with (go_at_call 84; refine (hT.out _).mono ?_; rintro r w3 ⟨rfl, rfl⟩; have hQ2 := hQ0.out.below (w' := wr.alloc (Obj.cells #[Value.int IntKind.i64 x, Value.int IntKind.i64 y] 67)) (by (repeat (first | exact Below.refl _ _ | assumption | refine bchain (by assumption) ?_ | refine balloc ?_ _ | apply Below.drew | apply below_drewN | (refine Below.alloc ?_ (by (try simp) <;> omega) _) | (refine Below.setCell ?_ (by (try simp) <;> omega) _)))); have q1 := hQ2.r0; have q2 := hQ2.r1; have q3 := hQ2.fr0; have q4 := hQ2.fr1)
        have h2 := twoCells q1 q2 (.int .i64 0) (.int .u32 0)
        exact bodyPost_ret (v := .tuple #[.agg #[.int .i64 0, .int .u32 0], .int .i64 2]) (by simp [results, Tryd.results67, go_sem, h2.1, h2.2]) rfl ⟨by rw [hR2.out], by (repeat (first | exact Below.refl _ _ | assumption | refine bchain (by assumption) ?_ | refine balloc ?_ _ | apply Below.drew | apply below_drewN | (refine Below.alloc ?_ (by (try simp) <;> omega) _) | (refine Below.setCell ?_ (by (try simp) <;> omega) _)))⟩
    · obtain rfl : k = l := by omega
      have hk0 : k = j := by omega
      have hR2 := hR.out
      rw [if_neg (by omega)] at hR2
      replace hR2 := Lib.hid hR2
      have hd := decide_eq_false (show ¬ ((k : Int) < (k : Int)) by omega)
      obtain ⟨u, hu⟩ : ∃ u, geE f k = u := ⟨_, rfl⟩
      rw [hu] at hQ hR2
      clear hu hkl
      obtain ⟨q0, q1, q2, q3, q4, q5, q6, q7⟩ := hQ
      go_wp2
      have h2 := twoCells q1 q2 (.int .i64 n) (.int .u32 u)
      exact bodyPost_ret (v := .tuple #[.agg #[.int .i64 n, .int .u32 u], .int .i64 0]) (by simp [results, Tryd.results67, go_sem, h2.1, h2.2]) rfl ⟨by rw [hR2.out], by (repeat (first | exact Below.refl _ _ | assumption | refine bchain (by assumption) ?_ | refine balloc ?_ _ | apply Below.drew | apply below_drewN | (refine Below.alloc ?_ (by (try simp) <;> omega) _) | (refine Below.setCell ?_ (by (try simp) <;> omega) _)))⟩
theorem igo_empty (a : Option Addr) (cap n : Nat) (hn : n ≤ 5) :
    Calls Tryd.prog 67 #[.int .i64 n, .slice a 0 cap] w fun r w' => r = .returned (.tuple #[.agg #[.int .i64 n, .int .u32 0], .int .i64 0]) ∧ Below w.heap.size w w' := by
  go_enter Tryd.func67, Tryd.ntmps67
  go_wp2_with (go_at_call 61; refine (vc_t _ _ (by omega) (by omega)).mono ?_; rintro r w1 ⟨rfl, rfl⟩)
  go_loopw [8, 17] (fun _ i wr => i = .int .i64 0 ∧ Q2 wr w.heap.size n 0 ∧ Below w.heap.size w wr) (fun _ _ _ => 0)
  case atStart => exact ⟨rfl, Q2.start w _ _, by (repeat (first | exact Below.refl _ _ | assumption | refine bchain (by assumption) ?_ | refine balloc ?_ _ | apply Below.drew | apply below_drewN | (refine Below.alloc ?_ (by (try simp) <;> omega) _) | (refine Below.setCell ?_ (by (try simp) <;> omega) _)))⟩
  case round =>
    obtain ⟨rfl, hQ, hBl⟩ := hrel
    obtain ⟨q0, q1, q2, q3, q4, q5, q6, q7⟩ := hQ
    go_wp2
    have h2 := twoCells q1 q2 (.int .i64 n) (.int .u32 0)
    exact bodyPost_ret (v := .tuple #[.agg #[.int .i64 n, .int .u32 0], .int .i64 0]) (by simp [results, Tryd.results67, go_sem, h2.1, h2.2]) rfl ⟨rfl, by (repeat (first | exact Below.refl _ _ | assumption | refine bchain (by assumption) ?_ | refine balloc ?_ _ | apply Below.drew | apply below_drewN | (refine Below.alloc ?_ (by (try simp) <;> omega) _) | (refine Below.setCell ?_ (by (try simp) <;> omega) _)))⟩
theorem igo_out (n : Int) (v : Value) (hr : n < 0 ∨ 5 < n) :
    Calls Tryd.prog 67 #[.int .i64 n, v] w fun r w' => r = .returned (.tuple #[.agg #[.int .i64 0, .int .u32 0], .int .i64 2]) ∧ Below w.heap.size w w' := by
  go_enter Tryd.func67, Tryd.ntmps67
  go_wp2_with (go_at_call 61; refine (vc_f _ _ hr).mono ?_; rintro r w1 ⟨rfl, rfl⟩)
  exact bodyPost_ret (v := .tuple #[.agg #[.int .i64 0, .int .u32 0], .int .i64 2]) (by simp [results, Tryd.results67, go_sem]) rfl ⟨rfl, by (repeat (first | exact Below.refl _ _ | assumption | refine bchain (by assumption) ?_ | refine balloc ?_ _ | apply Below.drew | apply below_drewN | (refine Below.alloc ?_ (by (try simp) <;> omega) _) | (refine Below.setCell ?_ (by (try simp) <;> omega) _)))⟩
end
end Go.Proofs.YtkmlgoklmmbmjaaDoor
