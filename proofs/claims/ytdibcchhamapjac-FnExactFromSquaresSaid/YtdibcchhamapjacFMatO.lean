/-
  ROWS THAT A FUNCTION TELLS: the program's matrixOf.
-/
import Derived.Test.YtdibcchhamapjacFMark
import Derived.Test.YtdibcchhamapjacFMat
import Derived.Deep.DeepCutAuto
import Derived.BigQuiet
namespace Go.Proofs.Ytdibcchhamapjac
open Go.RowKit
set_option maxRecDepth 100000
/-- the cells of n rows of n fractions -/
def gv (n : Nat) (g : Nat → Nat → Int × Int) (c : Nat) : Int := if c % 2 = 0 then (g (c / 2 / n) (c / 2 % n)).1 else (g (c / 2 / n) (c / 2 % n)).2
theorem gv_at {n i j : Nat} (g : Nat → Nat → Int × Int) (hj : j < n) : gv n g ((i * n + j) * 2) = (g i j).1 ∧ gv n g ((i * n + j) * 2 + 1) = (g i j).2 := by
  have h1 : (i * n + j) * 2 / 2 = i * n + j := by omega
  have h2 : ((i * n + j) * 2 + 1) / 2 = i * n + j := by omega
  have h3 : (i * n + j) / n = i := by rw [Nat.mul_comm, Nat.mul_add_div (by omega), Nat.div_eq_of_lt hj]; omega
  have h4 : (i * n + j) % n = j := by rw [Nat.mul_comm, Nat.mul_add_mod, Nat.mod_eq_of_lt hj]
  unfold gv
  rw [h1, h2, h3, h4, if_pos (by omega), if_neg (by omega)]
  exact ⟨rfl, rfl⟩
/-- the cells up to m are told, the others are 0 -/
def upTo (n : Nat) (g : Nat → Nat → Int × Int) (m c : Nat) : Int := if c < m then gv n g c else 0
/-- the rows up to k stand, the others are nil -/
def RowsTo (w : World) (A B n k : Nat) : Prop := ∀ i, i < n → w.cell? ⟨A, i, none⟩ = some (if i < k then .slice (some ⟨B, i * n * 2, none⟩) n n else .slice none 0 0)
/-- what a cell holds -/
def cellOf (w : World) (a : Addr) : Value := (w.cell? a).getD undef
theorem cellOf_of {w : World} {a : Addr} {v : Value} (h : w.cell? a = some v) : w.cell? a = some (cellOf w a) := by unfold cellOf; rw [h]; rfl
theorem held_store {wr W : World} {A B i a : Nat} {r z0 z1 x y : Value} (hAB : A = B + 1) (zA : A < wr.heap.size) (zB : B < wr.heap.size) (r1 : wr.cell? ⟨A, i, none⟩ = some r) (c0 : wr.cell? ⟨B, a, none⟩ = some z0) (c1 : wr.cell? ⟨B, a + 1, none⟩ = some z1)
    (f0 : wr.frozen? ⟨B, a, none⟩ = false) (f1 : wr.frozen? ⟨B, a + 1, none⟩ = false) (hb : Below wr.heap.size wr W) (S : World) (hS : S = (W.setCell ⟨B, a, none⟩ x).setCell ⟨B, a + 1, none⟩ y) :
    S.cell? ⟨A, i, none⟩ = some r ∧ S.cell? ⟨B, a, none⟩ = some (cellOf S ⟨B, a, none⟩) ∧ S.cell? ⟨B, a + 1, none⟩ = some (cellOf S ⟨B, a + 1, none⟩) ∧ S.frozen? ⟨B, a, none⟩ = false ∧ S.frozen? ⟨B, a + 1, none⟩ = false := by
  have e0 := old_cell zB c0 hb
  have e1 := old_cell zB c1 hb
  have g0 := (hb.frozen (p := ⟨B, a, none⟩) zB).trans f0
  have g1 := (hb.frozen (p := ⟨B, a + 1, none⟩) zB).trans f1
  subst hS
  refine ⟨?_, cellOf_of (v := x) ?_, cellOf_of (v := y) ?_, by simp [g0], by simp [g1]⟩
  · exact (World.cell?_setCell_other _ _ _ _ (by simp <;> omega)).trans ((World.cell?_setCell_other _ _ _ _ (by simp <;> omega)).trans (old_cell zA r1 hb))
  · exact (World.cell?_setCell_other _ _ _ _ (by simp)).trans (World.cell?_setCell_same _ _ _ e0)
  · exact World.cell?_setCell_same _ _ _ ((World.cell?_setCell_other _ _ _ _ (by simp)).trans e1)
theorem CF.tell {W : World} {B L n m : Nat} {g : Nat → Nat → Int × Int} {x : Int} (h : CF W B L (upTo n g m)) (hm : m < L) (hx : gv n g m = x) : CF (W.setCell ⟨B, m, none⟩ (.int .i64 x)) B L (upTo n g (m + 1)) :=
  h.set hm (by unfold upTo; rw [if_pos (by omega)]; exact hx) (fun i hi => by
    unfold upTo
    by_cases c : i < m
    · rw [if_pos c, if_pos (by omega)]
    · rw [if_neg c, if_neg (by omega)])
theorem mat_next {w wr W : World} {B N n i t j : Nat} {g : Nat → Nat → Int × Int} {x y : Int} (hb : Below wr.heap.size wr W) (hjn : j < n) (ht : i * n = t) (hle : t + n ≤ N) (hxy : g i j = (x, y))
    (hC : CF wr B (N * 2) (upTo n g (t * 2 + j * 2))) (hR : RowsTo wr (B + 1) B n (i + 1)) (hF : ∀ c, wr.frozen? ⟨B, c, none⟩ = false) (hF1 : ∀ c, wr.frozen? ⟨B + 1, c, none⟩ = false) (hz : B + 1 < wr.heap.size) (hB : Below B w wr)
    (S : World) (hS : S = (W.setCell ⟨B, t * 2 + j * 2, none⟩ (.int .i64 x)).setCell ⟨B, t * 2 + j * 2 + 1, none⟩ (.int .i64 y)) :
    CF S B (N * 2) (upTo n g (t * 2 + (j + 1) * 2)) ∧ RowsTo S (B + 1) B n (i + 1) ∧ (∀ c, S.frozen? ⟨B, c, none⟩ = false) ∧ (∀ c, S.frozen? ⟨B + 1, c, none⟩ = false) ∧ B + 1 < S.heap.size ∧ Below B w S := by
  obtain ⟨g1, g2⟩ := gv_at (i := i) g hjn
  rw [ht, hxy, show (t + j) * 2 = t * 2 + j * 2 by omega] at g1 g2
  have hs := hb.size
  subst hS
  refine ⟨?_, fun k hk => ?_, fun c => ?_, fun c => ?_, by simp; omega, ?_⟩
  · rw [show t * 2 + (j + 1) * 2 = t * 2 + j * 2 + 1 + 1 by omega]
    exact ((hC.below hb (by omega)).tell (by omega) g1).tell (by omega) g2
  · exact (World.cell?_setCell_other _ _ _ _ (by simp <;> omega)).trans ((World.cell?_setCell_other _ _ _ _ (by simp <;> omega)).trans ((hb.cell (p := ⟨B + 1, k, none⟩) hz).trans (hR k hk)))
  · have := (hb.frozen (p := ⟨B, c, none⟩) (by show B < _; omega)).trans (hF c)
    simp [this]
  · have := (hb.frozen (p := ⟨B + 1, c, none⟩) hz).trans (hF1 c)
    simp [this]
  · exact ((hB.trans (hb.mono (by omega))).setCell (p := ⟨B, t * 2 + j * 2, none⟩) (Nat.le_refl B) _).setCell (p := ⟨B, t * 2 + j * 2 + 1, none⟩) (Nat.le_refl B) _
theorem madeCF (w : World) (N : Nat) (e : TypeId) (O O1 : Obj) (n : Nat) (g : Nat → Nat → Int × Int) (hO : O = Obj.cells (madeCells #[.int .i64 0, .int .i64 0] (N * 2)) e) : CF ((w.alloc O).alloc O1) w.heap.size (N * 2) (upTo n g (0 * n * 2)) := by
  intro i hi
  subst hO
  rw [World.cell?_alloc_old _ _ _ (by show w.heap.size ≠ _; simp), World.cell?_alloc_new]
  have hu : upTo n g (0 * n * 2) i = 0 := by unfold upTo; rw [if_neg (by omega)]
  rw [hu]
  rcases Nat.mod_two_eq_zero_or_one i with h | h <;> simp [madeCells, hi, h]
theorem madeRows (w : World) (n B : Nat) (e : TypeId) (O O1 : Obj) (hO : O1 = Obj.cells (madeCells #[.slice none 0 0] (n * 1)) e) : RowsTo ((w.alloc O).alloc O1) (w.heap.size + 1) B n 0 := by
  intro i hi
  subst hO
  have e1 : w.heap.size + 1 = (w.alloc O).heap.size := by simp
  rw [e1, World.cell?_alloc_new, if_neg (by omega)]
  simp [madeCells, hi, Nat.mod_one]
theorem row_next {wr : World} {B n i t N : Nat} {g : Nat → Nat → Int × Int} (ht : i * n = t) (hi : i < n) (hC : CF wr B (N * 2) (upTo n g (i * n * 2))) (hR : RowsTo wr (B + 1) B n i) (hF : ∀ c, wr.frozen? ⟨B, c, none⟩ = false) (hF1 : ∀ c, wr.frozen? ⟨B + 1, c, none⟩ = false)
    (S : World) (hS : S = wr.setCell ⟨B + 1, i, none⟩ (.slice (some ⟨B, t * 2, none⟩) n n)) :
    CF S B (N * 2) (upTo n g (t * 2 + 0 * 2)) ∧ RowsTo S (B + 1) B n (i + 1) ∧ (∀ c, S.frozen? ⟨B, c, none⟩ = false) ∧ (∀ c, S.frozen? ⟨B + 1, c, none⟩ = false) := by
  subst hS
  refine ⟨fun c hc => ?_, fun k hk => ?_, fun c => by simp [hF c], fun c => by simp [hF1 c]⟩
  · have h := hC c hc
    rw [ht] at h
    rw [show t * 2 + 0 * 2 = t * 2 by omega]
    exact (World.cell?_setCell_other _ _ _ _ (by simp <;> omega)).trans h
  · by_cases e : k = i
    · subst e
      rw [World.cell?_setCell_same _ _ _ (hR k hk), if_pos (by omega), ht]
    · refine (World.cell?_setCell_other _ _ _ _ (by simp <;> omega)).trans ((hR k hk).trans ?_)
      by_cases c : k < i
      · rw [if_pos c, if_pos (by omega)]
      · rw [if_neg c, if_neg (by omega)]
section
variable (w : World)
set_option maxHeartbeats 2000000 in
theorem imat_ok (G : FuncId) (caps : Array Value) (eg : ∀ args w, (callFunc G args).run Try.prog w = .ok (.enter G args) w) (n : Nat) (hn : n ≤ 8) (g : Nat → Nat → Int × Int)
    (hG : ∀ W (i j : Nat), i < n → j < n → Calls Try.prog G (#[.int .i64 i, .int .i64 j] ++ caps) W fun r w' => r = .returned (.agg #[.int .i64 (g i j).1, .int .i64 (g i j).2]) ∧ Below W.heap.size W w') :
    Calls Try.prog 66 #[.int .i64 n, .func (.func G) #[] caps] w fun r w' => r = .returned (.slice (some ⟨w.heap.size + 1, 0, none⟩) n n) ∧ Below w.heap.size w w' ∧ CF w' w.heap.size (n * n * 2) (gv n g) ∧ RowsIn w' (w.heap.size + 1) w.heap.size n ∧ (∀ c, w'.frozen? ⟨w.heap.size, c, none⟩ = false) ∧ w.heap.size + 1 < w'.heap.size := by
  obtain ⟨i0, hi0, hz0, hs0, hb0⟩ := info_parts info_graph
  obtain ⟨i1, hi1, hz1, hs1, hb1⟩ := info_parts info_row
  obtain ⟨N, hN⟩ : ∃ N : Nat, n * n = N := ⟨_, rfl⟩
  have hN64 : N ≤ 64 := by rw [← hN]; exact Nat.mul_le_mul hn hn
  obtain ⟨O, hO⟩ : ∃ O, O = Obj.cells (madeCells #[.int .i64 0, .int .i64 0] (N * 2)) 36 := ⟨_, rfl⟩
  obtain ⟨O1, hO1⟩ : ∃ O, O = Obj.cells (madeCells #[.slice none 0 0] (n * 1)) 42 := ⟨_, rfl⟩
  have hmk : ∀ W : World, (Instr.makeSlice 42 (.int .i64 N) (.int .i64 N)).run Try.prog W = .ok (.slice (some ⟨W.heap.size, 0, none⟩) N N) (W.alloc O) := fun W => by
    have hr := run_make (P := Try.prog) W 42 36 i0 (.agg #[.int .i64 0, .int .i64 0]) Try.underlying42 hi0 hz0 .i64 .i64 (N : Int) (N : Int) (by omega) (by omega) (by rw [hb0]; omega) (by omega)
    simp only [Int.toNat_natCast, hs0] at hr
    rw [hO]
    exact hr
  have hmk1 : ∀ W : World, (Instr.makeSlice 22 (.int .i64 n) (.int .i64 n)).run Try.prog W = .ok (.slice (some ⟨W.heap.size, 0, none⟩) n n) (W.alloc O1) := fun W => by
    have hr := run_make (P := Try.prog) W 22 42 i1 (.slice none 0 0) Try.underlying22 hi1 hz1 .i64 .i64 (n : Int) (n : Int) (by omega) (by omega) (by rw [hb1]; omega) (by omega)
    simp only [Int.toNat_natCast, hs1] at hr
    rw [hO1]
    exact hr
  clear hi0 hz0 hs0 hb0 hi1 hz1 hs1 hb1
  replace hO := Lib.hid hO
  replace hO1 := Lib.hid hO1
  replace hG := Lib.hid hG
  have hNN : (n : Int) * (n : Int) = (N : Int) := by rw [← hN]; simp
  replace hN := Lib.hid hN
  go_enter Try.func66, Try.ntmps66
  go_wp2
  go_loopw [7, 8, 17, 41] (fun _ _ q _ wr => ∃ i : Nat, i ≤ n ∧ q = .int .i64 i ∧ CF wr w.heap.size (N * 2) (upTo n g (i * n * 2)) ∧ RowsTo wr (w.heap.size + 1) w.heap.size n i ∧ (∀ c, wr.frozen? ⟨w.heap.size, c, none⟩ = false) ∧ (∀ c, wr.frozen? ⟨w.heap.size + 1, c, none⟩ = false) ∧ w.heap.size + 1 < wr.heap.size ∧ Below w.heap.size w wr) (fun _ _ q _ _ => n - (intOf q).toNat)
  case atStart => exact ⟨0, by omega, by rfl, madeCF w N _ O O1 n g hO.out, madeRows w n _ _ O O1 hO1.out, fun c => by rw [hO.out, hO1.out]; simp, fun c => by rw [hO1.out, hO.out]; simp, by simp, by (repeat (first | exact Below.refl _ _ | assumption | refine bchain (by assumption) ?_ | refine balloc ?_ _ | apply Below.drew | apply below_drewN | (refine Below.alloc ?_ (by (try simp) <;> omega) _) | (refine Below.setCell ?_ (by (try simp) <;> omega) _)))⟩
  case round =>
    obtain ⟨i, hi, rfl, hC, hR, hF, hF1, hz, hb⟩ := hrel
    by_cases hlt : i < n
    · have r0 := hR i hlt
      rw [if_neg (by omega)] at r0
      have f1 := hF1 i
      obtain ⟨t, ht⟩ : ∃ t, i * n = t := ⟨_, rfl⟩
      have hm1 : (i : Int) * (n : Int) = (t : Int) := by rw [← ht]; simp
      have hm2 : ((i : Int) + 1) * (n : Int) = (t : Int) + (n : Int) := by rw [Int.add_mul, Int.one_mul, hm1]
      have ht2 : t + n ≤ N := by
        have h1 : (i + 1) * n ≤ n * n := Nat.mul_le_mul (by omega) (Nat.le_refl n)
        rw [Nat.add_mul, Nat.one_mul, ht, hN.out] at h1
        exact h1
      replace hC := Lib.hid hC
      replace hR := Lib.hid hR
      replace hF := Lib.hid hF
      replace hF1 := Lib.hid hF1
      have hin : i < n := hlt
      go_wp2
      simp only [Nat.add_sub_cancel_left]
      go_loopw [8, 41] (fun _ q wr => ∃ j : Nat, j ≤ n ∧ q = .int .i64 j ∧ CF wr w.heap.size (N * 2) (upTo n g (t * 2 + j * 2)) ∧ RowsTo wr (w.heap.size + 1) w.heap.size n (i + 1) ∧ (∀ c, wr.frozen? ⟨w.heap.size, c, none⟩ = false) ∧ (∀ c, wr.frozen? ⟨w.heap.size + 1, c, none⟩ = false) ∧ w.heap.size + 1 < wr.heap.size ∧ Below w.heap.size w wr) (fun _ q _ => n - (intOf q).toNat)
      case atStart =>
        obtain ⟨n1, n2, n3, n4⟩ := row_next ht hin hC.out hR.out hF.out hF1.out _ rfl
        exact ⟨0, by omega, by rfl, n1, n2, n3, n4, by simp; omega, hb.setCell (by simp <;> omega) _⟩
      case round =>
        clear f1 hC hR hF hF1 hz hb r0
        obtain ⟨j, hj, rfl, hC, hR, hF, hF1, hz, hb⟩ := hrel
        by_cases hjn : j < n
        · have r1 := hR i hin
          rw [if_pos (by omega), ht] at r1
          have c0 := hC (t * 2 + j * 2) (by omega)
          have c1 := hC (t * 2 + j * 2 + 1) (by omega)
          have f0 := hF (t * 2 + j * 2)
          have f1 := hF (t * 2 + j * 2 + 1)
          obtain ⟨z0, hz0⟩ : ∃ z, upTo n g (t * 2 + j * 2) (t * 2 + j * 2) = z := ⟨_, rfl⟩
          obtain ⟨z1, hz1⟩ : ∃ z, upTo n g (t * 2 + j * 2) (t * 2 + j * 2 + 1) = z := ⟨_, rfl⟩
          rw [hz0] at c0
          rw [hz1] at c1
          obtain ⟨x, y, hxy⟩ : ∃ x y, g i j = (x, y) := ⟨_, _, rfl⟩
          have hQ := Lib.hid (fun W => hG.out W i j hin hjn)
          rw [hxy] at hQ
          have hE := Lib.hid (fun W (h : Below wr.heap.size wr W) => mat_next (w := w) h hjn ht ht2 hxy hC hR hF hF1 hz hb _ rfl)
          clear hz0 hz1
          have zA : w.heap.size + 1 < wr.heap.size := hz
          have zB : w.heap.size < wr.heap.size := by omega
          replace hC := Lib.hid hC
          replace hR := Lib.hid hR
          replace hF := Lib.hid hF
          replace hF1 := Lib.hid hF1
          go_wp2
          go_region_held3 (fun W => W.cell? ⟨w.heap.size + 1, i, none⟩ = some (.slice (some ⟨w.heap.size, t * 2, none⟩) n n) ∧ W.cell? ⟨w.heap.size, t * 2 + j * 2, none⟩ = some (cellOf W ⟨w.heap.size, t * 2 + j * 2, none⟩) ∧ W.cell? ⟨w.heap.size, t * 2 + j * 2 + 1, none⟩ = some (cellOf W ⟨w.heap.size, t * 2 + j * 2 + 1, none⟩) ∧ W.frozen? ⟨w.heap.size, t * 2 + j * 2, none⟩ = false ∧ W.frozen? ⟨w.heap.size, t * 2 + j * 2 + 1, none⟩ = false)
            (first
              | exact held_store rfl zA zB r1 c0 c1 f0 f1 (by (repeat (first | exact Below.refl _ _ | assumption | refine bchain (by assumption) ?_ | refine balloc ?_ _ | apply Below.drew | apply below_drewN | (refine Below.alloc ?_ (by (try simp) <;> omega) _) | (refine Below.setCell ?_ (by (try simp) <;> omega) _)))) _ rfl
              | exact ⟨old_cell zA r1 (by (repeat (first | exact Below.refl _ _ | assumption | refine bchain (by assumption) ?_ | refine balloc ?_ _ | apply Below.drew | apply below_drewN | (refine Below.alloc ?_ (by (try simp) <;> omega) _) | (refine Below.setCell ?_ (by (try simp) <;> omega) _)))), cellOf_of (old_cell zB c0 (by (repeat (first | exact Below.refl _ _ | assumption | refine bchain (by assumption) ?_ | refine balloc ?_ _ | apply Below.drew | apply below_drewN | (refine Below.alloc ?_ (by (try simp) <;> omega) _) | (refine Below.setCell ?_ (by (try simp) <;> omega) _))))), cellOf_of (old_cell zB c1 (by (repeat (first | exact Below.refl _ _ | assumption | refine bchain (by assumption) ?_ | refine balloc ?_ _ | apply Below.drew | apply below_drewN | (refine Below.alloc ?_ (by (try simp) <;> omega) _) | (refine Below.setCell ?_ (by (try simp) <;> omega) _))))), (Below.frozen (p := ⟨w.heap.size, t * 2 + j * 2, none⟩) (by (repeat (first | exact Below.refl _ _ | assumption | refine bchain (by assumption) ?_ | refine balloc ?_ _ | apply Below.drew | apply below_drewN | (refine Below.alloc ?_ (by (try simp) <;> omega) _) | (refine Below.setCell ?_ (by (try simp) <;> omega) _)))) zB).trans f0, (Below.frozen (p := ⟨w.heap.size, t * 2 + j * 2 + 1, none⟩) (by (repeat (first | exact Below.refl _ _ | assumption | refine bchain (by assumption) ?_ | refine balloc ?_ _ | apply Below.drew | apply below_drewN | (refine Below.alloc ?_ (by (try simp) <;> omega) _) | (refine Below.setCell ?_ (by (try simp) <;> omega) _)))) zB).trans f1⟩)
            (first | (refine (hQ.out _).mono ?_; rintro r w3 ⟨rfl, hb3⟩))
          obtain ⟨n1, n2, n3, n4, n5, n6⟩ := hE.out w3 (by (repeat (first | exact Below.refl _ _ | assumption | refine bchain (by assumption) ?_ | refine balloc ?_ _ | apply Below.drew | apply below_drewN | (refine Below.alloc ?_ (by (try simp) <;> omega) _) | (refine Below.setCell ?_ (by (try simp) <;> omega) _))))
          replace n1 := Lib.hid n1
          replace n2 := Lib.hid n2
          replace n3 := Lib.hid n3
          replace n4 := Lib.hid n4
          go_wp2
          go_roundw
          case rel => exact ⟨j + 1, by omega, by go_num, n1.out, n2.out, n3.out, n4.out, n5, n6⟩
          case measure => simp [intOf]; omega
        · obtain rfl : j = n := by omega
          have hd := decide_eq_false (show ¬ ((j : Int) < (j : Int)) by omega)
          rw [show t * 2 + j * 2 = (i + 1) * j * 2 by rw [Nat.add_mul, Nat.one_mul, ht]; omega] at hC
          replace hC := Lib.hid hC
          replace hR := Lib.hid hR
          replace hF := Lib.hid hF
          replace hF1 := Lib.hid hF1
          go_wp2
          go_roundw
          case rel => exact ⟨i + 1, by omega, by go_num, hC.out, hR.out, hF.out, hF1.out, hz, hb⟩
          case measure => simp [intOf]; omega
    · obtain rfl : i = n := by omega
      have hd := decide_eq_false (show ¬ ((i : Int) < (i : Int)) by omega)
      replace hC := Lib.hid hC
      replace hR := Lib.hid hR
      replace hF := Lib.hid hF
      replace hF1 := Lib.hid hF1
      go_wp2
      go_ret
      refine ⟨rfl, hb, ?_, fun k hk => ?_, hF.out, hz⟩
      · have h := hC.out
        rw [hN.out] at h ⊢
        exact h.congr (fun c hc => by unfold upTo; rw [if_pos hc])
      · have h := hR.out k hk
        rwa [if_pos hk] at h
end
end Go.Proofs.Ytdibcchhamapjac
