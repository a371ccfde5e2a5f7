/-
  THE PART OF ALL PAIRS THAT ARE EDGES: the program's and the model's contracts.
-/
import Derived.Test.YtmbjhncgdmbpaacPrsS
import Derived.Test.YtmbjhncgdmbpaacFrAll
import Derived.Lib.Tables
import Derived.Lib.BitFns
import Derived.Deep.RegionHeld3
namespace Go.Proofs.Ytmbjhncgdmbpaac
open Go.RowKit
set_option maxRecDepth 100000

theorem oc_parts : ∀ e : Nat, e < 1024 → (e : Int) / 16777216 = 0 ∧ bits .and .u32 ((e : Int) / 65536) 255 = 0 ∧ bits .and .u32 ((e : Int) / 256) 255 = ((e / 256 : Nat) : Int) ∧ bits .and .u32 (e : Int) 255 = ((e % 256 : Nat) : Int) := by decide +kernel
theorem oc_sum : ∀ e : Nat, e < 1024 → Lib.pop8 ((e / 256 : Nat) : Int) + Lib.pop8 ((e % 256 : Nat) : Int) = ((prE 5 e).length : Int) := by decide +kernel
theorem pop8_le : ∀ e : Nat, e < 256 → 0 ≤ Lib.pop8 (e : Int) ∧ Lib.pop8 (e : Int) ≤ 8 := by decide +kernel
/-- what a cell holds -/
def cellOf (w : World) (a : Addr) : Value := (w.cell? a).getD undef
theorem cellOf_of {w : World} {a : Addr} {v : Value} (h : w.cell? a = some v) : w.cell? a = some (cellOf w a) := by unfold cellOf; rw [h]; rfl
/-- a graph's box, and the result's behind it -/
def EdS (G : Nat) (n e : Int) (A : World) : Prop := A.cell? ⟨G, 0, none⟩ = some (.int .i64 n) ∧ A.cell? ⟨G, 1, none⟩ = some (.int .u32 e) ∧ A.cell? ⟨G + 1, 0, none⟩ = some (cellOf A ⟨G + 1, 0, none⟩) ∧ A.cell? ⟨G + 1, 1, none⟩ = some (cellOf A ⟨G + 1, 1, none⟩) ∧ A.frozen? ⟨G + 1, 0, none⟩ = false ∧ A.frozen? ⟨G + 1, 1, none⟩ = false
structure Ed0 (w : World) (G : Nat) (n e : Int) : Prop where
  zR : G + 1 < w.heap.size
  c0 : w.cell? ⟨G, 0, none⟩ = some (.int .i64 n)
  c1 : w.cell? ⟨G, 1, none⟩ = some (.int .u32 e)
  r0 : w.cell? ⟨G + 1, 0, none⟩ = some (.int .i64 0)
  r1 : w.cell? ⟨G + 1, 1, none⟩ = some (.int .i64 0)
  f0 : w.frozen? ⟨G + 1, 0, none⟩ = false
  f1 : w.frozen? ⟨G + 1, 1, none⟩ = false
theorem Ed0.below {w W : World} {G : Nat} {n e : Int} (h : Ed0 w G n e) (hb : Below w.heap.size w W) : Ed0 W G n e :=
  ⟨Nat.lt_of_lt_of_le h.zR hb.size, (hb.cell (p := ⟨G, 0, none⟩) (by have := h.zR; show G < _; omega)).trans h.c0, (hb.cell (p := ⟨G, 1, none⟩) (by have := h.zR; show G < _; omega)).trans h.c1, (hb.cell (p := ⟨G + 1, 0, none⟩) h.zR).trans h.r0, (hb.cell (p := ⟨G + 1, 1, none⟩) h.zR).trans h.r1,
    (hb.frozen (p := ⟨G + 1, 0, none⟩) h.zR).trans h.f0, (hb.frozen (p := ⟨G + 1, 1, none⟩) h.zR).trans h.f1⟩
theorem Ed0.s {w : World} {G : Nat} {n e : Int} (h : Ed0 w G n e) : EdS G n e w := ⟨h.c0, h.c1, cellOf_of h.r0, cellOf_of h.r1, h.f0, h.f1⟩
theorem Ed0.held {w W S : World} {G : Nat} {n e : Int} {x y : Value} (h : Ed0 w G n e) (hb : Below w.heap.size w W) (hS : S = (W.setCell ⟨G + 1, 0, none⟩ x).setCell ⟨G + 1, 1, none⟩ y) : EdS G n e S := by
  have k := h.below hb
  subst hS
  refine ⟨?_, ?_, cellOf_of (v := x) ?_, cellOf_of (v := y) ?_, by simp [k.f0], by simp [k.f1]⟩
  · exact (World.cell?_setCell_other _ _ _ _ (by simp)).trans ((World.cell?_setCell_other _ _ _ _ (by simp)).trans k.c0)
  · exact (World.cell?_setCell_other _ _ _ _ (by simp)).trans ((World.cell?_setCell_other _ _ _ _ (by simp)).trans k.c1)
  · exact (World.cell?_setCell_other _ _ _ _ (by simp)).trans (World.cell?_setCell_same _ _ _ k.r0)
  · exact World.cell?_setCell_same _ _ _ ((World.cell?_setCell_other _ _ _ _ (by simp)).trans k.r1)
theorem Ed0.made (w : World) (n e : Int) : Ed0 ((w.alloc (.cells #[.int .i64 n, .int .u32 e] 29)).alloc (.cells #[.int .i64 0, .int .i64 0] 26)) w.heap.size n e :=
  ⟨by simp, by rw [cOld _ _ _ _ (by simp), cNew _ _ _ _ _ rfl]; rfl, by rw [cOld _ _ _ _ (by simp), cNew _ _ _ _ _ rfl]; rfl, by rw [cNew _ _ _ _ _ (by simp)]; rfl, by rw [cNew _ _ _ _ _ (by simp)]; rfl, by simp [go_sem], by simp [go_sem]⟩
section
variable (w : World)
theorem oc_any (e : Nat) (he : e < 1024) :
    Calls Try.prog 14 #[.int .u32 e] w fun r w' => r = .returned (.int .i64 ((prE 5 e).length : Nat)) ∧ Below w.heap.size w w' := by
  obtain ⟨h24, h16, h8, h0⟩ := oc_parts e he
  have hs := oc_sum e he
  have p0 := pop8_le (e / 256) (by omega)
  have p1 := pop8_le (e % 256) (by omega)
  have pz : Lib.pop8 0 = 0 := by decide +kernel
  have ha : ((e / 256 : Nat) : Int) ≤ 255 := by omega
  have hb : ((e % 256 : Nat) : Int) ≤ 255 := by omega
  have ha0 : 0 ≤ ((e / 256 : Nat) : Int) := by omega
  have hb0 : 0 ≤ ((e % 256 : Nat) : Int) := by omega
  have ra := fun W => Lib.run_index_pop8tab (P := Try.prog) W 9 .u32 _ (by kernel_rfl) ha0 ha
  have rb := fun W => Lib.run_index_pop8tab (P := Try.prog) W 9 .u32 _ (by kernel_rfl) hb0 hb
  obtain ⟨a, hae⟩ : ∃ a : Int, ((e / 256 : Nat) : Int) = a := ⟨_, rfl⟩
  obtain ⟨b, hbe⟩ : ∃ b : Int, ((e % 256 : Nat) : Int) = b := ⟨_, rfl⟩
  rw [hae] at h8 ra hs p0
  rw [hbe] at h0 rb hs p1
  obtain ⟨x, hx⟩ : ∃ x, Lib.pop8 a = x := ⟨_, rfl⟩
  obtain ⟨y, hy⟩ : ∃ y, Lib.pop8 b = y := ⟨_, rfl⟩
  rw [hx] at ra hs p0
  rw [hy] at rb hs p1
  have m1 : x % 256 = x := by omega
  have m2 : (x + y) % 256 = x + y := by omega
  rw [← hs]
  clear hs hx hy hae hbe ha hb ha0 hb0 he
  go_enter Try.func14, Try.ntmps14
  go_wp2
  go_region
  all_goals go_wp2
  all_goals go_ret
  all_goals exact ⟨rfl, by (repeat (first | exact Below.refl _ _ | assumption | refine bchain (by assumption) ?_ | refine balloc ?_ _ | apply Below.drew | apply below_drewN | (refine Below.alloc ?_ (by (try simp) <;> omega) _) | (refine Below.setCell ?_ (by (try simp) <;> omega) _)))⟩
theorem prE_five : ∀ n : Nat, n ≤ 5 → ∀ e : Nat, e < 1024 → e < eMax n → (prE 5 e).length = (prE n e).length := by decide +kernel
theorem prE_pc : ∀ n : Nat, n ≤ 5 → ∀ e : Nat, e < 1024 → (prE n e).length ≤ 10 := by decide +kernel
theorem low_some : ∀ p : Nat, p ≤ 10 → ∀ q : Nat, q ≤ 10 → 0 < q → (Fr.low (p : Int) (q : Int)).isSome = true := by decide +kernel
theorem pc_pos : ∀ n : Nat, n ≤ 5 → 2 ≤ n → 0 < pc n := by decide
theorem ratio_any (p q x y : Int) (hp : -2000000000000000000 ≤ p ∧ p ≤ 2000000000000000000) (hqb : -2000000000000000000 ≤ q ∧ q ≤ 2000000000000000000) (hq : q ≠ 0) (hl : Fr.low p q = some (x, y)) :
    Calls Try.prog 9 #[.int .i64 p, .int .i64 q] w fun r w' => r = .returned (.agg #[.int .i64 x, .int .i64 y]) ∧ Below w.heap.size w w' := by
  have hL := Lib.hid (fun W => Fr.sl_any W p q hp hqb hq)
  rw [hl] at hL
  simp only [Fr.lv, Fr.fv] at hL
  clear hp hqb hq hl
  go_enter Try.func9, Try.ntmps9
  go_wp2_with fail
  refine (hL.out _).mono ?_
  rintro r1 w1 ⟨rfl, hb1⟩
  obtain ⟨hc1, hz1⟩ := bkeep hb1 w.heap.size (by (try simp) <;> omega)
  have hf1 := bkeepz hb1 w.heap.size (by (try simp) <;> omega)
  go_wp2
  have h2 := fun O => Fr.twoCellsA (a := .int .i64 0) (b := .int .i64 0) hz1 ((hc1 0).trans (by simp)) ((hc1 1).trans (by simp)) (.int .i64 x) (.int .i64 y) O
  exact bodyPost_ret (v := .agg #[.int .i64 x, .int .i64 y]) (by simp [results, Try.results9, go_sem, (h2 _).1, (h2 _).2]) rfl ⟨rfl, by (repeat (first | exact Below.refl _ _ | assumption | refine bchain (by assumption) ?_ | refine balloc ?_ _ | apply Below.drew | apply below_drewN | (refine Below.alloc ?_ (by (try simp) <;> omega) _) | (refine Below.setCell ?_ (by (try simp) <;> omega) _)))⟩
theorem ied_inv (n e : Int) (hn : e < 4294967296) (he0 : 0 ≤ e) (h : ¬ VG n e) :
    Calls Try.prog 6 #[.agg #[.int .i64 n, .int .u32 e]] w fun r w' => r = .returned (.tuple #[.agg #[.int .i64 0, .int .i64 0], .int .i64 1]) ∧ Below w.heap.size w w' := by
  go_enter Try.func6, Try.ntmps6
  go_wp2_with fail
  refine (valid_f _ n e hn he0 h).mono ?_
  rintro r1 w1 ⟨rfl, hb1⟩
  obtain ⟨hc1_0, hz1_0⟩ := bkeep hb1 (w.heap.size + 1) (by (try simp) <;> omega)
  have hf1_0 := bkeepz hb1 (w.heap.size + 1) (by (try simp) <;> omega)
  have kk := (Ed0.made w n e).below hb1
  have h2 := Fr.twoCells kk.r0 kk.r1 (.int .i64 0) (.int .i64 0)
  go_wp2
  exact bodyPost_ret (v := .tuple #[.agg #[.int .i64 0, .int .i64 0], .int .i64 1]) (by simp [results, Try.results6, go_sem, h2.1, h2.2]) rfl ⟨rfl, by (repeat (first | exact Below.refl _ _ | assumption | refine bchain (by assumption) ?_ | refine balloc ?_ _ | apply Below.drew | apply below_drewN | (refine Below.alloc ?_ (by (try simp) <;> omega) _) | (refine Below.setCell ?_ (by (try simp) <;> omega) _)))⟩
theorem sed_inv (n e : Int) (hn : e < 4294967296) (he0 : 0 ≤ e) (h : ¬ VG n e) :
    Calls Try.prog 4 #[.agg #[.int .i64 n, .int .u32 e]] w fun r w' => r = .returned (.tuple #[.agg #[.int .i64 0, .int .i64 0], .int .i64 1]) ∧ Below w.heap.size w w' := by
  go_enter Try.func4, Try.ntmps4
  go_wp2_with fail
  refine (ok_f _ n e hn he0 h).mono ?_
  rintro r1 w1 ⟨rfl, hb1⟩
  obtain ⟨hc1_0, hz1_0⟩ := bkeep hb1 (w.heap.size + 1) (by (try simp) <;> omega)
  have hf1_0 := bkeepz hb1 (w.heap.size + 1) (by (try simp) <;> omega)
  have kk := (Ed0.made w n e).below hb1
  have h2 := Fr.twoCells kk.r0 kk.r1 (.int .i64 0) (.int .i64 0)
  go_wp2
  exact bodyPost_ret (v := .tuple #[.agg #[.int .i64 0, .int .i64 0], .int .i64 1]) (by simp [results, Try.results4, go_sem, h2.1, h2.2]) rfl ⟨rfl, by (repeat (first | exact Below.refl _ _ | assumption | refine bchain (by assumption) ?_ | refine balloc ?_ _ | apply Below.drew | apply below_drewN | (refine Below.alloc ?_ (by (try simp) <;> omega) _) | (refine Below.setCell ?_ (by (try simp) <;> omega) _)))⟩
theorem ied_few (n e : Nat) (h : VG n e) (h2 : n < 2) :
    Calls Try.prog 6 #[.agg #[.int .i64 n, .int .u32 e]] w fun r w' => r = .returned (.tuple #[.agg #[.int .i64 0, .int .i64 0], .int .i64 2]) ∧ Below w.heap.size w w' := by
  have hd : decide ((n : Int) < 2) = true := decide_eq_true (by omega)
  go_enter Try.func6, Try.ntmps6
  go_wp2_with fail
  refine (valid_t _ n e h).mono ?_
  rintro r1 w1 ⟨rfl, hb1⟩
  obtain ⟨hc1_0, hz1_0⟩ := bkeep hb1 (w.heap.size) (by (try simp) <;> omega)
  obtain ⟨hc1_1, hz1_1⟩ := bkeep hb1 (w.heap.size + 1) (by (try simp) <;> omega)
  have hf1_1 := bkeepz hb1 (w.heap.size + 1) (by (try simp) <;> omega)
  have kk := (Ed0.made w n e).below hb1
  have h2 := Fr.twoCells kk.r0 kk.r1 (.int .i64 0) (.int .i64 0)
  go_wp2
  exact bodyPost_ret (v := .tuple #[.agg #[.int .i64 0, .int .i64 0], .int .i64 2]) (by simp [results, Try.results6, go_sem, h2.1, h2.2]) rfl ⟨rfl, by (repeat (first | exact Below.refl _ _ | assumption | refine bchain (by assumption) ?_ | refine balloc ?_ _ | apply Below.drew | apply below_drewN | (refine Below.alloc ?_ (by (try simp) <;> omega) _) | (refine Below.setCell ?_ (by (try simp) <;> omega) _)))⟩
theorem sed_few (n e : Nat) (h : VG n e) (h2 : n < 2) :
    Calls Try.prog 4 #[.agg #[.int .i64 n, .int .u32 e]] w fun r w' => r = .returned (.tuple #[.agg #[.int .i64 0, .int .i64 0], .int .i64 2]) ∧ Below w.heap.size w w' := by
  have hd : decide ((n : Int) < 2) = true := decide_eq_true (by omega)
  go_enter Try.func4, Try.ntmps4
  go_wp2_with fail
  refine (ok_t _ n e h).mono ?_
  rintro r1 w1 ⟨rfl, hb1⟩
  obtain ⟨hc1_0, hz1_0⟩ := bkeep hb1 (w.heap.size) (by (try simp) <;> omega)
  obtain ⟨hc1_1, hz1_1⟩ := bkeep hb1 (w.heap.size + 1) (by (try simp) <;> omega)
  have hf1_1 := bkeepz hb1 (w.heap.size + 1) (by (try simp) <;> omega)
  have kk := (Ed0.made w n e).below hb1
  have h2 := Fr.twoCells kk.r0 kk.r1 (.int .i64 0) (.int .i64 0)
  go_wp2
  exact bodyPost_ret (v := .tuple #[.agg #[.int .i64 0, .int .i64 0], .int .i64 2]) (by simp [results, Try.results4, go_sem, h2.1, h2.2]) rfl ⟨rfl, by (repeat (first | exact Below.refl _ _ | assumption | refine bchain (by assumption) ?_ | refine balloc ?_ _ | apply Below.drew | apply below_drewN | (refine Below.alloc ?_ (by (try simp) <;> omega) _) | (refine Below.setCell ?_ (by (try simp) <;> omega) _)))⟩
theorem ed_low (n e : Nat) (h : VG n e) (h2 : 2 ≤ n) : n ≤ 5 ∧ e < 1024 ∧ (prE 5 e).length = (prE n e).length ∧ (prE n e).length ≤ 10 ∧ pc n ≤ 10 ∧ 0 < pc n ∧ ∃ x y, Fr.low ((prE n e).length : Int) (pc n : Int) = some (x, y) := by
  have hn5 : n ≤ 5 := by have := h.2.1; omega
  have he : e < eMax n := by have := h.2.2.2; simpa using this
  have hm := eMax_le n
  have h10 := pc_le n
  have hp := pc_pos n hn5 h2
  have hl := prE_pc n hn5 e (by omega)
  obtain ⟨⟨x, y⟩, hx⟩ := Option.isSome_iff_exists.1 (low_some _ hl _ h10 hp)
  exact ⟨hn5, by omega, prE_five n hn5 e (by omega) he, hl, h10, hp, x, y, hx⟩
set_option maxHeartbeats 1000000 in
theorem ied_ok (n e : Nat) (h : VG n e) (h2 : 2 ≤ n) (x y : Int) (hxy : Fr.low ((prE n e).length : Int) (pc n : Int) = some (x, y)) :
    Calls Try.prog 6 #[.agg #[.int .i64 n, .int .u32 e]] w fun r w' => r = .returned (.tuple #[.agg #[.int .i64 x, .int .i64 y], .int .i64 0]) ∧ Below w.heap.size w w' := by
  obtain ⟨hn5, he, h5, hl, h10, hp, _⟩ := ed_low n e h h2
  have hO := Lib.hid (fun W => oc_any W e he)
  have hP := Lib.hid (fun W => pc_any W n hn5)
  have hQ := Lib.hid (fun W => Fr.q_any W ((prE n e).length : Int) (pc n : Int) (by omega) (by omega) (by omega))
  have hV := Lib.hid (fun W => valid_t W n e h)
  rw [hxy] at hQ
  simp only [Fr.qe, Fr.fv] at hQ
  rw [h5] at hO
  obtain ⟨l, hle⟩ : ∃ l, (prE n e).length = l := ⟨_, rfl⟩
  rw [hle] at hO hQ
  have hd : decide ((n : Int) < 2) = false := decide_eq_false (by omega)
  clear h hxy h5 hl hle hp h2
  go_enter Try.func6, Try.ntmps6
  go_wp2_with fail
  refine (hV.out _).mono ?_
  rintro r1 w1 ⟨rfl, hb1⟩
  have hB1 : Below w.heap.size w w1 := by (repeat (first | exact Below.refl _ _ | assumption | refine bchain (by assumption) ?_ | refine balloc ?_ _ | apply Below.drew | apply below_drewN | (refine Below.alloc ?_ (by (try simp) <;> omega) _) | (refine Below.setCell ?_ (by (try simp) <;> omega) _)))
  have kk := Lib.hid ((Ed0.made w n e).below hb1)
  obtain ⟨zR, c0, c1, r0, r1, f0, f1⟩ := kk.out
  clear hb1
  go_wp2_with fail
  go_region_held3 (fun A => A.cell? ⟨w.heap.size, 0, none⟩ = some (.int .i64 (n : Int)) ∧ A.cell? ⟨w.heap.size, 1, none⟩ = some (.int .u32 (e : Int)) ∧ A.cell? ⟨w.heap.size + 1, 0, none⟩ = some (cellOf A ⟨w.heap.size + 1, 0, none⟩) ∧ A.cell? ⟨w.heap.size + 1, 1, none⟩ = some (cellOf A ⟨w.heap.size + 1, 1, none⟩) ∧ A.frozen? ⟨w.heap.size + 1, 0, none⟩ = false ∧ A.frozen? ⟨w.heap.size + 1, 1, none⟩ = false)
    (first | exact kk.out.held (by (repeat (first | exact Below.refl _ _ | assumption | refine bchain (by assumption) ?_ | refine balloc ?_ _ | apply Below.drew | apply below_drewN | (refine Below.alloc ?_ (by (try simp) <;> omega) _) | (refine Below.setCell ?_ (by (try simp) <;> omega) _)))) rfl | exact (kk.out.below (by (repeat (first | exact Below.refl _ _ | assumption | refine bchain (by assumption) ?_ | refine balloc ?_ _ | apply Below.drew | apply below_drewN | (refine Below.alloc ?_ (by (try simp) <;> omega) _) | (refine Below.setCell ?_ (by (try simp) <;> omega) _))))).s)
    (first
    | (go_at_call 14; refine (hO.out _).mono ?_; rintro r2 w2 ⟨rfl, hb2⟩)
    | (go_at_call 15; refine (hP.out _).mono ?_; rintro r3 w3 ⟨rfl, rfl⟩)
    | (go_at_call 13; refine (hQ.out _).mono ?_; rintro r4 w4 ⟨rfl, hb4⟩))
  have k4 := kk.out.below (show Below w1.heap.size w1 w4 by (repeat (first | exact Below.refl _ _ | assumption | refine bchain (by assumption) ?_ | refine balloc ?_ _ | apply Below.drew | apply below_drewN | (refine Below.alloc ?_ (by (try simp) <;> omega) _) | (refine Below.setCell ?_ (by (try simp) <;> omega) _))))
  have h2 := Fr.twoCells k4.r0 k4.r1 (.int .i64 x) (.int .i64 y)
  go_wp2
  exact bodyPost_ret (v := .tuple #[.agg #[.int .i64 x, .int .i64 y], .int .i64 0]) (by simp [results, Try.results6, go_sem, h2.1, h2.2]) rfl ⟨rfl, by (repeat (first | exact Below.refl _ _ | assumption | refine bchain (by assumption) ?_ | refine balloc ?_ _ | apply Below.drew | apply below_drewN | (refine Below.alloc ?_ (by (try simp) <;> omega) _) | (refine Below.setCell ?_ (by (try simp) <;> omega) _)))⟩
set_option maxHeartbeats 1000000 in
theorem sed_ok (n e : Nat) (h : VG n e) (h2 : 2 ≤ n) (x y : Int) (hxy : Fr.low ((prE n e).length : Int) (pc n : Int) = some (x, y)) :
    Calls Try.prog 4 #[.agg #[.int .i64 n, .int .u32 e]] w fun r w' => r = .returned (.tuple #[.agg #[.int .i64 x, .int .i64 y], .int .i64 0]) ∧ Below w.heap.size w w' := by
  obtain ⟨hn5, he, h5, hl, h10, hp, _⟩ := ed_low n e h h2
  have hO : Hid (∀ W, Calls Try.prog 10 #[.agg #[.int .i64 n, .int .u32 e]] W fun r w' => (∃ a cap, r = .returned (.slice a (prE n e).length cap)) ∧ Below W.heap.size W w') := Lib.hid (fun W => (sprs_any W n e h).mono (fun r w' ⟨⟨v, hr, a, cap, hv, _⟩, hb⟩ => ⟨⟨a, cap, by rw [hr, hv]⟩, hb⟩))
  have hP := Lib.hid (fun W => bits_any W n hn5)
  have hQ := Lib.hid (fun W => ratio_any W ((prE n e).length : Int) (pc n : Int) x y (by omega) (by omega) (by omega) hxy)
  have hV := Lib.hid (fun W => ok_t W n e h)
  obtain ⟨l, hle⟩ : ∃ l, (prE n e).length = l := ⟨_, rfl⟩
  rw [hle] at hO hQ
  have hd : decide ((n : Int) < 2) = false := decide_eq_false (by omega)
  clear h hxy h5 hl hle hp h2
  go_enter Try.func4, Try.ntmps4
  go_wp2_with fail
  refine (hV.out _).mono ?_
  rintro r1 w1 ⟨rfl, hb1⟩
  have hB1 : Below w.heap.size w w1 := by (repeat (first | exact Below.refl _ _ | assumption | refine bchain (by assumption) ?_ | refine balloc ?_ _ | apply Below.drew | apply below_drewN | (refine Below.alloc ?_ (by (try simp) <;> omega) _) | (refine Below.setCell ?_ (by (try simp) <;> omega) _)))
  have kk := Lib.hid ((Ed0.made w n e).below hb1)
  obtain ⟨zR, c0, c1, r0, r1, f0, f1⟩ := kk.out
  clear hb1
  go_wp2_with fail
  go_region_held3 (fun A => A.cell? ⟨w.heap.size, 0, none⟩ = some (.int .i64 (n : Int)) ∧ A.cell? ⟨w.heap.size, 1, none⟩ = some (.int .u32 (e : Int)) ∧ A.cell? ⟨w.heap.size + 1, 0, none⟩ = some (cellOf A ⟨w.heap.size + 1, 0, none⟩) ∧ A.cell? ⟨w.heap.size + 1, 1, none⟩ = some (cellOf A ⟨w.heap.size + 1, 1, none⟩) ∧ A.frozen? ⟨w.heap.size + 1, 0, none⟩ = false ∧ A.frozen? ⟨w.heap.size + 1, 1, none⟩ = false)
    (first | exact kk.out.held (by (repeat (first | exact Below.refl _ _ | assumption | refine bchain (by assumption) ?_ | refine balloc ?_ _ | apply Below.drew | apply below_drewN | (refine Below.alloc ?_ (by (try simp) <;> omega) _) | (refine Below.setCell ?_ (by (try simp) <;> omega) _)))) rfl | exact (kk.out.below (by (repeat (first | exact Below.refl _ _ | assumption | refine bchain (by assumption) ?_ | refine balloc ?_ _ | apply Below.drew | apply below_drewN | (refine Below.alloc ?_ (by (try simp) <;> omega) _) | (refine Below.setCell ?_ (by (try simp) <;> omega) _))))).s)
    (first
    | (go_at_call 10; refine (hO.out _).mono ?_; rintro r2 w2 ⟨⟨a, cap, rfl⟩, hb2⟩)
    | (go_at_call 11; refine (hP.out _).mono ?_; rintro r3 w3 ⟨rfl, rfl⟩)
    | (go_at_call 9; refine (hQ.out _).mono ?_; rintro r4 w4 ⟨rfl, hb4⟩))
  have k4 := kk.out.below (show Below w1.heap.size w1 w4 by (repeat (first | exact Below.refl _ _ | assumption | refine bchain (by assumption) ?_ | refine balloc ?_ _ | apply Below.drew | apply below_drewN | (refine Below.alloc ?_ (by (try simp) <;> omega) _) | (refine Below.setCell ?_ (by (try simp) <;> omega) _))))
  have h2 := Fr.twoCells k4.r0 k4.r1 (.int .i64 x) (.int .i64 y)
  go_wp2
  exact bodyPost_ret (v := .tuple #[.agg #[.int .i64 x, .int .i64 y], .int .i64 0]) (by simp [results, Try.results4, go_sem, h2.1, h2.2]) rfl ⟨rfl, by (repeat (first | exact Below.refl _ _ | assumption | refine bchain (by assumption) ?_ | refine balloc ?_ _ | apply Below.drew | apply below_drewN | (refine Below.alloc ?_ (by (try simp) <;> omega) _) | (refine Below.setCell ?_ (by (try simp) <;> omega) _)))⟩
end
theorem ed_both (n e : Int) (hn : e < 4294967296) (he0 : 0 ≤ e) : ∃ x y c : Int,
    (∀ W, Calls Try.prog 4 #[.agg #[.int .i64 n, .int .u32 e]] W fun r w' => r = .returned (.tuple #[.agg #[.int .i64 x, .int .i64 y], .int .i64 c]) ∧ Below W.heap.size W w') ∧
    (∀ W, Calls Try.prog 6 #[.agg #[.int .i64 n, .int .u32 e]] W fun r w' => r = .returned (.tuple #[.agg #[.int .i64 x, .int .i64 y], .int .i64 c]) ∧ Below W.heap.size W w') := by
  by_cases h : VG n e
  · have h0 := h.1
    obtain ⟨n, rfl⟩ : ∃ x : Nat, n = x := ⟨n.toNat, by omega⟩
    obtain ⟨e, rfl⟩ : ∃ x : Nat, e = x := ⟨e.toNat, by omega⟩
    by_cases h2 : n < 2
    · exact ⟨0, 0, 2, fun W => sed_few W n e h h2, fun W => ied_few W n e h h2⟩
    · obtain ⟨_, _, _, _, _, _, x, y, hxy⟩ := ed_low n e h (by omega)
      exact ⟨x, y, 0, fun W => sed_ok W n e h (by omega) x y hxy, fun W => ied_ok W n e h (by omega) x y hxy⟩
  · exact ⟨0, 0, 1, fun W => sed_inv W n e hn he0 h, fun W => ied_inv W n e hn he0 h⟩
end Go.Proofs.Ytmbjhncgdmbpaac
