/-
  The density of a flag in another one: both sides (flagDensity, l04Density; FlagDensity).
-/
import Derived.Test.YtncbimbbkealmaaGreatDoorCfM2
import Derived.Test.YtncbimbbkealmaaGreatDoorFrVf
import Derived.Deep.RegionHeld3
namespace Go.Proofs.YtncbimbbkealmaaGreatDoor
open Go.RowKit Go.Shelf
set_option maxRecDepth 100000
attribute [local go_sem] Oper.semAt_some
/-- what a cell holds -/
def cellAt (w : World) (a : Addr) : Value := (w.cell? a).getD undef
theorem cellAt_of {w : World} {a : Addr} {v : Value} (h : w.cell? a = some v) : w.cell? a = some (cellAt w a) := by unfold cellAt; rw [h]; rfl
/-- a fraction's box -/
structure FqB (W : World) (B : Nat) (p q : Int) : Prop where
  lt : B < W.heap.size
  c0 : W.cell? ⟨B, 0, none⟩ = some (.int .i64 p)
  c1 : W.cell? ⟨B, 1, none⟩ = some (.int .i64 q)
  fz : ∀ o, W.frozen? ⟨B, o, none⟩ = false
theorem FqB.below {W W' : World} {B : Nat} {p q : Int} (h : FqB W B p q) (hb : Below W.heap.size W W') : FqB W' B p q :=
  ⟨Nat.lt_of_lt_of_le h.lt hb.size, (hb.cell (p := ⟨B, 0, none⟩) h.lt).trans h.c0, (hb.cell (p := ⟨B, 1, none⟩) h.lt).trans h.c1, fun o => (hb.frozen (p := ⟨B, o, none⟩) h.lt).trans (h.fz o)⟩
theorem FqB.put {W : World} {B : Nat} {p q : Int} (h : FqB W B p q) (p' q' : Int) : FqB ((W.setCell ⟨B, 0, none⟩ (.int .i64 p')).setCell ⟨B, 1, none⟩ (.int .i64 q')) B p' q' :=
  ⟨by simpa using h.lt, (World.cell?_setCell_other _ _ _ _ (by simp)).trans (World.cell?_setCell_same _ _ _ h.c0), World.cell?_setCell_same _ _ _ ((World.cell?_setCell_other _ _ _ _ (by simp)).trans h.c1), fun o => by simp [h.fz o]⟩
theorem FqB.made (W : World) (p q : Int) (t : TypeId) : FqB (W.alloc (.cells #[.int .i64 p, .int .i64 q] t)) W.heap.size p q :=
  ⟨by simp, by rw [World.cell?_alloc_new]; rfl, by rw [World.cell?_alloc_new]; rfl, fun o => by simp⟩
theorem FqB.drew {W : World} {B : Nat} {p q : Int} (h : FqB W B p q) : FqB W.drew B p q := ⟨h.lt, h.c0, h.c1, h.fz⟩
theorem sets_cnt : ∀ d, d ≤ 5 → ∀ q, q ≤ d → 0 < (setsL d q).length ∧ (setsL d q).length ≤ 10 := by decide +kernel
theorem fdlow_some : ∀ p : Nat, p ≤ 10 → ∀ q : Nat, q ≤ 10 → 0 < q → (Fr.low (p : Int) (q : Int)).isSome = true := by decide +kernel
/-- how many, of how many -/
def fdN (k n e n0 e0 : Nat) : Nat := cntP (inB k e n0 (tE n0 k e0)) ((setsL (n - k) (n0 - k)).map (shN k))
def fdA (k n n0 : Nat) : Nat := ((setsL (n - k) (n0 - k)).map (shN k)).length
def fdF (k n e n0 e0 : Nat) : Int × Int := (Fr.low (fdN k n e n0 e0 : Nat) (fdA k n n0 : Nat)).getD (0, 1)
theorem fd_low {k n e n0 e0 : Nat} (hn : n ≤ 5) (hkn0 : k ≤ n0) (hle : n0 ≤ n) : fdN k n e n0 e0 ≤ 10 ∧ 0 < fdA k n n0 ∧ fdA k n n0 ≤ 10 ∧ Fr.low (fdN k n e n0 e0 : Nat) (fdA k n n0 : Nat) = some ((fdF k n e n0 e0).1, (fdF k n e n0 e0).2) := by
  have h1 := sets_cnt (n - k) (by omega) (n0 - k) (by omega)
  have h2 := cntP_le (inB k e n0 (tE n0 k e0)) ((setsL (n - k) (n0 - k)).map (shN k))
  rw [List.length_map] at h2
  have a1 : fdN k n e n0 e0 ≤ 10 := by unfold fdN; omega
  have a2 : 0 < fdA k n n0 ∧ fdA k n n0 ≤ 10 := by unfold fdA; rw [List.length_map]; exact h1
  have a3 := fdlow_some _ a1 _ a2.2 a2.1
  refine ⟨a1, a2.1, a2.2, ?_⟩
  unfold fdF
  cases hl : Fr.low (fdN k n e n0 e0 : Nat) (fdA k n n0 : Nat) with
  | none => rw [hl] at a3; cases a3
  | some v => rfl
theorem fd_vf {k n e n0 e0 : Nat} (hn : n ≤ 5) (hkn0 : k ≤ n0) (hle : n0 ≤ n) : Fr.VF (fdF k n e n0 e0).1 (fdF k n e n0 e0).2 := by
  obtain ⟨_, h2, _, h4⟩ := fd_low (e := e) (e0 := e0) hn hkn0 hle
  exact Fr.low_vf (by omega) h4
/-- two flags' boxes and a result's, as a region reads them -/
def FdS (G : Nat) (k0 n0 e0 k n e : Int) (A : World) : Prop := A.cell? ⟨G, 0, none⟩ = some (.int .i64 k0) ∧ A.cell? ⟨G, 1, none⟩ = some (.int .i64 n0) ∧ A.cell? ⟨G, 2, none⟩ = some (.int .u32 e0) ∧ A.cell? ⟨G + 1, 0, none⟩ = some (.int .i64 k) ∧ A.cell? ⟨G + 1, 1, none⟩ = some (.int .i64 n) ∧ A.cell? ⟨G + 1, 2, none⟩ = some (.int .u32 e) ∧
  A.cell? ⟨G + 2, 0, none⟩ = some (cellAt A ⟨G + 2, 0, none⟩) ∧ A.cell? ⟨G + 2, 1, none⟩ = some (cellAt A ⟨G + 2, 1, none⟩) ∧ A.frozen? ⟨G + 2, 0, none⟩ = false ∧ A.frozen? ⟨G + 2, 1, none⟩ = false
structure Fd0 (w : World) (G : Nat) (k0 n0 e0 k n e : Int) : Prop where
  f : FC w G k0 n0 e0
  g : FC w (G + 1) k n e
  r : FqB w (G + 2) 0 0
theorem Fd0.below {w W : World} {G : Nat} {k0 n0 e0 k n e : Int} (h : Fd0 w G k0 n0 e0 k n e) (hb : Below w.heap.size w W) : Fd0 W G k0 n0 e0 k n e := ⟨h.f.below hb, h.g.below hb, h.r.below hb⟩
theorem Fd0.s {w : World} {G : Nat} {k0 n0 e0 k n e : Int} (h : Fd0 w G k0 n0 e0 k n e) : FdS G k0 n0 e0 k n e w := ⟨h.f.c0, h.f.c1, h.f.c2, h.g.c0, h.g.c1, h.g.c2, cellAt_of h.r.c0, cellAt_of h.r.c1, h.r.fz 0, h.r.fz 1⟩
theorem Fd0.held {w W S : World} {G : Nat} {k0 n0 e0 k n e : Int} {x y : Int} (h : Fd0 w G k0 n0 e0 k n e) (hb : Below w.heap.size w W) (hS : S = (W.setCell ⟨G + 2, 0, none⟩ (.int .i64 x)).setCell ⟨G + 2, 1, none⟩ (.int .i64 y)) : FdS G k0 n0 e0 k n e S := by
  have q := h.below hb
  subst hS
  have f1 := (q.f.other (p := ⟨G + 2, 0, none⟩) (.int .i64 x) (by show G + 2 ≠ G; omega)).other (p := ⟨G + 2, 1, none⟩) (.int .i64 y) (by show G + 2 ≠ G; omega)
  have g1 := (q.g.other (p := ⟨G + 2, 0, none⟩) (.int .i64 x) (by show G + 2 ≠ G + 1; omega)).other (p := ⟨G + 2, 1, none⟩) (.int .i64 y) (by show G + 2 ≠ G + 1; omega)
  have r1 := q.r.put x y
  exact ⟨f1.c0, f1.c1, f1.c2, g1.c0, g1.c1, g1.c2, cellAt_of r1.c0, cellAt_of r1.c1, r1.fz 0, r1.fz 1⟩
section
variable (w : World)
theorem srat_any (p q x y : Int) (hp : -2000000000000000000 ≤ p ∧ p ≤ 2000000000000000000) (hqb : -2000000000000000000 ≤ q ∧ q ≤ 2000000000000000000) (hq : q ≠ 0) (hl : Fr.low p q = some (x, y)) :
    Calls Tryz.prog 83 #[.int .i64 p, .int .i64 q] w fun r w' => r = .returned (.agg #[.int .i64 x, .int .i64 y]) ∧ Below w.heap.size w w' := by
  have hL := Lib.hid (fun W => Fr.sl_any W p q hp hqb hq)
  rw [hl] at hL
  simp only [Fr.lv, Fr.fv] at hL
  clear hp hqb hq hl
  go_enter Tryz.func83, Tryz.ntmps83
  go_wp2_with fail
  refine (hL.out _).mono ?_
  rintro r1 w1 ⟨rfl, hb1⟩
  obtain ⟨hc1, hz1⟩ := bkeep hb1 w.heap.size (by (try simp) <;> omega)
  have hf1 := bkeepz hb1 w.heap.size (by (try simp) <;> omega)
  go_wp2
  have h2 := fun O => Fr.twoCellsA (a := .int .i64 0) (b := .int .i64 0) hz1 ((hc1 0).trans (by simp)) ((hc1 1).trans (by simp)) (.int .i64 x) (.int .i64 y) O
  exact bodyPost_ret (v := .agg #[.int .i64 x, .int .i64 y]) (by simp [results, Tryz.results83, go_sem, (h2 _).1, (h2 _).2]) rfl ⟨rfl, by (repeat (first | exact Below.refl _ _ | assumption | refine bchain (by assumption) ?_ | refine balloc ?_ _ | apply Below.drew | apply below_drewN | (refine Below.alloc ?_ (by (try simp) <;> omega) _) | (refine Below.setCell ?_ (by (try simp) <;> omega) _)))⟩
set_option maxHeartbeats 1000000 in
theorem ifd_any (k n e n0 e0 : Nat) (h : VK k n e) (h0 : VK k n0 e0) (hle : n0 ≤ n) (hT : TabZ w) :
    Calls Tryz.prog 68 #[.agg #[.int .i64 k, .int .i64 n0, .int .u32 e0], .agg #[.int .i64 k, .int .i64 n, .int .u32 e]] w fun r w' => r = .returned (.agg #[.int .i64 (fdF k n e n0 e0).1, .int .i64 (fdF k n e n0 e0).2]) ∧ Below w.heap.size w w' := by
  obtain ⟨_, hn5, _, hkn⟩ := h.nums
  obtain ⟨_, _, _, hkn0⟩ := h0.nums
  obtain ⟨l1, l2, l3, l4⟩ := fd_low (e := e) (e0 := e0) hn5 hkn0 hle
  have hF := Lib.hid (fun W (hW : Below w.heap.size w W) => (show Calls Tryz.prog 87 #[.agg #[.int .i64 k, .int .i64 n0, .int .u32 e0], .agg #[.int .i64 k, .int .i64 n, .int .u32 e]] W fun r w' => r = .returned (.tuple #[.int .i64 (fdN k n e n0 e0 : Nat), .int .i64 (fdA k n n0 : Nat)]) ∧ Below W.heap.size W w' from icf_any W k n e n0 e0 h h0 (hT.below hW)))
  have hQ := Lib.hid (fun W => Fr.q_any W (fdN k n e n0 e0 : Nat) (fdA k n n0 : Nat) (by omega) (by omega) (by omega))
  rw [l4] at hQ
  simp only [Fr.qe, Fr.fv] at hQ
  obtain ⟨x, hx⟩ : ∃ x, (fdF k n e n0 e0).1 = x := ⟨_, rfl⟩
  obtain ⟨y, hy⟩ : ∃ x, (fdF k n e n0 e0).2 = x := ⟨_, rfl⟩
  rw [hx, hy] at hQ ⊢
  obtain ⟨a, ha⟩ : ∃ x, fdN k n e n0 e0 = x := ⟨_, rfl⟩
  obtain ⟨b, hb⟩ : ∃ x, fdA k n n0 = x := ⟨_, rfl⟩
  rw [ha, hb] at hF
  rw [ha, hb] at hQ
  clear l4 hx hy ha hb hT
  have hR0 := FqB.made ((w.alloc (.cells #[.int .i64 (k : Int), .int .i64 (n0 : Int), .int .u32 (e0 : Int)] 43)).alloc (.cells #[.int .i64 (k : Int), .int .i64 (n : Int), .int .u32 (e : Int)] 43)) 0 0 51
  rw [World.size_alloc, World.size_alloc] at hR0
  go_enter Tryz.func68, Tryz.ntmps68
  go_wp2_with fail
  refine (hF.out _ (by (repeat (first | exact Below.refl _ _ | assumption | refine bchain (by assumption) ?_ | refine balloc ?_ _ | apply Below.drew | apply below_drewN | (refine Below.alloc ?_ (by (try simp) <;> omega) _) | (refine Below.setCell ?_ (by (try simp) <;> omega) _))))).mono ?_
  rintro r3 w3 ⟨rfl, hb3⟩
  have hR3 := hR0.below hb3
  go_wp2_with fail
  refine (hQ.out _).mono ?_
  rintro r4 w4 ⟨rfl, hb4⟩
  obtain ⟨z0, z1, z2, z3⟩ := hR3.below hb4
  have z30 := z3 0
  have z31 := z3 1
  have hfb := Lib.hid (hR3.below hb4)
  have hbw : Below w.heap.size w w4 := by (repeat (first | exact Below.refl _ _ | assumption | refine bchain (by assumption) ?_ | refine balloc ?_ _ | apply Below.drew | apply below_drewN | (refine Below.alloc ?_ (by (try simp) <;> omega) _) | (refine Below.setCell ?_ (by (try simp) <;> omega) _)))
  go_wp2
  have hF2 := hfb.out.put x y
  obtain ⟨_, F0, F1, _⟩ := hF2
  exact bodyPost_ret (v := .agg #[.int .i64 x, .int .i64 y]) (by simp [results, Tryz.results68, go_sem, F0, F1]) rfl ⟨rfl, by (repeat (first | exact Below.refl _ _ | assumption | refine bchain (by assumption) ?_ | refine balloc ?_ _ | apply Below.drew | apply below_drewN | (refine Below.alloc ?_ (by (try simp) <;> omega) _) | (refine Below.setCell ?_ (by (try simp) <;> omega) _)))⟩
end
end Go.Proofs.YtncbimbbkealmaaGreatDoor
