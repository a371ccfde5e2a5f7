/-
  PaA, PaE, PaP, PaS, PaV, PaC, in one text.
-/
import Derived.Test.YtncbimbbkealmaaGreatDoorPtM
import Derived.Test.YtncbimbbkealmaaGreatDoorAvY
/-
  PAIRAVERAGES: the program's. (made by gen_pa.py)
-/
namespace Go.Proofs.YtncbimbbkealmaaGreatDoor
open Go.RowKit Go.Shelf
set_option maxRecDepth 100000
attribute [local go_sem] Oper.semAt_some
/-- the pairs of sets that make both flags, in the flag that the labels x make -/
def paN (K n e N a b : Nat) (x : List Nat) : Nat := jdN K n (onL e (ordF n x)) N a N b
def paS (K n e N a b t : Nat) (pre : List (List Nat)) : Nat := avS n K e t (paN K n e N a b) pre
def paF (K n e N a b t : Nat) : Int × Int := (Fr.low (paS K n e N a b t (lists n K) : Nat) ((jdA K n N N * (lists n K).length : Nat) : Int)).getD (0, 1)
theorem paS_le {K n N : Nat} (e a b t : Nat) (hn : n ≤ 5) (hk0 : K ≤ N) (hle : N + N ≤ n + K) (pre : List (List Nat)) : paS K n e N a b t pre ≤ pre.length * 320 := by
  have hf := fun y => jd_low (k := K) (n := n) (n0 := N) (m0 := N) y a b hn hk0 hk0 hle
  exact avS_le _ (fun x _ _ => Nat.le_trans (hf (onL e (ordF n x))).1 (hf 0).2.2.1)
theorem pa_low {K n N : Nat} (e a b t : Nat) (hn : n ≤ 5) (hk : K ≤ 3) (hk0 : K ≤ N) (hle : N + N ≤ n + K) : Fr.low (paS K n e N a b t (lists n K) : Nat) ((jdA K n N N * (lists n K).length : Nat) : Int) = some (paF K n e N a b t) := by
  have h1 := lists_l60 n hn K hk
  have h3 := paS_le e a b t hn hk0 hle (lists n K)
  have h4 : jdA K n N N * (lists n K).length ≤ 320 * 60 := Nat.mul_le_mul (jd_low (k := K) (n := n) (n0 := N) (m0 := N) 0 a b hn hk0 hk0 hle).2.2.1 h1
  obtain ⟨x, y, hl, _⟩ := Fr.low_at (X := paS K n e N a b t (lists n K)) (D := jdA K n N N * (lists n K).length) (by omega) (by omega)
  unfold paF
  rw [hl]
  rfl
/-- the average for two of a list's flags -/
def pG (K N n e : Nat) (gs : List (Int × Int × Int)) (t i j : Nat) : Int × Int := paF K n e N (eAt gs i) (eAt gs j) t
/-- a list's box, a graph's, two flags of the list, a result -/
structure Pg0 (W : World) (G b p q R : Nat) (SV : Value) (n2 e2 k0 n0 e0 k1 n1 e1 : Int) : Prop where
  gl : G < W.heap.size
  s : W.cell? ⟨G, 0, none⟩ = some SV
  g : GxB W (G + 1) n2 e2
  bl : b < W.heap.size
  i0 : W.cell? ⟨b, p, none⟩ = some (.int .i64 k0)
  i1 : W.cell? ⟨b, p + 1, none⟩ = some (.int .i64 n0)
  i2 : W.cell? ⟨b, p + 2, none⟩ = some (.int .u32 e0)
  j0 : W.cell? ⟨b, q, none⟩ = some (.int .i64 k1)
  j1 : W.cell? ⟨b, q + 1, none⟩ = some (.int .i64 n1)
  j2 : W.cell? ⟨b, q + 2, none⟩ = some (.int .u32 e1)
  r : FqB W R 0 0
  nG : G + 1 < R
  nb : b < R
def PgS (G b p q R : Nat) (SV : Value) (n2 e2 k0 n0 e0 k1 n1 e1 : Int) (A : World) : Prop := A.cell? ⟨G, 0, none⟩ = some SV ∧ A.cell? ⟨G + 1, 0, none⟩ = some (.int .i64 n2) ∧ A.cell? ⟨G + 1, 1, none⟩ = some (.int .u32 e2) ∧ A.cell? ⟨b, p, none⟩ = some (.int .i64 k0) ∧ A.cell? ⟨b, p + 1, none⟩ = some (.int .i64 n0) ∧ A.cell? ⟨b, p + 2, none⟩ = some (.int .u32 e0) ∧ A.cell? ⟨b, q, none⟩ = some (.int .i64 k1) ∧ A.cell? ⟨b, q + 1, none⟩ = some (.int .i64 n1) ∧ A.cell? ⟨b, q + 2, none⟩ = some (.int .u32 e1) ∧ A.cell? ⟨R, 0, none⟩ = some (cellAt A ⟨R, 0, none⟩) ∧ A.cell? ⟨R, 1, none⟩ = some (cellAt A ⟨R, 1, none⟩) ∧ A.frozen? ⟨R, 0, none⟩ = false ∧ A.frozen? ⟨R, 1, none⟩ = false
section
variable {w W S : World} {G b p q R : Nat} {SV : Value} {n2 e2 k0 n0 e0 k1 n1 e1 : Int}
theorem Pg0.below (h : Pg0 w G b p q R SV n2 e2 k0 n0 e0 k1 n1 e1) (hb : Below w.heap.size w W) : Pg0 W G b p q R SV n2 e2 k0 n0 e0 k1 n1 e1 :=
  ⟨Nat.lt_of_lt_of_le h.gl hb.size, old_cell h.gl h.s hb, h.g.below hb, Nat.lt_of_lt_of_le h.bl hb.size, old_cell h.bl h.i0 hb, old_cell h.bl h.i1 hb, old_cell h.bl h.i2 hb, old_cell h.bl h.j0 hb, old_cell h.bl h.j1 hb, old_cell h.bl h.j2 hb, h.r.below hb, h.nG, h.nb⟩
theorem Pg0.s' (h : Pg0 w G b p q R SV n2 e2 k0 n0 e0 k1 n1 e1) : PgS G b p q R SV n2 e2 k0 n0 e0 k1 n1 e1 w :=
  ⟨h.s, h.g.c0, h.g.c1, h.i0, h.i1, h.i2, h.j0, h.j1, h.j2, cellAt_of h.r.c0, cellAt_of h.r.c1, h.r.fz 0, h.r.fz 1⟩
theorem Pg0.held {x y : Int} (h : Pg0 w G b p q R SV n2 e2 k0 n0 e0 k1 n1 e1) (hb : Below w.heap.size w W) (hS : S = (W.setCell ⟨R, 0, none⟩ (.int .i64 x)).setCell ⟨R, 1, none⟩ (.int .i64 y)) : PgS G b p q R SV n2 e2 k0 n0 e0 k1 n1 e1 S := by
  have h' := h.below hb
  subst hS
  have nG := h.nG
  have nb := h.nb
  have ot : ∀ (B o : Nat) (v : Value), B ≠ R → W.cell? ⟨B, o, none⟩ = some v → ((W.setCell ⟨R, 0, none⟩ (.int .i64 x)).setCell ⟨R, 1, none⟩ (.int .i64 y)).cell? ⟨B, o, none⟩ = some v := fun B o v hne hv =>
    (World.cell?_setCell_other _ _ _ _ (by intro c; injection c with c; exact hne c.symm)).trans ((World.cell?_setCell_other _ _ _ _ (by intro c; injection c with c; exact hne c.symm)).trans hv)
  have r1 := h'.r.put x y
  exact ⟨ot _ _ _ (by omega) h'.s, ot _ _ _ (by omega) h'.g.c0, ot _ _ _ (by omega) h'.g.c1, ot _ _ _ (by omega) h'.i0, ot _ _ _ (by omega) h'.i1, ot _ _ _ (by omega) h'.i2, ot _ _ _ (by omega) h'.j0, ot _ _ _ (by omega) h'.j1, ot _ _ _ (by omega) h'.j2, cellAt_of r1.c0, cellAt_of r1.c1, r1.fz 0, r1.fz 1⟩
end
section
variable (w : World)
theorem ipa_avg (K n e N a b t : Nat) (hg : VG n e) (ha : VK K N a) (hb : VK K N b) (ht : onL a (List.range K) = t) (hle : N + N ≤ n + K) (hT : TabZ w) :
    Calls Tryz.prog 25 #[.int .i64 2, .agg #[.int .i64 K, .int .i64 N, .int .u32 a, .int .i64 K, .int .i64 N, .int .u32 b], .agg #[.int .i64 n, .int .u32 e]] w
      fun r w' => r = .returned (.agg #[.int .i64 (paF K n e N a b t).1, .int .i64 (paF K n e N a b t).2]) ∧ Below w.heap.size w w' := by
  obtain ⟨_, hN, hk, hk0⟩ := ha.nums
  have hn : n ≤ 5 := by have := hg.2.1; omega
  have hkn : K ≤ n := by omega
  have hf := fun y => jd_low (k := K) (n := n) (n0 := N) (m0 := N) y a b hn hk0 hk0 hle
  exact iav_any w 2 K n e N a K N b (by omega) hg ha hkn (paN K n e N a b) (fun x => jdF K n (onL e (ordF n x)) N a N b) (jdA K n N N) (hf 0).2.1 (by have := (hf 0).2.2.1; omega) (eg_tab 2) (fun x _ _ => ⟨(hf _).1, (hf _).2.2.2⟩)
    (fun W x hW hx _ => by
      have hok := ordF_ok hn hk (lists_ok hn (by omega) hx)
      have hV : VK K n (onL e (ordF n x)) := VK.mk' hn hk hkn (onL_ltP e hok hn)
      exact joi_any W K n N a _ N b ha hb hV hle (hT.below hW))
    (paF K n e N a b t) (by rw [ht]; exact pa_low e a b t hn hk hk0 hle)
set_option maxHeartbeats 2000000 in
/-- the program's closure -/
theorem pac_any (b off cap G : Nat) (gs : List (Int × Int × Int)) (K N n e : Nat) (i j : Nat) (hi : i < gs.length) (hj : j < gs.length) (hbl : b < w.heap.size) (hg : ∀ i, i < gs.length → KCell w b off (kAt gs i) i) (hF : FamN gs K N) (t : Nat) (ht : ∀ i, i < gs.length → onL (eAt gs i) (List.range K) = t) (hv : VG n e) (hle : N + N ≤ n + K) (hT : TabZ w)
    (hGs : w.cell? ⟨G, 0, none⟩ = some (.slice (some ⟨b, off, none⟩) gs.length cap)) (hG1 : GxB w (G + 1) n e) :
    Calls Tryz.prog 24 #[.int .i64 i, .int .i64 j, .pointer (some ⟨G, 0, none⟩), .pointer (some ⟨G + 1, 0, none⟩)] w fun r w' => r = .returned (.agg #[.int .i64 (pG K N n e gs t i j).1, .int .i64 (pG K N n e gs t i j).2]) ∧ Below w.heap.size w w' := by
  have hJ := Lib.hid (fun W (h : Below w.heap.size w W) => ipa_avg W K n e N (eAt gs i) (eAt gs j) t hv (hF i hi).2 (hF j hj).2 (ht i hi) hle (hT.below h))
  have gi := hg i hi
  have gj := hg j hj
  rw [(hF i hi).1] at gi
  rw [(hF j hj).1] at gj
  unfold pG
  obtain ⟨x, hx⟩ : ∃ x, (paF K n e N (eAt gs i) (eAt gs j) t).1 = x := ⟨_, rfl⟩
  obtain ⟨y, hy⟩ : ∃ x, (paF K n e N (eAt gs i) (eAt gs j) t).2 = x := ⟨_, rfl⟩
  rw [hx, hy] at hJ ⊢
  clear hx hy
  obtain ⟨a, ha⟩ : ∃ a, eAt gs i = a := ⟨_, rfl⟩
  obtain ⟨c, hc⟩ : ∃ a, eAt gs j = a := ⟨_, rfl⟩
  rw [ha] at gi hJ
  rw [hc] at gj hJ
  obtain ⟨L, hL⟩ : ∃ L, gs.length = L := ⟨_, rfl⟩
  rw [hL] at hi hj hGs
  have hr := FqB.made w 0 0 51
  obtain ⟨W0, hW0⟩ : ∃ W0, W0 = w.alloc (.cells #[.int .i64 0, .int .i64 0] 51) := ⟨_, rfl⟩
  have hb0 : Below w.heap.size w W0 := by rw [hW0]; (repeat (first | exact Below.refl _ _ | assumption | refine bchain (by assumption) ?_ | refine balloc ?_ _ | apply Below.drew | apply below_drewN | (refine Below.alloc ?_ (by (try simp) <;> omega) _) | (refine Below.setCell ?_ (by (try simp) <;> omega) _)))
  have hGl : G < w.heap.size := by have := hG1.lt; omega
  have hGl1 : G + 1 < w.heap.size := hG1.lt
  rw [← hW0] at hr
  have k0 : Pg0 W0 G b (off + i * 3) (off + j * 3) w.heap.size (.slice (some ⟨b, off, none⟩) L cap) n e K N a K N c :=
    ⟨Nat.lt_of_lt_of_le hGl hb0.size, old_cell hGl hGs hb0, hG1.below hb0, Nat.lt_of_lt_of_le hbl hb0.size, old_cell hbl gi.1 hb0, old_cell hbl gi.2.1 hb0, old_cell hbl gi.2.2 hb0, old_cell hbl gj.1 hb0, old_cell hbl gj.2.1 hb0, old_cell hbl gj.2.2 hb0, hr, hGl1, hbl⟩
  have hil : (i : Int) < (L : Int) := by omega
  have hjl : (j : Int) < (L : Int) := by omega
  obtain ⟨s0, s1, s2, s3, s4, s5, s6, s7, s8, s9, s10, s11, s12⟩ := k0.s'
  replace k0 := Lib.hid k0
  replace hr := Lib.hid hr
  replace hW0 := Lib.hid hW0
  clear ht hg hF gi gj ha hc hL hGs hG1 hT hv hle
  go_enter Tryz.func24, Tryz.ntmps24
  go_wp2
  rw [← hW0.out]
  go_region_held3 (fun A => A.cell? ⟨G, 0, none⟩ = some (.slice (some ⟨b, off, none⟩) L cap) ∧ A.cell? ⟨G + 1, 0, none⟩ = some (.int .i64 n) ∧ A.cell? ⟨G + 1, 1, none⟩ = some (.int .u32 e) ∧ A.cell? ⟨b, off + i * 3, none⟩ = some (.int .i64 K) ∧ A.cell? ⟨b, off + i * 3 + 1, none⟩ = some (.int .i64 N) ∧ A.cell? ⟨b, off + i * 3 + 2, none⟩ = some (.int .u32 a) ∧ A.cell? ⟨b, off + j * 3, none⟩ = some (.int .i64 K) ∧ A.cell? ⟨b, off + j * 3 + 1, none⟩ = some (.int .i64 N) ∧ A.cell? ⟨b, off + j * 3 + 2, none⟩ = some (.int .u32 c) ∧ A.cell? ⟨w.heap.size, 0, none⟩ = some (cellAt A ⟨w.heap.size, 0, none⟩) ∧ A.cell? ⟨w.heap.size, 1, none⟩ = some (cellAt A ⟨w.heap.size, 1, none⟩) ∧ A.frozen? ⟨w.heap.size, 0, none⟩ = false ∧ A.frozen? ⟨w.heap.size, 1, none⟩ = false)
    (first | exact k0.out.held (by (repeat (first | exact Below.refl _ _ | assumption | refine bchain (by assumption) ?_ | refine balloc ?_ _ | apply Below.drew | apply below_drewN | (refine Below.alloc ?_ (by (try simp) <;> omega) _) | (refine Below.setCell ?_ (by (try simp) <;> omega) _)))) rfl | exact (k0.out.below (by (repeat (first | exact Below.refl _ _ | assumption | refine bchain (by assumption) ?_ | refine balloc ?_ _ | apply Below.drew | apply below_drewN | (refine Below.alloc ?_ (by (try simp) <;> omega) _) | (refine Below.setCell ?_ (by (try simp) <;> omega) _))))).s')
    (first
      | (go_at_call 25; refine (hJ.out _ (by (repeat (first | exact Below.refl _ _ | assumption | refine bchain (by assumption) ?_ | refine balloc ?_ _ | apply Below.drew | apply below_drewN | (refine Below.alloc ?_ (by (try simp) <;> omega) _) | (refine Below.setCell ?_ (by (try simp) <;> omega) _))))).mono ?_; rintro r2 w2 ⟨rfl, hb2⟩))
  all_goals
    have hR5 := hr.out.below (show Below W0.heap.size W0 w2 by (repeat (first | exact Below.refl _ _ | assumption | refine bchain (by assumption) ?_ | refine balloc ?_ _ | apply Below.drew | apply below_drewN | (refine Below.alloc ?_ (by (try simp) <;> omega) _) | (refine Below.setCell ?_ (by (try simp) <;> omega) _))))
    obtain ⟨_, F0, F1, _⟩ := hR5.put x y
    go_wp2
    exact bodyPost_ret (v := .agg #[.int .i64 x, .int .i64 y]) (by simp [results, Tryz.results24, go_sem, F0, F1]) rfl ⟨rfl, by (repeat (first | exact Below.refl _ _ | assumption | refine bchain (by assumption) ?_ | refine balloc ?_ _ | apply Below.drew | apply below_drewN | (refine Below.alloc ?_ (by (try simp) <;> omega) _) | (refine Below.setCell ?_ (by (try simp) <;> omega) _)))⟩
end
/-- the boxes of the call: the list's and the graph's -/
structure PgB (W : World) (G : Nat) (v : Value) (n e : Int) : Prop where
  s : W.cell? ⟨G, 0, none⟩ = some v
  g : GxB W (G + 1) n e
theorem PgB.lt {W : World} {G : Nat} {v : Value} {n e : Int} (h : PgB W G v n e) : G < W.heap.size := by have := h.g.lt; omega
theorem PgB.below {w W : World} {G : Nat} {v : Value} {n e : Int} (h : PgB w G v n e) (hb : Below w.heap.size w W) : PgB W G v n e := ⟨old_cell h.lt h.s hb, h.g.below hb⟩
theorem pgB_made (w : World) (v : Value) (n e : Int) : PgB ((w.alloc (.cells #[v] 30)).alloc (.cells #[.int .i64 n, .int .u32 e] 32)) w.heap.size v n e := by
  have hF := GxB.made (w.alloc (.cells #[v] 30)) n e 32
  rw [World.size_alloc] at hF
  exact ⟨by simp [go_sem], hF⟩
section
variable (w : World)
theorem ipa_bad (a : Option Addr) (cap L : Nat) (n e : Int) (BA BV : Bool) (hb0 : BA = false ∨ BV = false) (hA : ∀ W, Below w.heap.size w W → Calls Tryz.prog 19 #[.slice a L cap] W fun r w' => r = .returned (.bool BA) ∧ Below W.heap.size W w')
    (hV : ∀ W, Calls Tryz.prog 20 #[.agg #[.int .i64 n, .int .u32 e]] W fun r w' => r = .returned (.bool BV) ∧ Below W.heap.size W w') :
    Calls Tryz.prog 8 #[.slice a L cap, .agg #[.int .i64 n, .int .u32 e]] w fun r w' => r = .returned (.tuple #[.slice none 0 0, .int .i64 1]) ∧ Below w.heap.size w w' := by
  have k0 := Lib.hid (pgB_made w (.slice a L cap) n e)
  replace hA := Lib.hid hA
  replace hV := Lib.hid hV
  cases BA with
  | false =>
    go_enter Tryz.func8, Tryz.ntmps8
    go_wp2_with fail
    refine (hA.out _ (by (repeat (first | exact Below.refl _ _ | assumption | refine bchain (by assumption) ?_ | refine balloc ?_ _ | apply Below.drew | apply below_drewN | (refine Below.alloc ?_ (by (try simp) <;> omega) _) | (refine Below.setCell ?_ (by (try simp) <;> omega) _))))).mono ?_
    rintro r1 w1 ⟨rfl, hb1⟩
    go_wp2
    go_ret2
    exact ⟨rfl, by (repeat (first | exact Below.refl _ _ | assumption | refine bchain (by assumption) ?_ | refine balloc ?_ _ | apply Below.drew | apply below_drewN | (refine Below.alloc ?_ (by (try simp) <;> omega) _) | (refine Below.setCell ?_ (by (try simp) <;> omega) _)))⟩
  | true =>
    obtain rfl : BV = false := by simpa using hb0
    go_enter Tryz.func8, Tryz.ntmps8
    go_wp2_with fail
    refine (hA.out _ (by (repeat (first | exact Below.refl _ _ | assumption | refine bchain (by assumption) ?_ | refine balloc ?_ _ | apply Below.drew | apply below_drewN | (refine Below.alloc ?_ (by (try simp) <;> omega) _) | (refine Below.setCell ?_ (by (try simp) <;> omega) _))))).mono ?_
    rintro r1 w1 ⟨rfl, hb1⟩
    obtain ⟨_, f0, f1⟩ := (k0.out.below hb1).g
    go_wp2_with fail
    refine (hV.out _).mono ?_
    rintro r2 w2 ⟨rfl, hb2⟩
    go_wp2
    go_ret2
    exact ⟨rfl, by (repeat (first | exact Below.refl _ _ | assumption | refine bchain (by assumption) ?_ | refine balloc ?_ _ | apply Below.drew | apply below_drewN | (refine Below.alloc ?_ (by (try simp) <;> omega) _) | (refine Below.setCell ?_ (by (try simp) <;> omega) _)))⟩
theorem ipa_code (a : Option Addr) (cap L : Nat) (n e : Int) (C0 : Int) (hc : C0 = 3 ∨ C0 = 4) (hA : ∀ W, Below w.heap.size w W → Calls Tryz.prog 19 #[.slice a L cap] W fun r w' => r = .returned (.bool true) ∧ Below W.heap.size W w')
    (hV : ∀ W, Calls Tryz.prog 20 #[.agg #[.int .i64 n, .int .u32 e]] W fun r w' => r = .returned (.bool true) ∧ Below W.heap.size W w')
    (hC : ∀ W, Below w.heap.size w W → Calls Tryz.prog 21 #[.slice a L cap] W fun r w' => r = .returned (.int .i64 C0) ∧ Below W.heap.size W w') :
    Calls Tryz.prog 8 #[.slice a L cap, .agg #[.int .i64 n, .int .u32 e]] w fun r w' => r = .returned (.tuple #[.slice none 0 0, .int .i64 C0]) ∧ Below w.heap.size w w' := by
  have k0 := Lib.hid (pgB_made w (.slice a L cap) n e)
  replace hA := Lib.hid hA
  replace hV := Lib.hid hV
  replace hC := Lib.hid hC
  have hne : (C0 != 0) = true := by simp; omega
  go_enter Tryz.func8, Tryz.ntmps8
  go_wp2_with fail
  refine (hA.out _ (by (repeat (first | exact Below.refl _ _ | assumption | refine bchain (by assumption) ?_ | refine balloc ?_ _ | apply Below.drew | apply below_drewN | (refine Below.alloc ?_ (by (try simp) <;> omega) _) | (refine Below.setCell ?_ (by (try simp) <;> omega) _))))).mono ?_
  rintro r1 w1 ⟨rfl, hb1⟩
  have kk1 := k0.out.below hb1
  obtain ⟨_, f0, f1⟩ := id kk1.g
  replace kk1 := Lib.hid kk1
  go_wp2_with fail
  refine (hV.out _).mono ?_
  rintro r2 w2 ⟨rfl, hb2⟩
  have kk2 := kk1.out.below hb2
  have s2 := kk2.s
  replace kk2 := Lib.hid kk2
  clear f0 f1
  go_wp2_with fail
  refine (hC.out _ (by (repeat (first | exact Below.refl _ _ | assumption | refine bchain (by assumption) ?_ | refine balloc ?_ _ | apply Below.drew | apply below_drewN | (refine Below.alloc ?_ (by (try simp) <;> omega) _) | (refine Below.setCell ?_ (by (try simp) <;> omega) _))))).mono ?_
  rintro r3 w3 ⟨rfl, hb3⟩
  have hB3 : Below w.heap.size w w3 := by (repeat (first | exact Below.refl _ _ | assumption | refine bchain (by assumption) ?_ | refine balloc ?_ _ | apply Below.drew | apply below_drewN | (refine Below.alloc ?_ (by (try simp) <;> omega) _) | (refine Below.setCell ?_ (by (try simp) <;> omega) _)))
  have kk3 := kk2.out.below hb3
  clear hb1 hb2 hb3 kk1 kk2 s2
  replace kk3 := Lib.hid kk3
  go_wp2
  go_ret2
  exact ⟨rfl, by (repeat (first | exact Below.refl _ _ | assumption | refine bchain (by assumption) ?_ | refine balloc ?_ _ | apply Below.drew | apply below_drewN | (refine Below.alloc ?_ (by (try simp) <;> omega) _) | (refine Below.setCell ?_ (by (try simp) <;> omega) _)))⟩
set_option maxHeartbeats 4000000 in
theorem ipa_rng (b off cap L : Nat) (K N a0 n e : Nat) (B : Bool) (h0 : 0 < L) (hv0 : VK K N a0) (hn5 : n ≤ 5) (hbl : b < w.heap.size) (g0 : w.cell? ⟨b, off, none⟩ = some (.int .i64 K)) (g1 : w.cell? ⟨b, off + 1, none⟩ = some (.int .i64 N)) (g2 : w.cell? ⟨b, off + 2, none⟩ = some (.int .u32 a0)) (hB0 : B = decide (n + K < N + N)) (hA : ∀ W, Below w.heap.size w W → Calls Tryz.prog 19 #[.slice (some ⟨b, off, none⟩) L cap] W fun r w' => r = .returned (.bool true) ∧ Below W.heap.size W w')
    (hV : ∀ W, Calls Tryz.prog 20 #[.agg #[.int .i64 n, .int .u32 e]] W fun r w' => r = .returned (.bool true) ∧ Below W.heap.size W w')
    (hC : ∀ W, Below w.heap.size w W → Calls Tryz.prog 21 #[.slice (some ⟨b, off, none⟩) L cap] W fun r w' => r = .returned (.int .i64 0) ∧ Below W.heap.size W w') (g : Nat → Nat → Int × Int)
    (hM : ∀ W, Below w.heap.size w W → PgB W w.heap.size (.slice (some ⟨b, off, none⟩) L cap) n e → B = false → Calls Tryz.prog 23 #[.int .i64 L, .func (.func 24) #[] #[.pointer (some ⟨w.heap.size, 0, none⟩), .pointer (some ⟨w.heap.size + 1, 0, none⟩)]] W fun r w' => (∃ u, r = .returned u ∧ Fr.MR W.heap.size w' u L (Fr.gv L g)) ∧ Below W.heap.size W w') :
    Calls Tryz.prog 8 #[.slice (some ⟨b, off, none⟩) L cap, .agg #[.int .i64 n, .int .u32 e]] w fun r w' => (∃ u, r = .returned (.tuple #[u, .int .i64 (ptc B)]) ∧ PtP B w w' L g u) ∧ Below w.heap.size w w' := by
  have k0 := Lib.hid (pgB_made w (.slice (some ⟨b, off, none⟩) L cap) n e)
  replace hA := Lib.hid hA
  replace hV := Lib.hid hV
  replace hC := Lib.hid hC
  replace hM := Lib.hid hM
  obtain ⟨_, hN5, _, hKN⟩ := hv0.nums
  have hU0 := Lib.hid (fun W => unl_any W K N a0 hKN (by omega))
  have hd : B = decide ((n : Int) - (K : Int) < 2 * ((N - K : Nat) : Int)) := by
    rw [hB0]
    congr 1
    exact propext ⟨fun c => by omega, fun c => by omega⟩
  have hq2 : (2 : Int) * ((N - K : Nat) : Int) ≤ 10 := by omega
  have hw2 : IntKind.i64.wrap ((2 : Int) * ((N - K : Nat) : Int)) = 2 * ((N - K : Nat) : Int) := IntWalk.i64_in _ ⟨by omega, by omega⟩
  have hw3 : IntKind.i64.wrap ((n : Int) - (K : Int)) = (n : Int) - (K : Int) := IntWalk.i64_in _ ⟨by omega, by omega⟩
  have hK5 : (K : Int) ≤ 5 := by omega
  have hn5' : (n : Int) ≤ 5 := by omega
  obtain ⟨qN, hqN⟩ : ∃ q, N - K = q := ⟨_, rfl⟩
  rw [hqN] at hd hU0 hq2 hw2
  replace hd := Eq.symm hd
  clear hB0 hv0 hqN hN5 hKN
  go_enter Tryz.func8, Tryz.ntmps8
  go_wp2_with fail
  refine (hA.out _ (by (repeat (first | exact Below.refl _ _ | assumption | refine bchain (by assumption) ?_ | refine balloc ?_ _ | apply Below.drew | apply below_drewN | (refine Below.alloc ?_ (by (try simp) <;> omega) _) | (refine Below.setCell ?_ (by (try simp) <;> omega) _))))).mono ?_
  rintro r1 w1 ⟨rfl, hb1⟩
  have kk1 := k0.out.below hb1
  obtain ⟨_, f0, f1⟩ := id kk1.g
  replace kk1 := Lib.hid kk1
  go_wp2_with fail
  refine (hV.out _).mono ?_
  rintro r2 w2 ⟨rfl, hb2⟩
  have kk2 := kk1.out.below hb2
  have s2 := kk2.s
  replace kk2 := Lib.hid kk2
  clear f0 f1
  go_wp2_with fail
  refine (hC.out _ (by (repeat (first | exact Below.refl _ _ | assumption | refine bchain (by assumption) ?_ | refine balloc ?_ _ | apply Below.drew | apply below_drewN | (refine Below.alloc ?_ (by (try simp) <;> omega) _) | (refine Below.setCell ?_ (by (try simp) <;> omega) _))))).mono ?_
  rintro r3 w3 ⟨rfl, hb3⟩
  have hB3 : Below w.heap.size w w3 := by (repeat (first | exact Below.refl _ _ | assumption | refine bchain (by assumption) ?_ | refine balloc ?_ _ | apply Below.drew | apply below_drewN | (refine Below.alloc ?_ (by (try simp) <;> omega) _) | (refine Below.setCell ?_ (by (try simp) <;> omega) _)))
  have kk3 := kk2.out.below hb3
  clear hb1 hb2 hb3 kk1 kk2 s2
  have hl0 : (0 : Int) < (L : Int) := by omega
  have c0 := old_cell hbl g0 hB3
  have c1 := old_cell hbl g1 hB3
  have c2 := old_cell hbl g2 hB3
  have hb3l : b < w3.heap.size := Nat.lt_of_lt_of_le hbl hB3.size
  have q0 := bw_cell kk3.lt kk3.s
  have q1 := bw_cell kk3.g.lt kk3.g.c0
  have q2 := bw_cell kk3.g.lt kk3.g.c1
  have q4 := bw_cell hb3l c0
  have q5 := bw_cell hb3l c1
  have q6 := bw_cell hb3l c2
  replace kk3 := Lib.hid kk3
  clear c0 c1 c2 g0 g1 g2
  go_wp2
  refine wp_region_below (by kernel_rfl) (by kernel_rfl) ?_
  iterate 3 (quiet_step (fail))
  refine wpQuiet_step (fun K hK => ?_)
  go_simp
  apply Exists.intro
  refine ⟨fun p => ?_, hK _ ?_⟩
  · exact bw_of (w := w3) (p := p) (hU0.out p.W)
  clear hK K
  iterate 9 (quiet_step (fail))
  refine wpQuiet_nil ?_
  intro w5 hw'
  obtain ⟨⟨wx, hb_w5⟩, rfl⟩ := hw'
  have hB5 := hB3.trans (hb_w5.mono hB3.size)
  have kk5 := kk3.out.below hb_w5
  have s5 := kk5.s
  replace kk5 := Lib.hid kk5
  clear q0 q1 q2 q4 q5 q6 kk3 hb_w5
  cases B with
  | true =>
    go_wp2
    go_ret2
    exact ⟨⟨_, rfl, ⟨fun _ => rfl, fun c => by cases c⟩⟩, hB5⟩
  | false =>
    have hM5 := Lib.hid (hM.out w5 hB5 kk5.out rfl)
    go_wp2_with fail
    refine hM5.out.mono ?_
    rintro r6 w6 ⟨⟨u, rfl, hR⟩, hb6⟩
    have hR6 := Lib.hid (hR.le hB5.size)
    clear hR
    go_wp2
    go_ret2
    exact ⟨⟨_, rfl, ⟨fun c => (by cases c), fun _ => hR6.out⟩⟩, hB5.trans (hb6.mono hB5.size)⟩
end
end Go.Proofs.YtncbimbbkealmaaGreatDoor
/-
  MATRICES OF THE MODEL'S OWN: zeros; a place is written. (made by gen_pae.py of ME, FUnitS)
-/
namespace Go.Proofs.YtncbimbbkealmaaGreatDoor.Fr
open Go.RowKit
set_option maxRecDepth 100000
theorem MB.congr {b0 : Nat} {w : World} {v : Value} {n : Nat} {g h : Nat → Nat → Int × Int} (H : MB b0 w v n h) (e : ∀ i j, i < n → j < n → g i j = h i j) : MB b0 w v n g := by
  obtain ⟨a, cap, R, C, e1, h1, h2, hR, hC, hA⟩ := H
  refine ⟨a, cap, R, C, e1, h1, h2, fun i hi => ?_, hC, hA⟩
  obtain ⟨r1, r2, cur, r3, r4⟩ := hR i hi
  exact ⟨r1, r2, cur, r3, fun j hj => by rw [e i j hi hj]; exact r4 j hj⟩
theorem MB.le {b0 b1 : Nat} {w : World} {v : Value} {n : Nat} {h : Nat → Nat → Int × Int} (H : MB b0 w v n h) (hb : b1 ≤ b0) : MB b1 w v n h := by
  obtain ⟨a, cap, R, C, e1, h1, h2, hR, hC, hA⟩ := H
  refine ⟨a, cap, R, C, e1, h1, h2, fun i hi => ?_, hC, fun hn => ?_⟩
  · obtain ⟨r1, r2⟩ := hR i hi
    exact ⟨Nat.le_trans hb r1, r2⟩
  · obtain ⟨A, e2, a1, a2⟩ := hA hn
    exact ⟨A, e2, Nat.le_trans hb a1, a2⟩
/-- a matrix of the call's own, with an element: where its rows lie -/
structure MO (b0 : Nat) (w : World) (n : Nat) (h : Nat → Nat → Int × Int) (A cap : Nat) (R C : Nat → Nat) : Prop where
  h1 : n ≤ cap
  h2 : cap ≤ 9223372036854775807
  rb : RB b0 w n n R h
  hc : ∀ i, i < n → n ≤ C i ∧ C i ≤ 9223372036854775807
  a0 : b0 ≤ A
  a1 : A < w.heap.size
  ne : ∀ i, i < n → A ≠ R i
  row : ∀ i, i < n → w.cell? ⟨A, i, none⟩ = some (.slice (some ⟨R i, 0, none⟩) n (C i))
theorem MB.mo {b0 : Nat} {w : World} {v : Value} {n : Nat} {h : Nat → Nat → Int × Int} (H : MB b0 w v n h) (hn : 0 < n) : ∃ A cap R C, v = .slice (some ⟨A, 0, none⟩) n cap ∧ MO b0 w n h A cap R C := by
  obtain ⟨a, cap, R, C, e, h1, h2, hR, hC, hA⟩ := H
  obtain ⟨A, rfl, a1, a2, a3, a4⟩ := hA hn
  exact ⟨A, cap, R, C, e, h1, h2, hR, hC, a1, a2, a3, a4⟩
theorem MO.mb {b0 : Nat} {w : World} {n : Nat} {h : Nat → Nat → Int × Int} {A cap : Nat} {R C : Nat → Nat} (H : MO b0 w n h A cap R C) : MB b0 w (.slice (some ⟨A, 0, none⟩) n cap) n h :=
  ⟨_, cap, R, C, rfl, H.h1, H.h2, H.rb, H.hc, fun _ => ⟨A, rfl, H.a0, H.a1, H.ne, H.row⟩⟩
theorem MO.below {b0 : Nat} {w w' : World} {n : Nat} {h : Nat → Nat → Int × Int} {A cap : Nat} {R C : Nat → Nat} (H : MO b0 w n h A cap R C) (hb : Below w.heap.size w w') : MO b0 w' n h A cap R C :=
  ⟨H.h1, H.h2, H.rb.below hb, H.hc, H.a0, Nat.lt_of_lt_of_le H.a1 hb.size, H.ne, fun i hi => (hb.cell (p := ⟨A, i, none⟩) H.a1).trans (H.row i hi)⟩
theorem MO.set {b0 : Nat} {w : World} {n : Nat} {h : Nat → Nat → Int × Int} {A cap : Nat} {R C : Nat → Nat} (H : MO b0 w n h A cap R C) {i j : Nat} (hi : i < n) (hj : j < n) (x y : Int) :
    MO b0 ((w.setCell ⟨R i, j * 2, none⟩ (.int .i64 x)).setCell ⟨R i, j * 2 + 1, none⟩ (.int .i64 y)) n (fun a b => if a = i ∧ b = j then (x, y) else h a b) A cap R C where
  h1 := H.h1
  h2 := H.h2
  rb := H.rb.set hi hj x y
  hc := H.hc
  a0 := H.a0
  a1 := by have := H.a1; simpa using this
  ne := H.ne
  row := fun q hq => by
    have hne := H.ne i hi
    rw [World.cell?_setCell_other _ _ _ _ (fun t => hne (by injection t with t; exact t.symm)), World.cell?_setCell_other _ _ _ _ (fun t => hne (by injection t with t; exact t.symm))]
    exact H.row q hq
theorem MO.grown {b0 : Nat} {w0 w : World} {n : Nat} {h : Nat → Nat → Int × Int} {A cap : Nat} {R C : Nat → Nat} (H : MO b0 w n h A cap R C) (hb : Below b0 w0 w) {i j : Nat} (hi : i < n) (x y : Value) :
    Below b0 w0 ((w.setCell ⟨R i, j * 2, none⟩ x).setCell ⟨R i, j * 2 + 1, none⟩ y) :=
  (hb.setCell (p := ⟨R i, j * 2, none⟩) (H.rb i hi).1 _).setCell (p := ⟨R i, j * 2 + 1, none⟩) (H.rb i hi).1 _


/-- the places up to i, j are new, the others old -/
def upd (S T : Nat → Nat → Int × Int) (i0 j0 a b : Nat) : Int × Int := if a < i0 ∨ (a = i0 ∧ b < j0) then T a b else S a b
theorem upd_zero (S T : Nat → Nat → Int × Int) (a b : Nat) : upd S T 0 0 a b = S a b := by unfold upd; rw [if_neg (by omega)]
theorem upd_next (S T : Nat → Nat → Int × Int) (i j a b : Nat) : upd S T i (j + 1) a b = if a = i ∧ b = j then T i j else upd S T i j a b := by
  unfold upd
  by_cases c : a = i ∧ b = j
  · obtain ⟨rfl, rfl⟩ := c
    rw [if_pos (by omega), if_pos ⟨rfl, rfl⟩]
  · rw [if_neg c]
    by_cases d : a < i ∨ (a = i ∧ b < j)
    · rw [if_pos d, if_pos (by omega)]
    · rw [if_neg d, if_neg (by omega)]
theorem upd_row (S T : Nat → Nat → Int × Int) {n b : Nat} (i a : Nat) (hb : b < n) : upd S T i n a b = upd S T (i + 1) 0 a b := by
  unfold upd
  by_cases d : a < i ∨ (a = i ∧ b < n)
  · rw [if_pos d, if_pos (by omega)]
  · rw [if_neg d, if_neg (by omega)]
theorem upd_all (S T : Nat → Nat → Int × Int) {n a : Nat} (b : Nat) (ha : a < n) : upd S T n 0 a b = T a b := by unfold upd; rw [if_pos (by omega)]
theorem upd_at (S T : Nat → Nat → Int × Int) (i j : Nat) : upd S T i j i j = S i j := by unfold upd; rw [if_neg (by omega)]
/-- one place more -/
theorem MO.put {b0 : Nat} {w0 w : World} {n i j : Nat} {S T : Nat → Nat → Int × Int} {A cap : Nat} {R C : Nat → Nat} (H : MO b0 w n (upd S T i j) A cap R C) (hb : Below b0 w0 w) (hi : i < n) (hj : j < n) {x y : Int} (ht : T i j = (x, y)) :
    MB b0 ((w.setCell ⟨R i, j * 2, none⟩ (.int .i64 x)).setCell ⟨R i, j * 2 + 1, none⟩ (.int .i64 y)) (.slice (some ⟨A, 0, none⟩) n cap) n (upd S T i (j + 1)) ∧ Below b0 w0 ((w.setCell ⟨R i, j * 2, none⟩ (.int .i64 x)).setCell ⟨R i, j * 2 + 1, none⟩ (.int .i64 y)) :=
  ⟨((H.set hi hj x y).mb).congr (fun a b _ _ => by rw [upd_next, ht]), H.grown hb hi _ _⟩
end Go.Proofs.YtncbimbbkealmaaGreatDoor.Fr
namespace Go.Proofs.YtncbimbbkealmaaGreatDoor
open Go.RowKit Go.Shelf
set_option maxRecDepth 100000
attribute [local go_sem] Oper.semAt_some
section
variable (w : World)
set_option maxHeartbeats 2000000 in
theorem sempty4_any (n : Nat) (hn : n ≤ 8) :
    Calls Tryz.prog 35 #[.int .i64 n] w fun r w' => (∃ v, r = .returned v ∧ Fr.MB w.heap.size w' v n (fun _ _ => (0, 1))) ∧ Below w.heap.size w w' := by
  obtain ⟨i0, hi, hz0, hz1, hz2⟩ := info_parts Fr.info_graph
  obtain ⟨i1, ki, kz0, kz1, kz2⟩ := info_parts Fr.info_row
  replace hi := Lib.hid hi
  replace hz0 := Lib.hid hz0
  replace hz1 := Lib.hid hz1
  replace hz2 := Lib.hid hz2
  replace ki := Lib.hid ki
  replace kz0 := Lib.hid kz0
  replace kz1 := Lib.hid kz1
  replace kz2 := Lib.hid kz2
  go_enter Tryz.func35, Tryz.ntmps35
  go_wp2
  go_loopw [3, 4] (fun v s wr => ∃ k : Nat, k ≤ n ∧ s = .int .i64 k ∧ Hid (Fr.TB w.heap.size wr v n k (fun _ _ => (0, 1))) ∧ Below w.heap.size w wr) (fun _ s _ => n - (intOf s).toNat)
  case atStart =>
    refine ⟨0, by omega, rfl, ?_, by (repeat (first | exact Below.refl _ _ | assumption | refine bchain (by assumption) ?_ | refine balloc ?_ _ | apply Below.drew | apply below_drewN | (refine Below.alloc ?_ (by (try simp) <;> omega) _) | (refine Below.setCell ?_ (by (try simp) <;> omega) _)))⟩
    exact ⟨fun _ => 0, fun _ => 0, fun i hi => absurd hi (by omega), fun i hi => absurd hi (by omega), World.ownsRow_made w #[] 0 (Nat.le_refl _) (by omega) rfl⟩
  case round =>
    obtain ⟨k, hk, rfl, hE, hb⟩ := hrel
    by_cases hlt : k < n
    · obtain ⟨wo, rfl⟩ : ∃ wo : World, wo = wr := ⟨_, rfl⟩
      go_wp2
      go_loopw [5, 6] (fun v s wr => ∃ j : Nat, j ≤ n ∧ s = .int .i64 j ∧ Hid (wr.ownsRow wo.heap.size 51 2 v j (Fr.frow (fun _ => (0, 1)) j)) ∧ Below wo.heap.size wo wr) (fun _ s _ => n - (intOf s).toNat)
      case atStart => exact ⟨0, by omega, rfl, World.ownsRow_made wo #[] 0 (Nat.le_refl _) (by omega) rfl, by (repeat (first | exact Below.refl _ _ | assumption | refine bchain (by assumption) ?_ | refine balloc ?_ _ | apply Below.drew | apply below_drewN | (refine Below.alloc ?_ (by (try simp) <;> omega) _) | (refine Below.setCell ?_ (by (try simp) <;> omega) _)))⟩
      case round =>
        obtain ⟨j, hj, rfl, hown, hb2⟩ := hrel
        by_cases hjn : j < n
        · have hnx := Lib.hid (Fr.frow_succ (fun _ => (0, 1)) j)
          have hge := hb2.size
          go_wp2_with fail
          refine (Fr.zero_any _).mono ?_
          rintro r3 w3 ⟨rfl, hb3⟩
          have hown3 := Lib.hid (hown.out.kept (row := none) (w' := w3) ⟨hb3.os, hb3.tape, hb3.output, hb3.size, fun k hk _ => hb3.block k hk⟩ (by cases (Value.ownBlock _) <;> simp))
          have hb23 : Below wo.heap.size wo w3 := hb2.trans (hb3.mono hge)
          have hge3 := hb23.size
          clear hown hb3 hb2
          go_wp2_with (at_builtin; refine wpList_append_own _ rfl _ _ 57 rfl wo.heap.size 51 i0 (.agg #[.int .i64 0, .int .i64 0]) 2 16 Tryz.underlying57 hi.out hz0.out hz1.out hz2.out rfl (by decide) _ _ _ rfl (hown3.out.alloc _) ⟨w3.heap.size, 0, none⟩ 1 1 [.int .i64 0, .int .i64 1] rfl rfl (fun q u hq => by match q, hq with
              | 0, hq => simp at hq; subst hq; rw [show (⟨w3.heap.size, 0, none⟩ : Addr).add 0 = ⟨w3.heap.size, 0, none⟩ from rfl, World.cell?_alloc_new]; rfl
              | 1, hq => simp at hq; subst hq; rw [show (⟨w3.heap.size, 0, none⟩ : Addr).add 1 = ⟨w3.heap.size, 1, none⟩ from rfl, World.cell?_alloc_new]; rfl
              | q + 2, hq => simp at hq) (fun u hu => by simp at hu; rcases hu with rfl | rfl <;> rfl) (by unfold maxLen; omega) (by omega) (by simp; omega) ?_; intro v' w4 hown' hgrow _)
          have hB4 : Below wo.heap.size wo w4 := (hb23.alloc hge3 _).grown hgrow (by simp; omega) (fun k hk => (hown3.out.lt k hk).1)
          have hown4 : Hid (w4.ownsRow wo.heap.size 51 2 v' (j + 1) (Fr.frow (fun _ => (0, 1)) (j + 1))) := by
            show World.ownsRow _ _ _ _ _ _ _
            rw [hnx.out]
            exact hown'
          clear hown' hgrow hown3
          go_wp2
          go_roundw
          case rel => exact ⟨j + 1, by omega, by go_num, hown4, hB4⟩
          case measure => simp [intOf]; omega
        · obtain rfl : j = n := by omega
          have hdd := decide_eq_false (show ¬ ((j : Int) < (j : Int)) by omega)
          obtain ⟨R, C, hR, hC, hO⟩ := hE.out
          obtain ⟨g, c, hv⟩ := Go.Joins.ownsRow_form hown.out (by omega)
          subst hv
          have hkept := Lib.hid (hO.kept (row := none) (w' := wr) ⟨hb2.os, hb2.tape, hb2.output, hb2.size, fun k hk _ => hb2.block k hk⟩ (by cases (Value.ownBlock _) <;> simp))
          replace hR := Lib.hid hR
          replace hC := Lib.hid hC
          replace hO := Lib.hid hO
          have hge := hb.size
          have hge2 := hb2.size
          clear hE
          go_wp2_with (at_builtin; refine wpList_append_own _ rfl _ _ 27 rfl w.heap.size 57 i1 (.slice none 0 0) 1 24 Tryz.underlying27 ki.out kz0.out kz1.out kz2.out rfl (by decide) _ _ _ rfl (hkept.out.alloc _) ⟨wr.heap.size, 0, none⟩ 1 1 [.slice (some ⟨g, 0, none⟩) j c] rfl rfl (fun q u hq => by cases q with | zero => simp at hq; subst hq; rw [show (⟨wr.heap.size, 0, none⟩ : Addr).add 0 = ⟨wr.heap.size, 0, none⟩ from rfl, World.cell?_alloc_new]; rfl | succ q => simp at hq) (fun u hu => by simp at hu; subst hu; rfl) (by unfold maxLen; omega) (by omega) (by simp; omega) ?_; intro v' w4 hown' hgrow _)
          have hE4 := Lib.hid (Fr.TB_next (h := fun _ _ => (0, 1)) hR.out hC.out hO.out (by omega) hb2 hown.out _ hgrow hown')
          have hB4 : Below w.heap.size w w4 := ((hb.trans (hb2.mono hge)).alloc (by omega) _).grown hgrow (by simp; omega) (fun k hk => (hO.out.lt k hk).1)
          clear hown' hgrow hkept hR hC hO hown
          go_wp2
          go_roundw
          case rel => exact ⟨k + 1, by omega, by go_num, hE4.out, hB4⟩
          case measure => simp [intOf]; omega
    · obtain rfl : k = n := by omega
      have hdd := decide_eq_false (show ¬ ((k : Int) < (k : Int)) by omega)
      go_wp2
      go_ret
      exact ⟨⟨_, rfl, hE.out.done⟩, hb⟩
set_option maxHeartbeats 4000000 in
/-- the model's table -/
theorem stabm_any (av : Option Addr) (cap : Nat) (gs : List (Int × Int × Int)) (K N n e : Nat) (hl8 : gs.length ≤ 8) (hc : LiesK w av gs) (hF : FamN gs K N) (hv : VK K n e) (hle : N + N ≤ n + K) :
    Calls Tryz.prog 37 #[.slice av gs.length cap, .agg #[.int .i64 K, .int .i64 n, .int .u32 e]] w fun r w' => (∃ v, r = .returned v ∧ Fr.MB w.heap.size w' v gs.length (jG K N n e gs)) ∧ Below w.heap.size w w' := by
  obtain ⟨i0, hi, hz0, hz1, hz2⟩ := info_parts Fr.info_graph
  obtain ⟨i1, ki, kz0, kz1, kz2⟩ := info_parts Fr.info_row
  replace hi := Lib.hid hi
  replace hz0 := Lib.hid hz0
  replace hz1 := Lib.hid hz1
  replace hz2 := Lib.hid hz2
  replace ki := Lib.hid ki
  replace kz0 := Lib.hid kz0
  replace kz1 := Lib.hid kz1
  replace kz2 := Lib.hid kz2
  obtain ⟨h, hh⟩ : ∃ h, h = jG K N n e gs := ⟨_, rfl⟩
  obtain ⟨L, hL⟩ : ∃ L, gs.length = L := ⟨_, rfl⟩
  have hdat : ∀ i j, i < L → j < L → (∀ W, Calls Tryz.prog 64 #[.agg #[.int .i64 K, .int .i64 N, .int .u32 (eAt gs i : Nat)], .agg #[.int .i64 K, .int .i64 N, .int .u32 (eAt gs j : Nat)], .agg #[.int .i64 K, .int .i64 n, .int .u32 e]] W fun r w' => r = .returned (.agg #[.int .i64 (h i j).1, .int .i64 (h i j).2]) ∧ Below W.heap.size W w') := fun i j hi hj W => by
    rw [hh]
    exact sjd_in W K n e N (eAt gs i) N (eAt gs j) hv (hF i (by omega)).2 (hF j (by omega)).2 hle
  have hcel : ∀ i, i < L → ∃ b off, av = some ⟨b, off, none⟩ ∧ b < w.heap.size ∧ w.cell? ⟨b, off + i * 3, none⟩ = some (.int .i64 K) ∧ w.cell? ⟨b, off + i * 3 + 1, none⟩ = some (.int .i64 N) ∧ w.cell? ⟨b, off + i * 3 + 2, none⟩ = some (.int .u32 (eAt gs i : Nat)) := fun i hi => by
    obtain ⟨b, off, e1, e2, e3⟩ := hc i (by omega)
    rw [(hF i (by omega)).1] at e3
    exact ⟨b, off, e1, e2, e3⟩
  rw [← hh, hL]
  rw [hL] at hl8
  have hk0 := FC.made w K n e 43
  obtain ⟨W1, hW1⟩ : ∃ W1, W1 = w.alloc (.cells #[.int .i64 K, .int .i64 n, .int .u32 e] 43) := ⟨_, rfl⟩
  rw [← hW1] at hk0
  have hB1 : Below w.heap.size w W1 := by rw [hW1]; (repeat (first | exact Below.refl _ _ | assumption | refine bchain (by assumption) ?_ | refine balloc ?_ _ | apply Below.drew | apply below_drewN | (refine Below.alloc ?_ (by (try simp) <;> omega) _) | (refine Below.setCell ?_ (by (try simp) <;> omega) _)))
  have hz1' : W1.heap.size = w.heap.size + 1 := by rw [hW1]; simp
  replace hdat := Lib.hid hdat
  replace hcel := Lib.hid hcel
  replace hW1 := Lib.hid hW1
  replace hk0 := Lib.hid hk0
  clear hh hL hc hF hv hle
  go_enter Tryz.func37, Tryz.ntmps37
  go_wp2
  rw [← hW1.out]
  go_loopw [5, 6] (fun v s wr => ∃ k : Nat, k ≤ L ∧ s = .int .i64 k ∧ Hid (Fr.TB W1.heap.size wr v L k h) ∧ Below W1.heap.size W1 wr) (fun _ s _ => L - (intOf s).toNat)
  case atStart =>
    refine ⟨0, by omega, rfl, ?_, by (repeat (first | exact Below.refl _ _ | assumption | refine bchain (by assumption) ?_ | refine balloc ?_ _ | apply Below.drew | apply below_drewN | (refine Below.alloc ?_ (by (try simp) <;> omega) _) | (refine Below.setCell ?_ (by (try simp) <;> omega) _)))⟩
    exact ⟨fun _ => 0, fun _ => 0, fun i hi => absurd hi (by omega), fun i hi => absurd hi (by omega), by rw [← hz1']; exact World.ownsRow_made W1 #[] 0 (Nat.le_refl _) (by omega) rfl⟩
  case round =>
    obtain ⟨k, hk, rfl, hE, hb⟩ := hrel
    by_cases hlt : k < L
    · obtain ⟨wo, rfl⟩ : ∃ wo : World, wo = wr := ⟨_, rfl⟩
      have hkl : (k : Int) < (L : Int) := by omega
      go_wp2
      go_loopw [7, 8] (fun v s wr => ∃ j : Nat, j ≤ L ∧ s = .int .i64 j ∧ Hid (wr.ownsRow wo.heap.size 51 2 v j (Fr.frow (h k) j)) ∧ Below wo.heap.size wo wr) (fun _ s _ => L - (intOf s).toNat)
      case atStart => exact ⟨0, by omega, rfl, World.ownsRow_made wo #[] 0 (Nat.le_refl _) (by omega) rfl, by (repeat (first | exact Below.refl _ _ | assumption | refine bchain (by assumption) ?_ | refine balloc ?_ _ | apply Below.drew | apply below_drewN | (refine Below.alloc ?_ (by (try simp) <;> omega) _) | (refine Below.setCell ?_ (by (try simp) <;> omega) _)))⟩
      case round =>
        obtain ⟨j, hj, rfl, hown, hb2⟩ := hrel
        by_cases hjn : j < L
        · have hjl : (j : Int) < (L : Int) := by omega
          obtain ⟨b, off, rfl, hbl, p0, p1, p2⟩ := hcel.out k hlt
          obtain ⟨b', off', e1, _, q0, q1, q2⟩ := hcel.out j hjn
          injection e1 with e1
          injection e1 with e1 e2
          subst e1 e2
          have hC := Lib.hid (hdat.out k j hlt hjn)
          obtain ⟨x, hx⟩ : ∃ x, (h k j).1 = x := ⟨_, rfl⟩
          obtain ⟨y, hy⟩ : ∃ x, (h k j).2 = x := ⟨_, rfl⟩
          have hxs2 : Hid (Fr.frow (h k) (j + 1) = Fr.frow (h k) j ++ [.int .i64 x, .int .i64 y]) := by
            show _ = _
            rw [Fr.frow_succ, hx, hy]
          rw [hx, hy] at hC
          obtain ⟨x0, hx0⟩ : ∃ x, eAt gs k = x := ⟨_, rfl⟩
          obtain ⟨y0, hy0⟩ : ∃ x, eAt gs j = x := ⟨_, rfl⟩
          rw [hx0] at hC p2
          rw [hy0] at hC q2
          obtain ⟨xs, hxs⟩ : ∃ xs, Fr.frow (h k) j = xs := ⟨_, rfl⟩
          rw [hxs] at hown hxs2
          have hbw : Below w.heap.size w wo := hB1.trans (hb.mono hB1.size)
          have hbr : b < wo.heap.size := Nat.lt_of_lt_of_le hbl hbw.size
          have y0' := old_cell hbl p0 hbw
          have y1' := old_cell hbl p1 hbw
          have y2' := old_cell hbl p2 hbw
          have v0' := old_cell hbl q0 hbw
          have v1' := old_cell hbl q1 hbw
          have v2' := old_cell hbl q2 hbw
          have s0 := old_cell hbr y0' hb2
          have s1 := old_cell hbr y1' hb2
          have s2 := old_cell hbr y2' hb2
          have t0 := old_cell hbr v0' hb2
          have t1 := old_cell hbr v1' hb2
          have t2 := old_cell hbr v2' hb2
          obtain ⟨g0, g1, g2, g3⟩ := hk0.out.below hb
          have z1 := old_cell g0 g1 hb2
          have z2 := old_cell g0 g2 hb2
          have z3 := old_cell g0 g3 hb2
          have hge := hb2.size
          clear hx hy hx0 hy0 hxs p0 p1 p2 q0 q1 q2 hbw
          go_wp2
          go_region_held3 (fun A => A.cell? ⟨b, off + k * 3, none⟩ = some (.int .i64 K) ∧ A.cell? ⟨b, off + k * 3 + 1, none⟩ = some (.int .i64 N) ∧ A.cell? ⟨b, off + k * 3 + 2, none⟩ = some (.int .u32 x0) ∧ A.cell? ⟨b, off + j * 3, none⟩ = some (.int .i64 K) ∧ A.cell? ⟨b, off + j * 3 + 1, none⟩ = some (.int .i64 N) ∧ A.cell? ⟨b, off + j * 3 + 2, none⟩ = some (.int .u32 y0) ∧ A.cell? ⟨w.heap.size, 0, none⟩ = some (.int .i64 K) ∧ A.cell? ⟨w.heap.size, 1, none⟩ = some (.int .i64 n) ∧ A.cell? ⟨w.heap.size, 2, none⟩ = some (.int .u32 e))
            (exact ⟨old_cell hbr y0' (by (repeat (first | exact Below.refl _ _ | assumption | refine bchain (by assumption) ?_ | refine balloc ?_ _ | apply Below.drew | apply below_drewN | (refine Below.alloc ?_ (by (try simp) <;> omega) _) | (refine Below.setCell ?_ (by (try simp) <;> omega) _)))), old_cell hbr y1' (by (repeat (first | exact Below.refl _ _ | assumption | refine bchain (by assumption) ?_ | refine balloc ?_ _ | apply Below.drew | apply below_drewN | (refine Below.alloc ?_ (by (try simp) <;> omega) _) | (refine Below.setCell ?_ (by (try simp) <;> omega) _)))), old_cell hbr y2' (by (repeat (first | exact Below.refl _ _ | assumption | refine bchain (by assumption) ?_ | refine balloc ?_ _ | apply Below.drew | apply below_drewN | (refine Below.alloc ?_ (by (try simp) <;> omega) _) | (refine Below.setCell ?_ (by (try simp) <;> omega) _)))), old_cell hbr v0' (by (repeat (first | exact Below.refl _ _ | assumption | refine bchain (by assumption) ?_ | refine balloc ?_ _ | apply Below.drew | apply below_drewN | (refine Below.alloc ?_ (by (try simp) <;> omega) _) | (refine Below.setCell ?_ (by (try simp) <;> omega) _)))), old_cell hbr v1' (by (repeat (first | exact Below.refl _ _ | assumption | refine bchain (by assumption) ?_ | refine balloc ?_ _ | apply Below.drew | apply below_drewN | (refine Below.alloc ?_ (by (try simp) <;> omega) _) | (refine Below.setCell ?_ (by (try simp) <;> omega) _)))), old_cell hbr v2' (by (repeat (first | exact Below.refl _ _ | assumption | refine bchain (by assumption) ?_ | refine balloc ?_ _ | apply Below.drew | apply below_drewN | (refine Below.alloc ?_ (by (try simp) <;> omega) _) | (refine Below.setCell ?_ (by (try simp) <;> omega) _)))), old_cell g0 g1 (by (repeat (first | exact Below.refl _ _ | assumption | refine bchain (by assumption) ?_ | refine balloc ?_ _ | apply Below.drew | apply below_drewN | (refine Below.alloc ?_ (by (try simp) <;> omega) _) | (refine Below.setCell ?_ (by (try simp) <;> omega) _)))), old_cell g0 g2 (by (repeat (first | exact Below.refl _ _ | assumption | refine bchain (by assumption) ?_ | refine balloc ?_ _ | apply Below.drew | apply below_drewN | (refine Below.alloc ?_ (by (try simp) <;> omega) _) | (refine Below.setCell ?_ (by (try simp) <;> omega) _)))), old_cell g0 g3 (by (repeat (first | exact Below.refl _ _ | assumption | refine bchain (by assumption) ?_ | refine balloc ?_ _ | apply Below.drew | apply below_drewN | (refine Below.alloc ?_ (by (try simp) <;> omega) _) | (refine Below.setCell ?_ (by (try simp) <;> omega) _))))⟩)
            (first
              | (go_at_call 64; refine (hC.out _).mono ?_; rintro r7 w7 ⟨rfl, hb7⟩; have hx7 : Below wr.heap.size wr w7 := (by (repeat (first | exact Below.refl _ _ | assumption | refine bchain (by assumption) ?_ | refine balloc ?_ _ | apply Below.drew | apply below_drewN | (refine Below.alloc ?_ (by (try simp) <;> omega) _) | (refine Below.setCell ?_ (by (try simp) <;> omega) _)))); have hown7 := Lib.hid (row_below hown.out hx7); have hz7 := hx7.size; have hx7o : Below wo.heap.size wo w7 := hb2.trans (hx7.mono hge))
              | (refine step_append_own rfl (.tmp 23) (.tmp 34) 57 rfl wo.heap.size 51 i0 (.agg #[.int .i64 0, .int .i64 0]) 2 16 Tryz.underlying57 hi.out hz0.out hz1.out hz2.out rfl (by decide) _ j xs (by simp [Act.eval]) (hown7.out.alloc _) ⟨w7.heap.size, 0, none⟩ 1 1 [.int .i64 x, .int .i64 y] (by simp [Act.eval]) rfl (fun q u hq => by match q, hq with
              | 0, hq => simp at hq; subst hq; rw [show (⟨w7.heap.size, 0, none⟩ : Addr).add 0 = ⟨w7.heap.size, 0, none⟩ from rfl, World.cell?_alloc_new]; rfl
              | 1, hq => simp at hq; subst hq; rw [show (⟨w7.heap.size, 0, none⟩ : Addr).add 1 = ⟨w7.heap.size, 1, none⟩ from rfl, World.cell?_alloc_new]; rfl
              | q + 2, hq => simp at hq) (fun u hu => by simp at hu; rcases hu with rfl | rfl <;> rfl) (by unfold maxLen; omega) (by omega) (by simp; omega) ?_; intro v' w8 hown' hgrow; have hb8 : Below wo.heap.size wo w8 := (((hx7o).alloc (by omega) _).grown hgrow (by simp; omega) (fun q hq => (hown7.out.lt q hq).1))))
          have hown8 : Hid (w8.ownsRow wo.heap.size 51 2 v' (j + 1) (Fr.frow (h k) (j + 1))) := by
            show World.ownsRow _ _ _ _ _ _ _
            rw [hxs2.out]
            exact hown'
          clear hown' hgrow hown hown7 hb7 hx7 hx7o s0 s1 s2 t0 t1 t2 g0 g1 g2 g3 z1 z2 z3 y0' y1' y2' v0' v1' v2'
          go_wp2
          go_roundw
          case rel => exact ⟨j + 1, by omega, by go_num, hown8, hb8⟩
          case measure => simp [intOf]; omega
        · obtain rfl : j = L := by omega
          have hdd := decide_eq_false (show ¬ ((j : Int) < (j : Int)) by omega)
          obtain ⟨R, C, hR, hC, hO⟩ := hE.out
          obtain ⟨g, c, hvv⟩ := Go.Joins.ownsRow_form hown.out (by omega)
          subst hvv
          have hkept := Lib.hid (hO.kept (row := none) (w' := wr) ⟨hb2.os, hb2.tape, hb2.output, hb2.size, fun k hk _ => hb2.block k hk⟩ (by cases (Value.ownBlock _) <;> simp))
          replace hR := Lib.hid hR
          replace hC := Lib.hid hC
          replace hO := Lib.hid hO
          have hge := hb.size
          have hge2 := hb2.size
          clear hE
          go_wp2_with (at_builtin; refine wpList_append_own _ rfl _ _ 27 rfl W1.heap.size 57 i1 (.slice none 0 0) 1 24 Tryz.underlying27 ki.out kz0.out kz1.out kz2.out rfl (by decide) _ _ _ rfl (hkept.out.alloc _) ⟨wr.heap.size, 0, none⟩ 1 1 [.slice (some ⟨g, 0, none⟩) j c] rfl rfl (fun q u hq => by cases q with | zero => simp at hq; subst hq; rw [show (⟨wr.heap.size, 0, none⟩ : Addr).add 0 = ⟨wr.heap.size, 0, none⟩ from rfl, World.cell?_alloc_new]; rfl | succ q => simp at hq) (fun u hu => by simp at hu; subst hu; rfl) (by unfold maxLen; omega) (by omega) (by simp; omega) ?_; intro v' w4 hown' hgrow _)
          have hE4 := Lib.hid (Fr.TB_next hR.out hC.out hO.out (by omega) hb2 hown.out _ hgrow hown')
          have hB4 : Below W1.heap.size W1 w4 := ((hb.trans (hb2.mono hge)).alloc (by omega) _).grown hgrow (by simp; omega) (fun k hk => (hO.out.lt k hk).1)
          clear hown' hgrow hkept hR hC hO hown
          go_wp2
          go_roundw
          case rel => exact ⟨k + 1, by omega, by go_num, hE4.out, hB4⟩
          case measure => simp [intOf]; omega
    · obtain rfl : k = L := by omega
      have hdd := decide_eq_false (show ¬ ((k : Int) < (k : Int)) by omega)
      go_wp2
      go_ret
      exact ⟨⟨_, rfl, hE.out.done.le hB1.size⟩, hB1.trans (hb.mono hB1.size)⟩
end
end Go.Proofs.YtncbimbbkealmaaGreatDoor
/-
  PAIRAVERAGES: the sums, as numbers.
-/
namespace Go.Proofs.YtncbimbbkealmaaGreatDoor
open Go.RowKit
set_option maxRecDepth 100000
/-- the sums of joint densities over the lists so far -/
def PaSum (K n e N t : Nat) (gs : List (Int × Int × Int)) (D L : Nat) (pre : List (List Nat)) (S : Nat → Nat → Int × Int) : Prop := ∀ a b, a < L → b < L → Fr.low (paS K n e N (eAt gs a) (eAt gs b) t pre : Nat) (D : Int) = some (S a b)
section
variable {K n e N t D L : Nat} {gs : List (Int × Int × Int)}
theorem PaSum.vp {pre : List (List Nat)} {S : Nat → Nat → Int × Int} (h : PaSum K n e N t gs D L pre S) (hD0 : 0 < D) {a b : Nat} (ha : a < L) (hb : b < L) : Fr.VP (S a b) := Fr.low_vf (by omega) (h a b ha hb)
theorem paSum_nil (hD0 : 0 < D) (hD : D ≤ 1000) : PaSum K n e N t gs D L [] (fun _ _ => (0, 1)) := fun a b _ _ => Fr.low_nil hD0 (by omega)
theorem paSum_f {pre : List (List Nat)} {x : List Nat} {S : Nat → Nat → Int × Int} (hx : tB n K e t x = false) (h : PaSum K n e N t gs D L pre S) : PaSum K n e N t gs D L (pre ++ [x]) S := fun a b ha hb => by
  have := h a b ha hb
  unfold paS at this ⊢
  rwa [avS_f hx]
theorem paSum_t {pre : List (List Nat)} {x : List Nat} {S : Nat → Nat → Int × Int} (hn : n ≤ 5) (hk0 : K ≤ N) (hle : N + N ≤ n + K) (hDd : jdA K n N N = D) (hpre : pre.length ≤ 60) (hx : tB n K e t x = true) (h : PaSum K n e N t gs D L pre S) :
    ∃ T, PaSum K n e N t gs D L (pre ++ [x]) T ∧ ∀ a b, a < L → b < L → Fr.addF (S a b) (jG K N n (onL e (ordF n x)) gs a b) = some (T a b) := by
  refine ⟨fun a b => (Fr.low (paS K n e N (eAt gs a) (eAt gs b) t (pre ++ [x]) : Nat) (D : Int)).getD (0, 1), ?_, ?_⟩
  all_goals
    intro a b ha hb
    obtain ⟨l1, l2, l3, l4⟩ := jd_low (k := K) (n := n) (n0 := N) (m0 := N) (onL e (ordF n x)) (eAt gs a) (eAt gs b) hn hk0 hk0 hle
    have hp := paS_le e (eAt gs a) (eAt gs b) t hn hk0 hle pre
    have hp2 : pre.length * 320 ≤ 60 * 320 := Nat.mul_le_mul hpre (Nat.le_refl _)
    rw [hDd] at l1 l2 l3 l4
    have hs : paS K n e N (eAt gs a) (eAt gs b) t (pre ++ [x]) = paS K n e N (eAt gs a) (eAt gs b) t pre + jdN K n (onL e (ordF n x)) N (eAt gs a) N (eAt gs b) := by
      unfold paS
      rw [avS_t hx]
      rfl
    obtain ⟨u, v, hl, _⟩ := Fr.low_at (X := paS K n e N (eAt gs a) (eAt gs b) t pre + jdN K n (onL e (ordF n x)) N (eAt gs a) N (eAt gs b)) (D := D) (by omega) (by omega)
  · dsimp only
    rw [hs, hl]
    rfl
  · have := Fr.add_low (X := paS K n e N (eAt gs a) (eAt gs b) t pre) (Y := jdN K n (onL e (ordF n x)) N (eAt gs a) N (eAt gs b)) (D := D) (by omega) (by omega) (by omega) l2 (h a b ha hb) l4
    dsimp only
    rw [hs]
    unfold jG
    exact this.trans (by rw [hl]; rfl)
theorem paSum_fin {S : Nat → Nat → Int × Int} (hn : n ≤ 5) (hk : K ≤ 3) (hk0 : K ≤ N) (hle : N + N ≤ n + K) (hDd : jdA K n N N = D) (hD0 : 0 < D) (hD : D ≤ 1000) (h : PaSum K n e N t gs D L (lists n K) S) {a b : Nat} (ha : a < L) (hb : b < L) :
    Fr.divF (S a b) (((lists n K).length : Int), 1) = some (pG K N n e gs t a b) := by
  have hp := paS_le e (eAt gs a) (eAt gs b) t hn hk0 hle (lists n K)
  have h1 := lists_l60 n hn K hk
  rw [Fr.div_low (X := paS K n e N (eAt gs a) (eAt gs b) t (lists n K)) (D := D) (by omega) (by omega) hD0 (h a b ha hb), ← hDd]
  exact pa_low e (eAt gs a) (eAt gs b) t hn hk hk0 hle
end
end Go.Proofs.YtncbimbbkealmaaGreatDoor
/-
  PAIRAVERAGES: the model's, around l04Averages. (made by gen_pa.py)
-/
namespace Go.Proofs.YtncbimbbkealmaaGreatDoor
open Go.RowKit Go.Shelf
set_option maxRecDepth 100000
attribute [local go_sem] Oper.semAt_some
section
variable (w : World)
theorem spa_inv (a : Option Addr) (cap L : Nat) (n e : Int) (hS : ∀ W, Calls Tryz.prog 14 #[.agg #[.int .i64 n, .int .u32 e]] W fun r w' => r = .returned (.bool false) ∧ Below W.heap.size W w') :
    Calls Tryz.prog 5 #[.slice a L cap, .agg #[.int .i64 n, .int .u32 e]] w fun r w' => (∃ u, r = .returned (.tuple #[u, .int .i64 1]) ∧ Fr.SlM w' u []) ∧ Below w.heap.size w w' := by
  have k0 := GxB.made w n e 32
  obtain ⟨_, f0, f1⟩ := k0
  replace hS := Lib.hid hS
  go_enter Tryz.func5, Tryz.ntmps5
  go_wp2_with fail
  refine (hS.out _).mono ?_
  rintro r1 w1 ⟨rfl, hb1⟩
  go_wp2
  go_ret2
  exact ⟨⟨_, rfl, slM_nil⟩, by (repeat (first | exact Below.refl _ _ | assumption | refine bchain (by assumption) ?_ | refine balloc ?_ _ | apply Below.drew | apply below_drewN | (refine Below.alloc ?_ (by (try simp) <;> omega) _) | (refine Below.setCell ?_ (by (try simp) <;> omega) _)))⟩
theorem spa_code (a : Option Addr) (cap L : Nat) (n e : Int) (C0 : Int) (hc : C0 = 1 ∨ C0 = 3 ∨ C0 = 4) (hS : ∀ W, Calls Tryz.prog 14 #[.agg #[.int .i64 n, .int .u32 e]] W fun r w' => r = .returned (.bool true) ∧ Below W.heap.size W w')
    (hFm : ∀ W, Below w.heap.size w W → Calls Tryz.prog 15 #[.slice a L cap] W fun r w' => r = .returned (.int .i64 C0) ∧ Below W.heap.size W w') :
    Calls Tryz.prog 5 #[.slice a L cap, .agg #[.int .i64 n, .int .u32 e]] w fun r w' => (∃ u, r = .returned (.tuple #[u, .int .i64 C0]) ∧ Fr.SlM w' u []) ∧ Below w.heap.size w w' := by
  have k0 := GxB.made w n e 32
  obtain ⟨_, f0, f1⟩ := id k0
  replace k0 := Lib.hid k0
  replace hS := Lib.hid hS
  replace hFm := Lib.hid hFm
  have hne : (C0 != 0) = true := by simp; omega
  have hne2 : (C0 == 0) = false := by simp; omega
  go_enter Tryz.func5, Tryz.ntmps5
  go_wp2_with fail
  refine (hS.out _).mono ?_
  rintro r1 w1 ⟨rfl, hb1⟩
  have kk1 := Lib.hid (k0.out.below hb1)
  go_wp2_with fail
  refine (hFm.out _ (by (repeat (first | exact Below.refl _ _ | assumption | refine bchain (by assumption) ?_ | refine balloc ?_ _ | apply Below.drew | apply below_drewN | (refine Below.alloc ?_ (by (try simp) <;> omega) _) | (refine Below.setCell ?_ (by (try simp) <;> omega) _))))).mono ?_
  rintro r3 w3 ⟨rfl, hb3⟩
  have hB3 : Below w.heap.size w w3 := by (repeat (first | exact Below.refl _ _ | assumption | refine bchain (by assumption) ?_ | refine balloc ?_ _ | apply Below.drew | apply below_drewN | (refine Below.alloc ?_ (by (try simp) <;> omega) _) | (refine Below.setCell ?_ (by (try simp) <;> omega) _)))
  have kk3 := kk1.out.below hb3
  clear hb1 hb3 kk1
  replace kk3 := Lib.hid kk3
  clear f0 f1
  go_wp2
  refine wp_region_below (by kernel_rfl) (by kernel_rfl) ?_
  iterate 3 (quiet_step (fail))
  iterate 13 go_big_quiet_skip
  iterate 1 (quiet_step (fail))
  refine wpQuiet_nil ?_
  intro w5 hw'
  obtain ⟨⟨wx, hb_w5⟩, rfl⟩ := hw'
  go_wp2
  go_ret2
  exact ⟨⟨_, rfl, slM_nil⟩, by (repeat (first | exact Below.refl _ _ | assumption | refine bchain (by assumption) ?_ | refine balloc ?_ _ | apply Below.drew | apply below_drewN | (refine Below.alloc ?_ (by (try simp) <;> omega) _) | (refine Below.setCell ?_ (by (try simp) <;> omega) _)))⟩
set_option maxHeartbeats 4000000 in
theorem spa_rng (b off cap L : Nat) (K N a0 n e : Nat) (B : Bool) (h0 : 0 < L) (hv0 : VK K N a0) (hn5 : n ≤ 5) (hbl : b < w.heap.size) (g0 : w.cell? ⟨b, off, none⟩ = some (.int .i64 K)) (g1 : w.cell? ⟨b, off + 1, none⟩ = some (.int .i64 N)) (g2 : w.cell? ⟨b, off + 2, none⟩ = some (.int .u32 a0)) (hB0 : B = decide (n + K < N + N)) (hS : ∀ W, Calls Tryz.prog 14 #[.agg #[.int .i64 n, .int .u32 e]] W fun r w' => r = .returned (.bool true) ∧ Below W.heap.size W w')
    (hFm : ∀ W, Below w.heap.size w W → Calls Tryz.prog 15 #[.slice (some ⟨b, off, none⟩) L cap] W fun r w' => r = .returned (.int .i64 0) ∧ Below W.heap.size W w') (g : Nat → Nat → Int × Int)
    (hM : ∀ W, Below w.heap.size w W → B = false → Calls Tryz.prog 17 #[.slice (some ⟨b, off, none⟩) L cap, .agg #[.int .i64 n, .int .u32 e]] W fun r w' => (∃ v, r = .returned v ∧ Fr.SlM w' v (Fr.matL L g)) ∧ Below W.heap.size W w') :
    Calls Tryz.prog 5 #[.slice (some ⟨b, off, none⟩) L cap, .agg #[.int .i64 n, .int .u32 e]] w fun r w' => (∃ u, r = .returned (.tuple #[u, .int .i64 (ptc B)]) ∧ PtQ B w' L g u) ∧ Below w.heap.size w w' := by
  have k0 := GxB.made w n e 32
  obtain ⟨_, f0, f1⟩ := id k0
  replace k0 := Lib.hid k0
  replace hS := Lib.hid hS
  replace hFm := Lib.hid hFm
  replace hM := Lib.hid hM
  obtain ⟨_, hN5, _, hKN⟩ := hv0.nums
  have hU0 := Lib.hid (fun W => sfr4_any W K N a0 (N - K) (by omega) hN5)
  have hd : B = decide ((n : Int) - (K : Int) < 2 * ((N - K : Nat) : Int)) := by
    rw [hB0]
    congr 1
    exact propext ⟨fun c => by omega, fun c => by omega⟩
  have hq2 : (2 : Int) * ((N - K : Nat) : Int) ≤ 10 := by omega
  have hw2 : IntKind.i64.wrap ((2 : Int) * ((N - K : Nat) : Int)) = 2 * ((N - K : Nat) : Int) := IntWalk.i64_in _ ⟨by omega, by omega⟩
  have hw3 : IntKind.i64.wrap ((n : Int) - (K : Int)) = (n : Int) - (K : Int) := IntWalk.i64_in _ ⟨by omega, by omega⟩
  have hK5 : (K : Int) ≤ 5 := by omega
  have hn5' : (n : Int) ≤ 5 := by omega
  obtain ⟨qN, hqN⟩ : ∃ q, N - K = q := ⟨_, rfl⟩
  rw [hqN] at hd hU0 hq2 hw2
  replace hd := Eq.symm hd
  clear hB0 hv0 hqN hN5 hKN
  go_enter Tryz.func5, Tryz.ntmps5
  go_wp2_with fail
  refine (hS.out _).mono ?_
  rintro r1 w1 ⟨rfl, hb1⟩
  have kk1 := Lib.hid (k0.out.below hb1)
  go_wp2_with fail
  refine (hFm.out _ (by (repeat (first | exact Below.refl _ _ | assumption | refine bchain (by assumption) ?_ | refine balloc ?_ _ | apply Below.drew | apply below_drewN | (refine Below.alloc ?_ (by (try simp) <;> omega) _) | (refine Below.setCell ?_ (by (try simp) <;> omega) _))))).mono ?_
  rintro r3 w3 ⟨rfl, hb3⟩
  have hB3 : Below w.heap.size w w3 := by (repeat (first | exact Below.refl _ _ | assumption | refine bchain (by assumption) ?_ | refine balloc ?_ _ | apply Below.drew | apply below_drewN | (refine Below.alloc ?_ (by (try simp) <;> omega) _) | (refine Below.setCell ?_ (by (try simp) <;> omega) _)))
  have kk3 := kk1.out.below hb3
  clear hb1 hb3 kk1
  have hl0 : (0 : Int) < (L : Int) := by omega
  have c0 := old_cell hbl g0 hB3
  have c1 := old_cell hbl g1 hB3
  have c2 := old_cell hbl g2 hB3
  have hb3l : b < w3.heap.size := Nat.lt_of_lt_of_le hbl hB3.size
  have q1 := bw_cell kk3.lt kk3.c0
  have q2 := bw_cell kk3.lt kk3.c1
  have q4 := bw_cell hb3l c0
  have q5 := bw_cell hb3l c1
  have q6 := bw_cell hb3l c2
  replace kk3 := Lib.hid kk3
  clear c0 c1 c2 f0 f1
  go_wp2
  refine wp_region_below (by kernel_rfl) (by kernel_rfl) ?_
  iterate 6 (quiet_step (fail))
  refine wpQuiet_step (fun K hK => ?_)
  go_simp
  apply Exists.intro
  refine ⟨fun p => ?_, hK _ ?_⟩
  · exact bw_of (w := w3) (p := p) (hU0.out p.W)
  clear hK K
  iterate 10 (quiet_step (fail))
  refine wpQuiet_nil ?_
  intro w5 hw'
  obtain ⟨⟨wx, hb_w5⟩, rfl⟩ := hw'
  have hB5 := hB3.trans (hb_w5.mono hB3.size)
  have kk5 := kk3.out.below hb_w5
  obtain ⟨_, f0, f1⟩ := id kk5
  replace kk5 := Lib.hid kk5
  clear q1 q2 q4 q5 q6 kk3 hb_w5
  cases B with
  | true =>
    go_wp2
    go_ret2
    exact ⟨⟨_, rfl, ⟨fun _ => slM_nil, fun c => by cases c⟩⟩, hB5.alloc hB5.size _⟩
  | false =>
    have hM5 := Lib.hid (hM.out w5 hB5 rfl)
    go_wp2_with fail
    refine hM5.out.mono ?_
    rintro r6 w6 ⟨⟨u, rfl, hR⟩, hb6⟩
    replace hR := Lib.hid hR
    go_wp2
    go_ret2
    exact ⟨⟨_, rfl, ⟨fun c => (by cases c), fun _ => hR.out⟩⟩, hB5.trans (hb6.mono hB5.size)⟩
end
end Go.Proofs.YtncbimbbkealmaaGreatDoor
/-
  PAIRAVERAGES: the model's l04Averages. (made by gen_pav.py)
-/
namespace Go.Proofs.YtncbimbbkealmaaGreatDoor
open Go.RowKit Go.Shelf
set_option maxRecDepth 100000
attribute [local go_sem] Oper.semAt_some
theorem Fr.MB.below {b0 : Nat} {w w' : World} {v : Value} {n : Nat} {h : Nat → Nat → Int × Int} (H : Fr.MB b0 w v n h) (hb : Below w.heap.size w w') : Fr.MB b0 w' v n h := by
  obtain ⟨a, cap, R, C, e, h1, h2, hR, hC, hA⟩ := H
  refine ⟨a, cap, R, C, e, h1, h2, hR.below hb, hC, fun hn => ?_⟩
  obtain ⟨A, a0, a1, a2, a3, a4⟩ := hA hn
  exact ⟨A, a0, a1, Nat.lt_of_lt_of_le a2 hb.size, a3, fun i hi => (hb.cell (p := ⟨A, i, none⟩) a2).trans (a4 i hi)⟩
theorem Fr.MO.congr {b0 : Nat} {w : World} {n : Nat} {g h : Nat → Nat → Int × Int} {A cap : Nat} {R C : Nat → Nat} (H : Fr.MO b0 w n h A cap R C) (e : ∀ i j, i < n → j < n → g i j = h i j) : Fr.MO b0 w n g A cap R C :=
  ⟨H.h1, H.h2, fun i hi => (by
    obtain ⟨r1, r2, cur, r3, r4⟩ := H.rb i hi
    exact ⟨r1, r2, cur, r3, fun j hj => by rw [e i j hi hj]; exact r4 j hj⟩), H.hc, H.a0, H.a1, H.ne, H.row⟩
theorem Fr.MO.other {b0 : Nat} {w : World} {n : Nat} {h : Nat → Nat → Int × Int} {A cap : Nat} {R C : Nat → Nat} (H : Fr.MO b0 w n h A cap R C) {p : Addr} (hp : p.block < b0) (v : Value) : Fr.MO b0 (w.setCell p v) n h A cap R C :=
  ⟨H.h1, H.h2, H.rb.same (fun i hi => Below.heap_setCell _ _ _ _ (fun c => by have := (H.rb i hi).1; omega)), H.hc, H.a0, by simpa using H.a1, H.ne, fun i hi => (World.cell?_setCell_other _ _ _ _ (by intro c; have := H.a0; subst c; dsimp only at hp; omega)).trans (H.row i hi)⟩
/-- a load under another name: it is met where it comes -/
def ldM (t : TypeId) (x : Operand) : Op := Op.load t x
attribute [local go_sem] ldM
section
variable (w : World)
set_option maxHeartbeats 16000000 in
theorem sav_any (b off cap : Nat) (gs : List (Int × Int × Int)) (K N n e t : Nat) (h0 : 0 < gs.length) (hl8 : gs.length ≤ 8) (hc : LiesK w (some ⟨b, off, none⟩) gs) (hF : FamN gs K N) (ht : ∀ i, i < gs.length → onL (eAt gs i) (List.range K) = t) (hg : VG n e) (hle : N + N ≤ n + K) :
    Calls Tryz.prog 17 #[.slice (some ⟨b, off, none⟩) gs.length cap, .agg #[.int .i64 n, .int .u32 e]] w fun r w' => (∃ v, r = .returned v ∧ Fr.SlM w' v (Fr.matL gs.length (pG K N n e gs t))) ∧ Below w.heap.size w w' := by
  obtain ⟨hk0, hv0⟩ := hF 0 h0
  obtain ⟨_, hN5, hk3, hKN⟩ := hv0.nums
  have hn : n ≤ 5 := by have := hg.2.1; omega
  have hkn : K ≤ n := by omega
  obtain ⟨b', off', eb, hbl, c0, c1, c2⟩ := hc 0 h0
  injection eb with eb
  injection eb with e1 e2
  subst e1 e2
  rw [hk0, Nat.zero_mul, Nat.add_zero] at c0 c1 c2
  dsimp only at c0 c1 c2
  obtain ⟨D, hDd⟩ : ∃ D, jdA K n N N = D := ⟨_, rfl⟩
  have hjl := jd_low (k := K) (n := n) (n0 := N) (m0 := N) 0 0 0 hn hKN hKN hle
  rw [hDd] at hjl
  have hD0 : 0 < D := hjl.2.1
  have hD1 : D ≤ 320 := hjl.2.2.1
  clear hjl
  have hl60 := lists_l60 n hn K hk3
  have hlp := lists_p n hn K hkn
  have hLs := Lib.hid (fun W => slists_any W n K hn hk3)
  have hZ := Lib.hid (fun W => sempty4_any W gs.length hl8)
  have hOne := Lib.hid (fun W m => Fr.one_any W m)
  have hTy0 := Lib.hid (fun W => sty_any W K N (eAt gs 0) hv0)
  rw [ht 0 h0] at hTy0
  have hrow := Lib.hid (fun x (hx : x ∈ lists n K) => (show okList n K x = true ∧ VK K n (onL e (ordF n x) : Nat) from ⟨lists_ok hn (by omega) hx, VK.mk' hn hk3 hkn (onL_ltP e (ordF_ok hn hk3 (lists_ok hn (by omega) hx)) hn)⟩))
  have hTab := Lib.hid (fun W (hW : Below w.heap.size w W) (y : Nat) (hy : VK K n y) => stabm_any W (some ⟨b, off, none⟩) cap gs K N n y hl8 (hc.below hW) hF hy hle)
  have hStep := Lib.hid (fun (pre : List (List Nat)) (x : List Nat) (S : Nat → Nat → Int × Int) (hpre : pre.length ≤ 60) (hx : tB n K e t x = true) (h : PaSum K n e N t gs D gs.length pre S) => paSum_t hn hKN hle hDd hpre hx h)
  have hFin := Lib.hid (fun (S : Nat → Nat → Int × Int) (h : PaSum K n e N t gs D gs.length (lists n K) S) (a b : Nat) (ha : a < gs.length) (hb : b < gs.length) => paSum_fin hn hk3 hKN hle hDd hD0 (by omega) h ha hb)
  obtain ⟨a0, ha0⟩ : ∃ x, eAt gs 0 = x := ⟨_, rfl⟩
  rw [ha0] at c2 hTy0
  obtain ⟨P, hP⟩ : ∃ P, pG K N n e gs t = P := ⟨_, rfl⟩
  rw [hP] at hFin ⊢
  obtain ⟨L, hL⟩ : ∃ L, gs.length = L := ⟨_, rfl⟩
  rw [hL] at h0 hl8 hZ hTab hStep hFin ⊢
  obtain ⟨Ls, hLsd⟩ : ∃ Ls, lists n K = Ls := ⟨_, rfl⟩
  rw [hLsd] at hLs hrow hFin hl60 hlp
  obtain ⟨NL, hNL⟩ : ∃ NL, Ls.length = NL := ⟨_, rfl⟩
  rw [hNL] at hl60 hlp hFin
  have hfin0 : Ls.take NL = Ls := by rw [← hNL]; exact List.take_length
  replace hNL := Lib.hid hNL
  replace hfin0 := Lib.hid hfin0
  have hvg := Lib.hid hg
  have kg0 := GxB.made w n e 32
  obtain ⟨W1, hW1⟩ : ∃ W1, W1 = w.alloc (.cells #[.int .i64 n, .int .u32 e] 32) := ⟨_, rfl⟩
  rw [← hW1] at kg0
  have hB1 : Below w.heap.size w W1 := by rw [hW1]; (repeat (first | exact Below.refl _ _ | assumption | refine bchain (by assumption) ?_ | refine balloc ?_ _ | apply Below.drew | apply below_drewN | (refine Below.alloc ?_ (by (try simp) <;> omega) _) | (refine Below.setCell ?_ (by (try simp) <;> omega) _)))
  have hz1 : w.heap.size < W1.heap.size := kg0.lt
  obtain ⟨g0, g1, g2⟩ := id kg0
  have hbl1 : b < W1.heap.size := Nat.lt_of_lt_of_le hbl hB1.size
  have p0 := old_cell hbl c0 hB1
  have hl0 : (0 : Int) < (L : Int) := by omega
  replace kg0 := Lib.hid kg0
  replace hW1 := Lib.hid hW1
  clear hP hL hLsd ha0 hk0 hc hF ht hg hDd hv0
  go_enter Tryz.func17, Tryz.ntmps17
  go_wp2
  rw [← hW1.out]
  go_region_held3 (fun A => A.cell? ⟨b, off, none⟩ = some (.int .i64 K) ∧ A.cell? ⟨w.heap.size, 0, none⟩ = some (.int .i64 n))
    (exact ⟨old_cell hbl1 p0 (by (repeat (first | exact Below.refl _ _ | assumption | refine bchain (by assumption) ?_ | refine balloc ?_ _ | apply Below.drew | apply below_drewN | (refine Below.alloc ?_ (by (try simp) <;> omega) _) | (refine Below.setCell ?_ (by (try simp) <;> omega) _)))), old_cell g0 g1 (by (repeat (first | exact Below.refl _ _ | assumption | refine bchain (by assumption) ?_ | refine balloc ?_ _ | apply Below.drew | apply below_drewN | (refine Below.alloc ?_ (by (try simp) <;> omega) _) | (refine Below.setCell ?_ (by (try simp) <;> omega) _))))⟩)
    (first | (go_at_call 34; refine (hLs.out _).mono ?_; rintro r2 w2 ⟨⟨v, rfl, hO⟩, hb2⟩; have hx2 : Below W1.heap.size W1 w2 := (by (repeat (first | exact Below.refl _ _ | assumption | refine bchain (by assumption) ?_ | refine balloc ?_ _ | apply Below.drew | apply below_drewN | (refine Below.alloc ?_ (by (try simp) <;> omega) _) | (refine Below.setCell ?_ (by (try simp) <;> omega) _)))); obtain ⟨la, lc, rfl, hRs⟩ := hO.out.readS; replace hRs := Lib.hid hRs; rw [hNL.out]))
  have hB2 : Below w.heap.size w w2 := hB1.trans (hx2.mono hB1.size)
  have kg2 := Lib.hid (kg0.out.below hx2)
  clear g0 g1 g2 p0 hb2 kg0 hO
  go_wp2_with fail
  refine (hZ.out _).mono ?_
  rintro r3 w3 ⟨⟨ov, rfl, hO⟩, hb3⟩
  obtain ⟨oa, oc, _, _, rfl, _⟩ := id hO
  replace hO := Lib.hid hO
  have hz2 := hB2.size
  go_wp2
  go_loopw [7] (fun i wr => ∃ j : Nat, j ≤ NL ∧ i = .int .i64 j ∧ Hid (∃ S, PaSum K n e N t gs D L (Ls.take j) S ∧ Fr.MB w2.heap.size wr (.slice oa L oc) L S) ∧ Below w2.heap.size w2 wr) (fun i _ => NL - (intOf i).toNat)
  case atStart => exact ⟨0, by omega, rfl, ⟨fun _ _ => (0, 1), by rw [List.take_zero]; exact paSum_nil hD0 (by omega), hO.out⟩, hb3⟩
  case round =>
    obtain ⟨j, hj, rfl, hSx, hb⟩ := hrel
    by_cases hlt : j < NL
    · obtain ⟨S, hSs, hSm⟩ := hSx.out
      have hjn : (j : Int) < (NL : Int) := by omega
      have hjL : j < Ls.length := by rw [hNL.out]; exact hlt
      obtain ⟨g, r, cc, rfl, hg, hcell, hrw⟩ := hRs.out j hjL
      have hmem : Ls[j]?.getD [] ∈ Ls := by rw [List.getElem?_eq_getElem hjL]; exact List.getElem_mem hjL
      have htk : Ls.take (j + 1) = Ls.take j ++ [Ls[j]?.getD []] := by rw [List.take_add_one, List.getElem?_eq_getElem hjL]; rfl
      obtain ⟨x, hx⟩ : ∃ x, Ls[j]?.getD [] = x := ⟨_, rfl⟩
      rw [hx] at hcell hrw hmem htk
      obtain ⟨hok, hVK⟩ := hrow.out x hmem
      have hrw2 := row_below hrw hb
      have hFo := Lib.hid (fun W (hW : Below wr.heap.size wr W) => slabd_any W n e K x _ hvg.out hk3 hok (rowV_sls (row_below hrw2 hW)))
      have hTy := Lib.hid (fun W => sty_any W K n _ hVK)
      have hbw : Below w.heap.size w wr := hB2.trans (hb.mono hz2)
      have hTb := Lib.hid (fun W (hW : Below wr.heap.size wr W) => hTab.out W (hbw.trans (hW.mono hbw.size)) _ hVK)
      have hpre : (Ls.take j).length ≤ 60 := by rw [List.length_take]; omega
      have hStp := Lib.hid (fun (hx : tB n K e t x = true) => hStep.out (Ls.take j) x S hpre hx hSs)
      have hStf := Lib.hid (fun (hx : tB n K e t x = false) => paSum_f hx hSs)
      rw [← htk] at hStp hStf
      have hSv := Lib.hid (fun (a c : Nat) (ha : a < L) (hc : c < L) => hSs.vp hD0 ha hc)
      have hJv := Lib.hid (fun (a c : Nat) => (show Fr.VP (jG K N n (onL e (ordF n x)) gs a c) from jd_vf (onL e (ordF n x)) (eAt gs a) (eAt gs c) hn hKN hKN hle))
      obtain ⟨y, hy⟩ : ∃ y, onL e (ordF n x) = y := ⟨_, rfl⟩
      rw [hy] at hFo hTy hTb hStp hJv
      obtain ⟨u, hu⟩ : ∃ u, onL y (List.range K) = u := ⟨_, rfl⟩
      rw [hu] at hTy
      have htb : tB n K e t x = (u == t) := by unfold tB; rw [hy, hu]
      obtain ⟨bb, hbd⟩ : ∃ bb, (u == t) = bb := ⟨_, rfl⟩
      have hq0 := fun W => eqGrK W K K u t
      rw [show ((K : Int) == (K : Int) && (u : Int) == (t : Int)) = bb by rw [← hbd, Bool.eq_iff_iff]; simp; omega] at hq0
      rw [hbd] at htb
      obtain ⟨l, hl⟩ : ∃ l, x.length = l := ⟨_, rfl⟩
      rw [hl] at hcell hFo
      have c3 := (hb.cell (p := ⟨g, j, none⟩) hg).trans hcell
      have g3 : g < wr.heap.size := Nat.lt_of_lt_of_le hg hb.size
      have kr := Lib.hid (kg2.out.below hb)
      have hblr : b < wr.heap.size := Nat.lt_of_lt_of_le hbl hbw.size
      have f0 := old_cell hbl c0 hbw
      have f1 := old_cell hbl c1 hbw
      have f2 := old_cell hbl c2 hbw
      replace hSm := Lib.hid hSm
      replace htb := Lib.hid htb
      have hbz := hb.size
      clear hok hVK hmem hx hrw hrw2 hcell hy hu hbd hl hjL hSx hSs htk hO
      go_wp2
      refine wp_region_inv (fun f ac W => ∃ t40 t41 t42 t43 t44 t45 t9, ac = { tmps := #[.slice (some ⟨b, off, none⟩) L cap, .agg #[.int .i64 n, .int .u32 e], undef, .pointer (some ⟨w.heap.size, 0, none⟩), .slice none 0 0, .slice (some ⟨g, 0, none⟩) NL lc, .slice oa L oc, .int .i64 j, t9, u9, u10, u11, undef, undef, undef, .slice (some ⟨b, off, none⟩) L cap, .pointer (some ⟨b, off, none⟩), .pointer (some ⟨b, off, none⟩), .int .i64 K, .pointer (some ⟨w.heap.size, 0, none⟩), .int .i64 n, .slice (some ⟨g, 0, none⟩) NL lc, .slice (some ⟨b, off, none⟩) L cap, .int .i64 L, .slice oa L oc, .int .i64 j, .slice (some ⟨g, 0, none⟩) NL lc, .int .i64 NL, .bool true, u29, u30, t40, t41, t42, t43, t44, t45, u37, u38, u39, u40, u41, u42, u43, u44, u45, u46, u47, u48, u49, u50, u51, u52, u53, u54, u55, u56, u57, u58, u59, u60, u61, u62, u63, u64, u65, u66, u67, u68, u69, u70, u71, u72, u73, u74, u75, u76, u77, u78, u79, u80, u81, u82, undef, undef, undef, undef, undef, undef, undef, undef, undef, undef, undef, undef, undef, undef, undef, undef, undef, undef, undef, undef, undef, undef, undef, undef, undef, undef, undef, undef, undef, undef, undef, undef, undef, undef], defers := [] } ∧ CJ wr (.agg #[.int .i64 n, .int .u32 e]) (.slice (some ⟨g, 0, none⟩) NL lc) (.int .i64 j) (.pointer (some ⟨g, j, none⟩)) (.slice (some ⟨r, 0, none⟩) l cc) K n y f t40 t41 t42 t43 t44 t45 t9 W) (by kernel_rfl) (by kernel_rfl) ?start ?step ?last
      case start => exact ⟨_, _, _, _, _, _, _, rfl, (Below.refl _ wr).drew, fun e => (by cases e), fun e => (by cases e), fun e => (by cases e), fun e => (by cases e), fun e => (by cases e), fun e => (by cases e), fun e => (by cases e), fun e => (by cases e)⟩
      case step =>
        intro i o f ac W ho hf hdep hI
        obtain ⟨t40, t41, t42, t43, t44, t45, t9, rfl, hJ⟩ := hI
        have hi : i < 8 := (Array.getElem?_eq_some_iff.1 ho).1
        have hc : i = 0 ∨ i = 1 ∨ i = 2 ∨ i = 3 ∨ i = 4 ∨ i = 5 ∨ i = 6 ∨ i = 7 := by omega
        clear hi
        rcases hc with rfl | rfl | rfl | rfl | rfl | rfl | rfl | rfl
        · obtain rfl := Option.some.inj ho
          obtain ⟨_, z0, z1⟩ := kr.out.below hJ.below
          refine wpOp_step rfl (fun K hK => ?_)
          go_simp
          exact hK _ _ ⟨_, _, _, _, _, _, _, rfl, hJ.p0⟩
        · obtain rfl := Option.some.inj ho
          refine wpOp_step rfl (fun K hK => ?_)
          go_simp
          exact hK _ _ ⟨_, _, _, _, _, _, _, rfl, hJ.p1⟩
        · obtain rfl := Option.some.inj ho
          refine wpOp_step rfl (fun K hK => ?_)
          go_simp
          exact hK _ _ ⟨_, _, _, _, _, _, _, rfl, hJ.p2⟩
        · obtain rfl := Option.some.inj ho
          have d1 : f 1 = true := hdep ⟨1, .data⟩ (by simp) (by decide)
          have d2 : f 2 = true := hdep ⟨2, .data⟩ (by simp) (by decide)
          obtain rfl := hJ.h1 d1
          obtain rfl := hJ.h2 d2
          refine wpOp_step rfl (fun K hK => ?_)
          go_simp
          exact hK _ _ ⟨_, _, _, _, _, _, _, rfl, hJ.p3⟩
        · obtain rfl := Option.some.inj ho
          have d3 : f 3 = true := hdep ⟨3, .data⟩ (by simp) (by decide)
          obtain rfl := hJ.h3 d3
          have c4 := old_cell g3 c3 hJ.below
          refine wpOp_step rfl (fun K hK => ?_)
          go_simp
          exact hK _ _ ⟨_, _, _, _, _, _, _, rfl, hJ.p4⟩
        · obtain rfl := Option.some.inj ho
          have d0 : f 0 = true := hdep ⟨0, .data⟩ (by simp) (by decide)
          have d4 : f 4 = true := hdep ⟨4, .data⟩ (by simp) (by decide)
          obtain rfl := hJ.h0 d0
          obtain rfl := hJ.h4 d4
          refine wpOp_step rfl (fun K hK => ?_)
          go_simp
          go_wp2_with (go_at_call 36; refine (hFo.out _ hJ.below).mono ?_; rintro r3 w3 ⟨rfl, hb3⟩)
          exact ⟨_, _, _, _, _, _, _, rfl, (hJ.world hb3).p5⟩
        · obtain rfl := Option.some.inj ho
          refine wpOp_step rfl (fun K hK => ?_)
          go_simp
          exact hK _ _ ⟨_, _, _, _, _, _, _, rfl, hJ.a6 hf _⟩
        · obtain rfl := Option.some.inj ho
          have d5 : f 5 = true := hdep ⟨5, .data⟩ (by simp) (by decide)
          obtain rfl := hJ.h5 d5
          have d6 : f 6 = true := hdep ⟨6, .data⟩ (by simp) (by decide)
          obtain ⟨B0, rfl, hB0, k0, z9⟩ := hJ.h6 d6
          obtain ⟨zl, z0, z1, z2⟩ := id k0
          have z90 := z9 0
          have z91 := z9 1
          have z92 := z9 2
          refine wpOp_step rfl (fun K hK => ?_)
          go_simp
          exact hK _ _ ⟨_, _, _, _, _, _, _, rfl, hJ.s7 d6 rfl hB0 k0 z9⟩
      case last =>
        intro f ac W hall hIx
        obtain ⟨t40, t41, t42, t43, t44, t45, t9, rfl, hJ⟩ := hIx
        obtain rfl := hJ.h0 (hall 0 (show 0 < 8 by decide))
        obtain rfl := hJ.h1 (hall 1 (show 1 < 8 by decide))
        obtain rfl := hJ.h2 (hall 2 (show 2 < 8 by decide))
        obtain rfl := hJ.h3 (hall 3 (show 3 < 8 by decide))
        obtain rfl := hJ.h4 (hall 4 (show 4 < 8 by decide))
        obtain rfl := hJ.h5 (hall 5 (show 5 < 8 by decide))
        obtain ⟨B, rfl, hB0, kB, _⟩ := hJ.h6 (hall 6 (show 6 < 8 by decide))
        rw [if_pos (hall 7 (show 7 < 8 by decide)), if_pos (hall 7 (show 7 < 8 by decide)), if_pos (hall 7 (show 7 < 8 by decide))] at kB
        have hbC := hJ.below
        clear hJ hall
        have hb2 : Below w2.heap.size w2 W := hb.trans (hbC.mono hbz)
        have hbl2 : b < W.heap.size := Nat.lt_of_lt_of_le hblr hbC.size
        have d0 := old_cell hblr f0 hbC
        have d1 := old_cell hblr f1 hbC
        have d2 := old_cell hblr f2 hbC
        have q0 := bw_cell kB.lt kB.c0
        have q1 := bw_cell kB.lt kB.c1
        have q2 := bw_cell kB.lt kB.c2
        have q3 := bw_cell hbl2 d0
        have q4 := bw_cell hbl2 d1
        have q5 := bw_cell hbl2 d2
        replace kB := Lib.hid kB
        clear hFo d0 d1 d2
        go_wp2
        refine wp_region_below (by kernel_rfl) (by kernel_rfl) ?_
        iterate 1 (quiet_step (fail))
        refine wpQuiet_step (fun K hK => ?_)
        go_simp
        apply Exists.intro
        refine ⟨fun p => ?_, hK _ ?_⟩
        · exact bw_of (w := W) (p := p) (hTy.out p.W)
        clear hK K
        iterate 3 (quiet_step (fail))
        refine wpQuiet_step (fun K hK => ?_)
        go_simp
        apply Exists.intro
        refine ⟨fun p => ?_, hK _ ?_⟩
        · exact bw_of (w := W) (p := p) (hTy0.out p.W)
        clear hK K
        iterate 1 (quiet_step (fail))
        refine wpQuiet_nil ?_
        intro W7 hw'
        obtain ⟨⟨wx, hb_W7⟩, rfl⟩ := hw'
        clear q0 q1 q2 q3 q4 q5
        have hb7 : Below w2.heap.size w2 W7 := hb2.trans (hb_W7.mono hb2.size)
        have hbr7 : Below wr.heap.size wr W7 := hbC.trans (hb_W7.mono hbC.size)
        have kBD := kB.out.below hb_W7
        have hS7 := Lib.hid (hSm.out.below hbr7)
        clear kB hb_W7 hb2 hbC hSm
        cases bb
        · have hst := hStf.out htb.out
          go_wp2
          go_roundw
          case rel => exact ⟨j + 1, by omega, by go_num, ⟨S, hst, hS7.out⟩, hb7⟩
          case measure => simp [intOf]; omega
        · obtain ⟨Tn, hTn, hadd⟩ := hStp.out htb.out
          obtain ⟨z0, z1, z2, z3⟩ := kBD
          have hTb7 := Lib.hid (hTb.out W7 hbr7)
          clear hStp hStf htb hTy hTy0 hTb f0 f1 f2
          go_wp2_with fail
          refine hTb7.out.mono ?_
          rintro r8 w8 ⟨⟨tv, rfl, hTM⟩, hb8⟩
          have hb28 : Below w2.heap.size w2 w8 := hb7.trans (hb8.mono hb7.size)
          obtain ⟨TA, tc, TR, TC, rfl, hTO⟩ := hTM.mo h0
          obtain ⟨OA, oc2, OR, OC, eo, hMO⟩ := hS7.out.mo h0
          injection eo with eo1 _ eo2
          subst eo1 eo2
          have hRlt := Lib.hid (fun i (hi : i < L) => hMO.rb.lt hi)
          have hAlt := hMO.a1
          have hMO8 := Lib.hid ((hMO.below hb8).congr (g := Fr.upd S Tn 0 0) (fun a c _ _ => Fr.upd_zero S Tn a c))
          obtain ⟨J, hJ⟩ : ∃ J, jG K N n y gs = J := ⟨_, rfl⟩
          rw [hJ] at hTO hadd hJv
          replace hTO := Lib.hid hTO
          clear hTb7 hS7 z0 z1 z2 z3 hTM hb7 hMO hJ
          replace hTn := Lib.hid hTn
          replace hadd := Lib.hid hadd
          go_wp2
          go_loopw [10, 11] (fun i _ wq => ∃ a : Nat, a ≤ L ∧ i = .int .i64 a ∧ Hid (Fr.MO w2.heap.size wq L (Fr.upd S Tn a 0) OA oc OR OC ∧ Fr.MO W7.heap.size wq L J TA tc TR TC) ∧ Below w2.heap.size w2 wq) (fun i _ _ => L - (intOf i).toNat)
          case atStart => exact ⟨0, by omega, rfl, ⟨hMO8.out, hTO.out⟩, hb28⟩
          case round =>
            clear hMO8 hTO hb28
            obtain ⟨a, ha, rfl, hMM, hbq⟩ := hrel
            by_cases hal : a < L
            · have hail : (a : Int) < (L : Int) := by omega
              go_wp2
              go_loopw [11] (fun i wq => ∃ c : Nat, c ≤ L ∧ i = .int .i64 c ∧ Hid (Fr.MO w2.heap.size wq L (Fr.upd S Tn a c) OA oc OR OC ∧ Fr.MO W7.heap.size wq L J TA tc TR TC) ∧ Below w2.heap.size w2 wq) (fun i _ => L - (intOf i).toNat)
              case atStart => exact ⟨0, by omega, rfl, hMM, hbq⟩
              case round =>
                clear hMM hbq
                obtain ⟨c, hcl, rfl, hMM, hbq⟩ := hrel
                by_cases hcL : c < L
                · have hcil : (c : Int) < (L : Int) := by omega
                  obtain ⟨hMo, hTo⟩ := hMM.out
                  have m0 := hMo.row a hal
                  obtain ⟨m1, m2, df⟩ := hMo.rb.cell hal hcL
                  rw [Fr.upd_at] at m1 m2
                  have k0 := hTo.row a hal
                  obtain ⟨k1, k2, _⟩ := hTo.rb.cell hal hcL
                  obtain ⟨hC1, hC2⟩ := hMo.hc a hal
                  obtain ⟨hC3, hC4⟩ := hTo.hc a hal
                  have hPl := Lib.hid (fun W => Fr.splus_any W (S a c) (J a c) (hSv.out a c hal hcL) (hJv.out a c))
                  rw [hadd.out a c hal hcL] at hPl
                  obtain ⟨x1, x2, hT12⟩ : ∃ x y, Tn a c = (x, y) := ⟨_, _, rfl⟩
                  obtain ⟨s1, s2, hS12⟩ : ∃ x y, S a c = (x, y) := ⟨_, _, rfl⟩
                  obtain ⟨j1, j2, hJ12⟩ : ∃ x y, J a c = (x, y) := ⟨_, _, rfl⟩
                  simp only [Fr.fv, Fr.lv] at hPl
                  rw [hT12, hS12, hJ12] at hPl
                  rw [hS12] at m1 m2
                  rw [hJ12] at k1 k2
                  dsimp only at hPl m1 m2 k1 k2
                  have hRa := hRlt.out a hal
                  have hRw := hMo.rb.lt hal
                  have hTw' := hTo.rb.lt hal
                  have hAw := hMo.a1
                  have hTAw := hTo.a1
                  have hRT : W7.heap.size ≤ TR a := (hTo.rb a hal).1
                  have hTA7 : W7.heap.size ≤ TA := hTo.a0
                  have hOA : OA ≠ OR a := hMo.ne a hal
                  have hR2 : w2.heap.size ≤ OR a := (hMo.rb a hal).1
                  have hput := Lib.hid (fun W (hW : Below wr.heap.size wr W) => (show (Fr.MO w2.heap.size ((W.setCell ⟨OR a, c * 2, none⟩ (.int .i64 x1)).setCell ⟨OR a, c * 2 + 1, none⟩ (.int .i64 x2)) L (Fr.upd S Tn a (c + 1)) OA oc OR OC ∧ Fr.MO W7.heap.size ((W.setCell ⟨OR a, c * 2, none⟩ (.int .i64 x1)).setCell ⟨OR a, c * 2 + 1, none⟩ (.int .i64 x2)) L J TA tc TR TC) ∧ Below w2.heap.size w2 ((W.setCell ⟨OR a, c * 2, none⟩ (.int .i64 x1)).setCell ⟨OR a, c * 2 + 1, none⟩ (.int .i64 x2)) from
                    ⟨⟨((hMo.below hW).set hal hcL x1 x2).congr (fun p q _ _ => by rw [Fr.upd_next, hT12]), ((hTo.below hW).other (p := ⟨OR a, c * 2, none⟩) hRa _).other (p := ⟨OR a, c * 2 + 1, none⟩) hRa _⟩, (hMo.below hW).grown (hbq.trans (hW.mono hbq.size)) hal _ _⟩))
                  have df0 := df (c * 2)
                  have df1 := df (c * 2 + 1)
                  obtain ⟨Rk, hRk⟩ : ∃ r, OR a = r := ⟨_, rfl⟩
                  obtain ⟨Ck, hCk⟩ : ∃ r, OC a = r := ⟨_, rfl⟩
                  obtain ⟨Tk, hTk⟩ : ∃ r, TR a = r := ⟨_, rfl⟩
                  obtain ⟨Dk, hDk⟩ : ∃ r, TC a = r := ⟨_, rfl⟩
                  rw [hRk] at m0 m1 m2 df0 df1 hRa hRw hOA hR2 hput
                  rw [hCk] at m0 hC1 hC2
                  rw [hTk] at k0 k1 k2 hTw' hRT
                  rw [hDk] at k0 hC3 hC4
                  have hP1 := Lib.hid (fun W (hW : Below wr.heap.size wr W) => (show W.cell? ⟨OA, a, none⟩ = some (.slice (some ⟨Rk, 0, none⟩) L Ck) ∧ W.cell? ⟨TA, a, none⟩ = some (.slice (some ⟨Tk, 0, none⟩) L Dk) ∧ W.cell? ⟨Tk, c * 2, none⟩ = some (.int .i64 j1) ∧ W.cell? ⟨Tk, c * 2 + 1, none⟩ = some (.int .i64 j2) from ⟨old_cell hAw m0 hW, old_cell hTAw k0 hW, old_cell hTw' k1 hW, old_cell hTw' k2 hW⟩))
                  have ot : ∀ (W : World) (B o : Nat) (v : Value), B ≠ Rk → W.cell? ⟨B, o, none⟩ = some v → ((W.setCell ⟨Rk, c * 2, none⟩ (.int .i64 x1)).setCell ⟨Rk, c * 2 + 1, none⟩ (.int .i64 x2)).cell? ⟨B, o, none⟩ = some v := fun W B o v hne hv =>
                    (World.cell?_setCell_other _ _ _ _ (by intro c; injection c with c; exact hne c.symm)).trans ((World.cell?_setCell_other _ _ _ _ (by intro c; injection c with c; exact hne c.symm)).trans hv)
                  have hP2 := Lib.hid (fun W (hW : Below wr.heap.size wr W) S' (hS' : S' = (W.setCell ⟨Rk, c * 2, none⟩ (.int .i64 x1)).setCell ⟨Rk, c * 2 + 1, none⟩ (.int .i64 x2)) => (show S'.cell? ⟨OA, a, none⟩ = some (.slice (some ⟨Rk, 0, none⟩) L Ck) ∧ S'.cell? ⟨TA, a, none⟩ = some (.slice (some ⟨Tk, 0, none⟩) L Dk) ∧ S'.cell? ⟨Tk, c * 2, none⟩ = some (.int .i64 j1) ∧ S'.cell? ⟨Tk, c * 2 + 1, none⟩ = some (.int .i64 j2) from by
                    obtain ⟨q1, q2, q3, q4⟩ := hP1.out W hW
                    subst hS'
                    exact ⟨ot _ _ _ _ hOA q1, ot _ _ _ _ (by omega) q2, ot _ _ _ _ (by omega) q3, ot _ _ _ _ (by omega) q4⟩))
                  replace ot := Lib.hid ot
                  clear hMo hTo hMM df hT12 hS12 hJ12 hRk hCk hTk hDk
                  go_wp2
                  rw [show Op.load 51 (Operand.tmp 70) = ldM 51 (Operand.tmp 70) from rfl]
                  go_region_held3 (fun A => A.cell? ⟨OA, a, none⟩ = some (.slice (some ⟨Rk, 0, none⟩) L Ck) ∧ A.cell? ⟨TA, a, none⟩ = some (.slice (some ⟨Tk, 0, none⟩) L Dk) ∧ A.cell? ⟨Tk, c * 2, none⟩ = some (.int .i64 j1) ∧ A.cell? ⟨Tk, c * 2 + 1, none⟩ = some (.int .i64 j2))
                    (first | exact hP2.out _ (by (repeat (first | exact Below.refl _ _ | assumption | refine bchain (by assumption) ?_ | refine balloc ?_ _ | apply Below.drew | apply below_drewN | (refine Below.alloc ?_ (by (try simp) <;> omega) _) | (refine Below.setCell ?_ (by (try simp) <;> omega) _)))) _ rfl | exact hP1.out _ (by (repeat (first | exact Below.refl _ _ | assumption | refine bchain (by assumption) ?_ | refine balloc ?_ _ | apply Below.drew | apply below_drewN | (refine Below.alloc ?_ (by (try simp) <;> omega) _) | (refine Below.setCell ?_ (by (try simp) <;> omega) _)))))
                    (first
                      | (go_at_call 38; refine (hPl.out _).mono ?_; rintro r9 w9 ⟨rfl, hb9⟩; have hx9 : Below wr.heap.size wr w9 := (by (repeat (first | exact Below.refl _ _ | assumption | refine bchain (by assumption) ?_ | refine balloc ?_ _ | apply Below.drew | apply below_drewN | (refine Below.alloc ?_ (by (try simp) <;> omega) _) | (refine Below.setCell ?_ (by (try simp) <;> omega) _)))); have ke0 := old_cell hRw m1 hx9; have ke1 := old_cell hRw m2 hx9; have kd0 := (hx9.frozen (p := ⟨Rk, c * 2, none⟩) hRw).trans df0; have kd1 := (hx9.frozen (p := ⟨Rk, c * 2 + 1, none⟩) hRw).trans df1))
                  all_goals
                    have hfin := hput.out w9 hx9
                    replace hfin := Lib.hid hfin
                    go_wp2
                    go_roundw
                    case rel => exact ⟨c + 1, by omega, by go_num, hfin.out.1, hfin.out.2⟩
                    case measure => simp [intOf]; omega
                · have hcc : L = c := by omega
                  subst hcc
                  have hdd := decide_eq_false (show ¬ ((L : Int) < (L : Int)) by omega)
                  go_wp2
                  go_roundw
                  case rel => exact ⟨a + 1, by omega, by go_num, ⟨hMM.out.1.congr (fun p q _ hq => (Fr.upd_row S Tn a p hq).symm), hMM.out.2⟩, hbq⟩
                  case measure => simp [intOf]; omega
            · have hcc : L = a := by omega
              subst hcc
              have hdd := decide_eq_false (show ¬ ((L : Int) < (L : Int)) by omega)
              go_wp2
              go_roundw
              case rel => exact ⟨j + 1, by omega, by go_num, ⟨Tn, hTn.out, (hMM.out.1.congr (fun p q hp _ => (Fr.upd_all S Tn q hp).symm)).mb⟩, hbq⟩
              case measure => simp [intOf]; omega
    · have hcc9 : NL = j := by omega
      subst hcc9
      have hdd := decide_eq_false (show ¬ ((NL : Int) < (NL : Int)) by omega)
      obtain ⟨S, hSs, hSm⟩ := hSx.out
      rw [hfin0.out] at hSs
      have hSv := Lib.hid (fun (a c : Nat) (ha : a < L) (hc : c < L) => hSs.vp hD0 ha hc)
      have hdiv := Lib.hid (fun (a c : Nat) (ha : a < L) (hc : c < L) => hFin.out S hSs a c ha hc)
      have hNv : Fr.VP ((NL : Int), 1) := ⟨by show (1 : Int) ≤ 1; decide, by show (1 : Int) ≤ 1000000000; decide, by show -1000000000 ≤ (NL : Int); omega, by show (NL : Int) ≤ 1000000000; omega, by show Int.gcd (NL : Int) 1 = 1; simp⟩
      have hN0 : (NL : Int) ≠ 0 := by omega
      obtain ⟨OA, oc2, OR, OC, eo, hMO⟩ := hSm.mo h0
      injection eo with eo1 _ eo2
      subst eo1 eo2
      have hRlt := Lib.hid (fun i (hi : i < L) => hMO.rb.lt hi)
      have hOneN := Lib.hid (fun W => hOne.out W (NL : Int))
      have hM0 := Lib.hid (hMO.congr (g := Fr.upd S P 0 0) (fun a c _ _ => Fr.upd_zero S P a c))
      have hwz : wr.heap.size ≤ wr.heap.size := Nat.le_refl _
      clear hSx hSs hSm hMO hFin hStep hTab hrow hTy0 hLs hZ hOne
      go_wp2_with fail
      refine (hOneN.out _).mono ?_
      rintro r4 w4 ⟨rfl, hb4⟩
      have hbx := Lib.hid (FqB.made w4 NL 1 51)
      have hb24 : Below w2.heap.size w2 w4 := hb.trans (hb4.mono hb.size)
      have s4 := hb4.size
      have hM4 := Lib.hid ((hM0.out.below hb4).below (balloc (Below.refl w4.heap.size w4) (.cells #[.int .i64 NL, .int .i64 1] 51)))
      have hb25 : Below w2.heap.size w2 (w4.alloc (.cells #[.int .i64 NL, .int .i64 1] 51)) := balloc hb24 _
      clear hM0 hb hb4 hb24
      go_wp2
      go_loopw [13, 14] (fun i _ wq => ∃ a : Nat, a ≤ L ∧ i = .int .i64 a ∧ Hid (Fr.MO w2.heap.size wq L (Fr.upd S P a 0) OA oc OR OC ∧ FqB wq w4.heap.size NL 1) ∧ Below w2.heap.size w2 wq) (fun i _ _ => L - (intOf i).toNat)
      case atStart => exact ⟨0, by omega, rfl, ⟨hM4.out, hbx.out⟩, hb25⟩
      case round =>
        clear hM4 hbx hb25
        obtain ⟨a, ha, rfl, hMM, hbq⟩ := hrel
        by_cases hal : a < L
        · have hail : (a : Int) < (L : Int) := by omega
          go_wp2
          go_loopw [14] (fun i wq => ∃ c : Nat, c ≤ L ∧ i = .int .i64 c ∧ Hid (Fr.MO w2.heap.size wq L (Fr.upd S P a c) OA oc OR OC ∧ FqB wq w4.heap.size NL 1) ∧ Below w2.heap.size w2 wq) (fun i _ => L - (intOf i).toNat)
          case atStart => exact ⟨0, by omega, rfl, hMM, hbq⟩
          case round =>
            clear hMM hbq
            obtain ⟨c, hcl, rfl, hMM, hbq⟩ := hrel
            by_cases hcL : c < L
            · have hcil : (c : Int) < (L : Int) := by omega
              obtain ⟨hMo, hTo⟩ := hMM.out
              have m0 := hMo.row a hal
              obtain ⟨m1, m2, df⟩ := hMo.rb.cell hal hcL
              rw [Fr.upd_at] at m1 m2
              obtain ⟨hBw, k1, k2, _⟩ := id hTo
              obtain ⟨hC1, hC2⟩ := hMo.hc a hal
              have hPl := Lib.hid (fun W => Fr.sover_any W (S a c) ((NL : Int), 1) (hSv.out a c hal hcL) hNv hN0)
              rw [hdiv.out a c hal hcL] at hPl
              obtain ⟨x1, x2, hT12⟩ : ∃ x y, P a c = (x, y) := ⟨_, _, rfl⟩
              obtain ⟨s1, s2, hS12⟩ : ∃ x y, S a c = (x, y) := ⟨_, _, rfl⟩
              simp only [Fr.fv, Fr.lv] at hPl
              rw [hT12, hS12] at hPl
              rw [hS12] at m1 m2
              dsimp only at hPl m1 m2
              have hRa := hRlt.out a hal
              have hRw := hMo.rb.lt hal
              have hAw := hMo.a1
              have hOA : OA ≠ OR a := hMo.ne a hal
              have hR4 : w4.heap.size ≠ OR a := by omega
              have hput := Lib.hid (fun W (hW : Below wr.heap.size wr W) => (show (Fr.MO w2.heap.size ((W.setCell ⟨OR a, c * 2, none⟩ (.int .i64 x1)).setCell ⟨OR a, c * 2 + 1, none⟩ (.int .i64 x2)) L (Fr.upd S P a (c + 1)) OA oc OR OC ∧ FqB ((W.setCell ⟨OR a, c * 2, none⟩ (.int .i64 x1)).setCell ⟨OR a, c * 2 + 1, none⟩ (.int .i64 x2)) w4.heap.size NL 1) ∧ Below w2.heap.size w2 ((W.setCell ⟨OR a, c * 2, none⟩ (.int .i64 x1)).setCell ⟨OR a, c * 2 + 1, none⟩ (.int .i64 x2)) from
                ⟨⟨((hMo.below hW).set hal hcL x1 x2).congr (fun p q _ _ => by rw [Fr.upd_next, hT12]), (hTo.below hW).blk (by simp) ((Below.heap_setCell _ _ _ _ (by exact hR4)).trans (Below.heap_setCell _ _ _ _ (by exact hR4)))⟩, (hMo.below hW).grown (hbq.trans (hW.mono hbq.size)) hal _ _⟩))
              have df0 := df (c * 2)
              have df1 := df (c * 2 + 1)
              obtain ⟨Rk, hRk⟩ : ∃ r, OR a = r := ⟨_, rfl⟩
              obtain ⟨Ck, hCk⟩ : ∃ r, OC a = r := ⟨_, rfl⟩
              rw [hRk] at m0 m1 m2 df0 df1 hRa hRw hOA hR4 hput
              rw [hCk] at m0 hC1 hC2
              have hP1 := Lib.hid (fun W (hW : Below wr.heap.size wr W) => (show W.cell? ⟨OA, a, none⟩ = some (.slice (some ⟨Rk, 0, none⟩) L Ck) ∧ W.cell? ⟨w4.heap.size, 0, none⟩ = some (.int .i64 NL) ∧ W.cell? ⟨w4.heap.size, 1, none⟩ = some (.int .i64 1) from ⟨old_cell hAw m0 hW, old_cell hBw k1 hW, old_cell hBw k2 hW⟩))
              have ot : ∀ (W : World) (B o : Nat) (v : Value), B ≠ Rk → W.cell? ⟨B, o, none⟩ = some v → ((W.setCell ⟨Rk, c * 2, none⟩ (.int .i64 x1)).setCell ⟨Rk, c * 2 + 1, none⟩ (.int .i64 x2)).cell? ⟨B, o, none⟩ = some v := fun W B o v hne hv =>
                (World.cell?_setCell_other _ _ _ _ (by intro c; injection c with c; exact hne c.symm)).trans ((World.cell?_setCell_other _ _ _ _ (by intro c; injection c with c; exact hne c.symm)).trans hv)
              have hP2 := Lib.hid (fun W (hW : Below wr.heap.size wr W) S' (hS' : S' = (W.setCell ⟨Rk, c * 2, none⟩ (.int .i64 x1)).setCell ⟨Rk, c * 2 + 1, none⟩ (.int .i64 x2)) => (show S'.cell? ⟨OA, a, none⟩ = some (.slice (some ⟨Rk, 0, none⟩) L Ck) ∧ S'.cell? ⟨w4.heap.size, 0, none⟩ = some (.int .i64 NL) ∧ S'.cell? ⟨w4.heap.size, 1, none⟩ = some (.int .i64 1) from by
                obtain ⟨q1, q2, q3⟩ := hP1.out W hW
                subst hS'
                exact ⟨ot _ _ _ _ hOA q1, ot _ _ _ _ hR4 q2, ot _ _ _ _ hR4 q3⟩))
              replace ot := Lib.hid ot
              clear hMo hTo hMM df hT12 hS12 hRk hCk
              go_wp2
              rw [show Op.load 51 (Operand.tmp 109) = ldM 51 (Operand.tmp 109) from rfl]
              go_region_held3 (fun A => A.cell? ⟨OA, a, none⟩ = some (.slice (some ⟨Rk, 0, none⟩) L Ck) ∧ A.cell? ⟨w4.heap.size, 0, none⟩ = some (.int .i64 NL) ∧ A.cell? ⟨w4.heap.size, 1, none⟩ = some (.int .i64 1))
                (first | exact hP2.out _ (by (repeat (first | exact Below.refl _ _ | assumption | refine bchain (by assumption) ?_ | refine balloc ?_ _ | apply Below.drew | apply below_drewN | (refine Below.alloc ?_ (by (try simp) <;> omega) _) | (refine Below.setCell ?_ (by (try simp) <;> omega) _)))) _ rfl | exact hP1.out _ (by (repeat (first | exact Below.refl _ _ | assumption | refine bchain (by assumption) ?_ | refine balloc ?_ _ | apply Below.drew | apply below_drewN | (refine Below.alloc ?_ (by (try simp) <;> omega) _) | (refine Below.setCell ?_ (by (try simp) <;> omega) _)))))
                (first
                  | (go_at_call 40; refine (hPl.out _).mono ?_; rintro r9 w9 ⟨rfl, hb9⟩; have hx9 : Below wr.heap.size wr w9 := (by (repeat (first | exact Below.refl _ _ | assumption | refine bchain (by assumption) ?_ | refine balloc ?_ _ | apply Below.drew | apply below_drewN | (refine Below.alloc ?_ (by (try simp) <;> omega) _) | (refine Below.setCell ?_ (by (try simp) <;> omega) _)))); have ke0 := old_cell hRw m1 hx9; have ke1 := old_cell hRw m2 hx9; have kd0 := (hx9.frozen (p := ⟨Rk, c * 2, none⟩) hRw).trans df0; have kd1 := (hx9.frozen (p := ⟨Rk, c * 2 + 1, none⟩) hRw).trans df1))
              all_goals
                have hfin := hput.out w9 hx9
                replace hfin := Lib.hid hfin
                go_wp2
                go_roundw
                case rel => exact ⟨c + 1, by omega, by go_num, hfin.out.1, hfin.out.2⟩
                case measure => simp [intOf]; omega
            · have hcc : L = c := by omega
              subst hcc
              have hdd := decide_eq_false (show ¬ ((L : Int) < (L : Int)) by omega)
              go_wp2
              go_roundw
              case rel => exact ⟨a + 1, by omega, by go_num, ⟨hMM.out.1.congr (fun p q _ hq => (Fr.upd_row S P a p hq).symm), hMM.out.2⟩, hbq⟩
              case measure => simp [intOf]; omega
        · have hcc : L = a := by omega
          subst hcc
          have hdd := decide_eq_false (show ¬ ((L : Int) < (L : Int)) by omega)
          go_wp2
          go_ret
          exact ⟨⟨_, rfl, ((hMM.out.1.congr (fun p q hp _ => (Fr.upd_all S P q hp).symm)).mb).slm⟩, hB2.trans (hbq.mono hz2)⟩
end
end Go.Proofs.YtncbimbbkealmaaGreatDoor
/-
  PAIRAVERAGES: both sides.
-/
namespace Go.Proofs.YtncbimbbkealmaaGreatDoor
open Go.RowKit
set_option maxRecDepth 100000
theorem fam_type {gs : List (Int × Int × Int)} {K N : Nat} (h : FamK gs) (hN : FamN gs K N) : ∃ t : Nat, ∀ i, i < gs.length → onL (eAt gs i) (List.range K) = t := by
  obtain ⟨_, _, _, hT, _⟩ := h
  refine ⟨onL (eAt gs 0) (List.range K), fun i hi => ?_⟩
  have t := congrArg Prod.snd (hT i hi)
  unfold tyK at t
  rw [(hN i hi).1, (hN 0 (by omega)).1] at t
  simpa using t
theorem pa_both (gs : List (Int × Int × Int)) (n e : Int) (he : e < 4294967296) (he0 : 0 ≤ e) (hbd : BdK gs) (hm : gs.length ≤ 1048576) :
    ∃ (L : Nat) (g : Nat → Nat → Int × Int) (c : Int), L ≤ 8 ∧
    (∀ W v, SlK W v gs → Calls Tryz.prog 5 #[v, .agg #[.int .i64 n, .int .u32 e]] W fun r w' => (∃ u, r = .returned (.tuple #[u, .int .i64 c]) ∧ Fr.SlM w' u (Fr.matL L g)) ∧ Below W.heap.size W w') ∧
    (∀ W v, SlK W v gs → TabZ W → Calls Tryz.prog 8 #[v, .agg #[.int .i64 n, .int .u32 e]] W fun r w' => (∃ u, r = .returned (.tuple #[u, .int .i64 c]) ∧ Fr.MR W.heap.size w' u L (Fr.gv L g)) ∧ Below W.heap.size W w') := by
  obtain ⟨BA, hBA, hA⟩ := iav_all gs hm hbd
  by_cases hv : VG n e
  · by_cases hV : AllK gs
    · obtain rfl : BA = true := hBA.2 hV
      obtain ⟨c, p, hi⟩ := icpc_any gs hm hV
      obtain ⟨c', q, hs⟩ := sfamc_any gs hm hV
      obtain rfl := code_one p q
      obtain ⟨q1, q2, q3⟩ := q
      by_cases hF : FamK gs
      · obtain rfl := q1.2 hF
        obtain ⟨K, N, hN⟩ := fam_nat hF
        have h0 : 0 < gs.length := hF.2.2.1
        have h8 : gs.length ≤ 8 := hF.2.1
        have b2 := hv.1
        have b3 := hv.2.2.1
        have hn5 : n ≤ 5 := by have := hv.2.1; omega
        obtain ⟨n, rfl⟩ : ∃ x : Nat, n = (x : Int) := ⟨n.toNat, by omega⟩
        obtain ⟨e, rfl⟩ : ∃ x : Nat, e = (x : Int) := ⟨e.toNat, by omega⟩
        obtain ⟨hk0, hv0⟩ := hN 0 h0
        obtain ⟨t, ht⟩ := fam_type hF hN
        have first : ∀ {W : World} {a : Option Addr}, LiesK W a gs → ∃ b off, a = some ⟨b, off, none⟩ ∧ b < W.heap.size ∧ W.cell? ⟨b, off, none⟩ = some (.int .i64 K) ∧ W.cell? ⟨b, off + 1, none⟩ = some (.int .i64 N) ∧ W.cell? ⟨b, off + 2, none⟩ = some (.int .u32 (eAt gs 0 : Nat)) := fun hl => by
          obtain ⟨b, off, e1, e2, e3⟩ := hl 0 h0
          rw [hk0] at e3
          unfold KCell at e3
          rw [Nat.zero_mul, Nat.add_zero] at e3
          exact ⟨b, off, e1, e2, e3⟩
        by_cases hr : n + K < N + N
        · refine ⟨0, fun _ _ => (0, 0), ptc true, by omega, fun W v hS => ?_, fun W v hS hT => ?_⟩
          · obtain ⟨a, cap, rfl, hl⟩ := hS.lies
            obtain ⟨b, off, rfl, hbl, g0, g1, g2⟩ := first hl
            refine (spa_rng W b off cap gs.length K N (eAt gs 0) n e true h0 hv0 (by omega) hbl g0 g1 g2 (by simp [hr]) (fun W => ok_t W n e hv) (fun W' hb => hs W' _ cap (hl.below hb)) (fun _ _ => (0, 0)) (fun W hb c => by cases c)).mono ?_
            rintro r w' ⟨⟨u, rfl, hQ⟩, hb⟩
            exact ⟨⟨u, rfl, hQ.1 rfl⟩, hb⟩
          · obtain ⟨a, cap, rfl, hl⟩ := hS.lies
            obtain ⟨b, off, rfl, hbl, g0, g1, g2⟩ := first hl
            refine (ipa_rng W b off cap gs.length K N (eAt gs 0) n e true h0 hv0 (by omega) hbl g0 g1 g2 (by simp [hr]) (fun W' hb => hA W' _ cap (hl.below hb)) (fun W => valid_t W n e hv) (fun W' hb => hi W' _ cap (hl.below hb)) (fun _ _ => (0, 0)) (fun W hb _ c => by cases c)).mono ?_
            rintro r w' ⟨⟨u, rfl, hP⟩, hb⟩
            obtain rfl := hP.1 rfl
            exact ⟨⟨_, rfl, mr_nil⟩, hb⟩
        · refine ⟨gs.length, pG K N n e gs t, ptc false, h8, fun W v hS => ?_, fun W v hS hT => ?_⟩
          · obtain ⟨a, cap, rfl, hl⟩ := hS.lies
            obtain ⟨b, off, rfl, hbl, g0, g1, g2⟩ := first hl
            refine (spa_rng W b off cap gs.length K N (eAt gs 0) n e false h0 hv0 (by omega) hbl g0 g1 g2 (by simp; omega) (fun W => ok_t W n e hv) (fun W' hb => hs W' _ cap (hl.below hb)) (pG K N n e gs t) (fun W' hb _ => sav_any W' b off cap gs K N n e t h0 h8 (hl.below hb) hN ht hv (by omega))).mono ?_
            rintro r w' ⟨⟨u, rfl, hQ⟩, hb⟩
            exact ⟨⟨u, rfl, hQ.2 rfl⟩, hb⟩
          · obtain ⟨a, cap, rfl, hl⟩ := hS.lies
            obtain ⟨b, off, rfl, hbl, g0, g1, g2⟩ := first hl
            refine (ipa_rng W b off cap gs.length K N (eAt gs 0) n e false h0 hv0 (by omega) hbl g0 g1 g2 (by simp; omega) (fun W' hb => hA W' _ cap (hl.below hb)) (fun W => valid_t W n e hv) (fun W' hb => hi W' _ cap (hl.below hb)) (pG K N n e gs t) (fun W' hb hP _ => ?_)).mono ?_
            · refine (Fr.imat_ok W' 24 #[.pointer (some ⟨W.heap.size, 0, none⟩), .pointer (some ⟨W.heap.size + 1, 0, none⟩)] (fun _ _ => by kernel_rfl) gs.length h8 (pG K N n e gs t) (fun W2 i j hb2 hi hj => ?_)).mono ?_
              · have hb3 : Below W.heap.size W W2 := hb.trans (hb2.mono hb.size)
                have hP2 := hP.below hb2
                have := pac_any W2 b off cap W.heap.size gs K N n e i j hi hj (Nat.lt_of_lt_of_le hbl hb3.size) (hl.below hb3).at hN t ht hv (by omega) (hT.below hb3) hP2.s hP2.g
                simpa using this
              · rintro r w3 ⟨rfl, hb3, hC, hR, hF3, hz⟩
                exact ⟨⟨_, rfl, .inr ⟨_, _, rfl, h8, by omega, ⟨by omega, Nat.le_refl _⟩, hz, by omega, hC, hF3, hR⟩⟩, hb3⟩
            · rintro r w' ⟨⟨u, rfl, hP⟩, hb⟩
              exact ⟨⟨_, rfl, hP.2 rfl⟩, hb⟩
      · have hc : c' = 3 ∨ c' = 4 := by
          have : c' ≠ 0 := fun t => hF (q1.1 t)
          omega
        refine ⟨0, fun _ _ => (0, 0), c', by omega, fun W v hS => ?_, fun W v hS hT => ?_⟩
        · obtain ⟨a, cap, rfl, hl⟩ := hS.lies
          exact spa_code W a cap gs.length n e c' (by omega) (fun W => ok_t W n e hv) (fun W' hb => hs W' a cap (hl.below hb))
        · obtain ⟨a, cap, rfl, hl⟩ := hS.lies
          refine (ipa_code W a cap gs.length n e c' hc (fun W' hb => hA W' a cap (hl.below hb)) (fun W => valid_t W n e hv) (fun W' hb => hi W' a cap (hl.below hb))).mono ?_
          rintro r w' ⟨rfl, hb⟩
          exact ⟨⟨_, rfl, mr_nil⟩, hb⟩
    · obtain rfl : BA = false := by
        rw [Bool.eq_false_iff]
        exact fun c => hV (hBA.1 c)
      obtain ⟨m, h1, h2, h3⟩ := not_allK hV
      refine ⟨0, fun _ _ => (0, 0), 1, by omega, fun W v hS => ?_, fun W v hS hT => ?_⟩
      · obtain ⟨a, cap, rfl, hl⟩ := hS.lies
        exact spa_code W a cap gs.length n e 1 (.inl rfl) (fun W => ok_t W n e hv) (fun W' hb => sfam_bad W' a cap gs hm (hl.below hb) hbd m h1 h2 h3)
      · obtain ⟨a, cap, rfl, hl⟩ := hS.lies
        refine (ipa_bad W a cap gs.length n e false true (.inl rfl) (fun W' hb => hA W' a cap (hl.below hb)) (fun W => valid_t W n e hv)).mono ?_
        rintro r w' ⟨rfl, hb⟩
        exact ⟨⟨_, rfl, mr_nil⟩, hb⟩
  · refine ⟨0, fun _ _ => (0, 0), 1, by omega, fun W v hS => ?_, fun W v hS hT => ?_⟩
    · obtain ⟨a, cap, rfl, hl⟩ := hS.lies
      exact spa_inv W a cap gs.length n e (fun W => ok_f W n e he he0 hv)
    · obtain ⟨a, cap, rfl, hl⟩ := hS.lies
      refine (ipa_bad W a cap gs.length n e BA false (.inr rfl) (fun W' hb => hA W' a cap (hl.below hb)) (fun W => valid_f W n e he he0 hv)).mono ?_
      rintro r w' ⟨rfl, hb⟩
      exact ⟨⟨_, rfl, mr_nil⟩, hb⟩
end Go.Proofs.YtncbimbbkealmaaGreatDoor
