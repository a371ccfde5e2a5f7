/-
  STATEMENTS: opened to their cells, counted.
-/
import Derived.Test.YtiedombphcdpbaaGreatDoorOpenTs
import Derived.Test.YtiedombphcdpbaaGreatDoorOpenGs
import Derived.Test.YtiedombphcdpbaaGreatDoorSTown
import Derived.Test.YtiedombphcdpbaaGreatDoorGto
import Derived.Test.YtiedombphcdpbaaGreatDoorFrVf
namespace Go.Proofs.YtiedombphcdpbaaGreatDoor
open Go.ChangeShapes Go.WideShapes Go.ChangeAt Go.RowKit Go.Deep
set_option maxRecDepth 100000

/-- a statement as numbers -/
structure QM where
  gs : List (Int × Int)
  X : SM
  p : Int
  q : Int
def BdQ (Y : QM) : Prop := BdS Y.X ∧ Bd Y.gs
def StS (w : World) (v : Value) (Y : QM) : Prop := ∃ z u, v = .agg #[z, .int .i64 Y.X.n, .int .u32 Y.X.e, .int .i64 Y.X.s, u, .int .i64 Y.p, .int .i64 Y.q] ∧ SlG w z Y.gs ∧ SlT w u Y.X.ts
theorem StS.below {w w' : World} {v : Value} {Y : QM} (h : StS w v Y) (hb : Below w.heap.size w w') : StS w' v Y := by
  obtain ⟨z, u, e, h1, h2⟩ := h
  exact ⟨z, u, e, h1.below hb, h2.below hb⟩
/-- a statement's box -/
structure QB (W : World) (B : Nat) (z : Value) (n e s : Int) (u : Value) (p q : Int) : Prop where
  lt : B < W.heap.size
  c0 : W.cell? ⟨B, 0, none⟩ = some z
  c1 : W.cell? ⟨B, 1, none⟩ = some (.int .i64 n)
  c2 : W.cell? ⟨B, 2, none⟩ = some (.int .u32 e)
  c3 : W.cell? ⟨B, 3, none⟩ = some (.int .i64 s)
  c4 : W.cell? ⟨B, 4, none⟩ = some u
  c5 : W.cell? ⟨B, 5, none⟩ = some (.int .i64 p)
  c6 : W.cell? ⟨B, 6, none⟩ = some (.int .i64 q)
  fz : ∀ o, W.frozen? ⟨B, o, none⟩ = false
theorem QB.below {W W' : World} {B : Nat} {z : Value} {n e s : Int} {u : Value} {p q : Int} (h : QB W B z n e s u p q) (hb : Below W.heap.size W W') : QB W' B z n e s u p q :=
  ⟨Nat.lt_of_lt_of_le h.lt hb.size, (hb.cell (p := ⟨B, 0, none⟩) h.lt).trans h.c0, (hb.cell (p := ⟨B, 1, none⟩) h.lt).trans h.c1, (hb.cell (p := ⟨B, 2, none⟩) h.lt).trans h.c2, (hb.cell (p := ⟨B, 3, none⟩) h.lt).trans h.c3, (hb.cell (p := ⟨B, 4, none⟩) h.lt).trans h.c4, (hb.cell (p := ⟨B, 5, none⟩) h.lt).trans h.c5, (hb.cell (p := ⟨B, 6, none⟩) h.lt).trans h.c6, fun o => (hb.frozen (p := ⟨B, o, none⟩) h.lt).trans (h.fz o)⟩
theorem QB.made (W : World) (z : Value) (n e s : Int) (u : Value) (p q : Int) (t : TypeId) : QB (W.alloc (.cells #[z, .int .i64 n, .int .u32 e, .int .i64 s, u, .int .i64 p, .int .i64 q] t)) W.heap.size z n e s u p q :=
  ⟨by simp, by rw [World.cell?_alloc_new]; rfl, by rw [World.cell?_alloc_new]; rfl, by rw [World.cell?_alloc_new]; rfl, by rw [World.cell?_alloc_new]; rfl, by rw [World.cell?_alloc_new]; rfl, by rw [World.cell?_alloc_new]; rfl, by rw [World.cell?_alloc_new]; rfl, fun o => by simp⟩
theorem QB.other {W : World} {B : Nat} {z : Value} {n e s : Int} {u : Value} {p q : Int} (h : QB W B z n e s u p q) {a : Addr} (v : Value) (hp : a.block ≠ B) : QB (W.setCell a v) B z n e s u p q := by
  have hs : (W.setCell a v).heap[B]? = W.heap[B]? := Below.heap_setCell _ _ _ _ (by omega)
  exact ⟨by simpa using h.lt, (World.cell?_of_block (a := ⟨B, 0, none⟩) hs).trans h.c0, (World.cell?_of_block (a := ⟨B, 1, none⟩) hs).trans h.c1, (World.cell?_of_block (a := ⟨B, 2, none⟩) hs).trans h.c2, (World.cell?_of_block (a := ⟨B, 3, none⟩) hs).trans h.c3, (World.cell?_of_block (a := ⟨B, 4, none⟩) hs).trans h.c4, (World.cell?_of_block (a := ⟨B, 5, none⟩) hs).trans h.c5, (World.cell?_of_block (a := ⟨B, 6, none⟩) hs).trans h.c6, fun o => by simp [h.fz o]⟩
theorem cellsLQ : Tryz.prog.cellsOf 32 = 7 := by kernel_rfl
theorem cellsLGs : Tryz.prog.cellsOf 22 = 1 := by kernel_rfl
theorem open_gsR {H : Type} {enc : TypeId × Value → H} {W : World} {fuel : Nat} {v : Value} {x : DataW H × List MemPlace} (hf : DataW.trod enc Tryz.prog W 0 (fun _ => true) true fuel 22 [v] = some x) :
    ∃ gs : List (Int × Int), SlG W v gs ∧ Bd gs := by
  rcases open_slice_pairs Tryz.underlying22 Tryz.underlying25 cellsLG rfl rfl (by kernel_rfl) (by kernel_rfl) hf with ⟨hcs, hx⟩ | ⟨a, len', cap', m, n, V0, V1, D0, D1, P0, P1, hcs, _, hl, hm, hmm, hx, hi⟩
  · cases hcs
    exact ⟨[], ⟨none, 0, rfl, by simp, by simp, fun c => absurd rfl c⟩, fun i hi => by simp at hi⟩
  · cases hcs
    simp only [if_true] at hmm
    have hel : ∀ i, i < len' → ∃ x y : Int, W.cell? (a.add (i * 2)) = some (.int .i64 x) ∧ W.cell? (a.add (i * 2 + 1)) = some (.int .u32 y) ∧ (Lit.int .u32 y).wf = true := fun i hi2 => by
      obtain ⟨h0, h1, t0, t1⟩ := hi i (by omega)
      obtain ⟨x, e0, _, _⟩ := DataW.trod_int Tryz.underlying2 t0
      obtain ⟨y, e1, _, wy⟩ := DataW.trod_int Tryz.underlying23 t1
      simp at e0 e1
      exact ⟨x, y, by rw [h0, e0], by rw [h1, e1], wy⟩
    refine ⟨(List.range len').map fun i => ((W.cell? (a.add (i * 2))).elim 0 intOf, (W.cell? (a.add (i * 2 + 1))).elim 0 intOf), ⟨some a, cap', by simp, by simpa using hl, by unfold maxLen at hm; omega, fun hne => ?_⟩, fun i hi2 => ?_⟩
    · have hlen : 0 < len' := by
        rcases Nat.eq_zero_or_pos len' with h0 | h0
        · subst h0; exact absurd rfl hne
        · exact h0
      obtain ⟨b, off, spot⟩ := a
      have hspot : spot = none := by
        obtain ⟨x, y, h0, _, _⟩ := hel 0 hlen
        simpa [Addr.add] using World.cell?_spot h0
      subst hspot
      refine ⟨b, off, rfl, ?_, fun i hi2 => ?_⟩
      · obtain ⟨x, y, h0, _, _⟩ := hel 0 hlen
        exact World.block_lt_of_cell? W _ h0
      · rw [List.length_map, List.length_range] at hi2
        obtain ⟨x, y, h0, h1, _⟩ := hel i hi2
        unfold GCell gAt
        rw [List.getElem?_map, List.getElem?_range hi2]
        simp only [Option.map_some, Option.getD_some, h0, h1, Option.elim_some, intOf]
        rw [add_plain] at h0 h1
        exact ⟨h0, h1⟩
    · rw [List.length_map, List.length_range] at hi2
      obtain ⟨x, y, h0, h1, wy⟩ := hel i hi2
      unfold gAt
      rw [List.getElem?_map, List.getElem?_range hi2]
      simp only [Option.map_some, Option.getD_some, h1, Option.elim_some, intOf]
      have := bounds_u32 wy
      exact ⟨this.1, by omega⟩
theorem open_lsumR {H : Type} {enc : TypeId × Value → H} {W : World} {fuel : Nat} {v0 v1 v2 v3 : Value} {x : DataW H × List MemPlace} (hf : DataW.trod enc Tryz.prog W 0 (fun _ => true) true fuel 28 [v0, v1, v2, v3] = some x) :
    ∃ X : SM, SumS W (.agg #[v0, v1, v2, v3]) X ∧ BdS X := by
  obtain ⟨y0, y1, y2, n, _, _, h0, h1, h2⟩ := trod_struct3 Tryz.underlying28 hf
  obtain ⟨z0, z1, m, _, _, g0, g1⟩ := trod_struct2 Tryz.underlying25 h0
  simp only [cellsKI, cellsKU, cellsLG, cellsLTs] at h0 h1 h2 g0 g1
  obtain ⟨a, e0, _, _⟩ := DataW.trod_int Tryz.underlying2 g0
  obtain ⟨b, e1, _, wb⟩ := DataW.trod_int Tryz.underlying23 g1
  obtain ⟨c, e2, _, _⟩ := DataW.trod_int Tryz.underlying2 h1
  simp at e0 e1 e2
  subst e0 e1 e2
  obtain ⟨gs, hgs, hbd⟩ := open_ts (v := v3) (by simpa using h2)
  have := bounds_u32 wb
  exact ⟨⟨a, b, c, gs⟩, ⟨v3, rfl, hgs⟩, this.1, by show b < _; omega, hbd⟩
theorem open_stmt {H : Type} {enc : TypeId × Value → H} {W : World} {base : Nat} {v : Value} {d : DataW H} {p : List MemPlace} (hv : Value.okWide Tryz.prog W .any base 32 v) (h : DataW.Trod enc Tryz.prog W 0 (fun _ => true) true 32 v d p) :
    ∃ Y : QM, StS W v Y ∧ BdQ Y := by
  obtain ⟨cs, rfl, hsz⟩ := okWide_struct Tryz.underlying32 hv
  obtain ⟨fuel, hf⟩ := h
  rw [cellsLQ] at hsz
  obtain ⟨l⟩ := cs
  match l, hsz with
  | [v0, v1, v2, v3, v4, v5, v6], _ =>
    obtain ⟨y0, y1, y2, n, _, _, h0, h1, h2⟩ := trod_struct3 Tryz.underlying32 hf
    obtain ⟨q0, q1, n3, _, _, f0, f1⟩ := trod_struct2 Tryz.underlying30 h2
    simp only [Value.cells, cellsLGs, cellsLSum, cellsLFr, cellsKI] at h0 h1 h2 f0 f1
    obtain ⟨p, e5, _, _⟩ := DataW.trod_int Tryz.underlying2 f0
    obtain ⟨q, e6, _, _⟩ := DataW.trod_int Tryz.underlying2 f1
    simp at e5 e6
    subst e5 e6
    obtain ⟨gs, hgs, hbg⟩ := open_gsR (v := v0) (by simpa using h0)
    obtain ⟨X, ⟨u, e, hu⟩, hbX⟩ := open_lsumR (v0 := v1) (v1 := v2) (v2 := v3) (v3 := v4) (by simpa using h1)
    simp at e
    obtain ⟨rfl, rfl, rfl, rfl⟩ := e
    exact ⟨⟨gs, X, p, q⟩, ⟨v0, _, rfl, hgs, hu⟩, hbX, hbg⟩
section
variable (w : World)
theorem szg_left (a : Option Addr) (l cap : Nat) (q : Int) (hq : q ≤ 1048576) (hl : (l : Int) ≤ q) :
    Calls Tryz.prog 9 #[.slice a l cap, .int .i64 q] w fun r w' => r = .returned (.int .i64 (q - (l : Int))) ∧ w = w' := by
  go_enter Tryz.func9, Tryz.ntmps9
  go_wp2
  go_ret
  exact ⟨rfl, rfl⟩
theorem szg_over (a : Option Addr) (l cap : Nat) (q : Int) (h0 : 0 ≤ q) (hq : q ≤ 1048576) (hl : q < (l : Int)) (hm : l ≤ 9223372036854775807) :
    Calls Tryz.prog 9 #[.slice a l cap, .int .i64 q] w fun r w' => r = .returned (.int .i64 (-1)) ∧ w = w' := by
  go_enter Tryz.func9, Tryz.ntmps9
  go_wp2
  go_ret
  exact ⟨rfl, rfl⟩
theorem szt_left (a : Option Addr) (l cap : Nat) (q : Int) (hq : q ≤ 1048576) (hl : (l : Int) ≤ q) :
    Calls Tryz.prog 25 #[.slice a l cap, .int .i64 q] w fun r w' => r = .returned (.int .i64 (q - (l : Int))) ∧ w = w' := by
  go_enter Tryz.func25, Tryz.ntmps25
  go_wp2
  go_ret
  exact ⟨rfl, rfl⟩
theorem szt_over (a : Option Addr) (l cap : Nat) (q : Int) (h0 : 0 ≤ q) (hq : q ≤ 1048576) (hl : q < (l : Int)) (hm : l ≤ 9223372036854775807) :
    Calls Tryz.prog 25 #[.slice a l cap, .int .i64 q] w fun r w' => r = .returned (.int .i64 (-1)) ∧ w = w' := by
  go_enter Tryz.func25, Tryz.ntmps25
  go_wp2
  go_ret
  exact ⟨rfl, rfl⟩
theorem szs_left (n e s : Int) (a : Option Addr) (l cap : Nat) (q : Int) (hq : q ≤ 1048576) (hl : (l : Int) ≤ q) :
    Calls Tryz.prog 10 #[.agg #[.int .i64 n, .int .u32 e, .int .i64 s, .slice a l cap], .int .i64 q] w fun r w' => r = .returned (.int .i64 (q - (l : Int))) ∧ Below w.heap.size w w' := by
  have hC := Lib.hid (fun W => szt_left W a l cap q hq hl)
  have hp : 0 ≤ q - (l : Int) := by omega
  obtain ⟨p, hpd⟩ : ∃ p : Int, q - (l : Int) = p := ⟨_, rfl⟩
  rw [hpd] at hC hp ⊢
  clear hl hpd
  go_enter Tryz.func10, Tryz.ntmps10
  go_wp2_with (go_at_call 25; refine (hC.out _).mono ?_; rintro r1 w1 ⟨rfl, rfl⟩)
  go_ret
  exact ⟨rfl, by (repeat (first | exact Below.refl _ _ | assumption | refine bchain (by assumption) ?_ | refine balloc ?_ _ | apply Below.drew | apply below_drewN | (refine Below.alloc ?_ (by (try simp) <;> omega) _) | (refine Below.setCell ?_ (by (try simp) <;> omega) _)))⟩
theorem szs_over (n e s : Int) (a : Option Addr) (l cap : Nat) (q : Int) (h0 : 0 ≤ q) (hq : q ≤ 1048576) (hl : q < (l : Int)) (hm : l ≤ 9223372036854775807) :
    Calls Tryz.prog 10 #[.agg #[.int .i64 n, .int .u32 e, .int .i64 s, .slice a l cap], .int .i64 q] w fun r w' => r = .returned (.int .i64 (-1)) ∧ Below w.heap.size w w' := by
  have hC := Lib.hid (fun W => szt_over W a l cap q h0 hq hl hm)
  clear hl
  go_enter Tryz.func10, Tryz.ntmps10
  go_wp2_with (go_at_call 25; refine (hC.out _).mono ?_; rintro r1 w1 ⟨rfl, rfl⟩)
  go_ret
  exact ⟨rfl, by (repeat (first | exact Below.refl _ _ | assumption | refine bchain (by assumption) ?_ | refine balloc ?_ _ | apply Below.drew | apply below_drewN | (refine Below.alloc ?_ (by (try simp) <;> omega) _) | (refine Below.setCell ?_ (by (try simp) <;> omega) _)))⟩
end
end Go.Proofs.YtiedombphcdpbaaGreatDoor
