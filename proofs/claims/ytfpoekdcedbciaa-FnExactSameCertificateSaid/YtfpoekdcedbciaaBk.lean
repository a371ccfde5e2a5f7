/-
  BLOCKS: opened to their cells, counted, copied, held against each other.
-/
import Derived.Test.YtfpoekdcedbciaaFrM
import Derived.Test.YtfpoekdcedbciaaKAv
import Derived.Test.YtfpoekdcedbciaaKOpen
import Derived.Deep.SlicePairs
namespace Go.Proofs.Ytfpoekdcedbciaa.Fr
open Go.ChangeShapes Go.WideShapes Go.ChangeAt Go.RowKit Go.Deep
set_option maxRecDepth 100000
/-- a list of rows whose cells lie in a block that an older world does not have -/
def NewM (w0 : World) (u : Value) (m : List (List (Int × Int))) : Prop := ∀ a l c, u = .slice a l c → m ≠ [] → ∀ b off, a = some ⟨b, off, none⟩ → w0.heap.size ≤ b
theorem newM_here {w : World} {m : List (List (Int × Int))} {l c : Nat} : NewM w (.slice (some ⟨w.heap.size, 0, none⟩) l c) m := fun _ _ _ e _ b off h => by
  cases e
  cases h
  exact Nat.le_refl _
theorem NewM.mono {w0 w1 : World} {u : Value} {m : List (List (Int × Int))} (h : NewM w1 u m) (hz : w0.heap.size ≤ w1.heap.size) : NewM w0 u m := fun a l c e hm b off hb => Nat.le_trans hz (h a l c e hm b off hb)
theorem SlM.setCell {w0 w : World} {u : Value} {m : List (List (Int × Int))} {B o : Nat} {x : Value} {a0 : Option Addr} {l0 c0 : Nat} (h : SlM w u m) (hn : NewM w0 u m) (hB : B < w0.heap.size) (hc0 : w.cell? ⟨B, o, none⟩ = some (.slice a0 l0 c0)) : SlM (w.setCell ⟨B, o, none⟩ x) u m := by
  obtain ⟨a, cap, e, h1, h2, h3⟩ := h
  refine ⟨a, cap, e, h1, h2, fun hz => ?_⟩
  obtain ⟨b, off, e2, hlt, hc⟩ := h3 hz
  have hb := hn a _ cap e hz b off e2
  refine ⟨b, off, e2, by simpa using hlt, fun i hi => ?_⟩
  obtain ⟨r, hr, hS⟩ := hc i hi
  exact ⟨r, (World.cell?_setCell_other _ _ _ _ (by simp <;> omega)).trans hr, hS.setCell hc0⟩
theorem open_msR {H : Type} {enc : TypeId × Value → H} {W : World} {fuel : Nat} {v : Value} {x : DataW H × List MemPlace} (hf : DataW.trod enc Try.prog W 0 (fun _ => true) true fuel 48 [v] = some x) :
    ∃ m : List (List (Int × Int)), SlM W v m := by
  rcases open_slice1 Try.underlying48 (by kernel_rfl) hf with ⟨hcs, hx⟩ | ⟨a, len', cap', m, n, V, D, Pl, hcs, _, hl, hm, hmm, hx, hi⟩
  · cases hcs
    exact ⟨[], ⟨none, 0, rfl, by simp, by simp, fun c => absurd rfl c⟩⟩
  · cases hcs
    simp only [if_true] at hmm
    have hel : ∀ i, i < len' → ∃ r : List (Int × Int), W.cell? (a.add i) = some (V i) ∧ SlG W (V i) r := fun i hi2 => by
      obtain ⟨h0, h1⟩ := hi i (by omega)
      obtain ⟨r, hr⟩ := open_fs_core h1
      exact ⟨r, h0, hr⟩
    obtain ⟨R, hR⟩ := choose_lt (α := List (Int × Int)) (p := fun i r => W.cell? (a.add i) = some (V i) ∧ SlG W (V i) r) hel
    refine ⟨(List.range len').map R, ⟨some a, cap', by simp, by simpa using hl, by unfold maxLen at hm; omega, fun hne => ?_⟩⟩
    have hlen : 0 < len' := by
      rcases Nat.eq_zero_or_pos len' with h0 | h0
      · subst h0; exact absurd rfl hne
      · exact h0
    obtain ⟨b, off, spot⟩ := a
    have hspot : spot = none := by simpa [Addr.add] using World.cell?_spot (hR 0 hlen).1
    subst hspot
    refine ⟨b, off, rfl, World.block_lt_of_cell? W _ (hR 0 hlen).1, fun i hi2 => ?_⟩
    rw [List.length_map, List.length_range] at hi2
    have h0 := hR i hi2
    unfold Row rAt
    rw [List.getElem?_map, List.getElem?_range hi2]
    rw [add_plain] at h0
    exact ⟨V i, h0.1, h0.2⟩
section
variable (w : World)
theorem toMn_empty (a : Option Addr) (cap : Nat) :
    Calls Try.prog 52 #[.slice a 0 cap] w fun r w' => (∃ v, r = .returned v ∧ SlM w' v [] ∧ NewM w v []) ∧ Below w.heap.size w w' := by
  obtain ⟨i0, hi0, hz0, hs0, hb0⟩ := info_parts info_row
  have hmk : ∀ W : World, (Instr.makeSlice 54 (.int .i64 0) (.int .i64 0)).run Try.prog W = .ok (.slice (some ⟨W.heap.size, 0, none⟩) 0 0) (W.alloc (.cells (madeCells #[.slice none 0 0] (0 * 1)) 98)) := fun W => by
    have hr := run_make (P := Try.prog) W 54 98 i0 (.slice none 0 0) Try.underlying54 hi0 hz0 .i64 .i64 ((0 : Nat) : Int) ((0 : Nat) : Int) (by omega) (by omega) (by rw [hb0]; omega) (by omega)
    simp only [Int.toNat_natCast, hs0] at hr
    exact hr
  clear hi0 hz0 hs0 hb0
  go_enter Try.func52, Try.ntmps52
  go_wp2
  go_loopw [4] (fun i wr => i = .int .i64 0 ∧ Below w.heap.size w wr) (fun _ _ => 0)
  case atStart => exact ⟨rfl, by (repeat (first | exact Below.refl _ _ | assumption | refine bchain (by assumption) ?_ | refine balloc ?_ _ | apply Below.drew | apply below_drewN | (refine Below.alloc ?_ (by (try simp) <;> omega) _) | (refine Below.setCell ?_ (by (try simp) <;> omega) _)))⟩
  case round =>
    obtain ⟨rfl, hb⟩ := hrel
    go_wp2
    go_ret
    exact ⟨⟨_, rfl, ⟨_, _, rfl, by simp, by simp, fun c => absurd rfl c⟩, fun _ _ _ _ c => absurd rfl c⟩, hb⟩
set_option maxHeartbeats 1000000 in
theorem toMn_some (b off cap : Nat) (m : List (List (Int × Int))) (h1 : 0 < m.length) (h2 : m.length ≤ cap) (hm : m.length ≤ 1048576) (hr : ∀ i, i < m.length → (rAt m i).length ≤ 1048576) (hb : b < w.heap.size) (hc : ∀ i, i < m.length → Row w b off (rAt m i) i) :
    Calls Try.prog 52 #[.slice (some ⟨b, off, none⟩) m.length cap] w fun r w' => (∃ v, r = .returned v ∧ SlM w' v m ∧ NewM w v m) ∧ Below w.heap.size w w' := by
  obtain ⟨i0, hi0, hz0, hs0, hb0⟩ := info_parts info_row
  obtain ⟨O, hO⟩ : ∃ O, O = Obj.cells (madeCells #[.slice none 0 0] (m.length * 1)) 98 := ⟨_, rfl⟩
  obtain ⟨n, hn⟩ : ∃ n, n = m.length := ⟨_, rfl⟩
  rw [← hn] at h1 h2 hm hO hr ⊢
  have hmk : ∀ W : World, (Instr.makeSlice 54 (.int .i64 n) (.int .i64 n)).run Try.prog W = .ok (.slice (some ⟨W.heap.size, 0, none⟩) n n) (W.alloc O) := fun W => by
    have hr := run_make (P := Try.prog) W 54 98 i0 (.slice none 0 0) Try.underlying54 hi0 hz0 .i64 .i64 (n : Int) (n : Int) (by omega) (by omega) (by rw [hb0]; omega) (by omega)
    simp only [Int.toNat_natCast, hs0] at hr
    rw [hO]
    exact hr
  clear hi0 hz0 hs0 hb0
  replace hO := Lib.hid hO
  replace hn := Lib.hid hn
  replace hc := Lib.hid hc
  replace hr := Lib.hid hr
  go_enter Try.func52, Try.ntmps52
  go_wp2
  go_loopw [4] (fun i wr => ∃ k : Nat, k ≤ n ∧ i = .int .i64 k ∧ HalfM wr w.heap.size k m ∧ (∀ o, wr.frozen? ⟨w.heap.size, o, none⟩ = false) ∧ w.heap.size < wr.heap.size ∧ Below w.heap.size w wr) (fun i _ => n - (intOf i).toNat)
  case atStart => exact ⟨0, by omega, rfl, by rw [hO.out]; exact madeM _ _ _ _ _ rfl hn.out.symm, fun o => by rw [hO.out]; simp, by simp, by (repeat (first | exact Below.refl _ _ | assumption | refine bchain (by assumption) ?_ | refine balloc ?_ _ | apply Below.drew | apply below_drewN | (refine Below.alloc ?_ (by (try simp) <;> omega) _) | (refine Below.setCell ?_ (by (try simp) <;> omega) _)))⟩
  case round =>
    obtain ⟨k, hk, rfl, hh, hf, hz, hB⟩ := hrel
    by_cases hlt : k < n
    · obtain ⟨u, hu, hSu⟩ := hc.out k (by have := hn.out; omega)
      have s0 : wr.cell? ⟨b, off + k, none⟩ = some u := (hB.cell (p := ⟨b, _, none⟩) hb).trans hu
      have hT := Lib.hid (toGs_any wr u (rAt m k) (hSu.below hB) (hr.out k hlt))
      have hset := Lib.hid (fun (W : World) (v : Value) (h : HalfM W w.heap.size k m) (hv : SlG W v (rAt m k)) => h.set (k := k) (by have := hn.out; omega) hv)
      obtain ⟨a2, c2, rfl, _⟩ := hSu
      obtain ⟨l, hl2⟩ : ∃ l, (rAt m k).length = l := ⟨_, rfl⟩
      rw [hl2] at hT s0
      clear hu hl2
      replace hh := Lib.hid hh
      replace hf := Lib.hid hf
      go_wp2_with fail
      refine hT.out.mono ?_
      rintro r3 w3 ⟨⟨v3, rfl, hv3⟩, hb3⟩
      have hh3 := hh.out.below hb3 hz
      have hz3 := Nat.lt_of_lt_of_le hz hb3.size
      have ht := hh3 k (by have := hn.out; omega)
      rw [if_neg (by omega)] at ht
      have hf3 : ∀ o, w3.frozen? ⟨w.heap.size, o, none⟩ = false := fun o => (hb3.frozen (p := ⟨w.heap.size, o, none⟩) hz).trans (hf.out o)
      have f0 := hf3 k
      have hn2 := Lib.hid (hset.out w3 v3 hh3 hv3)
      replace hf3 := Lib.hid hf3
      obtain ⟨a4, c4, rfl, _⟩ := hv3
      clear hh3
      go_wp2
      go_roundw
      case rel => exact ⟨k + 1, by omega, by go_num, hn2.out, fun o => by simp [hf3.out o], by simp; omega, by (repeat (first | exact Below.refl _ _ | assumption | refine bchain (by assumption) ?_ | refine balloc ?_ _ | apply Below.drew | apply below_drewN | (refine Below.alloc ?_ (by (try simp) <;> omega) _) | (refine Below.setCell ?_ (by (try simp) <;> omega) _)))⟩
      case measure => simp [intOf]; omega
    · have hd := decide_eq_false (show ¬ ((k : Int) < (n : Int)) by omega)
      obtain rfl : k = n := by omega
      replace hh := Lib.hid hh
      replace hf := Lib.hid hf
      go_wp2
      go_ret
      refine ⟨⟨_, rfl, ?_, newM_here⟩, hB⟩
      have e := hn.out
      subst e
      exact HalfM.done hh.out hz (Nat.le_refl _) (by omega)
theorem toMn_any (v : Value) (m : List (List (Int × Int))) (h : SlM w v m) (hm : m.length ≤ 1048576) (hr : ∀ i, i < m.length → (rAt m i).length ≤ 1048576) :
    Calls Try.prog 52 #[v] w fun r w' => (∃ u, r = .returned u ∧ SlM w' u m ∧ NewM w u m) ∧ Below w.heap.size w w' := by
  obtain ⟨a, cap, rfl, h1, h2, h3⟩ := h
  cases m with
  | nil => exact toMn_empty w a cap
  | cons z zs =>
    obtain ⟨b, off, rfl, hb, hc⟩ := h3 (by simp)
    exact toMn_some w b off cap (z :: zs) (by simp) h1 hm hr hb hc
end
end Go.Proofs.Ytfpoekdcedbciaa.Fr
namespace Go.Proofs.Ytfpoekdcedbciaa
open Go.ChangeShapes Go.WideShapes Go.ChangeAt Go.RowKit Go.Deep
set_option maxRecDepth 100000
theorem SlK.setCell {w : World} {u : Value} {r : List (Int × Int × Int)} {B o : Nat} {x : Value} {a0 : Option Addr} {l0 c0 : Nat} (h : SlK w u r) (hc0 : w.cell? ⟨B, o, none⟩ = some (.slice a0 l0 c0)) : SlK (w.setCell ⟨B, o, none⟩ x) u r := by
  obtain ⟨a, cap, e, h1, h2, h3⟩ := h
  refine ⟨a, cap, e, h1, h2, fun hz => ?_⟩
  obtain ⟨b, off, e2, hlt, hc⟩ := h3 hz
  refine ⟨b, off, e2, by simpa using hlt, fun i hi => ?_⟩
  have hi2 := hc i hi
  have hne : ∀ j (v : Value), v.ownBlock = none → w.cell? ⟨b, j, none⟩ = some v → (∀ a l c, v ≠ .slice a l c) → (w.setCell ⟨B, o, none⟩ x).cell? ⟨b, j, none⟩ = some v := fun j v _ hj hv => by
    refine (World.cell?_setCell_other _ _ _ _ ?_).trans hj
    intro he
    rw [← he, hc0] at hj
    cases hj
    exact hv _ _ _ rfl
  exact ⟨hne _ _ rfl hi2.1 (fun _ _ _ h => by cases h), hne _ _ rfl hi2.2.1 (fun _ _ _ h => by cases h), hne _ _ rfl hi2.2.2 (fun _ _ _ h => by cases h)⟩
theorem open_ksR {H : Type} {enc : TypeId × Value → H} {W : World} {fuel : Nat} {v : Value} {x : DataW H × List MemPlace} (hf : DataW.trod enc Try.prog W 0 (fun _ => true) true fuel 47 [v] = some x) :
    ∃ gs : List (Int × Int × Int), SlK W v gs ∧ BdK gs := by
  rcases open_slice Try.underlying47 hf with ⟨hcs, hx⟩ | ⟨a, len', cap', m, n, D, Pl, hcs, _, hl, hm, hmm, hx, hi⟩
  · cases hcs
    exact ⟨[], ⟨none, 0, rfl, by simp, by simp, fun c => absurd rfl c⟩, fun i hi => by simp at hi⟩
  · cases hcs
    simp only [if_true] at hmm
    have hel : ∀ i, i < len' → ∃ x y z : Int, W.cell? (a.add (i * 3)) = some (.int .i64 x) ∧ W.cell? (a.add (i * 3 + 1)) = some (.int .i64 y) ∧ W.cell? (a.add (i * 3 + 2)) = some (.int .u32 z) ∧ (Lit.int .u32 z).wf = true := fun i hi2 => by
      obtain ⟨cs', h1, h2⟩ := hi i (by omega)
      rw [cellsLK] at h1
      obtain ⟨_, hlen, hcell⟩ := World.cells?_some h1
      match cs', hlen with
      | [v0, v1, v2], _ =>
        have e0 := hcell 0 (by omega)
        have e1 := hcell 1 (by omega)
        have e2 := hcell 2 (by omega)
        rw [add_add] at e0 e1 e2
        obtain ⟨y0, y1, n1, _, _, t0, t1⟩ := trod_struct2 Try.underlying159 h2
        obtain ⟨z0, z1, n2, _, _, g0, g1⟩ := trod_struct2 Try.underlying25 t1
        simp only [cellsKI, cellsKU, cellsLG] at t0 g0 g1
        obtain ⟨x, c0, _, _⟩ := DataW.trod_int Try.underlying2 t0
        obtain ⟨y, c1, _, _⟩ := DataW.trod_int Try.underlying2 g0
        obtain ⟨z, c2, _, wz⟩ := DataW.trod_int Try.underlying23 g1
        simp at c0 c1 c2
        subst c0 c1 c2
        exact ⟨x, y, z, by simpa using e0, by simpa using e1, by simpa using e2, wz⟩
    refine ⟨(List.range len').map fun i => ((W.cell? (a.add (i * 3))).elim 0 intOf, (W.cell? (a.add (i * 3 + 1))).elim 0 intOf, (W.cell? (a.add (i * 3 + 2))).elim 0 intOf), ⟨some a, cap', by simp, by simpa using hl, by unfold maxLen at hm; omega, fun hne => ?_⟩, fun i hi2 => ?_⟩
    · have hlen : 0 < len' := by
        rcases Nat.eq_zero_or_pos len' with h0 | h0
        · subst h0; exact absurd rfl hne
        · exact h0
      obtain ⟨b, off, spot⟩ := a
      have hspot : spot = none := by
        obtain ⟨x, y, z, h0, _⟩ := hel 0 hlen
        simpa [Addr.add] using World.cell?_spot h0
      subst hspot
      refine ⟨b, off, rfl, ?_, fun i hi2 => ?_⟩
      · obtain ⟨x, y, z, h0, _⟩ := hel 0 hlen
        exact World.block_lt_of_cell? W _ h0
      · rw [List.length_map, List.length_range] at hi2
        obtain ⟨x, y, z, h0, h1, h2, _⟩ := hel i hi2
        unfold KCell kAt
        rw [List.getElem?_map, List.getElem?_range hi2]
        simp only [Option.map_some, Option.getD_some, h0, h1, h2, Option.elim_some, intOf]
        rw [add_plain] at h0 h1 h2
        exact ⟨h0, h1, h2⟩
    · rw [List.length_map, List.length_range] at hi2
      obtain ⟨x, y, z, h0, h1, h2, wz⟩ := hel i hi2
      unfold kAt
      rw [List.getElem?_map, List.getElem?_range hi2]
      simp only [Option.map_some, Option.getD_some, h2, Option.elim_some, intOf]
      have := bounds_u32 wz
      exact ⟨this.1, by omega⟩
/-- a block as numbers -/
structure BM where
  ks : List (Int × Int × Int)
  m : List (List (Int × Int))
def BkS (w : World) (v : Value) (Y : BM) : Prop := ∃ z u, v = .agg #[z, u] ∧ SlK w z Y.ks ∧ Fr.SlM w u Y.m
theorem BkS.below {w w' : World} {v : Value} {Y : BM} (h : BkS w v Y) (hb : Below w.heap.size w w') : BkS w' v Y := by
  obtain ⟨z, u, e, h1, h2⟩ := h
  exact ⟨z, u, e, h1.below hb, h2.below hb⟩
/-- a block's box -/
structure BB (W : World) (B : Nat) (z u : Value) : Prop where
  lt : B < W.heap.size
  c0 : W.cell? ⟨B, 0, none⟩ = some z
  c1 : W.cell? ⟨B, 1, none⟩ = some u
  fz : ∀ o, W.frozen? ⟨B, o, none⟩ = false
theorem BB.below {W W' : World} {B : Nat} {z u : Value} (h : BB W B z u) (hb : Below W.heap.size W W') : BB W' B z u :=
  ⟨Nat.lt_of_lt_of_le h.lt hb.size, (hb.cell (p := ⟨B, 0, none⟩) h.lt).trans h.c0, (hb.cell (p := ⟨B, 1, none⟩) h.lt).trans h.c1, fun o => (hb.frozen (p := ⟨B, o, none⟩) h.lt).trans (h.fz o)⟩
theorem BB.made (W : World) (z u : Value) (t : TypeId) : BB (W.alloc (.cells #[z, u] t)) W.heap.size z u :=
  ⟨by simp, by rw [World.cell?_alloc_new]; rfl, by rw [World.cell?_alloc_new]; rfl, fun o => by simp⟩
theorem BB.other {W : World} {B : Nat} {z u : Value} (h : BB W B z u) {a : Addr} (v : Value) (hp : a.block ≠ B) : BB (W.setCell a v) B z u := by
  have hs : (W.setCell a v).heap[B]? = W.heap[B]? := Below.heap_setCell _ _ _ _ (by omega)
  exact ⟨by simpa using h.lt, (World.cell?_of_block (a := ⟨B, 0, none⟩) hs).trans h.c0, (World.cell?_of_block (a := ⟨B, 1, none⟩) hs).trans h.c1, fun o => by simp [h.fz o]⟩
theorem BB.put0 {W : World} {B : Nat} {z u : Value} (h : BB W B z u) (z' : Value) : BB (W.setCell ⟨B, 0, none⟩ z') B z' u :=
  ⟨by simpa using h.lt, World.cell?_setCell_same _ _ _ h.c0, (World.cell?_setCell_other _ _ _ _ (by simp)).trans h.c1, fun o => by simp [h.fz o]⟩
theorem BB.put1 {W : World} {B : Nat} {z u : Value} (h : BB W B z u) (u' : Value) : BB (W.setCell ⟨B, 1, none⟩ u') B z u' :=
  ⟨by simpa using h.lt, (World.cell?_setCell_other _ _ _ _ (by simp)).trans h.c0, World.cell?_setCell_same _ _ _ h.c1, fun o => by simp [h.fz o]⟩
theorem cellsLB : Try.prog.cellsOf 50 = 2 := by kernel_rfl
theorem cellsLKs : Try.prog.cellsOf 47 = 1 := by kernel_rfl
theorem cellsLMs : Try.prog.cellsOf 48 = 1 := by kernel_rfl
theorem open_blockR {H : Type} {enc : TypeId × Value → H} {W : World} {fuel : Nat} {v0 v1 : Value} {x : DataW H × List MemPlace} (hf : DataW.trod enc Try.prog W 0 (fun _ => true) true fuel 50 [v0, v1] = some x) :
    ∃ Y : BM, BkS W (.agg #[v0, v1]) Y ∧ BdK Y.ks := by
  obtain ⟨y0, y1, n, _, _, h0, h1⟩ := trod_struct2 Try.underlying50 hf
  simp only [cellsLKs, cellsLMs] at h0 h1
  obtain ⟨ks, hks, hb⟩ := open_ksR (v := v0) (by simpa using h0)
  obtain ⟨m, hm⟩ := Fr.open_msR (v := v1) (by simpa using h1)
  exact ⟨⟨ks, m⟩, ⟨v0, v1, rfl, hks, hm⟩, hb⟩
theorem open_block {H : Type} {enc : TypeId × Value → H} {W : World} {base : Nat} {v : Value} {d : DataW H} {p : List MemPlace} (hv : Value.okWide Try.prog W .any base 50 v) (h : DataW.Trod enc Try.prog W 0 (fun _ => true) true 50 v d p) :
    ∃ Y : BM, BkS W v Y ∧ BdK Y.ks := by
  obtain ⟨cs, rfl, hsz⟩ := okWide_struct Try.underlying50 hv
  obtain ⟨fuel, hf⟩ := h
  rw [cellsLB] at hsz
  obtain ⟨l⟩ := cs
  match l, hsz with
  | [v0, v1], _ => exact open_blockR (by simpa [Value.cells] using hf)
section
variable (w : World)
theorem szk_left (a : Option Addr) (l cap : Nat) (q : Int) (hq : q ≤ 1048576) (hl : (l : Int) ≤ q) :
    Calls Try.prog 46 #[.slice a l cap, .int .i64 q] w fun r w' => r = .returned (.int .i64 (q - (l : Int))) ∧ w = w' := by
  go_enter Try.func46, Try.ntmps46
  go_wp2
  go_ret
  exact ⟨rfl, rfl⟩
theorem szk_over (a : Option Addr) (l cap : Nat) (q : Int) (h0 : 0 ≤ q) (hq : q ≤ 1048576) (hl : q < (l : Int)) (hm : l ≤ 9223372036854775807) :
    Calls Try.prog 46 #[.slice a l cap, .int .i64 q] w fun r w' => r = .returned (.int .i64 (-1)) ∧ w = w' := by
  go_enter Try.func46, Try.ntmps46
  go_wp2
  go_ret
  exact ⟨rfl, rfl⟩
theorem szB_ok (v : Value) (Y : BM) (h : BkS w v Y) (q0 : Int) (h0 : 0 ≤ q0) (hq : q0 ≤ 1048576) (hl : (Y.ks.length : Int) + ((Y.m.length : Int) + (Fr.tot Y.m Y.m.length : Nat)) ≤ q0) :
    Calls Try.prog 18 #[v, .int .i64 q0] w fun r w' => r = .returned (.int .i64 (q0 - (Y.ks.length : Int) - (Y.m.length : Int) - (Fr.tot Y.m Y.m.length : Nat))) ∧ Below w.heap.size w w' := by
  obtain ⟨ks, m⟩ := Y
  obtain ⟨z, u, rfl, hz, hu⟩ := h
  dsimp only at *
  have hD := Lib.hid (fun W (hb : Below w.heap.size w W) => Fr.szM_ok W u m (hu.below hb) (q0 - (ks.length : Int)) (by omega) (by omega))
  obtain ⟨a, cap, rfl, g1, g2, _⟩ := hz
  obtain ⟨au, cu, rfl, _⟩ := hu
  obtain ⟨T, hT⟩ : ∃ T, Fr.tot m m.length = T := ⟨_, rfl⟩
  rw [hT] at hl hD ⊢
  obtain ⟨l1, hl1⟩ : ∃ l, ks.length = l := ⟨_, rfl⟩
  obtain ⟨l2, hl2⟩ : ∃ l, m.length = l := ⟨_, rfl⟩
  rw [hl1, hl2] at hl hD ⊢
  have hC := Lib.hid (fun W => szk_left W a l1 cap q0 hq (by omega))
  have h1 : 0 ≤ q0 - (l1 : Int) := by omega
  have h2 : 0 ≤ q0 - (l1 : Int) - (l2 : Int) - (T : Int) := by omega
  obtain ⟨q1, hq1⟩ : ∃ q1 : Int, q0 - (l1 : Int) = q1 := ⟨_, rfl⟩
  rw [hq1] at hC hD h1 h2 ⊢
  obtain ⟨q2, hq2⟩ : ∃ q2 : Int, q1 - (l2 : Int) - (T : Int) = q2 := ⟨_, rfl⟩
  rw [hq2] at hD h2 ⊢
  clear hl hq1 hq2 hl1 hl2 g1 g2 hq hT
  obtain ⟨W0, hW0⟩ : ∃ W0, W0 = w.alloc (.cells #[.slice a l1 cap, .slice au l2 cu] 50) := ⟨_, rfl⟩
  have hb0 : Below w.heap.size w W0 := by rw [hW0]; (repeat (first | exact Below.refl _ _ | assumption | refine bchain (by assumption) ?_ | refine balloc ?_ _ | apply Below.drew | apply below_drewN | (refine Below.alloc ?_ (by (try simp) <;> omega) _) | (refine Below.setCell ?_ (by (try simp) <;> omega) _)))
  have k0 : BB W0 w.heap.size (.slice a l1 cap) (.slice au l2 cu) := by rw [hW0]; exact BB.made _ _ _ _
  replace hW0 := Lib.hid hW0
  obtain ⟨_, x0, x1, _⟩ := id k0
  go_enter Try.func18, Try.ntmps18
  go_wp2_with fail
  rw [← hW0.out]
  go_wp2_with fail
  refine (hC.out _).mono ?_
  rintro r1 w1 ⟨rfl, rfl⟩
  go_wp2_with fail
  refine (hD.out _ hb0).mono ?_
  rintro r2 w2 ⟨rfl, hb2⟩
  go_wp2
  go_ret
  exact ⟨rfl, bchain hb2 hb0⟩
theorem szB_bad (v : Value) (Y : BM) (h : BkS w v Y) (q0 : Int) (h0 : 0 ≤ q0) (hq : q0 ≤ 1048576) (hl : ¬ ((Y.ks.length : Int) + ((Y.m.length : Int) + (Fr.tot Y.m Y.m.length : Nat)) ≤ q0)) :
    Calls Try.prog 18 #[v, .int .i64 q0] w fun r w' => r = .returned (.int .i64 (-1)) ∧ Below w.heap.size w w' := by
  obtain ⟨ks, m⟩ := Y
  obtain ⟨z, u, rfl, hz, hu⟩ := h
  dsimp only at *
  by_cases c : (ks.length : Int) ≤ q0
  · have hD := Lib.hid (fun W (hb : Below w.heap.size w W) => Fr.szM_long W u m (hu.below hb) (q0 - (ks.length : Int)) (by omega) (by omega) (by omega))
    obtain ⟨a, cap, rfl, g1, g2, _⟩ := hz
    obtain ⟨au, cu, rfl, _⟩ := hu
    have hC := Lib.hid (fun W => szk_left W a ks.length cap q0 hq c)
    have h1 : 0 ≤ q0 - (ks.length : Int) := by omega
    obtain ⟨l1, hl1⟩ : ∃ l, ks.length = l := ⟨_, rfl⟩
    obtain ⟨l2, hl2⟩ : ∃ l, m.length = l := ⟨_, rfl⟩
    rw [hl1] at hC hD h1 ⊢
    rw [hl2]
    obtain ⟨q1, hq1⟩ : ∃ q1 : Int, q0 - (l1 : Int) = q1 := ⟨_, rfl⟩
    rw [hq1] at hC hD h1
    rw [hl2] at hD
    clear hl hq1 hl1 hl2 g1 g2 hq c
    obtain ⟨W0, hW0⟩ : ∃ W0, W0 = w.alloc (.cells #[.slice a l1 cap, .slice au l2 cu] 50) := ⟨_, rfl⟩
    have hb0 : Below w.heap.size w W0 := by rw [hW0]; (repeat (first | exact Below.refl _ _ | assumption | refine bchain (by assumption) ?_ | refine balloc ?_ _ | apply Below.drew | apply below_drewN | (refine Below.alloc ?_ (by (try simp) <;> omega) _) | (refine Below.setCell ?_ (by (try simp) <;> omega) _)))
    have k0 : BB W0 w.heap.size (.slice a l1 cap) (.slice au l2 cu) := by rw [hW0]; exact BB.made _ _ _ _
    replace hW0 := Lib.hid hW0
    obtain ⟨_, x0, x1, _⟩ := id k0
    go_enter Try.func18, Try.ntmps18
    go_wp2_with fail
    rw [← hW0.out]
    go_wp2_with fail
    refine (hC.out _).mono ?_
    rintro r1 w1 ⟨rfl, rfl⟩
    go_wp2_with fail
    refine (hD.out _ hb0).mono ?_
    rintro r2 w2 ⟨rfl, hb2⟩
    go_wp2
    go_ret
    exact ⟨rfl, bchain hb2 hb0⟩
  · obtain ⟨a, cap, rfl, g1, g2, _⟩ := hz
    obtain ⟨au, cu, rfl, _⟩ := hu
    have hC := Lib.hid (fun W => szk_over W a ks.length cap q0 h0 hq (by omega) (by have : ks.length ≤ cap := g1; omega))
    obtain ⟨l1, hl1⟩ : ∃ l, ks.length = l := ⟨_, rfl⟩
    obtain ⟨l2, hl2⟩ : ∃ l, m.length = l := ⟨_, rfl⟩
    rw [hl1] at hC ⊢
    rw [hl2]
    clear hl hl1 hl2 g1 g2 hq c h0
    obtain ⟨W0, hW0⟩ : ∃ W0, W0 = w.alloc (.cells #[.slice a l1 cap, .slice au l2 cu] 50) := ⟨_, rfl⟩
    have hb0 : Below w.heap.size w W0 := by rw [hW0]; (repeat (first | exact Below.refl _ _ | assumption | refine bchain (by assumption) ?_ | refine balloc ?_ _ | apply Below.drew | apply below_drewN | (refine Below.alloc ?_ (by (try simp) <;> omega) _) | (refine Below.setCell ?_ (by (try simp) <;> omega) _)))
    have k0 : BB W0 w.heap.size (.slice a l1 cap) (.slice au l2 cu) := by rw [hW0]; exact BB.made _ _ _ _
    replace hW0 := Lib.hid hW0
    obtain ⟨_, x0, x1, _⟩ := id k0
    go_enter Try.func18, Try.ntmps18
    go_wp2_with fail
    rw [← hW0.out]
    go_wp2_with fail
    refine (hC.out _).mono ?_
    rintro r1 w1 ⟨rfl, rfl⟩
    go_wp2
    go_ret
    exact ⟨rfl, hb0⟩
theorem eqB_any (Y : BM) (z u z' u' : Value) (hz : SlK w z Y.ks) (hu : Fr.SlM w u Y.m) (hz' : SlK w z' Y.ks) (hu' : Fr.SlM w u' Y.m) (hm : Y.ks.length ≤ 1048576) (hm2 : Y.m.length ≤ 1048576) (hr : ∀ i, i < Y.m.length → (Fr.rAt Y.m i).length ≤ 1048576) :
    Calls Try.prog 22 #[.agg #[z, u], .agg #[z', u']] w fun r w' => r = .returned (.bool true) ∧ Below w.heap.size w w' := by
  obtain ⟨ks, m⟩ := Y
  dsimp only at *
  have hC := Lib.hid (fun W (hb : Below w.heap.size w W) => eqKs_any W z z' ks (hz.below hb) (hz'.below hb) hm)
  have hD := Lib.hid (fun W (hb : Below w.heap.size w W) => Fr.eqMs_any W u u' m (hu.below hb) (hu'.below hb) hm2 hr)
  obtain ⟨a, cap, rfl, _⟩ := hz
  obtain ⟨au, cu, rfl, _⟩ := hu
  obtain ⟨a', cap', rfl, _⟩ := hz'
  obtain ⟨au', cu', rfl, _⟩ := hu'
  obtain ⟨l1, hl1⟩ : ∃ l, ks.length = l := ⟨_, rfl⟩
  obtain ⟨l2, hl2⟩ : ∃ l, m.length = l := ⟨_, rfl⟩
  rw [hl1] at hC ⊢
  rw [hl2] at hD ⊢
  clear hl1 hl2 hm hm2 hr
  obtain ⟨W0, hW0⟩ : ∃ W0, W0 = (w.alloc (.cells #[.slice a l1 cap, .slice au l2 cu] 56)).alloc (.cells #[.slice a' l1 cap', .slice au' l2 cu'] 56) := ⟨_, rfl⟩
  have hb0 : Below w.heap.size w W0 := by rw [hW0]; (repeat (first | exact Below.refl _ _ | assumption | refine bchain (by assumption) ?_ | refine balloc ?_ _ | apply Below.drew | apply below_drewN | (refine Below.alloc ?_ (by (try simp) <;> omega) _) | (refine Below.setCell ?_ (by (try simp) <;> omega) _)))
  have sz : ∀ (W : World) (o : Obj), (W.alloc o).heap.size = W.heap.size + 1 := fun W o => by simp
  have k0 : BB W0 w.heap.size (.slice a l1 cap) (.slice au l2 cu) := by rw [hW0]; exact (BB.made _ _ _ _).below (balloc (Below.refl _ _) _)
  have k1 : BB W0 (w.heap.size + 1) (.slice a' l1 cap') (.slice au' l2 cu') := by rw [hW0, ← sz w (.cells #[.slice a l1 cap, .slice au l2 cu] 56)]; exact BB.made _ _ _ _
  replace hW0 := Lib.hid hW0
  clear sz
  obtain ⟨_, x0, x1, _⟩ := id k0
  obtain ⟨_, y0, y1, _⟩ := id k1
  go_enter Try.func22, Try.ntmps22
  go_wp2_with fail
  rw [← hW0.out]
  go_wp2_with fail
  refine (hC.out _ hb0).mono ?_
  rintro r1 w1 ⟨rfl, hb1⟩
  replace k0 := k0.below hb1
  replace k1 := k1.below hb1
  replace hb0 := bchain hb1 hb0
  clear hb1 x0 x1 y0 y1
  obtain ⟨_, x0, x1, _⟩ := id k0
  obtain ⟨_, y0, y1, _⟩ := id k1
  go_wp2_with fail
  refine (hD.out _ hb0).mono ?_
  rintro r2 w2 ⟨rfl, hb2⟩
  go_wp2
  go_ret
  exact ⟨rfl, bchain hb2 hb0⟩
set_option maxHeartbeats 2000000 in
theorem toB_any (v : Value) (Y : BM) (h : BkS w v Y) (hm : Y.ks.length ≤ 1048576) (hm2 : Y.m.length ≤ 1048576) (hr : ∀ i, i < Y.m.length → (Fr.rAt Y.m i).length ≤ 1048576) :
    Calls Try.prog 20 #[v] w fun r w' => (∃ z u, r = .returned (.agg #[z, u]) ∧ SlK w' z Y.ks ∧ Fr.SlM w' u Y.m ∧ Fr.NewM w u Y.m) ∧ Below w.heap.size w w' := by
  obtain ⟨ks, m⟩ := Y
  obtain ⟨z, u, rfl, hz, hu⟩ := h
  dsimp only at *
  have hC := Lib.hid (fun W (hb : Below w.heap.size w W) => toKs_any W z ks (hz.below hb) hm)
  have hD := Lib.hid (fun W (hb : Below w.heap.size w W) => Fr.toMn_any W u m (hu.below hb) hm2 hr)
  obtain ⟨a, cap, rfl, _⟩ := hz
  obtain ⟨au, cu, rfl, _⟩ := hu
  clear hm hm2 hr
  obtain ⟨l1, hl1⟩ : ∃ l, ks.length = l := ⟨_, rfl⟩
  obtain ⟨l2, hl2⟩ : ∃ l, m.length = l := ⟨_, rfl⟩
  rw [hl1] at hC ⊢
  rw [hl2] at hD ⊢
  replace hl1 := Lib.hid hl1
  replace hl2 := Lib.hid hl2
  obtain ⟨W0, hW0⟩ : ∃ W0, W0 = ((w.alloc (.cells #[.slice a l1 cap, .slice au l2 cu] 50)).alloc (.cells #[.slice none 0 0, .slice none 0 0] 56)).alloc (.cells #[.slice none 0 0, .slice none 0 0] 56) := ⟨_, rfl⟩
  have hb0 : Below w.heap.size w W0 := by rw [hW0]; (repeat (first | exact Below.refl _ _ | assumption | refine bchain (by assumption) ?_ | refine balloc ?_ _ | apply Below.drew | apply below_drewN | (refine Below.alloc ?_ (by (try simp) <;> omega) _) | (refine Below.setCell ?_ (by (try simp) <;> omega) _)))
  have sz : ∀ (W : World) (o : Obj), (W.alloc o).heap.size = W.heap.size + 1 := fun W o => by simp
  have tA : BB W0 w.heap.size (.slice a l1 cap) (.slice au l2 cu) := by rw [hW0]; exact ((BB.made _ _ _ _).below (balloc (Below.refl _ _) _)).below (balloc (Below.refl _ _) _)
  have tR : BB W0 (w.heap.size + 1) (.slice none 0 0) (.slice none 0 0) := by rw [hW0, ← sz w (.cells #[.slice a l1 cap, .slice au l2 cu] 50)]; exact (BB.made _ (.slice none 0 0) _ 56).below (balloc (Below.refl _ _) _)
  have tO : BB W0 (w.heap.size + 1 + 1) (.slice none 0 0) (.slice none 0 0) := by rw [hW0, ← sz w (.cells #[.slice a l1 cap, .slice au l2 cu] 50), ← sz _ (.cells #[.slice none 0 0, .slice none 0 0] 56)]; exact BB.made _ (.slice none 0 0) _ 56
  clear sz
  replace hW0 := Lib.hid hW0
  obtain ⟨_, x0, x1, _⟩ := id tA
  go_enter Try.func20, Try.ntmps20
  go_wp2_with fail
  rw [← hW0.out]
  go_wp2_with fail
  refine (hC.out _ hb0).mono ?_
  rintro r1 w1 ⟨⟨z1, rfl, hZ⟩, hb1⟩
  obtain ⟨a1, c1, rfl, _⟩ := id hZ
  rw [hl1.out] at hZ ⊢
  replace hZ := Lib.hid hZ
  replace tA := tA.below hb1
  replace tR := tR.below hb1
  replace tO := tO.below hb1
  replace hb0 := bchain hb1 hb0
  clear hb1 x0 x1
  obtain ⟨_, x0, x1, _⟩ := id tA
  obtain ⟨_, y0, y1, fO⟩ := id tO
  obtain ⟨W4, hW4⟩ : ∃ W4, W4 = w1.setCell ⟨w.heap.size + 1 + 1, 0, none⟩ (.slice a1 l1 c1) := ⟨_, rfl⟩
  have uR : BB W4 (w.heap.size + 1) (.slice none 0 0) (.slice none 0 0) := by rw [hW4]; exact tR.other _ (by show w.heap.size + 1 + 1 ≠ w.heap.size + 1; omega)
  have uO : BB W4 (w.heap.size + 1 + 1) (.slice a1 l1 c1) (.slice none 0 0) := by rw [hW4]; exact tO.put0 _
  have ub : Below w.heap.size w W4 := by rw [hW4]; exact hb0.setCell (p := ⟨w.heap.size + 1 + 1, 0, none⟩) (by show w.heap.size ≤ w.heap.size + 1 + 1; omega) _
  have uZ : Hid (SlK W4 (.slice a1 l1 c1) ks) := by rw [hW4]; exact hZ.out.setCell y0
  replace hW4 := Lib.hid hW4
  clear hZ tA tR tO hb0
  go_wp2_with fail
  rw [← hW4.out]
  refine (hD.out _ ub).mono ?_
  rintro r2 w2 ⟨⟨u2, rfl, hU, hN⟩, hb2⟩
  obtain ⟨a2, c2, rfl, _⟩ := id hU
  rw [hl2.out] at hU hN ⊢
  have hzO2 : w.heap.size + 1 + 1 < W4.heap.size := uO.lt
  have hzR2 : w.heap.size + 1 < W4.heap.size := uR.lt
  have hw4 : w.heap.size ≤ W4.heap.size := ub.size
  replace hU := Lib.hid hU
  replace hN := Lib.hid hN
  replace uZ := Lib.hid (uZ.out.below hb2)
  replace uR := uR.below hb2
  replace uO := uO.below hb2
  replace ub := bchain hb2 ub
  clear hb2 hW4 x0 x1 y0 y1 fO
  obtain ⟨_, x0, x1, fR⟩ := id uR
  obtain ⟨_, y0, y1, fO⟩ := id uO
  obtain ⟨W5, hW5⟩ : ∃ W5, W5 = w2.setCell ⟨w.heap.size + 1 + 1, 1, none⟩ (.slice a2 l2 c2) := ⟨_, rfl⟩
  have vR : BB W5 (w.heap.size + 1) (.slice none 0 0) (.slice none 0 0) := by rw [hW5]; exact uR.other _ (by show w.heap.size + 1 + 1 ≠ w.heap.size + 1; omega)
  have vb : Below w.heap.size w W5 := by rw [hW5]; exact ub.setCell (p := ⟨w.heap.size + 1 + 1, 1, none⟩) (by show w.heap.size ≤ w.heap.size + 1 + 1; omega) _
  have vZ : Hid (SlK W5 (.slice a1 l1 c1) ks) := by rw [hW5]; exact uZ.out.setCell y1
  have vU : Hid (Fr.SlM W5 (.slice a2 l2 c2) m) := by rw [hW5]; exact hU.out.setCell hN.out hzO2 y1
  have v1 := vR.put0 (.slice a1 l1 c1)
  have jF := v1.put1 (.slice a2 l2 c2)
  have jBB := (vb.setCell (p := ⟨w.heap.size + 1, 0, none⟩) (by show w.heap.size ≤ w.heap.size + 1; omega) (.slice a1 l1 c1)).setCell (p := ⟨w.heap.size + 1, 1, none⟩) (by show w.heap.size ≤ w.heap.size + 1; omega) (.slice a2 l2 c2)
  have jZ := Lib.hid ((vZ.out.setCell vR.c0 (x := .slice a1 l1 c1)).setCell v1.c1 (x := .slice a2 l2 c2))
  have jU := Lib.hid ((vU.out.setCell hN.out hzR2 vR.c0 (x := .slice a1 l1 c1)).setCell hN.out hzR2 v1.c1 (x := .slice a2 l2 c2))
  clear uR uO ub uZ hU vR vb vZ vU v1
  go_wp2
  rw [← hW5]
  obtain ⟨WW, hWW⟩ : ∃ WW, WW = (W5.setCell ⟨w.heap.size + 1, 0, none⟩ (.slice a1 l1 c1)).setCell ⟨w.heap.size + 1, 1, none⟩ (.slice a2 l2 c2) := ⟨_, rfl⟩
  rw [← hWW] at jF jBB jZ jU ⊢
  clear hWW hW5
  obtain ⟨_, v0, v1, _⟩ := jF
  exact bodyPost_ret (v := .agg #[.slice a1 l1 c1, .slice a2 l2 c2]) (by simp [results, Try.results20, go_sem, v0, v1]) rfl ⟨⟨_, _, rfl, jZ.out, jU.out, hN.out.mono hw4⟩, jBB⟩
end
end Go.Proofs.Ytfpoekdcedbciaa
