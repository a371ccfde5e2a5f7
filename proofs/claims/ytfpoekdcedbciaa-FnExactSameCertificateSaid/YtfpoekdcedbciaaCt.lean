/-
  LISTS OF BLOCKS, CERTIFICATES: opened to their cells, counted, copied, held against each other.
-/
import Derived.Test.YtfpoekdcedbciaaBk
import Derived.Test.YtfpoekdcedbciaaBw
import Derived.Deep.Slices
namespace Go.Proofs.Ytfpoekdcedbciaa
open Go.ChangeShapes Go.WideShapes Go.ChangeAt Go.RowKit Go.Deep
set_option maxRecDepth 100000
attribute [local go_sem] Oper.semAt_some
instance : Inhabited BM := ⟨⟨[], []⟩⟩
def bAt (bs : List BM) (i : Nat) : BM := bs[i]?.getD ⟨[], []⟩
def wtB (Y : BM) : Nat := Y.ks.length + (Y.m.length + Fr.tot Y.m Y.m.length)
def totB (bs : List BM) : Nat → Nat | 0 => 0 | k + 1 => totB bs k + wtB (bAt bs k)
theorem totB_mono (bs : List BM) {k n : Nat} (h : k ≤ n) : totB bs k ≤ totB bs n := by
  induction n with
  | zero => obtain rfl : k = 0 := by omega
            exact Nat.le_refl _
  | succ n ih =>
    by_cases e : k = n + 1
    · rw [e]; exact Nat.le_refl _
    · have := ih (by omega)
      rw [totB]
      omega
theorem wtB_le (bs : List BM) {k n : Nat} (h : k < n) : wtB (bAt bs k) ≤ totB bs n := by
  have := totB_mono bs (show k + 1 ≤ n from h)
  rw [totB] at this
  omega
def BRow (w : World) (b off : Nat) (Y : BM) (i : Nat) : Prop := ∃ z u, w.cell? ⟨b, off + i * 2, none⟩ = some z ∧ w.cell? ⟨b, off + i * 2 + 1, none⟩ = some u ∧ SlK w z Y.ks ∧ Fr.SlM w u Y.m
theorem BRow.below {w w' : World} {b off : Nat} {Y : BM} {i : Nat} (h : BRow w b off Y i) (hb : Below w.heap.size w w') : BRow w' b off Y i := by
  obtain ⟨z, u, h0, h1, h2, h3⟩ := h
  have hlt : b < w.heap.size := World.block_lt_of_cell? w _ h0
  exact ⟨z, u, (hb.cell (p := ⟨b, _, none⟩) hlt).trans h0, (hb.cell (p := ⟨b, _, none⟩) hlt).trans h1, h2.below hb, h3.below hb⟩
def SlB (w : World) (v : Value) (bs : List BM) : Prop :=
  ∃ (a : Option Addr) (cap : Nat), v = .slice a bs.length cap ∧ bs.length ≤ cap ∧ cap ≤ 9223372036854775807 ∧
    (bs ≠ [] → ∃ b off, a = some ⟨b, off, none⟩ ∧ b < w.heap.size ∧ ∀ i, i < bs.length → BRow w b off (bAt bs i) i)
theorem SlB.below {w w' : World} {v : Value} {bs : List BM} (h : SlB w v bs) (hb : Below w.heap.size w w') : SlB w' v bs := by
  obtain ⟨a, cap, e, h1, h2, h3⟩ := h
  refine ⟨a, cap, e, h1, h2, fun hz => ?_⟩
  obtain ⟨b, off, e2, hlt, hc⟩ := h3 hz
  exact ⟨b, off, e2, Nat.lt_of_lt_of_le hlt hb.size, fun i hi => (hc i hi).below hb⟩
theorem SlB.rows {w : World} {v : Value} {bs : List BM} (h : SlB w v bs) : ∃ a cap, v = .slice a bs.length cap ∧ bs.length ≤ cap ∧ cap ≤ 9223372036854775807 ∧ Hid (0 < bs.length → ∃ b off, a = some ⟨b, off, none⟩ ∧ b < w.heap.size ∧ ∀ i, i < bs.length → BRow w b off (bAt bs i) i) := by
  obtain ⟨a, cap, e, h1, h2, h3⟩ := h
  exact ⟨a, cap, e, h1, h2, fun h => h3 (List.length_pos_iff.1 h)⟩
def BdB (bs : List BM) : Prop := ∀ i, i < bs.length → BdK (bAt bs i).ks
/-- a block of a list, its matrix's cells in a block from N on -/
def NewN (N : Nat) (u : Value) (m : List (List (Int × Int))) : Prop := ∀ a l c, u = .slice a l c → m ≠ [] → ∀ b off, a = some ⟨b, off, none⟩ → N ≤ b
theorem Fr.SlM.setN {N : Nat} {w : World} {u : Value} {m : List (List (Int × Int))} {B o : Nat} {x : Value} {a0 : Option Addr} {l0 c0 : Nat} (h : Fr.SlM w u m) (hn : NewN N u m) (hB : B < N) (hc0 : w.cell? ⟨B, o, none⟩ = some (.slice a0 l0 c0)) : Fr.SlM (w.setCell ⟨B, o, none⟩ x) u m := by
  obtain ⟨a, cap, e, h1, h2, h3⟩ := h
  refine ⟨a, cap, e, h1, h2, fun hz => ?_⟩
  obtain ⟨b, off, e2, hlt, hc⟩ := h3 hz
  have hb := hn a _ cap e hz b off e2
  refine ⟨b, off, e2, by simpa using hlt, fun i hi => ?_⟩
  obtain ⟨r, hr, hS⟩ := hc i hi
  exact ⟨r, (World.cell?_setCell_other _ _ _ _ (by simp <;> omega)).trans hr, hS.setCell hc0⟩
/-- a number is stored into a cell ahead of one that holds a list -/
theorem SlK.set0 {w : World} {v : Value} {r : List (Int × Int × Int)} {B : Nat} {x : Value} {a0 : Option Addr} {l0 c0 : Nat} (h : SlK w v r) (hc1 : w.cell? ⟨B, 1, none⟩ = some (.slice a0 l0 c0)) : SlK (w.setCell ⟨B, 0, none⟩ x) v r := by
  obtain ⟨a, cap, e, h1, h2, h3⟩ := h
  refine ⟨a, cap, e, h1, h2, fun hz => ?_⟩
  obtain ⟨b, off, e2, hlt, hc⟩ := h3 hz
  refine ⟨b, off, e2, by simpa using hlt, fun i hi => ?_⟩
  have hi2 := hc i hi
  have hne : ¬ (b = B ∧ off + i * 3 = 0) := fun h => by
    have h1 := hi2.2.1
    rw [h.1, show off + i * 3 + 1 = 1 by omega, hc1] at h1
    cases h1
  exact ⟨(World.cell?_setCell_other _ _ _ _ (by simp <;> omega)).trans hi2.1, (World.cell?_setCell_other _ _ _ _ (by simp <;> omega)).trans hi2.2.1, (World.cell?_setCell_other _ _ _ _ (by simp <;> omega)).trans hi2.2.2⟩
theorem Fr.SlG.set0 {w : World} {v : Value} {r : List (Int × Int)} {B : Nat} {x : Value} {a0 : Option Addr} {l0 c0 : Nat} (h : Fr.SlG w v r) (hc1 : w.cell? ⟨B, 1, none⟩ = some (.slice a0 l0 c0)) : Fr.SlG (w.setCell ⟨B, 0, none⟩ x) v r := by
  obtain ⟨a, cap, e, h1, h2, h3⟩ := h
  refine ⟨a, cap, e, h1, h2, fun hz => ?_⟩
  obtain ⟨b, off, e2, hlt, hc⟩ := h3 hz
  refine ⟨b, off, e2, by simpa using hlt, fun i hi => ?_⟩
  have hi2 := hc i hi
  have hne : ¬ (b = B ∧ off + i * 2 = 0) := fun h => by
    have h1 := hi2.2
    rw [h.1, show off + i * 2 + 1 = 1 by omega, hc1] at h1
    cases h1
  exact ⟨(World.cell?_setCell_other _ _ _ _ (by simp <;> omega)).trans hi2.1, (World.cell?_setCell_other _ _ _ _ (by simp <;> omega)).trans hi2.2⟩
theorem Fr.SlM.set0 {N : Nat} {w : World} {u : Value} {m : List (List (Int × Int))} {B : Nat} {x : Value} {a0 : Option Addr} {l0 c0 : Nat} (h : Fr.SlM w u m) (hn : NewN N u m) (hB : B < N) (hc1 : w.cell? ⟨B, 1, none⟩ = some (.slice a0 l0 c0)) : Fr.SlM (w.setCell ⟨B, 0, none⟩ x) u m := by
  obtain ⟨a, cap, e, h1, h2, h3⟩ := h
  refine ⟨a, cap, e, h1, h2, fun hz => ?_⟩
  obtain ⟨b, off, e2, hlt, hc⟩ := h3 hz
  have hb := hn a _ cap e hz b off e2
  refine ⟨b, off, e2, by simpa using hlt, fun i hi => ?_⟩
  obtain ⟨r, hr, hS⟩ := hc i hi
  exact ⟨r, (World.cell?_setCell_other _ _ _ _ (by simp <;> omega)).trans hr, hS.set0 hc1⟩
def BRowN (N : Nat) (w : World) (b off : Nat) (Y : BM) (i : Nat) : Prop := ∃ z u, w.cell? ⟨b, off + i * 2, none⟩ = some z ∧ w.cell? ⟨b, off + i * 2 + 1, none⟩ = some u ∧ SlK w z Y.ks ∧ Fr.SlM w u Y.m ∧ NewN N u Y.m
theorem BRowN.row {N : Nat} {w : World} {b off : Nat} {Y : BM} {i : Nat} (h : BRowN N w b off Y i) : BRow w b off Y i := by
  obtain ⟨z, u, h0, h1, h2, h3, _⟩ := h
  exact ⟨z, u, h0, h1, h2, h3⟩
theorem BRowN.below {N : Nat} {w w' : World} {b off : Nat} {Y : BM} {i : Nat} (h : BRowN N w b off Y i) (hb : Below w.heap.size w w') : BRowN N w' b off Y i := by
  obtain ⟨z, u, h0, h1, h2, h3, h4⟩ := h
  have hlt : b < w.heap.size := World.block_lt_of_cell? w _ h0
  exact ⟨z, u, (hb.cell (p := ⟨b, _, none⟩) hlt).trans h0, (hb.cell (p := ⟨b, _, none⟩) hlt).trans h1, h2.below hb, h3.below hb, h4⟩
theorem BRowN.setS {N : Nat} {w : World} {b off : Nat} {Y : BM} {i : Nat} (h : BRowN N w b off Y i) {B o : Nat} {x : Value} {a0 : Option Addr} {l0 c0 : Nat} (hB : B < N) (hc0 : w.cell? ⟨B, o, none⟩ = some (.slice a0 l0 c0)) (hne : ¬ (b = B ∧ (off + i * 2 = o ∨ off + i * 2 + 1 = o))) : BRowN N (w.setCell ⟨B, o, none⟩ x) b off Y i := by
  obtain ⟨z, u, h0, h1, h2, h3, h4⟩ := h
  exact ⟨z, u, (World.cell?_setCell_other _ _ _ _ (by simp <;> omega)).trans h0, (World.cell?_setCell_other _ _ _ _ (by simp <;> omega)).trans h1, h2.setCell hc0, h3.setN h4 hB hc0, h4⟩
theorem BRowN.set0 {N : Nat} {w : World} {b off : Nat} {Y : BM} {i : Nat} (h : BRowN N w b off Y i) {B : Nat} {x : Value} {a0 : Option Addr} {l0 c0 : Nat} (hB : B < N) (hc1 : w.cell? ⟨B, 1, none⟩ = some (.slice a0 l0 c0)) (hne : b ≠ B) : BRowN N (w.setCell ⟨B, 0, none⟩ x) b off Y i := by
  obtain ⟨z, u, h0, h1, h2, h3, h4⟩ := h
  exact ⟨z, u, (World.cell?_setCell_other _ _ _ _ (by simp <;> omega)).trans h0, (World.cell?_setCell_other _ _ _ _ (by simp <;> omega)).trans h1, h2.set0 hc1, h3.set0 h4 hB hc1, h4⟩
/-- a list of blocks in memory from N on -/
def OwnB (N : Nat) (w : World) (v : Value) (bs : List BM) : Prop :=
  ∃ (a : Option Addr) (cap : Nat), v = .slice a bs.length cap ∧ bs.length ≤ cap ∧ cap ≤ 9223372036854775807 ∧
    (bs ≠ [] → ∃ b off, a = some ⟨b, off, none⟩ ∧ N ≤ b ∧ b < w.heap.size ∧ ∀ i, i < bs.length → BRowN N w b off (bAt bs i) i)
theorem OwnB.sl {N : Nat} {w : World} {v : Value} {bs : List BM} (h : OwnB N w v bs) : SlB w v bs := by
  obtain ⟨a, cap, e, h1, h2, h3⟩ := h
  refine ⟨a, cap, e, h1, h2, fun hz => ?_⟩
  obtain ⟨b, off, e2, _, hlt, hc⟩ := h3 hz
  exact ⟨b, off, e2, hlt, fun i hi => (hc i hi).row⟩
theorem OwnB.below {N : Nat} {w w' : World} {v : Value} {bs : List BM} (h : OwnB N w v bs) (hb : Below w.heap.size w w') : OwnB N w' v bs := by
  obtain ⟨a, cap, e, h1, h2, h3⟩ := h
  refine ⟨a, cap, e, h1, h2, fun hz => ?_⟩
  obtain ⟨b, off, e2, hn, hlt, hc⟩ := h3 hz
  exact ⟨b, off, e2, hn, Nat.lt_of_lt_of_le hlt hb.size, fun i hi => (hc i hi).below hb⟩
theorem OwnB.setS {N : Nat} {w : World} {v : Value} {bs : List BM} (h : OwnB N w v bs) {B o : Nat} {x : Value} {a0 : Option Addr} {l0 c0 : Nat} (hB : B < N) (hc0 : w.cell? ⟨B, o, none⟩ = some (.slice a0 l0 c0)) : OwnB N (w.setCell ⟨B, o, none⟩ x) v bs := by
  obtain ⟨a, cap, e, h1, h2, h3⟩ := h
  refine ⟨a, cap, e, h1, h2, fun hz => ?_⟩
  obtain ⟨b, off, e2, hn, hlt, hc⟩ := h3 hz
  exact ⟨b, off, e2, hn, by simpa using hlt, fun i hi => (hc i hi).setS hB hc0 (by omega)⟩
theorem OwnB.set0 {N : Nat} {w : World} {v : Value} {bs : List BM} (h : OwnB N w v bs) {B : Nat} {x : Value} {a0 : Option Addr} {l0 c0 : Nat} (hB : B < N) (hc1 : w.cell? ⟨B, 1, none⟩ = some (.slice a0 l0 c0)) : OwnB N (w.setCell ⟨B, 0, none⟩ x) v bs := by
  obtain ⟨a, cap, e, h1, h2, h3⟩ := h
  refine ⟨a, cap, e, h1, h2, fun hz => ?_⟩
  obtain ⟨b, off, e2, hn, hlt, hc⟩ := h3 hz
  exact ⟨b, off, e2, hn, by simpa using hlt, fun i hi => (hc i hi).set0 hB hc1 (by omega)⟩
/-- a block that holds the first k of bs, nothing behind -/
def HalfB (w : World) (B k : Nat) (bs : List BM) : Prop := ∀ i, i < bs.length → if i < k then BRowN (B + 1) w B 0 (bAt bs i) i else (w.cell? ⟨B, i * 2, none⟩ = some (.slice none 0 0) ∧ w.cell? ⟨B, i * 2 + 1, none⟩ = some (.slice none 0 0))
theorem HalfB.below {w w' : World} {B k : Nat} {bs : List BM} (h : HalfB w B k bs) (hb : Below w.heap.size w w') (hB : B < w.heap.size) : HalfB w' B k bs := by
  intro i hi
  have := h i hi
  split
  · rename_i c
    rw [if_pos c] at this
    exact this.below hb
  · rename_i c
    rw [if_neg c] at this
    exact ⟨(hb.cell (p := ⟨B, _, none⟩) hB).trans this.1, (hb.cell (p := ⟨B, _, none⟩) hB).trans this.2⟩
theorem HalfB.set {w : World} {B k : Nat} {bs : List BM} {z u : Value} (h : HalfB w B k bs) (hk : k < bs.length) (hz : SlK w z (bAt bs k).ks) (hu : Fr.SlM w u (bAt bs k).m) (hn : NewN (B + 1) u (bAt bs k).m) :
    HalfB ((w.setCell ⟨B, k * 2, none⟩ z).setCell ⟨B, k * 2 + 1, none⟩ u) B (k + 1) bs := by
  have hck := h k hk
  rw [if_neg (by omega)] at hck
  have hc1 : (w.setCell ⟨B, k * 2, none⟩ z).cell? ⟨B, k * 2 + 1, none⟩ = some (.slice none 0 0) := (World.cell?_setCell_other _ _ _ _ (by simp)).trans hck.2
  intro i hi
  have hi2 := h i hi
  by_cases e : i = k
  · subst e
    rw [if_pos (by omega)]
    refine ⟨z, u, ?_, ?_, (hz.setCell hck.1).setCell hc1, (hu.setN hn (by omega) hck.1).setN hn (by omega) hc1, hn⟩
    · rw [Nat.zero_add]
      exact (World.cell?_setCell_other _ _ _ _ (by simp)).trans (World.cell?_setCell_same _ _ _ hck.1)
    · rw [Nat.zero_add]
      exact World.cell?_setCell_same _ _ _ hc1
  · by_cases c : i < k
    · rw [if_pos c] at hi2
      rw [if_pos (by omega)]
      exact (hi2.setS (by omega) hck.1 (by omega)).setS (by omega) hc1 (by omega)
    · rw [if_neg c] at hi2
      rw [if_neg (by omega)]
      exact ⟨(World.cell?_setCell_other _ _ _ _ (by simp <;> omega)).trans ((World.cell?_setCell_other _ _ _ _ (by simp <;> omega)).trans hi2.1), (World.cell?_setCell_other _ _ _ _ (by simp <;> omega)).trans ((World.cell?_setCell_other _ _ _ _ (by simp <;> omega)).trans hi2.2)⟩
theorem info_block : (Try.prog.info? 56).map (fun i => (i.zero, i.size, i.bytes)) = some (some (.agg #[.slice none 0 0, .slice none 0 0]), 2, 48) := by kernel_rfl
theorem madeB (w : World) (n B : Nat) (e : TypeId) (bs : List BM) (hB : B = w.heap.size) (hn : bs.length = n) : HalfB (w.alloc (.cells (madeCells #[.slice none 0 0, .slice none 0 0] (n * 2)) e)) B 0 bs := by
  intro i hi
  subst hB
  rw [World.cell?_alloc_new, World.cell?_alloc_new, if_neg (by omega)]
  have h1 : i * 2 < n * 2 := by omega
  have h2 : i * 2 + 1 < n * 2 := by omega
  have m1 : i * 2 % 2 = 0 := by omega
  have m2 : (i * 2 + 1) % 2 = 1 := by omega
  refine ⟨?_, ?_⟩
  · simp [madeCells, h1, m1]
  · simp [madeCells, h2, m2]
theorem open_bsR {H : Type} {enc : TypeId × Value → H} {W : World} {fuel : Nat} {v : Value} {x : DataW H × List MemPlace} (hf : DataW.trod enc Try.prog W 0 (fun _ => true) true fuel 60 [v] = some x) :
    ∃ bs : List BM, SlB W v bs ∧ BdB bs := by
  rcases open_slice Try.underlying60 hf with ⟨hcs, hx⟩ | ⟨a, len', cap', m, n, D, Pl, hcs, _, hl, hm, hmm, hx, hi⟩
  · cases hcs
    exact ⟨[], ⟨none, 0, rfl, by simp, by simp, fun c => absurd rfl c⟩, fun i hi => by simp at hi⟩
  · cases hcs
    simp only [if_true] at hmm
    have hel : ∀ i, i < len' → ∃ Y : BM, ∃ z u : Value, W.cell? (a.add (i * 2)) = some z ∧ W.cell? (a.add (i * 2 + 1)) = some u ∧ SlK W z Y.ks ∧ Fr.SlM W u Y.m ∧ BdK Y.ks := fun i hi2 => by
      obtain ⟨cs', h1, h2⟩ := hi i (by omega)
      rw [cellsLB] at h1
      obtain ⟨_, hlen, hcell⟩ := World.cells?_some h1
      match cs', hlen with
      | [v0, v1], _ =>
        have e0 := hcell 0 (by omega)
        have e1 := hcell 1 (by omega)
        rw [add_add] at e0 e1
        obtain ⟨Y, ⟨z, u, e, hz, hu⟩, hb⟩ := open_blockR (v0 := v0) (v1 := v1) h2
        simp at e
        obtain ⟨rfl, rfl⟩ := e
        exact ⟨Y, v0, v1, by simpa using e0, by simpa using e1, hz, hu, hb⟩
    obtain ⟨R, hR⟩ := choose_lt (α := BM) (p := fun i Y => ∃ z u : Value, W.cell? (a.add (i * 2)) = some z ∧ W.cell? (a.add (i * 2 + 1)) = some u ∧ SlK W z Y.ks ∧ Fr.SlM W u Y.m ∧ BdK Y.ks) hel
    refine ⟨(List.range len').map R, ⟨some a, cap', by simp, by simpa using hl, by unfold maxLen at hm; omega, fun hne => ?_⟩, fun i hi2 => ?_⟩
    · have hlen : 0 < len' := by
        rcases Nat.eq_zero_or_pos len' with h0 | h0
        · subst h0; exact absurd rfl hne
        · exact h0
      obtain ⟨b, off, spot⟩ := a
      have hspot : spot = none := by
        obtain ⟨z, u, h0, _⟩ := hR 0 hlen
        simpa [Addr.add] using World.cell?_spot h0
      subst hspot
      refine ⟨b, off, rfl, ?_, fun i hi2 => ?_⟩
      · obtain ⟨z, u, h0, _⟩ := hR 0 hlen
        exact World.block_lt_of_cell? W _ h0
      · rw [List.length_map, List.length_range] at hi2
        obtain ⟨z, u, h0, h1, h2, h3, _⟩ := hR i hi2
        unfold BRow bAt
        rw [List.getElem?_map, List.getElem?_range hi2]
        rw [add_plain] at h0 h1
        exact ⟨z, u, h0, h1, h2, h3⟩
    · rw [List.length_map, List.length_range] at hi2
      obtain ⟨z, u, _, _, _, _, h4⟩ := hR i hi2
      unfold bAt
      rw [List.getElem?_map, List.getElem?_range hi2]
      exact h4
/-- a certificate as numbers -/
structure CM where
  s : Int
  bs : List BM
def CtS (w : World) (v : Value) (Y : CM) : Prop := ∃ u, v = .agg #[.int .i64 Y.s, u] ∧ SlB w u Y.bs
theorem CtS.below {w w' : World} {v : Value} {Y : CM} (h : CtS w v Y) (hb : Below w.heap.size w w') : CtS w' v Y := by
  obtain ⟨u, e, h1⟩ := h
  exact ⟨u, e, h1.below hb⟩
theorem cellsLC : Try.prog.cellsOf 62 = 2 := by kernel_rfl
theorem cellsLBs : Try.prog.cellsOf 60 = 1 := by kernel_rfl
theorem open_cert {H : Type} {enc : TypeId × Value → H} {W : World} {base : Nat} {v : Value} {d : DataW H} {p : List MemPlace} (hv : Value.okWide Try.prog W .any base 62 v) (h : DataW.Trod enc Try.prog W 0 (fun _ => true) true 62 v d p) :
    ∃ Y : CM, CtS W v Y ∧ BdB Y.bs := by
  obtain ⟨cs, rfl, hsz⟩ := okWide_struct Try.underlying62 hv
  obtain ⟨fuel, hf⟩ := h
  rw [cellsLC] at hsz
  obtain ⟨l⟩ := cs
  match l, hsz with
  | [v0, v1], _ =>
    obtain ⟨y0, y1, n, _, _, h0, h1⟩ := trod_struct2 Try.underlying62 hf
    simp only [Value.cells, cellsKI, cellsLBs] at h0 h1
    obtain ⟨s, e0, _, _⟩ := DataW.trod_int Try.underlying2 h0
    simp at e0
    subst e0
    obtain ⟨bs, hbs, hb⟩ := open_bsR (v := v1) (by simpa using h1)
    exact ⟨⟨s, bs⟩, ⟨v1, rfl, hbs⟩, hb⟩
section
variable (w : World)
theorem szBS_ok (v : Value) (bs : List BM) (hS : SlB w v bs) (q : Int) (hq0 : 0 ≤ q) (hq : q ≤ 1048576) (hl : (bs.length : Int) + (totB bs bs.length : Nat) ≤ q) :
    Calls Try.prog 74 #[v, .int .i64 q] w fun r w' => r = .returned (.int .i64 (q - (bs.length : Int) - (totB bs bs.length : Nat))) ∧ Below w.heap.size w w' := by
  obtain ⟨a, cap, rfl, h1, h2, h3⟩ := hS.rows
  clear hS
  obtain ⟨n, hn⟩ : ∃ n, n = bs.length := ⟨_, rfl⟩
  rw [← hn] at hl h1 ⊢
  have h3' : Hid (0 < n → ∃ b off, a = some ⟨b, off, none⟩ ∧ b < w.heap.size ∧ ∀ i, i < n → BRow w b off (bAt bs i) i) := by rw [hn]; exact h3.out
  clear h3
  replace hn := Lib.hid hn
  go_enter Try.func74, Try.ntmps74
  go_wp2
  go_loopw [1, 5] (fun x i wr => ∃ k : Nat, k ≤ n ∧ i = .int .i64 k ∧ x = .int .i64 (q - (n : Int) - (totB bs k : Nat)) ∧ Below w.heap.size w wr) (fun _ i _ => n - (intOf i).toNat)
  case atStart => exact ⟨0, by omega, rfl, by simp [totB], by (repeat (first | exact Below.refl _ _ | assumption | refine bchain (by assumption) ?_ | refine balloc ?_ _ | apply Below.drew | apply below_drewN | (refine Below.alloc ?_ (by (try simp) <;> omega) _) | (refine Below.setCell ?_ (by (try simp) <;> omega) _)))⟩
  case round =>
    obtain ⟨k, hk, rfl, rfl, hB⟩ := hrel
    have ht := totB_mono bs hk
    by_cases hlt : k < n
    · obtain ⟨b, off, rfl, hb, hg⟩ := h3'.out (by omega)
      obtain ⟨z, u, hz, hu, hSz, hSu⟩ := hg k hlt
      have ht2 := totB_mono bs (show k + 1 ≤ n from hlt)
      have e1 : (q - (n : Int) - (totB bs k : Nat)) - ((bAt bs k).ks.length : Int) - ((bAt bs k).m.length : Int) - (Fr.tot (bAt bs k).m (bAt bs k).m.length : Nat) = q - (n : Int) - (totB bs (k + 1) : Nat) := by rw [totB]; unfold wtB; push_cast; omega
      have hw : ((bAt bs k).ks.length : Int) + (((bAt bs k).m.length : Int) + (Fr.tot (bAt bs k).m (bAt bs k).m.length : Nat)) ≤ q - (n : Int) - (totB bs k : Nat) := by
        have : totB bs (k + 1) = totB bs k + ((bAt bs k).ks.length + ((bAt bs k).m.length + Fr.tot (bAt bs k).m (bAt bs k).m.length)) := by rw [totB]; rfl
        omega
      have g0 : 0 ≤ q - (n : Int) - (totB bs (k + 1) : Nat) := by omega
      have hC := Lib.hid (fun W (hb : Below w.heap.size w W) => szB_ok W (.agg #[z, u]) (bAt bs k) ⟨z, u, rfl, hSz.below hb, hSu.below hb⟩ (q - (n : Int) - (totB bs k : Nat)) (by omega) (by omega) hw)
      rw [e1] at hC
      have s0 : wr.cell? ⟨b, off + k * 2, none⟩ = some z := (hB.cell (p := ⟨b, _, none⟩) hb).trans hz
      have s1 : wr.cell? ⟨b, off + k * 2 + 1, none⟩ = some u := (hB.cell (p := ⟨b, _, none⟩) hb).trans hu
      obtain ⟨a2, c2, rfl, _⟩ := hSz
      obtain ⟨a3, c3, rfl, _⟩ := hSu
      obtain ⟨m1, hm1⟩ : ∃ l, (bAt bs k).ks.length = l := ⟨_, rfl⟩
      obtain ⟨m2, hm2⟩ : ∃ l, (bAt bs k).m.length = l := ⟨_, rfl⟩
      rw [hm1] at hC s0
      rw [hm2] at hC s1
      obtain ⟨y, hy⟩ : ∃ y, q - (n : Int) - (totB bs (k + 1) : Nat) = y := ⟨_, rfl⟩
      rw [hy] at hC g0
      obtain ⟨x, hx⟩ : ∃ x, q - (n : Int) - (totB bs k : Nat) = x := ⟨_, rfl⟩
      rw [hx] at hC ⊢
      have hkn : (k : Int) < (n : Int) := by omega
      clear hg hz hu e1 ht ht2 hx hw hm1 hm2
      go_wp2_with fail
      refine (hC.out _ hB).mono ?_
      rintro r3 w3 ⟨rfl, hb3⟩
      go_wp2
      go_roundw
      case rel => exact ⟨k + 1, by omega, by go_num, by rw [hy], bchain hb3 hB⟩
      case measure => simp [intOf]; omega
    · have hd := decide_eq_false (show ¬ ((k : Int) < (n : Int)) by omega)
      obtain rfl : k = n := by omega
      go_wp2
      go_ret
      exact ⟨rfl, hB⟩
theorem szBS_bad (v : Value) (bs : List BM) (hS : SlB w v bs) (q : Int) (hq0 : 0 ≤ q) (hq : q ≤ 1048576) (hl : q < (bs.length : Int) + (totB bs bs.length : Nat)) :
    Calls Try.prog 74 #[v, .int .i64 q] w fun r w' => r = .returned (.int .i64 (-1)) ∧ Below w.heap.size w w' := by
  obtain ⟨a, cap, rfl, h1, h2, h3⟩ := hS.rows
  clear hS
  obtain ⟨n, hn⟩ : ∃ n, n = bs.length := ⟨_, rfl⟩
  rw [← hn] at hl h1 ⊢
  have h3' : Hid (0 < n → ∃ b off, a = some ⟨b, off, none⟩ ∧ b < w.heap.size ∧ ∀ i, i < n → BRow w b off (bAt bs i) i) := by rw [hn]; exact h3.out
  clear h3
  replace hn := Lib.hid hn
  by_cases hnq : (n : Int) ≤ q
  · have g1 : 0 ≤ q - (n : Int) := by omega
    go_enter Try.func74, Try.ntmps74
    go_wp2
    go_loopw [1, 5] (fun x i wr => ∃ k : Nat, k ≤ n ∧ i = .int .i64 k ∧ x = .int .i64 (q - (n : Int) - (totB bs k : Nat)) ∧ (totB bs k : Int) ≤ q - (n : Int) ∧ Below w.heap.size w wr) (fun _ i _ => n - (intOf i).toNat)
    case atStart => exact ⟨0, by omega, rfl, by simp [totB], by simp [totB]; omega, by (repeat (first | exact Below.refl _ _ | assumption | refine bchain (by assumption) ?_ | refine balloc ?_ _ | apply Below.drew | apply below_drewN | (refine Below.alloc ?_ (by (try simp) <;> omega) _) | (refine Below.setCell ?_ (by (try simp) <;> omega) _)))⟩
    case round =>
      obtain ⟨k, hk, rfl, rfl, hfit, hB⟩ := hrel
      have hlt : k < n := by
        by_cases c : k = n
        · subst c; omega
        · omega
      obtain ⟨b, off, rfl, hb, hg⟩ := h3'.out (by omega)
      obtain ⟨z, u, hz, hu, hSz, hSu⟩ := hg k hlt
      have s0 : wr.cell? ⟨b, off + k * 2, none⟩ = some z := (hB.cell (p := ⟨b, _, none⟩) hb).trans hz
      have s1 : wr.cell? ⟨b, off + k * 2 + 1, none⟩ = some u := (hB.cell (p := ⟨b, _, none⟩) hb).trans hu
      have hkn : (k : Int) < (n : Int) := by omega
      have et : totB bs (k + 1) = totB bs k + ((bAt bs k).ks.length + ((bAt bs k).m.length + Fr.tot (bAt bs k).m (bAt bs k).m.length)) := by rw [totB]; rfl
      by_cases hw : ((bAt bs k).ks.length : Int) + (((bAt bs k).m.length : Int) + (Fr.tot (bAt bs k).m (bAt bs k).m.length : Nat)) ≤ q - (n : Int) - (totB bs k : Nat)
      · have e1 : (q - (n : Int) - (totB bs k : Nat)) - ((bAt bs k).ks.length : Int) - ((bAt bs k).m.length : Int) - (Fr.tot (bAt bs k).m (bAt bs k).m.length : Nat) = q - (n : Int) - (totB bs (k + 1) : Nat) := by omega
        have g0 : 0 ≤ q - (n : Int) - (totB bs (k + 1) : Nat) := by omega
        have hC := Lib.hid (fun W (hb : Below w.heap.size w W) => szB_ok W (.agg #[z, u]) (bAt bs k) ⟨z, u, rfl, hSz.below hb, hSu.below hb⟩ (q - (n : Int) - (totB bs k : Nat)) (by omega) (by omega) hw)
        rw [e1] at hC
        obtain ⟨a2, c2, rfl, _⟩ := hSz
        obtain ⟨a3, c3, rfl, _⟩ := hSu
        obtain ⟨m1, hm1⟩ : ∃ l, (bAt bs k).ks.length = l := ⟨_, rfl⟩
        obtain ⟨m2, hm2⟩ : ∃ l, (bAt bs k).m.length = l := ⟨_, rfl⟩
        rw [hm1] at hC s0
        rw [hm2] at hC s1
        obtain ⟨y, hy⟩ : ∃ y, q - (n : Int) - (totB bs (k + 1) : Nat) = y := ⟨_, rfl⟩
        have hy2 : ((totB bs (k + 1) : Nat) : Int) ≤ q - (n : Int) := by omega
        rw [hy] at hC g0
        obtain ⟨x, hx⟩ : ∃ x, q - (n : Int) - (totB bs k : Nat) = x := ⟨_, rfl⟩
        rw [hx] at hC ⊢
        clear hg hz hu e1 hx hw et hfit hm1 hm2
        go_wp2_with fail
        refine (hC.out _ hB).mono ?_
        rintro r3 w3 ⟨rfl, hb3⟩
        go_wp2
        go_roundw
        case rel => exact ⟨k + 1, by omega, by go_num, by rw [hy], hy2, bchain hb3 hB⟩
        case measure => simp [intOf]; omega
      · have hC := Lib.hid (fun W (hb : Below w.heap.size w W) => szB_bad W (.agg #[z, u]) (bAt bs k) ⟨z, u, rfl, hSz.below hb, hSu.below hb⟩ (q - (n : Int) - (totB bs k : Nat)) (by omega) (by omega) hw)
        obtain ⟨a2, c2, rfl, _⟩ := hSz
        obtain ⟨a3, c3, rfl, _⟩ := hSu
        obtain ⟨m1, hm1⟩ : ∃ l, (bAt bs k).ks.length = l := ⟨_, rfl⟩
        obtain ⟨m2, hm2⟩ : ∃ l, (bAt bs k).m.length = l := ⟨_, rfl⟩
        rw [hm1] at hC s0
        rw [hm2] at hC s1
        obtain ⟨x, hx⟩ : ∃ x, q - (n : Int) - (totB bs k : Nat) = x := ⟨_, rfl⟩
        rw [hx] at hC ⊢
        clear hg hz hu hx hw et hfit hm1 hm2
        go_wp2_with fail
        refine (hC.out _ hB).mono ?_
        rintro r3 w3 ⟨rfl, hb3⟩
        go_wp2
        go_ret
        exact ⟨rfl, bchain hb3 hB⟩
  · have hw : IntKind.i64.wrap (q - (n : Int)) = q - (n : Int) := IntWalk.i64_in _ ⟨by omega, by omega⟩
    obtain ⟨y, hy⟩ : ∃ y, q - (n : Int) = y := ⟨_, rfl⟩
    have hd : decide (y < 0) = true := decide_eq_true (by omega)
    rw [hy] at hw
    clear h3' hl hnq hn
    go_enter Try.func74, Try.ntmps74
    go_wp2
    go_ret
    exact ⟨rfl, by (repeat (first | exact Below.refl _ _ | assumption | refine bchain (by assumption) ?_ | refine balloc ?_ _ | apply Below.drew | apply below_drewN | (refine Below.alloc ?_ (by (try simp) <;> omega) _) | (refine Below.setCell ?_ (by (try simp) <;> omega) _)))⟩
theorem toBS_empty (a : Option Addr) (cap : Nat) :
    Calls Try.prog 77 #[.slice a 0 cap] w fun r w' => (∃ v, r = .returned v ∧ OwnB w.heap.size w' v []) ∧ Below w.heap.size w w' := by
  obtain ⟨i0, hi0, hz0, hs0, hb0⟩ := info_parts info_block
  have hmk : ∀ W : World, (Instr.makeSlice 65 (.int .i64 0) (.int .i64 0)).run Try.prog W = .ok (.slice (some ⟨W.heap.size, 0, none⟩) 0 0) (W.alloc (.cells (madeCells #[.slice none 0 0, .slice none 0 0] (0 * 2)) 56)) := fun W => by
    have hr := run_make (P := Try.prog) W 65 56 i0 (.agg #[.slice none 0 0, .slice none 0 0]) Try.underlying65 hi0 hz0 .i64 .i64 ((0 : Nat) : Int) ((0 : Nat) : Int) (by omega) (by omega) (by rw [hb0]; omega) (by omega)
    simp only [Int.toNat_natCast, hs0] at hr
    exact hr
  clear hi0 hz0 hs0 hb0
  go_enter Try.func77, Try.ntmps77
  go_wp2
  go_loopw [4] (fun i wr => i = .int .i64 0 ∧ Below w.heap.size w wr) (fun _ _ => 0)
  case atStart => exact ⟨rfl, by (repeat (first | exact Below.refl _ _ | assumption | refine bchain (by assumption) ?_ | refine balloc ?_ _ | apply Below.drew | apply below_drewN | (refine Below.alloc ?_ (by (try simp) <;> omega) _) | (refine Below.setCell ?_ (by (try simp) <;> omega) _)))⟩
  case round =>
    obtain ⟨rfl, hb⟩ := hrel
    go_wp2
    go_ret
    exact ⟨⟨_, rfl, _, _, rfl, by simp, by simp, fun c => absurd rfl c⟩, hb⟩
set_option maxHeartbeats 2000000 in
theorem toBS_some (b off cap : Nat) (bs : List BM) (h1 : 0 < bs.length) (h2 : bs.length ≤ cap) (hm : bs.length + totB bs bs.length ≤ 1048576) (hb : b < w.heap.size) (hc : ∀ i, i < bs.length → BRow w b off (bAt bs i) i) :
    Calls Try.prog 77 #[.slice (some ⟨b, off, none⟩) bs.length cap] w fun r w' => (∃ v, r = .returned v ∧ OwnB w.heap.size w' v bs) ∧ Below w.heap.size w w' := by
  obtain ⟨i0, hi0, hz0, hs0, hb0⟩ := info_parts info_block
  have hwt := Lib.hid (fun i (hi : i < bs.length) => wtB_le bs hi)
  obtain ⟨O, hO⟩ : ∃ O, O = Obj.cells (madeCells #[.slice none 0 0, .slice none 0 0] (bs.length * 2)) 56 := ⟨_, rfl⟩
  obtain ⟨n, hn⟩ : ∃ n, n = bs.length := ⟨_, rfl⟩
  rw [← hn] at h1 h2 hm hO hwt ⊢
  have hmk : ∀ W : World, (Instr.makeSlice 65 (.int .i64 n) (.int .i64 n)).run Try.prog W = .ok (.slice (some ⟨W.heap.size, 0, none⟩) n n) (W.alloc O) := fun W => by
    have hr := run_make (P := Try.prog) W 65 56 i0 (.agg #[.slice none 0 0, .slice none 0 0]) Try.underlying65 hi0 hz0 .i64 .i64 (n : Int) (n : Int) (by omega) (by omega) (by rw [hb0]; omega) (by omega)
    simp only [Int.toNat_natCast, hs0] at hr
    rw [hO]
    exact hr
  clear hi0 hz0 hs0 hb0
  replace hO := Lib.hid hO
  replace hn := Lib.hid hn
  replace hc := Lib.hid hc
  go_enter Try.func77, Try.ntmps77
  go_wp2
  go_loopw [4] (fun i wr => ∃ k : Nat, k ≤ n ∧ i = .int .i64 k ∧ HalfB wr w.heap.size k bs ∧ (∀ o, wr.frozen? ⟨w.heap.size, o, none⟩ = false) ∧ w.heap.size < wr.heap.size ∧ Below w.heap.size w wr) (fun i _ => n - (intOf i).toNat)
  case atStart => exact ⟨0, by omega, rfl, by rw [hO.out]; exact madeB _ _ _ _ _ rfl hn.out.symm, fun o => by rw [hO.out]; simp, by simp, by (repeat (first | exact Below.refl _ _ | assumption | refine bchain (by assumption) ?_ | refine balloc ?_ _ | apply Below.drew | apply below_drewN | (refine Below.alloc ?_ (by (try simp) <;> omega) _) | (refine Below.setCell ?_ (by (try simp) <;> omega) _)))⟩
  case round =>
    obtain ⟨k, hk, rfl, hh, hf, hz, hB⟩ := hrel
    by_cases hlt : k < n
    · obtain ⟨z, u, hzc, huc, hSz, hSu⟩ := hc.out k (by have := hn.out; omega)
      have s0 : wr.cell? ⟨b, off + k * 2, none⟩ = some z := (hB.cell (p := ⟨b, _, none⟩) hb).trans hzc
      have s1 : wr.cell? ⟨b, off + k * 2 + 1, none⟩ = some u := (hB.cell (p := ⟨b, _, none⟩) hb).trans huc
      have hw := hwt.out k hlt
      unfold wtB at hw
      have hT := Lib.hid (toB_any wr (.agg #[z, u]) (bAt bs k) ⟨z, u, rfl, hSz.below hB, hSu.below hB⟩ (by omega) (by omega) (fun i hi => by have := Fr.row_le (bAt bs k).m hi; omega))
      have hset := Lib.hid (fun (W : World) (z u : Value) (h : HalfB W w.heap.size k bs) (h1 : SlK W z (bAt bs k).ks) (h2 : Fr.SlM W u (bAt bs k).m) (h3 : NewN (w.heap.size + 1) u (bAt bs k).m) => h.set (k := k) (by have := hn.out; omega) h1 h2 h3)
      obtain ⟨a2, c2, rfl, _⟩ := hSz
      obtain ⟨a3, c3, rfl, _⟩ := hSu
      obtain ⟨m1, hm1⟩ : ∃ l, (bAt bs k).ks.length = l := ⟨_, rfl⟩
      obtain ⟨m2, hm2⟩ : ∃ l, (bAt bs k).m.length = l := ⟨_, rfl⟩
      rw [hm1, hm2] at hT
      rw [hm1] at s0
      rw [hm2] at s1
      clear hzc huc hw hm1 hm2
      replace hh := Lib.hid hh
      replace hf := Lib.hid hf
      go_wp2_with fail
      refine hT.out.mono ?_
      rintro r3 w3 ⟨⟨z3, u3, rfl, hz3v, hu3v, hnew⟩, hb3⟩
      have hh3 := hh.out.below hb3 hz
      have hz3 := Nat.lt_of_lt_of_le hz hb3.size
      have ht := hh3 k (by have := hn.out; omega)
      rw [if_neg (by omega)] at ht
      obtain ⟨ht0, ht1⟩ := ht
      have hf3 : ∀ o, w3.frozen? ⟨w.heap.size, o, none⟩ = false := fun o => (hb3.frozen (p := ⟨w.heap.size, o, none⟩) hz).trans (hf.out o)
      have f0 := hf3 (k * 2)
      have f1 := hf3 (k * 2 + 1)
      have hn2 := Lib.hid (hset.out w3 z3 u3 hh3 hz3v hu3v (fun a l c e hm b off hb => Nat.le_trans hz (hnew a l c e hm b off hb)))
      replace hf3 := Lib.hid hf3
      obtain ⟨a4, c4, rfl, _⟩ := hz3v
      obtain ⟨a5, c5, rfl, _⟩ := hu3v
      clear hh3 hnew
      go_wp2
      go_roundw
      case rel => exact ⟨k + 1, by omega, by go_num, hn2.out, fun o => by simp [hf3.out o], by simp; omega, by (repeat (first | exact Below.refl _ _ | assumption | refine bchain (by assumption) ?_ | refine balloc ?_ _ | apply Below.drew | apply below_drewN | (refine Below.alloc ?_ (by (try simp) <;> omega) _) | (refine Below.setCell ?_ (by (try simp) <;> omega) _)))⟩
      case measure => simp [intOf]; omega
    · have hd := decide_eq_false (show ¬ ((k : Int) < (n : Int)) by omega)
      obtain rfl : k = n := by omega
      replace hh := Lib.hid hh
      replace hf := Lib.hid hf
      go_wp2
      go_ret
      refine ⟨⟨_, rfl, ?_⟩, hB⟩
      have e := hn.out
      subst e
      refine ⟨_, _, rfl, Nat.le_refl _, by omega, fun _ => ⟨w.heap.size, 0, rfl, Nat.le_refl _, hz, fun i hi => ?_⟩⟩
      have := hh.out i hi
      rw [if_pos hi] at this
      obtain ⟨z, u, g0, g1, g2, g3, g4⟩ := this
      exact ⟨z, u, g0, g1, g2, g3, fun a l c e hm b off hb => Nat.le_trans (Nat.le_succ _) (g4 a l c e hm b off hb)⟩
theorem toBS_any (v : Value) (bs : List BM) (h : SlB w v bs) (hm : bs.length + totB bs bs.length ≤ 1048576) :
    Calls Try.prog 77 #[v] w fun r w' => (∃ u, r = .returned u ∧ OwnB w.heap.size w' u bs) ∧ Below w.heap.size w w' := by
  obtain ⟨a, cap, rfl, h1, h2, h3⟩ := h
  cases bs with
  | nil => exact toBS_empty w a cap
  | cons z zs =>
    obtain ⟨b, off, rfl, hb, hc⟩ := h3 (by simp)
    exact toBS_some w b off cap (z :: zs) (by simp) h1 hm hb hc
set_option maxHeartbeats 2000000 in
theorem eqBS_any (u v : Value) (bs : List BM) (h : SlB w u bs) (h' : SlB w v bs) (hm : bs.length + totB bs bs.length ≤ 1048576) :
    Calls Try.prog 82 #[u, v] w fun r w' => r = .returned (.bool true) ∧ Below w.heap.size w w' := by
  obtain ⟨a, cap, rfl, h1, h2, h3⟩ := h.rows
  obtain ⟨a', cap', rfl, h1', h2', h3'⟩ := h'.rows
  clear h h'
  have hwt := Lib.hid (fun i (hi : i < bs.length) => wtB_le bs hi)
  obtain ⟨n, hn⟩ : ∃ n, bs.length = n := ⟨_, rfl⟩
  rw [hn] at hm h1 h1' h3 h3' hwt ⊢
  clear hn
  go_enter Try.func82, Try.ntmps82
  go_wp2
  go_loopw [5] (fun i wr => ∃ k : Nat, k ≤ n ∧ i = .int .i64 k ∧ Below w.heap.size w wr) (fun i _ => n - (intOf i).toNat)
  case atStart => exact ⟨0, by omega, rfl, by (repeat (first | exact Below.refl _ _ | assumption | refine bchain (by assumption) ?_ | refine balloc ?_ _ | apply Below.drew | apply below_drewN | (refine Below.alloc ?_ (by (try simp) <;> omega) _) | (refine Below.setCell ?_ (by (try simp) <;> omega) _)))⟩
  case round =>
    obtain ⟨k, hk, rfl, hB⟩ := hrel
    by_cases hlt : k < n
    · obtain ⟨b, off, rfl, hb, hg⟩ := h3.out (by omega)
      obtain ⟨b', off', rfl, hb', hg'⟩ := h3'.out (by omega)
      obtain ⟨z, u, hzc, huc, hSz, hSu⟩ := hg k hlt
      obtain ⟨z', u', hzc', huc', hSz', hSu'⟩ := hg' k hlt
      have hw := hwt.out k hlt
      unfold wtB at hw
      have hE := Lib.hid (fun W (hb : Below wr.heap.size wr W) => eqB_any W (bAt bs k) z u z' u' ((hSz.below hB).below hb) ((hSu.below hB).below hb) ((hSz'.below hB).below hb) ((hSu'.below hB).below hb) (by omega) (by omega) (fun i hi => by have := Fr.row_le (bAt bs k).m hi; omega))
      have hbz : b < wr.heap.size := by have := hB.size; omega
      have hbz' : b' < wr.heap.size := by have := hB.size; omega
      have q0 := bw_cell hbz ((hB.cell (p := ⟨b, _, none⟩) hb).trans hzc)
      have q1 := bw_cell hbz ((hB.cell (p := ⟨b, _, none⟩) hb).trans huc)
      have p0 := bw_cell hbz' ((hB.cell (p := ⟨b', _, none⟩) hb').trans hzc')
      have p1 := bw_cell hbz' ((hB.cell (p := ⟨b', _, none⟩) hb').trans huc')
      obtain ⟨a2, c2, rfl, _⟩ := hSz
      obtain ⟨a3, c3, rfl, _⟩ := hSu
      obtain ⟨a4, c4, rfl, _⟩ := hSz'
      obtain ⟨a5, c5, rfl, _⟩ := hSu'
      obtain ⟨m1, hm1⟩ : ∃ l, (bAt bs k).ks.length = l := ⟨_, rfl⟩
      obtain ⟨m2, hm2⟩ : ∃ l, (bAt bs k).m.length = l := ⟨_, rfl⟩
      rw [hm1, hm2] at hE
      simp only [hm1] at q0 p0
      simp only [hm2] at q1 p1
      have hkn : (k : Int) < (n : Int) := by omega
      have hk0 : (0 : Int) ≤ (k : Int) := by omega
      clear hzc huc hzc' huc' hw hg hg' hm1 hm2
      go_wp2_with fail
      refine wp_region_below (by kernel_rfl) (by kernel_rfl) ?_
      iterate 8 (quiet_step (fail))
      refine wpQuiet_step (fun K hK => ?_)
      go_simp
      apply Exists.intro
      refine ⟨fun p => ?_, hK _ ?_⟩
      · exact bw_of (w := wr) (p := p) (hE.out p.W p.h)
      clear hK K
      iterate 1 (quiet_step (fail))
      refine wpQuiet_nil ?_
      intro w3 hw'
      obtain ⟨⟨wx, hb_w3⟩, rfl⟩ := hw'
      go_wp2
      go_roundw
      case rel => exact ⟨k + 1, by omega, by go_num, hB.trans (hb_w3.mono hB.size)⟩
      case measure => simp [intOf]; omega
    · have hd := decide_eq_false (show ¬ ((k : Int) < (n : Int)) by omega)
      go_wp2
      go_ret
      exact ⟨rfl, hB⟩
end
end Go.Proofs.Ytfpoekdcedbciaa
