/-
  LISTS OF PAIRS OF int64 THAT COME IN: opened to their cells; copied.
-/
import Derived.Test.YtoiepgdjknpjiaaOpen
import Derived.Test.YtoiepgdjknpjiaaPrsL
import Derived.Test.YtoiepgdjknpjiaaMade
import Derived.Deep.Slices
import Derived.Deep.OwnRows
import Derived.Lib.Hide
namespace Go.Proofs.Ytoiepgdjknpjiaa
open Go.ChangeShapes Go.WideShapes Go.ChangeAt Go.RowKit Go.Deep
set_option maxRecDepth 100000

def pf (ps : List (Int × Int)) (i : Nat) : Int × Int := ps[i]?.getD (0, 0)
def SlP (w : World) (v : Value) (ps : List (Int × Int)) : Prop :=
  ∃ (a : Option Addr) (cap : Nat), v = .slice a ps.length cap ∧ ps.length ≤ 9223372036854775807 ∧
    (0 < ps.length → ∃ b off, a = some ⟨b, off, none⟩ ∧ b < w.heap.size ∧ ∀ i, i < ps.length → w.cell? ⟨b, off + i * 2, none⟩ = some (.int .i64 (pf ps i).1) ∧ w.cell? ⟨b, off + i * 2 + 1, none⟩ = some (.int .i64 (pf ps i).2))
theorem SlP.below {w w' : World} {v : Value} {ps : List (Int × Int)} (h : SlP w v ps) (hb : Below w.heap.size w w') : SlP w' v ps := by
  obtain ⟨a, cap, e, h1, h3⟩ := h
  refine ⟨a, cap, e, h1, fun hz => ?_⟩
  obtain ⟨b, off, e2, hlt, hc⟩ := h3 hz
  exact ⟨b, off, e2, Nat.lt_of_lt_of_le hlt hb.size, fun i hi => ⟨(hb.cell (p := ⟨b, _, none⟩) hlt).trans (hc i hi).1, (hb.cell (p := ⟨b, _, none⟩) hlt).trans (hc i hi).2⟩⟩
theorem add_add1 (a : Addr) (k : Nat) : a.add (k + 1) = (a.add k).add 1 := by
  unfold Addr.add
  by_cases h : k = 0
  · subst h; simp
  · simp [h, Nat.add_assoc]
theorem cells_a2 : Try.prog.cellsOf 90 = 2 := by kernel_rfl
theorem cells_i64 : Try.prog.cellsOf 2 = 1 := by kernel_rfl
theorem open_a2s {H : Type} {enc : TypeId × Value → H} {W : World} {base : Nat} {v : Value} {d : DataW H} {p : List MemPlace} (hv : Value.okWide Try.prog W .any base 46 v) (h : DataW.Trod enc Try.prog W 0 (fun _ => true) true 46 v d p) :
    ∃ ps : List (Int × Int), SlP W v ps := by
  obtain ⟨a0, len, cap, rfl⟩ := okWide_slice Try.underlying46 hv
  obtain ⟨fuel, hf⟩ := h
  rcases open_slice Try.underlying46 hf with ⟨hcs, hx⟩ | ⟨a, len', cap', m, n, D, Pl, hcs, _, hl, hm, hmm, hx, hi⟩
  · simp only [Value.cells] at hcs
    cases hcs
    exact ⟨[], none, 0, rfl, by simp, fun c => by simp at c⟩
  · simp only [Value.cells] at hcs
    cases hcs
    simp only [if_true] at hmm
    have hel : ∀ i, i < len → ∃ x y : Int, W.cell? (a.add (i * 2)) = some (.int .i64 x) ∧ W.cell? (a.add (i * 2 + 1)) = some (.int .i64 y) := fun i hi2 => by
      obtain ⟨cs', hc, ht⟩ := hi i (by omega)
      rw [cells_a2] at hc
      obtain ⟨_, hcl, hat⟩ := World.cells?_some hc
      obtain ⟨xs, k, _, _, _, hxl, hg⟩ := DataW.trod_array Try.underlying90 ht
      match xs, hxl, cs', hcl with
      | [y0, y1], _, [v0, v1], _ =>
        have g0 := hg 0 (by omega)
        have g1 := hg 1 (by omega)
        rw [cells_i64] at g0 g1
        simp at g0 g1
        have c0 := hat 0 (by omega)
        have c1 := hat 1 (by omega)
        obtain ⟨x, e0, _, _⟩ := DataW.trod_int Try.underlying2 g0
        obtain ⟨y, e1, _, _⟩ := DataW.trod_int Try.underlying2 g1
        simp at e0 e1 c0 c1
        subst e0 e1
        refine ⟨x, y, ?_, ?_⟩
        · rw [← c0]; congr 1
        · rw [← c1, add_add1]
    refine ⟨(List.range len).map fun i => ((W.cell? (a.add (i * 2))).elim 0 intOf, (W.cell? (a.add (i * 2 + 1))).elim 0 intOf), some a, cap, by simp, by simp; unfold maxLen at hm; omega, fun hne => ?_⟩
    rw [List.length_map, List.length_range] at hne ⊢
    obtain ⟨b, off, spot⟩ := a
    have hspot : spot = none := by
      obtain ⟨x, y, h0, _⟩ := hel 0 hne
      simpa [Addr.add] using World.cell?_spot h0
    subst hspot
    refine ⟨b, off, rfl, ?_, fun i hi2 => ?_⟩
    · obtain ⟨x, y, h0, _⟩ := hel 0 hne
      exact World.block_lt_of_cell? W _ h0
    · obtain ⟨x, y, h0, h1⟩ := hel i hi2
      unfold pf
      rw [List.getElem?_map, List.getElem?_range hi2]
      simp only [Option.map_some, Option.getD_some, h0, h1, Option.elim_some, intOf]
      rw [add_plain] at h0 h1
      exact ⟨h0, h1⟩

/-- the first k of f, zeros behind -/
def hfa (f : Nat → Int × Int) (k i : Nat) : Int × Int := if i < k then f i else (0, 0)
theorem CA.put {w : World} {B n k : Nat} {f : Nat → Int × Int} (h : CA w B n (hfa f k)) (hk : k < n) : CA ((w.setCell ⟨B, k * 2, none⟩ (.int .i64 (f k).1)).setCell ⟨B, k * 2 + 1, none⟩ (.int .i64 (f k).2)) B n (hfa f (k + 1)) := by
  intro i hi
  have hi2 := h i hi
  unfold hfa at hi2 ⊢
  by_cases e : i = k
  · subst e
    rw [if_pos (by omega)]
    exact ⟨(World.cell?_setCell_other _ _ _ _ (by simp)).trans (World.cell?_setCell_same _ _ _ hi2.1), World.cell?_setCell_same _ _ _ ((World.cell?_setCell_other _ _ _ _ (by simp)).trans hi2.2)⟩
  · rw [show (if i < k + 1 then f i else (0, 0)) = (if i < k then f i else (0, 0)) by
      by_cases c : i < k
      · rw [if_pos c, if_pos (by omega)]
      · rw [if_neg c, if_neg (by omega)]]
    exact ⟨(World.cell?_setCell_other _ _ _ _ (by simp <;> omega)).trans ((World.cell?_setCell_other _ _ _ _ (by simp <;> omega)).trans hi2.1), (World.cell?_setCell_other _ _ _ _ (by simp <;> omega)).trans ((World.cell?_setCell_other _ _ _ _ (by simp <;> omega)).trans hi2.2)⟩
theorem info_ap : (Try.prog.info? 90).map (fun i => (i.zero, i.size, i.bytes)) = some (some (.agg #[.int .i64 0, .int .i64 0]), 2, 16) := by kernel_rfl
theorem madeA (w : World) (n B : Nat) (e : TypeId) (f : Nat → Int × Int) (hB : B = w.heap.size) : CA (w.alloc (.cells (madeCells #[.int .i64 0, .int .i64 0] (n * 2)) e)) B n (hfa f 0) := by
  intro i hi
  subst hB
  unfold hfa
  rw [World.cell?_alloc_new, World.cell?_alloc_new, if_neg (by omega)]
  have h1 : i * 2 < n * 2 := by omega
  have h2 : i * 2 + 1 < n * 2 := by omega
  constructor
  · simp [madeCells, h1]
  · simp [madeCells, h2]
section
variable (w : World)
theorem szA_ok (a : Option Addr) (l cap : Nat) (hl : l ≤ 1048576) :
    Calls Try.prog 44 #[.slice a l cap, .int .i64 1048576] w fun r w' => r = .returned (.int .i64 (1048576 - (l : Int))) ∧ w = w' := by
  go_enter Try.func44, Try.ntmps44
  go_wp2
  go_ret
  exact ⟨rfl, rfl⟩
theorem szA_long (a : Option Addr) (l cap : Nat) (hl : 1048576 < l) (hm : l ≤ 9223372036854775807) :
    Calls Try.prog 44 #[.slice a l cap, .int .i64 1048576] w fun r w' => r = .returned (.int .i64 (-1)) ∧ w = w' := by
  go_enter Try.func44, Try.ntmps44
  go_wp2
  go_ret
  exact ⟨rfl, rfl⟩
theorem toA2s_empty (a : Option Addr) (cap : Nat) (f : Nat → Int × Int) :
    Calls Try.prog 46 #[.slice a 0 cap] w fun r w' => (∃ v, r = .returned v ∧ OwnA w w' v 0 f) ∧ Below w.heap.size w w' := by
  obtain ⟨i0, hi0, hz0, hs0, hb0⟩ := info_parts info_ap
  have hmk : ∀ W : World, (Instr.makeSlice 46 (.int .i64 0) (.int .i64 0)).run Try.prog W = .ok (.slice (some ⟨W.heap.size, 0, none⟩) 0 0) (W.alloc (.cells (madeCells #[.int .i64 0, .int .i64 0] (0 * 2)) 90)) := fun W => by
    have hr := run_make (P := Try.prog) W 46 90 i0 (.agg #[.int .i64 0, .int .i64 0]) Try.underlying46 hi0 hz0 .i64 .i64 ((0 : Nat) : Int) ((0 : Nat) : Int) (by omega) (by omega) (by rw [hb0]; omega) (by omega)
    simp only [Int.toNat_natCast, hs0] at hr
    exact hr
  clear hi0 hz0 hs0 hb0
  go_enter Try.func46, Try.ntmps46
  go_wp2
  go_loopw [4] (fun i wr => i = .int .i64 0 ∧ Below w.heap.size w wr) (fun _ _ => 0)
  case atStart => exact ⟨rfl, by (repeat (first | exact Below.refl _ _ | assumption | refine bchain (by assumption) ?_ | refine balloc ?_ _ | apply Below.drew | apply below_drewN | (refine Below.alloc ?_ (by (try simp) <;> omega) _) | (refine Below.setCell ?_ (by (try simp) <;> omega) _)))⟩
  case round =>
    obtain ⟨rfl, hb⟩ := hrel
    go_wp2
    go_ret
    exact ⟨⟨_, rfl, _, _, rfl, fun c => absurd c (by omega)⟩, hb⟩
set_option maxHeartbeats 1000000 in
theorem toA2s_some (b off cap n : Nat) (f : Nat → Int × Int) (h1 : 0 < n) (hm : n ≤ 1048576) (hb : b < w.heap.size) (hc : ∀ i, i < n → w.cell? ⟨b, off + i * 2, none⟩ = some (.int .i64 (f i).1) ∧ w.cell? ⟨b, off + i * 2 + 1, none⟩ = some (.int .i64 (f i).2)) :
    Calls Try.prog 46 #[.slice (some ⟨b, off, none⟩) n cap] w fun r w' => (∃ v, r = .returned v ∧ OwnA w w' v n f) ∧ Below w.heap.size w w' := by
  obtain ⟨i0, hi0, hz0, hs0, hb0⟩ := info_parts info_ap
  obtain ⟨O, hO⟩ : ∃ O, O = Obj.cells (madeCells #[.int .i64 0, .int .i64 0] (n * 2)) 90 := ⟨_, rfl⟩
  have hmk : ∀ W : World, (Instr.makeSlice 46 (.int .i64 n) (.int .i64 n)).run Try.prog W = .ok (.slice (some ⟨W.heap.size, 0, none⟩) n n) (W.alloc O) := fun W => by
    have hr := run_make (P := Try.prog) W 46 90 i0 (.agg #[.int .i64 0, .int .i64 0]) Try.underlying46 hi0 hz0 .i64 .i64 (n : Int) (n : Int) (by omega) (by omega) (by rw [hb0]; omega) (by omega)
    simp only [Int.toNat_natCast, hs0] at hr
    rw [hO]
    exact hr
  clear hi0 hz0 hs0 hb0
  replace hO := Lib.hid hO
  replace hc := Lib.hid hc
  go_enter Try.func46, Try.ntmps46
  go_wp2
  go_loopw [4] (fun i wr => ∃ k : Nat, k ≤ n ∧ i = .int .i64 k ∧ CA wr w.heap.size n (hfa f k) ∧ (∀ o, wr.frozen? ⟨w.heap.size, o, none⟩ = false) ∧ w.heap.size < wr.heap.size ∧ Below w.heap.size w wr) (fun i _ => n - (intOf i).toNat)
  case atStart => exact ⟨0, by omega, rfl, by rw [hO.out]; exact madeA _ _ _ _ _ rfl, fun o => by rw [hO.out]; simp, by simp, by (repeat (first | exact Below.refl _ _ | assumption | refine bchain (by assumption) ?_ | refine balloc ?_ _ | apply Below.drew | apply below_drewN | (refine Below.alloc ?_ (by (try simp) <;> omega) _) | (refine Below.setCell ?_ (by (try simp) <;> omega) _)))⟩
  case round =>
    obtain ⟨k, hk, rfl, hh, hf, hz, hB⟩ := hrel
    by_cases hlt : k < n
    · have hg := hc.out k (by omega)
      obtain ⟨x, y, hxy⟩ : ∃ x y, f k = (x, y) := ⟨_, _, rfl⟩
      have hs0 : wr.cell? ⟨b, off + k * 2, none⟩ = some (.int .i64 x) := by rw [hB.cell (p := ⟨b, _, none⟩) hb, hg.1, hxy]
      have hs1 : wr.cell? ⟨b, off + k * 2 + 1, none⟩ = some (.int .i64 y) := by rw [hB.cell (p := ⟨b, _, none⟩) hb, hg.2, hxy]
      have hset := Lib.hid (fun (W : World) (h : CA W w.heap.size n (hfa f k)) => h.put (k := k) (by omega))
      rw [hxy] at hset
      clear hg hxy
      replace hh := Lib.hid hh
      replace hf := Lib.hid hf
      go_wp2_with fail
      refine (toA2_any _ x y).mono ?_
      rintro r3 w3 ⟨rfl, hb3⟩
      have hh3 := hh.out.below hb3 hz
      have hz3 := Nat.lt_of_lt_of_le hz hb3.size
      have ht := hh3 k (by omega)
      unfold hfa at ht
      rw [if_neg (by omega)] at ht
      have t0 := ht.1
      have t1 := ht.2
      have hf3 : ∀ o, w3.frozen? ⟨w.heap.size, o, none⟩ = false := fun o => (hb3.frozen (p := ⟨w.heap.size, o, none⟩) hz).trans (hf.out o)
      have f0 := hf3 (k * 2)
      have f1 := hf3 (k * 2 + 1)
      have hn2 := Lib.hid (hset.out w3 hh3)
      replace hf3 := Lib.hid hf3
      clear hh3 ht
      go_wp2
      go_roundw
      case rel => exact ⟨k + 1, by omega, by go_num, hn2.out, fun o => by simp [hf3.out o], by simp; omega, by (repeat (first | exact Below.refl _ _ | assumption | refine bchain (by assumption) ?_ | refine balloc ?_ _ | apply Below.drew | apply below_drewN | (refine Below.alloc ?_ (by (try simp) <;> omega) _) | (refine Below.setCell ?_ (by (try simp) <;> omega) _)))⟩
      case measure => simp [intOf]; omega
    · have hd := decide_eq_false (show ¬ ((k : Int) < (n : Int)) by omega)
      obtain rfl : k = n := by omega
      replace hh := Lib.hid hh
      replace hf := Lib.hid hf
      go_wp2
      go_ret
      exact ⟨⟨_, rfl, _, _, rfl, fun _ => ⟨_, rfl, Nat.le_refl _, hz, hh.out.congr (fun i hi => by unfold hfa; rw [if_pos hi]), hf.out⟩⟩, hB⟩
theorem toA2s_any (v : Value) (ps : List (Int × Int)) (h : SlP w v ps) (hm : ps.length ≤ 1048576) :
    Calls Try.prog 46 #[v] w fun r w' => (∃ u, r = .returned u ∧ OwnA w w' u ps.length (pf ps)) ∧ Below w.heap.size w w' := by
  obtain ⟨a, cap, rfl, _, h3⟩ := h
  rcases Nat.eq_zero_or_pos ps.length with h0 | h0
  · rw [h0]; exact toA2s_empty w a cap _
  · obtain ⟨b, off, rfl, hb, hc⟩ := h3 h0
    exact toA2s_some w b off cap _ _ h0 hm hb hc
end
end Go.Proofs.Ytoiepgdjknpjiaa
