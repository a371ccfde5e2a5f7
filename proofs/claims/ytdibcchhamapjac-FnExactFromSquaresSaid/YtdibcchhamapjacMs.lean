/-
  LISTS OF ROWS: 'SlM w v m': in the world w the value v is a list of rows that holds the rows m. What measures such a list, copies it, and what holds two against each other.
-/
import Derived.Test.YtdibcchhamapjacFs
import Derived.Deep.RegionHeld3
namespace Go.Proofs.Ytdibcchhamapjac
open Go.RowKit
set_option maxRecDepth 100000

def rAt (m : List (List (Int × Int))) (i : Nat) : List (Int × Int) := m[i]?.getD []
def Row (w : World) (b off : Nat) (r : List (Int × Int)) (i : Nat) : Prop := ∃ u, w.cell? ⟨b, off + i, none⟩ = some u ∧ SlG w u r
theorem Row.below {w w' : World} {b off i : Nat} {r : List (Int × Int)} (h : Row w b off r i) (hb : Below w.heap.size w w') : Row w' b off r i := by
  obtain ⟨u, hc, hS⟩ := h
  exact ⟨u, (hb.cell (p := ⟨b, _, none⟩) (World.block_lt_of_cell? w _ hc)).trans hc, hS.below hb⟩
def SlM (w : World) (v : Value) (m : List (List (Int × Int))) : Prop :=
  ∃ (a : Option Addr) (cap : Nat), v = .slice a m.length cap ∧ m.length ≤ cap ∧ cap ≤ 9223372036854775807 ∧
    (m ≠ [] → ∃ b off, a = some ⟨b, off, none⟩ ∧ b < w.heap.size ∧ ∀ i, i < m.length → Row w b off (rAt m i) i)
theorem SlM.below {w w' : World} {v : Value} {m : List (List (Int × Int))} (h : SlM w v m) (hb : Below w.heap.size w w') : SlM w' v m := by
  obtain ⟨a, cap, e, h1, h2, h3⟩ := h
  refine ⟨a, cap, e, h1, h2, fun hz => ?_⟩
  obtain ⟨b, off, e2, hlt, hc⟩ := h3 hz
  exact ⟨b, off, e2, Nat.lt_of_lt_of_le hlt hb.size, fun i hi => (hc i hi).below hb⟩
/-- how many fractions the first k rows have -/
def tot (m : List (List (Int × Int))) : Nat → Nat | 0 => 0 | k + 1 => tot m k + (rAt m k).length
theorem tot_mono (m : List (List (Int × Int))) {k n : Nat} (h : k ≤ n) : tot m k ≤ tot m n := by
  induction n with
  | zero => obtain rfl : k = 0 := by omega
            exact Nat.le_refl _
  | succ n ih =>
    by_cases e : k = n + 1
    · rw [e]; exact Nat.le_refl _
    · have := ih (by omega)
      rw [tot]
      omega
theorem row_le (m : List (List (Int × Int))) {k n : Nat} (h : k < n) : (rAt m k).length ≤ tot m n := by
  have := tot_mono m (show k + 1 ≤ n from h)
  rw [tot] at this
  omega
/-- a block that holds the first k rows, nothing behind -/
def HalfM (w : World) (B k : Nat) (m : List (List (Int × Int))) : Prop := ∀ i, i < m.length → if i < k then Row w B 0 (rAt m i) i else w.cell? ⟨B, i, none⟩ = some (.slice none 0 0)
theorem HalfM.below {w w' : World} {B k : Nat} {m : List (List (Int × Int))} (h : HalfM w B k m) (hb : Below w.heap.size w w') (hB : B < w.heap.size) : HalfM w' B k m := by
  intro i hi
  have := h i hi
  split
  · rename_i c
    rw [if_pos c] at this
    exact this.below hb
  · rename_i c
    rw [if_neg c] at this
    exact (hb.cell (p := ⟨B, i, none⟩) hB).trans this
/-- a list of fractions is as it was behind a store into a cell that holds a list -/
theorem SlG.setCell {w : World} {u : Value} {r : List (Int × Int)} {B o : Nat} {x : Value} {a0 : Option Addr} {l0 c0 : Nat} (h : SlG w u r) (hc0 : w.cell? ⟨B, o, none⟩ = some (.slice a0 l0 c0)) : SlG (w.setCell ⟨B, o, none⟩ x) u r := by
  obtain ⟨a, cap, e, h1, h2, h3⟩ := h
  refine ⟨a, cap, e, h1, h2, fun hz => ?_⟩
  obtain ⟨b, off, e2, hlt, hc⟩ := h3 hz
  refine ⟨b, off, e2, by simpa using hlt, fun i hi => ?_⟩
  have hi2 := hc i hi
  have hne : ∀ j (n : Int), w.cell? ⟨b, j, none⟩ = some (.int .i64 n) → (w.setCell ⟨B, o, none⟩ x).cell? ⟨b, j, none⟩ = some (.int .i64 n) := fun j n hj => by
    refine (World.cell?_setCell_other _ _ _ _ ?_).trans hj
    intro he
    rw [← he, hc0] at hj
    cases hj
  exact ⟨hne _ _ hi2.1, hne _ _ hi2.2⟩
theorem HalfM.set {w : World} {B k : Nat} {m : List (List (Int × Int))} {u : Value} (h : HalfM w B k m) (hk : k < m.length) (hu : SlG w u (rAt m k)) : HalfM (w.setCell ⟨B, k, none⟩ u) B (k + 1) m := by
  have hck := h k hk
  rw [if_neg (by omega)] at hck
  intro i hi
  have hi2 := h i hi
  by_cases e : i = k
  · subst e
    rw [if_pos (by omega)]
    refine ⟨u, ?_, hu.setCell hck⟩
    rw [Nat.zero_add]
    exact World.cell?_setCell_same _ _ _ hck
  · by_cases c : i < k
    · rw [if_pos c] at hi2
      rw [if_pos (by omega)]
      obtain ⟨v, hv, hS⟩ := hi2
      rw [Nat.zero_add] at hv
      refine ⟨v, ?_, hS.setCell hck⟩
      rw [Nat.zero_add]
      exact (World.cell?_setCell_other _ _ _ _ (by simp <;> omega)).trans hv
    · rw [if_neg c] at hi2
      rw [if_neg (by omega)]
      exact (World.cell?_setCell_other _ _ _ _ (by simp <;> omega)).trans hi2
theorem HalfM.done {w : World} {B cap : Nat} {m : List (List (Int × Int))} (h : HalfM w B m.length m) (hB : B < w.heap.size) (hc : m.length ≤ cap) (hm : cap ≤ 9223372036854775807) : SlM w (.slice (some ⟨B, 0, none⟩) m.length cap) m :=
  ⟨_, _, rfl, hc, hm, fun _ => ⟨B, 0, rfl, hB, fun i hi => by have := h i hi; rw [if_pos hi] at this; exact this⟩⟩
theorem info_row : (Try.prog.info? 42).map (fun i => (i.zero, i.size, i.bytes)) = some (some (.slice none 0 0), 1, 24) := by kernel_rfl
theorem madeM (w : World) (n B : Nat) (e : TypeId) (m : List (List (Int × Int))) (hB : B = w.heap.size) (hn : m.length = n) : HalfM (w.alloc (.cells (madeCells #[.slice none 0 0] (n * 1)) e)) B 0 m := by
  intro i hi
  subst hB
  rw [World.cell?_alloc_new, if_neg (by omega)]
  have h1 : i < n := by omega
  simp [madeCells, h1, Nat.mod_one]
section
variable (w : World)
/-- the list is not too long in all -/
theorem szM_ok (v : Value) (m : List (List (Int × Int))) (hS : SlM w v m) (q : Int) (hq : q ≤ 1048576) (hl : (m.length : Int) + (tot m m.length : Nat) ≤ q) :
    Calls Try.prog 17 #[v, .int .i64 q] w fun r w' => r = .returned (.int .i64 (q - (m.length : Int) - (tot m m.length : Nat))) ∧ Below w.heap.size w w' := by
  obtain ⟨a, cap, rfl, h1, h2, h3⟩ := hS
  obtain ⟨n, hn⟩ : ∃ n, n = m.length := ⟨_, rfl⟩
  rw [← hn] at hl h1 ⊢
  replace h3 := Lib.hid h3
  replace hn := Lib.hid hn
  go_enter Try.func17, Try.ntmps17
  go_wp2
  go_loopw [1, 5] (fun x i wr => ∃ k : Nat, k ≤ n ∧ i = .int .i64 k ∧ x = .int .i64 (q - (n : Int) - (tot m k : Nat)) ∧ Below w.heap.size w wr) (fun _ i _ => n - (intOf i).toNat)
  case atStart => exact ⟨0, by omega, rfl, by simp [tot], by (repeat (first | exact Below.refl _ _ | assumption | refine bchain (by assumption) ?_ | refine balloc ?_ _ | apply Below.drew | apply below_drewN | (refine Below.alloc ?_ (by (try simp) <;> omega) _) | (refine Below.setCell ?_ (by (try simp) <;> omega) _)))⟩
  case round =>
    obtain ⟨k, hk, rfl, rfl, hB⟩ := hrel
    have ht := tot_mono m hk
    by_cases hlt : k < n
    · obtain ⟨b, off, rfl, hb, hg⟩ := h3.out (by intro c; have := hn.out; rw [c] at this; simp at this; omega)
      obtain ⟨u, hu, hSu⟩ := hg k (by have := hn.out; omega)
      have ht2 := tot_mono m (show k + 1 ≤ n from hlt)
      have e1 : (q - (n : Int) - (tot m k : Nat)) - ((rAt m k).length : Int) = q - (n : Int) - (tot m (k + 1) : Nat) := by rw [tot]; omega
      rw [tot] at ht2
      have s0 : wr.cell? ⟨b, off + k, none⟩ = some u := (hB.cell (p := ⟨b, _, none⟩) hb).trans hu
      obtain ⟨a2, c2, rfl, _⟩ := hSu
      have hC := Lib.hid (fun W => sz_ok W a2 (rAt m k).length c2 (q - (n : Int) - (tot m k : Nat)) (by omega) (by omega))
      rw [e1] at hC
      have g0 : 0 ≤ q - (n : Int) - (tot m (k + 1) : Nat) := by rw [tot]; omega
      obtain ⟨y, hy⟩ : ∃ y, q - (n : Int) - (tot m (k + 1) : Nat) = y := ⟨_, rfl⟩
      rw [hy] at hC g0
      obtain ⟨x, hx⟩ : ∃ x, q - (n : Int) - (tot m k : Nat) = x := ⟨_, rfl⟩
      rw [hx] at hC e1 ⊢
      obtain ⟨l, hl2⟩ : ∃ l, (rAt m k).length = l := ⟨_, rfl⟩
      rw [hl2] at hC s0
      have hkn : (k : Int) < (n : Int) := by omega
      clear hg hu e1 ht ht2 hx hl2
      go_wp2_with fail
      refine (hC.out _).mono ?_
      rintro r3 w3 ⟨rfl, rfl⟩
      go_wp2
      go_roundw
      case rel => exact ⟨k + 1, by omega, by go_num, by rw [hy], by (repeat (first | exact Below.refl _ _ | assumption | refine bchain (by assumption) ?_ | refine balloc ?_ _ | apply Below.drew | apply below_drewN | (refine Below.alloc ?_ (by (try simp) <;> omega) _) | (refine Below.setCell ?_ (by (try simp) <;> omega) _)))⟩
      case measure => simp [intOf]; omega
    · have hd := decide_eq_false (show ¬ ((k : Int) < (n : Int)) by omega)
      obtain rfl : k = n := by omega
      go_wp2
      go_ret
      exact ⟨rfl, hB⟩
theorem szM_long (v : Value) (m : List (List (Int × Int))) (hS : SlM w v m) (q : Int) (hq0 : 0 ≤ q) (hq : q ≤ 1048576) (hl : q < (m.length : Int) + (tot m m.length : Nat)) :
    Calls Try.prog 17 #[v, .int .i64 q] w fun r w' => r = .returned (.int .i64 (-1)) ∧ Below w.heap.size w w' := by
  obtain ⟨a, cap, rfl, h1, h2, h3⟩ := hS
  obtain ⟨n, hn⟩ : ∃ n, n = m.length := ⟨_, rfl⟩
  rw [← hn] at hl h1 ⊢
  replace h3 := Lib.hid h3
  replace hn := Lib.hid hn
  by_cases h0 : q < (n : Int)
  · go_enter Try.func17, Try.ntmps17
    go_wp2
    go_ret
    exact ⟨rfl, by (repeat (first | exact Below.refl _ _ | assumption | refine bchain (by assumption) ?_ | refine balloc ?_ _ | apply Below.drew | apply below_drewN | (refine Below.alloc ?_ (by (try simp) <;> omega) _) | (refine Below.setCell ?_ (by (try simp) <;> omega) _)))⟩
  · go_enter Try.func17, Try.ntmps17
    go_wp2
    go_loopw [1, 5] (fun x i wr => ∃ k : Nat, k ≤ n ∧ i = .int .i64 k ∧ x = .int .i64 (q - (n : Int) - (tot m k : Nat)) ∧ (n : Int) + (tot m k : Nat) ≤ q ∧ Below w.heap.size w wr) (fun _ i _ => n - (intOf i).toNat)
    case atStart => exact ⟨0, by omega, rfl, by simp [tot], by simp [tot]; omega, by (repeat (first | exact Below.refl _ _ | assumption | refine bchain (by assumption) ?_ | refine balloc ?_ _ | apply Below.drew | apply below_drewN | (refine Below.alloc ?_ (by (try simp) <;> omega) _) | (refine Below.setCell ?_ (by (try simp) <;> omega) _)))⟩
    case round =>
      obtain ⟨k, hk, rfl, rfl, hle, hB⟩ := hrel
      have hlt : k < n := by
        apply Nat.lt_of_not_le
        intro hc
        obtain rfl : k = n := by omega
        omega
      obtain ⟨b, off, rfl, hb, hg⟩ := h3.out (by intro c; have := hn.out; rw [c] at this; simp at this; omega)
      obtain ⟨u, hu, hSu⟩ := hg k (by have := hn.out; omega)
      have s0 : wr.cell? ⟨b, off + k, none⟩ = some u := (hB.cell (p := ⟨b, _, none⟩) hb).trans hu
      obtain ⟨a2, c2, rfl, hu1, hu2, _⟩ := hSu
      have e1 : (q - (n : Int) - (tot m k : Nat)) - ((rAt m k).length : Int) = q - (n : Int) - (tot m (k + 1) : Nat) := by rw [tot]; omega
      obtain ⟨x, hx⟩ : ∃ x, q - (n : Int) - (tot m k : Nat) = x := ⟨_, rfl⟩
      have hx0 : 0 ≤ x := by omega
      have hx1 : x ≤ 1048576 := by omega
      have hkn : (k : Int) < (n : Int) := by omega
      by_cases hfit : (n : Int) + (tot m (k + 1) : Nat) ≤ q
      · have hC := Lib.hid (fun W => sz_ok W a2 (rAt m k).length c2 (q - (n : Int) - (tot m k : Nat)) (by omega) (by rw [tot] at hfit; omega))
        rw [e1] at hC
        have g0 : 0 ≤ q - (n : Int) - (tot m (k + 1) : Nat) := by omega
        obtain ⟨y, hy⟩ : ∃ y, q - (n : Int) - (tot m (k + 1) : Nat) = y := ⟨_, rfl⟩
        rw [hy] at hC g0
        rw [hx] at hC e1 ⊢
        obtain ⟨l, hl2⟩ : ∃ l, (rAt m k).length = l := ⟨_, rfl⟩
        rw [hl2] at hC s0
        clear hg hu e1 hx hl2
        go_wp2_with fail
        refine (hC.out _).mono ?_
        rintro r3 w3 ⟨rfl, rfl⟩
        go_wp2
        go_roundw
        case rel => exact ⟨k + 1, by omega, by go_num, by rw [hy], hfit, by (repeat (first | exact Below.refl _ _ | assumption | refine bchain (by assumption) ?_ | refine balloc ?_ _ | apply Below.drew | apply below_drewN | (refine Below.alloc ?_ (by (try simp) <;> omega) _) | (refine Below.setCell ?_ (by (try simp) <;> omega) _)))⟩
        case measure => simp [intOf]; omega
      · have hC := Lib.hid (fun W => sz_long W a2 (rAt m k).length c2 (q - (n : Int) - (tot m k : Nat)) (by omega) (by omega) (by rw [tot] at hfit; omega) (by omega))
        rw [hx] at hC ⊢
        obtain ⟨l, hl2⟩ : ∃ l, (rAt m k).length = l := ⟨_, rfl⟩
        rw [hl2] at hC s0
        clear hg hu e1 hx hl2 hu1 hu2
        go_wp2_with fail
        refine (hC.out _).mono ?_
        rintro r3 w3 ⟨rfl, rfl⟩
        go_wp2
        go_ret
        exact ⟨rfl, by (repeat (first | exact Below.refl _ _ | assumption | refine bchain (by assumption) ?_ | refine balloc ?_ _ | apply Below.drew | apply below_drewN | (refine Below.alloc ?_ (by (try simp) <;> omega) _) | (refine Below.setCell ?_ (by (try simp) <;> omega) _)))⟩
theorem toMs_empty (a : Option Addr) (cap : Nat) :
    Calls Try.prog 19 #[.slice a 0 cap] w fun r w' => (∃ v, r = .returned v ∧ SlM w' v []) ∧ Below w.heap.size w w' := by
  obtain ⟨i0, hi0, hz0, hs0, hb0⟩ := info_parts info_row
  have hmk : ∀ W : World, (Instr.makeSlice 22 (.int .i64 0) (.int .i64 0)).run Try.prog W = .ok (.slice (some ⟨W.heap.size, 0, none⟩) 0 0) (W.alloc (.cells (madeCells #[.slice none 0 0] (0 * 1)) 42)) := fun W => by
    have hr := run_make (P := Try.prog) W 22 42 i0 (.slice none 0 0) Try.underlying22 hi0 hz0 .i64 .i64 ((0 : Nat) : Int) ((0 : Nat) : Int) (by omega) (by omega) (by rw [hb0]; omega) (by omega)
    simp only [Int.toNat_natCast, hs0] at hr
    exact hr
  clear hi0 hz0 hs0 hb0
  go_enter Try.func19, Try.ntmps19
  go_wp2
  go_loopw [4] (fun i wr => i = .int .i64 0 ∧ Below w.heap.size w wr) (fun _ _ => 0)
  case atStart => exact ⟨rfl, by (repeat (first | exact Below.refl _ _ | assumption | refine bchain (by assumption) ?_ | refine balloc ?_ _ | apply Below.drew | apply below_drewN | (refine Below.alloc ?_ (by (try simp) <;> omega) _) | (refine Below.setCell ?_ (by (try simp) <;> omega) _)))⟩
  case round =>
    obtain ⟨rfl, hb⟩ := hrel
    go_wp2
    go_ret
    exact ⟨⟨_, rfl, _, _, rfl, by simp, by simp, fun c => absurd rfl c⟩, hb⟩
set_option maxHeartbeats 1000000 in
theorem toMs_some (b off cap : Nat) (m : List (List (Int × Int))) (h1 : 0 < m.length) (h2 : m.length ≤ cap) (hm : m.length ≤ 1048576) (hr : ∀ i, i < m.length → (rAt m i).length ≤ 1048576) (hb : b < w.heap.size) (hc : ∀ i, i < m.length → Row w b off (rAt m i) i) :
    Calls Try.prog 19 #[.slice (some ⟨b, off, none⟩) m.length cap] w fun r w' => (∃ v, r = .returned v ∧ SlM w' v m) ∧ Below w.heap.size w w' := by
  obtain ⟨i0, hi0, hz0, hs0, hb0⟩ := info_parts info_row
  obtain ⟨O, hO⟩ : ∃ O, O = Obj.cells (madeCells #[.slice none 0 0] (m.length * 1)) 42 := ⟨_, rfl⟩
  obtain ⟨n, hn⟩ : ∃ n, n = m.length := ⟨_, rfl⟩
  rw [← hn] at h1 h2 hm hO hr ⊢
  have hmk : ∀ W : World, (Instr.makeSlice 22 (.int .i64 n) (.int .i64 n)).run Try.prog W = .ok (.slice (some ⟨W.heap.size, 0, none⟩) n n) (W.alloc O) := fun W => by
    have hr := run_make (P := Try.prog) W 22 42 i0 (.slice none 0 0) Try.underlying22 hi0 hz0 .i64 .i64 (n : Int) (n : Int) (by omega) (by omega) (by rw [hb0]; omega) (by omega)
    simp only [Int.toNat_natCast, hs0] at hr
    rw [hO]
    exact hr
  clear hi0 hz0 hs0 hb0
  replace hO := Lib.hid hO
  replace hn := Lib.hid hn
  replace hc := Lib.hid hc
  replace hr := Lib.hid hr
  go_enter Try.func19, Try.ntmps19
  go_wp2
  go_loopw [4] (fun i wr => ∃ k : Nat, k ≤ n ∧ i = .int .i64 k ∧ HalfM wr w.heap.size k m ∧ (∀ o, wr.frozen? ⟨w.heap.size, o, none⟩ = false) ∧ w.heap.size < wr.heap.size ∧ Below w.heap.size w wr) (fun i _ => n - (intOf i).toNat)
  case atStart => exact ⟨0, by omega, rfl, by rw [hO.out]; exact madeM _ _ _ _ _ rfl hn.out.symm, fun o => by rw [hO.out]; simp, by simp, by (repeat (first | exact Below.refl _ _ | assumption | refine bchain (by assumption) ?_ | refine balloc ?_ _ | apply Below.drew | apply below_drewN | (refine Below.alloc ?_ (by (try simp) <;> omega) _) | (refine Below.setCell ?_ (by (try simp) <;> omega) _)))⟩
  case round =>
    obtain ⟨k, hk, rfl, hh, hf, hz, hB⟩ := hrel
    by_cases hlt : k < n
    · obtain ⟨u, hu, hSu⟩ := hc.out k (by have := hn.out; omega)
      have s0 : wr.cell? ⟨b, off + k, none⟩ = some u := (hB.cell (p := ⟨b, _, none⟩) hb).trans hu
      have hT := Lib.hid (toGs_any wr u (rAt m k) (hSu.below hB) (hr.out k hlt))
      have hset := Lib.hid (fun (W : World) (v : Value) (h : HalfM W w.heap.size k m) (hv : SlG W v (rAt m k)) => h.set (k := k) (by have := hn.out; omega) hv)
      obtain ⟨a2, c2, rfl, _⟩ := hSu
      obtain ⟨l, hl2⟩ : ∃ l, (rAt m k).length = l := ⟨_, rfl⟩
      rw [hl2] at hT s0
      clear hu hl2
      replace hh := Lib.hid hh
      replace hf := Lib.hid hf
      go_wp2_with fail
      refine hT.out.mono ?_
      rintro r3 w3 ⟨⟨v3, rfl, hv3⟩, hb3⟩
      have hh3 := hh.out.below hb3 hz
      have hz3 := Nat.lt_of_lt_of_le hz hb3.size
      have ht := hh3 k (by have := hn.out; omega)
      rw [if_neg (by omega)] at ht
      have hf3 : ∀ o, w3.frozen? ⟨w.heap.size, o, none⟩ = false := fun o => (hb3.frozen (p := ⟨w.heap.size, o, none⟩) hz).trans (hf.out o)
      have f0 := hf3 k
      have hn2 := Lib.hid (hset.out w3 v3 hh3 hv3)
      replace hf3 := Lib.hid hf3
      obtain ⟨a4, c4, rfl, _⟩ := hv3
      clear hh3
      go_wp2
      go_roundw
      case rel => exact ⟨k + 1, by omega, by go_num, hn2.out, fun o => by simp [hf3.out o], by simp; omega, by (repeat (first | exact Below.refl _ _ | assumption | refine bchain (by assumption) ?_ | refine balloc ?_ _ | apply Below.drew | apply below_drewN | (refine Below.alloc ?_ (by (try simp) <;> omega) _) | (refine Below.setCell ?_ (by (try simp) <;> omega) _)))⟩
      case measure => simp [intOf]; omega
    · have hd := decide_eq_false (show ¬ ((k : Int) < (n : Int)) by omega)
      obtain rfl : k = n := by omega
      replace hh := Lib.hid hh
      replace hf := Lib.hid hf
      go_wp2
      go_ret
      refine ⟨⟨_, rfl, ?_⟩, hB⟩
      have e := hn.out
      subst e
      exact HalfM.done hh.out hz (Nat.le_refl _) (by omega)
theorem toMs_any (v : Value) (m : List (List (Int × Int))) (h : SlM w v m) (hm : m.length ≤ 1048576) (hr : ∀ i, i < m.length → (rAt m i).length ≤ 1048576) :
    Calls Try.prog 19 #[v] w fun r w' => (∃ u, r = .returned u ∧ SlM w' u m) ∧ Below w.heap.size w w' := by
  obtain ⟨a, cap, rfl, h1, h2, h3⟩ := h
  cases m with
  | nil => exact toMs_empty w a cap
  | cons z zs =>
    obtain ⟨b, off, rfl, hb, hc⟩ := h3 (by simp)
    exact toMs_some w b off cap (z :: zs) (by simp) h1 hm hr hb hc
theorem eqMs_empty (a a' : Option Addr) (cap cap' : Nat) :
    Calls Try.prog 14 #[.slice a 0 cap, .slice a' 0 cap'] w fun r w' => r = .returned (.bool true) ∧ Below w.heap.size w w' := by
  go_enter Try.func14, Try.ntmps14
  go_wp2
  go_loopw [5] (fun i wr => i = .int .i64 0 ∧ Below w.heap.size w wr) (fun _ _ => 0)
  case atStart => exact ⟨rfl, by (repeat (first | exact Below.refl _ _ | assumption | refine bchain (by assumption) ?_ | refine balloc ?_ _ | apply Below.drew | apply below_drewN | (refine Below.alloc ?_ (by (try simp) <;> omega) _) | (refine Below.setCell ?_ (by (try simp) <;> omega) _)))⟩
  case round =>
    obtain ⟨rfl, hb⟩ := hrel
    go_wp2
    go_ret
    exact ⟨rfl, hb⟩
set_option maxHeartbeats 1000000 in
theorem eqMs_some (b off cap b' off' cap' : Nat) (m : List (List (Int × Int))) (h1 : 0 < m.length) (hm : m.length ≤ 1048576) (hr : ∀ i, i < m.length → (rAt m i).length ≤ 1048576) (hb : b < w.heap.size) (hb' : b' < w.heap.size)
    (hc : ∀ i, i < m.length → Row w b off (rAt m i) i) (hc' : ∀ i, i < m.length → Row w b' off' (rAt m i) i) :
    Calls Try.prog 14 #[.slice (some ⟨b, off, none⟩) m.length cap, .slice (some ⟨b', off', none⟩) m.length cap'] w fun r w' => r = .returned (.bool true) ∧ Below w.heap.size w w' := by
  obtain ⟨n, hn⟩ : ∃ n, n = m.length := ⟨_, rfl⟩
  rw [← hn] at h1 hm hr ⊢
  replace hn := Lib.hid hn
  replace hc := Lib.hid hc
  replace hc' := Lib.hid hc'
  replace hr := Lib.hid hr
  go_enter Try.func14, Try.ntmps14
  go_wp2
  go_loopw [5] (fun i wr => ∃ k : Nat, k ≤ n ∧ i = .int .i64 k ∧ Below w.heap.size w wr) (fun i _ => n - (intOf i).toNat)
  case atStart => exact ⟨0, by omega, rfl, by (repeat (first | exact Below.refl _ _ | assumption | refine bchain (by assumption) ?_ | refine balloc ?_ _ | apply Below.drew | apply below_drewN | (refine Below.alloc ?_ (by (try simp) <;> omega) _) | (refine Below.setCell ?_ (by (try simp) <;> omega) _)))⟩
  case round =>
    obtain ⟨k, hk, rfl, hB⟩ := hrel
    by_cases hlt : k < n
    · obtain ⟨u, hu, hSu⟩ := hc.out k (by have := hn.out; omega)
      obtain ⟨u', hu', hSu'⟩ := hc'.out k (by have := hn.out; omega)
      have s0 : wr.cell? ⟨b, off + k, none⟩ = some u := (hB.cell (p := ⟨b, _, none⟩) hb).trans hu
      have s1 : wr.cell? ⟨b', off' + k, none⟩ = some u' := (hB.cell (p := ⟨b', _, none⟩) hb').trans hu'
      have hE := Lib.hid (eqGs_any wr.drew u u' (rAt m k) ((hSu.below hB).below (by (repeat (first | exact Below.refl _ _ | assumption | refine bchain (by assumption) ?_ | refine balloc ?_ _ | apply Below.drew | apply below_drewN | (refine Below.alloc ?_ (by (try simp) <;> omega) _) | (refine Below.setCell ?_ (by (try simp) <;> omega) _))))) ((hSu'.below hB).below (by (repeat (first | exact Below.refl _ _ | assumption | refine bchain (by assumption) ?_ | refine balloc ?_ _ | apply Below.drew | apply below_drewN | (refine Below.alloc ?_ (by (try simp) <;> omega) _) | (refine Below.setCell ?_ (by (try simp) <;> omega) _))))) (hr.out k hlt))
      obtain ⟨a2, c2, rfl, _⟩ := hSu
      obtain ⟨a3, c3, rfl, _⟩ := hSu'
      obtain ⟨l, hl2⟩ : ∃ l, (rAt m k).length = l := ⟨_, rfl⟩
      rw [hl2] at hE s0 s1
      have hk1 : (k : Int) < (n : Int) := by omega
      clear hu hu' hl2
      go_wp2
      go_still_tail 8, (by kernel_rfl)
      change wpList _ _ _ _ _ wr.drew
      go_wp2_with (go_at_call 28; refine (hE.out).mono ?_; rintro r3 w3 ⟨rfl, hb3⟩)
      go_roundw
      case rel => exact ⟨k + 1, by omega, by go_num, by (repeat (first | exact Below.refl _ _ | assumption | refine bchain (by assumption) ?_ | refine balloc ?_ _ | apply Below.drew | apply below_drewN | (refine Below.alloc ?_ (by (try simp) <;> omega) _) | (refine Below.setCell ?_ (by (try simp) <;> omega) _)))⟩
      case measure => simp [intOf]; omega
    · have hd := decide_eq_false (show ¬ ((k : Int) < (n : Int)) by omega)
      go_wp2
      go_ret
      exact ⟨rfl, hB⟩
theorem eqMs_any (u v : Value) (m : List (List (Int × Int))) (h : SlM w u m) (h' : SlM w v m) (hm : m.length ≤ 1048576) (hr : ∀ i, i < m.length → (rAt m i).length ≤ 1048576) :
    Calls Try.prog 14 #[u, v] w fun r w' => r = .returned (.bool true) ∧ Below w.heap.size w w' := by
  obtain ⟨a, cap, rfl, h1, h2, h3⟩ := h
  obtain ⟨a', cap', rfl, h1', h2', h3'⟩ := h'
  cases m with
  | nil => exact eqMs_empty w a a' cap cap'
  | cons z zs =>
    obtain ⟨b, off, rfl, hb, hc⟩ := h3 (by simp)
    obtain ⟨b', off', rfl, hb', hc'⟩ := h3' (by simp)
    exact eqMs_some w b off cap b' off' cap' (z :: zs) (by simp) hm hr hb hb' hc hc'
end
end Go.Proofs.Ytdibcchhamapjac
