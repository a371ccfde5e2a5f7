/-
  A MATRIX OF THE LAW'S OWN, into which marks are written. (made by gen_xm.py)
-/
import Derived.Test.YtdibcchhamapjacFSqM
namespace Go.Proofs.Ytdibcchhamapjac
open Go.RowKit
set_option maxRecDepth 100000

/-- what writing marks into blocks between b0 and b1 leaves -/
structure Mkd (b0 b1 : Nat) (w w' : World) : Prop where
  sz : w'.heap.size = w.heap.size
  cell : ∀ C i, C < b0 ∨ b1 ≤ C → w'.cell? ⟨C, i, none⟩ = w.cell? ⟨C, i, none⟩
  int : ∀ C i (z : Int), w.cell? ⟨C, i, none⟩ = some (.int .i64 z) → ∃ z' : Int, w'.cell? ⟨C, i, none⟩ = some (.int .i64 z')
  fz : ∀ C i, w'.frozen? ⟨C, i, none⟩ = w.frozen? ⟨C, i, none⟩
  bl : Below b0 w w'
theorem Mkd.refl {b0 b1 : Nat} (w : World) (h : b0 ≤ w.heap.size) : Mkd b0 b1 w w := ⟨rfl, fun _ _ _ => rfl, fun _ _ z h => ⟨z, h⟩, fun _ _ => rfl, (Below.refl _ _).mono h⟩
theorem Mkd.trans {b0 b1 : Nat} {w w' w'' : World} (h : Mkd b0 b1 w w') (h' : Mkd b0 b1 w' w'') : Mkd b0 b1 w w'' :=
  ⟨h'.sz.trans h.sz, fun C i hC => (h'.cell C i hC).trans (h.cell C i hC), fun C i z hz => (h.int C i z hz).elim fun z' hz' => h'.int C i z' hz', fun C i => (h'.fz C i).trans (h.fz C i), h.bl.trans h'.bl⟩
theorem Mkd.le {b0 b1 c0 c1 : Nat} {w w' : World} (h : Mkd b0 b1 w w') (h0 : c0 ≤ b0) (h1 : b1 ≤ c1) : Mkd c0 c1 w w' :=
  ⟨h.sz, fun C i hC => h.cell C i (by omega), h.int, h.fz, h.bl.mono h0⟩
theorem Mkd.set {w : World} {B t : Nat} {z : Int} (hc : w.cell? ⟨B, t, none⟩ = some (.int .i64 z)) (x : Int) : Mkd B (B + 1) w (w.setCell ⟨B, t, none⟩ (.int .i64 x)) where
  sz := by simp
  cell := fun C i hC => World.cell?_setCell_other _ _ _ _ (by intro c; injection c with c; omega)
  int := fun C i z' hz => by
    by_cases c : C = B ∧ i = t
    · obtain ⟨rfl, rfl⟩ := c
      exact ⟨x, World.cell?_setCell_same _ _ _ hc⟩
    · exact ⟨z', (World.cell?_setCell_other _ _ _ _ (by intro e; injection e with e1 e2; exact c ⟨e1.symm, e2.symm⟩)).trans hz⟩
  fz := fun C i => by rw [World.frozen?_setCell]
  bl := ((Below.refl _ w).mono (Nat.le_of_lt (by have := World.block_lt_of_cell? w _ hc; exact this))).setCell (p := ⟨B, t, none⟩) (Nat.le_refl _) _
theorem Mkd.xo {b0 b1 c0 c1 n : Nat} {w w' : World} {v : Value} (h : Mkd b0 b1 w w') (x : XO c0 c1 w v n) : XO c0 c1 w' v n := by
  rcases x with x | ⟨B, cap, e, h1, h2, h3, h4, h5⟩
  · exact .inl x
  · exact .inr ⟨B, cap, e, h1, h2, by rw [h.sz]; exact h3, fun t ht => (h4 t ht).elim fun z hz => h.int _ _ z hz, fun c => (h.fz _ _).trans (h5 c)⟩
theorem Mkd.mr {b0 b1 n : Nat} {w w' : World} {v : Value} {f : Nat → Int} (h : Mkd b0 b1 w w') (x : MR b1 w v n f) : MR b1 w' v n f := by
  rcases x with x | ⟨A, D, e, h8, h1, h2, h3, h4, h5, h6, h7⟩
  · exact .inl x
  · exact .inr ⟨A, D, e, h8, h1, h2, by rw [h.sz]; exact h3, by rw [h.sz]; exact h4, fun i hi => (h.cell D i (.inr h2.2)).trans (h5 i hi), fun c => (h.fz D c).trans (h6 c), fun i hi => (h.cell A i (.inr h2.1)).trans (h7 i hi)⟩
theorem XO.le {b0 b1 c0 c1 n : Nat} {w : World} {v : Value} (x : XO b0 b1 w v n) (h0 : c0 ≤ b0) (h1 : b1 ≤ c1) : XO c0 c1 w v n := by
  rcases x with x | ⟨B, cap, e, h2, h3, h4⟩
  · exact .inl x
  · exact .inr ⟨B, cap, e, by omega, by omega, h4⟩
theorem XO.setCell {b0 b1 n : Nat} {w : World} {v : Value} (x : XO b0 b1 w v n) {p : Addr} (hp : p.block < b0) (y : Value) : XO b0 b1 (w.setCell p y) v n := by
  rcases x with x | ⟨B, cap, e, h1, h2, h3, h4, h5⟩
  · exact .inl x
  · exact .inr ⟨B, cap, e, h1, h2, by simpa using h3, fun t ht => (h4 t ht).elim fun z hz => ⟨z, (World.cell?_setCell_other _ _ _ _ (by rintro rfl; exact absurd hp (by show ¬ B < b0; omega))).trans hz⟩, fun c => by rw [World.frozen?_setCell]; exact h5 c⟩
/-- k rows in blocks of their own, behind A -/
def RO (A b1 : Nat) (w : World) (m : List (List (Int × Int))) (k : Nat) : Prop := ∀ i, i < k → ∃ r, w.cell? ⟨A, i, none⟩ = some r ∧ XO (A + 1) b1 w r (rAt m i).length
theorem RO.next {A k : Nat} {wr w3 : World} {m : List (List (Int × Int))} {v3 old : Value} (h : RO A wr.heap.size wr m k) (hb3 : Below wr.heap.size wr w3) (hz : A < wr.heap.size) (hx : XO wr.heap.size w3.heap.size w3 v3 (rAt m k).length) (ho : w3.cell? ⟨A, k, none⟩ = some old) :
    RO A (w3.setCell ⟨A, k, none⟩ v3).heap.size (w3.setCell ⟨A, k, none⟩ v3) m (k + 1) := fun i hi => by
  have hs : (w3.setCell ⟨A, k, none⟩ v3).heap.size = w3.heap.size := by simp
  rw [hs]
  by_cases c : i = k
  · subst c
    exact ⟨v3, World.cell?_setCell_same _ _ _ ho, (hx.le (by omega) (Nat.le_refl _)).setCell (by show A < A + 1; omega) _⟩
  · obtain ⟨r, hr, hX⟩ := h i (by omega)
    exact ⟨r, (World.cell?_setCell_other _ _ _ _ (by intro e; injection e with _ e; exact c e.symm)).trans ((hb3.cell (p := ⟨A, i, none⟩) hz).trans hr), ((hX.below hb3).le (Nat.le_refl _) hb3.size).setCell (by show A < A + 1; omega) _⟩
/-- a matrix of the law's own -/
def XM (b0 b1 : Nat) (w : World) (u : Value) (m : List (List (Int × Int))) : Prop :=
  (m.length = 0 ∧ ∃ a cap, u = .slice a 0 cap) ∨ ∃ A cap, u = .slice (some ⟨A, 0, none⟩) m.length cap ∧ b0 ≤ A ∧ A < b1 ∧ A < w.heap.size ∧ RO A b1 w m m.length
theorem XM.below {b0 b1 : Nat} {w w' : World} {u : Value} {m : List (List (Int × Int))} (h : XM b0 b1 w u m) (hb : Below w.heap.size w w') : XM b0 b1 w' u m := by
  rcases h with h | ⟨A, cap, e, h1, h2, h3, h4⟩
  · exact .inl h
  · exact .inr ⟨A, cap, e, h1, h2, Nat.lt_of_lt_of_le h3 hb.size, fun i hi => (h4 i hi).elim fun r hr => ⟨r, (hb.cell (p := ⟨A, i, none⟩) h3).trans hr.1, hr.2.below hb⟩⟩
section
variable (w : World)
set_option maxHeartbeats 1000000 in
theorem markK_some (B cap l k : Nat) (hl : l ≤ 1048576) (hk : k ≤ 4194305) (hB : B < w.heap.size) (hc : ∀ t, t < l * 2 → ∃ z : Int, w.cell? ⟨B, t, none⟩ = some (.int .i64 z)) (hf : ∀ c, w.frozen? ⟨B, c, none⟩ = false) :
    Calls Try.prog 29 #[.slice (some ⟨B, 0, none⟩) l cap, .int .i64 k] w fun r w' => r = .returned (.int .i64 ((k + l * 2 : Nat) : Int)) ∧ Mkd B (B + 1) w w' := by
  replace hc := Lib.hid hc
  replace hf := Lib.hid hf
  go_enter Try.func29, Try.ntmps29
  go_wp2
  go_loopw [1, 5] (fun q i wr => ∃ j : Nat, j ≤ l ∧ q = .int .i64 ((k : Int) + (j : Int) * 2) ∧ i = .int .i64 j ∧ Mkd B (B + 1) w wr) (fun _ i _ => l - (intOf i).toNat)
  case atStart => exact ⟨0, by omega, by simp, rfl, Mkd.refl _ (Nat.le_of_lt hB)⟩
  case round =>
    obtain ⟨j, hj, rfl, rfl, hM⟩ := hrel
    by_cases hlt : j < l
    · obtain ⟨z0, c0⟩ := (hc.out (j * 2) (by omega)).elim fun z hz => hM.int _ _ z hz
      obtain ⟨z1, c1⟩ := (hc.out (j * 2 + 1) (by omega)).elim fun z hz => hM.int _ _ z hz
      have f0 := (hM.fz B (j * 2)).trans (hf.out _)
      have f1 := (hM.fz B (j * 2 + 1)).trans (hf.out _)
      have hM2 := Lib.hid ((hM.trans (Mkd.set c0 ((k : Int) + (j : Int) * 2))).trans (Mkd.set ((World.cell?_setCell_other _ _ _ _ (by simp)).trans c1) ((k : Int) + (j : Int) * 2 + 1)))
      clear hM
      have hkj : (k : Int) + (j : Int) * 2 + 1 ≤ 8388608 := by omega
      go_wp2
      go_roundw
      case rel => exact ⟨j + 1, by omega, by go_num, by go_num, hM2.out⟩
      case measure => simp [intOf]; omega
    · obtain rfl : j = l := by omega
      have hdd := decide_eq_false (show ¬ ((j : Int) < (j : Int)) by omega)
      replace hM := Lib.hid hM
      go_wp2
      go_ret
      exact ⟨by go_num, hM.out⟩
theorem markK_zero (a : Option Addr) (cap k : Nat) :
    Calls Try.prog 29 #[.slice a 0 cap, .int .i64 k] w fun r w' => r = .returned (.int .i64 ((k + 0 * 2 : Nat) : Int)) ∧ w' = w := by
  go_enter Try.func29, Try.ntmps29
  go_wp2
  go_loopw [1, 5] (fun q i wr => q = .int .i64 k ∧ i = .int .i64 0 ∧ wr = w) (fun _ _ _ => 0)
  case atStart => exact ⟨rfl, rfl, rfl⟩
  case round =>
    obtain ⟨rfl, rfl, rfl⟩ := hrel
    go_wp2
    go_ret
    exact ⟨by simp, rfl⟩
theorem markK_any (b0 b1 : Nat) (u : Value) (n k : Nat) (h : XO b0 b1 w u n) (hn : n ≤ 1048576) (hk : k ≤ 4194305) (hb0 : b0 ≤ w.heap.size) :
    Calls Try.prog 29 #[u, .int .i64 k] w fun r w' => r = .returned (.int .i64 ((k + n * 2 : Nat) : Int)) ∧ Mkd b0 b1 w w' := by
  rcases h with ⟨rfl, a, cap, rfl⟩ | ⟨B, cap, rfl, h1, h2, h3, h4, h5⟩
  · refine (markK_zero w a cap k).mono ?_
    rintro r w' ⟨rfl, rfl⟩
    exact ⟨rfl, Mkd.refl _ hb0⟩
  · refine (markK_some w B cap n k hn hk h3 h4 h5).mono ?_
    rintro r w' ⟨rfl, hM⟩
    exact ⟨rfl, hM.le h1 h2⟩
set_option maxHeartbeats 1000000 in
theorem markXM_some (A b1 cap k0 : Nat) (m : List (List (Int × Int))) (hm : m.length ≤ 1048576) (ht : tot m m.length ≤ 1048576) (hk0 : k0 ≤ 2097153) (hA : A < w.heap.size) (h : RO A b1 w m m.length) :
    Calls Try.prog 15 #[.slice (some ⟨A, 0, none⟩) m.length cap, .int .i64 k0] w fun r w' => r = .returned (.int .i64 ((k0 + tot m m.length * 2 : Nat) : Int)) ∧ Mkd (A + 1) b1 w w' := by
  have hT := Lib.hid (fun i (hi : i < m.length) => show (rAt m i).length ≤ 1048576 ∧ tot m i ≤ 1048576 from ⟨Nat.le_trans (row_le m hi) ht, Nat.le_trans (tot_mono m (Nat.le_of_lt hi)) ht⟩)
  replace h := Lib.hid h
  obtain ⟨n, hn⟩ : ∃ n, n = m.length := ⟨_, rfl⟩
  rw [← hn] at h hT hm ⊢
  clear ht
  replace hn := Lib.hid hn
  go_enter Try.func15, Try.ntmps15
  go_wp2
  go_loopw [1, 5] (fun q i wr => ∃ j : Nat, j ≤ n ∧ q = .int .i64 ((k0 + tot m j * 2 : Nat) : Int) ∧ i = .int .i64 j ∧ Mkd (A + 1) b1 w wr) (fun _ i _ => n - (intOf i).toNat)
  case atStart => exact ⟨0, by omega, by simp [tot], rfl, Mkd.refl _ hA⟩
  case round =>
    obtain ⟨j, hj, rfl, rfl, hM⟩ := hrel
    by_cases hlt : j < n
    · obtain ⟨r, hr, hX⟩ := h.out j hlt
      have c0 := (hM.cell A j (.inl (Nat.lt_succ_self _))).trans hr
      obtain ⟨hl, hl2⟩ := hT.out j hlt
      have hC := Lib.hid (markK_any wr (A + 1) b1 r (rAt m j).length (k0 + tot m j * 2) (hM.xo hX) hl (by omega) (by rw [hM.sz]; exact hA))
      have he : tot m (j + 1) = tot m j + (rAt m j).length := rfl
      obtain ⟨t, ht⟩ : ∃ t, tot m j = t := ⟨_, rfl⟩
      obtain ⟨l, hl3⟩ : ∃ t, (rAt m j).length = t := ⟨_, rfl⟩
      rw [ht] at hC he ⊢
      rw [hl3] at hC he
      obtain ⟨a4, c4, rfl⟩ : ∃ a c, r = .slice a l c := by
        rcases hX with ⟨h0, a, c, e⟩ | ⟨B, c, e, _⟩
        · rw [hl3] at h0; exact ⟨a, c, by rw [h0]; exact e⟩
        · rw [hl3] at e; exact ⟨_, c, e⟩
      replace he := Lib.hid he
      replace hM := Lib.hid hM
      clear ht hl3 hX hr hl hl2
      go_wp2_with fail
      refine hC.out.mono ?_
      rintro r1 w1 ⟨rfl, hM1⟩
      have hM2 := Lib.hid (hM.out.trans hM1)
      clear hM1 hC
      go_wp2
      go_roundw
      case rel => exact ⟨j + 1, by omega, by rw [he.out]; congr 1; omega, by go_num, hM2.out⟩
      case measure => simp [intOf]; omega
    · obtain rfl : j = n := by omega
      have hdd := decide_eq_false (show ¬ ((j : Int) < (j : Int)) by omega)
      replace hM := Lib.hid hM
      go_wp2
      go_ret
      exact ⟨rfl, hM.out⟩
theorem markXM_zero (a : Option Addr) (cap k : Nat) :
    Calls Try.prog 15 #[.slice a 0 cap, .int .i64 k] w fun r w' => r = .returned (.int .i64 (k : Int)) ∧ w' = w := by
  go_enter Try.func15, Try.ntmps15
  go_wp2
  go_loopw [1, 5] (fun q i wr => q = .int .i64 k ∧ i = .int .i64 0 ∧ wr = w) (fun _ _ _ => 0)
  case atStart => exact ⟨rfl, rfl, rfl⟩
  case round =>
    obtain ⟨rfl, rfl, rfl⟩ := hrel
    go_wp2
    go_ret
    exact ⟨rfl, rfl⟩
theorem markXM_any (b0 b1 k0 : Nat) (u : Value) (m : List (List (Int × Int))) (h : XM b0 b1 w u m) (hm : m.length ≤ 1048576) (ht : tot m m.length ≤ 1048576) (hk0 : k0 ≤ 2097153) (hb0 : b0 ≤ w.heap.size) :
    Calls Try.prog 15 #[u, .int .i64 k0] w fun r w' => r = .returned (.int .i64 ((k0 + tot m m.length * 2 : Nat) : Int)) ∧ Mkd b0 b1 w w' := by
  rcases h with ⟨h0, a, cap, rfl⟩ | ⟨A, cap, rfl, h1, h2, h3, h4⟩
  · rw [h0]
    refine (markXM_zero w a cap k0).mono ?_
    rintro r w' ⟨rfl, rfl⟩
    exact ⟨by simp [tot], Mkd.refl _ hb0⟩
  · refine (markXM_some w A b1 cap k0 m hm ht hk0 h3 h4).mono ?_
    rintro r w' ⟨rfl, hM⟩
    exact ⟨rfl, hM.le (by omega) (Nat.le_refl _)⟩
theorem toMo_empty (a : Option Addr) (cap : Nat) :
    Calls Try.prog 19 #[.slice a 0 cap] w fun r w' => (∃ v, r = .returned v ∧ SlM w' v [] ∧ XM w.heap.size w'.heap.size w' v []) ∧ Below w.heap.size w w' := by
  obtain ⟨i0, hi0, hz0, hs0, hb0⟩ := info_parts info_row
  have hmk : ∀ W : World, (Instr.makeSlice 22 (.int .i64 0) (.int .i64 0)).run Try.prog W = .ok (.slice (some ⟨W.heap.size, 0, none⟩) 0 0) (W.alloc (.cells (madeCells #[.slice none 0 0] (0 * 1)) 42)) := fun W => by
    have hr := run_make (P := Try.prog) W 22 42 i0 (.slice none 0 0) Try.underlying22 hi0 hz0 .i64 .i64 ((0 : Nat) : Int) ((0 : Nat) : Int) (by omega) (by omega) (by rw [hb0]; omega) (by omega)
    simp only [Int.toNat_natCast, hs0] at hr
    exact hr
  clear hi0 hz0 hs0 hb0
  go_enter Try.func19, Try.ntmps19
  go_wp2
  go_loopw [4] (fun i wr => i = .int .i64 0 ∧ Below w.heap.size w wr) (fun _ _ => 0)
  case atStart => exact ⟨rfl, by (repeat (first | exact Below.refl _ _ | assumption | refine bchain (by assumption) ?_ | refine balloc ?_ _ | apply Below.drew | apply below_drewN | (refine Below.alloc ?_ (by (try simp) <;> omega) _) | (refine Below.setCell ?_ (by (try simp) <;> omega) _)))⟩
  case round =>
    obtain ⟨rfl, hb⟩ := hrel
    go_wp2
    go_ret
    exact ⟨⟨_, rfl, ⟨_, _, rfl, by simp, by simp, fun c => absurd rfl c⟩, .inl ⟨rfl, _, _, rfl⟩⟩, hb⟩
set_option maxHeartbeats 1000000 in
theorem toMo_some (b off cap : Nat) (m : List (List (Int × Int))) (h1 : 0 < m.length) (h2 : m.length ≤ cap) (hm : m.length ≤ 1048576) (hr : ∀ i, i < m.length → (rAt m i).length ≤ 1048576) (hb : b < w.heap.size) (hc : ∀ i, i < m.length → Row w b off (rAt m i) i) :
    Calls Try.prog 19 #[.slice (some ⟨b, off, none⟩) m.length cap] w fun r w' => (∃ v, r = .returned v ∧ SlM w' v m ∧ XM w.heap.size w'.heap.size w' v m) ∧ Below w.heap.size w w' := by
  obtain ⟨i0, hi0, hz0, hs0, hb0⟩ := info_parts info_row
  obtain ⟨O, hO⟩ : ∃ O, O = Obj.cells (madeCells #[.slice none 0 0] (m.length * 1)) 42 := ⟨_, rfl⟩
  obtain ⟨n, hn⟩ : ∃ n, n = m.length := ⟨_, rfl⟩
  rw [← hn] at h1 h2 hm hO hr ⊢
  have hmk : ∀ W : World, (Instr.makeSlice 22 (.int .i64 n) (.int .i64 n)).run Try.prog W = .ok (.slice (some ⟨W.heap.size, 0, none⟩) n n) (W.alloc O) := fun W => by
    have hr := run_make (P := Try.prog) W 22 42 i0 (.slice none 0 0) Try.underlying22 hi0 hz0 .i64 .i64 (n : Int) (n : Int) (by omega) (by omega) (by rw [hb0]; omega) (by omega)
    simp only [Int.toNat_natCast, hs0] at hr
    rw [hO]
    exact hr
  clear hi0 hz0 hs0 hb0
  replace hO := Lib.hid hO
  replace hn := Lib.hid hn
  replace hc := Lib.hid hc
  replace hr := Lib.hid hr
  go_enter Try.func19, Try.ntmps19
  go_wp2
  go_loopw [4] (fun i wr => ∃ k : Nat, k ≤ n ∧ i = .int .i64 k ∧ HalfM wr w.heap.size k m ∧ (∀ o, wr.frozen? ⟨w.heap.size, o, none⟩ = false) ∧ w.heap.size < wr.heap.size ∧ Below w.heap.size w wr ∧ Hid (RO w.heap.size wr.heap.size wr m k)) (fun i _ => n - (intOf i).toNat)
  case atStart => exact ⟨0, by omega, rfl, by rw [hO.out]; exact madeM _ _ _ _ _ rfl hn.out.symm, fun o => by rw [hO.out]; simp, by simp, by (repeat (first | exact Below.refl _ _ | assumption | refine bchain (by assumption) ?_ | refine balloc ?_ _ | apply Below.drew | apply below_drewN | (refine Below.alloc ?_ (by (try simp) <;> omega) _) | (refine Below.setCell ?_ (by (try simp) <;> omega) _))), fun i h => absurd h (by omega)⟩
  case round =>
    obtain ⟨k, hk, rfl, hh, hf, hz, hB, hRO⟩ := hrel
    by_cases hlt : k < n
    · obtain ⟨u, hu, hSu⟩ := hc.out k (by have := hn.out; omega)
      have s0 : wr.cell? ⟨b, off + k, none⟩ = some u := (hB.cell (p := ⟨b, _, none⟩) hb).trans hu
      have hT := Lib.hid (toGo_any wr u (rAt m k) (hSu.below hB) (hr.out k hlt))
      have hset := Lib.hid (fun (W : World) (v : Value) (h : HalfM W w.heap.size k m) (hv : SlG W v (rAt m k)) => h.set (k := k) (by have := hn.out; omega) hv)
      obtain ⟨a2, c2, rfl, _⟩ := hSu
      obtain ⟨l, hl2⟩ : ∃ l, (rAt m k).length = l := ⟨_, rfl⟩
      rw [hl2] at hT s0
      clear hu
      replace hl2 := Lib.hid hl2
      replace hh := Lib.hid hh
      replace hf := Lib.hid hf
      go_wp2_with fail
      refine hT.out.mono ?_
      rintro r3 w3 ⟨⟨v3, rfl, hv3, hx3⟩, hb3⟩
      have hh3 := hh.out.below hb3 hz
      have hz3 := Nat.lt_of_lt_of_le hz hb3.size
      have ht := hh3 k (by have := hn.out; omega)
      rw [if_neg (by omega)] at ht
      have hf3 : ∀ o, w3.frozen? ⟨w.heap.size, o, none⟩ = false := fun o => (hb3.frozen (p := ⟨w.heap.size, o, none⟩) hz).trans (hf.out o)
      have f0 := hf3 k
      have hn2 := Lib.hid (hset.out w3 v3 hh3 hv3)
      replace hf3 := Lib.hid hf3
      have hRO2 := Lib.hid (hRO.out.next hb3 hz (by rw [hl2.out]; exact hx3) ht)
      clear hRO hx3
      obtain ⟨a4, c4, rfl, _⟩ := hv3
      clear hh3
      go_wp2
      go_roundw
      case rel => exact ⟨k + 1, by omega, by go_num, hn2.out, fun o => by simp [hf3.out o], by simp; omega, by (repeat (first | exact Below.refl _ _ | assumption | refine bchain (by assumption) ?_ | refine balloc ?_ _ | apply Below.drew | apply below_drewN | (refine Below.alloc ?_ (by (try simp) <;> omega) _) | (refine Below.setCell ?_ (by (try simp) <;> omega) _))), hRO2.out⟩
      case measure => simp [intOf]; omega
    · have hd := decide_eq_false (show ¬ ((k : Int) < (n : Int)) by omega)
      obtain rfl : k = n := by omega
      replace hh := Lib.hid hh
      replace hf := Lib.hid hf
      go_wp2
      go_ret
      refine ⟨⟨_, rfl, ?_⟩, hB⟩
      have e := hn.out
      subst e
      exact ⟨HalfM.done hh.out hz (Nat.le_refl _) (by omega), .inr ⟨_, _, rfl, Nat.le_refl _, hz, hz, hRO.out⟩⟩
theorem toMo_any (v : Value) (m : List (List (Int × Int))) (h : SlM w v m) (hm : m.length ≤ 1048576) (hr : ∀ i, i < m.length → (rAt m i).length ≤ 1048576) :
    Calls Try.prog 19 #[v] w fun r w' => (∃ u, r = .returned u ∧ SlM w' u m ∧ XM w.heap.size w'.heap.size w' u m) ∧ Below w.heap.size w w' := by
  obtain ⟨a, cap, rfl, h1, h2, h3⟩ := h
  cases m with
  | nil => exact toMo_empty w a cap
  | cons z zs =>
    obtain ⟨b, off, rfl, hb, hc⟩ := h3 (by simp)
    exact toMo_some w b off cap (z :: zs) (by simp) h1 hm hr hb hc
end
end Go.Proofs.Ytdibcchhamapjac
