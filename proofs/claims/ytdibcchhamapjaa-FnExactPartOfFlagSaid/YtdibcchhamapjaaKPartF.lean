/-
  THE FLAG ON THE LABELS AND SOME OTHER VERTICES: the program's.
-/
import Derived.Test.YtdibcchhamapjaaKPart
namespace Go.Proofs.Ytdibcchhamapjaa
open Go.RowKit Go.Shelf
set_option maxRecDepth 100000

theorem SlS.src {w : World} {v : Value} {x : List Nat} {ad : Addr} {l cap : Nat} (hS : SlS w v (zl x)) (hv : v = .slice (some ad) l cap) : ∀ q u, (rowN x)[q]? = some u → w.cell? (ad.add q) = some u := fun q u hq => by
  obtain ⟨q1, q2⟩ := rowN_get hq
  obtain ⟨a', cap', e1, _, _, e3⟩ := hS.1
  obtain ⟨b, off, rfl, hb, hc⟩ := e3 (by intro c; rw [← List.length_eq_zero_iff, zl_length] at c; omega)
  rw [hv] at e1
  injection e1 with e1 _ _
  injection e1 with e1
  rw [e1, add_none, hc q (by rw [zl_length]; exact q1), zl_get, q2]
theorem LMem.spare {W : World} {B n : Nat} {p x : List Nat} (h : LMem W B n p) (hl : p.length + x.length ≤ n) : ∀ j, j < (rowN x).length → (W.cell? ⟨B, 0 + p.length * 1 + j, none⟩).isSome = true ∧ W.frozen? ⟨B, 0 + p.length * 1 + j, none⟩ = false := fun j hj => by
  rw [rowN_length] at hj
  obtain ⟨z, hz⟩ := h.cells (0 + p.length * 1 + j) (by omega)
  exact ⟨by rw [hz]; rfl, h.free _ (by omega)⟩
theorem ok_len {n m : Nat} {x : List Nat} (h : okList n m x = true) : m ≤ n := by
  have := (diff_zl h).length_le
  rw [zl_length, ok_length h] at this
  exact this
theorem three_other {W : World} {G o : Nat} {x y z u : Value} (h : W.cell? ⟨G, o, none⟩ = some u) : (((W.setCell ⟨G + 1, 0, none⟩ x).setCell ⟨G + 1, 1, none⟩ y).setCell ⟨G + 1, 2, none⟩ z).cell? ⟨G, o, none⟩ = some u :=
  (World.cell?_setCell_other _ _ _ _ (by simp)).trans ((World.cell?_setCell_other _ _ _ _ (by simp)).trans ((World.cell?_setCell_other _ _ _ _ (by simp)).trans h))
section
variable (w : World)
set_option maxHeartbeats 4000000 in
theorem part_any (k n e m : Nat) (x : List Nat) (v : Value) (h : VK k n e) (hS : SlS w v (zl x)) (hm : x.length = m) (hx : okList n (k + m) (List.range k ++ x) = true) :
    Calls Try.prog 64 #[.agg #[.int .i64 k, .int .i64 n, .int .u32 e], v] w fun r w' => r = .returned (.agg #[.int .i64 k, .int .i64 ((k + m : Nat) : Int), .int .u32 (onL e (List.range k ++ x) : Nat)]) ∧ Below w.heap.size w w' := by
  obtain ⟨he, hn5, hk3, hkn⟩ := h.nums
  have hroom := ok_len hx
  obtain ⟨i0, hi, hz0, hz1, hz2⟩ := info_parts info_i64
  obtain ⟨_, ad, cap, hv⟩ := id hS
  rw [zl_length, hm] at hv
  have hOn := Lib.hid (fun W u (hs : See (List.range k ++ x) u W) => ionL_any W u (List.range k ++ x) n (k + m) e hs hn5 (by omega) hx)
  obtain ⟨wb, hwb⟩ : ∃ wb, wb = (w.alloc (.cells #[.int .i64 k, .int .i64 n, .int .u32 e] 30)).alloc (.cells #[.int .i64 0, .int .i64 0, .int .u32 0] 30) := ⟨_, rfl⟩
  have s1 : ∀ (W : World) (o : Obj), (W.alloc o).heap.size = W.heap.size + 1 := fun W o => by simp
  have hbz : wb.heap.size = w.heap.size + 2 := by rw [hwb, s1, s1]
  have hF : FC wb w.heap.size k n e := by rw [hwb]; exact (FC.made w k n e _).below ((Below.refl _ _).alloc (Nat.le_refl _) _)
  have hR : FC wb (w.heap.size + 1) 0 0 0 := by
    have := FC.made (w.alloc (.cells #[.int .i64 k, .int .i64 n, .int .u32 e] 30)) 0 0 0 30
    rw [s1, ← hwb] at this
    exact this
  have hfz : ∀ i, wb.frozen? ⟨w.heap.size + 1, i, none⟩ = false := fun i => by rw [hwb, fNew _ _ _ _ _ (by rw [s1])]
  have hB0 : Below w.heap.size w wb := by rw [hwb]; (repeat (first | exact Below.refl _ _ | assumption | refine bchain (by assumption) ?_ | refine balloc ?_ _ | apply Below.drew | apply below_drewN | (refine Below.alloc ?_ (by (try simp) <;> omega) _) | (refine Below.setCell ?_ (by (try simp) <;> omega) _)))
  have hsrc : ∀ W, Below wb.heap.size wb W → ∀ q u, (rowN x)[q]? = some u → W.cell? (ad.add q) = some u := fun W hW => ((hS.below hB0).below hW).src hv
  obtain ⟨y, hy⟩ : ∃ y, onL e (List.range k ++ x) = y := ⟨_, rfl⟩
  rw [hy] at hOn ⊢
  subst hv
  have hrl : (rowN x).length = m * 1 := by rw [rowN_length, hm]; omega
  have h1c : ∀ u ∈ rowN x, u.oneCell' = true := fun u hu => by unfold rowN at hu; rw [List.mem_map] at hu; obtain ⟨_, _, rfl⟩ := hu; rfl
  have hap : ∀ W3 B, wb.heap.size ≤ B → Below wb.heap.size wb W3 → LMem W3 B n (List.range k) → (∀ j, j < (rowN x).length → (W3.cell? ⟨B, 0 + k * 1 + j, none⟩).isSome = true ∧ W3.frozen? ⟨B, 0 + k * 1 + j, none⟩ = false) ∧
      See (List.range k ++ x) (.slice (some ⟨B, 0, none⟩) (k + m) n) (W3.setCells B k (rowN x)) ∧ Below wb.heap.size wb (W3.setCells B k (rowN x)) := fun W3 B hB hb hM => by
    have hl : (List.range k).length = k := List.length_range
    have h1 := hM.spare (x := x) (by rw [hl]; omega)
    have h2 := (hM.setCells x (by rw [hl]; omega)).sl (by omega)
    rw [hl] at h1 h2
    rw [List.length_append, hl, hm] at h2
    exact ⟨h1, h2, setCells_below hb hB _ _⟩
  replace hap := Lib.hid hap
  replace hsrc := Lib.hid hsrc
  replace hrl := Lib.hid hrl
  replace h1c := Lib.hid h1c
  replace hi := Lib.hid hi
  replace hz1 := Lib.hid hz1
  replace hwb := Lib.hid hwb
  obtain ⟨f0, f1, f2, f3⟩ := hF
  obtain ⟨r0, r1, r2, r3⟩ := hR
  clear hz0 hz2 hx hy hm hS s1 h
  obtain ⟨X, hX⟩ : ∃ X, X = rowN x := ⟨_, rfl⟩
  rw [← hX] at hap hsrc hrl h1c
  clear hX
  rw [show ((k + m : Nat) : Int) = (k : Int) + (m : Int) from Int.natCast_add k m]
  go_enter Try.func64, Try.ntmps64
  go_wp2_with fail
  rw [← hwb.out]
  go_region_held3 (fun A => A.cell? ⟨w.heap.size, 0, none⟩ = some (.int .i64 k) ∧ A.cell? ⟨w.heap.size, 1, none⟩ = some (.int .i64 n) ∧ A.cell? ⟨w.heap.size, 2, none⟩ = some (.int .u32 e))
    (first | exact ⟨three_other v0, three_other v1, three_other v2⟩ | exact ⟨old_cell f0 f1 (by (repeat (first | exact Below.refl _ _ | assumption | refine bchain (by assumption) ?_ | refine balloc ?_ _ | apply Below.drew | apply below_drewN | (refine Below.alloc ?_ (by (try simp) <;> omega) _) | (refine Below.setCell ?_ (by (try simp) <;> omega) _)))), old_cell f0 f2 (by (repeat (first | exact Below.refl _ _ | assumption | refine bchain (by assumption) ?_ | refine balloc ?_ _ | apply Below.drew | apply below_drewN | (refine Below.alloc ?_ (by (try simp) <;> omega) _) | (refine Below.setCell ?_ (by (try simp) <;> omega) _)))), old_cell f0 f3 (by (repeat (first | exact Below.refl _ _ | assumption | refine bchain (by assumption) ?_ | refine balloc ?_ _ | apply Below.drew | apply below_drewN | (refine Below.alloc ?_ (by (try simp) <;> omega) _) | (refine Below.setCell ?_ (by (try simp) <;> omega) _))))⟩)
    (first
    | (go_at_call 76; refine (labels_any _ k n e hkn hn5).mono ?_; rintro r3 w3 ⟨B, rfl, hB3, hM3, hb3⟩; have hbb : Below wb.heap.size wb w3 := (by (repeat (first | exact Below.refl _ _ | assumption | refine bchain (by assumption) ?_ | refine balloc ?_ _ | apply Below.drew | apply below_drewN | (refine Below.alloc ?_ (by (try simp) <;> omega) _) | (refine Below.setCell ?_ (by (try simp) <;> omega) _)))); obtain ⟨hsp, hse, hbx⟩ := hap.out w3 B hB3 hbb hM3; replace hsp := Lib.hid hsp; replace hse := Lib.hid hse; clear hM3 hb3)
    | (refine step_append_room rfl (.tmp 10) (.tmp 11) 43 rfl 2 i0 1 Try.underlying43 hi.out hz1.out B 0 k n (by simp [Act.eval]) ad m cap X (by simp [Act.eval]) hrl.out (hsrc.out w3 hbb) h1c.out hroom hsp.out ?_; simp only [Nat.zero_add, Nat.mul_one])
    | (go_at_call 71; refine (hOn.out _ _ hse.out).mono ?_; rintro r5 w5 ⟨rfl, hb5⟩; have hb55 : Below wb.heap.size wb w5 := hbx.trans (hb5.mono hbx.size); have v0 := old_cell f0 f1 hb55; have v1 := old_cell f0 f2 hb55; have v2 := old_cell f0 f3 hb55; have t0 := old_cell r0 r1 hb55; have t1 := old_cell r0 r2 hb55; have t2 := old_cell r0 r3 hb55; have u0 := ((hb55.frozen (p := ⟨w.heap.size + 1, 0, none⟩) r0).trans (hfz 0)); have u1 := ((hb55.frozen (p := ⟨w.heap.size + 1, 1, none⟩) r0).trans (hfz 1)); have u2 := ((hb55.frozen (p := ⟨w.heap.size + 1, 2, none⟩) r0).trans (hfz 2))))
  all_goals
    have hfc : FC w5 (w.heap.size + 1) 0 0 0 := ⟨Nat.lt_of_lt_of_le r0 hb55.size, t0, t1, t2⟩
    have hbw : Below w.heap.size w w5 := hB0.trans (hb55.mono hB0.size)
    clear hb5 hb55 hbx hbb hB3 f0 f1 f2 f3 r0 r1 r2 r3 hap hsrc hOn
    go_wp2
    have hF := hfc.put (k) ((k : Int) + m) (y)
    have hBB := (((hbw.setCell (p := ⟨w.heap.size + 1, 0, none⟩) (by show w.heap.size ≤ w.heap.size + 1; omega) (.int .i64 (k))).setCell (p := ⟨w.heap.size + 1, 1, none⟩) (by show w.heap.size ≤ w.heap.size + 1; omega) (.int .i64 ((k : Int) + m))).setCell (p := ⟨w.heap.size + 1, 2, none⟩) (by show w.heap.size ≤ w.heap.size + 1; omega) (.int .u32 (y)))
    obtain ⟨WW, hWW⟩ : ∃ WW, WW = (((w5.setCell ⟨w.heap.size + 1, 0, none⟩ (.int .i64 (k))).setCell ⟨w.heap.size + 1, 1, none⟩ (.int .i64 ((k : Int) + m))).setCell ⟨w.heap.size + 1, 2, none⟩ (.int .u32 (y))) := ⟨_, rfl⟩
    rw [← hWW] at hF hBB ⊢
    clear hWW
    obtain ⟨_, hF0, hF1, hF2⟩ := hF
    exact bodyPost_ret (v := .agg #[.int .i64 (k), .int .i64 ((k : Int) + m), .int .u32 (y)]) (by simp [results, Try.results64, go_sem, hF0, hF1, hF2]) rfl ⟨rfl, hBB⟩
end
end Go.Proofs.Ytdibcchhamapjaa
