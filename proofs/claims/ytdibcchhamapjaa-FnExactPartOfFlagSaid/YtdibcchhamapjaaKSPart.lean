/-
  THE FLAG ON THE LABELS AND SOME OTHER VERTICES: the model's.
-/
import Derived.Test.YtdibcchhamapjaaKPartF
import Derived.Test.YtdibcchhamapjaaKDiff
import Derived.Test.YtdibcchhamapjaaKSLeast
namespace Go.Proofs.Ytdibcchhamapjaa
open Go.RowKit Go.Shelf
set_option maxRecDepth 100000

/-- append onto a row of the call's own, as one step of a region that draws -/
theorem step_append_own {P : Program} {ops : Array Oper} {o : Oper} {a : Act} {w : World} {K : Act → World → Prop} {Q : Exit → Act → World → Prop} {E : Prop}
    (hg : o.guard = none) (s x : Operand) (t : TypeId) (hop : o.op = Op.call { callee := Callee.builtin Builtin.append, args := #[s, x], argTypes := #[t, t] })
    (base : Nat) (e : TypeId) (i : TypeInfo) (z : Value) (size bytes : Nat) (h1 : P.underlying t = some (.slice e)) (h2 : P.info? e = some i) (h3 : i.zero = some z) (h4 : i.size = size) (h5 : i.bytes = bytes) (h6 : z.cells.size = size) (h7 : 0 < size)
    (v : Value) (n : Nat) (xs : List Value) (hs : a.eval s = v) (hown : w.ownsRow base e size v n xs)
    (ad : Addr) (m c : Nat) (news : List Value) (hx : a.eval x = .slice (some ad) m c) (hn : news.length = m * size) (hc : ∀ j u, news[j]? = some u → w.cell? (ad.add j) = some u) (h1c : ∀ u ∈ news, u.oneCell' = true)
    (b1 : n + m ≤ maxLen) (b2 : (n + m) * bytes ≤ 140737488355328) (b3 : base ≤ w.heap.size)
    (hK : ∀ v' w', w'.ownsRow base e size v' (n + m) (xs ++ news) → w.grownBy w' v.ownBlock → K (a.put o.dst v') w') :
    if Region.wanted o (yielded ops a.tmps) = true then Oper.wp P o a w K Q else E := by
  have hw : Region.wanted o (yielded ops a.tmps) = true := by simp [Region.wanted, hg]
  rw [if_pos hw]
  obtain ⟨v', w', hrun, r1, r2, _⟩ := run_append_own (P := P) w base t o.type e i z size bytes h1 h2 h3 h4 h5 h6 h7 v n xs hown ad m c news hn hc h1c b1 b2 b3
  unfold Oper.wp
  simp [execOp, hop, resolve, invoke, builtin, hs, hx, hrun, Result.andThen]
  exact hK v' w' r1 r2
/-- numbers, as cells -/
def rowI (ys : List Int) : List Value := ys.map fun z => .int .i64 z
theorem rowI_length (ys : List Int) : (rowI ys).length = ys.length := by simp [rowI]
theorem rowI_zl (x : List Nat) : rowI (zl x) = x.map fun i => .int .i64 ((i : Nat) : Int) := by simp [rowI, zl]
theorem rowI_app (xs ys : List Int) : rowI (xs ++ ys) = rowI xs ++ rowI ys := by simp [rowI]
theorem rowI_get {ys : List Int} {i : Nat} {u : Value} (h : (rowI ys)[i]? = some u) : i < ys.length ∧ u = .int .i64 (ys[i]?.getD 0) := by
  unfold rowI at h
  rw [List.getElem?_map] at h
  cases hx : ys[i]? with
  | none => rw [hx] at h; cases h
  | some v =>
    rw [hx] at h
    injection h with h
    obtain ⟨h1, _⟩ := List.getElem?_eq_some_iff.1 hx
    exact ⟨h1, by rw [← h]; simp⟩
theorem rowI_one (ys : List Int) : ∀ u ∈ rowI ys, u.oneCell' = true := fun u hu => by unfold rowI at hu; rw [List.mem_map] at hu; obtain ⟨_, _, rfl⟩ := hu; rfl
theorem SlS.srcI {w : World} {v : Value} {zs : List Int} {ad : Addr} {l cap : Nat} (hS : SlS w v zs) (hv : v = .slice (some ad) l cap) : ∀ q u, (rowI zs)[q]? = some u → w.cell? (ad.add q) = some u := fun q u hq => by
  obtain ⟨q1, q2⟩ := rowI_get hq
  obtain ⟨a', cap', e1, _, _, e3⟩ := hS.1
  obtain ⟨b, off, rfl, hb, hc⟩ := e3 (by intro c; subst c; simp at q1)
  rw [hv] at e1
  injection e1 with e1 _ _
  injection e1 with e1
  rw [e1, add_none, hc q q1, q2]
theorem row_slI {w : World} {base : Nat} {v : Value} {n : Nat} {ys : List Int} (h : w.ownsRow base 2 1 v n (rowI ys)) (hn : ys.length = n) : SlI w v ys := by
  have hm : maxLen ≤ 9223372036854775807 := by unfold maxLen; omega
  rcases h.2 with ⟨rfl, rfl⟩ | ⟨g, cap, cur, rfl, hg, hh, hnc, hc, hs, hx⟩
  · rw [List.length_eq_zero_iff] at hn
    subst hn
    exact ⟨none, 0, rfl, Nat.zero_le _, by omega, fun c => absurd rfl c⟩
  · refine ⟨some ⟨g, 0, none⟩, cap, by rw [hn], by omega, by omega, fun _ => ⟨g, 0, rfl, (Array.getElem?_eq_some_iff.1 hh).1, fun i hi => ?_⟩⟩
    have h1 : (cur.toList.take (n * 1))[i]? = some (.int .i64 (ys[i]?.getD 0)) := by
      rw [hx]
      simp [rowI, hi]
    rw [List.getElem?_take_of_lt (by omega)] at h1
    rw [Nat.zero_add]
    simpa [World.cell?, hh] using h1

section
variable (w : World)
theorem first_rowI (n : Nat) (hn : n ≤ 5) :
    Calls Try.prog 54 #[.int .i64 n] w fun r w' => (∃ v, r = .returned v ∧ Hid (w'.ownsRow w.heap.size 2 1 v n (rowI (zl (List.range n))))) ∧ Below w.heap.size w w' := by
  rw [rowI_zl]
  exact first_row w n hn
set_option maxHeartbeats 4000000 in
theorem spart_any (k n e m : Nat) (x : List Nat) (v : Value) (h : VK k n e) (hS : SlS w v (zl x)) (hm : x.length = m) (hx : okList n (k + m) (List.range k ++ x) = true) (hvk : VK k (k + m : Nat) (onL e (List.range k ++ x) : Nat)) :
    Calls Try.prog 62 #[.agg #[.int .i64 k, .int .i64 n, .int .u32 e], v] w fun r w' => r = .returned (.agg #[.int .i64 k, .int .i64 ((k + m : Nat) : Int), .int .u32 (leastK (k + m) k (onL e (List.range k ++ x)) : Nat)]) ∧ Below w.heap.size w w' := by
  obtain ⟨he, hn5, hk3, hkn⟩ := h.nums
  have hroom := ok_len hx
  obtain ⟨i0, hi, hz0, hz1, hz2⟩ := info_parts info_i64
  obtain ⟨_, ad, cap, hv⟩ := id hS
  rw [zl_length, hm] at hv
  have hOn := Lib.hid (fun W u (hs : See (List.range k ++ x) u W) => sonL_any W u (List.range k ++ x) n (k + m) e hs hn5 (by omega) hx)
  have hLs := Lib.hid (fun W => sleastK_any W k (k + m) _ hvk)
  have hFr := Lib.hid (fun W => first_rowI W k (by omega))
  obtain ⟨y, hy⟩ : ∃ y, onL e (List.range k ++ x) = y := ⟨_, rfl⟩
  rw [hy] at hOn hLs ⊢
  obtain ⟨z, hz⟩ : ∃ z, leastK (k + m) k y = z := ⟨_, rfl⟩
  rw [hz] at hLs ⊢
  obtain ⟨wb, hwb⟩ : ∃ wb, wb = (w.alloc (.cells #[.int .i64 k, .int .i64 n, .int .u32 e] 30)).alloc (.cells #[.int .i64 0, .int .i64 0, .int .u32 0] 30) := ⟨_, rfl⟩
  have s1 : ∀ (W : World) (o : Obj), (W.alloc o).heap.size = W.heap.size + 1 := fun W o => by simp
  have hbz : wb.heap.size = w.heap.size + 2 := by rw [hwb, s1, s1]
  have hF : FC wb w.heap.size k n e := by rw [hwb]; exact (FC.made w k n e _).below ((Below.refl _ _).alloc (Nat.le_refl _) _)
  have hR : FC wb (w.heap.size + 1) 0 0 0 := by
    have := FC.made (w.alloc (.cells #[.int .i64 k, .int .i64 n, .int .u32 e] 30)) 0 0 0 30
    rw [s1, ← hwb] at this
    exact this
  have hfz : ∀ i, wb.frozen? ⟨w.heap.size + 1, i, none⟩ = false := fun i => by rw [hwb, fNew _ _ _ _ _ (by rw [s1])]
  have hB0 : Below w.heap.size w wb := by rw [hwb]; (repeat (first | exact Below.refl _ _ | assumption | refine bchain (by assumption) ?_ | refine balloc ?_ _ | apply Below.drew | apply below_drewN | (refine Below.alloc ?_ (by (try simp) <;> omega) _) | (refine Below.setCell ?_ (by (try simp) <;> omega) _)))
  have hsrc : ∀ W, Below wb.heap.size wb W → ∀ q u, (rowI (zl x))[q]? = some u → W.cell? (ad.add q) = some u := fun W hW => ((hS.below hB0).below hW).srcI hv
  have hsee : ∀ W u, W.ownsRow wb.heap.size 2 1 u (k + m) (rowI (zl (List.range k)) ++ rowI (zl x)) → See (List.range k ++ x) u W := fun W u hu => by
    rw [← rowI_app, show zl (List.range k) ++ zl x = zl (List.range k ++ x) by simp [zl]] at hu
    exact row_slI hu (by rw [zl_length, List.length_append, hm]; simp)
  have hrl : (rowI (zl x)).length = m * 1 := by rw [rowI_length, zl_length, hm]; omega
  have h1c := rowI_one (zl x)
  obtain ⟨X, hX⟩ : ∃ X, X = rowI (zl x) := ⟨_, rfl⟩
  obtain ⟨X0, hX0⟩ : ∃ X0, X0 = rowI (zl (List.range k)) := ⟨_, rfl⟩
  rw [← hX] at hsrc hrl h1c hsee
  rw [← hX0] at hsee hFr
  subst hv
  replace hsrc := Lib.hid hsrc
  replace hsee := Lib.hid hsee
  replace hrl := Lib.hid hrl
  replace h1c := Lib.hid h1c
  replace hi := Lib.hid hi
  replace hz0 := Lib.hid hz0
  replace hz1 := Lib.hid hz1
  replace hz2 := Lib.hid hz2
  replace hwb := Lib.hid hwb
  obtain ⟨f0, f1, f2, f3⟩ := hF
  obtain ⟨r0, r1, r2, r3⟩ := hR
  clear hx hy hz hm hS s1 h hvk hX hX0
  rw [show ((k + m : Nat) : Int) = (k : Int) + (m : Int) from Int.natCast_add k m] at hOn hLs ⊢
  go_enter Try.func62, Try.ntmps62
  go_wp2_with fail
  rw [← hwb.out]
  refine (hFr.out _).mono ?_
  rintro r3' w3 ⟨⟨u3, rfl, hown3⟩, hb3⟩
  have hge3 := hb3.size
  go_wp2_with (at_builtin; refine wpList_append_own _ rfl _ _ 43 rfl wb.heap.size 2 i0 (.int .i64 0) 1 8 Try.underlying43 hi.out hz0.out hz1.out hz2.out rfl (by decide) _ _ _ rfl hown3.out ad m cap X rfl hrl.out (hsrc.out w3 hb3) h1c.out (by unfold maxLen; omega) (by omega) hge3 ?_; intro v' w4 hown' hgrow _)
  have hb4 : Below wb.heap.size wb w4 := hb3.grown hgrow hge3 (fun q hq => (hown3.out.lt q hq).1)
  have hse := Lib.hid (hsee.out w4 v' hown')
  have d0 := old_cell f0 f1 hb4
  have d1 := old_cell f0 f2 hb4
  have d2 := old_cell f0 f3 hb4
  have dl : w.heap.size < w4.heap.size := Nat.lt_of_lt_of_le f0 hb4.size
  have dl2 : w.heap.size + 1 < w4.heap.size := Nat.lt_of_lt_of_le r0 hb4.size
  have dr0 := old_cell r0 r1 hb4
  have dr1 := old_cell r0 r2 hb4
  have dr2 := old_cell r0 r3 hb4
  have df : ∀ i, w4.frozen? ⟨w.heap.size + 1, i, none⟩ = false := fun i => (hb4.frozen (p := ⟨w.heap.size + 1, i, none⟩) r0).trans (hfz i)
  have hB4 : Below w.heap.size w w4 := hB0.trans (hb4.mono hB0.size)
  replace df := Lib.hid df
  clear hown' hgrow hown3 hb3 hb4 f0 f1 f2 f3 r0 r1 r2 r3 hsrc hfz hFr hsee hge3 hB0
  go_wp2_with fail
  go_region_held3 (fun A => A.cell? ⟨w.heap.size, 0, none⟩ = some (.int .i64 k) ∧ A.cell? ⟨w.heap.size, 1, none⟩ = some (.int .i64 n) ∧ A.cell? ⟨w.heap.size, 2, none⟩ = some (.int .u32 e))
    (first | exact ⟨three_other v0, three_other v1, three_other v2⟩ | exact ⟨old_cell dl d0 (by (repeat (first | exact Below.refl _ _ | assumption | refine bchain (by assumption) ?_ | refine balloc ?_ _ | apply Below.drew | apply below_drewN | (refine Below.alloc ?_ (by (try simp) <;> omega) _) | (refine Below.setCell ?_ (by (try simp) <;> omega) _)))), old_cell dl d1 (by (repeat (first | exact Below.refl _ _ | assumption | refine bchain (by assumption) ?_ | refine balloc ?_ _ | apply Below.drew | apply below_drewN | (refine Below.alloc ?_ (by (try simp) <;> omega) _) | (refine Below.setCell ?_ (by (try simp) <;> omega) _)))), old_cell dl d2 (by (repeat (first | exact Below.refl _ _ | assumption | refine bchain (by assumption) ?_ | refine balloc ?_ _ | apply Below.drew | apply below_drewN | (refine Below.alloc ?_ (by (try simp) <;> omega) _) | (refine Below.setCell ?_ (by (try simp) <;> omega) _))))⟩)
    (first
    | (go_at_call 56; refine (hOn.out _ _ (See.below _ _ _ _ hse.out (by (repeat (first | exact Below.refl _ _ | assumption | refine bchain (by assumption) ?_ | refine balloc ?_ _ | apply Below.drew | apply below_drewN | (refine Below.alloc ?_ (by (try simp) <;> omega) _) | (refine Below.setCell ?_ (by (try simp) <;> omega) _)))))).mono ?_; rintro r5 w5 ⟨rfl, hb5⟩)
    | (go_at_call 52; refine (hLs.out _).mono ?_; rintro r6 w6 ⟨rfl, hb6⟩; have hb66 : Below w4.heap.size w4 w6 := (by (repeat (first | exact Below.refl _ _ | assumption | refine bchain (by assumption) ?_ | refine balloc ?_ _ | apply Below.drew | apply below_drewN | (refine Below.alloc ?_ (by (try simp) <;> omega) _) | (refine Below.setCell ?_ (by (try simp) <;> omega) _)))); have v0 := old_cell dl d0 hb66; have v1 := old_cell dl d1 hb66; have v2 := old_cell dl d2 hb66; have t0 := old_cell dl2 dr0 hb66; have t1 := old_cell dl2 dr1 hb66; have t2 := old_cell dl2 dr2 hb66; have u0 := ((hb66.frozen (p := ⟨w.heap.size + 1, 0, none⟩) dl2).trans (df.out 0)); have u1 := ((hb66.frozen (p := ⟨w.heap.size + 1, 1, none⟩) dl2).trans (df.out 1)); have u2 := ((hb66.frozen (p := ⟨w.heap.size + 1, 2, none⟩) dl2).trans (df.out 2))))
  all_goals
    have hfc : FC w6 (w.heap.size + 1) 0 0 0 := ⟨Nat.lt_of_lt_of_le dl2 hb66.size, t0, t1, t2⟩
    have hbw : Below w.heap.size w w6 := hB4.trans (hb66.mono hB4.size)
    clear hb5 hb6 hb66 d0 d1 d2 dr0 dr1 dr2 dl dl2 hOn hLs
    go_wp2
    have hF := hfc.put (k) ((k : Int) + m) (z)
    have hBB := (((hbw.setCell (p := ⟨w.heap.size + 1, 0, none⟩) (by show w.heap.size ≤ w.heap.size + 1; omega) (.int .i64 (k))).setCell (p := ⟨w.heap.size + 1, 1, none⟩) (by show w.heap.size ≤ w.heap.size + 1; omega) (.int .i64 ((k : Int) + m))).setCell (p := ⟨w.heap.size + 1, 2, none⟩) (by show w.heap.size ≤ w.heap.size + 1; omega) (.int .u32 (z)))
    obtain ⟨WW, hWW⟩ : ∃ WW, WW = (((w6.setCell ⟨w.heap.size + 1, 0, none⟩ (.int .i64 (k))).setCell ⟨w.heap.size + 1, 1, none⟩ (.int .i64 ((k : Int) + m))).setCell ⟨w.heap.size + 1, 2, none⟩ (.int .u32 (z))) := ⟨_, rfl⟩
    rw [← hWW] at hF hBB ⊢
    clear hWW
    obtain ⟨_, hF0, hF1, hF2⟩ := hF
    exact bodyPost_ret (v := .agg #[.int .i64 (k), .int .i64 ((k : Int) + m), .int .u32 (z)]) (by simp [results, Try.results62, go_sem, hF0, hF1, hF2]) rfl ⟨rfl, hBB⟩
end
end Go.Proofs.Ytdibcchhamapjaa
