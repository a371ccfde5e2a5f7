/-
  THE TEXT OF A PATTERN: the program's contract.
-/
import Derived.Test.YtiedombphcdpbaaDoorPx
namespace Go.Proofs.YtiedombphcdpbaaDoor
open Go.RowKit Go.Shelf
set_option maxRecDepth 100000
attribute [local go_sem] Oper.semAt_some
/-- a list of vertices that the call laid, as a block -/
theorem row_parts {W : World} {base : Nat} {v : Value} {n : Nat} {x : List Nat} (h : W.ownsRow base 2 1 v n (rowN x)) (hn : x.length = n) : ∃ a cap, v = .slice a n cap ∧ (0 < n → ∃ g cs fz, a = some ⟨g, 0, none⟩ ∧ base ≤ g ∧ W.heap[g]? = some (.cells cs 2 fz) ∧ ∀ i, i < n → cs[i]? = some (.int .i64 ((x[i]?.getD 0 : Nat) : Int))) := by
  rcases h.2 with ⟨rfl, rfl⟩ | ⟨g, cap, cur, rfl, hg, hh, hnc, hc, hs, hx⟩
  · exact ⟨none, 0, rfl, fun c => absurd c (by omega)⟩
  · refine ⟨some ⟨g, 0, none⟩, cap, rfl, fun _ => ⟨g, cur, _, rfl, hg, hh, fun i hi => ?_⟩⟩
    have h1 : (cur.toList.take (n * 1))[i]? = some (.int .i64 ((x[i]?.getD 0 : Nat) : Int)) := by
      rw [hx]
      simp [rowN, show i < x.length by omega]
    rw [List.getElem?_take_of_lt (by omega)] at h1
    simpa using h1
theorem bd_not_int {W : World} {b : Nat} {l : List UInt8} (h : BdAt W b l) {g : Nat} {cs : Array Value} {fz : Nat × Nat} (hg : W.heap[g]? = some (.cells cs 2 fz)) : g ≠ b := by
  intro e
  subst e
  rcases h with ⟨_, v, h2, _⟩ | ⟨_, v, h2, _⟩ <;> (rw [h2] at hg; have := (Obj.cells.inj (Option.some.inj hg)).2.1; exact absurd this (by decide))
section
variable (w : World)
set_option maxHeartbeats 1000000 in
theorem verts_row (s : Nat) (hs : s < 32) (hT : TabZ w) :
    Calls Tryd.prog 60 #[.int .u32 s] w fun r w' => (∃ v, r = .returned v ∧ Hid (w'.ownsRow w.heap.size 2 1 v (bitsL s).length (rowN (bitsL s)))) ∧ Below w.heap.size w w' := by
  obtain ⟨i0, hi, hz0, hz1, hz2⟩ := info_parts info_i64
  replace hi := Lib.hid hi
  replace hz0 := Lib.hid hz0
  replace hz1 := Lib.hid hz1
  replace hz2 := Lib.hid hz2
  replace hT := Lib.hid hT
  go_enter Tryd.func60, Tryd.ntmps60
  go_wp2
  go_loopw [0, 3] (fun c v wr => ∃ (k : Nat) (pre : List Nat), c = .int .u32 k ∧ k < 32 ∧ Hid (pre ++ bitsL k = bitsL s) ∧ Hid (wr.ownsRow w.heap.size 2 1 v pre.length (rowN pre)) ∧ Below w.heap.size w wr) (fun c _ _ => (intOf c).toNat)
  case atStart => exact ⟨s, [], rfl, hs, rfl, World.ownsRow_nil _ _ _ _, Below.refl _ _⟩
  case round =>
    obtain ⟨k, pre, rfl, hk, hpre, hown, hb⟩ := hrel
    by_cases h0 : k = 0
    · subst h0
      have hpre2 : pre = bitsL s := by have := hpre.out; rw [show bitsL 0 = [] from by decide, List.append_nil] at this; exact this
      have hsee := Lib.hid hown.out
      rw [hpre2] at hsee
      clear hpre hown hpre2
      go_wp2
      go_ret
      exact ⟨⟨_, rfl, hsee⟩, hb⟩
    · have hge := hb.size
      obtain ⟨hst, hlt, h5⟩ := bitsL_step k hk h0
      have hC := Lib.hid (fun W (h : Below wr.heap.size wr W) => tz_any W k hk h0 ((hT.out.below hb).below h))
      have hne : ((k : Int) == 0) = false := by simp; omega
      have hne2 : ((k : Int) != 0) = true := by simp; omega
      have hak := and_key k hk h0
      have hk1 : (1 : Int) ≤ (k : Int) := by omega
      have hpl : pre.length ≤ 5 := by
        have h1 := bitsL_len s hs
        rw [← hpre.out, List.length_append] at h1
        omega
      have hpre2 : Hid ((pre ++ [tzN k]) ++ bitsL (k &&& (k - 1)) = bitsL s) := by
        show _ = _
        rw [← hpre.out, hst, List.append_assoc]
        rfl
      obtain ⟨t, ht⟩ : ∃ t, tzN k = t := ⟨_, rfl⟩
      obtain ⟨k2, hk2⟩ : ∃ k2, k &&& (k - 1) = k2 := ⟨_, rfl⟩
      rw [ht] at hC h5 hpre2
      rw [hk2] at hpre2 hlt hak
      clear hst ht hk2 hpre h0
      have hpl2 : Hid (pre.length ≤ 5) := hpl
      obtain ⟨m, hm⟩ : ∃ m, pre.length = m := ⟨_, rfl⟩
      rw [hm] at hown hpl
      go_wp2_with (first
        | (go_at_call 99; refine (hC.out _ (Below.refl _ _)).mono ?_; rintro r3 w3 ⟨rfl, rfl⟩)
        | (at_builtin; refine wpList_append_own _ rfl _ _ 115 rfl w.heap.size 2 i0 (.int .i64 0) 1 8 Tryd.underlying115 hi.out hz0.out hz1.out hz2.out rfl (by decide) _ _ _ rfl (hown.out.alloc _) ⟨wr.heap.size, 0, none⟩ 1 1 [.int .i64 t] rfl rfl (fun q u hq => by cases q with | zero => simp at hq; subst hq; rw [show (⟨wr.heap.size, 0, none⟩ : Addr).add 0 = ⟨wr.heap.size, 0, none⟩ from rfl, World.cell?_alloc_new]; rfl | succ q => simp at hq) (fun u hu => by simp at hu; subst hu; rfl) (by unfold maxLen; omega) (by omega) (by simp; omega) ?_; intro v' w1 hown' hgrow _))
      have hown2 : Hid (w1.ownsRow w.heap.size 2 1 v' (pre ++ [t]).length (rowN (pre ++ [t]))) := by
        show w1.ownsRow w.heap.size 2 1 v' (pre ++ [t]).length (rowN (pre ++ [t]))
        rw [rowN_snoc, List.length_append, hm]
        exact hown'
      have hb2 : Below w.heap.size w w1 := (hb.alloc hge _).grown hgrow (by simp; omega) (fun k hk => (hown.out.lt k hk).1)
      clear hown' hgrow hown hm
      go_wp2
      go_roundw
      case rel => exact ⟨k2, pre ++ [t], by rfl, by omega, hpre2, hown2, hb2⟩
      case measure => simp [intOf]; omega
theorem ipp_f (X : PM) (u : Value) (hS : Fr.SlG w u X.ts) (hbd : BdP X) (h : ¬ VPat X) :
    Calls Tryd.prog 25 #[.agg #[.int .i64 X.n, .int .u32 X.e, .int .u32 X.s, u]] w fun r w' => r = .returned (.string ⟨#[]⟩) ∧ Below w.heap.size w w' := by
  have hV := Lib.hid (fun W (hB : Below w.heap.size w W) => ivp_any W X u (hS.below hB) hbd false (by simp [h]))
  obtain ⟨a, cap, rfl, _⟩ := hS
  obtain ⟨lt, hlt⟩ : ∃ l, X.ts.length = l := ⟨_, rfl⟩
  rw [hlt] at hV ⊢
  have hB0 : Below w.heap.size w (w.alloc (.cells #[.int .i64 X.n, .int .u32 X.e, .int .u32 X.s, .slice a lt cap] 62)) := by (repeat (first | exact Below.refl _ _ | assumption | refine bchain (by assumption) ?_ | refine balloc ?_ _ | apply Below.drew | apply below_drewN | (refine Below.alloc ?_ (by (try simp) <;> omega) _) | (refine Below.setCell ?_ (by (try simp) <;> omega) _)))
  clear hbd h hlt
  go_enter Tryd.func25, Tryd.ntmps25
  go_wp2_with fail
  refine (hV.out _ hB0).mono ?_
  rintro r1 w1 ⟨rfl, hb1⟩
  go_wp2
  go_ret
  exact ⟨rfl, bchain hb1 hB0⟩
set_option maxHeartbeats 4000000 in
theorem ipp_t (X : PM) (u : Value) (hS : Fr.SlG w u X.ts) (hbd : BdP X) (h : VPat X) (hT : TabP w) (hZ : TabZ w) :
    Calls Tryd.prog 25 #[.agg #[.int .i64 X.n, .int .u32 X.e, .int .u32 X.s, u]] w fun r w' => r = .returned (.string (tx (ppB X X.ts.length ++ [10]))) ∧ Below w.heap.size w w' := by
  obtain ⟨n, e, s, hn, he, hs, hn4, hs2, hs32, he32, hlen⟩ := vp_nat h hbd
  have hV := Lib.hid (fun W (hB : Below w.heap.size w W) => ivp_any W X u (hS.below hB) hbd true (by simp [h]))
  have hG := Lib.hid (fun W (hB : Below w.heap.size w W) => igT_any W h.1 (hT.below hB))
  have hgl := gT_len h.1
  have hpl := ppH_len h.1
  have x1 := run_cat pHd (gT X.n X.e) (by simp [pHd]) (by omega)
  have x2 := run_cat (pHd ++ gT X.n X.e) pLp (by simp [pHd]; omega) (by simp [pLp])
  rw [show pHd ++ gT X.n X.e ++ pLp = ppH X.n X.e ++ lpT ((bitsL s).take 0) by simp [ppH, lpT]] at x2
  have hAw := h.2.2.2.1
  have hBl := Lib.hid (fun k (hk : k ≤ n) => ppB_len h k (by omega))
  have hF := Lib.hid (fun k (hk : k < n) => show Fr.VF (Fr.gAt X.ts k).1 (Fr.gAt X.ts k).2 from (hAw k (by omega)).1)
  have hFr := Lib.hid (fun W (hB : Below w.heap.size w W) p q (hv : Fr.VF p q) => ifT_any W hv (hT.below hB))
  have hVe := Lib.hid (fun W (hB : Below w.heap.size w W) => verts_row W s hs32 (hZ.below hB))
  have hFm := Lib.hid (fun W (hB : Below w.heap.size w W) i (hi : i < 5) => fmt_any W i (by omega) (hT.below hB))
  obtain ⟨a, cap, rfl, hcap, _, hcell⟩ := hS
  have hcell' := Lib.hid (fun i (hi : i < n) => show ∃ b off, a = some ⟨b, off, none⟩ ∧ b < w.heap.size ∧ w.cell? ⟨b, off + i * 2, none⟩ = some (.int .i64 (Fr.gAt X.ts i).1) ∧ w.cell? ⟨b, off + i * 2 + 1, none⟩ = some (.int .i64 (Fr.gAt X.ts i).2) by
    obtain ⟨b, off, e1, e2, e3⟩ := hcell (fun c => by rw [c] at hlen; simp at hlen; omega)
    have := e3 i (by omega)
    exact ⟨b, off, e1, e2, this.1, this.2⟩)
  have hfin : ppB X 0 = (ppH X.n X.e ++ lpT (bitsL s)) ++ pWt := by unfold ppB; rw [hs, Int.toNat_natCast]; simp [wtT]
  have hstep := Lib.hid (fun k => show ppB X (k + 1) = ppB X k ++ ([32] ++ frL (Fr.gAt X.ts k).1 (Fr.gAt X.ts k).2.toNat) by unfold ppB; rw [wtT, ← List.append_assoc])
  simp only [hlen, hn, he, hs] at hcap hV hG hgl hpl x1 x2 hfin ⊢
  have hLs := Lib.hid (fun k (hk : k < (bitsL s).length) => show ∃ i, i < 5 ∧ (bitsL s)[k]?.getD 0 = i ∧ lpT ((bitsL s).take (k + 1)) = lpT ((bitsL s).take k) ++ ([32] ++ Lib.decDigits i) by
    refine ⟨(bitsL s)[k], bitsL_lt5 s _ (List.getElem_mem _), by simp [hk], ?_⟩
    rw [List.take_add_one, List.getElem?_eq_getElem hk]
    exact lpT_snoc _ _)
  have hLl := Lib.hid (fun k => show (lpT ((bitsL s).take k)).length ≤ 10 by
    have h1 := lpT_len ((bitsL s).take k) (fun j hj => by have := bitsL_lt5 s j (List.mem_of_mem_take hj); omega)
    have h2 := bitsL_len5 s
    rw [List.length_take] at h1
    omega)
  have hLe := Lib.hid (show (bitsL s).take (bitsL s).length = bitsL s from List.take_length)
  obtain ⟨m, hm⟩ : ∃ m, (bitsL s).length = m := ⟨_, rfl⟩
  clear hcell hbd h hAw hT hZ
  obtain ⟨W0, hW0⟩ : ∃ W0, W0 = w.alloc (.cells #[.int .i64 (n : Int), .int .u32 (e : Int), .int .u32 (s : Int), .slice a n cap] 62) := ⟨_, rfl⟩
  have hB0 : Below w.heap.size w W0 := by rw [hW0]; (repeat (first | exact Below.refl _ _ | assumption | refine bchain (by assumption) ?_ | refine balloc ?_ _ | apply Below.drew | apply below_drewN | (refine Below.alloc ?_ (by (try simp) <;> omega) _) | (refine Below.setCell ?_ (by (try simp) <;> omega) _)))
  have k0 : W0.heap[w.heap.size]? = some (.cells #[.int .i64 (n : Int), .int .u32 (e : Int), .int .u32 (s : Int), .slice a n cap] 62) := by rw [hW0]; exact World.alloc_heap_new _ _
  replace hW0 := Lib.hid hW0
  have eP : ({ data := #[112, 97, 116, 116, 101, 114, 110, 32] } : ByteArray) = tx pHd := rfl
  have eL : ({ data := #[10, 108, 111, 111, 112, 115] } : ByteArray) = tx pLp := rfl
  have eW : ({ data := #[10, 119, 101, 105, 103, 104, 116, 115] } : ByteArray) = tx pWt := rfl
  have e32 : ({ data := #[32] } : ByteArray) = tx [32] := rfl
  have e10 : ({ data := #[10] } : ByteArray) = tx [10] := rfl
  go_enter Tryd.func25, Tryd.ntmps25
  rw [eP, eL, eW, e32, e10]
  obtain ⟨t10, ht10⟩ : ∃ t, tx [10] = t := ⟨_, rfl⟩
  obtain ⟨t32, ht32⟩ : ∃ t, tx [32] = t := ⟨_, rfl⟩
  obtain ⟨tP, htP⟩ : ∃ t, tx pHd = t := ⟨_, rfl⟩
  obtain ⟨tL, htL⟩ : ∃ t, tx pLp = t := ⟨_, rfl⟩
  obtain ⟨tW, htW⟩ : ∃ t, tx pWt = t := ⟨_, rfl⟩
  obtain ⟨tG, htG⟩ : ∃ t, tx (gT n e) = t := ⟨_, rfl⟩
  obtain ⟨y1, hy1⟩ : ∃ t, tx (pHd ++ gT n e) = t := ⟨_, rfl⟩
  obtain ⟨y2, hy2⟩ : ∃ t, tx (ppH n e ++ lpT ((bitsL s).take 0)) = t := ⟨_, rfl⟩
  rw [htP, htG, hy1] at x1
  rw [hy1, htL, hy2] at x2
  rw [htG] at hG
  rw [ht10, ht32, htP, htL, htW]
  replace ht10 := Lib.hid ht10
  replace ht32 := Lib.hid ht32
  replace htW := Lib.hid htW
  replace hy2 := Lib.hid hy2
  replace hfin := Lib.hid hfin
  clear htP htL htG hy1 hgl
  go_wp2_with fail
  rw [← hW0.out]
  refine (hV.out _ hB0).mono ?_
  rintro r1 w1 ⟨rfl, hb1⟩
  have k1 := (hb1.block _ (Array.getElem?_eq_some_iff.1 k0).1).trans k0
  have hB1 := bchain hb1 hB0
  have hbd1 := BdAt.fresh w1
  have hzb := hB1.size
  have hwB : w.heap.size < w1.heap.size := (Array.getElem?_eq_some_iff.1 k1).1
  have c0 : w1.cell? ⟨w.heap.size, 0, none⟩ = some (.int .i64 (n : Int)) := by rw [Lib.cell_of_heap k1]; rfl
  have c1 : w1.cell? ⟨w.heap.size, 1, none⟩ = some (.int .u32 (e : Int)) := by rw [Lib.cell_of_heap k1]; rfl
  have hne : w.heap.size ≠ w1.heap.size := by omega
  have hne2 : w1.heap.size ≠ w.heap.size := by omega
  clear k0 hb1
  replace hbd1 := Lib.hid hbd1
  go_wp2_with fail
  refine (hG.out _ (balloc hB1 _)).mono ?_
  rintro r2 w2 ⟨rfl, hb2⟩
  have k2 : w2.heap[w.heap.size]? = some (.cells #[.int .i64 (n : Int), .int .u32 (e : Int), .int .u32 (s : Int), .slice a n cap] 62) := ((bchain hb2 (balloc (Below.refl _ w1) (.cells #[.pointer none, .slice none 0 0] 75))).block _ hwB).trans k1
  have hB2 := bchain hb2 (balloc hB1 _)
  have hbd2 := hbd1.out.below hb2
  obtain ⟨b, hb⟩ : ∃ b, w1.heap.size = b := ⟨_, rfl⟩
  rw [hb] at hbd2 hzb hne hne2 ⊢
  have hWt := Lib.hid (bd_put w2 b [] (ppH n e ++ lpT ((bitsL s).take 0)) hbd2 (by have := hLl.out 0; rw [List.length_append]; simp only [List.length_nil]; omega))
  rw [hy2.out] at hWt
  replace hbd2 := Lib.hid hbd2
  clear c0 c1 hb2 hb hbd1 k1
  go_wp2_with fail
  refine hWt.out.mono ?_
  rintro r3 w3 ⟨rfl, hbd3, hb3, hk3⟩
  have k3 := (hk3 _ _ k2 (fun c => hne (Option.some.inj c)) (fun _ _ e => absurd (Obj.cells.inj e).2.1 (by decide)))
  have hB3 := hB2.trans (hb3.mono hzb)
  have c2 : w3.cell? ⟨w.heap.size, 2, none⟩ = some (.int .u32 (s : Int)) := by rw [Lib.cell_of_heap k3]; rfl
  replace hbd3 := Lib.hid hbd3
  clear hk3 hb3 k2
  go_wp2_with fail
  refine (hVe.out _ hB3).mono ?_
  rintro r4 w4 ⟨⟨v, rfl, hrow⟩, hb4⟩
  have hB4 := bchain hb4 hB3
  have k4 := (hb4.block _ (Array.getElem?_eq_some_iff.1 k3).1).trans k3
  have hbd4 := hbd3.out.below hb4
  obtain ⟨av, cv, rfl, hav⟩ := row_parts hrow.out rfl
  rw [hm] at hav ⊢
  have hm5 : m ≤ 5 := by have := bitsL_len5 s; omega
  have hbd4' := Lib.hid hbd4
  have hav' := Lib.hid hav
  clear hrow hb4 k3 c2 hav
  go_wp2_with fail
  go_loopw [21] (fun i wr => ∃ k : Nat, k ≤ m ∧ i = .int .i64 k ∧ BdAt wr b (ppH n e ++ lpT ((bitsL s).take k)) ∧ Below w.heap.size w wr ∧ wr.heap[w.heap.size]? = some (.cells #[.int .i64 (n : Int), .int .u32 (e : Int), .int .u32 (s : Int), .slice a n cap] 62) ∧ (∀ (g : Nat) (cs : Array Value) (fz : Nat × Nat), w4.heap[g]? = some (Obj.cells cs 2 fz) → wr.heap[g]? = some (Obj.cells cs 2 fz))) (fun i _ => m - (intOf i).toNat)
  case atStart => exact ⟨0, by omega, rfl, by have := hbd4'.out; rwa [List.nil_append] at this, hB4, k4, fun _ _ _ h => h⟩
  case round =>
    obtain ⟨k, hk, rfl, hbd, hB, kB, hkp⟩ := hrel
    have hbd' := Lib.hid hbd
    have hkp' := Lib.hid hkp
    by_cases hlt : k < m
    · have hd := decide_eq_true (show ((k : Int) < (m : Int)) by omega)
      obtain ⟨g, cs, fz, rfl, hg0, hg1, hg2⟩ := hav'.out (by omega)
      obtain ⟨i, hi5, hik, hnx⟩ := hLs.out k (by omega)
      have hgk := hg2 k hlt
      rw [hik] at hgk
      have q : wr.cell? ⟨g, k, none⟩ = some (.int .i64 (i : Int)) := by rw [Lib.cell_of_heap (hkp g cs fz hg1)]; exact hgk
      have hll := hLl.out k
      have hFi := Lib.hid (hFm.out wr hB i hi5)
      have hdl : (Lib.decDigits i).length = 1 := by rw [dd_lt (by omega)]; rfl
      have x3 := run_cat [32] (Lib.decDigits i) (by simp) (by omega)
      obtain ⟨z3, hz3⟩ : ∃ t, tx (Lib.decDigits i) = t := ⟨_, rfl⟩
      obtain ⟨z4, hz4⟩ : ∃ t, tx ([32] ++ Lib.decDigits i) = t := ⟨_, rfl⟩
      rw [ht32.out, hz3, hz4] at x3
      rw [hz3] at hFi
      have hWk := Lib.hid (fun W (hd : BdAt W b (ppH n e ++ lpT ((bitsL s).take k))) => bd_put W b _ ([32] ++ Lib.decDigits i) hd (by simp only [List.length_append, List.length_cons, List.length_nil]; omega))
      rw [hz4] at hWk
      have hk0 : (0 : Int) ≤ (k : Int) := by omega
      have hwr : w.heap.size < wr.heap.size := (Array.getElem?_eq_some_iff.1 kB).1
      clear hz3 hz4 hdl hll hgk hik hbd hkp hg2
      go_wp2_with fail
      refine hFi.out.mono ?_
      rintro r5 w5 ⟨rfl, hb5⟩
      have hbd5 := hbd'.out.below hb5
      have k5 := (hb5.block _ hwr).trans kB
      have hB5 := bchain hb5 hB
      have hW5 := Lib.hid (hWk.out w5 hbd5)
      have hkp5 : Hid (∀ (g : Nat) (cs : Array Value) (fz : Nat × Nat), w4.heap[g]? = some (Obj.cells cs 2 fz) → w5.heap[g]? = some (Obj.cells cs 2 fz)) := fun g cs fz h => by
        have h1 := hkp'.out g cs fz h
        exact (hb5.block _ (Array.getElem?_eq_some_iff.1 h1).1).trans h1
      replace hbd5 := Lib.hid hbd5
      clear hb5
      go_wp2_with fail
      refine hW5.out.mono ?_
      rintro r6 w6 ⟨rfl, hbd6, hb6, hk6⟩
      have k6 := (hk6 _ _ k5 (fun c => hne (Option.some.inj c)) (fun _ _ e => absurd (Obj.cells.inj e).2.1 (by decide)))
      have hB6 := hB5.trans (hb6.mono hzb)
      have hkp6 : Hid (∀ (g : Nat) (cs : Array Value) (fz : Nat × Nat), w4.heap[g]? = some (Obj.cells cs 2 fz) → w6.heap[g]? = some (Obj.cells cs 2 fz)) := fun g cs fz h =>
        hk6 _ _ (hkp5.out g cs fz h) (fun c => bd_not_int hbd4'.out h (Option.some.inj c)) (fun _ _ e => absurd (Obj.cells.inj e).2.1 (by decide))
      replace hbd6 := Lib.hid hbd6
      clear hk6 hb6
      go_wp2
      go_roundw
      case rel => exact ⟨k + 1, by omega, by go_num, by rw [hnx, ← List.append_assoc]; exact hbd6.out, hB6, k6, hkp6.out⟩
      case measure => simp [intOf]; omega
    · have hd := decide_eq_false (show ¬ ((k : Int) < (m : Int)) by omega)
      obtain rfl : k = m := by omega
      have hbd0 := hbd'.out
      rw [← hm, hLe.out] at hbd0
      have hll := hLl.out (bitsL s).length
      rw [hLe.out] at hll
      have hWw := Lib.hid (bd_put wr b _ pWt hbd0 (by rw [List.length_append]; simp only [pWt, List.length_cons, List.length_nil]; omega))
      rw [htW.out] at hWw
      clear hbd hkp hbd0 hkp' hav'
      go_wp2_with fail
      refine hWw.out.mono ?_
      rintro r5 w5 ⟨rfl, hbd5, hb5, hk5⟩
      have k5 := (hk5 _ _ kB (fun c => hne (Option.some.inj c)) (fun _ _ e => absurd (Obj.cells.inj e).2.1 (by decide)))
      have hB5 := hB.trans (hb5.mono hzb)
      have c3 : w5.cell? ⟨w.heap.size, 3, none⟩ = some (.slice a n cap) := by rw [Lib.cell_of_heap k5]; rfl
      rw [← hfin.out] at hbd5
      replace hbd5 := Lib.hid hbd5
      clear hk5 hb5
      go_wp2_with fail
      go_loopw [34] (fun i wr2 => ∃ j : Nat, j ≤ n ∧ i = .int .i64 j ∧ BdAt wr2 b (ppB X j) ∧ Below w.heap.size w wr2) (fun i _ => n - (intOf i).toNat)
      case atStart => exact ⟨0, by omega, rfl, hbd5.out, hB5⟩
      case round =>
        obtain ⟨j, hj, rfl, hbdj, hBj⟩ := hrel
        clear hlt hd
        by_cases hlt : j < n
        · have hd := decide_eq_true (show ((j : Int) < (n : Int)) by omega)
          obtain ⟨bt, off, rfl, hbt, q0, q1⟩ := hcell'.out j hlt
          have hv := hF.out j hlt
          have hst := hstep.out j
          have hl2 := hBl.out j hj
          obtain ⟨p, q, hg⟩ : ∃ x y, Fr.gAt X.ts j = (x, y) := ⟨_, _, rfl⟩
          rw [hg] at q0 q1 hv hst
          dsimp only at q0 q1 hv hst
          have hFj := Lib.hid (fun W h => hFr.out W h p q hv)
          have hfl := frL_len' hv
          have x6 := run_cat [32] (frL p q.toNat) (by simp) (by omega)
          obtain ⟨v3, hv3⟩ : ∃ t, tx (frL p q.toNat) = t := ⟨_, rfl⟩
          obtain ⟨v4, hv4⟩ : ∃ t, tx ([32] ++ frL p q.toNat) = t := ⟨_, rfl⟩
          rw [ht32.out, hv3, hv4] at x6
          rw [hv3] at hFj
          have hWk := Lib.hid (fun W (hd : BdAt W b (ppB X j)) => bd_put W b _ ([32] ++ frL p q.toNat) hd (by simp only [List.length_append, List.length_cons, List.length_nil]; omega))
          rw [hv4] at hWk
          have p0 := (hBj.cell (p := ⟨bt, off + j * 2, none⟩) hbt).trans q0
          have p1 := (hBj.cell (p := ⟨bt, off + j * 2 + 1, none⟩) hbt).trans q1
          have hj0 : (0 : Int) ≤ (j : Int) := by omega
          have hbdj' := Lib.hid hbdj
          clear hv3 hv4 q0 q1 hv hfl hl2 hg hbdj
          go_wp2_with fail
          refine (hFj.out _ (balloc hBj _)).mono ?_
          rintro r6 w6 ⟨rfl, hb6⟩
          have hb6' : Below wr.heap.size wr w6 := bchain hb6 (balloc (Below.refl _ _) _)
          have hbd6 := hbdj'.out.below hb6'
          have hB6 := bchain hb6' hBj
          have hW6 := Lib.hid (hWk.out w6 hbd6)
          replace hbd6 := Lib.hid hbd6
          clear hb6 hb6'
          go_wp2_with fail
          refine hW6.out.mono ?_
          rintro r7 w7 ⟨rfl, hbd7, hb7, _⟩
          have hB7 := hB6.trans (hb7.mono hzb)
          replace hbd7 := Lib.hid hbd7
          clear hb7
          go_wp2
          go_roundw
          case rel => exact ⟨j + 1, by omega, by go_num, by rw [hst]; exact hbd7.out, hB7⟩
          case measure => simp [intOf]; omega
        · have hd := decide_eq_false (show ¬ ((j : Int) < (n : Int)) by omega)
          obtain rfl : j = n := by omega
          have hl2 := hBl.out j (Nat.le_refl _)
          have hW6 := Lib.hid (bd_put wr b _ [10] hbdj (by simp only [List.length_cons, List.length_nil]; omega))
          rw [ht10.out] at hW6
          replace hbdj := Lib.hid hbdj
          go_wp2_with fail
          refine hW6.out.mono ?_
          rintro r7 w7 ⟨rfl, hbd7, hb7, _⟩
          have hB7 := hBj.trans (hb7.mono hzb)
          have hSt := Lib.hid (bd_string w7 b _ hbd7)
          obtain ⟨t, ht⟩ : ∃ t, tx (ppB X j ++ [10]) = t := ⟨_, rfl⟩
          rw [ht] at hSt
          replace hbd7 := Lib.hid hbd7
          clear hb7
          go_wp2_with fail
          refine hSt.out.mono ?_
          rintro r8 w8 ⟨rfl, hb8, _⟩
          have hB8 := hB7.trans (hb8.mono hzb)
          go_wp2
          go_ret
          exact ⟨congrArg (fun t => Ending.returned (Value.string t)) ht.symm, hB8⟩
end
end Go.Proofs.YtiedombphcdpbaaDoor
