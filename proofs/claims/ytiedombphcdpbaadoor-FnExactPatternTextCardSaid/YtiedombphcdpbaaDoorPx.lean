/-
  THE TEXT OF A PATTERN: what it is, and the model's contract.
-/
import Derived.Test.YtiedombphcdpbaaDoorTg
import Derived.Test.YtiedombphcdpbaaDoorWb
import Derived.Test.YtiedombphcdpbaaDoorVs
namespace Go.Proofs.YtiedombphcdpbaaDoor
open Go.RowKit
set_option maxRecDepth 100000
attribute [local go_sem] Oper.semAt_some
def pHd : List UInt8 := [112, 97, 116, 116, 101, 114, 110, 32]
def pLp : List UInt8 := [10, 108, 111, 111, 112, 115]
def pWt : List UInt8 := [10, 119, 101, 105, 103, 104, 116, 115]
def ppH (n e : Int) : List UInt8 := (pHd ++ gT n e) ++ pLp
def lpT (x : List Nat) : List UInt8 := x.flatMap fun i => [32] ++ Lib.decDigits i
def wtT (ts : List (Int × Int)) : Nat → List UInt8 | 0 => [] | k + 1 => wtT ts k ++ ([32] ++ frL (Fr.gAt ts k).1 (Fr.gAt ts k).2.toNat)
def ppB (X : PM) (k : Nat) : List UInt8 := (ppH X.n X.e ++ lpT (bitsL X.s.toNat)) ++ pWt ++ wtT X.ts k
theorem lpT_snoc (x : List Nat) (i : Nat) : lpT (x ++ [i]) = lpT x ++ ([32] ++ Lib.decDigits i) := by simp [lpT]
theorem lpT_len : ∀ (x : List Nat), (∀ i ∈ x, i < 10) → (lpT x).length ≤ 2 * x.length
  | [], _ => by simp [lpT]
  | i :: x, h => by
    have h1 := lpT_len x (fun j hj => h j (by simp [hj]))
    have h2 : (Lib.decDigits i).length = 1 := by rw [dd_lt (h i (by simp))]; rfl
    unfold lpT at h1 ⊢
    rw [List.flatMap_cons, List.length_append, List.length_append, h2]
    simp only [List.length_cons, List.length_nil]
    omega
theorem bits_range : ∀ n, n ≤ 4 → ∀ s, s < 2 ^ n → (List.range n).filter (fun i => s.testBit i) = bitsL s := by decide +kernel
theorem bitsL_lt5 (s : Nat) : ∀ i ∈ bitsL s, i < 5 := fun _ hi => List.mem_range.1 (List.mem_filter.1 hi).1
theorem bitsL_len5 (s : Nat) : (bitsL s).length ≤ 5 := by
  have := List.length_filter_le (fun i => s.testBit i) (List.range 5)
  simpa [bitsL] using this
theorem ppH_len {n e : Int} (h : VG n e) : (ppH n e).length ≤ 2020 := by
  have := gT_len h
  unfold ppH
  simp only [List.length_append, List.length_cons, List.length_nil, pHd, pLp]
  omega
theorem wtT_len {ts : List (Int × Int)} (h : AllW ts) : ∀ k, k ≤ ts.length → (wtT ts k).length ≤ 43 * k := by
  intro k
  induction k with
  | zero => intro _; simp [wtT]
  | succ k ih =>
    intro hk
    have h1 := ih (by omega)
    have h2 := frL_len' (show Fr.VF (Fr.gAt ts k).1 (Fr.gAt ts k).2 from (h k (by omega)).1)
    rw [wtT]
    simp only [List.length_append, List.length_cons, List.length_nil]
    omega
theorem ppB_len {X : PM} (h : VPat X) (k : Nat) (hk : k ≤ X.ts.length) : (ppB X k).length ≤ 3000 := by
  have h1 := ppH_len h.1
  have h2 := lpT_len (bitsL X.s.toNat) (fun i hi => by have := bitsL_lt5 _ i hi; omega)
  have h3 := bitsL_len5 X.s.toNat
  have h4 := wtT_len h.2.2.2.1 k hk
  have h5 := of_decide_eq_true (show decide _ = true from h.2.1)
  have h6 := h.2.2.1
  unfold ppB
  simp only [List.length_append, pWt, List.length_cons, List.length_nil]
  omega
/-- what is known of a valid pattern -/
theorem vp_nat {X : PM} (h : VPat X) (hbd : BdP X) : ∃ n e s : Nat, X.n = n ∧ X.e = e ∧ X.s = s ∧ n ≤ 4 ∧ s < 2 ^ n ∧ s < 32 ∧ e < 4294967296 ∧ X.ts.length = n := by
  have h5 := of_decide_eq_true (show decide _ = true from h.2.1)
  have h6 := h.2.2.1
  obtain ⟨b0, b1, b2, b3⟩ := hbd
  obtain ⟨n, hn⟩ : ∃ n : Nat, X.n = n := ⟨X.n.toNat, by omega⟩
  obtain ⟨e, he⟩ : ∃ n : Nat, X.e = n := ⟨X.e.toNat, by omega⟩
  obtain ⟨s, hs⟩ : ∃ n : Nat, X.s = n := ⟨X.s.toNat, by omega⟩
  rw [hn, hs] at h5
  have hs2 : s < 2 ^ n := by have := h5.2.2; rw [Int.toNat_natCast] at this; omega
  have hn4 : n ≤ 4 := by omega
  refine ⟨n, e, s, hn, he, hs, hn4, hs2, ?_, by omega, by omega⟩
  have : (2 : Nat) ^ n ≤ 16 := Nat.pow_le_pow_right (n := 2) (by omega) hn4
  omega
section
variable (w : World)
theorem spp_f (X : PM) (u : Value) (hS : Fr.SlG w u X.ts) (hbd : BdP X) (h : ¬ VPat X) :
    Calls Tryd.prog 23 #[.agg #[.int .i64 X.n, .int .u32 X.e, .int .u32 X.s, u]] w fun r w' => r = .returned (.string ⟨#[]⟩) ∧ Below w.heap.size w w' := by
  have hV := Lib.hid (fun W G (hB : Below w.heap.size w W) k0 => l7_any W X u G k0 (hS.below hB) hbd false (by simp [h]))
  obtain ⟨a, cap, rfl, _⟩ := hS
  obtain ⟨lt, hlt⟩ : ∃ l, X.ts.length = l := ⟨_, rfl⟩
  rw [hlt] at hV ⊢
  obtain ⟨W0, hW0⟩ : ∃ W0, W0 = w.alloc (.cells #[.int .i64 X.n, .int .u32 X.e, .int .u32 X.s, .slice a lt cap] 62) := ⟨_, rfl⟩
  have hB0 : Below w.heap.size w W0 := by rw [hW0]; (repeat (first | exact Below.refl _ _ | assumption | refine bchain (by assumption) ?_ | refine balloc ?_ _ | apply Below.drew | apply below_drewN | (refine Below.alloc ?_ (by (try simp) <;> omega) _) | (refine Below.setCell ?_ (by (try simp) <;> omega) _)))
  have k0 : PB W0 w.heap.size X.n X.e X.s (.slice a lt cap) := by rw [hW0]; exact PB.made _ _ _ _ _ _
  replace hW0 := Lib.hid hW0
  clear hbd h hlt
  go_enter Tryd.func23, Tryd.ntmps23
  go_wp2_with fail
  rw [← hW0.out]
  refine (hV.out _ _ hB0 k0).mono ?_
  rintro r1 w1 ⟨rfl, hb1⟩
  go_wp2
  go_ret
  exact ⟨rfl, bchain hb1 hB0⟩
set_option maxHeartbeats 4000000 in
theorem spp_t (X : PM) (u : Value) (hS : Fr.SlG w u X.ts) (hbd : BdP X) (h : VPat X) :
    Calls Tryd.prog 23 #[.agg #[.int .i64 X.n, .int .u32 X.e, .int .u32 X.s, u]] w fun r w' => r = .returned (.string (tx (ppB X X.ts.length ++ [10]))) ∧ Below w.heap.size w w' := by
  obtain ⟨n, e, s, hn, he, hs, hn4, hs2, hs32, he32, hlen⟩ := vp_nat h hbd
  have hV := Lib.hid (fun W G (hB : Below w.heap.size w W) k0 => l7_any W X u G k0 (hS.below hB) hbd true (by simp [h]))
  have hG := Lib.hid (fun W => sgT_any W h.1)
  have hgl := gT_len h.1
  have hpl := ppH_len h.1
  have x1 := run_cat pHd (gT X.n X.e) (by simp [pHd]) (by omega)
  have x2 := run_cat (pHd ++ gT X.n X.e) pLp (by simp [pHd]; omega) (by simp [pLp])
  rw [show pHd ++ gT X.n X.e ++ pLp = ppH X.n X.e ++ lpT ((List.range 0).filter fun i => s.testBit i) by simp [ppH, lpT]] at x2
  have hbr := Lib.hid (bits_range n hn4 s hs2)
  have hAw := h.2.2.2.1
  have hBl := Lib.hid (fun k (hk : k ≤ n) => ppB_len h k (by omega))
  have hF := Lib.hid (fun k (hk : k < n) => show Fr.VF (Fr.gAt X.ts k).1 (Fr.gAt X.ts k).2 from (hAw k (by omega)).1)
  have hJ := Lib.hid (fun W G (k0 : PB W G n e s u) i (hi : i ≤ 4) => sj_any W n e s i i G u k0 he32 (by omega) hi hi)
  have hD := Lib.hid (fun W i (hi : i ≤ 4) => dec_any 5 W i (by omega) (by omega))
  obtain ⟨a, cap, rfl, hcap, _, hcell⟩ := hS
  have hcell' := Lib.hid (fun i (hi : i < n) => show ∃ b off, a = some ⟨b, off, none⟩ ∧ b < w.heap.size ∧ w.cell? ⟨b, off + i * 2, none⟩ = some (.int .i64 (Fr.gAt X.ts i).1) ∧ w.cell? ⟨b, off + i * 2 + 1, none⟩ = some (.int .i64 (Fr.gAt X.ts i).2) by
    obtain ⟨b, off, e1, e2, e3⟩ := hcell (fun c => by rw [c] at hlen; simp at hlen; omega)
    have := e3 i (by omega)
    exact ⟨b, off, e1, e2, this.1, this.2⟩)
  have hfin : ppB X 0 = (ppH X.n X.e ++ lpT (bitsL s)) ++ pWt := by unfold ppB; rw [hs, Int.toNat_natCast]; simp [wtT]
  have hstep := Lib.hid (fun k => show ppB X (k + 1) = ppB X k ++ ([32] ++ frL (Fr.gAt X.ts k).1 (Fr.gAt X.ts k).2.toNat) by unfold ppB; rw [wtT, ← List.append_assoc])
  replace hfin := Lib.hid hfin
  simp only [hlen, hn, he, hs] at hcap hV hG hgl hpl x1 x2 hJ hfin ⊢
  have hll := Lib.hid (fun i (hi : i ≤ n) => show (lpT ((List.range i).filter fun j => s.testBit j)).length ≤ 2 * i by
    have h1 := lpT_len ((List.range i).filter fun j => s.testBit j) (fun j hj => by have := List.mem_range.1 (List.mem_filter.1 hj).1; omega)
    have h2 := List.length_filter_le (fun j => s.testBit j) (List.range i)
    simp at h2
    omega)
  clear hcell hbd h hAw
  obtain ⟨W0, hW0⟩ : ∃ W0, W0 = w.alloc (.cells #[.int .i64 (n : Int), .int .u32 (e : Int), .int .u32 (s : Int), .slice a n cap] 62) := ⟨_, rfl⟩
  have hB0 : Below w.heap.size w W0 := by rw [hW0]; (repeat (first | exact Below.refl _ _ | assumption | refine bchain (by assumption) ?_ | refine balloc ?_ _ | apply Below.drew | apply below_drewN | (refine Below.alloc ?_ (by (try simp) <;> omega) _) | (refine Below.setCell ?_ (by (try simp) <;> omega) _)))
  have k0 : PB W0 w.heap.size n e s (.slice a n cap) := by rw [hW0]; exact PB.made _ _ _ _ _ _
  replace hW0 := Lib.hid hW0
  have eP : ({ data := #[112, 97, 116, 116, 101, 114, 110, 32] } : ByteArray) = tx pHd := rfl
  have eL : ({ data := #[10, 108, 111, 111, 112, 115] } : ByteArray) = tx pLp := rfl
  have eW : ({ data := #[10, 119, 101, 105, 103, 104, 116, 115] } : ByteArray) = tx pWt := rfl
  have e32 : ({ data := #[32] } : ByteArray) = tx [32] := rfl
  have e10 : ({ data := #[10] } : ByteArray) = tx [10] := rfl
  go_enter Tryd.func23, Tryd.ntmps23
  rw [eP, eL, eW, e32, e10]
  obtain ⟨t10, ht10⟩ : ∃ t, tx [10] = t := ⟨_, rfl⟩
  obtain ⟨t32, ht32⟩ : ∃ t, tx [32] = t := ⟨_, rfl⟩
  obtain ⟨tP, htP⟩ : ∃ t, tx pHd = t := ⟨_, rfl⟩
  obtain ⟨tL, htL⟩ : ∃ t, tx pLp = t := ⟨_, rfl⟩
  obtain ⟨tW, htW⟩ : ∃ t, tx pWt = t := ⟨_, rfl⟩
  obtain ⟨tG, htG⟩ : ∃ t, tx (gT n e) = t := ⟨_, rfl⟩
  obtain ⟨y1, hy1⟩ : ∃ t, tx (pHd ++ gT n e) = t := ⟨_, rfl⟩
  obtain ⟨y2, hy2⟩ : ∃ t, tx (ppH n e ++ lpT ((List.range 0).filter fun i => s.testBit i)) = t := ⟨_, rfl⟩
  rw [htP, htG, hy1] at x1
  rw [hy1, htL, hy2] at x2
  rw [htG] at hG
  rw [ht10, ht32, htP, htL, htW]
  replace ht10 := Lib.hid ht10
  replace ht32 := Lib.hid ht32
  replace htW := Lib.hid htW
  clear htP htL htG hy1 hgl
  go_wp2_with fail
  rw [← hW0.out]
  refine (hV.out _ _ hB0 k0).mono ?_
  rintro r1 w1 ⟨rfl, hb1⟩
  have hB1 := bchain hb1 hB0
  have k1 := k0.below hb1
  obtain ⟨_, c0, c1, c2, c3, _⟩ := id k1
  clear k0 hb1
  go_wp2_with fail
  refine (hG.out _).mono ?_
  rintro r2 w2 ⟨rfl, hb2⟩
  have hB2 := bchain hb2 hB1
  have k2 := k1.below hb2
  clear k1 hb2 c0 c1 c2 c3
  go_wp2
  go_loopw [3, 4] (fun t i wr => ∃ k : Nat, k ≤ n ∧ i = .int .i64 k ∧ t = .string (tx (ppH n e ++ lpT ((List.range k).filter fun j => s.testBit j))) ∧ Below w2.heap.size w2 wr) (fun _ i _ => n - (intOf i).toNat)
  case atStart => exact ⟨0, by omega, rfl, by rw [hy2], Below.refl _ _⟩
  case round =>
    obtain ⟨k, hk, rfl, rfl, hBr⟩ := hrel
    have kr := k2.below hBr
    have kr' := Lib.hid kr
    obtain ⟨_, c0, c1, c2, c3, _⟩ := id kr
    by_cases hlt : k < n
    · have hd := decide_eq_true (show ((k : Int) < (n : Int)) by omega)
      have hJk := Lib.hid (hJ.out wr _ kr k (by omega))
      have hrs : (List.range (k + 1)).filter (fun j => s.testBit j) = (List.range k).filter (fun j => s.testBit j) ++ (if s.testBit k then [k] else []) := by
        rw [List.range_succ, List.filter_append]
        simp [List.filter_cons]
      have hl1 := hll.out k (by omega)
      clear kr
      unfold pjn at hJk
      rw [if_pos rfl] at hJk
      cases hbk : s.testBit k
      · rw [hbk] at hJk hrs
        have hrs' := Lib.hid (show (List.range (k + 1)).filter (fun j => s.testBit j) = (List.range k).filter (fun j => s.testBit j) by simpa using hrs)
        obtain ⟨z1, hz1⟩ : ∃ t, tx (ppH n e ++ lpT ((List.range k).filter fun j => s.testBit j)) = t := ⟨_, rfl⟩
        rw [hz1]
        clear hrs hbk
        go_wp2_with fail
        refine hJk.out.mono ?_
        rintro r3 w3 ⟨rfl, hb3⟩
        go_wp2
        go_roundw
        case rel => exact ⟨k + 1, by omega, by go_num, by rw [hrs'.out, hz1], bchain hb3 hBr⟩
        case measure => simp [intOf]; omega
      · rw [hbk] at hJk hrs
        have hrs' := Lib.hid (show (ppH n e ++ lpT ((List.range k).filter fun j => s.testBit j)) ++ ([32] ++ Lib.decDigits k) = ppH n e ++ lpT ((List.range (k + 1)).filter fun j => s.testBit j) by
          rw [hrs, if_pos rfl, lpT_snoc]
          simp only [List.append_assoc])
        have hDk := Lib.hid (fun W => hD.out W k (by omega))
        have hdl : (Lib.decDigits k).length = 1 := by rw [dd_lt (by omega)]; rfl
        have x3 := run_cat [32] (Lib.decDigits k) (by simp) (by omega)
        have x4 := run_cat (ppH n e ++ lpT ((List.range k).filter fun j => s.testBit j)) ([32] ++ Lib.decDigits k) (by rw [List.length_append]; omega) (by simp; omega)
        rw [hrs'.out] at x4
        obtain ⟨z1, hz1⟩ : ∃ t, tx (ppH n e ++ lpT ((List.range k).filter fun j => s.testBit j)) = t := ⟨_, rfl⟩
        obtain ⟨z2, hz2⟩ : ∃ t, tx (ppH n e ++ lpT ((List.range (k + 1)).filter fun j => s.testBit j)) = t := ⟨_, rfl⟩
        obtain ⟨z3, hz3⟩ : ∃ t, tx (Lib.decDigits k) = t := ⟨_, rfl⟩
        obtain ⟨z4, hz4⟩ : ∃ t, tx ([32] ++ Lib.decDigits k) = t := ⟨_, rfl⟩
        rw [ht32.out, hz3, hz4] at x3
        rw [hz1, hz4, hz2] at x4
        rw [hz3] at hDk
        rw [hz1]
        clear hrs hbk hz1 hz3 hz4 hdl hl1
        go_wp2_with fail
        refine hJk.out.mono ?_
        rintro r3 w3 ⟨rfl, hb3⟩
        go_wp2_with fail
        refine (hDk.out _).mono ?_
        rintro r4 w4 ⟨rfl, hb4⟩
        go_wp2
        go_roundw
        case rel => exact ⟨k + 1, by omega, by go_num, by rw [hz2], bchain hb4 (bchain hb3 hBr)⟩
        case measure => simp [intOf]; omega
    · have hd := decide_eq_false (show ¬ ((k : Int) < (n : Int)) by omega)
      obtain rfl : k = n := by omega
      have hl1 := hll.out k (Nat.le_refl _)
      have x5 := run_cat (ppH k e ++ lpT ((List.range k).filter fun j => s.testBit j)) pWt (by rw [List.length_append]; omega) (by simp [pWt])
      rw [hbr.out, ← hfin.out] at x5
      rw [hbr.out]
      obtain ⟨z1, hz1⟩ : ∃ t, tx (ppH k e ++ lpT (bitsL s)) = t := ⟨_, rfl⟩
      obtain ⟨z2, hz2⟩ : ∃ t, tx (ppB X 0) = t := ⟨_, rfl⟩
      rw [hz1, htW.out, hz2] at x5
      rw [hz1]
      have hBw := bchain hBr hB2
      have hz2' := Lib.hid hz2
      clear hz1 hz2 hl1 x1 x2
      go_wp2
      go_loopw [3, 5] (fun t i wr2 => ∃ j : Nat, j ≤ k ∧ i = .int .i64 j ∧ t = .string (tx (ppB X j)) ∧ Below wr.heap.size wr wr2) (fun _ i _ => k - (intOf i).toNat)
      case atStart => exact ⟨0, by omega, rfl, by rw [hz2'.out], Below.refl _ _⟩
      case round =>
        obtain ⟨j, hj, rfl, rfl, hB4⟩ := hrel
        obtain ⟨_, d0, d1, d2, d3, _⟩ := kr'.out.below hB4
        clear hlt hd
        by_cases hlt : j < k
        · have hd := decide_eq_true (show ((j : Int) < (k : Int)) by omega)
          obtain ⟨b, off, rfl, hb, q0, q1⟩ := hcell'.out j hlt
          have hv := hF.out j hlt
          have hst := hstep.out j
          have hl2 := hBl.out j hj
          obtain ⟨p, q, hg⟩ : ∃ x y, Fr.gAt X.ts j = (x, y) := ⟨_, _, rfl⟩
          rw [hg] at q0 q1 hv hst
          dsimp only at q0 q1 hv hst
          have hFj := Lib.hid (fun W => sfT_any W hv)
          have hfl := frL_len' hv
          have x6 := run_cat [32] (frL p q.toNat) (by simp) (by omega)
          have x7 := run_cat (ppB X j) ([32] ++ frL p q.toNat) (by omega) (by simp; omega)
          rw [← hst] at x7
          obtain ⟨v1, hv1⟩ : ∃ t, tx (ppB X j) = t := ⟨_, rfl⟩
          obtain ⟨v2, hv2⟩ : ∃ t, tx (ppB X (j + 1)) = t := ⟨_, rfl⟩
          obtain ⟨v3, hv3⟩ : ∃ t, tx (frL p q.toNat) = t := ⟨_, rfl⟩
          obtain ⟨v4, hv4⟩ : ∃ t, tx ([32] ++ frL p q.toNat) = t := ⟨_, rfl⟩
          rw [ht32.out, hv3, hv4] at x6
          rw [hv1, hv4, hv2] at x7
          rw [hv3] at hFj
          rw [hv1]
          have hBb := bchain hB4 hBw
          have p0 := (hBb.cell (p := ⟨b, off + j * 2, none⟩) hb).trans q0
          have p1 := (hBb.cell (p := ⟨b, off + j * 2 + 1, none⟩) hb).trans q1
          have hj0 : (0 : Int) ≤ (j : Int) := by omega
          clear hv1 hv3 hv4 q0 q1 hv hst hfl hl2 hg
          go_wp2_with fail
          refine (hFj.out _).mono ?_
          rintro r5 w5 ⟨rfl, hb5⟩
          go_wp2
          go_roundw
          case rel => exact ⟨j + 1, by omega, by go_num, by rw [hv2], bchain hb5 hB4⟩
          case measure => simp [intOf]; omega
        · have hd := decide_eq_false (show ¬ ((j : Int) < (k : Int)) by omega)
          obtain rfl : j = k := by omega
          have hl2 := hBl.out j (Nat.le_refl _)
          have x8 := run_cat (ppB X j) [10] (by omega) (by simp)
          obtain ⟨v1, hv1⟩ : ∃ t, tx (ppB X j) = t := ⟨_, rfl⟩
          obtain ⟨v2, hv2⟩ : ∃ t, tx (ppB X j ++ [10]) = t := ⟨_, rfl⟩
          rw [hv1, ht10.out, hv2] at x8
          rw [hv1]
          go_wp2
          go_ret
          exact ⟨congrArg (fun t => Ending.returned (Value.string t)) hv2.symm, bchain hB4 hBw⟩
end
end Go.Proofs.YtiedombphcdpbaaDoor
