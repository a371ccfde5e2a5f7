/-
  THE TEXT OF A GRAPH: what it is, and the model's contract.
-/
import Derived.Test.YtiedombphcdpbaaDoorPrsS
import Derived.Test.YtiedombphcdpbaaDoorTx
import Derived.Test.YtiedombphcdpbaaDoorBw
namespace Go.Proofs.YtiedombphcdpbaaDoor
open Go.RowKit
set_option maxRecDepth 100000
attribute [local go_sem] Oper.semAt_some
def gHead : List UInt8 := [103, 114, 97, 112, 104, 32]
/-- one pair's text -/
def gPair (p : Nat × Nat) : List UInt8 := 32 :: (Lib.decDigits p.1 ++ (45 :: Lib.decDigits p.2))
/-- the text of a graph with these pairs -/
def gText (n : Nat) (ps : List (Nat × Nat)) : List UInt8 := gHead ++ (Lib.decDigits n ++ ps.flatMap gPair)
theorem gText_nil (n : Nat) : gText n [] = gHead ++ Lib.decDigits n := by simp [gText]
theorem gText_snoc (n : Nat) (ps : List (Nat × Nat)) (p : Nat × Nat) : gText n (ps ++ [p]) = gText n ps ++ gPair p := by simp [gText]
theorem gPair_len {p : Nat × Nat} (h1 : p.1 < 1000000) (h2 : p.2 < 1000000) : (gPair p).length ≤ 42 := by
  have a := dd_len (n := p.1) (by omega)
  have b := dd_len (n := p.2) (by omega)
  simp [gPair]
  omega
theorem gText_len {n : Nat} (hn : n < 1000000) : ∀ {ps : List (Nat × Nat)}, (∀ p ∈ ps, p.1 < 1000000 ∧ p.2 < 1000000) → (gText n ps).length ≤ 26 + 42 * ps.length := by
  intro ps h
  have a := dd_len (n := n) (by omega)
  have k : (ps.flatMap gPair).length ≤ 42 * ps.length := by
    induction ps with
    | nil => simp
    | cons p ps ih =>
      have h1 := gPair_len (h p (by simp)).1 (h p (by simp)).2
      have h2 := ih (fun q hq => h q (by simp [hq]))
      simp only [List.flatMap_cons, List.length_append, List.length_cons]
      omega
  simp only [gText, List.length_append, gHead, List.length_cons, List.length_nil]
  omega
/-- the four sums of a pair's text -/
theorem run_pair (a b : Nat) (ha : a < 1000000) (hb : b < 1000000) (s : List UInt8) (hs : s.length ≤ 2000) :
    (∀ W : World, (Op.stringOp .add { data := #[32] } (tx (Lib.decDigits a))).run Tryd.prog W = .ok (.string (tx (32 :: Lib.decDigits a))) W) ∧
    (∀ W : World, (Op.stringOp .add (tx (32 :: Lib.decDigits a)) { data := #[45] }).run Tryd.prog W = .ok (.string (tx (32 :: (Lib.decDigits a ++ [45])))) W) ∧
    (∀ W : World, (Op.stringOp .add (tx (32 :: (Lib.decDigits a ++ [45]))) (tx (Lib.decDigits b))).run Tryd.prog W = .ok (.string (tx (gPair (a, b)))) W) ∧
    (∀ W : World, (Op.stringOp .add (tx s) (tx (gPair (a, b)))).run Tryd.prog W = .ok (.string (tx (s ++ gPair (a, b)))) W) := by
  have l1 := dd_len (n := a) (by omega)
  have l2 := dd_len (n := b) (by omega)
  have l3 := gPair_len (p := (a, b)) ha hb
  have e1 : ({ data := #[32] } : ByteArray) = tx [32] := rfl
  have e2 : ({ data := #[45] } : ByteArray) = tx [45] := rfl
  have x1 : tx [32] ++ tx (Lib.decDigits a) = tx (32 :: Lib.decDigits a) := tx_app _ _
  have x2 : tx (32 :: Lib.decDigits a) ++ tx [45] = tx (32 :: (Lib.decDigits a ++ [45])) := tx_app _ _
  have x3 : tx (32 :: (Lib.decDigits a ++ [45])) ++ tx (Lib.decDigits b) = tx (gPair (a, b)) := by rw [tx_app]; simp [gPair]
  refine ⟨fun W => ?_, fun W => ?_, fun W => ?_, fun W => ?_⟩
  · rw [e1, ← x1]; exact run_string_add W _ _ (by simp [tx_size]) (by simp [tx_size]; omega)
  · rw [e2, ← x2]; exact run_string_add W _ _ (by simp [tx_size]; omega) (by simp [tx_size])
  · rw [← x3]; exact run_string_add W _ _ (by simp [tx_size]; omega) (by simp [tx_size]; omega)
  · rw [← tx_app]; exact run_string_add W _ _ (by simp [tx_size]; omega) (by simp [tx_size]; omega)
theorem run_head (n : Nat) (hn : n < 1000000) : ∀ W : World, (Op.stringOp .add { data := #[103, 114, 97, 112, 104, 32] } (tx (Lib.decDigits n))).run Tryd.prog W = .ok (.string (tx (gText n []))) W := by
  intro W
  have l1 := dd_len (n := n) (by omega)
  have e1 : ({ data := #[103, 114, 97, 112, 104, 32] } : ByteArray) = tx gHead := rfl
  rw [e1, gText_nil, ← tx_app]
  exact run_string_add W _ _ (by rw [tx_size]; simp [gHead]) (by rw [tx_size]; omega)
section
variable (w : World)
theorem sgt_f (n e : Int) (hn : e < 4294967296) (he0 : 0 ≤ e) (h : ¬ VG n e) :
    Calls Tryd.prog 56 #[.agg #[.int .i64 n, .int .u32 e]] w fun r w' => r = .returned (.string ⟨#[]⟩) ∧ Below w.heap.size w w' := by
  go_enter Tryd.func56, Tryd.ntmps56
  go_wp2_with fail
  refine (ok_f _ n e hn he0 h).mono ?_
  rintro r1 w1 ⟨rfl, hb1⟩
  go_wp2
  go_ret
  exact ⟨rfl, by (repeat (first | exact Below.refl _ _ | assumption | refine bchain (by assumption) ?_ | refine balloc ?_ _ | apply Below.drew | apply below_drewN | (refine Below.alloc ?_ (by (try simp) <;> omega) _) | (refine Below.setCell ?_ (by (try simp) <;> omega) _)))⟩
theorem prs_small : ∀ n, n ≤ 5 → ∀ p ∈ prs n, p.1 < 5 ∧ p.2 < 5 := by decide
theorem prE_small {n e : Nat} (hn : n ≤ 5) : ∀ p ∈ prE n e, p.1 < 5 ∧ p.2 < 5 := fun p hp => prs_small n hn p (List.mem_filter.1 hp).1
set_option maxHeartbeats 2000000 in
theorem sgt_t (n e : Nat) (h : VG n e) :
    Calls Tryd.prog 56 #[.agg #[.int .i64 n, .int .u32 e]] w fun r w' => r = .returned (.string (tx (gText n (prE n e)))) ∧ Below w.heap.size w w' := by
  have hn5 : n ≤ 5 := by have := h.2.1; omega
  have hL := prE_len n e hn5
  have hsm := prE_small (n := n) (e := e) hn5
  have hD := Lib.hid (fun W a (ha : a < 1000000) => dec_any 5 W a (by omega) (by omega))
  have hN := Lib.hid (fun W => dec_any 5 W n (by omega) (by omega))
  have hV := Lib.hid (fun W => ok_t W n e h)
  have hP := Lib.hid (fun W => sprs_any W n e h)
  have hH := run_head n (by omega)
  obtain ⟨ps, hps⟩ : ∃ ps, prE n e = ps := ⟨_, rfl⟩
  rw [hps] at hL hsm hP ⊢
  replace hsm := Lib.hid hsm
  have hR := Lib.hid (fun k (hk : k < ps.length) => run_pair (ps[k]?.getD (0, 0)).1 (ps[k]?.getD (0, 0)).2 (by
      have := (hsm.out (ps[k]?.getD (0, 0)) (by rw [List.getElem?_eq_getElem hk]; exact List.getElem_mem hk)).1; omega) (by
      have := (hsm.out (ps[k]?.getD (0, 0)) (by rw [List.getElem?_eq_getElem hk]; exact List.getElem_mem hk)).2; omega) (gText n (ps.take k)) (by
      have := gText_len (n := n) (by omega) (ps := ps.take k) (fun p hp => by have := hsm.out p (List.mem_of_mem_take hp); omega)
      rw [List.length_take] at this
      omega))
  have hS := Lib.hid (fun k (hk : k < ps.length) => show gText n (ps.take k) ++ gPair ((ps[k]?.getD (0, 0)).1, (ps[k]?.getD (0, 0)).2) = gText n (ps.take (k + 1)) by
      rw [List.take_add_one, ← gText_snoc, List.getElem?_eq_getElem hk]; rfl)
  have hE := Lib.hid (show ps.take ps.length = ps from List.take_length)
  obtain ⟨W0, hW0⟩ : ∃ W0, W0 = w.alloc (.cells #[.int .i64 (n : Int), .int .u32 (e : Int)] 37) := ⟨_, rfl⟩
  have hB0 : Below w.heap.size w W0 := by rw [hW0]; (repeat (first | exact Below.refl _ _ | assumption | refine bchain (by assumption) ?_ | refine balloc ?_ _ | apply Below.drew | apply below_drewN | (refine Below.alloc ?_ (by (try simp) <;> omega) _) | (refine Below.setCell ?_ (by (try simp) <;> omega) _)))
  have hz0 : w.heap.size < W0.heap.size := by rw [hW0]; simp
  have hbx : Hid (∀ W, Below W0.heap.size W0 W → W.cell? ⟨w.heap.size, 0, none⟩ = some (.int .i64 n) ∧ W.cell? ⟨w.heap.size, 1, none⟩ = some (.int .u32 e)) := fun W h => by
    refine ⟨(h.cell (p := ⟨w.heap.size, 0, none⟩) hz0).trans ?_, (h.cell (p := ⟨w.heap.size, 1, none⟩) hz0).trans ?_⟩ <;> (rw [hW0, World.cell?_alloc_new]; rfl)
  replace hW0 := Lib.hid hW0
  clear h hps hn5
  obtain ⟨y0, y1⟩ := hbx.out W0 (Below.refl _ _)
  obtain ⟨T0, hT0⟩ : ∃ T0, tx (gText n []) = T0 := ⟨_, rfl⟩
  rw [hT0] at hH
  obtain ⟨DN, hDN⟩ : ∃ DN, tx (Lib.decDigits n) = DN := ⟨_, rfl⟩
  rw [hDN] at hH hN
  clear hDN
  go_enter Tryd.func56, Tryd.ntmps56
  go_wp2_with fail
  rw [← hW0.out]
  go_wp2_with fail
  refine (hV.out _).mono ?_
  rintro r1 w1 ⟨rfl, hb1⟩
  clear y0 y1
  obtain ⟨y0, y1⟩ := hbx.out w1 hb1
  go_wp2_with fail
  refine (hN.out _).mono ?_
  rintro r2 w2 ⟨rfl, hb2⟩
  have hb3 := bchain hb2 hb1
  clear y0 y1
  obtain ⟨y0, y1⟩ := hbx.out w2 hb3
  go_wp2_with fail
  refine (hP.out _).mono ?_
  rintro r4 w4 ⟨⟨v, rfl, a, cap, rfl, hv⟩, hb4⟩
  have hb5 := bchain hb4 hb3
  clear y0 y1 hb1 hb2 hb3 hH
  replace hv := Lib.hid hv
  go_wp2
  go_loopw [3, 5] (fun s i wr => ∃ k : Nat, k ≤ ps.length ∧ i = .int .i64 k ∧ s = .string (tx (gText n (ps.take k))) ∧ Below w4.heap.size w4 wr) (fun _ i _ => ps.length - (intOf i).toNat)
  case atStart => exact ⟨0, by omega, rfl, by rw [← hT0]; rfl, Below.refl _ _⟩
  case round =>
    obtain ⟨k, hk, rfl, rfl, hbr⟩ := hrel
    by_cases hlt : k < ps.length
    · obtain ⟨B, rfl, hB1, hB2, hca, _⟩ := hv.out (by omega)
      obtain ⟨d0, d1⟩ := hca k hlt
      have hz : B < wr.heap.size := Nat.lt_of_lt_of_le hB2 hbr.size
      have q0 := bw_cell hz ((hbr.cell (p := ⟨B, k * 2, none⟩) hB2).trans d0)
      have q1 := bw_cell hz ((hbr.cell (p := ⟨B, k * 2 + 1, none⟩) hB2).trans d1)
      obtain ⟨x1, x2, x3, x4⟩ := hR.out k hlt
      rw [hS.out k hlt] at x4
      have hp : (ps[k]?.getD (0, 0)).1 < 5 ∧ (ps[k]?.getD (0, 0)).2 < 5 := hsm.out (ps[k]?.getD (0, 0)) (by rw [List.getElem?_eq_getElem hlt]; exact List.getElem_mem hlt)
      simp only [pAt] at q0 q1
      obtain ⟨i, hi⟩ : ∃ i, (ps[k]?.getD (0, 0)).1 = i := ⟨_, rfl⟩
      obtain ⟨j, hj⟩ : ∃ j, (ps[k]?.getD (0, 0)).2 = j := ⟨_, rfl⟩
      rw [hi] at q0 x1 x2 x3 x4 hp
      rw [hj] at q1 x3 x4 hp
      have hDi := Lib.hid (fun W => hD.out W i (by omega))
      have hDj := Lib.hid (fun W => hD.out W j (by omega))
      have hm : ps.length ≤ 25 := hL
      clear hi hj d0 d1 hca
      obtain ⟨t1, ht1⟩ : ∃ t, tx (gText n (ps.take k)) = t := ⟨_, rfl⟩
      obtain ⟨t2, ht2⟩ : ∃ t, tx (gText n (ps.take (k + 1))) = t := ⟨_, rfl⟩
      obtain ⟨t3, ht3⟩ : ∃ t, tx (Lib.decDigits i) = t := ⟨_, rfl⟩
      obtain ⟨t4, ht4⟩ : ∃ t, tx (Lib.decDigits j) = t := ⟨_, rfl⟩
      obtain ⟨t5, ht5⟩ : ∃ t, tx (32 :: Lib.decDigits i) = t := ⟨_, rfl⟩
      obtain ⟨t6, ht6⟩ : ∃ t, tx (32 :: (Lib.decDigits i ++ [45])) = t := ⟨_, rfl⟩
      obtain ⟨t7, ht7⟩ : ∃ t, tx (gPair (i, j)) = t := ⟨_, rfl⟩
      rw [ht1] at x4
      rw [ht2] at x4
      rw [ht3] at x1 hDi
      rw [ht4] at x3 hDj
      rw [ht5] at x1 x2
      rw [ht6] at x2 x3
      rw [ht7] at x3 x4
      rw [ht1]
      clear ht3 ht4 ht5 ht6 ht7
      have hdd := decide_eq_true (show ((k : Int) < (ps.length : Int)) by omega)
      go_wp2
      refine wp_region_below (by kernel_rfl) (by kernel_rfl) ?_
      iterate 6 (quiet_step (fail))
      refine wpQuiet_step (fun K hK => ?_)
      go_simp
      apply Exists.intro
      refine ⟨fun p => ?_, hK _ ?_⟩
      · exact bw_of (w := wr) (p := p) (hDi.out p.W)
      clear hK K
      iterate 2 (quiet_step (fail))
      iterate 5 (quiet_step (fail))
      refine wpQuiet_step (fun K hK => ?_)
      go_simp
      apply Exists.intro
      refine ⟨fun p => ?_, hK _ ?_⟩
      · exact bw_of (w := wr) (p := p) (hDj.out p.W)
      clear hK K
      iterate 2 (quiet_step (fail))
      iterate 1 (quiet_step (fail))
      refine wpQuiet_nil ?_
      intro w6 hw'
      obtain ⟨⟨wx, hb_w6⟩, rfl⟩ := hw'
      go_wp2
      go_roundw
      case rel => exact ⟨k + 1, by omega, by go_num, by rw [ht2], hbr.trans (hb_w6.mono hbr.size)⟩
      case measure => simp [intOf]; omega
    · obtain rfl : k = ps.length := by omega
      have hdd := decide_eq_false (show ¬ ((ps.length : Int) < (ps.length : Int)) by omega)
      rw [hE.out]
      go_wp2
      go_ret
      exact ⟨rfl, bchain (bchain hbr hb5) hB0⟩
end
end Go.Proofs.YtiedombphcdpbaaDoor
