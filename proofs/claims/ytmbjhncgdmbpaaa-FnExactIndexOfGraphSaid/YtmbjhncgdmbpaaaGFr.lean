/-
  FreeGraphs: the program's and the model's contracts.
-/
import Derived.Test.YtmbjhncgdmbpaaaGAll
import Derived.Test.YtmbjhncgdmbpaaaSAll
namespace Go.Proofs.Ytmbjhncgdmbpaaa
open Go.RowKit Go.Shelf
set_option maxRecDepth 100000

def gN (n : Nat) : List Nat := (List.range (eMax n)).filter (isG n)
theorem lG_gN (n : Nat) : lG n (eMax n) = (gN n).map fun (j : Nat) => ((n : Int), (j : Int)) := rfl
theorem gN_lt {n j : Nat} (h : j ∈ gN n) : j < eMax n := by
  have := (List.mem_filter.1 h).1
  simpa using this
def fG (n : Nat) (gs : List (Int × Int)) (m : Nat) : List (Int × Int) := (((gN n).take m).filter fun e => freeB n e gs).map fun (e : Nat) => ((n : Int), (e : Int))
theorem fG_t {n m x : Nat} {gs : List (Int × Int)} (hx : (gN n)[m]? = some x) (h : freeB n x gs = true) : fG n gs (m + 1) = fG n gs m ++ [((n : Int), (x : Int))] := by
  unfold fG
  rw [take_snoc' hx, List.filter_append]
  simp [h]
theorem fG_f {n m x : Nat} {gs : List (Int × Int)} (hx : (gN n)[m]? = some x) (h : freeB n x gs = false) : fG n gs (m + 1) = fG n gs m := by
  unfold fG
  rw [take_snoc' hx, List.filter_append]
  simp [h]
theorem fG_len (n : Nat) (gs : List (Int × Int)) (m : Nat) : (fG n gs m).length ≤ m := by
  unfold fG
  rw [List.length_map]
  have := List.length_filter_le (fun e => freeB n e gs) ((gN n).take m)
  simp at this
  omega
theorem gN_len (n : Nat) : (gN n).length ≤ 1024 := by
  have h1 := List.length_filter_le (isG n) (List.range (eMax n))
  have h2 := eMax_le n
  unfold gN
  simp at h1
  omega
theorem gN_at {n k : Nat} (h : k < (gN n).length) : ∃ x, (gN n)[k]? = some x ∧ x < eMax n ∧ gAt (lG n (eMax n)) k = ((n : Int), (x : Int)) := by
  refine ⟨(gN n)[k], List.getElem?_eq_getElem h, gN_lt (List.getElem_mem h), ?_⟩
  rw [lG_gN]
  unfold gAt
  rw [List.getElem?_map, List.getElem?_eq_getElem h]
  rfl
section
variable (w : World)
set_option maxHeartbeats 2000000 in
theorem sfr_any (n : Nat) (hn5 : n ≤ 5) (a : Option Addr) (cap : Nat) (gs : List (Int × Int)) (hm : gs.length ≤ 1048576) (hc : Lies w a gs) (hV : AllV gs) :
    Calls Try.prog 36 #[.int .i64 n, .slice a gs.length cap] w fun r w' => (∃ u, r = .returned u ∧ OwnG w w' u (fG n gs (gN n).length)) ∧ Below w.heap.size w w' := by
  have hFr := Lib.hid (fun W (hW : Below w.heap.size w W) (e : Nat) (he : e < eMax n) => sfree_any W n e ⟨by omega, by omega, by omega, by simpa using he⟩ a cap gs hm (hc.below hW) hV)
  have hA := Lib.hid (fun W => sall_any W n hn5)
  obtain ⟨l, hl⟩ : ∃ l, gs.length = l := ⟨_, rfl⟩
  rw [hl] at hFr ⊢
  have hlen : ∀ m, (fG n gs m).length ≤ m := fG_len n gs
  replace hlen := Lib.hid hlen
  obtain ⟨i0, hi, hz0, hz1, hz2⟩ := info_parts info_graph
  replace hi := Lib.hid hi
  replace hz0 := Lib.hid hz0
  replace hz1 := Lib.hid hz1
  replace hz2 := Lib.hid hz2
  have hat := Lib.hid (fun k h => gN_at (n := n) (k := k) h)
  have hlL : (lG n (eMax n)).length = (gN n).length := by rw [lG_gN]; simp
  have hgl := gN_len n
  obtain ⟨G, hGl⟩ : ∃ G, (gN n).length = G := ⟨_, rfl⟩
  rw [hGl] at hat hlL hgl ⊢
  clear hl hm hV hc hGl
  go_enter Try.func36, Try.ntmps36
  go_wp2_with (go_at_call 42; refine (hA.out _).mono ?_; rintro r4 w2 ⟨⟨u0, rfl, hU⟩, hb2⟩; obtain ⟨a0, cap0, rfl, hLi⟩ := hU.sl.lies)
  have hBw : Below w.heap.size w w2 := by (repeat (first | exact Below.refl _ _ | assumption | refine bchain (by assumption) ?_ | refine balloc ?_ _ | apply Below.drew | apply below_drewN | (refine Below.alloc ?_ (by (try simp) <;> omega) _) | (refine Below.setCell ?_ (by (try simp) <;> omega) _)))
  have hsw := hBw.size
  have hown0 : Hid ((w2.alloc (.cells #[] 36)).ownsRow w2.heap.size 36 2 (.slice (some ⟨w2.heap.size, 0, none⟩) 0 0) (fG n gs 0).length (gsC (fG n gs 0))) := World.ownsRow_made w2 #[] 0 (Nat.le_refl _) (by omega) rfl
  have hB1 : Below w2.heap.size w2 (w2.alloc (.cells #[] 36)) := by (repeat (first | exact Below.refl _ _ | assumption | refine bchain (by assumption) ?_ | refine balloc ?_ _ | apply Below.drew | apply below_drewN | (refine Below.alloc ?_ (by (try simp) <;> omega) _) | (refine Below.setCell ?_ (by (try simp) <;> omega) _)))
  clear hU
  replace hLi := Lib.hid hLi
  go_loopw [6, 7] (fun u i wr => ∃ j : Nat, j ≤ G ∧ i = .int .i64 j ∧ Hid (wr.ownsRow w2.heap.size 36 2 u (fG n gs j).length (gsC (fG n gs j))) ∧ Below w2.heap.size w2 wr) (fun _ i _ => G - (intOf i).toNat)
  case atStart => exact ⟨0, by omega, rfl, hown0, hB1⟩
  case round =>
    clear hown0 hB1
    obtain ⟨j, hj, rfl, hown, hB⟩ := hrel
    have hsz := hB.size
    by_cases hlt : j < G
    · obtain ⟨x, hx, hxm, hga⟩ := hat.out j hlt
      obtain ⟨b, off, rfl, hb, hg⟩ := hLi.out j (by rw [hlL]; exact hlt)
      rw [hga] at hg
      have s0 : wr.cell? ⟨b, off + j * 2, none⟩ = some (.int .i64 n) := (hB.cell (p := ⟨b, _, none⟩) hb).trans hg.1
      have s1 : wr.cell? ⟨b, off + j * 2 + 1, none⟩ = some (.int .u32 x) := (hB.cell (p := ⟨b, _, none⟩) hb).trans hg.2
      have hbr : b < wr.heap.size := by omega
      have hC := Lib.hid (fun W (hW : Below wr.heap.size wr W) => hFr.out W (hBw.trans ((hB.trans (hW.mono hsz)).mono hsw)) x hxm)
      have hjl := hlen.out j
      have hkn : (j : Int) < (G : Int) := by omega
      have hft1 := fG_t (gs := gs) hx
      have hff1 := fG_f (gs := gs) hx
      obtain ⟨bb, hbb⟩ : ∃ bb, freeB n x gs = bb := ⟨_, rfl⟩
      rw [hbb] at hC hft1 hff1
      clear hg hga hx hbb
      cases bb
      · have hnx := Lib.hid (hff1 rfl)
        clear hft1 hff1
        go_wp2_with (go_at_call 57; refine (hC.out _ (by (repeat (first | exact Below.refl _ _ | assumption | refine bchain (by assumption) ?_ | refine balloc ?_ _ | apply Below.drew | apply below_drewN | (refine Below.alloc ?_ (by (try simp) <;> omega) _) | (refine Below.setCell ?_ (by (try simp) <;> omega) _))))).mono ?_; rintro r4 w4 ⟨rfl, hb4⟩)
        have hb34 : Below wr.heap.size wr w4 := by (repeat (first | exact Below.refl _ _ | assumption | refine bchain (by assumption) ?_ | refine balloc ?_ _ | apply Below.drew | apply below_drewN | (refine Below.alloc ?_ (by (try simp) <;> omega) _) | (refine Below.setCell ?_ (by (try simp) <;> omega) _)))
        have hown4 := hown.out.kept (row := none) (w' := w4) ⟨hb34.os, hb34.tape, hb34.output, hb34.size, fun k hk _ => hb34.block k hk⟩ (by cases (Value.ownBlock _) <;> simp)
        rw [← hnx.out] at hown4
        replace hown4 := Lib.hid hown4
        have hB4 := hB.trans (hb34.mono hsz)
        clear hown hb34
        go_wp2
        go_roundw
        case rel => exact ⟨j + 1, by omega, by go_num, hown4, hB4⟩
        case measure => simp [intOf]; omega
      · have hnx := Lib.hid (hft1 rfl)
        clear hft1 hff1
        go_wp2_with (first
          | (go_at_call 57; refine (hC.out _ (by (repeat (first | exact Below.refl _ _ | assumption | refine bchain (by assumption) ?_ | refine balloc ?_ _ | apply Below.drew | apply below_drewN | (refine Below.alloc ?_ (by (try simp) <;> omega) _) | (refine Below.setCell ?_ (by (try simp) <;> omega) _))))).mono ?_; rintro r4 w4 ⟨rfl, hb4⟩; have hb34 : Below wr.heap.size wr w4 := (by (repeat (first | exact Below.refl _ _ | assumption | refine bchain (by assumption) ?_ | refine balloc ?_ _ | apply Below.drew | apply below_drewN | (refine Below.alloc ?_ (by (try simp) <;> omega) _) | (refine Below.setCell ?_ (by (try simp) <;> omega) _)))); have hownk := Lib.hid (hown.out.kept (row := none) (w' := w4) ⟨hb34.os, hb34.tape, hb34.output, hb34.size, fun k hk _ => hb34.block k hk⟩ (by cases (Value.ownBlock _) <;> simp)); have hz4 := hb34.size; have t0 := (hb34.cell (p := ⟨b, off + j * 2, none⟩) hbr).trans s0; have t1 := (hb34.cell (p := ⟨b, off + j * 2 + 1, none⟩) hbr).trans s1)
          | (at_builtin; refine wpList_append_own _ rfl _ _ 24 rfl w2.heap.size 36 i0 (.agg #[.int .i64 0, .int .u32 0]) 2 16 Try.underlying24 hi.out hz0.out hz1.out hz2.out rfl (by decide) _ _ _ rfl (hownk.out.alloc _) ⟨w4.heap.size, 0, none⟩ 1 1 [.int .i64 n, .int .u32 x] rfl rfl (fun q u hq => by match q, hq with
              | 0, hq => simp at hq; subst hq; rw [show (⟨w4.heap.size, 0, none⟩ : Addr).add 0 = ⟨w4.heap.size, 0, none⟩ from rfl, World.cell?_alloc_new]; rfl
              | 1, hq => simp at hq; subst hq; rw [show (⟨w4.heap.size, 0, none⟩ : Addr).add 1 = ⟨w4.heap.size, 1, none⟩ from rfl, World.cell?_alloc_new]; rfl
              | q + 2, hq => simp at hq) (fun u hu => by simp at hu; rcases hu with rfl | rfl <;> rfl) (by unfold maxLen; omega) (by omega) (by simp; omega) ?_; intro v' w5 hown' hgrow _))
        have hB5 : Below w2.heap.size w2 w5 := (balloc (hB.trans (hb34.mono hsz)) _).grown hgrow (by simp; omega) (fun k hk => by have := (hownk.out.lt k hk).1; omega)
        have hown5 : Hid (w5.ownsRow w2.heap.size 36 2 v' (fG n gs (j + 1)).length (gsC (fG n gs (j + 1)))) := by
          show World.ownsRow _ _ _ _ _ _ _
          rw [hnx.out, gsC_snoc, List.length_append]
          exact hown'
        clear hown' hgrow hownk hown
        go_roundw
        case rel => exact ⟨j + 1, by omega, by go_num, hown5, hB5⟩
        case measure => simp [intOf]; omega
    · obtain rfl : j = G := by omega
      have hdd := decide_eq_false (show ¬ ((j : Int) < (j : Int)) by omega)
      have hO := Lib.hid (ownG_of_row (w0 := w) hown.out hsw)
      have hBz := hBw.trans (hB.mono hsw)
      clear hown
      go_wp2
      go_ret
      exact ⟨⟨_, rfl, hO.out⟩, hBz⟩
set_option maxHeartbeats 2000000 in
theorem ifr_ok (n : Nat) (hn5 : n ≤ 5) (a : Option Addr) (cap : Nat) (gs : List (Int × Int)) (hm : gs.length ≤ 1048576) (hc : Lies w a gs) (hbd : Bd gs) (hV : AllV gs) (h6 : gs.length ≤ 6) :
    Calls Try.prog 11 #[.int .i64 n, .slice a gs.length cap] w (RetG w (fG n gs (gN n).length) 0) := by
  have hF := Lib.hid (fun W (hW : Below w.heap.size w W) => cf_ok W a cap gs hm (hc.below hW) hbd hV h6)
  have hFr := Lib.hid (fun W (hW : Below w.heap.size w W) (e : Nat) (he : e < eMax n) => ifree_any W n e ⟨by omega, by omega, by omega, by simpa using he⟩ a cap gs hm (hc.below hW) hV)
  have hA := Lib.hid (fun W => iag_ok W n hn5)
  obtain ⟨l, hl⟩ : ∃ l, gs.length = l := ⟨_, rfl⟩
  rw [hl] at hFr hF ⊢
  have hlen : ∀ m, (fG n gs m).length ≤ m := fG_len n gs
  replace hlen := Lib.hid hlen
  obtain ⟨i0, hi, hz0, hz1, hz2⟩ := info_parts info_graph
  replace hi := Lib.hid hi
  replace hz0 := Lib.hid hz0
  replace hz1 := Lib.hid hz1
  replace hz2 := Lib.hid hz2
  have hat := Lib.hid (fun k h => gN_at (n := n) (k := k) h)
  have hlL : (lG n (eMax n)).length = (gN n).length := by rw [lG_gN]; simp
  have hgl := gN_len n
  obtain ⟨G, hGl⟩ : ∃ G, (gN n).length = G := ⟨_, rfl⟩
  rw [hGl] at hat hlL hgl ⊢
  clear hl hm hV hc hGl
  go_enter Try.func11, Try.ntmps11
  go_wp2_with (first
    | (go_at_call 37; refine (hF.out _ (by (repeat (first | exact Below.refl _ _ | assumption | refine bchain (by assumption) ?_ | refine balloc ?_ _ | apply Below.drew | apply below_drewN | (refine Below.alloc ?_ (by (try simp) <;> omega) _) | (refine Below.setCell ?_ (by (try simp) <;> omega) _))))).mono ?_; rintro r1 w1 ⟨rfl, hb1⟩)
    | (go_at_call 19; refine (hA.out _).mono ?_; rintro r4 w2 ⟨⟨u0, rfl, hU⟩, hb2⟩; obtain ⟨a0, cap0, rfl, hLi⟩ := hU.sl.lies))
  have hBw : Below w.heap.size w w2 := by (repeat (first | exact Below.refl _ _ | assumption | refine bchain (by assumption) ?_ | refine balloc ?_ _ | apply Below.drew | apply below_drewN | (refine Below.alloc ?_ (by (try simp) <;> omega) _) | (refine Below.setCell ?_ (by (try simp) <;> omega) _)))
  have hsw := hBw.size
  have hown0 : Hid (w2.ownsRow w2.heap.size 36 2 (.slice none 0 0) (fG n gs 0).length (gsC (fG n gs 0))) := ⟨rfl, .inl ⟨rfl, rfl⟩⟩
  have hB1 : Below w2.heap.size w2 w2 := Below.refl _ _
  clear hU
  replace hLi := Lib.hid hLi
  go_loopw [9, 11, 27] (fun u _ i wr => ∃ j : Nat, j ≤ G ∧ i = .int .i64 j ∧ Hid (wr.ownsRow w2.heap.size 36 2 u (fG n gs j).length (gsC (fG n gs j))) ∧ Below w2.heap.size w2 wr) (fun _ _ i _ => G - (intOf i).toNat)
  case atStart => exact ⟨0, by omega, rfl, hown0, hB1⟩
  case round =>
    clear hown0 hB1
    obtain ⟨j, hj, rfl, hown, hB⟩ := hrel
    have hsz := hB.size
    by_cases hlt : j < G
    · obtain ⟨x, hx, hxm, hga⟩ := hat.out j hlt
      obtain ⟨b, off, rfl, hb, hg⟩ := hLi.out j (by rw [hlL]; exact hlt)
      rw [hga] at hg
      have s0 : wr.cell? ⟨b, off + j * 2, none⟩ = some (.int .i64 n) := (hB.cell (p := ⟨b, _, none⟩) hb).trans hg.1
      have s1 : wr.cell? ⟨b, off + j * 2 + 1, none⟩ = some (.int .u32 x) := (hB.cell (p := ⟨b, _, none⟩) hb).trans hg.2
      have hbr : b < wr.heap.size := by omega
      have hC := Lib.hid (fun W (hW : Below wr.heap.size wr W) => hFr.out W (hBw.trans ((hB.trans (hW.mono hsz)).mono hsw)) x hxm)
      have hjl := hlen.out j
      have hkn : (j : Int) < (G : Int) := by omega
      have hft1 := fG_t (gs := gs) hx
      have hff1 := fG_f (gs := gs) hx
      obtain ⟨bb, hbb⟩ : ∃ bb, freeB n x gs = bb := ⟨_, rfl⟩
      rw [hbb] at hC hft1 hff1
      clear hg hga hx hbb
      cases bb
      · have hnx := Lib.hid (hff1 rfl)
        clear hft1 hff1
        go_wp2_with (go_at_call 38; refine (hC.out _ (by (repeat (first | exact Below.refl _ _ | assumption | refine bchain (by assumption) ?_ | refine balloc ?_ _ | apply Below.drew | apply below_drewN | (refine Below.alloc ?_ (by (try simp) <;> omega) _) | (refine Below.setCell ?_ (by (try simp) <;> omega) _))))).mono ?_; rintro r4 w4 ⟨rfl, hb4⟩)
        have hb34 : Below wr.heap.size wr w4 := by (repeat (first | exact Below.refl _ _ | assumption | refine bchain (by assumption) ?_ | refine balloc ?_ _ | apply Below.drew | apply below_drewN | (refine Below.alloc ?_ (by (try simp) <;> omega) _) | (refine Below.setCell ?_ (by (try simp) <;> omega) _)))
        have hown4 := hown.out.kept (row := none) (w' := w4) ⟨hb34.os, hb34.tape, hb34.output, hb34.size, fun k hk _ => hb34.block k hk⟩ (by cases (Value.ownBlock _) <;> simp)
        rw [← hnx.out] at hown4
        replace hown4 := Lib.hid hown4
        have hB4 := hB.trans (hb34.mono hsz)
        clear hown hb34
        go_wp2
        go_roundw
        case rel => exact ⟨j + 1, by omega, by go_num, hown4, hB4⟩
        case measure => simp [intOf]; omega
      · have hnx := Lib.hid (hft1 rfl)
        clear hft1 hff1
        go_wp2_with (first
          | (go_at_call 38; refine (hC.out _ (by (repeat (first | exact Below.refl _ _ | assumption | refine bchain (by assumption) ?_ | refine balloc ?_ _ | apply Below.drew | apply below_drewN | (refine Below.alloc ?_ (by (try simp) <;> omega) _) | (refine Below.setCell ?_ (by (try simp) <;> omega) _))))).mono ?_; rintro r4 w4 ⟨rfl, hb4⟩; have hb34 : Below wr.heap.size wr w4 := (by (repeat (first | exact Below.refl _ _ | assumption | refine bchain (by assumption) ?_ | refine balloc ?_ _ | apply Below.drew | apply below_drewN | (refine Below.alloc ?_ (by (try simp) <;> omega) _) | (refine Below.setCell ?_ (by (try simp) <;> omega) _)))); have hownk := Lib.hid (hown.out.kept (row := none) (w' := w4) ⟨hb34.os, hb34.tape, hb34.output, hb34.size, fun k hk _ => hb34.block k hk⟩ (by cases (Value.ownBlock _) <;> simp)); have hz4 := hb34.size; have t0 := (show w4.cell? ⟨wr.heap.size, 0, none⟩ = some (.int .i64 (n : Int)) from (hb4.cell (p := ⟨wr.heap.size, 0, none⟩) (by simp)).trans (by rw [cNew _ _ _ _ _ rfl]; rfl)); have t1 := (show w4.cell? ⟨wr.heap.size, 1, none⟩ = some (.int .u32 (x : Int)) from (hb4.cell (p := ⟨wr.heap.size, 1, none⟩) (by simp)).trans (by rw [cNew _ _ _ _ _ rfl]; rfl)))
          | (at_builtin; refine wpList_append_own _ rfl _ _ 24 rfl w2.heap.size 36 i0 (.agg #[.int .i64 0, .int .u32 0]) 2 16 Try.underlying24 hi.out hz0.out hz1.out hz2.out rfl (by decide) _ _ _ rfl (hownk.out.alloc _) ⟨w4.heap.size, 0, none⟩ 1 1 [.int .i64 n, .int .u32 x] rfl rfl (fun q u hq => by match q, hq with
              | 0, hq => simp at hq; subst hq; rw [show (⟨w4.heap.size, 0, none⟩ : Addr).add 0 = ⟨w4.heap.size, 0, none⟩ from rfl, World.cell?_alloc_new]; rfl
              | 1, hq => simp at hq; subst hq; rw [show (⟨w4.heap.size, 0, none⟩ : Addr).add 1 = ⟨w4.heap.size, 1, none⟩ from rfl, World.cell?_alloc_new]; rfl
              | q + 2, hq => simp at hq) (fun u hu => by simp at hu; rcases hu with rfl | rfl <;> rfl) (by unfold maxLen; omega) (by omega) (by simp; omega) ?_; intro v' w5 hown' hgrow _))
        have hB5 : Below w2.heap.size w2 w5 := (balloc (hB.trans (hb34.mono hsz)) _).grown hgrow (by simp; omega) (fun k hk => by have := (hownk.out.lt k hk).1; omega)
        have hown5 : Hid (w5.ownsRow w2.heap.size 36 2 v' (fG n gs (j + 1)).length (gsC (fG n gs (j + 1)))) := by
          show World.ownsRow _ _ _ _ _ _ _
          rw [hnx.out, gsC_snoc, List.length_append]
          exact hown'
        clear hown' hgrow hownk hown
        go_roundw
        case rel => exact ⟨j + 1, by omega, by go_num, hown5, hB5⟩
        case measure => simp [intOf]; omega
    · obtain rfl : j = G := by omega
      have hdd := decide_eq_false (show ¬ ((j : Int) < (j : Int)) by omega)
      have hO := Lib.hid (ownG_of_row (w0 := w) hown.out hsw)
      have hBz := hBw.trans (hB.mono hsw)
      clear hown
      go_wp2
      go_ret2
      exact ⟨⟨_, rfl, hO.out⟩, hBz⟩
end
end Go.Proofs.Ytmbjhncgdmbpaaa
