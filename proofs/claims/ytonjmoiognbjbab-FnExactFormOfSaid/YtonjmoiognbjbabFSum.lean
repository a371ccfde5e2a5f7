/-
  THE SUM OF A LIST OF VALID FRACTIONS: the program's and the model's contracts.
-/
import Derived.Test.YtonjmoiognbjbabFList
import Derived.Test.YtonjmoiognbjbabFWh
import Derived.Deep.RegionHeld3
import Derived.Deep.DeepCutAuto
namespace Go.Proofs.Ytonjmoiognbjbab
open Go.RowKit
set_option maxRecDepth 100000

def sumTo (fs : List (Int × Int)) : Nat → Option (Int × Int) | 0 => some (0, 1) | k + 1 => (sumTo fs k).bind fun s => addF s (gAt fs k)
theorem sumTo_none {fs : List (Int × Int)} {k : Nat} (h : sumTo fs k = none) : ∀ n, k ≤ n → sumTo fs n = none := by
  intro n hn
  induction n with
  | zero => obtain rfl : k = 0 := by omega
            exact h
  | succ n ih =>
    by_cases e : k = n + 1
    · rw [← e]; exact h
    · rw [sumTo, ih (by omega)]; rfl
theorem vp01 : VP (0, 1) := by unfold VP VF; decide
theorem sumTo_vp {fs : List (Int × Int)} (hV : AllV fs) : ∀ k s, k ≤ fs.length → sumTo fs k = some s → VP s
  | 0, s, _, h => by cases h; exact vp01
  | k + 1, s, hk, h => by
    rw [sumTo] at h
    cases hs : sumTo fs k with
    | none => rw [hs] at h; cases h
    | some t => rw [hs] at h; exact add_vp (sumTo_vp hV k t (by omega) hs) (hV k (by omega)) h
/-- the block that holds the sum so far -/
def SumAt (w W : World) (S : Nat) (s : Int × Int) : Prop :=
  W.cell? ⟨S, 0, none⟩ = some (.int .i64 s.1) ∧ W.cell? ⟨S, 1, none⟩ = some (.int .i64 s.2) ∧ (∀ o, W.frozen? ⟨S, o, none⟩ = false) ∧ S < W.heap.size ∧
  W.cell? ⟨w.heap.size, 0, none⟩ = some (.int .i64 0) ∧ W.cell? ⟨w.heap.size, 1, none⟩ = some (.int .i64 0) ∧ (∀ o, W.frozen? ⟨w.heap.size, o, none⟩ = false) ∧ w.heap.size < S ∧ Below w.heap.size w W
theorem SumAt.below {w W W1 : World} {S : Nat} {s : Int × Int} (h : SumAt w W S s) (hb : Below W.heap.size W W1) : SumAt w W1 S s := by
  obtain ⟨h0, h1, h2, h3, h4, h5, h6, h7, h8⟩ := h
  have hs := hb.size
  exact ⟨(keepAll hb _ _ h3).trans h0, (keepAll hb _ _ h3).trans h1, fun o => (keepFz hb _ _ h3).trans (h2 o), by omega, (keepAll hb _ _ (by omega)).trans h4, (keepAll hb _ _ (by omega)).trans h5, fun o => (keepFz hb _ _ (by omega)).trans (h6 o), h7, h8.trans (hb.mono h8.size)⟩
/-- .. and a new sum is stored -/
theorem SumAt.store {w W : World} {S : Nat} {s : Int × Int} (h : SumAt w W S s) (x : Int × Int) : SumAt w ((W.setCell ⟨S, 0, none⟩ (.int .i64 x.1)).setCell ⟨S, 1, none⟩ (.int .i64 x.2)) S x := by
  obtain ⟨h0, h1, h2, h3, h4, h5, h6, h7, h8⟩ := h
  have ht := twoCells h0 h1 (.int .i64 x.1) (.int .i64 x.2)
  refine ⟨ht.1, ht.2, fun o => by simp [h2], by simp; exact h3, ?_, ?_, fun o => by simp [h6], h7, ?_⟩
  · exact (World.cell?_setCell_other _ _ _ _ (by simp <;> omega)).trans ((World.cell?_setCell_other _ _ _ _ (by simp <;> omega)).trans h4)
  · exact (World.cell?_setCell_other _ _ _ _ (by simp <;> omega)).trans ((World.cell?_setCell_other _ _ _ _ (by simp <;> omega)).trans h5)
  · exact (h8.setCell (by simp <;> omega) _).setCell (by simp <;> omega) _
section
variable (w : World)
set_option maxHeartbeats 1000000 in
theorem isum_any (a : Option Addr) (cap : Nat) (fs : List (Int × Int)) (hm : fs.length ≤ 1048576) (hc : Lies w a fs) (hV : AllV fs) :
    Calls Try.prog 47 #[.slice a fs.length cap] w fun r w' => r = qe (sumTo fs fs.length) ∧ Below w.heap.size w w' := by
  have hP := Lib.hid (fun W k s (hk : k < fs.length) (hs : sumTo fs k = some s) => plus_any W s (gAt fs k) (sumTo_vp hV k s (by omega) hs) (hV k hk))
  have hW := Lib.hid (fun W => whole_any W 0)
  obtain ⟨n, hn⟩ : ∃ n, n = fs.length := ⟨_, rfl⟩
  rw [← hn] at hm hP ⊢
  replace hc := Lib.hid hc
  replace hn := Lib.hid hn
  clear hV
  go_enter Try.func47, Try.ntmps47
  go_wp2_with fail
  refine (hW.out _).mono ?_
  rintro r1 w1 ⟨rfl, hb1⟩
  have hA : SumAt w (w1.alloc (.cells #[.int .i64 0, .int .i64 1] 25)) w1.heap.size (0, 1) := by
    have hs := hb1.size
    simp at hs
    refine ⟨by simp [go_sem], by simp [go_sem], fun o => by simp, by simp, ?_, ?_, ?_, by omega, by (repeat (first | exact Below.refl _ _ | assumption | refine bchain (by assumption) ?_ | refine balloc ?_ _ | apply Below.drew | apply below_drewN | (refine Below.alloc ?_ (by (try simp) <;> omega) _) | (refine Below.setCell ?_ (by (try simp) <;> omega) _)))⟩
    · exact (World.cell?_alloc_lt _ _ _ (by show w.heap.size < _; omega)).trans ((keepAll hb1 _ _ (by simp)).trans (by simp [go_sem]))
    · exact (World.cell?_alloc_lt _ _ _ (by show w.heap.size < _; omega)).trans ((keepAll hb1 _ _ (by simp)).trans (by simp [go_sem]))
    · intro o
      have h1 := keepFz hb1 w.heap.size o (by simp)
      have h2 := keepFz (balloc (Below.refl _ w1) (.cells #[.int .i64 0, .int .i64 1] 25)) w.heap.size o (by omega)
      exact h2.trans (h1.trans (by simp))
  replace hA := Lib.hid hA
  go_wp2
  go_loopw [5, 9] (fun _ i wr => ∃ (k : Nat) (s : Int × Int), k ≤ n ∧ i = .int .i64 k ∧ sumTo fs k = some s ∧ SumAt w wr w1.heap.size s) (fun _ i _ => n - (intOf i).toNat)
  case atStart => exact ⟨0, (0, 1), by omega, rfl, rfl, hA.out⟩
  case round =>
    obtain ⟨k, s, hk, rfl, hs, hS⟩ := hrel
    clear hA hb1
    by_cases hlt : k < n
    · obtain ⟨b, off, rfl, hb, hg⟩ := hc.out k (by have := hn.out; omega)
      have hC := Lib.hid (fun W => hP.out W k s hlt hs)
      have hN : ∀ x, addF s (gAt fs k) = x → sumTo fs (k + 1) = x := fun x hx => by rw [sumTo, hs]; exact hx
      obtain ⟨x, y, hxy⟩ : ∃ x y, gAt fs k = (x, y) := ⟨_, _, rfl⟩
      have hB := hS.2.2.2.2.2.2.2.2
      have s0 : wr.cell? ⟨b, off + k * 2, none⟩ = some (.int .i64 x) := by rw [hB.cell (p := ⟨b, _, none⟩) hb, hg.1, hxy]
      have s1 : wr.cell? ⟨b, off + k * 2 + 1, none⟩ = some (.int .i64 y) := by rw [hB.cell (p := ⟨b, _, none⟩) hb, hg.2, hxy]
      obtain ⟨o, ho⟩ : ∃ o, addF s (gAt fs k) = o := ⟨_, rfl⟩
      have hN2 := hN o ho
      rw [ho] at hC
      rw [hxy] at hC
      obtain ⟨p, q⟩ := s
      have t0 : ∀ O, (wr.alloc O).cell? ⟨w1.heap.size, 0, none⟩ = some (.int .i64 p) := fun O => (World.cell?_alloc_lt _ _ _ hS.2.2.2.1).trans hS.1
      have t1 : ∀ O, (wr.alloc O).cell? ⟨w1.heap.size, 1, none⟩ = some (.int .i64 q) := fun O => (World.cell?_alloc_lt _ _ _ hS.2.2.2.1).trans hS.2.1
      unfold fv at hC
      dsimp only at hC
      have hkn : (k : Int) < (n : Int) := by omega
      replace hS := Lib.hid hS
      clear hN hxy hg ho hs hB
      go_wp2_with fail
      refine (hC.out _).mono ?_
      rintro r3 w3 ⟨rfl, hb3⟩
      have hS3 := (hS.out.below (balloc (Below.refl _ wr) (.cells #[.int .i64 x, .int .i64 y] 25))).below hb3
      cases o with
      | none =>
        unfold qe tooBig
        go_wp2
        exact ⟨rfl, by rw [sumTo_none hN2 n (by omega)]; rfl, hS3.2.2.2.2.2.2.2.2⟩
      | some z =>
        obtain ⟨z1, z2⟩ := z
        have g0 := hS3.1
        have g1 := hS3.2.1
        have g2 := hS3.2.2.1
        have hst := Lib.hid (hS3.store (z1, z2))
        dsimp only at g0 g1
        replace hS3 := Lib.hid hS3
        unfold qe fv
        go_wp2
        go_roundw
        case rel => exact ⟨k + 1, (z1, z2), by omega, by go_num, hN2, hst.out⟩
        case measure => simp [intOf]; omega
    · have hd := decide_eq_false (show ¬ ((k : Int) < (n : Int)) by omega)
      obtain rfl : k = n := by omega
      obtain ⟨p, q⟩ := s
      obtain ⟨h0, h1, h2, h3, h4, h5, h6, h7, h8⟩ := hS
      dsimp only at h0 h1
      have ht := twoCells h4 h5 (.int .i64 p) (.int .i64 q)
      go_wp2
      rw [hs]
      exact bodyPost_ret (v := .agg #[.int .i64 p, .int .i64 q]) (by simp [results, Try.results47, go_sem, ht.1, ht.2]) rfl ⟨rfl, by (repeat (first | exact Below.refl _ _ | assumption | refine bchain (by assumption) ?_ | refine balloc ?_ _ | apply Below.drew | apply below_drewN | (refine Below.alloc ?_ (by (try simp) <;> omega) _) | (refine Below.setCell ?_ (by (try simp) <;> omega) _)))⟩

/-- the closure that carries the sum out -/
theorem sumClo_any (a : Option Addr) (cap : Nat) (fs : List (Int × Int)) (B : Nat) (hB : w.cell? ⟨B, 0, none⟩ = some (.slice a fs.length cap)) (hm : fs.length ≤ 1048576) (hc : Lies w a fs) (hV : AllV fs) :
    Calls Try.prog 46 #[.pointer (some ⟨B, 0, none⟩)] w fun r w' => r = qe (sumTo fs fs.length) ∧ Below w.heap.size w w' := by
  have hQ := Lib.hid (fun W (hW : Lies W a fs) => isum_any W a cap fs hm hW hV)
  have e0 := World.block_lt_of_cell? w _ hB
  dsimp only at e0
  have l0 : ∀ O, (w.alloc O).cell? ⟨B, 0, none⟩ = some (.slice a fs.length cap) := fun O => (World.cell?_alloc_lt _ _ _ e0).trans hB
  replace hc := Lib.hid hc
  clear hB hV
  obtain ⟨o, ho⟩ : ∃ o, sumTo fs fs.length = o := ⟨_, rfl⟩
  rw [ho] at hQ ⊢
  clear ho
  obtain ⟨l, hl⟩ : ∃ l, fs.length = l := ⟨_, rfl⟩
  rw [hl] at hQ l0
  clear hl hm
  go_enter Try.func46, Try.ntmps46
  go_wp2_with fail
  refine (hQ.out _ (hc.out.below (balloc (Below.refl _ w) _))).mono ?_
  rintro r1 w1 ⟨rfl, hb1⟩
  rcases qe_form o with ⟨x, y, hq⟩ | hq
  · rw [hq]
    obtain ⟨hk1, hz1⟩ := bkeep hb1 w.heap.size (by simp)
    have hf1 := bkeepz hb1 w.heap.size (by simp)
    have g0 : w1.cell? ⟨w.heap.size, 0, none⟩ = some (.int .i64 0) := (hk1 0).trans (by simp [go_sem])
    have g1 : w1.cell? ⟨w.heap.size, 1, none⟩ = some (.int .i64 0) := (hk1 1).trans (by simp [go_sem])
    have h2 := twoCells g0 g1 (.int .i64 x) (.int .i64 y)
    go_wp2
    exact bodyPost_ret (v := .agg #[.int .i64 x, .int .i64 y]) (by simp [results, Try.results46, go_sem, h2.1, h2.2]) rfl ⟨hq.symm, by (repeat (first | exact Below.refl _ _ | assumption | refine bchain (by assumption) ?_ | refine balloc ?_ _ | apply Below.drew | apply below_drewN | (refine Below.alloc ?_ (by (try simp) <;> omega) _) | (refine Below.setCell ?_ (by (try simp) <;> omega) _)))⟩
  · rw [hq]
    unfold tooBig
    go_wp2
    exact ⟨rfl, hq.symm, by (repeat (first | exact Below.refl _ _ | assumption | refine bchain (by assumption) ?_ | refine balloc ?_ _ | apply Below.drew | apply below_drewN | (refine Below.alloc ?_ (by (try simp) <;> omega) _) | (refine Below.setCell ?_ (by (try simp) <;> omega) _)))⟩
theorem isf_bad (v : Value) (fs : List (Int × Int)) (hS : SlG w v fs) (hm : fs.length ≤ 1048576) (hV : ¬ Vl fs) :
    Calls Try.prog 15 #[v] w fun r w' => r = .returned (cv 1) ∧ Below w.heap.size w w' := by
  have hC := Lib.hid (fun W (hW : SlG W v fs) => ivl_f W v fs hW hm hV)
  obtain ⟨a, cap, rfl, _⟩ := id hS
  replace hS := Lib.hid hS
  obtain ⟨l, hl⟩ : ∃ l, fs.length = l := ⟨_, rfl⟩
  rw [hl] at hS hC ⊢
  clear hm hV
  unfold cv
  go_enter Try.func15, Try.ntmps15
  go_wp2_with fail
  refine (hC.out _ (hS.out.below (by (repeat (first | exact Below.refl _ _ | assumption | refine bchain (by assumption) ?_ | refine balloc ?_ _ | apply Below.drew | apply below_drewN | (refine Below.alloc ?_ (by (try simp) <;> omega) _) | (refine Below.setCell ?_ (by (try simp) <;> omega) _)))))).mono ?_
  rintro r1 w1 ⟨rfl, hb1⟩
  obtain ⟨hk1, hz1⟩ := bkeep hb1 (w.heap.size + 1) (by (try simp) <;> omega)
  have hf1 := bkeepz hb1 (w.heap.size + 1) (by (try simp) <;> omega)
  have g0 : w1.cell? ⟨w.heap.size + 1, 0, none⟩ = some (.int .i64 0) := (hk1 0).trans (by simp [go_sem])
  have g1 : w1.cell? ⟨w.heap.size + 1, 1, none⟩ = some (.int .i64 0) := (hk1 1).trans (by simp [go_sem])
  have h2 := twoCells g0 g1 (.int .i64 0) (.int .i64 0)
  go_wp2
  exact bodyPost_ret (v := .tuple #[.agg #[.int .i64 0, .int .i64 0], .int .i64 1]) (by simp [results, Try.results15, go_sem, h2.1, h2.2]) rfl ⟨rfl, by (repeat (first | exact Below.refl _ _ | assumption | refine bchain (by assumption) ?_ | refine balloc ?_ _ | apply Below.drew | apply below_drewN | (refine Below.alloc ?_ (by (try simp) <;> omega) _) | (refine Below.setCell ?_ (by (try simp) <;> omega) _)))⟩
theorem isf_ok (v : Value) (fs : List (Int × Int)) (hS : SlG w v fs) (hV : Vl fs) :
    Calls Try.prog 15 #[v] w fun r w' => r = .returned (lv (sumTo fs fs.length)) ∧ Below w.heap.size w w' := by
  have hm : fs.length ≤ 1048576 := by have := hV.1; omega
  have hC := Lib.hid (fun W (hW : SlG W v fs) => ivl_t W v fs hW hV)
  obtain ⟨a, cap, rfl, hLi⟩ := hS.lies
  have hL := Lib.hid (fun W B (hO : W.cell? ⟨B, 0, none⟩ = some (.slice a fs.length cap)) (hW : Lies W a fs) =>
      lim_any 46 #[.pointer (some ⟨B, 0, none⟩)] (fun _ _ => by kernel_rfl) (sumTo fs fs.length) W (fun W' hb' =>
        sumClo_any W' a cap fs B ((hb'.cell (World.block_lt_of_cell? W _ hO)).trans hO) hm (hW.below hb') hV.2))
  have hmf : ∀ (fn : Fn) (first cap : Array Value) (w : World), (Instr.makeFunc fn first cap).run Try.prog w = .ok (.func fn first cap) w := fun _ _ _ _ => rfl
  replace hS := Lib.hid hS
  replace hLi := Lib.hid hLi
  obtain ⟨r1, r2, c, hl⟩ := lv_form (sumTo fs fs.length)
  rw [hl] at hL ⊢
  obtain ⟨l, hl2⟩ : ∃ l, fs.length = l := ⟨_, rfl⟩
  rw [hl2] at hS hC hL ⊢
  clear hl hl2 hm hV
  go_enter Try.func15, Try.ntmps15
  go_wp2_with fail
  refine (hC.out _ (hS.out.below (by (repeat (first | exact Below.refl _ _ | assumption | refine bchain (by assumption) ?_ | refine balloc ?_ _ | apply Below.drew | apply below_drewN | (refine Below.alloc ?_ (by (try simp) <;> omega) _) | (refine Below.setCell ?_ (by (try simp) <;> omega) _)))))).mono ?_
  rintro r1 w1 ⟨rfl, hb1⟩
  obtain ⟨hk0, hz0⟩ := bkeep hb1 w.heap.size (by (try simp) <;> omega)
  obtain ⟨hk1, hz1⟩ := bkeep hb1 (w.heap.size + 1) (by (try simp) <;> omega)
  have hf1 := bkeepz hb1 (w.heap.size + 1) (by (try simp) <;> omega)
  go_wp2_with fail
  refine (hL.out _ _ ((hk0 0).trans (by simp [go_sem])) (hLi.out.below (by (repeat (first | exact Below.refl _ _ | assumption | refine bchain (by assumption) ?_ | refine balloc ?_ _ | apply Below.drew | apply below_drewN | (refine Below.alloc ?_ (by (try simp) <;> omega) _) | (refine Below.setCell ?_ (by (try simp) <;> omega) _)))))).mono ?_
  rintro r3 w3 ⟨rfl, hb3⟩
  obtain ⟨hk3, hz3⟩ := bkeep hb3 (w.heap.size + 1) hz1
  have hf3 := bkeepz hb3 (w.heap.size + 1) hz1
  have g0 : w3.cell? ⟨w.heap.size + 1, 0, none⟩ = some (.int .i64 0) := (hk3 0).trans ((hk1 0).trans (by simp [go_sem]))
  have g1 : w3.cell? ⟨w.heap.size + 1, 1, none⟩ = some (.int .i64 0) := (hk3 1).trans ((hk1 1).trans (by simp [go_sem]))
  have h2 := twoCells g0 g1 (.int .i64 r1) (.int .i64 r2)
  go_wp2
  exact bodyPost_ret (v := .tuple #[.agg #[.int .i64 r1, .int .i64 r2], .int .i64 c]) (by simp [results, Try.results15, go_sem, h2.1, h2.2]) rfl ⟨rfl, by (repeat (first | exact Below.refl _ _ | assumption | refine bchain (by assumption) ?_ | refine balloc ?_ _ | apply Below.drew | apply below_drewN | (refine Below.alloc ?_ (by (try simp) <;> omega) _) | (refine Below.setCell ?_ (by (try simp) <;> omega) _)))⟩
theorem ssf_bad (v : Value) (fs : List (Int × Int)) (hS : SlG w v fs) (hm : fs.length ≤ 1048576) (hV : ¬ Vl fs) :
    Calls Try.prog 13 #[v] w fun r w' => r = .returned (cv 1) ∧ Below w.heap.size w w' := by
  have hC := Lib.hid (fun W (hW : SlG W v fs) => svl_f W v fs hW hm hV)
  obtain ⟨a, cap, rfl, _⟩ := id hS
  replace hS := Lib.hid hS
  obtain ⟨l, hl⟩ : ∃ l, fs.length = l := ⟨_, rfl⟩
  rw [hl] at hS hC ⊢
  clear hm hV
  unfold cv
  go_enter Try.func13, Try.ntmps13
  go_wp2_with fail
  refine (hC.out _ (hS.out.below (by (repeat (first | exact Below.refl _ _ | assumption | refine bchain (by assumption) ?_ | refine balloc ?_ _ | apply Below.drew | apply below_drewN | (refine Below.alloc ?_ (by (try simp) <;> omega) _) | (refine Below.setCell ?_ (by (try simp) <;> omega) _)))))).mono ?_
  rintro r1 w1 ⟨rfl, hb1⟩
  obtain ⟨hk1, hz1⟩ := bkeep hb1 w.heap.size (by (try simp) <;> omega)
  have hf1 := bkeepz hb1 w.heap.size (by (try simp) <;> omega)
  have g0 : w1.cell? ⟨w.heap.size, 0, none⟩ = some (.int .i64 0) := (hk1 0).trans (by simp [go_sem])
  have g1 : w1.cell? ⟨w.heap.size, 1, none⟩ = some (.int .i64 0) := (hk1 1).trans (by simp [go_sem])
  have h2 := twoCells g0 g1 (.int .i64 0) (.int .i64 0)
  go_wp2
  exact bodyPost_ret (v := .tuple #[.agg #[.int .i64 0, .int .i64 0], .int .i64 1]) (by simp [results, Try.results13, go_sem, h2.1, h2.2]) rfl ⟨rfl, by (repeat (first | exact Below.refl _ _ | assumption | refine bchain (by assumption) ?_ | refine balloc ?_ _ | apply Below.drew | apply below_drewN | (refine Below.alloc ?_ (by (try simp) <;> omega) _) | (refine Below.setCell ?_ (by (try simp) <;> omega) _)))⟩
set_option maxHeartbeats 2000000 in
theorem ssf_ok (v : Value) (fs : List (Int × Int)) (hSl : SlG w v fs) (hV : Vl fs) :
    Calls Try.prog 13 #[v] w fun r w' => r = .returned (lv (sumTo fs fs.length)) ∧ Below w.heap.size w w' := by
  have hm : fs.length ≤ 1048576 := by have := hV.1; omega
  have hCv := Lib.hid (fun W (hW : SlG W v fs) => svl_t W v fs hW hV)
  have hP := Lib.hid (fun W k s (hk : k < fs.length) (hs : sumTo fs k = some s) => splus_any W s (gAt fs k) (sumTo_vp hV.2 k s (by omega) hs) (hV.2 k hk))
  have hW := Lib.hid (fun W => zero_any W)
  obtain ⟨a, cap, rfl, hc⟩ := hSl.lies
  replace hSl := Lib.hid hSl
  obtain ⟨n, hn⟩ : ∃ n, n = fs.length := ⟨_, rfl⟩
  rw [← hn] at hm hP hCv hSl ⊢
  replace hc := Lib.hid hc
  replace hn := Lib.hid hn
  clear hV
  go_enter Try.func13, Try.ntmps13
  go_wp2_with fail
  refine (hCv.out _ (hSl.out.below (by (repeat (first | exact Below.refl _ _ | assumption | refine bchain (by assumption) ?_ | refine balloc ?_ _ | apply Below.drew | apply below_drewN | (refine Below.alloc ?_ (by (try simp) <;> omega) _) | (refine Below.setCell ?_ (by (try simp) <;> omega) _)))))).mono ?_
  rintro r0 w0 ⟨rfl, hb0⟩
  go_wp2_with fail
  refine (hW.out _).mono ?_
  rintro r1 w1 ⟨rfl, hb1⟩
  have hA : SumAt w (w1.alloc (.cells #[.int .i64 0, .int .i64 1] 25)) w1.heap.size (0, 1) := by
    have hs0 := hb0.size
    have hs := hb1.size
    simp at hs0 hs
    refine ⟨by simp [go_sem], by simp [go_sem], fun o => by simp, by simp, ?_, ?_, ?_, by omega, by (repeat (first | exact Below.refl _ _ | assumption | refine bchain (by assumption) ?_ | refine balloc ?_ _ | apply Below.drew | apply below_drewN | (refine Below.alloc ?_ (by (try simp) <;> omega) _) | (refine Below.setCell ?_ (by (try simp) <;> omega) _)))⟩
    · exact (World.cell?_alloc_lt _ _ _ (by show w.heap.size < _; omega)).trans ((keepAll hb1 _ _ (by omega)).trans ((keepAll hb0 _ _ (by simp)).trans (by simp [go_sem])))
    · exact (World.cell?_alloc_lt _ _ _ (by show w.heap.size < _; omega)).trans ((keepAll hb1 _ _ (by omega)).trans ((keepAll hb0 _ _ (by simp)).trans (by simp [go_sem])))
    · intro o
      have h0 := keepFz hb0 w.heap.size o (by simp)
      have h1 := keepFz hb1 w.heap.size o (by omega)
      have h2 := keepFz (balloc (Below.refl _ w1) (.cells #[.int .i64 0, .int .i64 1] 25)) w.heap.size o (by omega)
      exact h2.trans (h1.trans (h0.trans (by simp)))
  replace hA := Lib.hid hA
  go_wp2
  go_loopw [5, 6, 7] (fun i _ _ wr => ∃ (k : Nat) (s : Int × Int), k ≤ n ∧ i = .int .i64 k ∧ sumTo fs k = some s ∧ SumAt w wr w1.heap.size s) (fun i _ _ _ => n - (intOf i).toNat)
  case atStart => exact ⟨0, (0, 1), by omega, rfl, rfl, hA.out⟩
  case round =>
    obtain ⟨k, s, hk, rfl, hs, hS⟩ := hrel
    clear hA hb1 hb0
    by_cases hlt : k < n
    · obtain ⟨b, off, rfl, hb, hg⟩ := hc.out k (by have := hn.out; omega)
      have hC := Lib.hid (fun W => hP.out W k s hlt hs)
      have hN : ∀ x, addF s (gAt fs k) = x → sumTo fs (k + 1) = x := fun x hx => by rw [sumTo, hs]; exact hx
      obtain ⟨x, y, hxy⟩ : ∃ x y, gAt fs k = (x, y) := ⟨_, _, rfl⟩
      have hB := hS.2.2.2.2.2.2.2.2
      have hsz := hS.2.2.2.1
      have s0 : wr.cell? ⟨b, off + k * 2, none⟩ = some (.int .i64 x) := by rw [hB.cell (p := ⟨b, _, none⟩) hb, hg.1, hxy]
      have s1 : wr.cell? ⟨b, off + k * 2 + 1, none⟩ = some (.int .i64 y) := by rw [hB.cell (p := ⟨b, _, none⟩) hb, hg.2, hxy]
      have hbw : b < wr.heap.size := Nat.lt_of_lt_of_le hb hB.size
      obtain ⟨o, ho⟩ : ∃ o, addF s (gAt fs k) = o := ⟨_, rfl⟩
      have hN2 := hN o ho
      rw [ho] at hC
      rw [hxy] at hC
      obtain ⟨p, q⟩ := s
      have t0 := hS.1
      have t1 := hS.2.1
      unfold fv at hC
      dsimp only at hC t0 t1
      have hkn : (k : Int) < (n : Int) := by omega
      have hkn0 : (0 : Int) ≤ (k : Int) := by omega
      obtain ⟨r1, r2, c, hl⟩ := lv_form o
      rw [hl] at hC
      replace hl := Lib.hid hl
      replace hS := Lib.hid hS
      clear hN hxy hg ho hs hB
      have hA0 : ∀ (c : Array Value) (t : TypeId) (i : Nat), (wr.drew.alloc (.cells c t)).cell? ⟨wr.heap.size, i, none⟩ = c[i]? := fun c t i => World.cell?_alloc_new wr.drew c t i
      have hF0 : ∀ (c : Array Value) (t : TypeId) (i : Nat), (wr.drew.alloc (.cells c t)).frozen? ⟨wr.heap.size, i, none⟩ = false := fun c t i => by
        have := (show ∀ W : World, (W.alloc (.cells c t)).frozen? ⟨W.heap.size, i, none⟩ = false from fun W => by simp) wr.drew
        exact this
      go_upto_region 7 with fail
      go_cut [6, 7] from 13 to 32 (fun s6 s7 wx => ∃ D : Nat, s6 = .pointer (some ⟨D, 0, none⟩) ∧ s7 = .int .i64 c ∧ wr.heap.size ≤ D ∧ D < wx.heap.size ∧ wx.cell? ⟨D, 0, none⟩ = some (.int .i64 r1) ∧ wx.cell? ⟨D, 1, none⟩ = some (.int .i64 r2) ∧ Below wr.heap.size wr wx)
      case first =>
        go_region_held3 (fun W => W.cell? ⟨w1.heap.size, 0, none⟩ = some (.int .i64 p) ∧ W.cell? ⟨w1.heap.size, 1, none⟩ = some (.int .i64 q) ∧ W.cell? ⟨b, off + k * 2, none⟩ = some (.int .i64 x) ∧ W.cell? ⟨b, off + k * 2 + 1, none⟩ = some (.int .i64 y))
          (exact ⟨old_cell hsz t0 (by (repeat (first | exact Below.refl _ _ | assumption | refine bchain (by assumption) ?_ | refine balloc ?_ _ | apply Below.drew | apply below_drewN | (refine Below.alloc ?_ (by (try simp) <;> omega) _) | (refine Below.setCell ?_ (by (try simp) <;> omega) _)))), old_cell hsz t1 (by (repeat (first | exact Below.refl _ _ | assumption | refine bchain (by assumption) ?_ | refine balloc ?_ _ | apply Below.drew | apply below_drewN | (refine Below.alloc ?_ (by (try simp) <;> omega) _) | (refine Below.setCell ?_ (by (try simp) <;> omega) _)))), old_cell hbw s0 (by (repeat (first | exact Below.refl _ _ | assumption | refine bchain (by assumption) ?_ | refine balloc ?_ _ | apply Below.drew | apply below_drewN | (refine Below.alloc ?_ (by (try simp) <;> omega) _) | (refine Below.setCell ?_ (by (try simp) <;> omega) _)))), old_cell hbw s1 (by (repeat (first | exact Below.refl _ _ | assumption | refine bchain (by assumption) ?_ | refine balloc ?_ _ | apply Below.drew | apply below_drewN | (refine Below.alloc ?_ (by (try simp) <;> omega) _) | (refine Below.setCell ?_ (by (try simp) <;> omega) _))))⟩)
          (first | (go_at_call 43; refine (hC.out _).mono ?_; rintro r w3 ⟨rfl, hb3⟩; have hk3 := keepAll hb3; have hf3 := keepFz hb3; have hz3 := keepLt hb3; have hs3 := hb3.size; try (simp at hs3); try (rw [Nat.add_one_le_iff] at hs3)))
        all_goals (go_wp2_with fail; go_meet; exact ⟨_, rfl, rfl, by (try simp) <;> omega, by (try simp) <;> omega, by first | (simp; done) | exact (twoCells (a := .int .i64 0) (b := .int .i64 0) (by simp [*]) (by simp [*]) _ _).1, by first | (simp; done) | exact (twoCells (a := .int .i64 0) (b := .int .i64 0) (by simp [*]) (by simp [*]) _ _).2, by (repeat (first | exact Below.refl _ _ | assumption | refine bchain (by assumption) ?_ | refine balloc ?_ _ | apply Below.drew | apply below_drewN | (refine Below.alloc ?_ (by (try simp) <;> omega) _) | (refine Below.setCell ?_ (by (try simp) <;> omega) _)))⟩)
      case rest =>
        obtain ⟨D, rfl, rfl, hD0, hD1, d0, d1, hBr⟩ := hcut
        have hS2 := hS.out.below hBr
        cases o with
        | none =>
          have hl2 := hl.out
          unfold lv at hl2
          simp only [Value.tuple.injEq, Array.mk.injEq, List.cons.injEq, Value.agg.injEq, Value.int.injEq, true_and, and_true] at hl2
          obtain ⟨⟨rfl, rfl⟩, rfl⟩ := hl2
          obtain ⟨h0, h1, h2, h3, h4, h5, h6, h7, h8⟩ := hS2
          have ht := twoCells h4 h5 (.int .i64 0) (.int .i64 0)
          go_wp2
          rw [sumTo_none hN2 n (by omega)]
          exact bodyPost_ret (v := .tuple #[.agg #[.int .i64 0, .int .i64 0], .int .i64 3]) (by simp [results, Try.results13, go_sem, ht.1, ht.2]) rfl ⟨rfl, by (repeat (first | exact Below.refl _ _ | assumption | refine bchain (by assumption) ?_ | refine balloc ?_ _ | apply Below.drew | apply below_drewN | (refine Below.alloc ?_ (by (try simp) <;> omega) _) | (refine Below.setCell ?_ (by (try simp) <;> omega) _)))⟩
        | some z =>
          obtain ⟨z1, z2⟩ := z
          have hl2 := hl.out
          unfold lv fv at hl2
          simp only [Value.tuple.injEq, Array.mk.injEq, List.cons.injEq, Value.agg.injEq, Value.int.injEq, true_and, and_true] at hl2
          obtain ⟨⟨rfl, rfl⟩, rfl⟩ := hl2
          have g0 := hS2.1
          have g1 := hS2.2.1
          have g2 := hS2.2.2.1
          have hst := Lib.hid (hS2.store (z1, z2))
          dsimp only at g0 g1
          clear hS2 hl
          go_wp2
          go_roundw
          case rel => exact ⟨k + 1, (z1, z2), by omega, by go_num, hN2, hst.out⟩
          case measure => simp [intOf]; omega
    · have hd := decide_eq_false (show ¬ ((k : Int) < (n : Int)) by omega)
      obtain rfl : k = n := by omega
      obtain ⟨p, q⟩ := s
      obtain ⟨h0, h1, h2, h3, h4, h5, h6, h7, h8⟩ := hS
      dsimp only at h0 h1
      have ht := twoCells h4 h5 (.int .i64 p) (.int .i64 q)
      go_wp2
      rw [hs]
      exact bodyPost_ret (v := .tuple #[.agg #[.int .i64 p, .int .i64 q], .int .i64 0]) (by simp [results, Try.results13, go_sem, ht.1, ht.2]) rfl ⟨rfl, by (repeat (first | exact Below.refl _ _ | assumption | refine bchain (by assumption) ?_ | refine balloc ?_ _ | apply Below.drew | apply below_drewN | (refine Below.alloc ?_ (by (try simp) <;> omega) _) | (refine Below.setCell ?_ (by (try simp) <;> omega) _)))⟩
theorem sum_both (fs : List (Int × Int)) (hm : fs.length ≤ 1048576) : ∃ (x y c : Int),
    (∀ W v, SlG W v fs → Calls Try.prog 13 #[v] W fun r w' => r = .returned (.tuple #[.agg #[.int .i64 x, .int .i64 y], .int .i64 c]) ∧ Below W.heap.size W w') ∧
    (∀ W v, SlG W v fs → Calls Try.prog 15 #[v] W fun r w' => r = .returned (.tuple #[.agg #[.int .i64 x, .int .i64 y], .int .i64 c]) ∧ Below W.heap.size W w') := by
  by_cases hV : Vl fs
  · have h1 := fun W v (h : SlG W v fs) => ssf_ok W v fs h hV
    have h2 := fun W v (h : SlG W v fs) => isf_ok W v fs h hV
    obtain ⟨r1, r2, c, hl⟩ := lv_form (sumTo fs fs.length)
    rw [hl] at h1 h2
    exact ⟨r1, r2, c, h1, h2⟩
  · exact ⟨0, 0, 1, fun W v h => ssf_bad W v fs h hm hV, fun W v h => isf_bad W v fs h hm hV⟩
end
end Go.Proofs.Ytonjmoiognbjbab
