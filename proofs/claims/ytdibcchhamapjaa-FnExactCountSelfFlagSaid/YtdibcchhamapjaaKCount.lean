/-
  CONTRACTS OF CountSelfFlag: the program's and the model's.
-/
import Derived.Test.YtdibcchhamapjaaKKept
import Derived.Test.YtdibcchhamapjaaKSLeast
import Derived.Test.YtdibcchhamapjaaKEq
import Derived.Deep.RegionHeld3
namespace Go.Proofs.Ytdibcchhamapjaa
open Go.RowKit Go.Shelf
set_option maxRecDepth 100000

/-- how many of the lists make the graph itself -/
def selfP (e : Nat) (x : List Nat) : Bool := onL e x == e
def cK (e : Nat) (pre : List (List Nat)) : Nat := (pre.filter (selfP e)).length
theorem cK_snoc (e : Nat) (pre : List (List Nat)) (x : List Nat) : cK e (pre ++ [x]) = cK e pre + if selfP e x then 1 else 0 := by
  unfold cK
  cases h : selfP e x
  · rw [kept_f h]; simp
  · rw [kept_t h]; simp
theorem cK_le (e : Nat) (pre : List (List Nat)) : cK e pre ≤ pre.length := List.length_filter_le _ _
theorem listsK_len : ∀ n, n ≤ 5 → (lists n n).length ≤ 120 := by decide +kernel
section
variable (w : World)
theorem clo_any (k n e y Fc : Nat) (hF : FC w Fc k n e) (b : Bool) (hb : (y == e) = b) :
    Calls Try.prog 60 #[.agg #[.int .i64 k, .int .i64 n, .int .u32 y], .pointer (some ⟨Fc, 0, none⟩)] w fun r w' => r = .returned (.bool b) ∧ Below w.heap.size w w' := by
  obtain ⟨q0, q1, q2, q3⟩ := hF
  have hq := fun W => eqFl W k k n n y e
  have he : ((k : Int) == k && ((n : Int) == n && (y : Int) == e)) = b := by
    rw [← hb, Bool.eq_iff_iff]; simp; omega
  rw [he] at hq
  clear hb he
  go_enter Try.func60, Try.ntmps60
  go_wp2
  go_ret
  exact ⟨rfl, by (repeat (first | exact Below.refl _ _ | assumption | refine bchain (by assumption) ?_ | refine balloc ?_ _ | apply Below.drew | apply below_drewN | (refine Below.alloc ?_ (by (try simp) <;> omega) _) | (refine Below.setCell ?_ (by (try simp) <;> omega) _)))⟩
theorem ick_inv (k n e : Int) (hn : e < 4294967296) (he0 : 0 ≤ e) (h : ¬ VK k n e) :
    Calls Try.prog 35 #[.agg #[.int .i64 k, .int .i64 n, .int .u32 e]] w fun r w' => r = .returned (.tuple #[.int .i64 0, .int .i64 1]) ∧ Below w.heap.size w w' := by
  go_enter Try.func35, Try.ntmps35
  go_wp2_with fail
  refine (ivk_f _ k n e hn he0 h).mono ?_
  rintro r1 w1 ⟨rfl, hb1⟩
  go_wp2
  go_ret2
  exact ⟨rfl, by (repeat (first | exact Below.refl _ _ | assumption | refine bchain (by assumption) ?_ | refine balloc ?_ _ | apply Below.drew | apply below_drewN | (refine Below.alloc ?_ (by (try simp) <;> omega) _) | (refine Below.setCell ?_ (by (try simp) <;> omega) _)))⟩
theorem sck_inv (k n e : Int) (hn : e < 4294967296) (he0 : 0 ≤ e) (h : ¬ VK k n e) :
    Calls Try.prog 34 #[.agg #[.int .i64 k, .int .i64 n, .int .u32 e]] w fun r w' => r = .returned (.tuple #[.int .i64 0, .int .i64 1]) ∧ Below w.heap.size w w' := by
  go_enter Try.func34, Try.ntmps34
  go_wp2_with fail
  refine (sok_f _ k n e hn he0 h).mono ?_
  rintro r1 w1 ⟨rfl, hb1⟩
  go_wp2
  go_ret2
  exact ⟨rfl, by (repeat (first | exact Below.refl _ _ | assumption | refine bchain (by assumption) ?_ | refine balloc ?_ _ | apply Below.drew | apply below_drewN | (refine Below.alloc ?_ (by (try simp) <;> omega) _) | (refine Below.setCell ?_ (by (try simp) <;> omega) _)))⟩
set_option maxHeartbeats 1000000 in
theorem ick_ok (k n e : Nat) (h : VK k n e) :
    Calls Try.prog 35 #[.agg #[.int .i64 k, .int .i64 n, .int .u32 e]] w fun r w' => r = .returned (.tuple #[.int .i64 (cK e (turns n k) : Nat), .int .i64 0]) ∧ Below w.heap.size w w' := by
  obtain ⟨c, hc⟩ : ∃ c, cK e (turns n k) = c := ⟨_, rfl⟩
  have hK := fun (W : World) (Fb Fc : Nat) (hFb : FC W Fb k n e) (hFc : FC W Fc k n e) => kept_any W k n e Fb h hFb 60 #[.pointer (some ⟨Fc, 0, none⟩)] (enters_of Try.func60 (by kernel_rfl) rfl) (selfP e)
    (fun W' x _ hb => clo_any W' k n e (onL e x) Fc (hFc.below hb) (selfP e x) rfl)
  rw [show ((turns n k).filter (selfP e)).length = c from hc] at hK
  replace hK := Lib.hid hK
  rw [hc]
  clear hc
  have hF0 := FC.made w k n e 30
  go_enter Try.func35, Try.ntmps35
  go_wp2_with fail
  refine (ivk_t _ k n e h).mono ?_
  rintro r1 w1 ⟨rfl, hb1⟩
  obtain ⟨hc1_0, hz1_0⟩ := bkeep hb1 (w.heap.size) (by (try simp) <;> omega)
  have hF1 := hF0.below hb1
  go_wp2_with fail
  refine (to_any _ k n e).mono ?_
  rintro r2 w2 ⟨B, rfl, hB2, hFB, hb2⟩
  have hF2 := hF1.below hb2
  go_wp2_with fail
  refine (hK.out _ _ _ hFB hF2).mono ?_
  rintro r3 w3 ⟨⟨u, rfl, hown⟩, hb3⟩
  have hbw : Below w.heap.size w w3 := by (repeat (first | exact Below.refl _ _ | assumption | refine bchain (by assumption) ?_ | refine balloc ?_ _ | apply Below.drew | apply below_drewN | (refine Below.alloc ?_ (by (try simp) <;> omega) _) | (refine Below.setCell ?_ (by (try simp) <;> omega) _)))
  clear hF0 hF1 hF2 hFB hb1 hb2 hb3
  rcases hown.2 with ⟨rfl, rfl⟩ | ⟨g, cap, cur, rfl, _⟩
  all_goals go_wp2
  all_goals go_ret2
  all_goals exact ⟨rfl, hbw⟩

set_option maxHeartbeats 4000000 in
theorem sck_ok (k n e : Nat) (h : VK k n e) :
    Calls Try.prog 34 #[.agg #[.int .i64 k, .int .i64 n, .int .u32 e]] w fun r w' => r = .returned (.tuple #[.int .i64 (cK e (turns n k) : Nat), .int .i64 0]) ∧ Below w.heap.size w w' := by
  obtain ⟨he, hn5, hk3, hkn⟩ := h.nums
  obtain ⟨m, hm⟩ : ∃ m, n - k = m := ⟨_, rfl⟩
  have hsub : ((n : Int) - (k : Int)) = (m : Int) := by omega
  have hend0 : cK e ((lists m m).map (ordK k)) = cK e (turns n k) := by rw [turns_map n hn5 k hk3 hkn, hm]
  have hokm : ∀ y ∈ lists m m, okList n n (ordK k y) = true := fun y hy => turns_ok hn5 hk3 hkn (by rw [turns_map n hn5 k hk3 hkn, hm]; exact List.mem_map_of_mem hy)
  have hF0 := FC.made w k n e 30
  go_enter Try.func34, Try.ntmps34
  go_wp2_with fail
  refine (sok_t _ k n e h).mono ?_
  rintro r1 w1 ⟨rfl, hb1⟩
  obtain ⟨hc1_0, hz1_0⟩ := bkeep hb1 (w.heap.size) (by (try simp) <;> omega)
  have hF1 := hF0.below hb1
  go_wp2_with fail
  refine (first_any _ m (by omega)).mono ?_
  rintro r2 w2 ⟨⟨v, rfl, hO⟩, hb2⟩
  have hF2 := hF1.below hb2
  have hB1 : Below w.heap.size w w1 := by (repeat (first | exact Below.refl _ _ | assumption | refine bchain (by assumption) ?_ | refine balloc ?_ _ | apply Below.drew | apply below_drewN | (refine Below.alloc ?_ (by (try simp) <;> omega) _) | (refine Below.setCell ?_ (by (try simp) <;> omega) _)))
  have hB2 : Below w.heap.size w w2 := hB1.trans (hb2.mono (by omega))
  obtain ⟨G, hG⟩ : ∃ G, w.heap.size = G := ⟨_, rfl⟩
  rw [hG] at hF1 hF2 hB2 hz1_0 hc1_0
  have hs0 := Lib.hid (⟨hF2, hB2⟩ : FC w2 G k n e ∧ Below G w w2)
  replace hO := Lib.hid (hO.congr (fun i hi => lf_range m i hi))
  rw [hG]
  clear hB1 hB2 hF1 hF2 hF0 hb2 hc1_0 hb1
  replace hG := Lib.hid hG
  replace hend0 := Lib.hid hend0
  replace hokm := Lib.hid hokm
  have hm5 : m ≤ 5 := by omega
  replace hm := Lib.hid hm
  replace h := Lib.hid h
  go_wp2_with fail
  go_loopg [4, 6] ((lists m m).length) (fun c q s wr => SlHead w1 v m m (fun pre W => q = .int .i64 (cK e (pre.map (ordK k)) : Nat) ∧ FC W G k n e ∧ Below G w W) c s wr)
  case atStart =>
    have hf := lists_first m hm5 m (Nat.le_refl _)
    exact .inl ⟨0, _, (List.getElem?_eq_some_iff.1 hf).1, by omega, rfl, hf, hO.out, rfl, hs0.out⟩
  case round =>
    rcases hrel with ⟨j, x, hj, hc, rfl, hx, hOx, rfl, hFx, hBx⟩ | ⟨hc, rfl, rfl, hFx, hBx⟩
    · have hokx := lists_ok hm5 hm5 (x := x) (List.mem_of_getElem? hx)
      have hok := hokm.out x (List.mem_of_getElem? hx)
      have hst := lists_step hm5 (Nat.le_refl _) hj hx
      have hxm := ok_length hokx
      have hOr := Lib.hid (fun W (hW : Below wr.heap.size wr W) => order_any W k m x v ((hOx.below hW).see hxm) hxm (by omega) hm5 (fun i hi => by have := ok_lt hokx hi; omega))
      have hOn := Lib.hid (fun W u (hs : See (ordK k x) u W) => sonL_any W u (ordK k x) n n e hs hn5 (by omega) hok)
      have hol : (ordK k x).length = k + m := by simp [ordK, hxm]
      have hkl : cK e (((lists m m).take j).map (ordK k)) < 1000 := by
        have h1 := cK_le e (((lists m m).take j).map (ordK k))
        have h2 := listsK_len m hm5
        rw [List.length_map, List.length_take] at h1
        omega
      have hq := fun W => eqGrK W n n (onL e (ordK k x)) e
      have hbe : ((n : Int) == n && (onL e (ordK k x) : Int) == (e : Int)) = selfP e (ordK k x) := by
        unfold selfP
        rw [Bool.eq_iff_iff]; simp; omega
      rw [hbe] at hq
      have hnx : cK e (((lists m m).take (j + 1)).map (ordK k)) = cK e (((lists m m).take j).map (ordK k)) + if selfP e (ordK k x) then 1 else 0 := by rw [take_snoc' hx, List.map_append, List.map_cons, List.map_nil, cK_snoc]
      obtain ⟨ok, hok2⟩ : ∃ ok, selfP e (ordK k x) = ok := ⟨_, rfl⟩
      rw [hok2] at hq hnx
      obtain ⟨y, hy⟩ : ∃ y, onL e (ordK k x) = y := ⟨_, rfl⟩
      obtain ⟨z, hz⟩ : ∃ z, cK e (((lists m m).take j).map (ordK k)) = z := ⟨_, rfl⟩
      rw [hy] at hOn hq
      rw [hz] at hnx hkl ⊢
      clear hy hz hbe hok2
      have hend : ∀ (e4 : Ending) (W w4 : World), NextAt m m w1 v x W e4 w4 → FC W G k n e → Below G w W →
          ∃ ok2 : Bool, e4 = .returned (.bool ok2) ∧ Hid (∃ c', c' < gk ∧ SlHead w1 v m m (fun pre W => (Value.int .i64 ((z : Int) + if ok then 1 else 0)) = .int .i64 (cK e (pre.map (ordK k)) : Nat) ∧ FC W G k n e ∧ Below G w W) c' (.bool ok2) w4) := fun e4 W w4 hN hFW hBW => by
        have hcv : (Value.int .i64 ((z : Int) + if ok then 1 else 0)) = .int .i64 (cK e (((lists m m).take (j + 1)).map (ordK k)) : Nat) := by rw [hnx]; cases ok <;> simp
        rcases hN with ⟨x', hy, he4, hyk, hOy, hbN⟩ | ⟨hy, he4, hbN⟩
        · rw [hst] at hy
          have hj1 := (List.getElem?_eq_some_iff.1 hy).1
          exact ⟨true, he4, (lists m m).length - (j + 1), by omega, .inl ⟨j + 1, x', hj1, rfl, rfl, hy, hOy, hcv, hFW.under hbN hz1_0, hBW.trans (hbN.mono (by omega))⟩⟩
        · rw [hst] at hy
          have hj1 : (lists m m).length ≤ j + 1 := by simpa using hy
          rw [List.take_of_length_le hj1] at hcv
          exact ⟨false, he4, 0, by omega, .inr ⟨rfl, rfl, hcv, hFW.under hbN hz1_0, hBW.trans (hbN.mono (by omega))⟩⟩
      replace hend := Lib.hid hend
      replace hx := Lib.hid hx
      replace hst := Lib.hid hst
      replace hnx := Lib.hid hnx
      replace hOx := Lib.hid hOx
      replace hc := Lib.hid hc
      replace hok := Lib.hid hok
      replace hokx := Lib.hid hokx
      replace hol := Lib.hid hol
      replace hxm := Lib.hid hxm
      obtain ⟨f0, f1, f2, f3⟩ := id hFx
      replace hFx := Lib.hid hFx
      cases ok
      all_goals
        simp only [if_true, if_false, Bool.false_eq_true, Int.add_zero] at hend
        go_wp2_with fail
        go_region_held3 (fun A => A.cell? ⟨G, 0, none⟩ = some (.int .i64 k) ∧ A.cell? ⟨G, 1, none⟩ = some (.int .i64 n) ∧ A.cell? ⟨G, 2, none⟩ = some (.int .u32 e))
          (exact ⟨old_cell f0 f1 (by (repeat (first | exact Below.refl _ _ | assumption | refine bchain (by assumption) ?_ | refine balloc ?_ _ | apply Below.drew | apply below_drewN | (refine Below.alloc ?_ (by (try simp) <;> omega) _) | (refine Below.setCell ?_ (by (try simp) <;> omega) _)))), old_cell f0 f2 (by (repeat (first | exact Below.refl _ _ | assumption | refine bchain (by assumption) ?_ | refine balloc ?_ _ | apply Below.drew | apply below_drewN | (refine Below.alloc ?_ (by (try simp) <;> omega) _) | (refine Below.setCell ?_ (by (try simp) <;> omega) _)))), old_cell f0 f3 (by (repeat (first | exact Below.refl _ _ | assumption | refine bchain (by assumption) ?_ | refine balloc ?_ _ | apply Below.drew | apply below_drewN | (refine Below.alloc ?_ (by (try simp) <;> omega) _) | (refine Below.setCell ?_ (by (try simp) <;> omega) _))))⟩)
          (first
          | (go_at_call 57; refine (hOr.out _ (by (repeat (first | exact Below.refl _ _ | assumption | refine bchain (by assumption) ?_ | refine balloc ?_ _ | apply Below.drew | apply below_drewN | (refine Below.alloc ?_ (by (try simp) <;> omega) _) | (refine Below.setCell ?_ (by (try simp) <;> omega) _))))).mono ?_; rintro r3 w3 ⟨⟨u, rfl, hOu⟩, hb3⟩; replace hOu := Lib.hid (hOu.see hol.out))
          | (go_at_call 56; refine (hOn.out _ _ (See.below _ _ _ _ hOu.out (by (repeat (first | exact Below.refl _ _ | assumption | refine bchain (by assumption) ?_ | refine balloc ?_ _ | apply Below.drew | apply below_drewN | (refine Below.alloc ?_ (by (try simp) <;> omega) _) | (refine Below.setCell ?_ (by (try simp) <;> omega) _)))))).mono ?_; rintro r4 w4 ⟨rfl, hb4⟩))
        all_goals
          have hb34 : Below wr.heap.size wr w4 := by (repeat (first | exact Below.refl _ _ | assumption | refine bchain (by assumption) ?_ | refine balloc ?_ _ | apply Below.drew | apply below_drewN | (refine Below.alloc ?_ (by (try simp) <;> omega) _) | (refine Below.setCell ?_ (by (try simp) <;> omega) _)))
          have hOw := Lib.hid (hOx.out.below hb34)
          have hFw := hFx.out.below hb34
          have hBw : Below G w w4 := hBx.trans (hb34.mono (by omega))
          obtain ⟨d0, d1, d2, d3⟩ := id hFw
          replace hFw := Lib.hid hFw
          clear f1 f2 f3 hb3 hb4 hb34
          go_wp2_with fail
          refine (next_any _ w1 v m m x hOw.out hm5 hm5 hokx.out).mono ?_
          rintro r5 w5 hN
          obtain ⟨ok2, rfl, hE⟩ := hend.out r5 _ w5 hN hFw.out hBw
          clear hN
          go_wp2
          obtain ⟨c', hc1, hc2⟩ := hE.out
          go_roundg c'
          case measure => exact hc1
          case rel => exact hc2
    · rw [hend0.out]
      obtain ⟨y, hy⟩ : ∃ y : Nat, cK e (turns n k) = y := ⟨_, rfl⟩
      rw [hy]
      replace hy := Lib.hid hy
      clear hFx
      go_wp2
      go_ret2
      exact ⟨by rw [hy.out]; rfl, by rw [hG.out]; exact hBx⟩
end
theorem ck_both (k n e : Int) (hn : e < 4294967296) (he0 : 0 ≤ e) : ∃ (b c : Int),
    (∀ W, Calls Try.prog 34 #[.agg #[.int .i64 k, .int .i64 n, .int .u32 e]] W fun r w' => r = .returned (.tuple #[.int .i64 b, .int .i64 c]) ∧ Below W.heap.size W w') ∧
    (∀ W, Calls Try.prog 35 #[.agg #[.int .i64 k, .int .i64 n, .int .u32 e]] W fun r w' => r = .returned (.tuple #[.int .i64 b, .int .i64 c]) ∧ Below W.heap.size W w') := by
  by_cases h : VK k n e
  · obtain ⟨k', rfl⟩ : ∃ x : Nat, k = x := ⟨k.toNat, by have := h.2.1; omega⟩
    obtain ⟨n', rfl⟩ : ∃ x : Nat, n = x := ⟨n.toNat, by have := h.1.1; omega⟩
    obtain ⟨e', rfl⟩ : ∃ x : Nat, e = x := ⟨e.toNat, by omega⟩
    exact ⟨_, _, fun W => sck_ok W k' n' e' h, fun W => ick_ok W k' n' e' h⟩
  · exact ⟨_, _, fun W => sck_inv W k n e hn he0 h, fun W => ick_inv W k n e hn he0 h⟩
end Go.Proofs.Ytdibcchhamapjaa
