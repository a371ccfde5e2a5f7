/-
  THE LEAST FLAG THAT IS ALIKE: the model's contract.
-/
import Derived.Test.YtiedombphcdpbaaDoorKOrder
import Derived.Test.YtiedombphcdpbaaDoorKLeast
import Derived.Deep.LoopGhost
namespace Go.Proofs.YtiedombphcdpbaaDoor
open Go.RowKit Go.Shelf
set_option maxRecDepth 100000

/-- all old blocks behind a call that only makes new ones: as rules for 'simp' -/
theorem keepAll {W W1 : World} (hb : Below W.heap.size W W1) (b o : Nat) (h : b < W.heap.size) : W1.cell? ⟨b, o, none⟩ = W.cell? ⟨b, o, none⟩ := (bkeep hb b h).1 o
theorem keepFz {W W1 : World} (hb : Below W.heap.size W W1) (b o : Nat) (h : b < W.heap.size) : W1.frozen? ⟨b, o, none⟩ = W.frozen? ⟨b, o, none⟩ := bkeepz hb b h o
theorem keepLt {W W1 : World} (hb : Below W.heap.size W W1) (b : Nat) (h : b < W.heap.size) : b < W1.heap.size := (bkeep hb b h).2
theorem turns_map : ∀ n, n ≤ 5 → ∀ k, k ≤ 3 → k ≤ n → turns n k = (lists (n - k) (n - k)).map (ordK k) := by decide +kernel
theorem PK.put {W : World} {G : Nat} {k n acc : Int} (h : PK W G k n acc) (x : Int) : PK ((W.setCell ⟨G + 2, 1, none⟩ (.int .i64 n)).setCell ⟨G + 2, 2, none⟩ (.int .u32 x)) G k n x where
  r := (h.r.other _ (by show G + 2 ≠ G + 1; omega)).other _ (by show G + 2 ≠ G + 1; omega)
  p := ⟨by have := h.p.lt; simpa using this, (World.cell?_setCell_other _ _ _ _ (by simp)).trans ((World.cell?_setCell_other _ _ _ _ (by simp)).trans h.p.c0), (World.cell?_setCell_other _ _ _ _ (by simp)).trans (World.cell?_setCell_same _ _ _ h.p.c1),
    World.cell?_setCell_same _ _ _ ((World.cell?_setCell_other _ _ _ _ (by simp)).trans h.p.c2)⟩
  fr := fun i => by rw [World.frozen?_setCell, World.frozen?_setCell]; exact h.fr i
  fp := fun i => by rw [World.frozen?_setCell, World.frozen?_setCell]; exact h.fp i

set_option maxHeartbeats 4000000 in
theorem sleastK_any (w : World) (k n e : Nat) (h : VK k n e) :
    Calls Tryd.prog 72 #[.agg #[.int .i64 k, .int .i64 n, .int .u32 e]] w fun r w' => r = .returned (.agg #[.int .i64 k, .int .i64 n, .int .u32 (leastK n k e : Nat)]) ∧ Below w.heap.size w w' := by
  obtain ⟨he, hn5, hk3, hkn⟩ := h.nums
  obtain ⟨m, hm⟩ : ∃ m, n - k = m := ⟨_, rfl⟩
  have hsub : ((n : Int) - (k : Int)) = (m : Int) := by omega
  go_enter Tryd.func72, Tryd.ntmps72
  go_wp2_with fail
  refine (first_any _ m (by omega)).mono ?_
  rintro r1 w1 ⟨⟨v, rfl, hO⟩, hb1⟩
  have hP := PK.begin w k n e k n e 92
  have s1 : ∀ (W : World) (o : Obj), (W.alloc o).heap.size = W.heap.size + 1 := fun W o => by simp
  have hF0 := ((FC.made w k n e 92).below ((Below.refl _ _).alloc (Nat.le_refl _) (.cells #[.int .i64 0, .int .i64 0, .int .u32 0] 92))).below ((Below.refl _ _).alloc (Nat.le_refl _) (.cells #[.int .i64 (k : Int), .int .i64 (n : Int), .int .u32 (e : Int)] 92))
  have hB0 : Below w.heap.size w (((w.alloc (.cells #[.int .i64 (k : Int), .int .i64 (n : Int), .int .u32 (e : Int)] 92)).alloc (.cells #[.int .i64 0, .int .i64 0, .int .u32 0] 92)).alloc (.cells #[.int .i64 (k : Int), .int .i64 (n : Int), .int .u32 (e : Int)] 92)) := by (repeat (first | exact Below.refl _ _ | assumption | refine bchain (by assumption) ?_ | refine balloc ?_ _ | apply Below.drew | apply below_drewN | (refine Below.alloc ?_ (by (try simp) <;> omega) _) | (refine Below.setCell ?_ (by (try simp) <;> omega) _)))
  obtain ⟨G, hG⟩ : ∃ G, w.heap.size = G := ⟨_, rfl⟩
  rw [hG] at hP hB0 hF0
  obtain ⟨w0, hw0⟩ : ∃ w0, w0 = (((w.alloc (.cells #[.int .i64 (k : Int), .int .i64 (n : Int), .int .u32 (e : Int)] 92)).alloc (.cells #[.int .i64 0, .int .i64 0, .int .u32 0] 92)).alloc (.cells #[.int .i64 (k : Int), .int .i64 (n : Int), .int .u32 (e : Int)] 92)) := ⟨_, rfl⟩
  rw [← hw0] at hP hO hb1 hB0 hF0
  have hGz : G + 2 < w0.heap.size := hP.p.lt
  have hP1 := Lib.hid (hP.under hb1 hGz)
  have hF1 := Lib.hid (hF0.below hb1)
  have hB1 := Lib.hid (hB0.trans (hb1.mono (by omega)))
  replace hO := Lib.hid (hO.congr (fun i hi => lf_range m i hi))
  have hlm : (lists m m).length = (lists m m).length := rfl
  have hend0 : minE e ((lists m m).map (ordK k)) = leastK n k e := by unfold leastK; rw [turns_map n hn5 k hk3 hkn, hm]
  have hokm : ∀ y ∈ lists m m, okList n n (ordK k y) = true := fun y hy => turns_ok hn5 hk3 hkn (by rw [turns_map n hn5 k hk3 hkn, hm]; exact List.mem_map_of_mem hy)
  rw [hG]
  clear hw0 hP hb1 hB0 hF0 s1 hlm
  replace hG := Lib.hid hG
  replace hend0 := Lib.hid hend0
  replace hokm := Lib.hid hokm
  have hm5 : m ≤ 5 := by omega
  replace hm := Lib.hid hm
  replace h := Lib.hid h
  obtain ⟨T, hT⟩ : ∃ T : List (List Nat) → World → Prop, T = fun pre W => PK W G k n (minE e (pre.map (ordK k)) : Nat) ∧ FC W G k n e ∧ Below G w W := ⟨_, rfl⟩
  go_wp2_with fail
  go_loopg [5] ((lists m m).length) (fun c s wr => SlHead w0 v m m T c s wr)
  case atStart =>
    have hf := lists_first m hm5 m (Nat.le_refl _)
    refine .inl ⟨0, _, (List.getElem?_eq_some_iff.1 hf).1, by omega, rfl, hf, hO.out, ?_⟩
    rw [hT]
    exact ⟨hP1.out, hF1.out, hB1.out⟩
  case round =>
    rcases hrel with ⟨j, x, hj, hc, rfl, hx, hOx, hTx⟩ | ⟨hc, rfl, hTx⟩
    · have hTx' := hTx
      rw [hT] at hTx'
      obtain ⟨hPx, hFx, hBx⟩ := hTx'
      have hokx := lists_ok hm5 hm5 (x := x) (List.mem_of_getElem? hx)
      have hok := hokm.out x (List.mem_of_getElem? hx)
      have hst := lists_step hm5 (Nat.le_refl _) hj hx
      have hxm := ok_length hokx
      have hOr := Lib.hid (fun W (hW : Below wr.heap.size wr W) => order_any W k m x v ((hOx.below hW).see hxm) hxm (by omega) hm5 (fun i hi => by have := ok_lt hokx hi; omega))
      have hOn := Lib.hid (fun W u (hs : See (ordK k x) u W) => sonL_any W u (ordK k x) n n e hs hn5 (by omega) hok)
      have hol : (ordK k x).length = k + m := by simp [ordK, hxm]
      have hle := minE_le e (((lists m m).take j).map (ordK k))
      have hyl := onL_lt e (ordK k x) (by rw [ok_length hok]; exact hn5)
      have hnx : minE e (((lists m m).take (j + 1)).map (ordK k)) = min (minE e (((lists m m).take j).map (ordK k))) (onL e (ordK k x)) := by rw [take_snoc' hx, List.map_append, List.map_cons, List.map_nil, minE_snoc]
      obtain ⟨y, hy⟩ : ∃ y, onL e (ordK k x) = y := ⟨_, rfl⟩
      obtain ⟨z, hz⟩ : ∃ z, minE e (((lists m m).take j).map (ordK k)) = z := ⟨_, rfl⟩
      rw [hy] at hOn hnx hyl
      rw [hz] at hPx hnx hle
      clear hy hz hTx
      obtain ⟨f0, f1, f2, f3⟩ := id hFx
      obtain ⟨p0, p1, p2, p3⟩ := hPx.p
      have pf1 := hPx.fp 1
      have pf2 := hPx.fp 2
      replace hx := Lib.hid hx
      replace hst := Lib.hid hst
      replace hnx := Lib.hid hnx
      replace hPx := Lib.hid hPx
      replace hFx := Lib.hid hFx
      replace hOx := Lib.hid hOx
      replace hc := Lib.hid hc
      replace hok := Lib.hid hok
      replace hokx := Lib.hid hokx
      replace hol := Lib.hid hol
      replace hxm := Lib.hid hxm
      replace hB1 : Below G w w1 := hB1.out
      go_wp2_with fail
      go_cut [6] from 15 to 38 (fun s6 wx => ∃ A : Nat, s6 = .pointer (some ⟨A, 0, none⟩) ∧ wr.heap.size ≤ A ∧ A < wx.heap.size ∧ wx.cell? ⟨A, 0, none⟩ = some (.int .i64 n) ∧ wx.cell? ⟨A, 1, none⟩ = some (.int .u32 y) ∧ Below wr.heap.size wr wx)
      case first =>
        have hA0 : ∀ (c : Array Value) (t : TypeId) (i : Nat), (wr.drew.alloc (.cells c t)).cell? ⟨wr.heap.size, i, none⟩ = c[i]? := fun c t i => World.cell?_alloc_new wr.drew c t i
        have hF0 : ∀ (c : Array Value) (t : TypeId) (i : Nat), (wr.drew.alloc (.cells c t)).frozen? ⟨wr.heap.size, i, none⟩ = false := fun c t i => by
          have := (show ∀ W : World, (W.alloc (.cells c t)).frozen? ⟨W.heap.size, i, none⟩ = false from fun W => by simp) wr.drew
          exact this
        go_region_held3 (fun A => A.cell? ⟨G, 0, none⟩ = some (.int .i64 k) ∧ A.cell? ⟨G, 1, none⟩ = some (.int .i64 n) ∧ A.cell? ⟨G, 2, none⟩ = some (.int .u32 e))
          (exact ⟨old_cell f0 f1 (by (repeat (first | exact Below.refl _ _ | assumption | refine bchain (by assumption) ?_ | refine balloc ?_ _ | apply Below.drew | apply below_drewN | (refine Below.alloc ?_ (by (try simp) <;> omega) _) | (refine Below.setCell ?_ (by (try simp) <;> omega) _)))), old_cell f0 f2 (by (repeat (first | exact Below.refl _ _ | assumption | refine bchain (by assumption) ?_ | refine balloc ?_ _ | apply Below.drew | apply below_drewN | (refine Below.alloc ?_ (by (try simp) <;> omega) _) | (refine Below.setCell ?_ (by (try simp) <;> omega) _)))), old_cell f0 f3 (by (repeat (first | exact Below.refl _ _ | assumption | refine bchain (by assumption) ?_ | refine balloc ?_ _ | apply Below.drew | apply below_drewN | (refine Below.alloc ?_ (by (try simp) <;> omega) _) | (refine Below.setCell ?_ (by (try simp) <;> omega) _))))⟩)
          (first
          | (go_at_call 109; refine (hOr.out _ (by (repeat (first | exact Below.refl _ _ | assumption | refine bchain (by assumption) ?_ | refine balloc ?_ _ | apply Below.drew | apply below_drewN | (refine Below.alloc ?_ (by (try simp) <;> omega) _) | (refine Below.setCell ?_ (by (try simp) <;> omega) _))))).mono ?_; rintro r3 w3 ⟨⟨u, rfl, hOu⟩, hb3⟩; replace hOu := Lib.hid (hOu.see hol.out); have hk3 := keepAll hb3; have hf3 := keepFz hb3; have hz3 := keepLt hb3; have hs3 := hb3.size; try (simp at hs3); try (rw [Nat.add_one_le_iff] at hs3))
          | (go_at_call 108; refine (hOn.out _ _ (See.below _ _ _ _ hOu.out (by (repeat (first | exact Below.refl _ _ | assumption | refine bchain (by assumption) ?_ | refine balloc ?_ _ | apply Below.drew | apply below_drewN | (refine Below.alloc ?_ (by (try simp) <;> omega) _) | (refine Below.setCell ?_ (by (try simp) <;> omega) _)))))).mono ?_; rintro r4 w4 ⟨rfl, hb4⟩; have hk4 := keepAll hb4; have hf4 := keepFz hb4; have hz4 := keepLt hb4; have hs4 := hb4.size; try (simp at hs4); try (rw [Nat.add_one_le_iff] at hs4)))
        all_goals (go_wp2_with fail; go_meet; exact ⟨_, rfl, by (try simp) <;> omega, by (try simp) <;> omega, by first | (simp; done) | exact (twoCells (a := .int .i64 0) (b := .int .u32 0) (by simp [*]) (by simp [*]) _ _).1, by first | (simp; done) | exact (twoCells (a := .int .i64 0) (b := .int .u32 0) (by simp [*]) (by simp [*]) _ _).2, by (repeat (first | exact Below.refl _ _ | assumption | refine bchain (by assumption) ?_ | refine balloc ?_ _ | apply Below.drew | apply below_drewN | (refine Below.alloc ?_ (by (try simp) <;> omega) _) | (refine Below.setCell ?_ (by (try simp) <;> omega) _)))⟩)
      case rest =>
        obtain ⟨A, rfl, hA, hAl, a0, a1, hbx⟩ := hcut
        have hPw := hPx.out.under hbx p0
        have hFw := hFx.out.below hbx
        have hOw := Lib.hid (hOx.out.below hbx)
        have hBw : Below G w wc := hBx.trans (hbx.mono (by omega))
        clear f0 f1 f2 f3 p0 p1 p2 p3 pf1 pf2 hPx hFx hOx hBx hOr hOn
        obtain ⟨f0, f1, f2, f3⟩ := id hFw
        obtain ⟨p0, p1, p2, p3⟩ := hPw.p
        have pf1 := hPw.fp 1
        have pf2 := hPw.fp 2
        have hend : ∀ (e4 : Ending) (W w4 : World) (f : Nat), NextAt m m w0 v x W e4 w4 → f = minE e (((lists m m).take (j + 1)).map (ordK k)) → PK W G k n f → FC W G k n e → Below G w W →
            ∃ ok : Bool, e4 = .returned (.bool ok) ∧ Hid (∃ c', c' < gk ∧ SlHead w0 v m m T c' (.bool ok) w4) := fun e4 W w4 f hN hf hPW hFW hBW => by
          rcases hN with ⟨x', hy, he4, hyk, hOy, hbN⟩ | ⟨hy, he4, hbN⟩
          · rw [hst.out] at hy
            have hj1 := (List.getElem?_eq_some_iff.1 hy).1
            exact ⟨true, he4, (lists m m).length - (j + 1), by have := hc.out; omega, .inl ⟨j + 1, x', hj1, rfl, rfl, hy, hOy, by rw [hT]; dsimp only; rw [← hf]; exact ⟨hPW.under hbN hGz, hFW.under hbN (by omega), hBW.trans (hbN.mono (by omega))⟩⟩⟩
          · rw [hst.out] at hy
            have hj1 : (lists m m).length ≤ j + 1 := by simpa using hy
            rw [List.take_of_length_le hj1] at hf
            exact ⟨false, he4, 0, by have := hc.out; omega, .inr ⟨rfl, rfl, by rw [hT]; dsimp only; rw [← hf]; exact ⟨hPW.under hbN hGz, hFW.under hbN (by omega), hBW.trans (hbN.mono (by omega))⟩⟩⟩
        replace hend := Lib.hid hend
        replace hPw := Lib.hid hPw
        replace hFw := Lib.hid hFw
        by_cases hlt : y < z
        · have hd : decide ((y : Int) < (z : Int)) = true := by simpa using hlt
          go_wp2_with fail
          refine (next_any _ w0 v m m x ((hOw.out.sets (by omega)).sets (by omega)) hm5 hm5 hokx.out).mono ?_
          rintro r4 w4 hN
          obtain ⟨ok, rfl, hE⟩ := hend.out r4 _ w4 y hN (by rw [hnx.out]; omega) (hPw.out.put y) ((hFw.out.other _ (by show G + 1 + 1 ≠ G; omega)).other _ (by show G + 1 + 1 ≠ G; omega)) (by (repeat (first | exact Below.refl _ _ | assumption | refine bchain (by assumption) ?_ | refine balloc ?_ _ | apply Below.drew | apply below_drewN | (refine Below.alloc ?_ (by (try simp) <;> omega) _) | (refine Below.setCell ?_ (by (try simp) <;> omega) _))))
          clear hN
          go_wp2
          obtain ⟨c', hc1, hc2⟩ := hE.out
          go_roundg c'
          case measure => exact hc1
          case rel => exact hc2
        · have hd : decide ((y : Int) < (z : Int)) = false := by simpa using hlt
          go_wp2_with fail
          refine (next_any _ w0 v m m x hOw.out hm5 hm5 hokx.out).mono ?_
          rintro r4 w4 hN
          obtain ⟨ok, rfl, hE⟩ := hend.out r4 _ w4 z hN (by rw [hnx.out]; omega) hPw.out hFw.out hBw
          clear hN
          go_wp2
          obtain ⟨c', hc1, hc2⟩ := hE.out
          go_roundg c'
          case measure => exact hc1
          case rel => exact hc2
    · obtain ⟨y, hy⟩ : ∃ y : Nat, leastK n k e = y := ⟨_, rfl⟩
      rw [hT] at hTx
      obtain ⟨hPx, hFx, hBx⟩ := hTx
      rw [hend0.out, hy] at hPx
      obtain ⟨p0, p1, p2, p3⟩ := hPx.p
      obtain ⟨r0, r1, r2, r3⟩ := hPx.r
      have pf0 := hPx.fr 0
      have pf1 := hPx.fr 1
      have pf2 := hPx.fr 2
      have hr := hPx.r.put k n y
      have hB3 := ((hBx.setCell (p := ⟨G + 1, 0, none⟩) (by show G ≤ G + 1; omega) (.int .i64 k)).setCell (p := ⟨G + 1, 1, none⟩) (by show G ≤ G + 1; omega) (.int .i64 n)).setCell (p := ⟨G + 1, 2, none⟩) (by show G ≤ G + 1; omega) (.int .u32 y)
      replace hy := Lib.hid hy
      clear hPx hFx hBx
      replace hB1 : Below G w w1 := hB1.out
      go_wp2
      obtain ⟨W3, hW3⟩ : ∃ W3, W3 = ((wr.setCell ⟨G + 1, 0, none⟩ (.int .i64 k)).setCell ⟨G + 1, 1, none⟩ (.int .i64 n)).setCell ⟨G + 1, 2, none⟩ (.int .u32 y) := ⟨_, rfl⟩
      rw [← hW3] at hB3 hr ⊢
      clear hW3 p0 p1 p2 p3 r0 r1 r2 r3 pf0 pf1 pf2
      obtain ⟨_, c0, c1, c2⟩ := hr
      refine bodyPost_ret (v := .agg #[.int .i64 k, .int .i64 n, .int .u32 y]) (by simp [results, Tryd.results72, go_sem, c0, c1, c2]) rfl ⟨by rw [hy.out], ?_⟩
      rw [hG.out]
      exact hB3
end Go.Proofs.YtiedombphcdpbaaDoor
