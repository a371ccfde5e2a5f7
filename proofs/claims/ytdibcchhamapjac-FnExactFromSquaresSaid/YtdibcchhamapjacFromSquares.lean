/-
  PROVED: for every list of fractions and every list of rows of fractions, valid or not, FromSquares of the program answers as the model's does, its arguments are left as they were, and its result owns its memory. Conditions: none.
-/
import Derived.Test.YtdibcchhamapjacOpenMs
import Derived.Test.YtdibcchhamapjacOpenFs
import Derived.Test.YtdibcchhamapjacFFrS
import Derived.Test.YtdibcchhamapjacFXm
namespace Go.Proofs.Ytdibcchhamapjac
open Go.ChangeShapes Go.WideShapes Go.ChangeAt Go.RowKit
set_option maxRecDepth 100000

theorem fs_both (ps : List (Int × Int)) (rs : List (List (Int × Int))) (hm : ps.length ≤ 1048576) (hm2 : rs.length ≤ 1048576) (hr : ∀ i, i < rs.length → (rAt rs i).length ≤ 1048576) : ∃ (n : Nat) (g : Nat → Nat → Int × Int) (c : Int), n ≤ 8 ∧
    (∀ W v v2, SlG W v ps → SlM W v2 rs → Calls Try.prog 33 #[v, v2] W fun r w' => (∃ v, r = .returned (.tuple #[v, .int .i64 c]) ∧ SlM w' v (matL n g)) ∧ Below W.heap.size W w') ∧
    (∀ W v v2, SlG W v ps → SlM W v2 rs → Calls Try.prog 34 #[v, v2] W fun r w' => (∃ u, r = .returned (.tuple #[u, .int .i64 c]) ∧ MR W.heap.size w' u n (gv n g)) ∧ Below W.heap.size W w') := by
  have hz : ∀ (w : World) (v : Value), Emp v → SlM w v (matL 0 fun _ _ => (0, 0)) := fun w v ⟨u, cap, e, h⟩ => ⟨u, cap, e, Nat.zero_le _, h, fun c => absurd rfl c⟩
  have hnil : ∀ (c : Int), (∀ w v d, FSp ps rs w v d → d = c ∧ Emp v) →
      (∀ W v v2, SlG W v ps → SlM W v2 rs → Calls Try.prog 34 #[v, v2] W fun r w' => r = .returned (.tuple #[.slice none 0 0, .int .i64 c]) ∧ Below W.heap.size W w') →
      ∃ (n : Nat) (g : Nat → Nat → Int × Int) (c : Int), n ≤ 8 ∧
        (∀ W v v2, SlG W v ps → SlM W v2 rs → Calls Try.prog 33 #[v, v2] W fun r w' => (∃ v, r = .returned (.tuple #[v, .int .i64 c]) ∧ SlM w' v (matL n g)) ∧ Below W.heap.size W w') ∧
        (∀ W v v2, SlG W v ps → SlM W v2 rs → Calls Try.prog 34 #[v, v2] W fun r w' => (∃ u, r = .returned (.tuple #[u, .int .i64 c]) ∧ MR W.heap.size w' u n (gv n g)) ∧ Below W.heap.size W w') := fun c hs hi => by
    refine ⟨0, fun _ _ => (0, 0), c, by omega, fun W v v2 h h2 => (sFS_any W v v2 ps rs h h2 hm hm2 hr).mono ?_, fun W v v2 h h2 => (hi W v v2 h h2).mono ?_⟩
    · rintro r w' ⟨⟨v, d, rfl, hF⟩, hb⟩
      obtain ⟨rfl, he⟩ := hs _ _ _ hF
      exact ⟨⟨_, rfl, hz _ _ he⟩, hb⟩
    · rintro r w' ⟨rfl, hb⟩
      exact ⟨⟨_, rfl, .inl ⟨rfl, none, 0, rfl, by omega⟩⟩, hb⟩
  have hex : ∃ c, Chk ps rs c := by
    by_cases h1 : Vl ps ∧ AllR rs rs.length
    · by_cases h2 : (ps.length ≤ 8 ∧ rs.length = ps.length) ∧ LenR ps.length rs rs.length
      · exact ⟨0, .inr (.inr ⟨rfl, h1, h2⟩)⟩
      · exact ⟨2, .inr (.inl ⟨rfl, h1, h2⟩)⟩
    · exact ⟨1, .inl ⟨rfl, h1⟩⟩
  obtain ⟨c, hc⟩ := hex
  by_cases h0 : c = 0
  · subst h0
    have hcc := hc
    rcases hcc with ⟨h, _⟩ | ⟨h, _⟩ | ⟨_, ⟨hV, hA⟩, ⟨h8, hl⟩, hL⟩
    · exact absurd h (by decide)
    · exact absurd h (by decide)
    · have hf : Fits ps.length rs := ⟨hl, fun i hi => ⟨hL i (by omega), (hA i (by omega)).2⟩⟩
      by_cases hs : ∃ s, FrS ps.length ps rs ps.length s
      · obtain ⟨s, hs⟩ := hs
        refine ⟨ps.length, s, 0, h8, fun W v v2 h h2 => (sFS_any W v v2 ps rs h h2 hm hm2 hr).mono ?_, fun W v v2 h h2 => iFS_ok W v v2 ps rs h h2 hm hm2 hr hc _ rfl h8 hV.2 hf s hs⟩
        rintro r w' ⟨⟨v, d, rfl, hF⟩, hb⟩
        rcases hF with ⟨hd, hd2, _⟩ | ⟨_, ⟨rfl, t, ht, hM⟩ | ⟨_, hno, _⟩⟩
        · exact absurd (Chk.uniq hd2 hc) hd
        · rw [FrS.uniq hs ht]
          exact ⟨⟨_, rfl, hM⟩, hb⟩
        · exact absurd hs (hno s)
      · refine hnil 3 (fun w v d hF => ?_) (fun W v v2 h h2 => iFS_lim W v v2 ps rs h h2 hm hm2 hr hc _ rfl h8 hV.2 hf (fun s h => hs ⟨s, h⟩))
        rcases hF with ⟨hd, hd2, _⟩ | ⟨_, ⟨_, t, ht, _⟩ | ⟨hd, _, he⟩⟩
        · exact absurd (Chk.uniq hd2 hc) hd
        · exact absurd ⟨t, ht⟩ hs
        · exact ⟨hd, he⟩
  · refine hnil c (fun w v d hF => ?_) (fun W v v2 h h2 => iFS_bad W v v2 ps rs h h2 hm hm2 hr c hc h0)
    rcases hF with ⟨_, hd2, he⟩ | ⟨hd2, _⟩
    · exact ⟨Chk.uniq hd2 hc, he⟩
    · exact absurd (Chk.uniq hc hd2) h0

namespace FromSquaresLaw
theorem walk_long (v v2 : Value) (m : List (Int × Int)) (w : World) (hS : SlG w v m) (hm : 1048576 < m.length) :
    Calls Try.prog 8 #[v, v2] w fun r w' => r = .returned (.bool true) ∧ Below w.heap.size w w' := by
  obtain ⟨a, cap, rfl, h1, h2, _⟩ := hS
  have hC := Lib.hid (fun W => sz_long W a m.length cap 1048576 (by omega) (by omega) (by omega) (by omega))
  obtain ⟨l, hl⟩ : ∃ l, m.length = l := ⟨_, rfl⟩
  rw [hl] at hC ⊢
  clear hl h1 h2 hm
  go_enter Try.func8, Try.ntmps8
  go_wp2_with fail
  refine (hC.out _).mono ?_
  rintro r1 w1 ⟨rfl, rfl⟩
  go_wp2
  go_ret
  exact ⟨rfl, by (repeat (first | exact Below.refl _ _ | assumption | refine bchain (by assumption) ?_ | refine balloc ?_ _ | apply Below.drew | apply below_drewN | (refine Below.alloc ?_ (by (try simp) <;> omega) _) | (refine Below.setCell ?_ (by (try simp) <;> omega) _)))⟩
theorem walk_long2 (v v2 : Value) (m : List (Int × Int)) (m2 : List (List (Int × Int))) (w : World) (hS : SlG w v m) (hS2 : SlM w v2 m2) (hm : m.length ≤ 1048576) (hm2 : 1048576 < m.length + (m2.length + tot m2 m2.length)) :
    Calls Try.prog 8 #[v, v2] w fun r w' => r = .returned (.bool true) ∧ Below w.heap.size w w' := by
  obtain ⟨a, cap, rfl, h1, h2, _⟩ := hS
  have hC := Lib.hid (fun W => sz_ok W a m.length cap 1048576 (by omega) (by omega))
  have hD := Lib.hid (fun W (h : SlM W v2 m2) => szM_long W v2 m2 h (1048576 - (m.length : Int)) (by omega) (by omega) (by omega))
  have hl0 : 0 ≤ 1048576 - (m.length : Int) := by omega
  obtain ⟨q, hq⟩ : ∃ q : Int, 1048576 - (m.length : Int) = q := ⟨_, rfl⟩
  rw [hq] at hC hD hl0
  obtain ⟨l, hl⟩ : ∃ l, m.length = l := ⟨_, rfl⟩
  rw [hl] at hC ⊢
  replace hS2 := Lib.hid hS2
  clear hl h1 h2 hm hm2 hq
  go_enter Try.func8, Try.ntmps8
  go_wp2_with fail
  refine (hC.out _).mono ?_
  rintro r1 w1 ⟨rfl, rfl⟩
  go_wp2_with fail
  refine (hD.out _ (hS2.out.below (by (repeat (first | exact Below.refl _ _ | assumption | refine bchain (by assumption) ?_ | refine balloc ?_ _ | apply Below.drew | apply below_drewN | (refine Below.alloc ?_ (by (try simp) <;> omega) _) | (refine Below.setCell ?_ (by (try simp) <;> omega) _)))))).mono ?_
  rintro r2 w2 ⟨rfl, hb2⟩
  go_wp2
  go_ret
  exact ⟨rfl, by (repeat (first | exact Below.refl _ _ | assumption | refine bchain (by assumption) ?_ | refine balloc ?_ _ | apply Below.drew | apply below_drewN | (refine Below.alloc ?_ (by (try simp) <;> omega) _) | (refine Below.setCell ?_ (by (try simp) <;> omega) _)))⟩
set_option maxHeartbeats 4000000 in
theorem walk_short (v v2 : Value) (m : List (Int × Int)) (m2 : List (List (Int × Int))) (w : World) (hS : SlG w v m) (hS2 : SlM w v2 m2) (hm : m.length + (m2.length + tot m2 m2.length) ≤ 1048576) :
    Calls Try.prog 8 #[v, v2] w fun r w' => r = .returned (.bool true) ∧ Below w.heap.size w w' := by
  have l1 : m.length ≤ 1048576 := by omega
  have l2 : m2.length ≤ 1048576 := by omega
  have r2 : ∀ i, i < m2.length → (rAt m2 i).length ≤ 1048576 := fun i hi => by have := row_le m2 hi; omega
  obtain ⟨n, g, c, h8, hs, hi⟩ := fs_both m m2 l1 l2 r2
  have hE := Lib.hid (fun W u v (h : SlM W u (matL n g)) (h' : SlM W v (matL n g)) => eqR_any W u v n g h8 h h')
  have hMk := Lib.hid (fun W b0 u (h : MR b0 W u n (gv n g)) (hb : b0 ≤ W.heap.size) => markR_any W b0 u n (gv n g) h hb)
  have hHd := Lib.hid (fun W b0 u (h : MR b0 W u n (mkF 1 0 (n * n * 2) (gv n g))) => heldR_any W b0 u n (gv n g) h)
  have hT := Lib.hid (fun W u (h : SlG W u m) => toGs_any W u m h l1)
  have hT2 := Lib.hid (fun W u (h : SlM W u m2) => toMs_any W u m2 h l2 r2)
  have hTo := Lib.hid (fun W u (h : SlG W u m) => toGo_any W u m h l1)
  have hTo2 := Lib.hid (fun W u (h : SlM W u m2) => toMo_any W u m2 h l2 r2)
  have hEs := Lib.hid (fun W u u' (h : SlG W u m) (h' : SlG W u' m) => eqGs_any W u u' m h h' l1)
  have hEs2 := Lib.hid (fun W u u' (h : SlM W u m2) (h' : SlM W u' m2) => eqMs_any W u u' m2 h h' l2 r2)
  have hMx := Lib.hid (fun W b0 b1 u (h : XO b0 b1 W u m.length) (hb : b0 ≤ W.heap.size) => markK_any W b0 b1 u m.length 1 h l1 (by omega) hb)
  have hMx2 := Lib.hid (fun W b0 b1 u (h : XM b0 b1 W u m2) (hb : b0 ≤ W.heap.size) => markXM_any W b0 b1 (1 + m.length * 2) u m2 h l2 (by omega) (by omega) hb)
  obtain ⟨a, cap, hv, _⟩ := id hS
  have hC := Lib.hid (fun W => sz_ok W a m.length cap 1048576 (by omega) (by omega))
  rw [← hv] at hC
  have hD := Lib.hid (fun W (h : SlM W v2 m2) => szM_ok W v2 m2 h (1048576 - (m.length : Int)) (by omega) (by omega))
  have hl0 : decide ((1048576 : Int) - (m.length : Int) < 0) = false := decide_eq_false (by omega)
  have hl1 : decide ((1048576 : Int) - (m.length : Int) - (m2.length : Int) - (tot m2 m2.length : Nat) < 0) = false := decide_eq_false (by omega)
  obtain ⟨q, hq⟩ : ∃ q : Int, 1048576 - (m.length : Int) = q := ⟨_, rfl⟩
  rw [hq] at hC hD hl0 hl1
  obtain ⟨q2, hq2⟩ : ∃ q2 : Int, q - (m2.length : Int) - (tot m2 m2.length : Nat) = q2 := ⟨_, rfl⟩
  rw [hq2] at hD hl1
  obtain ⟨K, hK⟩ : ∃ K : Nat, 1 + n * n * 2 = K := ⟨_, rfl⟩
  rw [hK] at hMk hHd
  obtain ⟨K1, hK1⟩ : ∃ K : Nat, 1 + m.length * 2 = K := ⟨_, rfl⟩
  rw [hK1] at hMx hMx2
  obtain ⟨K2, hK2⟩ : ∃ K : Nat, K1 + tot m2 m2.length * 2 = K := ⟨_, rfl⟩
  rw [hK2] at hMx2
  have hd0 : decide ((K : Int) < 0) = false := decide_eq_false (by omega)
  have hd1 : decide ((K2 : Int) < 0) = false := decide_eq_false (by omega)
  replace hs := Lib.hid hs
  replace hi := Lib.hid hi
  replace hS := Lib.hid hS
  replace hS2 := Lib.hid hS2
  clear hm hK hK1 hK2 hq hq2 l1 l2 r2 hv
  go_enter Try.func8, Try.ntmps8
  go_wp2_with fail
  refine (hC.out _).mono ?_
  rintro r0 w0 ⟨rfl, rfl⟩
  go_wp2_with fail
  refine (hD.out _ (hS2.out.below (by (repeat (first | exact Below.refl _ _ | assumption | refine bchain (by assumption) ?_ | refine balloc ?_ _ | apply Below.drew | apply below_drewN | (refine Below.alloc ?_ (by (try simp) <;> omega) _) | (refine Below.setCell ?_ (by (try simp) <;> omega) _)))))).mono ?_
  rintro r0' w00 ⟨rfl, hb00⟩
  have b00 : Below w.heap.size w w00 := hb00
  clear hb00
  go_wp2_with fail
  refine (hT.out _ _ (hS.out.below b00)).mono ?_
  rintro r1 w1 ⟨⟨u1, rfl, hU1⟩, hb1⟩
  have b01 : Below w.heap.size w w1 := b00.trans (hb1.mono b00.size)
  replace hU1 := Lib.hid hU1
  clear hb1
  go_wp2_with fail
  refine (hT2.out _ _ (hS2.out.below b01)).mono ?_
  rintro r1' w1' ⟨⟨u1', rfl, hU1'⟩, hb1'⟩
  have hU1b := Lib.hid (hU1.out.below hb1')
  replace hU1' := Lib.hid hU1'
  have b01' : Below w.heap.size w w1' := b01.trans (hb1'.mono b01.size)
  clear hb1' hU1
  go_wp2_with fail
  refine (hs.out _ _ _ hU1b.out hU1'.out).mono ?_
  rintro r2 w2 ⟨⟨v, rfl, hV⟩, hb2⟩
  have b02 : Below w.heap.size w w2 := b01'.trans (hb2.mono b01'.size)
  replace hV := Lib.hid hV
  clear b00 b01 b01' hb2 hU1b hU1'
  go_wp2_with fail
  refine (hTo.out _ _ (hS.out.below b02)).mono ?_
  rintro r3 w3 ⟨⟨u3, rfl, hU3, hX3⟩, hb3⟩
  have b03 : Below w.heap.size w w3 := b02.trans (hb3.mono b02.size)
  go_wp2_with fail
  refine (hTo2.out _ _ (hS2.out.below b03)).mono ?_
  rintro r3' w3' ⟨⟨u3', rfl, hU3', hX3'⟩, hb3'⟩
  have hX3b := Lib.hid (hX3.below hb3')
  have hU3b := Lib.hid (hU3.below hb3')
  replace hX3' := Lib.hid hX3'
  replace hU3' := Lib.hid hU3'
  have b23 : Below w2.heap.size w2 w3' := hb3.trans (hb3'.mono hb3.size)
  have s33 : w3.heap.size ≤ w3'.heap.size := hb3'.size
  have s23 : w2.heap.size ≤ w3.heap.size := hb3.size
  clear hb3 hb3' hX3 hU3 b03
  go_wp2_with fail
  refine (hi.out _ _ _ hU3b.out hU3'.out).mono ?_
  rintro r4 w4 ⟨⟨u4, rfl, hU4⟩, hb4⟩
  have hX4 := Lib.hid (hX3b.out.below hb4)
  have hX4' := Lib.hid (hX3'.out.below hb4)
  have hU34 := Lib.hid (hU3b.out.below hb4)
  have hU34' := Lib.hid (hU3'.out.below hb4)
  replace hU4 := Lib.hid hU4
  have b24 : Below w2.heap.size w2 w4 := b23.trans (hb4.mono b23.size)
  have s34 : w3'.heap.size ≤ w4.heap.size := hb4.size
  clear hb4 hX3b hX3' hU3b hU3' b23
  go_wp2_with fail
  refine (hE.out _ _ _ hU4.out.slm (hV.out.below b24)).mono ?_
  rintro r5 w5 ⟨rfl, hb5⟩
  have hU5 := Lib.hid (hU4.out.below hb5)
  have hX5 := Lib.hid (hX4.out.below hb5)
  have hX5' := Lib.hid (hX4'.out.below hb5)
  have hU35 := Lib.hid (hU34.out.below hb5)
  have hU35' := Lib.hid (hU34'.out.below hb5)
  have b25 : Below w2.heap.size w2 w5 := b24.trans (hb5.mono b24.size)
  have s35 : w3'.heap.size ≤ w5.heap.size := Nat.le_trans s34 hb5.size
  clear hb5 b24 s34 hU4 hX4 hX4' hU34 hU34'
  go_wp2_with fail
  refine (hT.out _ _ (hS.out.below (b02.trans (b25.mono b02.size)))).mono ?_
  rintro r6 w6 ⟨⟨u6, rfl, hU6⟩, hb6⟩
  go_wp2_with fail
  refine (hEs.out _ _ _ (hU35.out.below hb6) hU6).mono ?_
  rintro r7 w7 ⟨rfl, hb7⟩
  have hU7 := Lib.hid ((hU5.out.below hb6).below hb7)
  have hX7 := Lib.hid ((hX5.out.below hb6).below hb7)
  have hX7' := Lib.hid ((hX5'.out.below hb6).below hb7)
  have hU37' := Lib.hid ((hU35'.out.below hb6).below hb7)
  have b27 : Below w2.heap.size w2 w7 := (b25.trans (hb6.mono b25.size)).trans (hb7.mono (Nat.le_trans b25.size hb6.size))
  have s37 : w3'.heap.size ≤ w7.heap.size := Nat.le_trans s35 (Nat.le_trans hb6.size hb7.size)
  clear hb6 hb7 b25 s35 hU5 hX5 hX5' hU35 hU35' hU6
  go_wp2_with fail
  refine (hT2.out _ _ (hS2.out.below (b02.trans (b27.mono b02.size)))).mono ?_
  rintro r6' w6' ⟨⟨u6', rfl, hU6'⟩, hb6'⟩
  go_wp2_with fail
  refine (hEs2.out _ _ _ (hU37'.out.below hb6') hU6').mono ?_
  rintro r7' w7' ⟨rfl, hb7'⟩
  have hU7b := Lib.hid ((hU7.out.below hb6').below hb7')
  have hX7b := Lib.hid ((hX7.out.below hb6').below hb7')
  have hX7b' := Lib.hid ((hX7'.out.below hb6').below hb7')
  have b27b : Below w2.heap.size w2 w7' := (b27.trans (hb6'.mono b27.size)).trans (hb7'.mono (Nat.le_trans b27.size hb6'.size))
  have s37b : w3'.heap.size ≤ w7'.heap.size := Nat.le_trans s37 (Nat.le_trans hb6'.size hb7'.size)
  clear hb6' hb7' b27 s37 hU7 hX7 hX7' hU37' hU6'
  go_wp2_with fail
  refine (hMx.out _ _ _ _ hX7b.out (Nat.le_trans s23 (Nat.le_trans s33 s37b))).mono ?_
  rintro r8 w8 ⟨rfl, hM8⟩
  have hU8 := Lib.hid ((hM8.le (Nat.le_refl _) s33).mr hU7b.out)
  have hX8' := Lib.hid (show XM w3.heap.size w3'.heap.size w8 u3' m2 from by
    rcases hX7b'.out with h | ⟨A, cap, e, h1, h2, h3, h4⟩
    · exact .inl h
    · exact .inr ⟨A, cap, e, h1, h2, by rw [hM8.sz]; exact h3, fun i hi => (h4 i hi).elim fun r hr => ⟨r, (hM8.cell A i (.inr h1)).trans hr.1, hM8.xo hr.2⟩⟩)
  have b28 : Below w2.heap.size w2 w8 := b27b.trans hM8.bl
  have s38 : w3'.heap.size ≤ w8.heap.size := by rw [hM8.sz]; exact s37b
  clear hM8 b27b s37b hU7b hX7b hX7b'
  go_wp2_with fail
  refine (hMx2.out _ _ _ _ hX8'.out (Nat.le_trans s33 s38)).mono ?_
  rintro r8' w8' ⟨rfl, hM8'⟩
  have hU8' := Lib.hid (hM8'.mr hU8.out)
  have b28' : Below w2.heap.size w2 w8' := b28.trans (hM8'.bl.mono s23)
  have s38' : w3'.heap.size ≤ w8'.heap.size := by rw [hM8'.sz]; exact s38
  clear hM8' b28 s38 hU8 hX8'
  go_wp2_with fail
  refine (hE.out _ _ _ hU8'.out.slm (hV.out.below b28')).mono ?_
  rintro r9 w9 ⟨rfl, hb9⟩
  have hU9 := Lib.hid (hU8'.out.below hb9)
  have b29 : Below w2.heap.size w2 w9 := b28'.trans (hb9.mono b28'.size)
  have s39 : w3'.heap.size ≤ w9.heap.size := Nat.le_trans s38' hb9.size
  clear hb9 b28' s38' hU8'
  go_wp2_with fail
  refine (hMk.out _ _ _ hU9.out s39).mono ?_
  rintro r10 w10 ⟨rfl, hb10, hU10⟩
  replace hU10 := Lib.hid hU10
  have b2a : Below w2.heap.size w2 w10 := b29.trans (hb10.mono (Nat.le_trans s23 s33))
  clear hb10 b29 s39 hU9
  go_wp2_with fail
  refine (hHd.out _ _ _ hU10.out).mono ?_
  rintro r11 w11 ⟨rfl, hb11⟩
  have hU11 := Lib.hid (hU10.out.below hb11)
  have b2b : Below w2.heap.size w2 w11 := b2a.trans (hb11.mono b2a.size)
  clear hb11 b2a hU10
  go_wp2_with fail
  refine (hT.out _ _ (hS.out.below (b02.trans (b2b.mono b02.size)))).mono ?_
  rintro r12 w12 ⟨⟨u12, rfl, hU12⟩, hb12⟩
  have b2c : Below w2.heap.size w2 w12 := b2b.trans (hb12.mono b2b.size)
  have hU11b := Lib.hid (hU11.out.below hb12)
  replace hU12 := Lib.hid hU12
  clear hb12 b2b hU11
  go_wp2_with fail
  refine (hT2.out _ _ (hS2.out.below (b02.trans (b2c.mono b02.size)))).mono ?_
  rintro r12' w12' ⟨⟨u12', rfl, hU12'⟩, hb12'⟩
  have b2c' : Below w2.heap.size w2 w12' := b2c.trans (hb12'.mono b2c.size)
  have hU11c := Lib.hid (hU11b.out.below hb12')
  have hU12b := Lib.hid (hU12.out.below hb12')
  replace hU12' := Lib.hid hU12'
  clear hb12' b2c hU11b hU12
  go_wp2_with fail
  refine (hi.out _ _ _ hU12b.out hU12'.out).mono ?_
  rintro r13 w13 ⟨⟨u13, rfl, hU13⟩, hb13⟩
  have hU13' := Lib.hid (hU11c.out.below hb13)
  replace hU13 := Lib.hid hU13
  have b2d : Below w2.heap.size w2 w13 := b2c'.trans (hb13.mono b2c'.size)
  clear hb13 b2c' hU11c hU12b hU12'
  go_wp2_with fail
  refine (hE.out _ _ _ hU13.out.slm (hV.out.below b2d)).mono ?_
  rintro r14 w14 ⟨rfl, hb14⟩
  have hU14 := Lib.hid (hU13'.out.below hb14)
  have b2e : Below w2.heap.size w2 w14 := b2d.trans (hb14.mono b2d.size)
  clear hb14 b2d hU13 hU13'
  go_wp2_with fail
  refine (hHd.out _ _ _ hU14.out).mono ?_
  rintro r15 w15 ⟨rfl, hb15⟩
  have hB : Below w.heap.size w w15 := b02.trans ((b2e.trans (hb15.mono b2e.size)).mono b02.size)
  clear hb15 b2e b02
  go_wp2
  go_ret
  exact ⟨rfl, hB⟩
theorem walk (v : Value) (m : List (Int × Int)) (v2 : Value) (m2 : List (List (Int × Int))) (w : World) (hS : SlG w v m) (hS2 : SlM w v2 m2) :
    Calls Try.prog 8 #[v, v2] w fun r w' => r = .returned (.bool true) ∧ Below w.heap.size w w' := by
  rcases Nat.lt_or_ge 1048576 m.length with h | h
  · exact walk_long v v2 m w hS h
  · rcases Nat.lt_or_ge 1048576 (m.length + (m2.length + tot m2 m2.length)) with h2 | h2
    · exact walk_long2 v v2 m m2 w hS hS2 h h2
    · exact walk_short v v2 m m2 w hS hS2 h2
end FromSquaresLaw
theorem FromSquaresLaw.lifted (os : Os) (started : os.Started) (H : Type) (enc : TypeId × Value → H) :
    ReturnsInHanded {} Try.checked os 8 .any (Rows.fnExactFromSquaresSpec.pre6 enc Try.prog Try.f8 Rows.fnExactFromSquaresRow.domain false)
      (Rows.fnExactFromSquaresSpec.post enc Try.prog Try.f8 false true false false) := by
  refine fr_lift (C := Try.checked) own started (by kernel_rfl) Try.func8 laid_out rfl (by kernel_rfl) (tb := 4) rfl Try.underlying4 ?hs
    (ChangeSpec.witness6 (enc := enc) (C := Try.checked) false ⟨#[], #[.slice none 0 0, .slice none 0 0], []⟩ 8 (by kernel_rfl) (by kernel_rfl) (by kernel_rfl) (by kernel_rfl)) ?_
  case hs =>
    intro ds h
    match ds, h with
    | [d0, d1], _ => rfl
  intro W base args ds p hval0 hA0 hlt hsz
  have hval : ∀ (j : Nat) t v, Try.f8.params[j]? = some t → args[j]? = some v → Value.okWide Try.prog W .any base t v := hval0
  have hA : DataW.TrodAll enc Try.prog W 0 (fun _ => true) true Try.f8.params.toList args.toList ds p := hA0
  rw [Try.params8] at hA hval
  obtain ⟨v0, vs0, d0, ds0, p0, q0, hargs, rfl, rfl, h0, r0⟩ := trodAll_cons hA
  obtain ⟨v1, vs1, d1, ds1, p1, q1, rfl, rfl, rfl, h1, r1⟩ := trodAll_cons r0
  obtain ⟨rfl, rfl, rfl⟩ := trodAll_nil r1
  obtain rfl : args = #[v0, v1] := by cases args; simp_all
  obtain ⟨x0, R0⟩ := open_fs (hval 0 39 v0 rfl rfl) h0
  obtain ⟨x1, R1⟩ := open_ms (hval 1 28 v1 rfl rfl) h1
  exact FromSquaresLaw.walk v0 x0 v1 x1 W R0 R1

theorem fromSquares_holds : Rows.FnExactFromSquaresSaid :=
  OpenClaim.holds_of_wide 8 Try.f8 rfl rfl rfl rfl rfl rfl rfl ⟨rfl, rfl, rfl, rfl, rfl⟩ rfl rfl rfl rfl rfl (by kernel_rfl) Try.func8 (by kernel_rfl)
    (of_decide_eq_true (by kernel_rfl)) (by unfold Func.isWrapper; rw [if_neg (of_decide_eq_false (by kernel_rfl))]; exact ⟨rfl, rfl⟩)
    (fun os started H enc _ => FromSquaresLaw.lifted os started H enc)
#print axioms fromSquares_holds
end Go.Proofs.Ytdibcchhamapjac
