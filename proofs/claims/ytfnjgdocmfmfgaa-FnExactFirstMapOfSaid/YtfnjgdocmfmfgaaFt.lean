/-
  WHAT A MAP OF A GRAPH TO PARTS OWES: facts, and the model's l07Fits.
-/
import Derived.Test.YtfnjgdocmfmfgaaBls
import Derived.Test.YtfnjgdocmfmfgaaMn
import Derived.Test.YtfnjgdocmfmfgaaBase
namespace Go.Proofs.Ytfnjgdocmfmfgaa
open Go.RowKit
set_option maxRecDepth 100000
attribute [local go_sem] Oper.semAt_some
/-- vertices that are joined are so in the pattern -/
def FitsM (n m e lo : Nat) (x : List Nat) : Prop := ∀ p ∈ prs n, jn m p.1 p.2 = true → pjn e lo (xn x p.1) (xn x p.2) = true
def nb : Nat → Nat | 0 => 0 | 1 => 0 | 2 => 1 | 3 => 3 | 4 => 6 | 5 => 10 | _ => 0
theorem nb_max : ∀ n, n ≤ 5 → eMax n = 2 ^ nb n := by decide
theorem prs_nb : ∀ n, n ≤ 5 → (prs n).map (fun p => pp p.1 p.2) = List.range (nb n) := by decide
theorem prs_inj : ∀ n, n ≤ 5 → ∀ p ∈ prs n, ∀ q ∈ prs n, pp p.1 p.2 = pp q.1 q.2 → p = q := by decide
theorem foldE_bit (ps : List (Nat × Nat)) (t : Nat) : (foldE ps).testBit t = ps.any fun p => pp p.1 p.2 == t := by
  have : ∀ (ps : List (Nat × Nat)) (a : Nat), (ps.foldl (fun acc p => acc ||| pb p.1 p.2) a).testBit t = (a.testBit t || ps.any fun p => pp p.1 p.2 == t) := by
    intro ps
    induction ps with
    | nil => intro a; simp
    | cons p ps ih =>
      intro a
      rw [List.foldl_cons, ih, Nat.testBit_or, List.any_cons, Bool.or_assoc]
      congr 2
      unfold pb
      rw [Nat.testBit_two_pow]
      rfl
  rw [foldE, this]
  simp
theorem fits_iff (n m e lo : Nat) (x : List Nat) (hn : n ≤ 5) (hx : x.length = n) (hm : m < eMax n) : m &&& mdE e lo x = m ↔ FitsM n m e lo x := by
  have hbit : ∀ p ∈ prs n, (mdE e lo x).testBit (pp p.1 p.2) = pjn e lo (xn x p.1) (xn x p.2) := by
    intro p hp
    unfold mdE
    rw [hx, foldE_bit, Bool.eq_iff_iff, List.any_eq_true]
    constructor
    · rintro ⟨q, hq, he⟩
      have hq := List.mem_filter.1 hq
      obtain rfl := prs_inj n hn p hp q hq.1 (by simpa using (beq_iff_eq.1 he).symm)
      exact hq.2
    · intro h
      exact ⟨p, List.mem_filter.2 ⟨hp, h⟩, by simp⟩
  constructor
  · intro h p hp hj
    rw [← hbit p hp]
    unfold jn at hj
    rw [← h, Nat.testBit_and, Bool.and_eq_true] at hj
    exact hj.2
  · intro h
    apply Nat.eq_of_testBit_eq
    intro t
    rw [Nat.testBit_and]
    cases hb : m.testBit t
    · rfl
    · have ht : t < nb n := by
        rcases Nat.lt_or_ge t (nb n) with c | c
        · exact c
        · rw [Nat.testBit_lt_two_pow (Nat.lt_of_lt_of_le (by rw [← nb_max n hn]; exact hm) (Nat.pow_le_pow_right (by omega) c))] at hb
          cases hb
      have hmem : t ∈ (prs n).map (fun p => pp p.1 p.2) := by rw [prs_nb n hn]; exact List.mem_range.2 ht
      obtain ⟨p, hp, rfl⟩ := List.mem_map.1 hmem
      rw [hbit p hp]
      exact h p hp hb
theorem andNot_fits (m k : Nat) (hm : m < 4294967296) (hk : k < 4294967296) : (bits .andNot .u32 (m : Int) (k : Int) == 0) = decide (m &&& k = m) := by
  rw [u32_andNot _ _ (by omega) (by omega) (by omega) (by omega), Bool.eq_iff_iff, beq_iff_eq, decide_eq_true_iff]
  rw [show ((m : Int)).toNat = m by omega, show ((k : Int)).toNat = k by omega]
  have hb : ∀ i, (m &&& (4294967295 - k)).testBit i = (m.testBit i && !k.testBit i) := by
    intro i
    rw [Nat.testBit_and, show 4294967295 - k = 2 ^ 32 - (k + 1) by omega, Nat.testBit_two_pow_sub_succ (by omega)]
    by_cases hi : i < 32
    · simp [hi]
    · have : m.testBit i = false := Nat.testBit_lt_two_pow (Nat.lt_of_lt_of_le (show m < 2 ^ 32 by omega) (Nat.pow_le_pow_right (by omega) (by omega)))
      simp [this]
  constructor
  · intro h
    have h : m &&& (4294967295 - k) = 0 := by omega
    apply Nat.eq_of_testBit_eq
    intro i
    have h2 := hb i
    rw [h, Nat.zero_testBit] at h2
    rw [Nat.testBit_and]
    cases hmi : m.testBit i
    · rfl
    · rw [hmi] at h2
      cases hki : k.testBit i
      · rw [hki] at h2; cases h2
      · rfl
  · intro h
    have : m &&& (4294967295 - k) = 0 := by
      apply Nat.eq_of_testBit_eq
      intro i
      rw [hb i, Nat.zero_testBit]
      have h2 : (m &&& k).testBit i = m.testBit i := by rw [h]
      rw [Nat.testBit_and] at h2
      cases hmi : m.testBit i
      · rfl
      · rw [hmi] at h2
        cases hki : k.testBit i
        · rw [hki] at h2; cases h2
        · rfl
    rw [this]
    rfl
/-- the pairs up to those of j with the vertices before i are as they should be -/
def FitTo (m e lo : Nat) (x : List Nat) (j i : Nat) : Prop := ∀ p ∈ prsTo j i, jn m p.1 p.2 = true → pjn e lo (xn x p.1) (xn x p.2) = true
theorem FitTo.step {m e lo : Nat} {x : List Nat} {j i : Nat} (h : FitTo m e lo x j i) (h2 : jn m i j = true → pjn e lo (xn x i) (xn x j) = true) : FitTo m e lo x j (i + 1) := by
  intro p hp
  rw [prsTo_succ] at hp
  rcases List.mem_append.1 hp with c | c
  · exact h p c
  · obtain rfl := List.mem_singleton.1 c
    exact h2
theorem FitTo.next {m e lo : Nat} {x : List Nat} {j : Nat} (h : FitTo m e lo x j j) : FitTo m e lo x (j + 1) 0 := by
  unfold FitTo
  rw [prsTo_zero]
  exact h
theorem mem_pair : ∀ n j, j < n → ∀ i, i < j → (i, j) ∈ prs n
  | n + 1, j, hj, i, hi => by
    unfold prs
    by_cases c : j < n
    · exact List.mem_append_left _ (mem_pair n j c i hi)
    · obtain rfl : j = n := by omega
      exact List.mem_append_right _ (List.mem_map.2 ⟨i, List.mem_range.2 hi, rfl⟩)
section
variable (w : World)
set_option maxHeartbeats 2000000 in
theorem fits_any (n m N e lo : Nat) (hn5 : n ≤ 5) (hm : m < 4294967296) (he : e < 4294967296) (hlo : lo < 4294967296) (G : Nat) (u : Value) (k0 : PB w G N e lo u) (B : Nat) (x : List Nat) (hM : NM w B n x) (x4 : ∀ i, i < n → xn x i ≤ 4)
    (R : Bool) (hR : R = true ↔ FitsM n m e lo x) :
    Calls Try.prog 102 #[.pointer (some ⟨G, 0, none⟩), .agg #[.int .i64 n, .int .u32 m], .slice (some ⟨B, 0, none⟩) n n, .bool false] w fun r w' => r = .returned (.bool R) ∧ Below w.heap.size w w' := by
  obtain ⟨W0, hW0⟩ : ∃ W0, W0 = w.alloc (.cells #[.int .i64 n, .int .u32 m] 30) := ⟨_, rfl⟩
  have hB0 : Below w.heap.size w W0 := by rw [hW0]; (repeat (first | exact Below.refl _ _ | assumption | refine bchain (by assumption) ?_ | refine balloc ?_ _ | apply Below.drew | apply below_drewN | (refine Below.alloc ?_ (by (try simp) <;> omega) _) | (refine Below.setCell ?_ (by (try simp) <;> omega) _)))
  have hz0 : w.heap.size < W0.heap.size := by rw [hW0]; simp
  have g0 : W0.cell? ⟨w.heap.size, 0, none⟩ = some (.int .i64 n) := by rw [hW0, World.cell?_alloc_new]; rfl
  have g1 : W0.cell? ⟨w.heap.size, 1, none⟩ = some (.int .u32 m) := by rw [hW0, World.cell?_alloc_new]; rfl
  have hf := Lib.hid (fun W (h : Below W0.heap.size W0 W) => (⟨(h.cell (p := ⟨w.heap.size, 0, none⟩) hz0).trans g0, (h.cell (p := ⟨w.heap.size, 1, none⟩) hz0).trans g1⟩ : W.cell? ⟨w.heap.size, 0, none⟩ = some (.int .i64 n) ∧ W.cell? ⟨w.heap.size, 1, none⟩ = some (.int .u32 m)))
  have hMs := Lib.hid (fun W (h : Below W0.heap.size W0 W) => (hM.below hB0).below h)
  have kP := Lib.hid (fun W (h : Below W0.heap.size W0 W) => (k0.below hB0).below h)
  replace hW0 := Lib.hid hW0
  replace hR := Lib.hid hR
  replace hM := Lib.hid hM
  clear k0 g0 g1
  go_enter Try.func102, Try.ntmps102
  go_wp2_with fail
  rw [← hW0.out]
  go_loopw [9] (fun i wr => ∃ J : Nat, 1 ≤ J ∧ (J ≤ n ∨ (J = 1 ∧ n = 0)) ∧ i = .int .i64 J ∧ Hid (FitTo m e lo x J 0) ∧ Below W0.heap.size W0 wr) (fun i _ => n - (intOf i).toNat)
  case atStart => exact ⟨1, Nat.le_refl _, by omega, rfl, (fun p hp => by cases hp), Below.refl _ _⟩
  case round =>
    obtain ⟨J, hJ1, hJn, rfl, hT, hb⟩ := hrel
    obtain ⟨c0, c1⟩ := hf.out _ hb
    by_cases hlt : J < n
    · have hlt2 : (J : Int) < (n : Int) := by omega
      go_wp2
      go_loopw [10] (fun i wr => ∃ I : Nat, I ≤ J ∧ i = .int .i64 I ∧ Hid (FitTo m e lo x J I) ∧ Below W0.heap.size W0 wr) (fun i _ => J - (intOf i).toNat)
      case atStart => exact ⟨0, by omega, rfl, hT, hb⟩
      case round =>
        clear hT hb c0 c1
        obtain ⟨I, hI, rfl, hT, hb⟩ := hrel
        obtain ⟨c0, c1⟩ := hf.out _ hb
        by_cases hli : I < J
        · have hli2 : (I : Int) < (J : Int) := by omega
          have hI0 : (0 : Int) ≤ (I : Int) := by omega
          have hJ0 : (0 : Int) ≤ (J : Int) := by omega
          have hIn : (I : Int) < (n : Int) := by omega
          have hC := Lib.hid (fun W => sjoined_any W n m I J hm (by omega) (by omega) (by omega))
          have hjx := Lib.hid (fun W (h : Below W0.heap.size W0 W) => sj_any W N e lo (xn x I) (xn x J) G u (kP.out W h) he hlo (x4 I (by omega)) (x4 J (by omega)))
          have hcell := Lib.hid (fun W (h : Below W0.heap.size W0 W) => (⟨(hMs.out W h).val I (by omega), (hMs.out W h).val J (by omega)⟩ : W.cell? ⟨B, I, none⟩ = some (.int .i64 ((xn x I : Nat) : Int)) ∧ W.cell? ⟨B, J, none⟩ = some (.int .i64 ((xn x J : Nat) : Int))))
          obtain ⟨a, ha⟩ : ∃ a, xn x I = a := ⟨_, rfl⟩
          obtain ⟨b, hb2⟩ : ∃ b, xn x J = b := ⟨_, rfl⟩
          have hst := Lib.hid (fun h2 => hT.out.step (i := I) h2)
          have hno : Hid (jn m I J = true → pjn e lo (xn x I) (xn x J) = false → ¬ FitsM n m e lo x) := fun h1 h2 h3 => by
            have h4 := h3 (I, J) (mem_pair n J hlt I hli) h1
            rw [h2] at h4
            cases h4
          rw [ha, hb2] at hjx hcell hst hno
          obtain ⟨ed, hed⟩ : ∃ ed, jn m I J = ed := ⟨_, rfl⟩
          obtain ⟨jo, hjo⟩ : ∃ jo, pjn e lo a b = jo := ⟨_, rfl⟩
          rw [hed] at hC hst hno
          rw [hjo] at hjx hst hno
          clear ha hb2 hed hjo hT
          go_wp2_with (first
            | (go_at_call 99; refine (hC.out _).mono ?_; rintro r3 w3 ⟨rfl, hb3⟩; have hb3' := bchain hb3 hb; obtain ⟨q0, q1⟩ := hcell.out _ hb3'))
          go_region_with (go_at_call 70; refine (hjx.out _ (by first | exact hb3' | exact hb3'.drew)).mono ?_; rintro r4 w4 ⟨rfl, hb4⟩)
          all_goals
            have hb5 : Below W0.heap.size W0 w4 := by (repeat (first | exact Below.refl _ _ | assumption | refine bchain (by assumption) ?_ | refine balloc ?_ _ | apply Below.drew | apply below_drewN | (refine Below.alloc ?_ (by (try simp) <;> omega) _) | (refine Below.setCell ?_ (by (try simp) <;> omega) _)))
            clear hb4
          all_goals (cases ed <;> cases jo)
          all_goals go_wp2
          all_goals first
            | (go_roundw
               case rel => exact ⟨I + 1, by omega, by go_num, hst.out (by decide), hb5⟩
               case measure => simp [intOf]; omega)
            | (go_ret
               have hRf : R = false := Bool.eq_false_iff.2 (fun h => hno.out (by first | rfl | trivial) (by first | rfl | trivial) (hR.out.1 h))
               exact ⟨by rw [hRf]; rfl, by (repeat (first | exact Below.refl _ _ | assumption | refine bchain (by assumption) ?_ | refine balloc ?_ _ | apply Below.drew | apply below_drewN | (refine Below.alloc ?_ (by (try simp) <;> omega) _) | (refine Below.setCell ?_ (by (try simp) <;> omega) _)))⟩)
        · obtain rfl : I = J := by omega
          have hd := decide_eq_false (show ¬ ((I : Int) < (I : Int)) by omega)
          have hT2 := Lib.hid hT.out.next
          clear hT
          go_wp2
          go_roundw
          case rel => exact ⟨I + 1, by omega, by omega, by go_num, hT2, hb⟩
          case measure => simp [intOf]; omega
    · have hd := decide_eq_false (show ¬ ((J : Int) < (n : Int)) by omega)
      have hfit : FitsM n m e lo x := by
        intro p hp
        rcases hJn with c | ⟨_, c⟩
        · obtain rfl : J = n := by omega
          have := hT.out p
          rw [prsTo_zero] at this
          exact this hp
        · rw [c] at hp
          cases hp
      have hRt : R = true := hR.out.2 hfit
      clear hT hfit
      go_wp2
      go_ret
      exact ⟨by rw [hRt]; rfl, by (repeat (first | exact Below.refl _ _ | assumption | refine bchain (by assumption) ?_ | refine balloc ?_ _ | apply Below.drew | apply below_drewN | (refine Below.alloc ?_ (by (try simp) <;> omega) _) | (refine Below.setCell ?_ (by (try simp) <;> omega) _)))⟩
end
end Go.Proofs.Ytfnjgdocmfmfgaa
