/-
  FromSquares: what the program checks first.
-/
import Derived.Test.YtdibcchhamapjacFFr
namespace Go.Proofs.Ytdibcchhamapjac
open Go.RowKit
set_option maxRecDepth 100000
def AllR (rs : List (List (Int × Int))) (k : Nat) : Prop := ∀ i, i < k → Vl (rAt rs i)
def LenR (n : Nat) (rs : List (List (Int × Int))) (k : Nat) : Prop := ∀ i, i < k → (rAt rs i).length = n
theorem AllR.succ {rs : List (List (Int × Int))} {k : Nat} : AllR rs (k + 1) ↔ AllR rs k ∧ Vl (rAt rs k) := by
  constructor
  · intro h; exact ⟨fun i hi => h i (by omega), h k (by omega)⟩
  · rintro ⟨h, h2⟩ i hi
    by_cases c : i = k
    · rw [c]; exact h2
    · exact h i (by omega)
theorem LenR.succ {n : Nat} {rs : List (List (Int × Int))} {k : Nat} : LenR n rs (k + 1) ↔ LenR n rs k ∧ (rAt rs k).length = n := by
  constructor
  · intro h; exact ⟨fun i hi => h i (by omega), h k (by omega)⟩
  · rintro ⟨h, h2⟩ i hi
    by_cases c : i = k
    · rw [c]; exact h2
    · exact h i (by omega)
theorem ivl_any (v : Value) (xs : List (Int × Int)) (hm : xs.length ≤ 1048576) : ∃ B : Bool, (B = true ↔ Vl xs) ∧ ∀ W, SlG W v xs →
    Calls Try.prog 58 #[v] W fun r w' => r = .returned (.bool B) ∧ Below W.heap.size W w' := by
  by_cases h : Vl xs
  · exact ⟨true, ⟨fun _ => h, fun _ => rfl⟩, fun W hW => ivl_t W v xs hW h⟩
  · exact ⟨false, ⟨fun c => absurd c (by simp), fun c => absurd c h⟩, fun W hW => ivl_f W v xs hW hm h⟩
/-- the code of what is checked first -/
def Chk (ps : List (Int × Int)) (rs : List (List (Int × Int))) (c : Int) : Prop :=
  (c = 1 ∧ ¬ (Vl ps ∧ AllR rs rs.length)) ∨ (c = 2 ∧ (Vl ps ∧ AllR rs rs.length) ∧ ¬ ((ps.length ≤ 8 ∧ rs.length = ps.length) ∧ LenR ps.length rs rs.length)) ∨ (c = 0 ∧ (Vl ps ∧ AllR rs rs.length) ∧ (ps.length ≤ 8 ∧ rs.length = ps.length) ∧ LenR ps.length rs rs.length)
section
variable (w : World)
set_option maxHeartbeats 2000000 in
theorem chk_any (v v2 : Value) (ps : List (Int × Int)) (rs : List (List (Int × Int))) (hS : SlG w v ps) (hS2 : SlM w v2 rs) (hm : ps.length ≤ 1048576) (hm2 : rs.length ≤ 1048576) (hr : ∀ i, i < rs.length → (rAt rs i).length ≤ 1048576) :
    Calls Try.prog 64 #[v, v2] w fun r w' => (∃ c : Int, r = .returned (.int .i64 c) ∧ Chk ps rs c) ∧ Below w.heap.size w w' := by
  obtain ⟨B0, hB0, hI⟩ := ivl_any v ps hm
  have hIr : ∀ k u, k < rs.length → ∃ B : Bool, (B = true ↔ Vl (rAt rs k)) ∧ ∀ W', SlG W' u (rAt rs k) → Calls Try.prog 58 #[u] W' fun r w' => r = .returned (.bool B) ∧ Below W'.heap.size W' w' := fun k u hk => ivl_any u _ (hr k hk)
  obtain ⟨a, cap, rfl, _⟩ := hS.lies
  obtain ⟨a2, cap2, rfl, hR⟩ := hS2.rows
  replace hI := Lib.hid hI
  replace hIr := Lib.hid hIr
  replace hS := Lib.hid hS
  replace hR := Lib.hid hR
  obtain ⟨C0, hC0⟩ : ∃ C0 : Bool, (C0 = true ↔ ps.length ≤ 8 ∧ rs.length = ps.length) := ⟨decide (ps.length ≤ 8 ∧ rs.length = ps.length), by simp⟩
  obtain ⟨n, hn⟩ : ∃ n, ps.length = n := ⟨_, rfl⟩
  obtain ⟨l, hl⟩ : ∃ n, rs.length = n := ⟨_, rfl⟩
  rw [hn] at hI hS hC0 hm ⊢
  rw [hl] at hIr hC0 hm2 ⊢
  replace hB0 := Lib.hid hB0
  replace hC0 := Lib.hid hC0
  replace hn := Lib.hid hn
  replace hl := Lib.hid hl
  clear hS2 hr
  go_enter Try.func64, Try.ntmps64
  go_upto_region 1 with fail
  go_cut [5, 6] (fun s5 s6 wx => s5 = .bool B0 ∧ s6 = .bool C0 ∧ Below w.heap.size w wx)
  case first =>
    by_cases h1 : n ≤ 8
    · have hd1 := decide_eq_true (show (n : Int) ≤ 8 by omega)
      by_cases h2 : l = n
      · obtain rfl : C0 = true := hC0.out.2 ⟨h1, h2⟩
        have hd2 : ((l : Int) == (n : Int)) = true := by simp; omega
        clear h1 h2
        go_wp2_with fail
        refine (hI.out _ hS.out).mono ?_
        rintro r1 w1 ⟨rfl, hb1⟩
        go_wp2
        go_meet
        exact ⟨rfl, rfl, hb1⟩
      · obtain rfl : C0 = false := by
          cases C0 with
          | false => rfl
          | true => exact absurd (hC0.out.1 rfl).2 h2
        have hd2 : ((l : Int) == (n : Int)) = false := by simp; omega
        clear h1 h2
        go_wp2_with fail
        refine (hI.out _ hS.out).mono ?_
        rintro r1 w1 ⟨rfl, hb1⟩
        go_wp2
        go_meet
        exact ⟨rfl, rfl, hb1⟩
    · have hd1 := decide_eq_false (show ¬ (n : Int) ≤ 8 by omega)
      obtain rfl : C0 = false := by
        cases C0 with
        | false => rfl
        | true => exact absurd (hC0.out.1 rfl).1 h1
      go_wp2_with fail
      refine (hI.out _ hS.out).mono ?_
      rintro r1 w1 ⟨rfl, hb1⟩
      go_wp2
      go_meet
      exact ⟨rfl, rfl, hb1⟩
  case rest =>
    obtain ⟨rfl, rfl, hb1⟩ := hcut
    go_wp2
    go_loopw [5, 6, 8, 23] (fun s5 s6 _ i wr => ∃ (k : Nat) (b c : Bool), k ≤ l ∧ i = .int .i64 k ∧ s5 = .bool b ∧ s6 = .bool c ∧ Hid (b = true ↔ Vl ps ∧ AllR rs k) ∧ Hid (c = true ↔ (n ≤ 8 ∧ l = n) ∧ LenR n rs k) ∧ Below w.heap.size w wr) (fun _ _ _ i _ => l - (intOf i).toNat)
    case atStart => exact ⟨0, B0, C0, by omega, rfl, rfl, rfl, ⟨fun h => ⟨hB0.out.1 h, fun i hi => absurd hi (by omega)⟩, fun h => hB0.out.2 h.1⟩, ⟨fun h => ⟨hC0.out.1 h, fun i hi => absurd hi (by omega)⟩, fun h => hC0.out.2 h.1⟩, hb1⟩
    case round =>
      clear hb1
      obtain ⟨k, b, c, hk, rfl, rfl, rfl, hb5, hb6, hb⟩ := hrel
      by_cases hlt : k < l
      · obtain ⟨B2, off2, rfl, hB2, u, hu, hSu⟩ := hR.out k (by have := hl.out; omega)
        obtain ⟨Bk, hBk, hIk⟩ := hIr.out k u hlt
        obtain ⟨a3, cap3, rfl, _⟩ := id hSu
        obtain ⟨l3, hl3⟩ : ∃ l, (rAt rs k).length = l := ⟨_, rfl⟩
        rw [hl3] at hu hIk hSu
        have c0 := (hb.cell (p := ⟨B2, _, none⟩) hB2).trans hu
        obtain ⟨Ck, hCk⟩ : ∃ B : Bool, ((l3 : Int) == (n : Int)) = B := ⟨_, rfl⟩
        have hCk2 : Ck = true ↔ (rAt rs k).length = n := by rw [← hCk, hl3, beq_iff_eq]; omega
        have hkl : (k : Int) < (l : Int) := by omega
        have hk0 : (0 : Int) ≤ (k : Int) := by omega
        have h5 : Hid ((b && Bk) = true ↔ Vl ps ∧ AllR rs (k + 1)) := by
          show _ ↔ _
          rw [AllR.succ, Bool.and_eq_true, hb5.out, hBk]
          exact ⟨fun h => ⟨h.1.1, h.1.2, h.2⟩, fun h => ⟨⟨h.1, h.2.1⟩, h.2.2⟩⟩
        have h6 : Hid ((c && Ck) = true ↔ (n ≤ 8 ∧ l = n) ∧ LenR n rs (k + 1)) := by
          show _ ↔ _
          rw [LenR.succ, Bool.and_eq_true, hb6.out, hCk2]
          exact ⟨fun h => ⟨h.1.1, h.1.2, h.2⟩, fun h => ⟨⟨h.1, h.2.1⟩, h.2.2⟩⟩
        have hSw := Lib.hid (hSu.below hb)
        replace hIk := Lib.hid hIk
        clear hb5 hb6 hBk hCk2 hSu hu hl3
        cases b with
        | true =>
          cases c with
          | true =>
            go_wp2_with fail
            refine (hIk.out _ hSw.out).mono ?_
            rintro r1 w1 ⟨rfl, hb1⟩
            go_wp2
            go_roundw
            case rel => exact ⟨k + 1, _, _, by omega, by go_num, rfl, rfl, h5.out, h6.out, by (repeat (first | exact Below.refl _ _ | assumption | refine bchain (by assumption) ?_ | refine balloc ?_ _ | apply Below.drew | apply below_drewN | (refine Below.alloc ?_ (by (try simp) <;> omega) _) | (refine Below.setCell ?_ (by (try simp) <;> omega) _)))⟩
            case measure => simp [intOf]; omega
          | false =>
            go_wp2_with fail
            refine (hIk.out _ hSw.out).mono ?_
            rintro r1 w1 ⟨rfl, hb1⟩
            go_wp2
            go_roundw
            case rel => exact ⟨k + 1, _, _, by omega, by go_num, rfl, rfl, h5.out, h6.out, by (repeat (first | exact Below.refl _ _ | assumption | refine bchain (by assumption) ?_ | refine balloc ?_ _ | apply Below.drew | apply below_drewN | (refine Below.alloc ?_ (by (try simp) <;> omega) _) | (refine Below.setCell ?_ (by (try simp) <;> omega) _)))⟩
            case measure => simp [intOf]; omega
        | false =>
          cases c with
          | true =>
            go_wp2
            go_roundw
            case rel => exact ⟨k + 1, _, _, by omega, by go_num, rfl, rfl, h5.out, h6.out, by (repeat (first | exact Below.refl _ _ | assumption | refine bchain (by assumption) ?_ | refine balloc ?_ _ | apply Below.drew | apply below_drewN | (refine Below.alloc ?_ (by (try simp) <;> omega) _) | (refine Below.setCell ?_ (by (try simp) <;> omega) _)))⟩
            case measure => simp [intOf]; omega
          | false =>
            go_wp2
            go_roundw
            case rel => exact ⟨k + 1, _, _, by omega, by go_num, rfl, rfl, h5.out, h6.out, by (repeat (first | exact Below.refl _ _ | assumption | refine bchain (by assumption) ?_ | refine balloc ?_ _ | apply Below.drew | apply below_drewN | (refine Below.alloc ?_ (by (try simp) <;> omega) _) | (refine Below.setCell ?_ (by (try simp) <;> omega) _)))⟩
            case measure => simp [intOf]; omega
      · obtain rfl : k = l := by omega
        have hd := decide_eq_false (show ¬ ((k : Int) < (k : Int)) by omega)
        have h5 : b = true ↔ Vl ps ∧ AllR rs rs.length := by rw [hl.out]; exact hb5.out
        have h6 : c = true ↔ (ps.length ≤ 8 ∧ rs.length = ps.length) ∧ LenR ps.length rs rs.length := by rw [hl.out, hn.out]; exact hb6.out
        clear hb5 hb6
        cases b with
        | true =>
          cases c with
          | true =>
            have hfin : Hid (Chk ps rs 0) := .inr (.inr ⟨rfl, h5.1 rfl, h6.1 rfl⟩)
            clear h5 h6
            go_wp2
            go_ret
            exact ⟨⟨_, rfl, hfin.out⟩, hb⟩
          | false =>
            have hfin : Hid (Chk ps rs 2) := .inr (.inl ⟨rfl, h5.1 rfl, fun h => by have := h6.2 h; cases this⟩)
            clear h5 h6
            go_wp2
            go_ret
            exact ⟨⟨_, rfl, hfin.out⟩, hb⟩
        | false =>
          have hfin : Hid (Chk ps rs 1) := .inl ⟨rfl, fun h => by have := h5.2 h; cases this⟩
          clear h5 h6
          go_wp2
          go_ret
          exact ⟨⟨_, rfl, hfin.out⟩, hb⟩
end
end Go.Proofs.Ytdibcchhamapjac
