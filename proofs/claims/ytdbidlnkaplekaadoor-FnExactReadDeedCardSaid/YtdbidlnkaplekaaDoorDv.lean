/-
  WHICH DEEDS ARE VALID: the program's and the model's contracts; a deed of the laws' own as the program's.
-/
import Derived.Test.YtdbidlnkaplekaaDoorWd
import Derived.Test.YtdbidlnkaplekaaDoorBase
import Derived.WalkKit
import Derived.Lib.Hide
import Derived.Deep.QuietTactic
import Derived.BigQuiet
import Derived.Deep.RegionWith
namespace Go.Proofs.YtdbidlnkaplekaaDoor
open Go.RowKit
set_option maxRecDepth 100000
attribute [local go_sem] Oper.semAt_some
/-- a valid deed -/
def VD (k a b : Int) : Prop := 1 ≤ k ∧ k ≤ 7 ∧ 0 ≤ a ∧ a ≤ 999 ∧ 0 ≤ b ∧ b ≤ 999 ∧ (a = 0 ∨ 0 < wdN k.toNat) ∧ (b = 0 ∨ 1 < wdN k.toNat)
instance (k a b : Int) : Decidable (VD k a b) := by unfold VD; infer_instance
/-- one number is as it may be -/
def okD (m c x : Int) : Prop := 0 ≤ x ∧ x ≤ 999 ∧ (x = 0 ∨ c < m)
theorem wdN_b : ∀ k, k < 8 → 0 ≤ wdN k ∧ wdN k ≤ 2 := by decide
section
variable (w : World)
theorem ivd_any (k a b : Int) (hw : Words w) :
    Calls Tryd.prog 19 #[.agg #[.int .i64 k, .int .i64 a, .int .i64 b]] w fun r w' => r = .returned (.bool (decide (VD k a b))) ∧ Below w.heap.size w w' := by
  by_cases hk : 1 ≤ k ∧ k ≤ 7
  · obtain ⟨hk1, hk7⟩ := hk
    obtain ⟨n, rfl⟩ : ∃ n : Nat, k = n := ⟨k.toNat, by omega⟩
    have hm := wdN_b n (by omega)
    have hlt := hw.lt
    have hc := hw.n n (by omega)
    obtain ⟨R, hR⟩ : ∃ R : Bool, decide (VD (n : Int) a b) = R := ⟨_, rfl⟩
    have hR2 : R = true ↔ 0 ≤ a ∧ a ≤ 999 ∧ 0 ≤ b ∧ b ≤ 999 ∧ (a = 0 ∨ 0 < wdN n) ∧ (b = 0 ∨ 1 < wdN n) := by
      rw [← hR, decide_eq_true_iff]
      unfold VD
      rw [Int.toNat_natCast]
      constructor
      · rintro ⟨_, _, h⟩; exact h
      · intro h; exact ⟨hk1, hk7, h⟩
    rw [hR]
    obtain ⟨m, hm2⟩ : ∃ m, wdN n = m := ⟨_, rfl⟩
    rw [hm2] at hR2 hm hc
    replace hR2 := Lib.hid hR2
    have hl : ∀ O, (w.alloc O).cell? ⟨0, n * 2 + 1, none⟩ = some (.int .i64 m) := fun O => (World.cell?_alloc_lt _ _ _ hlt).trans hc
    have ix0 : ∀ W : World, (Instr.index 66 (.agg #[.int .i64 a, .int .i64 b]) (.int .i64 0)).run Tryd.prog W = .ok (.int .i64 a) W := fun _ => by kernel_rfl
    have ix1 : ∀ W : World, (Instr.index 66 (.agg #[.int .i64 a, .int .i64 b]) (.int .i64 1)).run Tryd.prog W = .ok (.int .i64 b) W := fun _ => by kernel_rfl
    have hn8 : (n : Int) < 8 := by omega
    have hn0 : (0 : Int) ≤ (n : Int) := by omega
    clear hm2 hR hc hw hlt
    go_enter Tryd.func19, Tryd.ntmps19
    go_wp2
    go_loop [3, 4, 18] (fun _ _ i => (i = .int .i64 0) ∨ (i = .int .i64 1 ∧ okD m 0 a) ∨ (i = .int .i64 2 ∧ okD m 0 a ∧ okD m 1 b)) (fun _ _ i => 2 - (intOf i).toNat)
    case atStart => exact .inl rfl
    case round =>
      have hF := Lib.hid (fun (h : ¬ (0 ≤ a ∧ a ≤ 999 ∧ 0 ≤ b ∧ b ≤ 999 ∧ (a = 0 ∨ 0 < m) ∧ (b = 0 ∨ 1 < m))) => (show R = false by cases R; rfl; exact absurd (hR2.out.1 rfl) h))
      rcases hrel with rfl | ⟨rfl, h0⟩ | ⟨rfl, h0, h1⟩
      · by_cases c1 : a < 0
        · obtain rfl := hF.out (fun h => by omega)
          go_wp2
          go_ret
          exact ⟨rfl, by (repeat (first | exact Below.refl _ _ | assumption | refine bchain (by assumption) ?_ | refine balloc ?_ _ | apply Below.drew | apply below_drewN | (refine Below.alloc ?_ (by (try simp) <;> omega) _) | (refine Below.setCell ?_ (by (try simp) <;> omega) _)))⟩
        · by_cases c2 : 999 < a
          · obtain rfl := hF.out (fun h => by omega)
            go_wp2
            go_ret
            exact ⟨rfl, by (repeat (first | exact Below.refl _ _ | assumption | refine bchain (by assumption) ?_ | refine balloc ?_ _ | apply Below.drew | apply below_drewN | (refine Below.alloc ?_ (by (try simp) <;> omega) _) | (refine Below.setCell ?_ (by (try simp) <;> omega) _)))⟩
          · by_cases c3 : a = 0
            · subst c3
              have hst : okD m 0 0 := ⟨by omega, by omega, .inl rfl⟩
              go_wp2
              go_round
              case rel => exact .inr (.inl ⟨by go_num, hst⟩)
              case measure => simp [intOf]
            · have e3 : (a == 0) = false := by simp [c3]
              have e4 : (a != 0) = true := by simp [c3]
              have c5 := Lib.hid c3
              clear c3
              by_cases c4 : 0 < m
              · have hst : okD m 0 a := ⟨by omega, by omega, .inr c4⟩
                go_wp2
                go_round
                case rel => exact .inr (.inl ⟨by go_num, hst⟩)
                case measure => simp [intOf]
              · have h00 : ((0 : Nat) : Int) = 0 := rfl
                obtain rfl := hF.out (fun h => by have := c5.out; omega)
                go_wp2
                go_ret
                exact ⟨rfl, by (repeat (first | exact Below.refl _ _ | assumption | refine bchain (by assumption) ?_ | refine balloc ?_ _ | apply Below.drew | apply below_drewN | (refine Below.alloc ?_ (by (try simp) <;> omega) _) | (refine Below.setCell ?_ (by (try simp) <;> omega) _)))⟩
      · by_cases c1 : b < 0
        · obtain rfl := hF.out (fun h => by omega)
          go_wp2
          go_ret
          exact ⟨rfl, by (repeat (first | exact Below.refl _ _ | assumption | refine bchain (by assumption) ?_ | refine balloc ?_ _ | apply Below.drew | apply below_drewN | (refine Below.alloc ?_ (by (try simp) <;> omega) _) | (refine Below.setCell ?_ (by (try simp) <;> omega) _)))⟩
        · by_cases c2 : 999 < b
          · obtain rfl := hF.out (fun h => by omega)
            go_wp2
            go_ret
            exact ⟨rfl, by (repeat (first | exact Below.refl _ _ | assumption | refine bchain (by assumption) ?_ | refine balloc ?_ _ | apply Below.drew | apply below_drewN | (refine Below.alloc ?_ (by (try simp) <;> omega) _) | (refine Below.setCell ?_ (by (try simp) <;> omega) _)))⟩
          · by_cases c3 : b = 0
            · subst c3
              have hst : okD m 1 0 := ⟨by omega, by omega, .inl rfl⟩
              go_wp2
              go_round
              case rel => exact .inr (.inr ⟨by go_num, h0, hst⟩)
              case measure => simp [intOf]
            · have e3 : (b == 0) = false := by simp [c3]
              have e4 : (b != 0) = true := by simp [c3]
              have c5 := Lib.hid c3
              clear c3
              by_cases c4 : 1 < m
              · have hst : okD m 1 b := ⟨by omega, by omega, .inr c4⟩
                go_wp2
                go_round
                case rel => exact .inr (.inr ⟨by go_num, h0, hst⟩)
                case measure => simp [intOf]
              · obtain rfl := hF.out (fun h => by have := c5.out; omega)
                go_wp2
                go_ret
                exact ⟨rfl, by (repeat (first | exact Below.refl _ _ | assumption | refine bchain (by assumption) ?_ | refine balloc ?_ _ | apply Below.drew | apply below_drewN | (refine Below.alloc ?_ (by (try simp) <;> omega) _) | (refine Below.setCell ?_ (by (try simp) <;> omega) _)))⟩
      · obtain rfl : R = true := hR2.out.2 ⟨h0.1, h0.2.1, h1.1, h1.2.1, h0.2.2, h1.2.2⟩
        go_wp2
        go_ret
        exact ⟨rfl, by (repeat (first | exact Below.refl _ _ | assumption | refine bchain (by assumption) ?_ | refine balloc ?_ _ | apply Below.drew | apply below_drewN | (refine Below.alloc ?_ (by (try simp) <;> omega) _) | (refine Below.setCell ?_ (by (try simp) <;> omega) _)))⟩
  · obtain ⟨R, hR⟩ : ∃ R : Bool, decide (VD k a b) = R := ⟨_, rfl⟩
    have : R = false := by rw [← hR, decide_eq_false_iff_not]; exact fun h => hk ⟨h.1, h.2.1⟩
    subst this
    rw [hR]
    clear hR
    by_cases h1 : k < 1
    · go_enter Tryd.func19, Tryd.ntmps19
      go_wp2
      go_ret
      exact ⟨rfl, by (repeat (first | exact Below.refl _ _ | assumption | refine bchain (by assumption) ?_ | refine balloc ?_ _ | apply Below.drew | apply below_drewN | (refine Below.alloc ?_ (by (try simp) <;> omega) _) | (refine Below.setCell ?_ (by (try simp) <;> omega) _)))⟩
    · have h7 : 7 < k := by omega
      go_enter Tryd.func19, Tryd.ntmps19
      go_wp2
      go_ret
      exact ⟨rfl, by (repeat (first | exact Below.refl _ _ | assumption | refine bchain (by assumption) ?_ | refine balloc ?_ _ | apply Below.drew | apply below_drewN | (refine Below.alloc ?_ (by (try simp) <;> omega) _) | (refine Below.setCell ?_ (by (try simp) <;> omega) _)))⟩
/-- the model's words: two lists -/
def WordsL (w : World) (r : Ending) (w' : World) : Prop := ∃ A B, r = .returned (.tuple #[.slice (some ⟨A, 0, none⟩) 8 8, .slice (some ⟨B, 0, none⟩) 8 8]) ∧ Below w.heap.size w w' ∧ A < w'.heap.size ∧ B < w'.heap.size ∧
  (∀ k, k < 8 → w'.cell? ⟨A, k, none⟩ = some (.string (wdB k))) ∧ (∀ k, k < 8 → w'.cell? ⟨B, k, none⟩ = some (.int .i64 (wdN k)))
theorem swords_any : Calls Tryd.prog 14 #[] w (WordsL w) := by
  have hw8 : ∀ k, k < 8 → (#[Value.string (wdB 0), .string (wdB 1), .string (wdB 2), .string (wdB 3), .string (wdB 4), .string (wdB 5), .string (wdB 6), .string (wdB 7)] : Array Value)[k]? = some (.string (wdB k)) := fun k hk => by
    rcases k with _ | _ | _ | _ | _ | _ | _ | _ | k <;> first | rfl | omega
  have hn8 : ∀ k, k < 8 → (#[Value.int .i64 (wdN 0), .int .i64 (wdN 1), .int .i64 (wdN 2), .int .i64 (wdN 3), .int .i64 (wdN 4), .int .i64 (wdN 5), .int .i64 (wdN 6), .int .i64 (wdN 7)] : Array Value)[k]? = some (.int .i64 (wdN k)) := fun k hk => by
    rcases k with _ | _ | _ | _ | _ | _ | _ | _ | k <;> first | rfl | omega
  replace hw8 := Lib.hid hw8
  replace hn8 := Lib.hid hn8
  unfold WordsL
  go_enter Tryd.func14, Tryd.ntmps14
  go_wp2
  refine bodyPost_ret (v := .tuple #[.slice (some ⟨w.heap.size, 0, none⟩) 8 8, .slice (some ⟨w.heap.size + 1, 0, none⟩) 8 8]) (by simp [results, Tryd.results14, go_sem]) rfl ⟨_, _, rfl, by (repeat (first | exact Below.refl _ _ | assumption | refine bchain (by assumption) ?_ | refine balloc ?_ _ | apply Below.drew | apply below_drewN | (refine Below.alloc ?_ (by (try simp) <;> omega) _) | (refine Below.setCell ?_ (by (try simp) <;> omega) _))), by simp <;> omega, by simp, fun k hk => ?_, fun k hk => ?_⟩
  · exact (World.cell?_alloc_lt _ _ _ (by simp)).trans ((World.cell?_alloc_new _ _ _ _).trans (hw8.out k hk))
  · have := World.cell?_alloc_new (w.alloc (.cells #[.string { data := #[] }, .string { data := #[103, 105, 118, 101] }, .string { data := #[119, 111, 114, 107] }, .string { data := #[100, 101, 108, 105, 118, 101, 114] }, .string { data := #[99, 111, 112, 121] }, .string { data := #[100, 114, 111, 112] }, .string { data := #[115, 97, 118, 101] }, .string { data := #[99, 114, 97, 115, 104] }] 9)) #[.int .i64 0, .int .i64 2, .int .i64 1, .int .i64 1, .int .i64 1, .int .i64 1, .int .i64 0, .int .i64 0] 3 k
    rw [World.size_alloc] at this
    exact this.trans (hn8.out k hk)
theorem sldeed_f (k a b : Int) (h : ¬ (1 ≤ k ∧ k ≤ 7 ∧ 0 ≤ a ∧ a ≤ 999 ∧ 0 ≤ b ∧ b ≤ 999)) :
    Calls Tryd.prog 16 #[.agg #[.int .i64 k, .int .i64 a, .int .i64 b]] w fun r w' => r = .returned (.bool false) ∧ Below w.heap.size w w' := by
  by_cases c1 : 1 ≤ k ∧ k ≤ 7
  · by_cases c2 : 0 ≤ a ∧ a ≤ 999
    · have c3 : b < 0 ∨ 999 < b := by omega
      replace h := Lib.hid h
      go_enter Tryd.func16, Tryd.ntmps16
      go_wp2_with (go_at_call 29; first
        | ((with_reducible refine (in_t _ _ _ _ (by omega) (by omega)).mono ?_); rintro e w' ⟨rfl, rfl⟩)
        | ((with_reducible refine (in_f _ _ _ _ (by omega)).mono ?_); rintro e w' ⟨rfl, rfl⟩))
      go_ret
      exact ⟨rfl, by (repeat (first | exact Below.refl _ _ | assumption | refine bchain (by assumption) ?_ | refine balloc ?_ _ | apply Below.drew | apply below_drewN | (refine Below.alloc ?_ (by (try simp) <;> omega) _) | (refine Below.setCell ?_ (by (try simp) <;> omega) _)))⟩
    · have c3 : a < 0 ∨ 999 < a := by omega
      replace h := Lib.hid h
      go_enter Tryd.func16, Tryd.ntmps16
      go_wp2_with (go_at_call 29; first
        | ((with_reducible refine (in_t _ _ _ _ (by omega) (by omega)).mono ?_); rintro e w' ⟨rfl, rfl⟩)
        | ((with_reducible refine (in_f _ _ _ _ (by omega)).mono ?_); rintro e w' ⟨rfl, rfl⟩))
      go_ret
      exact ⟨rfl, by (repeat (first | exact Below.refl _ _ | assumption | refine bchain (by assumption) ?_ | refine balloc ?_ _ | apply Below.drew | apply below_drewN | (refine Below.alloc ?_ (by (try simp) <;> omega) _) | (refine Below.setCell ?_ (by (try simp) <;> omega) _)))⟩
  · have c3 : k < 1 ∨ 7 < k := by omega
    replace h := Lib.hid h
    go_enter Tryd.func16, Tryd.ntmps16
    go_wp2_with (go_at_call 29; refine (in_f _ _ _ _ (by omega)).mono ?_; rintro e w' ⟨rfl, rfl⟩)
    go_ret
    exact ⟨rfl, by (repeat (first | exact Below.refl _ _ | assumption | refine bchain (by assumption) ?_ | refine balloc ?_ _ | apply Below.drew | apply below_drewN | (refine Below.alloc ?_ (by (try simp) <;> omega) _) | (refine Below.setCell ?_ (by (try simp) <;> omega) _)))⟩
theorem sldeed_any (k a b : Int) :
    Calls Tryd.prog 16 #[.agg #[.int .i64 k, .int .i64 a, .int .i64 b]] w fun r w' => r = .returned (.bool (decide (VD k a b))) ∧ Below w.heap.size w w' := by
  by_cases hk : 1 ≤ k ∧ k ≤ 7 ∧ 0 ≤ a ∧ a ≤ 999 ∧ 0 ≤ b ∧ b ≤ 999
  · obtain ⟨hk1, hk7, a0, a9, b0, b9⟩ := hk
    obtain ⟨n, rfl⟩ : ∃ n : Nat, k = n := ⟨k.toNat, by omega⟩
    have hm := wdN_b n (by omega)
    obtain ⟨R, hR⟩ : ∃ R : Bool, decide (VD (n : Int) a b) = R := ⟨_, rfl⟩
    have hR2 : R = true ↔ (a = 0 ∨ 0 < wdN n) ∧ (b = 0 ∨ 1 < wdN n) := by
      rw [← hR, decide_eq_true_iff]
      unfold VD
      rw [Int.toNat_natCast]
      constructor
      · rintro ⟨_, _, _, _, _, _, h⟩; exact h
      · intro h; exact ⟨hk1, hk7, a0, a9, b0, b9, h⟩
    rw [hR]
    clear hR
    have hF : ¬ ((a = 0 ∨ 0 < wdN n) ∧ (b = 0 ∨ 1 < wdN n)) → R = false := fun h => by cases R; rfl; exact absurd (hR2.1 rfl) h
    have hT := hR2.2
    obtain ⟨m, hm2⟩ : ∃ m, wdN n = m := ⟨_, rfl⟩
    rw [hm2] at hF hT hm
    replace hF := Lib.hid hF
    replace hT := Lib.hid hT
    replace hm2 := Lib.hid hm2
    have hn8 : (n : Int) < 8 := by omega
    have hn0 : (0 : Int) ≤ (n : Int) := by omega
    have hsw := Lib.hid (fun W => swords_any W)
    unfold WordsL at hsw
    clear hR2
    go_enter Tryd.func16, Tryd.ntmps16
    go_wp2_with (first
      | (go_at_call 29; refine (in_t _ _ _ _ (by omega) (by omega)).mono ?_; rintro e w' ⟨rfl, rfl⟩)
      | fail)
    refine (hsw.out _).mono ?_
    rintro r1 w1 ⟨A, B, rfl, hb1, hA, hB, cA, cB⟩
    have hc := cB n (by omega)
    rw [hm2.out] at hc
    have k0 := (hb1.cell (p := ⟨w.heap.size, 0, none⟩) (by simp)).trans (World.cell?_alloc_new _ _ _ _)
    have k1 := (hb1.cell (p := ⟨w.heap.size, 1, none⟩) (by simp)).trans (World.cell?_alloc_new _ _ _ _)
    have k2 := (hb1.cell (p := ⟨w.heap.size, 2, none⟩) (by simp)).trans (World.cell?_alloc_new _ _ _ _)
    simp at k0 k1 k2
    replace cA := Lib.hid cA
    replace cB := Lib.hid cB
    have hB0 : Below w.heap.size w w1 := by (repeat (first | exact Below.refl _ _ | assumption | refine bchain (by assumption) ?_ | refine balloc ?_ _ | apply Below.drew | apply below_drewN | (refine Below.alloc ?_ (by (try simp) <;> omega) _) | (refine Below.setCell ?_ (by (try simp) <;> omega) _)))
    clear hb1 hsw hm2
    by_cases p : 0 < m
    · by_cases r : 1 < m
      · obtain rfl := hT.out ⟨.inr p, .inr r⟩
        go_wp2
        go_ret
        exact ⟨rfl, hB0⟩
      · by_cases s : b = 0
        · obtain rfl := hT.out ⟨.inr p, .inl s⟩
          subst s
          go_wp2
          go_ret
          exact ⟨rfl, hB0⟩
        · obtain rfl := hF.out (fun h => h.2.elim s r)
          have d1 := decide_eq_false r
          have e3 : (b == 0) = false := by simp [s]
          go_wp2
          go_ret
          exact ⟨rfl, hB0⟩
    · by_cases s : a = 0
      · have p2 : ¬ 1 < m := by omega
        by_cases s2 : b = 0
        · obtain rfl := hT.out ⟨.inl s, .inl s2⟩
          subst s
          subst s2
          go_wp2
          go_ret
          exact ⟨rfl, hB0⟩
        · obtain rfl := hF.out (fun h => h.2.elim s2 p2)
          subst s
          have d1 := decide_eq_false p2
          have e3 : (b == 0) = false := by simp [s2]
          go_wp2
          go_ret
          exact ⟨rfl, hB0⟩
      · obtain rfl := hF.out (fun h => h.1.elim s p)
        have e3 : (a == 0) = false := by simp [s]
        go_wp2
        go_ret
        exact ⟨rfl, hB0⟩
  · obtain ⟨R, hR⟩ : ∃ R : Bool, decide (VD k a b) = R := ⟨_, rfl⟩
    have : R = false := by rw [← hR, decide_eq_false_iff_not]; exact fun h => hk ⟨h.1, h.2.1, h.2.2.1, h.2.2.2.1, h.2.2.2.2.1, h.2.2.2.2.2.1⟩
    subst this
    rw [hR]
    exact sldeed_f w k a b hk
end
end Go.Proofs.YtdbidlnkaplekaaDoor
