/-
  DIFFERENT VERTICES, the model's word, for lists that are a little longer than those that come in.
-/
import Derived.Test.YtdibcchhamapjaaDiff
namespace Go.Proofs.Ytdibcchhamapjaa
open Go.RowKit
set_option maxRecDepth 100000

section
variable (w : World)
theorem tdiff_empty (a : Option Addr) (cap : Nat) (n : Int) :
    Calls Try.prog 47 #[.slice a 0 cap, .int .i64 n] w fun r w' => r = .returned (.bool true) ∧ Below w.heap.size w w' := by
  go_enter Try.func47, Try.ntmps47
  go_wp2
  go_loopw [5] (fun i wr => i = .int .i64 0 ∧ Below w.heap.size w wr) (fun _ _ => 0)
  case atStart => exact ⟨rfl, by (repeat (first | exact Below.refl _ _ | assumption | refine bchain (by assumption) ?_ | refine balloc ?_ _ | apply Below.drew | apply below_drewN | (refine Below.alloc ?_ (by (try simp) <;> omega) _) | (refine Below.setCell ?_ (by (try simp) <;> omega) _)))⟩
  case round =>
    obtain ⟨rfl, hb⟩ := hrel
    go_wp2
    go_ret
    exact ⟨rfl, hb⟩

theorem tdiff_t (b off cap : Nat) (zs : List Int) (n : Int) (hm : zs.length ≤ 2097152) (hb : b < w.heap.size) (hn0 : 0 ≤ n) (hn5 : n ≤ 5)
    (hc : ∀ i, i < zs.length → w.cell? ⟨b, off + i, none⟩ = some (.int .i64 (zs[i]?.getD 0))) (hd : Diff zs n) :
    Calls Try.prog 47 #[.slice (some ⟨b, off, none⟩) zs.length cap, .int .i64 n] w fun r w' => r = .returned (.bool true) ∧ Below w.heap.size w w' := by
  obtain ⟨l, hl⟩ : ∃ l, l = zs.length := ⟨_, rfl⟩
  rw [← hl] at hm ⊢
  replace hl := Lib.hid hl
  replace hc := Lib.hid hc
  replace hd := Lib.hid hd
  go_enter Try.func47, Try.ntmps47
  go_wp2
  go_loopw [5] (fun i wr => ∃ k : Nat, k ≤ l ∧ i = .int .i64 k ∧ Below w.heap.size w wr) (fun i _ => l - (intOf i).toNat)
  case atStart => exact ⟨0, by omega, rfl, by (repeat (first | exact Below.refl _ _ | assumption | refine bchain (by assumption) ?_ | refine balloc ?_ _ | apply Below.drew | apply below_drewN | (refine Below.alloc ?_ (by (try simp) <;> omega) _) | (refine Below.setCell ?_ (by (try simp) <;> omega) _)))⟩
  case round =>
    obtain ⟨k, hk, rfl, hB⟩ := hrel
    by_cases hlt : k < l
    · have hs : wr.cell? ⟨b, off + k, none⟩ = some (.int .i64 (zi zs k)) := (hB.cell (p := ⟨b, off + k, none⟩) hb).trans (hc.out k (by have := hl.out; omega))
      obtain ⟨f1, f2, f3⟩ := hd.out k (by have := hl.out; omega)
      replace f3 := Lib.hid f3
      obtain ⟨z, hz⟩ : ∃ z, zi zs k = z := ⟨_, rfl⟩
      rw [hz] at hs f1 f2 f3
      clear hz
      go_wp2_with (go_at_call 61; refine (in_t _ _ _ _ (by omega) (by omega)).mono ?_; rintro e w' ⟨rfl, rfl⟩)
      obtain ⟨wo, rfl⟩ : ∃ wo : World, wo = wr := ⟨_, rfl⟩
      go_loopw [6] (fun j wr => ∃ m : Nat, m ≤ k ∧ j = .int .i64 m ∧ Below w.heap.size w wr) (fun j _ => k - (intOf j).toNat)
      case atStart => exact ⟨0, by omega, rfl, hB⟩
      case round =>
        obtain ⟨m, hmk, rfl, hB2⟩ := hrel
        by_cases hlt2 : m < k
        · have hs1 : wr.cell? ⟨b, off + k, none⟩ = some (.int .i64 z) := (hB2.cell (p := ⟨b, off + k, none⟩) hb).trans ((hB.cell (p := ⟨b, off + k, none⟩) hb).symm.trans hs)
          have hs2 : wr.cell? ⟨b, off + m, none⟩ = some (.int .i64 (zi zs m)) := (hB2.cell (p := ⟨b, off + m, none⟩) hb).trans (hc.out m (by have := hl.out; omega))
          have hne := f3.out m hlt2
          obtain ⟨y, hy⟩ : ∃ y, zi zs m = y := ⟨_, rfl⟩
          rw [hy] at hs2 hne
          have hne2 : (y == z) = false := by simpa using hne
          clear hy hne
          go_wp2
          go_quiet (fail)
          go_wp2
          go_roundw
          case rel => exact ⟨m + 1, by omega, by go_num, by (repeat (first | exact Below.refl _ _ | assumption | refine bchain (by assumption) ?_ | refine balloc ?_ _ | apply Below.drew | apply below_drewN | (refine Below.alloc ?_ (by (try simp) <;> omega) _) | (refine Below.setCell ?_ (by (try simp) <;> omega) _)))⟩
          case measure => simp [intOf]; omega
        · have hdd := decide_eq_false (show ¬ ((m : Int) < (k : Int)) by omega)
          go_wp2
          go_roundw
          case rel => exact ⟨k + 1, by omega, by go_num, by (repeat (first | exact Below.refl _ _ | assumption | refine bchain (by assumption) ?_ | refine balloc ?_ _ | apply Below.drew | apply below_drewN | (refine Below.alloc ?_ (by (try simp) <;> omega) _) | (refine Below.setCell ?_ (by (try simp) <;> omega) _)))⟩
          case measure => simp [intOf]; omega
    · have hdd := decide_eq_false (show ¬ ((k : Int) < (l : Int)) by omega)
      go_wp2
      go_ret
      exact ⟨rfl, hB⟩
theorem tdiff_f (b off cap : Nat) (zs : List Int) (n : Int) (hm : zs.length ≤ 2097152) (hb : b < w.heap.size) (hn0 : 0 ≤ n) (hn5 : n ≤ 5)
    (hc : ∀ i, i < zs.length → w.cell? ⟨b, off + i, none⟩ = some (.int .i64 (zs[i]?.getD 0))) (M : Nat) (hM : M < zs.length) (hd : ∀ k, k < M → Fresh zs n k) (hbad : ¬ Fresh zs n M) :
    Calls Try.prog 47 #[.slice (some ⟨b, off, none⟩) zs.length cap, .int .i64 n] w fun r w' => r = .returned (.bool false) ∧ Below w.heap.size w w' := by
  obtain ⟨l, hl⟩ : ∃ l, l = zs.length := ⟨_, rfl⟩
  rw [← hl] at hm hM ⊢
  replace hl := Lib.hid hl
  replace hc := Lib.hid hc
  replace hd := Lib.hid hd
  replace hbad := Lib.hid hbad
  go_enter Try.func47, Try.ntmps47
  go_wp2
  go_loopw [5] (fun i wr => ∃ k : Nat, k ≤ M ∧ i = .int .i64 k ∧ Below w.heap.size w wr) (fun i _ => M - (intOf i).toNat)
  case atStart => exact ⟨0, by omega, rfl, by (repeat (first | exact Below.refl _ _ | assumption | refine bchain (by assumption) ?_ | refine balloc ?_ _ | apply Below.drew | apply below_drewN | (refine Below.alloc ?_ (by (try simp) <;> omega) _) | (refine Below.setCell ?_ (by (try simp) <;> omega) _)))⟩
  case round =>
    obtain ⟨k, hk, rfl, hB⟩ := hrel
    have hlt0 : k < l := by omega
    have hs : wr.cell? ⟨b, off + k, none⟩ = some (.int .i64 (zi zs k)) := (hB.cell (p := ⟨b, off + k, none⟩) hb).trans (hc.out k (by have := hl.out; omega))
    by_cases hlt : k < M
    · obtain ⟨f1, f2, f3⟩ := hd.out k hlt
      replace f3 := Lib.hid f3
      obtain ⟨z, hz⟩ : ∃ z, zi zs k = z := ⟨_, rfl⟩
      rw [hz] at hs f1 f2 f3
      clear hz
      go_wp2_with (go_at_call 61; refine (in_t _ _ _ _ (by omega) (by omega)).mono ?_; rintro e w' ⟨rfl, rfl⟩)
      obtain ⟨wo, rfl⟩ : ∃ wo : World, wo = wr := ⟨_, rfl⟩
      go_loopw [6] (fun j wr => ∃ m : Nat, m ≤ k ∧ j = .int .i64 m ∧ Below w.heap.size w wr) (fun j _ => k - (intOf j).toNat)
      case atStart => exact ⟨0, by omega, rfl, hB⟩
      case round =>
        obtain ⟨m, hmk, rfl, hB2⟩ := hrel
        by_cases hlt2 : m < k
        · have hs1 : wr.cell? ⟨b, off + k, none⟩ = some (.int .i64 z) := (hB2.cell (p := ⟨b, off + k, none⟩) hb).trans ((hB.cell (p := ⟨b, off + k, none⟩) hb).symm.trans hs)
          have hs2 : wr.cell? ⟨b, off + m, none⟩ = some (.int .i64 (zi zs m)) := (hB2.cell (p := ⟨b, off + m, none⟩) hb).trans (hc.out m (by have := hl.out; omega))
          have hne := f3.out m hlt2
          obtain ⟨y, hy⟩ : ∃ y, zi zs m = y := ⟨_, rfl⟩
          rw [hy] at hs2 hne
          have hne2 : (y == z) = false := by simpa using hne
          clear hy hne
          go_wp2
          go_quiet (fail)
          go_wp2
          go_roundw
          case rel => exact ⟨m + 1, by omega, by go_num, by (repeat (first | exact Below.refl _ _ | assumption | refine bchain (by assumption) ?_ | refine balloc ?_ _ | apply Below.drew | apply below_drewN | (refine Below.alloc ?_ (by (try simp) <;> omega) _) | (refine Below.setCell ?_ (by (try simp) <;> omega) _)))⟩
          case measure => simp [intOf]; omega
        · have hdd := decide_eq_false (show ¬ ((m : Int) < (k : Int)) by omega)
          go_wp2
          go_roundw
          case rel => exact ⟨k + 1, by omega, by go_num, by (repeat (first | exact Below.refl _ _ | assumption | refine bchain (by assumption) ?_ | refine balloc ?_ _ | apply Below.drew | apply below_drewN | (refine Below.alloc ?_ (by (try simp) <;> omega) _) | (refine Below.setCell ?_ (by (try simp) <;> omega) _)))⟩
          case measure => simp [intOf]; omega
    · obtain rfl : k = M := by omega
      by_cases hr : 0 ≤ zi zs k ∧ zi zs k < n
      · obtain ⟨f1, f2⟩ := hr
        obtain ⟨q, hq, he, hq2⟩ : ∃ q, q < k ∧ zi zs q = zi zs k ∧ ∀ j, j < q → zi zs j ≠ zi zs k := by
          have hx : ¬ ∀ j, j < k → zi zs j ≠ zi zs k := fun c => hbad.out ⟨f1, f2, c⟩
          have key : ∀ m, (∀ j, j < m → zi zs j ≠ zi zs k) ∨ ∃ q, q < m ∧ zi zs q = zi zs k ∧ ∀ j, j < q → zi zs j ≠ zi zs k := by
            intro m
            induction m with
            | zero => exact .inl (fun j hj => by omega)
            | succ m ih =>
              rcases ih with h1 | ⟨q, h1, h2⟩
              · by_cases e : zi zs m = zi zs k
                · exact .inr ⟨m, by omega, e, h1⟩
                · refine .inl (fun j hj => ?_)
                  by_cases ej : j = m
                  · rw [ej]; exact e
                  · exact h1 j (by omega)
              · exact .inr ⟨q, by omega, h2⟩
          rcases key k with h1 | h1
          · exact absurd h1 hx
          · exact h1
        replace hq2 := Lib.hid hq2
        replace he := Lib.hid he
        obtain ⟨z, hz⟩ : ∃ z, zi zs k = z := ⟨_, rfl⟩
        rw [hz] at hs f1 f2 he hq2
        clear hz
        go_wp2_with (go_at_call 61; refine (in_t _ _ _ _ (by omega) (by omega)).mono ?_; rintro e w' ⟨rfl, rfl⟩)
        obtain ⟨wo, rfl⟩ : ∃ wo : World, wo = wr := ⟨_, rfl⟩
        go_loopw [6] (fun j wr => ∃ m : Nat, m ≤ q ∧ j = .int .i64 m ∧ Below w.heap.size w wr) (fun j _ => q - (intOf j).toNat)
        case atStart => exact ⟨0, by omega, rfl, hB⟩
        case round =>
          obtain ⟨m, hmk, rfl, hB2⟩ := hrel
          have hlt3 : m < k := by omega
          have hs1 : wr.cell? ⟨b, off + k, none⟩ = some (.int .i64 z) := (hB2.cell (p := ⟨b, off + k, none⟩) hb).trans ((hB.cell (p := ⟨b, off + k, none⟩) hb).symm.trans hs)
          have hs2 : wr.cell? ⟨b, off + m, none⟩ = some (.int .i64 (zi zs m)) := (hB2.cell (p := ⟨b, off + m, none⟩) hb).trans (hc.out m (by have := hl.out; omega))
          by_cases hlt2 : m < q
          · have hne := hq2.out m hlt2
            obtain ⟨y, hy⟩ : ∃ y, zi zs m = y := ⟨_, rfl⟩
            rw [hy] at hs2 hne
            have hne2 : (y == z) = false := by simpa using hne
            clear hy hne
            go_wp2
            go_quiet (fail)
            go_wp2
            go_roundw
            case rel => exact ⟨m + 1, by omega, by go_num, by (repeat (first | exact Below.refl _ _ | assumption | refine bchain (by assumption) ?_ | refine balloc ?_ _ | apply Below.drew | apply below_drewN | (refine Below.alloc ?_ (by (try simp) <;> omega) _) | (refine Below.setCell ?_ (by (try simp) <;> omega) _)))⟩
            case measure => simp [intOf]; omega
          · obtain rfl : m = q := by omega
            rw [he.out] at hs2
            have heq2 : (z == z) = true := by simp
            go_wp2
            go_quiet (fail)
            go_wp2
            go_ret
            exact ⟨rfl, by (repeat (first | exact Below.refl _ _ | assumption | refine bchain (by assumption) ?_ | refine balloc ?_ _ | apply Below.drew | apply below_drewN | (refine Below.alloc ?_ (by (try simp) <;> omega) _) | (refine Below.setCell ?_ (by (try simp) <;> omega) _)))⟩
      · have hrr : zi zs k < 0 ∨ n - 1 < zi zs k := by omega
        obtain ⟨z, hz⟩ : ∃ z, zi zs k = z := ⟨_, rfl⟩
        rw [hz] at hs hrr
        clear hz hr
        go_wp2_with (go_at_call 61; refine (in_f _ _ _ _ hrr).mono ?_; rintro e w' ⟨rfl, rfl⟩)
        go_ret
        exact ⟨rfl, hB⟩

open Classical in
theorem tdiff_any (v : Value) (zs : List Int) (n : Int) (h : SlI w v zs) (hm : zs.length ≤ 2097152) (hn0 : 0 ≤ n) (hn5 : n ≤ 5) :
    Calls Try.prog 47 #[v, .int .i64 n] w fun r w' => r = .returned (.bool (decide (Diff zs n))) ∧ Below w.heap.size w w' := by
  obtain ⟨a, cap, rfl, h1, h2, h3⟩ := h
  cases zs with
  | nil =>
    rw [decide_eq_true (show Diff [] n from fun k hk => absurd hk (Nat.not_lt_zero _))]
    exact tdiff_empty w a cap n
  | cons z zs =>
    obtain ⟨b, off, rfl, hb, hc⟩ := h3 (by simp)
    by_cases hd : Diff (z :: zs) n
    · rw [decide_eq_true hd]
      exact tdiff_t w b off cap (z :: zs) n hm hb hn0 hn5 hc hd
    · rw [decide_eq_false hd]
      obtain ⟨m, hm2, hf, hbad⟩ := not_diff hd
      exact tdiff_f w b off cap (z :: zs) n hm hb hn0 hn5 hc m hm2 hf hbad
end
end Go.Proofs.Ytdibcchhamapjaa
