/-
  Are two lists of flags the same: slices.Equal, and the model's loop.
-/
import Derived.Test.YtfpoekdcedbciaaKs
import Derived.Test.YtfpoekdcedbciaaKEq
import Derived.BigQuiet
namespace Go.Proofs.Ytfpoekdcedbciaa
open Go.RowKit
set_option maxRecDepth 100000
theorem kAt_ext {xs ys : List (Int × Int × Int)} (hl : xs.length = ys.length) (h : ∀ i, i < xs.length → kAt xs i = kAt ys i) : xs = ys := by
  refine List.ext_getElem hl ?_
  intro i h1 h2
  have := h i h1
  simpa [kAt, List.getElem?_eq_getElem h1, List.getElem?_eq_getElem h2] using this
section
variable (w : World)
set_option maxHeartbeats 1000000 in
theorem sleqK_any (u v : Value) (xs ys : List (Int × Int × Int)) (hS : SlK w u xs) (hS' : SlK w v ys) (hm : xs.length ≤ 1048576) (B : Bool) (hB0 : B = true ↔ xs = ys) :
    Calls Try.prog 80 #[u, v] w fun r w' => r = .returned (.bool B) ∧ Below w.heap.size w w' := by
  obtain ⟨a, cap, rfl, h1, h2, h3⟩ := hS
  obtain ⟨a', cap', rfl, h1', h2', h3'⟩ := hS'
  replace hB0 := Lib.hid hB0
  by_cases hl : xs.length = ys.length
  · rw [← hl] at h3' h1' ⊢
    obtain ⟨n, hn⟩ : ∃ n, n = xs.length := ⟨_, rfl⟩
    have hl2 := hl
    rw [← hn] at hm h1 h1' h3' hl ⊢
    have h3'' : 0 < n → ∃ b off, a' = some ⟨b, off, none⟩ ∧ b < w.heap.size ∧ ∀ i, i < n → KCell w b off (kAt ys i) i := fun h => h3' (by intro c; rw [c] at hl; simp at hl; omega)
    have h3b : 0 < n → ∃ b off, a = some ⟨b, off, none⟩ ∧ b < w.heap.size ∧ ∀ i, i < n → KCell w b off (kAt xs i) i := fun h => by rw [hn]; exact h3 (by intro c; rw [c] at hn; simp at hn; omega)
    clear h3 h3' hl
    replace h3'' := Lib.hid h3''
    replace h3b := Lib.hid h3b
    replace hn := Lib.hid hn.symm
    replace hl := Lib.hid hl2
    clear hl2
    go_enter Try.func80, Try.ntmps80
    go_wp2
    go_loopw [5, 13] (fun _ i wr => ∃ k : Nat, k ≤ n ∧ i = .int .i64 k ∧ (∀ j, j < k → kAt xs j = kAt ys j) ∧ Below w.heap.size w wr) (fun _ i _ => n - (intOf i).toNat)
    case atStart => exact ⟨0, by omega, rfl, fun j hj => by omega, by (repeat (first | exact Below.refl _ _ | assumption | refine bchain (by assumption) ?_ | refine balloc ?_ _ | apply Below.drew | apply below_drewN | (refine Below.alloc ?_ (by (try simp) <;> omega) _) | (refine Below.setCell ?_ (by (try simp) <;> omega) _)))⟩
    case round =>
      obtain ⟨k, hk, rfl, heq, hB⟩ := hrel
      by_cases hlt : k < n
      · obtain ⟨b, off, rfl, hb, hg⟩ := h3b.out (by omega)
        obtain ⟨b', off', rfl, hb', hg'⟩ := h3''.out (by omega)
        obtain ⟨x0, x1, x2, hxy⟩ : ∃ x0 x1 x2, kAt xs k = (x0, x1, x2) := ⟨_, _, _, rfl⟩
        obtain ⟨y0, y1, y2, hxy2⟩ : ∃ y0 y1 y2, kAt ys k = (y0, y1, y2) := ⟨_, _, _, rfl⟩
        have s0 : wr.cell? ⟨b, off + k * 3, none⟩ = some (.int .i64 x0) := by rw [hB.cell (p := ⟨b, _, none⟩) hb, (hg k hlt).1, hxy]
        have s1 : wr.cell? ⟨b, off + k * 3 + 1, none⟩ = some (.int .i64 x1) := by rw [hB.cell (p := ⟨b, _, none⟩) hb, (hg k hlt).2.1, hxy]
        have s2 : wr.cell? ⟨b, off + k * 3 + 2, none⟩ = some (.int .u32 x2) := by rw [hB.cell (p := ⟨b, _, none⟩) hb, (hg k hlt).2.2, hxy]
        have t0 : wr.cell? ⟨b', off' + k * 3, none⟩ = some (.int .i64 y0) := by rw [hB.cell (p := ⟨b', _, none⟩) hb', (hg' k hlt).1, hxy2]
        have t1 : wr.cell? ⟨b', off' + k * 3 + 1, none⟩ = some (.int .i64 y1) := by rw [hB.cell (p := ⟨b', _, none⟩) hb', (hg' k hlt).2.1, hxy2]
        have t2 : wr.cell? ⟨b', off' + k * 3 + 2, none⟩ = some (.int .u32 y2) := by rw [hB.cell (p := ⟨b', _, none⟩) hb', (hg' k hlt).2.2, hxy2]
        have hkn : (k : Int) < (n : Int) := by omega
        have hkn0 : (0 : Int) ≤ (k : Int) := by omega
        clear hg hg'
        replace heq := Lib.hid heq
        by_cases he : x0 = y0 ∧ x1 = y1 ∧ x2 = y2
        · obtain ⟨rfl, rfl, rfl⟩ := he
          have hq : ∀ W, (Op.equalIn 10000 73 (.agg #[.int .i64 x0, .int .i64 x1, .int .u32 x2]) (.agg #[.int .i64 x0, .int .i64 x1, .int .u32 x2])).run Try.prog W = .ok true W := fun W => by rw [eqFl]; simp
          have hne := Lib.hid (hxy.trans hxy2.symm)
          clear hxy hxy2
          go_wp2
          go_quiet (fail)
          go_wp2
          go_roundw
          case rel => exact ⟨k + 1, by omega, by go_num, fun j hj => by
            by_cases e : j = k
            · rw [e]; exact hne.out
            · exact heq.out j (by omega), by (repeat (first | exact Below.refl _ _ | assumption | refine bchain (by assumption) ?_ | refine balloc ?_ _ | apply Below.drew | apply below_drewN | (refine Below.alloc ?_ (by (try simp) <;> omega) _) | (refine Below.setCell ?_ (by (try simp) <;> omega) _)))⟩
          case measure => simp [intOf]; omega
        · have hq : ∀ W, (Op.equalIn 10000 73 (.agg #[.int .i64 x0, .int .i64 x1, .int .u32 x2]) (.agg #[.int .i64 y0, .int .i64 y1, .int .u32 y2])).run Try.prog W = .ok false W := fun W => by
            rw [eqFl]
            have : (x0 == y0 && (x1 == y1 && x2 == y2)) = false := by
              rw [Bool.eq_false_iff]
              intro h
              simp at h
              exact he h
            rw [this]
          obtain rfl : B = false := by
            rw [Bool.eq_false_iff]
            intro c
            have c2 := hB0.out.1 c
            rw [c2, hxy2] at hxy
            cases hxy
            exact he ⟨rfl, rfl, rfl⟩
          clear he hxy hxy2 hB0
          go_wp2
          go_quiet (fail)
          go_wp2
          go_ret
          exact ⟨rfl, by (repeat (first | exact Below.refl _ _ | assumption | refine bchain (by assumption) ?_ | refine balloc ?_ _ | apply Below.drew | apply below_drewN | (refine Below.alloc ?_ (by (try simp) <;> omega) _) | (refine Below.setCell ?_ (by (try simp) <;> omega) _)))⟩
      · obtain rfl : k = n := by omega
        have hd := decide_eq_false (show ¬ ((k : Int) < (k : Int)) by omega)
        obtain rfl : B = true := hB0.out.2 (kAt_ext hl.out (fun i hi => heq i (by rw [← hn.out]; exact hi)))
        clear heq
        go_wp2
        go_ret
        exact ⟨rfl, by (repeat (first | exact Below.refl _ _ | assumption | refine bchain (by assumption) ?_ | refine balloc ?_ _ | apply Below.drew | apply below_drewN | (refine Below.alloc ?_ (by (try simp) <;> omega) _) | (refine Below.setCell ?_ (by (try simp) <;> omega) _)))⟩
  · obtain rfl : B = false := by
      rw [Bool.eq_false_iff]
      intro c
      exact hl (by rw [hB0.out.1 c])
    have hd : ((xs.length : Int) == (ys.length : Int)) = false := by simp; omega
    obtain ⟨p, hp⟩ : ∃ p, xs.length = p := ⟨_, rfl⟩
    obtain ⟨q, hq⟩ : ∃ q, ys.length = q := ⟨_, rfl⟩
    rw [hp, hq] at hd
    rw [hp, hq]
    clear h3 h3' hl hp hq hB0
    go_enter Try.func80, Try.ntmps80
    go_wp2
    go_ret
    exact ⟨rfl, by (repeat (first | exact Below.refl _ _ | assumption | refine bchain (by assumption) ?_ | refine balloc ?_ _ | apply Below.drew | apply below_drewN | (refine Below.alloc ?_ (by (try simp) <;> omega) _) | (refine Below.setCell ?_ (by (try simp) <;> omega) _)))⟩
set_option maxHeartbeats 1000000 in
theorem ssk_any (u v : Value) (xs ys : List (Int × Int × Int)) (hS : SlK w u xs) (hS' : SlK w v ys) (hm : xs.length ≤ 1048576) (B : Bool) (hB0 : B = true ↔ xs = ys) :
    Calls Try.prog 75 #[u, v] w fun r w' => r = .returned (.bool B) ∧ Below w.heap.size w w' := by
  obtain ⟨a, cap, rfl, h1, h2, h3⟩ := hS
  obtain ⟨a', cap', rfl, h1', h2', h3'⟩ := hS'
  replace hB0 := Lib.hid hB0
  by_cases hl : xs.length = ys.length
  · rw [← hl] at h3' h1' ⊢
    obtain ⟨n, hn⟩ : ∃ n, n = xs.length := ⟨_, rfl⟩
    have hl2 := hl
    rw [← hn] at hm h1 h1' h3' hl ⊢
    have h3'' : 0 < n → ∃ b off, a' = some ⟨b, off, none⟩ ∧ b < w.heap.size ∧ ∀ i, i < n → KCell w b off (kAt ys i) i := fun h => h3' (by intro c; rw [c] at hl; simp at hl; omega)
    have h3b : 0 < n → ∃ b off, a = some ⟨b, off, none⟩ ∧ b < w.heap.size ∧ ∀ i, i < n → KCell w b off (kAt xs i) i := fun h => by rw [hn]; exact h3 (by intro c; rw [c] at hn; simp at hn; omega)
    clear h3 h3' hl
    replace h3'' := Lib.hid h3''
    replace h3b := Lib.hid h3b
    replace hn := Lib.hid hn.symm
    replace hl := Lib.hid hl2
    clear hl2
    go_enter Try.func75, Try.ntmps75
    go_wp2
    go_loopw [5] (fun i wr => ∃ k : Nat, k ≤ n ∧ i = .int .i64 k ∧ (∀ j, j < k → kAt xs j = kAt ys j) ∧ Below w.heap.size w wr) (fun i _ => n - (intOf i).toNat)
    case atStart => exact ⟨0, by omega, rfl, fun j hj => by omega, by (repeat (first | exact Below.refl _ _ | assumption | refine bchain (by assumption) ?_ | refine balloc ?_ _ | apply Below.drew | apply below_drewN | (refine Below.alloc ?_ (by (try simp) <;> omega) _) | (refine Below.setCell ?_ (by (try simp) <;> omega) _)))⟩
    case round =>
      obtain ⟨k, hk, rfl, heq, hB⟩ := hrel
      by_cases hlt : k < n
      · obtain ⟨b, off, rfl, hb, hg⟩ := h3b.out (by omega)
        obtain ⟨b', off', rfl, hb', hg'⟩ := h3''.out (by omega)
        obtain ⟨x0, x1, x2, hxy⟩ : ∃ x0 x1 x2, kAt xs k = (x0, x1, x2) := ⟨_, _, _, rfl⟩
        obtain ⟨y0, y1, y2, hxy2⟩ : ∃ y0 y1 y2, kAt ys k = (y0, y1, y2) := ⟨_, _, _, rfl⟩
        have s0 : wr.cell? ⟨b, off + k * 3, none⟩ = some (.int .i64 x0) := by rw [hB.cell (p := ⟨b, _, none⟩) hb, (hg k hlt).1, hxy]
        have s1 : wr.cell? ⟨b, off + k * 3 + 1, none⟩ = some (.int .i64 x1) := by rw [hB.cell (p := ⟨b, _, none⟩) hb, (hg k hlt).2.1, hxy]
        have s2 : wr.cell? ⟨b, off + k * 3 + 2, none⟩ = some (.int .u32 x2) := by rw [hB.cell (p := ⟨b, _, none⟩) hb, (hg k hlt).2.2, hxy]
        have t0 : wr.cell? ⟨b', off' + k * 3, none⟩ = some (.int .i64 y0) := by rw [hB.cell (p := ⟨b', _, none⟩) hb', (hg' k hlt).1, hxy2]
        have t1 : wr.cell? ⟨b', off' + k * 3 + 1, none⟩ = some (.int .i64 y1) := by rw [hB.cell (p := ⟨b', _, none⟩) hb', (hg' k hlt).2.1, hxy2]
        have t2 : wr.cell? ⟨b', off' + k * 3 + 2, none⟩ = some (.int .u32 y2) := by rw [hB.cell (p := ⟨b', _, none⟩) hb', (hg' k hlt).2.2, hxy2]
        have hkn : (k : Int) < (n : Int) := by omega
        have hkn0 : (0 : Int) ≤ (k : Int) := by omega
        clear hg hg'
        replace heq := Lib.hid heq
        by_cases he : x0 = y0 ∧ x1 = y1 ∧ x2 = y2
        · obtain ⟨rfl, rfl, rfl⟩ := he
          have hq : ∀ W, (Op.equalIn 10000 73 (.agg #[.int .i64 x0, .int .i64 x1, .int .u32 x2]) (.agg #[.int .i64 x0, .int .i64 x1, .int .u32 x2])).run Try.prog W = .ok true W := fun W => by rw [eqFl]; simp
          have hne := Lib.hid (hxy.trans hxy2.symm)
          clear hxy hxy2
          go_wp2
          go_quiet (fail)
          go_wp2
          go_roundw
          case rel => exact ⟨k + 1, by omega, by go_num, fun j hj => by
            by_cases e : j = k
            · rw [e]; exact hne.out
            · exact heq.out j (by omega), by (repeat (first | exact Below.refl _ _ | assumption | refine bchain (by assumption) ?_ | refine balloc ?_ _ | apply Below.drew | apply below_drewN | (refine Below.alloc ?_ (by (try simp) <;> omega) _) | (refine Below.setCell ?_ (by (try simp) <;> omega) _)))⟩
          case measure => simp [intOf]; omega
        · have hq : ∀ W, (Op.equalIn 10000 73 (.agg #[.int .i64 x0, .int .i64 x1, .int .u32 x2]) (.agg #[.int .i64 y0, .int .i64 y1, .int .u32 y2])).run Try.prog W = .ok false W := fun W => by
            rw [eqFl]
            have : (x0 == y0 && (x1 == y1 && x2 == y2)) = false := by
              rw [Bool.eq_false_iff]
              intro h
              simp at h
              exact he h
            rw [this]
          obtain rfl : B = false := by
            rw [Bool.eq_false_iff]
            intro c
            have c2 := hB0.out.1 c
            rw [c2, hxy2] at hxy
            cases hxy
            exact he ⟨rfl, rfl, rfl⟩
          clear he hxy hxy2 hB0
          go_wp2
          go_quiet (fail)
          go_wp2
          go_ret
          exact ⟨rfl, by (repeat (first | exact Below.refl _ _ | assumption | refine bchain (by assumption) ?_ | refine balloc ?_ _ | apply Below.drew | apply below_drewN | (refine Below.alloc ?_ (by (try simp) <;> omega) _) | (refine Below.setCell ?_ (by (try simp) <;> omega) _)))⟩
      · obtain rfl : k = n := by omega
        have hd := decide_eq_false (show ¬ ((k : Int) < (k : Int)) by omega)
        obtain rfl : B = true := hB0.out.2 (kAt_ext hl.out (fun i hi => heq i (by rw [← hn.out]; exact hi)))
        clear heq
        go_wp2
        go_ret
        exact ⟨rfl, by (repeat (first | exact Below.refl _ _ | assumption | refine bchain (by assumption) ?_ | refine balloc ?_ _ | apply Below.drew | apply below_drewN | (refine Below.alloc ?_ (by (try simp) <;> omega) _) | (refine Below.setCell ?_ (by (try simp) <;> omega) _)))⟩
  · obtain rfl : B = false := by
      rw [Bool.eq_false_iff]
      intro c
      exact hl (by rw [hB0.out.1 c])
    have hd : ((xs.length : Int) == (ys.length : Int)) = false := by simp; omega
    obtain ⟨p, hp⟩ : ∃ p, xs.length = p := ⟨_, rfl⟩
    obtain ⟨q, hq⟩ : ∃ q, ys.length = q := ⟨_, rfl⟩
    rw [hp, hq] at hd
    rw [hp, hq]
    clear h3 h3' hl hp hq hB0
    go_enter Try.func75, Try.ntmps75
    go_wp2
    go_ret
    exact ⟨rfl, by (repeat (first | exact Below.refl _ _ | assumption | refine bchain (by assumption) ?_ | refine balloc ?_ _ | apply Below.drew | apply below_drewN | (refine Below.alloc ?_ (by (try simp) <;> omega) _) | (refine Below.setCell ?_ (by (try simp) <;> omega) _)))⟩
end
end Go.Proofs.Ytfpoekdcedbciaa
