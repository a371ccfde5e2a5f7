/-
  Are two sums that lie in statements' boxes the same: the model.
-/
import Derived.Test.YtfpoekdcedbciaaSTsame
import Derived.Test.YtfpoekdcedbciaaQv
namespace Go.Proofs.Ytfpoekdcedbciaa
open Go.RowKit
set_option maxRecDepth 100000
section
variable (w : World)
set_option maxHeartbeats 1000000 in
theorem sstL_any (n0 e0 s0 : Int) (u v : Value) (xs ys : List TE) (B1 B2 : Nat) (c1 : SC w B1 n0 e0 s0 u) (c2 : SC w B2 n0 e0 s0 v) (hS : SlT w u xs) (hS' : SlT w v ys) (hm : xs.length ≤ 1048576) (B : Bool) (hB0 : B = true ↔ xs = ys) :
    Calls Try.prog 67 #[.pointer (some ⟨B1, 1, none⟩), .pointer (some ⟨B2, 1, none⟩)] w fun r w' => r = .returned (.bool B) ∧ Below w.heap.size w w' := by
  obtain ⟨a, cap, rfl, h1, h2, h3⟩ := hS
  obtain ⟨a', cap', rfl, h1', h2', h3'⟩ := hS'
  replace hB0 := Lib.hid hB0
  have hqq : ∀ W, (Op.equalIn 10000 36 (.agg #[.int .i64 n0, .int .u32 e0]) (.agg #[.int .i64 n0, .int .u32 e0])).run Try.prog W = .ok true W := fun W => by rw [eqGrK]; simp
  by_cases hl : xs.length = ys.length
  · rw [← hl] at h3' h1' c2
    obtain ⟨n, hn⟩ : ∃ n, n = xs.length := ⟨_, rfl⟩
    have hl2 := hl
    rw [← hn] at hm h1 h1' h3' hl c1 c2
    have h3'' : 0 < n → ∃ b off, a' = some ⟨b, off, none⟩ ∧ b < w.heap.size ∧ ∀ i, i < n → TCell w b off (tAt ys i) i := fun h => h3' (by intro c; rw [c] at hl; simp at hl; omega)
    have h3b : 0 < n → ∃ b off, a = some ⟨b, off, none⟩ ∧ b < w.heap.size ∧ ∀ i, i < n → TCell w b off (tAt xs i) i := fun h => by rw [hn]; exact h3 (by intro c; rw [c] at hn; simp at hn; omega)
    clear h3 h3' hl
    replace h3'' := Lib.hid h3''
    replace h3b := Lib.hid h3b
    replace hn := Lib.hid hn.symm
    replace hl := Lib.hid hl2
    clear hl2
    obtain ⟨z1, p0, p1, p2, p3, _⟩ := id c1
    obtain ⟨z2, r0, r1, r2, r3, _⟩ := id c2
    go_enter Try.func67, Try.ntmps67
    go_wp2
    go_quiet (fail)
    go_wp2
    go_loopw [5] (fun i wr => ∃ k : Nat, k ≤ n ∧ i = .int .i64 k ∧ (∀ j, j < k → tAt xs j = tAt ys j) ∧ Below w.heap.size w wr) (fun i _ => n - (intOf i).toNat)
    case atStart => exact ⟨0, by omega, rfl, fun j hj => by omega, by (repeat (first | exact Below.refl _ _ | assumption | refine bchain (by assumption) ?_ | refine balloc ?_ _ | apply Below.drew | apply below_drewN | (refine Below.alloc ?_ (by (try simp) <;> omega) _) | (refine Below.setCell ?_ (by (try simp) <;> omega) _)))⟩
    case round =>
      clear p0 p1 p2 p3 r0 r1 r2 r3
      obtain ⟨k, hk, rfl, heq, hB⟩ := hrel
      have q1 := (c1.below hB).c3
      have q2 := (c2.below hB).c3
      by_cases hlt : k < n
      · obtain ⟨b, off, rfl, hb, hg⟩ := h3b.out (by omega)
        obtain ⟨b', off', rfl, hb', hg'⟩ := h3''.out (by omega)
        obtain ⟨x0, x1, x2, x3, x4, hxy⟩ : ∃ x0 x1 x2 x3 x4, tAt xs k = ⟨x0, x1, x2, x3, x4⟩ := ⟨_, _, _, _, _, rfl⟩
        obtain ⟨y0, y1, y2, y3, y4, hxy2⟩ : ∃ y0 y1 y2 y3 y4, tAt ys k = ⟨y0, y1, y2, y3, y4⟩ := ⟨_, _, _, _, _, rfl⟩
        have s0 : wr.cell? ⟨b, off + k * 5, none⟩ = some (.int .i64 x0) := by rw [hB.cell (p := ⟨b, _, none⟩) hb, (hg k hlt).1, hxy]
        have s1 : wr.cell? ⟨b, off + k * 5 + 1, none⟩ = some (.int .i64 x1) := by rw [hB.cell (p := ⟨b, _, none⟩) hb, (hg k hlt).2.1, hxy]
        have s2 : wr.cell? ⟨b, off + k * 5 + 2, none⟩ = some (.int .u32 x2) := by rw [hB.cell (p := ⟨b, _, none⟩) hb, (hg k hlt).2.2.1, hxy]
        have s3 : wr.cell? ⟨b, off + k * 5 + 3, none⟩ = some (.int .i64 x3) := by rw [hB.cell (p := ⟨b, _, none⟩) hb, (hg k hlt).2.2.2.1, hxy]
        have s4 : wr.cell? ⟨b, off + k * 5 + 4, none⟩ = some (.int .i64 x4) := by rw [hB.cell (p := ⟨b, _, none⟩) hb, (hg k hlt).2.2.2.2, hxy]
        have t0 : wr.cell? ⟨b', off' + k * 5, none⟩ = some (.int .i64 y0) := by rw [hB.cell (p := ⟨b', _, none⟩) hb', (hg' k hlt).1, hxy2]
        have t1 : wr.cell? ⟨b', off' + k * 5 + 1, none⟩ = some (.int .i64 y1) := by rw [hB.cell (p := ⟨b', _, none⟩) hb', (hg' k hlt).2.1, hxy2]
        have t2 : wr.cell? ⟨b', off' + k * 5 + 2, none⟩ = some (.int .u32 y2) := by rw [hB.cell (p := ⟨b', _, none⟩) hb', (hg' k hlt).2.2.1, hxy2]
        have t3 : wr.cell? ⟨b', off' + k * 5 + 3, none⟩ = some (.int .i64 y3) := by rw [hB.cell (p := ⟨b', _, none⟩) hb', (hg' k hlt).2.2.2.1, hxy2]
        have t4 : wr.cell? ⟨b', off' + k * 5 + 4, none⟩ = some (.int .i64 y4) := by rw [hB.cell (p := ⟨b', _, none⟩) hb', (hg' k hlt).2.2.2.2, hxy2]
        have hkn : (k : Int) < (n : Int) := by omega
        have hkn0 : (0 : Int) ≤ (k : Int) := by omega
        clear hg hg'
        replace heq := Lib.hid heq
        by_cases he : x0 = y0 ∧ x1 = y1 ∧ x2 = y2 ∧ x3 = y3 ∧ x4 = y4
        · obtain ⟨rfl, rfl, rfl, rfl, rfl⟩ := he
          have hq : ∀ W, (Op.equalIn 10000 142 (.agg #[.int .i64 x0, .int .i64 x1, .int .u32 x2, .int .i64 x3, .int .i64 x4]) (.agg #[.int .i64 x0, .int .i64 x1, .int .u32 x2, .int .i64 x3, .int .i64 x4])).run Try.prog W = .ok true W := fun W => by rw [eqTm]; simp
          have hne := Lib.hid (hxy.trans hxy2.symm)
          clear hxy hxy2
          go_wp2
          go_region_held3 (fun W => W.cell? ⟨b, off + k * 5, none⟩ = some (.int .i64 x0) ∧ W.cell? ⟨b, off + k * 5 + 1, none⟩ = some (.int .i64 x1) ∧ W.cell? ⟨b, off + k * 5 + 2, none⟩ = some (.int .u32 x2) ∧ W.cell? ⟨b, off + k * 5 + 3, none⟩ = some (.int .i64 x3) ∧ W.cell? ⟨b, off + k * 5 + 4, none⟩ = some (.int .i64 x4) ∧ W.cell? ⟨b', off' + k * 5, none⟩ = some (.int .i64 x0) ∧ W.cell? ⟨b', off' + k * 5 + 1, none⟩ = some (.int .i64 x1) ∧ W.cell? ⟨b', off' + k * 5 + 2, none⟩ = some (.int .u32 x2) ∧ W.cell? ⟨b', off' + k * 5 + 3, none⟩ = some (.int .i64 x3) ∧ W.cell? ⟨b', off' + k * 5 + 4, none⟩ = some (.int .i64 x4) ∧ W.cell? ⟨B1, 4, none⟩ = some (.slice (some ⟨b, off, none⟩) n cap) ∧ W.cell? ⟨B2, 4, none⟩ = some (.slice (some ⟨b', off', none⟩) n cap'))
            (exact ⟨s0, s1, s2, s3, s4, t0, t1, t2, t3, t4, q1, q2⟩) (fail)
          go_wp2
          go_roundw
          case rel => exact ⟨k + 1, by omega, by go_num, fun j hj => by
            by_cases e : j = k
            · rw [e]; exact hne.out
            · exact heq.out j (by omega), by (repeat (first | exact Below.refl _ _ | assumption | refine bchain (by assumption) ?_ | refine balloc ?_ _ | apply Below.drew | apply below_drewN | (refine Below.alloc ?_ (by (try simp) <;> omega) _) | (refine Below.setCell ?_ (by (try simp) <;> omega) _)))⟩
          case measure => simp [intOf]; omega
        · have hq : ∀ W, (Op.equalIn 10000 142 (.agg #[.int .i64 x0, .int .i64 x1, .int .u32 x2, .int .i64 x3, .int .i64 x4]) (.agg #[.int .i64 y0, .int .i64 y1, .int .u32 y2, .int .i64 y3, .int .i64 y4])).run Try.prog W = .ok false W := fun W => by
            rw [eqTm]
            have : ((x0 == y0 && (x1 == y1 && x2 == y2)) && (x3 == y3 && x4 == y4)) = false := by
              rw [Bool.eq_false_iff]
              intro h
              simp at h
              exact he ⟨h.1.1, h.1.2.1, h.1.2.2, h.2.1, h.2.2⟩
            rw [this]
          obtain rfl : B = false := by
            rw [Bool.eq_false_iff]
            intro c
            have c2 := hB0.out.1 c
            rw [c2, hxy2] at hxy
            cases hxy
            exact he ⟨rfl, rfl, rfl, rfl, rfl⟩
          clear he hxy hxy2 hB0
          go_wp2
          go_region_held3 (fun W => W.cell? ⟨b, off + k * 5, none⟩ = some (.int .i64 x0) ∧ W.cell? ⟨b, off + k * 5 + 1, none⟩ = some (.int .i64 x1) ∧ W.cell? ⟨b, off + k * 5 + 2, none⟩ = some (.int .u32 x2) ∧ W.cell? ⟨b, off + k * 5 + 3, none⟩ = some (.int .i64 x3) ∧ W.cell? ⟨b, off + k * 5 + 4, none⟩ = some (.int .i64 x4) ∧ W.cell? ⟨b', off' + k * 5, none⟩ = some (.int .i64 y0) ∧ W.cell? ⟨b', off' + k * 5 + 1, none⟩ = some (.int .i64 y1) ∧ W.cell? ⟨b', off' + k * 5 + 2, none⟩ = some (.int .u32 y2) ∧ W.cell? ⟨b', off' + k * 5 + 3, none⟩ = some (.int .i64 y3) ∧ W.cell? ⟨b', off' + k * 5 + 4, none⟩ = some (.int .i64 y4) ∧ W.cell? ⟨B1, 4, none⟩ = some (.slice (some ⟨b, off, none⟩) n cap) ∧ W.cell? ⟨B2, 4, none⟩ = some (.slice (some ⟨b', off', none⟩) n cap'))
            (exact ⟨s0, s1, s2, s3, s4, t0, t1, t2, t3, t4, q1, q2⟩) (fail)
          go_wp2
          go_ret
          exact ⟨rfl, by (repeat (first | exact Below.refl _ _ | assumption | refine bchain (by assumption) ?_ | refine balloc ?_ _ | apply Below.drew | apply below_drewN | (refine Below.alloc ?_ (by (try simp) <;> omega) _) | (refine Below.setCell ?_ (by (try simp) <;> omega) _)))⟩
      · obtain rfl : k = n := by omega
        have hd := decide_eq_false (show ¬ ((k : Int) < (k : Int)) by omega)
        obtain rfl : B = true := hB0.out.2 (tAt_ext hl.out (fun i hi => heq i (by rw [← hn.out]; exact hi)))
        clear heq
        go_wp2
        go_ret
        exact ⟨rfl, by (repeat (first | exact Below.refl _ _ | assumption | refine bchain (by assumption) ?_ | refine balloc ?_ _ | apply Below.drew | apply below_drewN | (refine Below.alloc ?_ (by (try simp) <;> omega) _) | (refine Below.setCell ?_ (by (try simp) <;> omega) _)))⟩
  · obtain rfl : B = false := by
      rw [Bool.eq_false_iff]
      intro c
      exact hl (by rw [hB0.out.1 c])
    have hd : ((xs.length : Int) == (ys.length : Int)) = false := by simp; omega
    obtain ⟨p, hp⟩ : ∃ p, xs.length = p := ⟨_, rfl⟩
    obtain ⟨q, hq⟩ : ∃ q, ys.length = q := ⟨_, rfl⟩
    rw [hp, hq] at hd
    rw [hp] at c1
    rw [hq] at c2
    obtain ⟨z1, p0, p1, p2, p3, _⟩ := id c1
    obtain ⟨z2, r0, r1, r2, r3, _⟩ := id c2
    clear h3 h3' hl hp hq hB0
    go_enter Try.func67, Try.ntmps67
    go_wp2
    go_quiet (fail)
    go_wp2
    go_ret
    exact ⟨rfl, by (repeat (first | exact Below.refl _ _ | assumption | refine bchain (by assumption) ?_ | refine balloc ?_ _ | apply Below.drew | apply below_drewN | (refine Below.alloc ?_ (by (try simp) <;> omega) _) | (refine Below.setCell ?_ (by (try simp) <;> omega) _)))⟩
set_option maxHeartbeats 1000000 in
theorem sstN_any (n e s m f t : Int) (a a' : Option Addr) (p q cap cap' : Nat) (B1 B2 : Nat) (c1 : SC w B1 n e s (.slice a p cap)) (c2 : SC w B2 m f t (.slice a' q cap')) (hne : ¬ (n = m ∧ e = f ∧ s = t)) :
    Calls Try.prog 67 #[.pointer (some ⟨B1, 1, none⟩), .pointer (some ⟨B2, 1, none⟩)] w fun r w' => r = .returned (.bool false) ∧ Below w.heap.size w w' := by
  obtain ⟨z1, p0, p1, p2, p3, _⟩ := id c1
  obtain ⟨z2, r0, r1, r2, r3, _⟩ := id c2
  by_cases c1 : n = m ∧ e = f
  · obtain ⟨rfl, rfl⟩ := c1
    have hqq : ∀ W, (Op.equalIn 10000 36 (.agg #[.int .i64 n, .int .u32 e]) (.agg #[.int .i64 n, .int .u32 e])).run Try.prog W = .ok true W := fun W => by rw [eqGrK]; simp
    have hd : (s != t) = true := by simp; intro c; exact hne ⟨rfl, rfl, c⟩
    clear hne
    go_enter Try.func67, Try.ntmps67
    go_wp2
    go_quiet (fail)
    go_wp2
    go_ret
    exact ⟨rfl, by (repeat (first | exact Below.refl _ _ | assumption | refine bchain (by assumption) ?_ | refine balloc ?_ _ | apply Below.drew | apply below_drewN | (refine Below.alloc ?_ (by (try simp) <;> omega) _) | (refine Below.setCell ?_ (by (try simp) <;> omega) _)))⟩
  · have hqq : ∀ W, (Op.equalIn 10000 36 (.agg #[.int .i64 n, .int .u32 e]) (.agg #[.int .i64 m, .int .u32 f])).run Try.prog W = .ok false W := fun W => by
      rw [eqGrK]
      have : (n == m && e == f) = false := by
        rw [Bool.eq_false_iff]
        intro h
        simp at h
        exact c1 h
      rw [this]
    clear hne
    go_enter Try.func67, Try.ntmps67
    go_wp2
    go_quiet (fail)
    go_wp2
    go_ret
    exact ⟨rfl, by (repeat (first | exact Below.refl _ _ | assumption | refine bchain (by assumption) ?_ | refine balloc ?_ _ | apply Below.drew | apply below_drewN | (refine Below.alloc ?_ (by (try simp) <;> omega) _) | (refine Below.setCell ?_ (by (try simp) <;> omega) _)))⟩
end
end Go.Proofs.Ytfpoekdcedbciaa
