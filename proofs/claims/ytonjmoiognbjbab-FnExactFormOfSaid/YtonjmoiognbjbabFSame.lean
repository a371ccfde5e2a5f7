/-
  TWO LISTS OF ROWS HELD AGAINST EACH OTHER: the program's and the model's contracts.
-/
import Derived.Test.YtonjmoiognbjbabMs
import Derived.Test.YtonjmoiognbjbabFWh
import Derived.Deep.RegionHeld3
namespace Go.Proofs.Ytonjmoiognbjbab
open Go.RowKit
set_option maxRecDepth 100000

theorem gAt_ext {xs ys : List (Int × Int)} (hl : xs.length = ys.length) (h : ∀ i, i < xs.length → gAt xs i = gAt ys i) : xs = ys := by
  apply List.ext_getElem hl
  intro i h1 h2
  have := h i h1
  simpa [gAt, List.getElem?_eq_getElem h1, List.getElem?_eq_getElem h2] using this
theorem rAt_ext {m n : List (List (Int × Int))} (hl : m.length = n.length) (h : ∀ i, i < m.length → rAt m i = rAt n i) : m = n := by
  apply List.ext_getElem hl
  intro i h1 h2
  have := h i h1
  simpa [rAt, List.getElem?_eq_getElem h1, List.getElem?_eq_getElem h2] using this
section
variable (w : World)
set_option maxHeartbeats 1000000 in
theorem sleq_any (u v : Value) (xs ys : List (Int × Int)) (hS : SlG w u xs) (hS' : SlG w v ys) (hm : xs.length ≤ 1048576) :
    Calls Try.prog 54 #[u, v] w fun r w' => r = .returned (.bool (decide (xs = ys))) ∧ Below w.heap.size w w' := by
  obtain ⟨a, cap, rfl, h1, h2, h3⟩ := hS
  obtain ⟨a', cap', rfl, h1', h2', h3'⟩ := hS'
  obtain ⟨B, hBe⟩ : ∃ B, decide (xs = ys) = B := ⟨_, rfl⟩
  rw [hBe]
  replace hBe := Lib.hid hBe
  by_cases hl : xs.length = ys.length
  · rw [← hl] at h3' h1' ⊢
    obtain ⟨n, hn⟩ : ∃ n, n = xs.length := ⟨_, rfl⟩
    rw [← hn] at hm h1 h1' h3' hl ⊢
    have h3'' : 0 < n → ∃ b off, a' = some ⟨b, off, none⟩ ∧ b < w.heap.size ∧ ∀ i, i < n → GCell w b off (gAt ys i) i := fun h => h3' (by intro c; rw [c] at hl; simp at hl; omega)
    have h3b : 0 < n → ∃ b off, a = some ⟨b, off, none⟩ ∧ b < w.heap.size ∧ ∀ i, i < n → GCell w b off (gAt xs i) i := fun h => by rw [hn]; exact h3 (by intro c; rw [c] at hn; simp at hn; omega)
    clear h3 h3'
    replace h3'' := Lib.hid h3''
    replace h3b := Lib.hid h3b
    replace hn := Lib.hid hn
    replace hl := Lib.hid hl
    go_enter Try.func54, Try.ntmps54
    go_wp2
    go_loopw [5, 13] (fun _ i wr => ∃ k : Nat, k ≤ n ∧ i = .int .i64 k ∧ (∀ j, j < k → gAt xs j = gAt ys j) ∧ Below w.heap.size w wr) (fun _ i _ => n - (intOf i).toNat)
    case atStart => exact ⟨0, by omega, rfl, fun j hj => by omega, by (repeat (first | exact Below.refl _ _ | assumption | refine bchain (by assumption) ?_ | refine balloc ?_ _ | apply Below.drew | apply below_drewN | (refine Below.alloc ?_ (by (try simp) <;> omega) _) | (refine Below.setCell ?_ (by (try simp) <;> omega) _)))⟩
    case round =>
      obtain ⟨k, hk, rfl, heq, hB⟩ := hrel
      by_cases hlt : k < n
      · obtain ⟨b, off, rfl, hb, hg⟩ := h3b.out (by omega)
        obtain ⟨b', off', rfl, hb', hg'⟩ := h3''.out (by omega)
        obtain ⟨x, y, hxy⟩ : ∃ x y, gAt xs k = (x, y) := ⟨_, _, rfl⟩
        obtain ⟨x', y', hxy'⟩ : ∃ x y, gAt ys k = (x, y) := ⟨_, _, rfl⟩
        have s0 : wr.cell? ⟨b, off + k * 2, none⟩ = some (.int .i64 x) := by rw [hB.cell (p := ⟨b, _, none⟩) hb, (hg k hlt).1, hxy]
        have s1 : wr.cell? ⟨b, off + k * 2 + 1, none⟩ = some (.int .i64 y) := by rw [hB.cell (p := ⟨b, _, none⟩) hb, (hg k hlt).2, hxy]
        have s2 : wr.cell? ⟨b', off' + k * 2, none⟩ = some (.int .i64 x') := by rw [hB.cell (p := ⟨b', _, none⟩) hb', (hg' k hlt).1, hxy']
        have s3 : wr.cell? ⟨b', off' + k * 2 + 1, none⟩ = some (.int .i64 y') := by rw [hB.cell (p := ⟨b', _, none⟩) hb', (hg' k hlt).2, hxy']
        have hkn : (k : Int) < (n : Int) := by omega
        have hkn0 : (0 : Int) ≤ (k : Int) := by omega
        clear hg hg'
        replace heq := Lib.hid heq
        by_cases he : x = x' ∧ y = y'
        · obtain ⟨rfl, rfl⟩ := he
          have hq : ∀ W, (Op.equalIn 10000 25 (.agg #[.int .i64 x, .int .i64 y]) (.agg #[.int .i64 x, .int .i64 y])).run Try.prog W = .ok true W := fun W => by rw [eqFr]; simp
          have hne := Lib.hid (hxy.trans hxy'.symm)
          clear hxy hxy'
          go_wp2
          go_region_held3 (fun W => W.cell? ⟨b, off + k * 2, none⟩ = some (.int .i64 x) ∧ W.cell? ⟨b, off + k * 2 + 1, none⟩ = some (.int .i64 y) ∧ W.cell? ⟨b', off' + k * 2, none⟩ = some (.int .i64 x) ∧ W.cell? ⟨b', off' + k * 2 + 1, none⟩ = some (.int .i64 y))
            (exact ⟨s0, s1, s2, s3⟩) (fail)
          go_wp2
          go_roundw
          case rel => exact ⟨k + 1, by omega, by go_num, fun j hj => by
            by_cases e : j = k
            · rw [e]; exact hne.out
            · exact heq.out j (by omega), by (repeat (first | exact Below.refl _ _ | assumption | refine bchain (by assumption) ?_ | refine balloc ?_ _ | apply Below.drew | apply below_drewN | (refine Below.alloc ?_ (by (try simp) <;> omega) _) | (refine Below.setCell ?_ (by (try simp) <;> omega) _)))⟩
          case measure => simp [intOf]; omega
        · have hq : ∀ W, (Op.equalIn 10000 25 (.agg #[.int .i64 x, .int .i64 y]) (.agg #[.int .i64 x', .int .i64 y'])).run Try.prog W = .ok false W := fun W => by
            rw [eqFr]
            have : (x == x' && y == y') = false := by
              rw [Bool.eq_false_iff]
              intro h
              simp at h
              exact he h
            rw [this]
          have hd : decide (xs = ys) = false := decide_eq_false (fun c => he (by rw [c, hxy'] at hxy; cases hxy; exact ⟨rfl, rfl⟩))
          obtain rfl : B = false := hBe.out.symm.trans hd
          clear hd he hxy hxy' hBe
          go_wp2
          go_region_held3 (fun W => W.cell? ⟨b, off + k * 2, none⟩ = some (.int .i64 x) ∧ W.cell? ⟨b, off + k * 2 + 1, none⟩ = some (.int .i64 y) ∧ W.cell? ⟨b', off' + k * 2, none⟩ = some (.int .i64 x') ∧ W.cell? ⟨b', off' + k * 2 + 1, none⟩ = some (.int .i64 y'))
            (exact ⟨s0, s1, s2, s3⟩) (fail)
          go_wp2
          go_ret
          exact ⟨rfl, by (repeat (first | exact Below.refl _ _ | assumption | refine bchain (by assumption) ?_ | refine balloc ?_ _ | apply Below.drew | apply below_drewN | (refine Below.alloc ?_ (by (try simp) <;> omega) _) | (refine Below.setCell ?_ (by (try simp) <;> omega) _)))⟩
      · have hd := decide_eq_false (show ¬ ((k : Int) < (n : Int)) by omega)
        obtain rfl : k = n := by omega
        have hd2 : decide (xs = ys) = true := decide_eq_true (gAt_ext (hn.out.symm.trans hl.out) (fun i hi => heq i (by have := hn.out; omega)))
        obtain rfl : B = true := hBe.out.symm.trans hd2
        clear heq hd2 hBe
        go_wp2
        go_ret
        exact ⟨rfl, hB⟩
  · obtain rfl : B = false := hBe.out.symm.trans (decide_eq_false (fun c => hl (by rw [c])))
    clear hBe
    obtain ⟨n, hn⟩ : ∃ n, n = xs.length := ⟨_, rfl⟩
    obtain ⟨n', hn'⟩ : ∃ n, n = ys.length := ⟨_, rfl⟩
    rw [← hn, ← hn'] at hl ⊢
    have hne2 : ((n : Int) != (n' : Int)) = true := by simp; omega
    clear h3 h3' hn hn'
    go_enter Try.func54, Try.ntmps54
    go_wp2
    go_ret
    exact ⟨rfl, by (repeat (first | exact Below.refl _ _ | assumption | refine bchain (by assumption) ?_ | refine balloc ?_ _ | apply Below.drew | apply below_drewN | (refine Below.alloc ?_ (by (try simp) <;> omega) _) | (refine Below.setCell ?_ (by (try simp) <;> omega) _)))⟩
end
end Go.Proofs.Ytonjmoiognbjbab
