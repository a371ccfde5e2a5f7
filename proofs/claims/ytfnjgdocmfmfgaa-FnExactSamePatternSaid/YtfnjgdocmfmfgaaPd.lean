/-
  Are two patterns the same: the program's word and the model's.
-/
import Derived.Test.YtfnjgdocmfmfgaaPt
import Derived.Laws.StructEq
import Derived.Laws.Tables
import Derived.KernelRfl
import Derived.Deep.RegionHeld3
import Derived.BigQuiet
namespace Go.Proofs.Ytfnjgdocmfmfgaa.Fr
open Go.RowKit
set_option maxRecDepth 100000
theorem gAt_ext {xs ys : List (Int × Int)} (hl : xs.length = ys.length) (h : ∀ i, i < xs.length → gAt xs i = gAt ys i) : xs = ys := by
  apply List.ext_getElem hl
  intro i h1 h2
  have := h i h1
  simpa [gAt, List.getElem?_eq_getElem h1, List.getElem?_eq_getElem h2] using this
section
variable (w : World)
set_option maxHeartbeats 1000000 in
theorem sleq_any (u v : Value) (xs ys : List (Int × Int)) (hS : SlG w u xs) (hS' : SlG w v ys) (hm : xs.length ≤ 1048576) :
    Calls Try.prog 55 #[u, v] w fun r w' => r = .returned (.bool (decide (xs = ys))) ∧ Below w.heap.size w w' := by
  obtain ⟨a, cap, rfl, h1, h2, h3⟩ := hS
  obtain ⟨a', cap', rfl, h1', h2', h3'⟩ := hS'
  obtain ⟨B, hBe⟩ : ∃ B, decide (xs = ys) = B := ⟨_, rfl⟩
  rw [hBe]
  replace hBe := Lib.hid hBe
  by_cases hl : xs.length = ys.length
  · rw [← hl] at h3' h1' ⊢
    obtain ⟨n, hn⟩ : ∃ n, n = xs.length := ⟨_, rfl⟩
    rw [← hn] at hm h1 h1' h3' hl ⊢
    have h3'' : 0 < n → ∃ b off, a' = some ⟨b, off, none⟩ ∧ b < w.heap.size ∧ ∀ i, i < n → GCell w b off (gAt ys i) i := fun h => h3' (by intro c; rw [c] at hl; simp at hl; omega)
    have h3b : 0 < n → ∃ b off, a = some ⟨b, off, none⟩ ∧ b < w.heap.size ∧ ∀ i, i < n → GCell w b off (gAt xs i) i := fun h => by rw [hn]; exact h3 (by intro c; rw [c] at hn; simp at hn; omega)
    clear h3 h3'
    replace h3'' := Lib.hid h3''
    replace h3b := Lib.hid h3b
    replace hn := Lib.hid hn
    replace hl := Lib.hid hl
    go_enter Try.func55, Try.ntmps55
    go_wp2
    go_loopw [5, 13] (fun _ i wr => ∃ k : Nat, k ≤ n ∧ i = .int .i64 k ∧ (∀ j, j < k → gAt xs j = gAt ys j) ∧ Below w.heap.size w wr) (fun _ i _ => n - (intOf i).toNat)
    case atStart => exact ⟨0, by omega, rfl, fun j hj => by omega, by (repeat (first | exact Below.refl _ _ | assumption | refine bchain (by assumption) ?_ | refine balloc ?_ _ | apply Below.drew | apply below_drewN | (refine Below.alloc ?_ (by (try simp) <;> omega) _) | (refine Below.setCell ?_ (by (try simp) <;> omega) _)))⟩
    case round =>
      obtain ⟨k, hk, rfl, heq, hB⟩ := hrel
      by_cases hlt : k < n
      · obtain ⟨b, off, rfl, hb, hg⟩ := h3b.out (by omega)
        obtain ⟨b', off', rfl, hb', hg'⟩ := h3''.out (by omega)
        obtain ⟨x, y, hxy⟩ : ∃ x y, gAt xs k = (x, y) := ⟨_, _, rfl⟩
        obtain ⟨x', y', hxy'⟩ : ∃ x y, gAt ys k = (x, y) := ⟨_, _, rfl⟩
        have s0 : wr.cell? ⟨b, off + k * 2, none⟩ = some (.int .i64 x) := by rw [hB.cell (p := ⟨b, _, none⟩) hb, (hg k hlt).1, hxy]
        have s1 : wr.cell? ⟨b, off + k * 2 + 1, none⟩ = some (.int .i64 y) := by rw [hB.cell (p := ⟨b, _, none⟩) hb, (hg k hlt).2, hxy]
        have s2 : wr.cell? ⟨b', off' + k * 2, none⟩ = some (.int .i64 x') := by rw [hB.cell (p := ⟨b', _, none⟩) hb', (hg' k hlt).1, hxy']
        have s3 : wr.cell? ⟨b', off' + k * 2 + 1, none⟩ = some (.int .i64 y') := by rw [hB.cell (p := ⟨b', _, none⟩) hb', (hg' k hlt).2, hxy']
        have hkn : (k : Int) < (n : Int) := by omega
        have hkn0 : (0 : Int) ≤ (k : Int) := by omega
        clear hg hg'
        replace heq := Lib.hid heq
        by_cases he : x = x' ∧ y = y'
        · obtain ⟨rfl, rfl⟩ := he
          have hq : ∀ W, (Op.equalIn 10000 66 (.agg #[.int .i64 x, .int .i64 y]) (.agg #[.int .i64 x, .int .i64 y])).run Try.prog W = .ok true W := fun W => by rw [eqFr]; simp
          have hne := Lib.hid (hxy.trans hxy'.symm)
          clear hxy hxy'
          go_wp2
          go_region_held3 (fun W => W.cell? ⟨b, off + k * 2, none⟩ = some (.int .i64 x) ∧ W.cell? ⟨b, off + k * 2 + 1, none⟩ = some (.int .i64 y) ∧ W.cell? ⟨b', off' + k * 2, none⟩ = some (.int .i64 x) ∧ W.cell? ⟨b', off' + k * 2 + 1, none⟩ = some (.int .i64 y))
            (exact ⟨s0, s1, s2, s3⟩) (fail)
          go_wp2
          go_roundw
          case rel => exact ⟨k + 1, by omega, by go_num, fun j hj => by
            by_cases e : j = k
            · rw [e]; exact hne.out
            · exact heq.out j (by omega), by (repeat (first | exact Below.refl _ _ | assumption | refine bchain (by assumption) ?_ | refine balloc ?_ _ | apply Below.drew | apply below_drewN | (refine Below.alloc ?_ (by (try simp) <;> omega) _) | (refine Below.setCell ?_ (by (try simp) <;> omega) _)))⟩
          case measure => simp [intOf]; omega
        · have hq : ∀ W, (Op.equalIn 10000 66 (.agg #[.int .i64 x, .int .i64 y]) (.agg #[.int .i64 x', .int .i64 y'])).run Try.prog W = .ok false W := fun W => by
            rw [eqFr]
            have : (x == x' && y == y') = false := by
              rw [Bool.eq_false_iff]
              intro h
              simp at h
              exact he h
            rw [this]
          have hd : decide (xs = ys) = false := decide_eq_false (fun c => he (by rw [c, hxy'] at hxy; cases hxy; exact ⟨rfl, rfl⟩))
          obtain rfl : B = false := hBe.out.symm.trans hd
          clear hd he hxy hxy' hBe
          go_wp2
          go_region_held3 (fun W => W.cell? ⟨b, off + k * 2, none⟩ = some (.int .i64 x) ∧ W.cell? ⟨b, off + k * 2 + 1, none⟩ = some (.int .i64 y) ∧ W.cell? ⟨b', off' + k * 2, none⟩ = some (.int .i64 x') ∧ W.cell? ⟨b', off' + k * 2 + 1, none⟩ = some (.int .i64 y'))
            (exact ⟨s0, s1, s2, s3⟩) (fail)
          go_wp2
          go_ret
          exact ⟨rfl, by (repeat (first | exact Below.refl _ _ | assumption | refine bchain (by assumption) ?_ | refine balloc ?_ _ | apply Below.drew | apply below_drewN | (refine Below.alloc ?_ (by (try simp) <;> omega) _) | (refine Below.setCell ?_ (by (try simp) <;> omega) _)))⟩
      · have hd := decide_eq_false (show ¬ ((k : Int) < (n : Int)) by omega)
        obtain rfl : k = n := by omega
        have hd2 : decide (xs = ys) = true := decide_eq_true (gAt_ext (hn.out.symm.trans hl.out) (fun i hi => heq i (by have := hn.out; omega)))
        obtain rfl : B = true := hBe.out.symm.trans hd2
        clear heq hd2 hBe
        go_wp2
        go_ret
        exact ⟨rfl, hB⟩
  · obtain rfl : B = false := hBe.out.symm.trans (decide_eq_false (fun c => hl (by rw [c])))
    clear hBe
    obtain ⟨n, hn⟩ : ∃ n, n = xs.length := ⟨_, rfl⟩
    obtain ⟨n', hn'⟩ : ∃ n, n = ys.length := ⟨_, rfl⟩
    rw [← hn, ← hn'] at hl ⊢
    have hne2 : ((n : Int) != (n' : Int)) = true := by simp; omega
    clear h3 h3' hn hn'
    go_enter Try.func55, Try.ntmps55
    go_wp2
    go_ret
    exact ⟨rfl, by (repeat (first | exact Below.refl _ _ | assumption | refine bchain (by assumption) ?_ | refine balloc ?_ _ | apply Below.drew | apply below_drewN | (refine Below.alloc ?_ (by (try simp) <;> omega) _) | (refine Below.setCell ?_ (by (try simp) <;> omega) _)))⟩
end
end Go.Proofs.Ytfnjgdocmfmfgaa.Fr
namespace Go.Proofs.Ytfnjgdocmfmfgaa
open Go.RowKit
set_option maxRecDepth 100000
theorem eqGrK (W : World) (n m e f : Int) : (Op.equalIn 10000 30 (.agg #[.int .i64 n, .int .u32 e]) (.agg #[.int .i64 m, .int .u32 f])).run Try.prog W = .ok (n == m && e == f) W := by
  have u3 := Try.underlying2
  have u4 := Try.underlying22
  have hS : Try.prog.underlying 30 = some (.struct (Try.prog.fieldsOf 30)) := by kernel_rfl
  have hp : Try.prog.stoodInHeld 30 = false := by kernel_rfl
  rw [show (10000 : Nat) = 9999 + 1 from rfl, run_equalIn_agg W 9999 30 _ _ hS hp]
  simp only [Program.fieldsOf, Try.underlying30]
  go_simp
  by_cases h1 : n = m <;> by_cases h2 : e = f <;> simp [h1, h2]
section
variable (w : World)
set_option maxHeartbeats 1000000 in
theorem isp_any (X Y : PM) (u v : Value) (hu : Fr.SlG w u X.ts) (hv : Fr.SlG w v Y.ts) (hm : X.ts.length ≤ 1048576) (B : Bool) (hB0 : B = true ↔ (X.n = Y.n ∧ X.e = Y.e ∧ X.s = Y.s ∧ X.ts = Y.ts)) :
    Calls Try.prog 19 #[.agg #[.int .i64 X.n, .int .u32 X.e, .int .u32 X.s, u], .agg #[.int .i64 Y.n, .int .u32 Y.e, .int .u32 Y.s, v]] w fun r w' => r = .returned (.bool B) ∧ Below w.heap.size w w' := by
  obtain ⟨n, e, s, xs⟩ := X
  obtain ⟨m, f, t, ys⟩ := Y
  dsimp only at hm hB0 hu hv ⊢
  have hE := fun (W : World) (hb : Below w.heap.size w W) => Fr.sleq_any W u v xs ys (hu.below hb) (hv.below hb) hm
  obtain ⟨a, cap, rfl, _⟩ := hu
  obtain ⟨a', cap', rfl, _⟩ := hv
  obtain ⟨p, hp⟩ : ∃ p, xs.length = p := ⟨_, rfl⟩
  obtain ⟨q, hq⟩ : ∃ q, ys.length = q := ⟨_, rfl⟩
  rw [hp, hq] at hE
  rw [hp, hq]
  clear hm hp hq
  by_cases c1 : n = m ∧ e = f
  · obtain ⟨rfl, rfl⟩ := c1
    have hqq : ∀ W, (Op.equalIn 10000 30 (.agg #[.int .i64 n, .int .u32 e]) (.agg #[.int .i64 n, .int .u32 e])).run Try.prog W = .ok true W := fun W => by rw [eqGrK]; simp
    by_cases c2 : s = t
    · subst c2
      have hdB : decide (xs = ys) = B := by
        rw [Bool.eq_iff_iff, decide_eq_true_iff, hB0]
        exact ⟨fun c => ⟨rfl, rfl, rfl, c⟩, fun c => c.2.2.2⟩
      rw [hdB] at hE
      replace hE := Lib.hid hE
      clear hdB
      clear hB0
      go_enter Try.func19, Try.ntmps19
      go_wp2_with (go_at_call 55; refine (hE.out _ (by (repeat (first | exact Below.refl _ _ | assumption | refine bchain (by assumption) ?_ | refine balloc ?_ _ | apply Below.drew | apply below_drewN | (refine Below.alloc ?_ (by (try simp) <;> omega) _) | (refine Below.setCell ?_ (by (try simp) <;> omega) _))))).mono ?_; rintro r1 w1 ⟨rfl, hb1⟩)
      go_ret
      exact ⟨rfl, by (repeat (first | exact Below.refl _ _ | assumption | refine bchain (by assumption) ?_ | refine balloc ?_ _ | apply Below.drew | apply below_drewN | (refine Below.alloc ?_ (by (try simp) <;> omega) _) | (refine Below.setCell ?_ (by (try simp) <;> omega) _)))⟩
    · obtain rfl : B = false := by
        rw [Bool.eq_false_iff]
        intro c
        exact c2 (hB0.1 c).2.2.1
      have hd : (s == t) = false := by simp; exact c2
      clear hB0 hE
      go_enter Try.func19, Try.ntmps19
      go_wp2
      go_ret
      exact ⟨rfl, by (repeat (first | exact Below.refl _ _ | assumption | refine bchain (by assumption) ?_ | refine balloc ?_ _ | apply Below.drew | apply below_drewN | (refine Below.alloc ?_ (by (try simp) <;> omega) _) | (refine Below.setCell ?_ (by (try simp) <;> omega) _)))⟩
  · obtain rfl : B = false := by
      rw [Bool.eq_false_iff]
      intro c
      exact c1 ⟨(hB0.1 c).1, (hB0.1 c).2.1⟩
    have hqq : ∀ W, (Op.equalIn 10000 30 (.agg #[.int .i64 n, .int .u32 e]) (.agg #[.int .i64 m, .int .u32 f])).run Try.prog W = .ok false W := fun W => by
      rw [eqGrK]
      have : (n == m && e == f) = false := by
        rw [Bool.eq_false_iff]
        intro h
        simp at h
        exact c1 h
      rw [this]
    clear hB0 hE
    go_enter Try.func19, Try.ntmps19
    go_wp2
    go_ret
    exact ⟨rfl, by (repeat (first | exact Below.refl _ _ | assumption | refine bchain (by assumption) ?_ | refine balloc ?_ _ | apply Below.drew | apply below_drewN | (refine Below.alloc ?_ (by (try simp) <;> omega) _) | (refine Below.setCell ?_ (by (try simp) <;> omega) _)))⟩
set_option maxHeartbeats 2000000 in
/-- the lists alone differ, if at all -/
theorem sspL_any (n e s : Int) (xs ys : List (Int × Int)) (u v : Value) (hS : Fr.SlG w u xs) (hS' : Fr.SlG w v ys) (hm : xs.length ≤ 1048576) (hl : xs.length = ys.length) (B : Bool) (hB0 : B = true ↔ xs = ys) :
    Calls Try.prog 18 #[.agg #[.int .i64 n, .int .u32 e, .int .u32 s, u], .agg #[.int .i64 n, .int .u32 e, .int .u32 s, v]] w fun r w' => r = .returned (.bool B) ∧ Below w.heap.size w w' := by
  obtain ⟨a, cap, rfl, h1, h2, h3⟩ := hS
  obtain ⟨a', cap', rfl, h1', h2', h3'⟩ := hS'
  replace hB0 := Lib.hid hB0
  have hqq : ∀ W, (Op.equalIn 10000 30 (.agg #[.int .i64 n, .int .u32 e]) (.agg #[.int .i64 n, .int .u32 e])).run Try.prog W = .ok true W := fun W => by rw [eqGrK]; simp
  rw [← hl] at h3' h1' ⊢
  obtain ⟨l, hn⟩ : ∃ l, l = xs.length := ⟨_, rfl⟩
  have hl2 := hl
  rw [← hn] at hm h1 h1' h3' hl ⊢
  have h3'' : 0 < l → ∃ b off, a' = some ⟨b, off, none⟩ ∧ b < w.heap.size ∧ ∀ i, i < l → Fr.GCell w b off (Fr.gAt ys i) i := fun h => h3' (by intro c; rw [c] at hl; simp at hl; omega)
  have h3b : 0 < l → ∃ b off, a = some ⟨b, off, none⟩ ∧ b < w.heap.size ∧ ∀ i, i < l → Fr.GCell w b off (Fr.gAt xs i) i := fun h => by rw [hn]; exact h3 (by intro c; rw [c] at hn; simp at hn; omega)
  clear h3 h3' hl
  replace h3'' := Lib.hid h3''
  replace h3b := Lib.hid h3b
  replace hn := Lib.hid hn.symm
  replace hl := Lib.hid hl2
  clear hl2
  obtain ⟨W0, hW0⟩ : ∃ W0, W0 = (w.alloc (.cells #[.int .i64 n, .int .u32 e, .int .u32 s, .slice a l cap] 33)).alloc (.cells #[.int .i64 n, .int .u32 e, .int .u32 s, .slice a' l cap'] 33) := ⟨_, rfl⟩
  have hB0' : Below w.heap.size w W0 := by rw [hW0]; (repeat (first | exact Below.refl _ _ | assumption | refine bchain (by assumption) ?_ | refine balloc ?_ _ | apply Below.drew | apply below_drewN | (refine Below.alloc ?_ (by (try simp) <;> omega) _) | (refine Below.setCell ?_ (by (try simp) <;> omega) _)))
  have sz : (w.alloc (.cells #[.int .i64 n, .int .u32 e, .int .u32 s, .slice a l cap] 33)).heap.size = w.heap.size + 1 := by simp
  have k1 : PB W0 w.heap.size n e s (.slice a l cap) := by rw [hW0]; exact (PB.made w n e s _ _).below (balloc (Below.refl _ _) _)
  have k2 : PB W0 (w.heap.size + 1) n e s (.slice a' l cap') := by rw [hW0, ← sz]; exact PB.made _ n e s _ _
  replace hW0 := Lib.hid hW0
  clear sz
  obtain ⟨_, x0, x1, x2, x3, _⟩ := id k1
  obtain ⟨_, y0, y1, y2, y3, _⟩ := id k2
  go_enter Try.func18, Try.ntmps18
  go_wp2_with fail
  rw [← hW0.out]
  go_wp2
  go_loopw [5] (fun i wr => ∃ k : Nat, k ≤ l ∧ i = .int .i64 k ∧ (∀ j, j < k → Fr.gAt xs j = Fr.gAt ys j) ∧ Below W0.heap.size W0 wr) (fun i _ => l - (intOf i).toNat)
  case atStart => exact ⟨0, by omega, rfl, fun j hj => by omega, by (repeat (first | exact Below.refl _ _ | assumption | refine bchain (by assumption) ?_ | refine balloc ?_ _ | apply Below.drew | apply below_drewN | (refine Below.alloc ?_ (by (try simp) <;> omega) _) | (refine Below.setCell ?_ (by (try simp) <;> omega) _)))⟩
  case round =>
    clear x0 x1 x2 x3 y0 y1 y2 y3
    obtain ⟨k, hk, rfl, heq, hB⟩ := hrel
    have q1 := (k1.below hB).c3
    have q2 := (k2.below hB).c3
    have hB' := bchain hB hB0'
    by_cases hlt : k < l
    · obtain ⟨b, off, rfl, hb, hg⟩ := h3b.out (by omega)
      obtain ⟨b', off', rfl, hb', hg'⟩ := h3''.out (by omega)
      obtain ⟨x, y, hxy⟩ : ∃ x y, Fr.gAt xs k = (x, y) := ⟨_, _, rfl⟩
      obtain ⟨x', y', hxy'⟩ : ∃ x y, Fr.gAt ys k = (x, y) := ⟨_, _, rfl⟩
      have s0 : wr.cell? ⟨b, off + k * 2, none⟩ = some (.int .i64 x) := by rw [hB'.cell (p := ⟨b, _, none⟩) hb, (hg k hlt).1, hxy]
      have s1 : wr.cell? ⟨b, off + k * 2 + 1, none⟩ = some (.int .i64 y) := by rw [hB'.cell (p := ⟨b, _, none⟩) hb, (hg k hlt).2, hxy]
      have s2 : wr.cell? ⟨b', off' + k * 2, none⟩ = some (.int .i64 x') := by rw [hB'.cell (p := ⟨b', _, none⟩) hb', (hg' k hlt).1, hxy']
      have s3 : wr.cell? ⟨b', off' + k * 2 + 1, none⟩ = some (.int .i64 y') := by rw [hB'.cell (p := ⟨b', _, none⟩) hb', (hg' k hlt).2, hxy']
      have hkn : (k : Int) < (l : Int) := by omega
      have hkn0 : (0 : Int) ≤ (k : Int) := by omega
      clear hg hg' hB'
      replace heq := Lib.hid heq
      by_cases he : x = x' ∧ y = y'
      · obtain ⟨rfl, rfl⟩ := he
        have hq : ∀ W, (Op.equalIn 10000 66 (.agg #[.int .i64 x, .int .i64 y]) (.agg #[.int .i64 x, .int .i64 y])).run Try.prog W = .ok true W := fun W => by rw [Fr.eqFr]; simp
        have hne := Lib.hid (hxy.trans hxy'.symm)
        clear hxy hxy'
        go_wp2
        go_region_held3 (fun W => W.cell? ⟨b, off + k * 2, none⟩ = some (.int .i64 x) ∧ W.cell? ⟨b, off + k * 2 + 1, none⟩ = some (.int .i64 y) ∧ W.cell? ⟨b', off' + k * 2, none⟩ = some (.int .i64 x) ∧ W.cell? ⟨b', off' + k * 2 + 1, none⟩ = some (.int .i64 y) ∧ W.cell? ⟨w.heap.size, 3, none⟩ = some (.slice (some ⟨b, off, none⟩) l cap) ∧ W.cell? ⟨w.heap.size + 1, 3, none⟩ = some (.slice (some ⟨b', off', none⟩) l cap'))
          (exact ⟨s0, s1, s2, s3, q1, q2⟩) (fail)
        go_wp2
        go_roundw
        case rel => exact ⟨k + 1, by omega, by go_num, fun j hj => by
          by_cases e : j = k
          · rw [e]; exact hne.out
          · exact heq.out j (by omega), by (repeat (first | exact Below.refl _ _ | assumption | refine bchain (by assumption) ?_ | refine balloc ?_ _ | apply Below.drew | apply below_drewN | (refine Below.alloc ?_ (by (try simp) <;> omega) _) | (refine Below.setCell ?_ (by (try simp) <;> omega) _)))⟩
        case measure => simp [intOf]; omega
      · have hq : ∀ W, (Op.equalIn 10000 66 (.agg #[.int .i64 x, .int .i64 y]) (.agg #[.int .i64 x', .int .i64 y'])).run Try.prog W = .ok false W := fun W => by
          rw [Fr.eqFr]
          have : (x == x' && y == y') = false := by
            rw [Bool.eq_false_iff]
            intro h
            simp at h
            exact he h
          rw [this]
        obtain rfl : B = false := by
          rw [Bool.eq_false_iff]
          intro c
          have c2 := hB0.out.1 c
          rw [c2, hxy'] at hxy
          cases hxy
          exact he ⟨rfl, rfl⟩
        clear he hxy hxy' hB0
        go_wp2
        go_region_held3 (fun W => W.cell? ⟨b, off + k * 2, none⟩ = some (.int .i64 x) ∧ W.cell? ⟨b, off + k * 2 + 1, none⟩ = some (.int .i64 y) ∧ W.cell? ⟨b', off' + k * 2, none⟩ = some (.int .i64 x') ∧ W.cell? ⟨b', off' + k * 2 + 1, none⟩ = some (.int .i64 y') ∧ W.cell? ⟨w.heap.size, 3, none⟩ = some (.slice (some ⟨b, off, none⟩) l cap) ∧ W.cell? ⟨w.heap.size + 1, 3, none⟩ = some (.slice (some ⟨b', off', none⟩) l cap'))
          (exact ⟨s0, s1, s2, s3, q1, q2⟩) (fail)
        go_wp2
        go_ret
        exact ⟨rfl, bchain (by (repeat (first | exact Below.refl _ _ | assumption | refine bchain (by assumption) ?_ | refine balloc ?_ _ | apply Below.drew | apply below_drewN | (refine Below.alloc ?_ (by (try simp) <;> omega) _) | (refine Below.setCell ?_ (by (try simp) <;> omega) _)))) hB0'⟩
    · obtain rfl : k = l := by omega
      have hd := decide_eq_false (show ¬ ((k : Int) < (k : Int)) by omega)
      obtain rfl : B = true := hB0.out.2 (Fr.gAt_ext hl.out (fun i hi => heq i (by rw [← hn.out]; exact hi)))
      clear heq
      go_wp2
      go_ret
      exact ⟨rfl, bchain hB hB0'⟩
theorem sspN_any (n e s m f t : Int) (a a' : Option Addr) (p q cap cap' : Nat) (hne : ¬ (n = m ∧ e = f ∧ s = t ∧ p = q)) :
    Calls Try.prog 18 #[.agg #[.int .i64 n, .int .u32 e, .int .u32 s, .slice a p cap], .agg #[.int .i64 m, .int .u32 f, .int .u32 t, .slice a' q cap']] w fun r w' => r = .returned (.bool false) ∧ Below w.heap.size w w' := by
  obtain ⟨W0, hW0⟩ : ∃ W0, W0 = (w.alloc (.cells #[.int .i64 n, .int .u32 e, .int .u32 s, .slice a p cap] 33)).alloc (.cells #[.int .i64 m, .int .u32 f, .int .u32 t, .slice a' q cap'] 33) := ⟨_, rfl⟩
  have hB0' : Below w.heap.size w W0 := by rw [hW0]; (repeat (first | exact Below.refl _ _ | assumption | refine bchain (by assumption) ?_ | refine balloc ?_ _ | apply Below.drew | apply below_drewN | (refine Below.alloc ?_ (by (try simp) <;> omega) _) | (refine Below.setCell ?_ (by (try simp) <;> omega) _)))
  have sz : (w.alloc (.cells #[.int .i64 n, .int .u32 e, .int .u32 s, .slice a p cap] 33)).heap.size = w.heap.size + 1 := by simp
  have k1 : PB W0 w.heap.size n e s (.slice a p cap) := by rw [hW0]; exact (PB.made w n e s _ _).below (balloc (Below.refl _ _) _)
  have k2 : PB W0 (w.heap.size + 1) m f t (.slice a' q cap') := by rw [hW0, ← sz]; exact PB.made _ m f t _ _
  replace hW0 := Lib.hid hW0
  clear sz
  obtain ⟨_, x0, x1, x2, x3, _⟩ := id k1
  obtain ⟨_, y0, y1, y2, y3, _⟩ := id k2
  by_cases c1 : n = m ∧ e = f
  · obtain ⟨rfl, rfl⟩ := c1
    have hqq : ∀ W, (Op.equalIn 10000 30 (.agg #[.int .i64 n, .int .u32 e]) (.agg #[.int .i64 n, .int .u32 e])).run Try.prog W = .ok true W := fun W => by rw [eqGrK]; simp
    by_cases c2 : s = t
    · subst c2
      have hd : ((p : Int) != (q : Int)) = true := by simp; intro c; exact hne ⟨rfl, rfl, rfl, by omega⟩
      clear hne
      go_enter Try.func18, Try.ntmps18
      go_wp2_with fail
      rw [← hW0.out]
      go_wp2
      go_ret
      exact ⟨rfl, by (repeat (first | exact Below.refl _ _ | assumption | refine bchain (by assumption) ?_ | refine balloc ?_ _ | apply Below.drew | apply below_drewN | (refine Below.alloc ?_ (by (try simp) <;> omega) _) | (refine Below.setCell ?_ (by (try simp) <;> omega) _)))⟩
    · have hd : (s != t) = true := by simp; exact c2
      clear hne
      go_enter Try.func18, Try.ntmps18
      go_wp2_with fail
      rw [← hW0.out]
      go_wp2
      go_ret
      exact ⟨rfl, by (repeat (first | exact Below.refl _ _ | assumption | refine bchain (by assumption) ?_ | refine balloc ?_ _ | apply Below.drew | apply below_drewN | (refine Below.alloc ?_ (by (try simp) <;> omega) _) | (refine Below.setCell ?_ (by (try simp) <;> omega) _)))⟩
  · have hqq : ∀ W, (Op.equalIn 10000 30 (.agg #[.int .i64 n, .int .u32 e]) (.agg #[.int .i64 m, .int .u32 f])).run Try.prog W = .ok false W := fun W => by
      rw [eqGrK]
      have : (n == m && e == f) = false := by
        rw [Bool.eq_false_iff]
        intro h
        simp at h
        exact c1 h
      rw [this]
    clear hne
    go_enter Try.func18, Try.ntmps18
    go_wp2_with fail
    rw [← hW0.out]
    go_wp2
    go_ret
    exact ⟨rfl, by (repeat (first | exact Below.refl _ _ | assumption | refine bchain (by assumption) ?_ | refine balloc ?_ _ | apply Below.drew | apply below_drewN | (refine Below.alloc ?_ (by (try simp) <;> omega) _) | (refine Below.setCell ?_ (by (try simp) <;> omega) _)))⟩
theorem ssp_any (X Y : PM) (u v : Value) (hu : Fr.SlG w u X.ts) (hv : Fr.SlG w v Y.ts) (hm : X.ts.length ≤ 1048576) (B : Bool) (hB0 : B = true ↔ (X.n = Y.n ∧ X.e = Y.e ∧ X.s = Y.s ∧ X.ts = Y.ts)) :
    Calls Try.prog 18 #[.agg #[.int .i64 X.n, .int .u32 X.e, .int .u32 X.s, u], .agg #[.int .i64 Y.n, .int .u32 Y.e, .int .u32 Y.s, v]] w fun r w' => r = .returned (.bool B) ∧ Below w.heap.size w w' := by
  obtain ⟨n, e, s, xs⟩ := X
  obtain ⟨m, f, t, ys⟩ := Y
  dsimp only at hm hB0 hu hv ⊢
  by_cases c : n = m ∧ e = f ∧ s = t ∧ xs.length = ys.length
  · obtain ⟨rfl, rfl, rfl, hl⟩ := c
    exact sspL_any w n e s xs ys u v hu hv hm hl B ⟨fun c => (hB0.1 c).2.2.2, fun c => hB0.2 ⟨rfl, rfl, rfl, c⟩⟩
  · obtain ⟨a, cap, rfl, _⟩ := hu
    obtain ⟨a', cap', rfl, _⟩ := hv
    obtain rfl : B = false := by
      rw [Bool.eq_false_iff]
      intro c2
      have := hB0.1 c2
      exact c ⟨this.1, this.2.1, this.2.2.1, by rw [this.2.2.2]⟩
    exact sspN_any w n e s m f t a a' _ _ cap cap' c
end
end Go.Proofs.Ytfnjgdocmfmfgaa
