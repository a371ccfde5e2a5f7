/-
  WHICH LISTS OF FRACTIONS ARE VALID: the program's and the model's contracts.
-/
import Derived.Test.YtdibcchhamapjacFs
import Derived.Test.YtdibcchhamapjacVfr
import Derived.Test.YtdibcchhamapjacFOps
namespace Go.Proofs.Ytdibcchhamapjac
open Go.RowKit
set_option maxRecDepth 100000

/-- the list lies in the world, each element where it is read -/
def Lies (w : World) (a : Option Addr) (gs : List (Int × Int)) : Prop := ∀ i, i < gs.length → ∃ b off, a = some ⟨b, off, none⟩ ∧ b < w.heap.size ∧ GCell w b off (gAt gs i) i
theorem SlG.lies {w : World} {v : Value} {gs : List (Int × Int)} (h : SlG w v gs) : ∃ a cap, v = .slice a gs.length cap ∧ Lies w a gs := by
  obtain ⟨a, cap, e, _, _, h3⟩ := h
  refine ⟨a, cap, e, fun i hi => ?_⟩
  obtain ⟨b, off, e2, hlt, hc⟩ := h3 (by intro c; rw [c] at hi; simp at hi)
  exact ⟨b, off, e2, hlt, hc i hi⟩
theorem Lies.below {w w' : World} {a : Option Addr} {gs : List (Int × Int)} (h : Lies w a gs) (hb : Below w.heap.size w w') : Lies w' a gs := fun i hi => by
  obtain ⟨b, off, e, hlt, hc⟩ := h i hi
  exact ⟨b, off, e, Nat.lt_of_lt_of_le hlt hb.size, (hb.cell (p := ⟨b, _, none⟩) hlt).trans hc.1, (hb.cell (p := ⟨b, _, none⟩) hlt).trans hc.2⟩
def AllV (gs : List (Int × Int)) : Prop := ∀ i, i < gs.length → VP (gAt gs i)
theorem not_allV {gs : List (Int × Int)} (h : ¬ AllV gs) : ∃ m, m < gs.length ∧ (∀ k, k < m → VP (gAt gs k)) ∧ ¬ VP (gAt gs m) := by
  have : ∀ m, m ≤ gs.length → (∀ k, k < m → VP (gAt gs k)) ∨ ∃ m', m' < gs.length ∧ (∀ k, k < m' → VP (gAt gs k)) ∧ ¬ VP (gAt gs m') := by
    intro m
    induction m with
    | zero => intro _; exact .inl (fun k hk => by omega)
    | succ m ih =>
      intro hm
      rcases ih (by omega) with h1 | h1
      · by_cases hf : VP (gAt gs m)
        · refine .inl (fun k hk => ?_)
          by_cases e : k = m
          · rw [e]; exact hf
          · exact h1 k (by omega)
        · exact .inr ⟨m, by omega, h1, hf⟩
      · exact .inr h1
  rcases this gs.length (Nat.le_refl _) with h1 | h1
  · exact absurd h1 h
  · exact h1
section
variable (w : World)

theorem av_t (a : Option Addr) (cap : Nat) (gs : List (Int × Int)) (hm : gs.length ≤ 1048576) (hc : Lies w a gs) (hV : AllV gs) :
    Calls Try.prog 79 #[.slice a gs.length cap] w fun r w' => r = .returned (.bool true) ∧ Below w.heap.size w w' := by
  obtain ⟨n, hn⟩ : ∃ n, n = gs.length := ⟨_, rfl⟩
  rw [← hn] at hm ⊢
  replace hc := Lib.hid hc
  replace hV := Lib.hid hV
  replace hn := Lib.hid hn
  go_enter Try.func79, Try.ntmps79
  go_wp2
  go_loopw [4, 7] (fun _ i wr => ∃ k : Nat, k ≤ n ∧ i = .int .i64 k ∧ Below w.heap.size w wr) (fun _ i _ => n - (intOf i).toNat)
  case atStart => exact ⟨0, by omega, rfl, by (repeat (first | exact Below.refl _ _ | assumption | refine bchain (by assumption) ?_ | refine balloc ?_ _ | apply Below.drew | apply below_drewN | (refine Below.alloc ?_ (by (try simp) <;> omega) _) | (refine Below.setCell ?_ (by (try simp) <;> omega) _)))⟩
  case round =>
    obtain ⟨k, hk, rfl, hB⟩ := hrel
    by_cases hlt : k < n
    · obtain ⟨b, off, rfl, hb, hg⟩ := hc.out k (by have := hn.out; omega)
      have hv : VP (gAt gs k) := hV.out k (by first | exact hlt | (have := hn.out; omega))
      obtain ⟨x, y, hxy⟩ : ∃ x y, gAt gs k = (x, y) := ⟨_, _, rfl⟩
      rw [hxy] at hv
      have s0 : wr.cell? ⟨b, off + k * 2, none⟩ = some (.int .i64 x) := by rw [hB.cell (p := ⟨b, _, none⟩) hb, hg.1, hxy]
      have s1 : wr.cell? ⟨b, off + k * 2 + 1, none⟩ = some (.int .i64 y) := by rw [hB.cell (p := ⟨b, _, none⟩) hb, hg.2, hxy]
      have hC := Lib.hid (fun W => vf_any W x y)
      rw [decide_eq_true (show VF x y from hv)] at hC
      have hkn : (k : Int) < (n : Int) := by omega
      clear hg hxy hv
      go_wp2_with fail
      refine (hC.out _).mono ?_
      rintro r3 w3 ⟨rfl, hb3⟩
      go_wp2
      go_roundw
      case rel => exact ⟨k + 1, by omega, by go_num, by (repeat (first | exact Below.refl _ _ | assumption | refine bchain (by assumption) ?_ | refine balloc ?_ _ | apply Below.drew | apply below_drewN | (refine Below.alloc ?_ (by (try simp) <;> omega) _) | (refine Below.setCell ?_ (by (try simp) <;> omega) _)))⟩
      case measure => simp [intOf]; omega
    · have hd := decide_eq_false (show ¬ ((k : Int) < (n : Int)) by omega)
      obtain rfl : k = n := by omega
      go_wp2
      go_ret
      exact ⟨rfl, hB⟩

theorem av_f (a : Option Addr) (cap : Nat) (gs : List (Int × Int)) (hm : gs.length ≤ 1048576) (hc : Lies w a gs) (m : Nat) (hm2 : m < gs.length) (hV : ∀ k, k < m → VP (gAt gs k)) (hbad : ¬ VP (gAt gs m)) :
    Calls Try.prog 79 #[.slice a gs.length cap] w fun r w' => r = .returned (.bool false) ∧ Below w.heap.size w w' := by
  obtain ⟨n, hn⟩ : ∃ n, n = gs.length := ⟨_, rfl⟩
  rw [← hn] at hm ⊢
  replace hc := Lib.hid hc
  replace hV := Lib.hid hV
  replace hn := Lib.hid hn
  rw [← hn.out] at hm2
  replace hbad := Lib.hid hbad
  go_enter Try.func79, Try.ntmps79
  go_wp2
  go_loopw [4, 7] (fun _ i wr => ∃ k : Nat, k ≤ m ∧ i = .int .i64 k ∧ Below w.heap.size w wr) (fun _ i _ => n - (intOf i).toNat)
  case atStart => exact ⟨0, by omega, rfl, by (repeat (first | exact Below.refl _ _ | assumption | refine bchain (by assumption) ?_ | refine balloc ?_ _ | apply Below.drew | apply below_drewN | (refine Below.alloc ?_ (by (try simp) <;> omega) _) | (refine Below.setCell ?_ (by (try simp) <;> omega) _)))⟩
  case round =>
    obtain ⟨k, hk, rfl, hB⟩ := hrel
    by_cases hlt : k < m
    · obtain ⟨b, off, rfl, hb, hg⟩ := hc.out k (by have := hn.out; omega)
      have hv : VP (gAt gs k) := hV.out k (by first | exact hlt | (have := hn.out; omega))
      obtain ⟨x, y, hxy⟩ : ∃ x y, gAt gs k = (x, y) := ⟨_, _, rfl⟩
      rw [hxy] at hv
      have s0 : wr.cell? ⟨b, off + k * 2, none⟩ = some (.int .i64 x) := by rw [hB.cell (p := ⟨b, _, none⟩) hb, hg.1, hxy]
      have s1 : wr.cell? ⟨b, off + k * 2 + 1, none⟩ = some (.int .i64 y) := by rw [hB.cell (p := ⟨b, _, none⟩) hb, hg.2, hxy]
      have hC := Lib.hid (fun W => vf_any W x y)
      rw [decide_eq_true (show VF x y from hv)] at hC
      have hkn : (k : Int) < (n : Int) := by omega
      clear hg hxy hv
      go_wp2_with fail
      refine (hC.out _).mono ?_
      rintro r3 w3 ⟨rfl, hb3⟩
      go_wp2
      go_roundw
      case rel => exact ⟨k + 1, by omega, by go_num, by (repeat (first | exact Below.refl _ _ | assumption | refine bchain (by assumption) ?_ | refine balloc ?_ _ | apply Below.drew | apply below_drewN | (refine Below.alloc ?_ (by (try simp) <;> omega) _) | (refine Below.setCell ?_ (by (try simp) <;> omega) _)))⟩
      case measure => simp [intOf]; omega
    · obtain rfl : k = m := by omega
      obtain ⟨b, off, rfl, hb, hg⟩ := hc.out k (by have := hn.out; omega)
      have hv := hbad.out
      obtain ⟨x, y, hxy⟩ : ∃ x y, gAt gs k = (x, y) := ⟨_, _, rfl⟩
      rw [hxy] at hv
      have s0 : wr.cell? ⟨b, off + k * 2, none⟩ = some (.int .i64 x) := by rw [hB.cell (p := ⟨b, _, none⟩) hb, hg.1, hxy]
      have s1 : wr.cell? ⟨b, off + k * 2 + 1, none⟩ = some (.int .i64 y) := by rw [hB.cell (p := ⟨b, _, none⟩) hb, hg.2, hxy]
      have hC := Lib.hid (fun W => vf_any W x y)
      rw [decide_eq_false (show ¬ VF x y from hv)] at hC
      have hkn : (k : Int) < (n : Int) := by omega
      clear hg hxy hv
      go_wp2_with fail
      refine (hC.out _).mono ?_
      rintro r3 w3 ⟨rfl, hb3⟩
      go_wp2
      go_ret
      exact ⟨rfl, by (repeat (first | exact Below.refl _ _ | assumption | refine bchain (by assumption) ?_ | refine balloc ?_ _ | apply Below.drew | apply below_drewN | (refine Below.alloc ?_ (by (try simp) <;> omega) _) | (refine Below.setCell ?_ (by (try simp) <;> omega) _)))⟩

theorem sv_t (a : Option Addr) (cap : Nat) (gs : List (Int × Int)) (hm : gs.length ≤ 1048576) (hc : Lies w a gs) (hV : AllV gs) (h6 : gs.length ≤ 256) :
    Calls Try.prog 56 #[.slice a gs.length cap] w fun r w' => r = .returned (.bool true) ∧ Below w.heap.size w w' := by
  obtain ⟨n, hn⟩ : ∃ n, n = gs.length := ⟨_, rfl⟩
  rw [← hn] at hm ⊢
  replace hc := Lib.hid hc
  replace hV := Lib.hid hV
  replace hn := Lib.hid hn
  rw [← hn.out] at h6
  have hd6 : decide ((n : Int) ≤ 256) = true := decide_eq_true (by omega)
  go_enter Try.func56, Try.ntmps56
  go_wp2
  go_loopw [3] (fun i wr => ∃ k : Nat, k ≤ n ∧ i = .int .i64 k ∧ Below w.heap.size w wr) (fun i _ => n - (intOf i).toNat)
  case atStart => exact ⟨0, by omega, rfl, by (repeat (first | exact Below.refl _ _ | assumption | refine bchain (by assumption) ?_ | refine balloc ?_ _ | apply Below.drew | apply below_drewN | (refine Below.alloc ?_ (by (try simp) <;> omega) _) | (refine Below.setCell ?_ (by (try simp) <;> omega) _)))⟩
  case round =>
    obtain ⟨k, hk, rfl, hB⟩ := hrel
    by_cases hlt : k < n
    · obtain ⟨b, off, rfl, hb, hg⟩ := hc.out k (by have := hn.out; omega)
      have hv : VP (gAt gs k) := hV.out k (by first | exact hlt | (have := hn.out; omega))
      obtain ⟨x, y, hxy⟩ : ∃ x y, gAt gs k = (x, y) := ⟨_, _, rfl⟩
      rw [hxy] at hv
      have s0 : wr.cell? ⟨b, off + k * 2, none⟩ = some (.int .i64 x) := by rw [hB.cell (p := ⟨b, _, none⟩) hb, hg.1, hxy]
      have s1 : wr.cell? ⟨b, off + k * 2 + 1, none⟩ = some (.int .i64 y) := by rw [hB.cell (p := ⟨b, _, none⟩) hb, hg.2, hxy]
      have hC := Lib.hid (fun W => ok_any W x y)
      rw [decide_eq_true (show VF x y from hv)] at hC
      have hkn : (k : Int) < (n : Int) := by omega
      clear hg hxy hv
      go_wp2_with fail
      refine (hC.out _).mono ?_
      rintro r3 w3 ⟨rfl, hb3⟩
      go_wp2
      go_roundw
      case rel => exact ⟨k + 1, by omega, by go_num, by (repeat (first | exact Below.refl _ _ | assumption | refine bchain (by assumption) ?_ | refine balloc ?_ _ | apply Below.drew | apply below_drewN | (refine Below.alloc ?_ (by (try simp) <;> omega) _) | (refine Below.setCell ?_ (by (try simp) <;> omega) _)))⟩
      case measure => simp [intOf]; omega
    · have hd := decide_eq_false (show ¬ ((k : Int) < (n : Int)) by omega)
      obtain rfl : k = n := by omega
      go_wp2
      go_ret
      exact ⟨rfl, hB⟩

theorem sv_tl (a : Option Addr) (cap : Nat) (gs : List (Int × Int)) (hm : gs.length ≤ 1048576) (hc : Lies w a gs) (hV : AllV gs) (h6 : 256 < gs.length) :
    Calls Try.prog 56 #[.slice a gs.length cap] w fun r w' => r = .returned (.bool false) ∧ Below w.heap.size w w' := by
  obtain ⟨n, hn⟩ : ∃ n, n = gs.length := ⟨_, rfl⟩
  rw [← hn] at hm ⊢
  replace hc := Lib.hid hc
  replace hV := Lib.hid hV
  replace hn := Lib.hid hn
  rw [← hn.out] at h6
  have hd6 : decide ((n : Int) ≤ 256) = false := decide_eq_false (by omega)
  go_enter Try.func56, Try.ntmps56
  go_wp2
  go_loopw [3] (fun i wr => ∃ k : Nat, k ≤ n ∧ i = .int .i64 k ∧ Below w.heap.size w wr) (fun i _ => n - (intOf i).toNat)
  case atStart => exact ⟨0, by omega, rfl, by (repeat (first | exact Below.refl _ _ | assumption | refine bchain (by assumption) ?_ | refine balloc ?_ _ | apply Below.drew | apply below_drewN | (refine Below.alloc ?_ (by (try simp) <;> omega) _) | (refine Below.setCell ?_ (by (try simp) <;> omega) _)))⟩
  case round =>
    obtain ⟨k, hk, rfl, hB⟩ := hrel
    by_cases hlt : k < n
    · obtain ⟨b, off, rfl, hb, hg⟩ := hc.out k (by have := hn.out; omega)
      have hv : VP (gAt gs k) := hV.out k (by first | exact hlt | (have := hn.out; omega))
      obtain ⟨x, y, hxy⟩ : ∃ x y, gAt gs k = (x, y) := ⟨_, _, rfl⟩
      rw [hxy] at hv
      have s0 : wr.cell? ⟨b, off + k * 2, none⟩ = some (.int .i64 x) := by rw [hB.cell (p := ⟨b, _, none⟩) hb, hg.1, hxy]
      have s1 : wr.cell? ⟨b, off + k * 2 + 1, none⟩ = some (.int .i64 y) := by rw [hB.cell (p := ⟨b, _, none⟩) hb, hg.2, hxy]
      have hC := Lib.hid (fun W => ok_any W x y)
      rw [decide_eq_true (show VF x y from hv)] at hC
      have hkn : (k : Int) < (n : Int) := by omega
      clear hg hxy hv
      go_wp2_with fail
      refine (hC.out _).mono ?_
      rintro r3 w3 ⟨rfl, hb3⟩
      go_wp2
      go_roundw
      case rel => exact ⟨k + 1, by omega, by go_num, by (repeat (first | exact Below.refl _ _ | assumption | refine bchain (by assumption) ?_ | refine balloc ?_ _ | apply Below.drew | apply below_drewN | (refine Below.alloc ?_ (by (try simp) <;> omega) _) | (refine Below.setCell ?_ (by (try simp) <;> omega) _)))⟩
      case measure => simp [intOf]; omega
    · have hd := decide_eq_false (show ¬ ((k : Int) < (n : Int)) by omega)
      obtain rfl : k = n := by omega
      go_wp2
      go_ret
      exact ⟨rfl, hB⟩

theorem sv_f (a : Option Addr) (cap : Nat) (gs : List (Int × Int)) (hm : gs.length ≤ 1048576) (hc : Lies w a gs) (m : Nat) (hm2 : m < gs.length) (hV : ∀ k, k < m → VP (gAt gs k)) (hbad : ¬ VP (gAt gs m)) :
    Calls Try.prog 56 #[.slice a gs.length cap] w fun r w' => r = .returned (.bool false) ∧ Below w.heap.size w w' := by
  obtain ⟨n, hn⟩ : ∃ n, n = gs.length := ⟨_, rfl⟩
  rw [← hn] at hm ⊢
  replace hc := Lib.hid hc
  replace hV := Lib.hid hV
  replace hn := Lib.hid hn
  rw [← hn.out] at hm2
  replace hbad := Lib.hid hbad
  go_enter Try.func56, Try.ntmps56
  go_wp2
  go_loopw [3] (fun i wr => ∃ k : Nat, k ≤ m ∧ i = .int .i64 k ∧ Below w.heap.size w wr) (fun i _ => n - (intOf i).toNat)
  case atStart => exact ⟨0, by omega, rfl, by (repeat (first | exact Below.refl _ _ | assumption | refine bchain (by assumption) ?_ | refine balloc ?_ _ | apply Below.drew | apply below_drewN | (refine Below.alloc ?_ (by (try simp) <;> omega) _) | (refine Below.setCell ?_ (by (try simp) <;> omega) _)))⟩
  case round =>
    obtain ⟨k, hk, rfl, hB⟩ := hrel
    by_cases hlt : k < m
    · obtain ⟨b, off, rfl, hb, hg⟩ := hc.out k (by have := hn.out; omega)
      have hv : VP (gAt gs k) := hV.out k (by first | exact hlt | (have := hn.out; omega))
      obtain ⟨x, y, hxy⟩ : ∃ x y, gAt gs k = (x, y) := ⟨_, _, rfl⟩
      rw [hxy] at hv
      have s0 : wr.cell? ⟨b, off + k * 2, none⟩ = some (.int .i64 x) := by rw [hB.cell (p := ⟨b, _, none⟩) hb, hg.1, hxy]
      have s1 : wr.cell? ⟨b, off + k * 2 + 1, none⟩ = some (.int .i64 y) := by rw [hB.cell (p := ⟨b, _, none⟩) hb, hg.2, hxy]
      have hC := Lib.hid (fun W => ok_any W x y)
      rw [decide_eq_true (show VF x y from hv)] at hC
      have hkn : (k : Int) < (n : Int) := by omega
      clear hg hxy hv
      go_wp2_with fail
      refine (hC.out _).mono ?_
      rintro r3 w3 ⟨rfl, hb3⟩
      go_wp2
      go_roundw
      case rel => exact ⟨k + 1, by omega, by go_num, by (repeat (first | exact Below.refl _ _ | assumption | refine bchain (by assumption) ?_ | refine balloc ?_ _ | apply Below.drew | apply below_drewN | (refine Below.alloc ?_ (by (try simp) <;> omega) _) | (refine Below.setCell ?_ (by (try simp) <;> omega) _)))⟩
      case measure => simp [intOf]; omega
    · obtain rfl : k = m := by omega
      obtain ⟨b, off, rfl, hb, hg⟩ := hc.out k (by have := hn.out; omega)
      have hv := hbad.out
      obtain ⟨x, y, hxy⟩ : ∃ x y, gAt gs k = (x, y) := ⟨_, _, rfl⟩
      rw [hxy] at hv
      have s0 : wr.cell? ⟨b, off + k * 2, none⟩ = some (.int .i64 x) := by rw [hB.cell (p := ⟨b, _, none⟩) hb, hg.1, hxy]
      have s1 : wr.cell? ⟨b, off + k * 2 + 1, none⟩ = some (.int .i64 y) := by rw [hB.cell (p := ⟨b, _, none⟩) hb, hg.2, hxy]
      have hC := Lib.hid (fun W => ok_any W x y)
      rw [decide_eq_false (show ¬ VF x y from hv)] at hC
      have hkn : (k : Int) < (n : Int) := by omega
      clear hg hxy hv
      go_wp2_with fail
      refine (hC.out _).mono ?_
      rintro r3 w3 ⟨rfl, hb3⟩
      go_wp2
      go_ret
      exact ⟨rfl, by (repeat (first | exact Below.refl _ _ | assumption | refine bchain (by assumption) ?_ | refine balloc ?_ _ | apply Below.drew | apply below_drewN | (refine Below.alloc ?_ (by (try simp) <;> omega) _) | (refine Below.setCell ?_ (by (try simp) <;> omega) _)))⟩

/-- a list is valid: it is not too long, and all of its fractions are -/
def Vl (gs : List (Int × Int)) : Prop := gs.length ≤ 256 ∧ AllV gs
theorem ivl_t (v : Value) (gs : List (Int × Int)) (hS : SlG w v gs) (hV : Vl gs) :
    Calls Try.prog 58 #[v] w fun r w' => r = .returned (.bool true) ∧ Below w.heap.size w w' := by
  obtain ⟨a, cap, rfl, hL⟩ := hS.lies
  have hC := Lib.hid (av_t w a cap gs (by have := hV.1; omega) hL hV.2)
  have h6 := hV.1
  obtain ⟨l, hl⟩ : ∃ l, gs.length = l := ⟨_, rfl⟩
  rw [hl] at hC h6 ⊢
  have hd : decide ((l : Int) ≤ 256) = true := decide_eq_true (by omega)
  clear hl hS hV
  go_enter Try.func58, Try.ntmps58
  go_wp2_with fail
  refine (hC.out).mono ?_
  rintro r2 w2 ⟨rfl, hb2⟩
  go_wp2
  go_ret
  exact ⟨rfl, by (repeat (first | exact Below.refl _ _ | assumption | refine bchain (by assumption) ?_ | refine balloc ?_ _ | apply Below.drew | apply below_drewN | (refine Below.alloc ?_ (by (try simp) <;> omega) _) | (refine Below.setCell ?_ (by (try simp) <;> omega) _)))⟩
theorem ivl_f (v : Value) (gs : List (Int × Int)) (hS : SlG w v gs) (hm : gs.length ≤ 1048576) (hV : ¬ Vl gs) :
    Calls Try.prog 58 #[v] w fun r w' => r = .returned (.bool false) ∧ Below w.heap.size w w' := by
  obtain ⟨a, cap, rfl, hL⟩ := hS.lies
  by_cases h6 : gs.length ≤ 256
  · obtain ⟨m, h1, h2, h3⟩ := not_allV (fun h => hV ⟨h6, h⟩)
    have hC := Lib.hid (av_f w a cap gs hm hL m h1 h2 h3)
    obtain ⟨l, hl⟩ : ∃ l, gs.length = l := ⟨_, rfl⟩
    rw [hl] at hC h6 ⊢
    have hd : decide ((l : Int) ≤ 256) = true := decide_eq_true (by omega)
    clear hl hS hV h1 h2 h3
    go_enter Try.func58, Try.ntmps58
    go_wp2_with fail
    refine (hC.out).mono ?_
    rintro r2 w2 ⟨rfl, hb2⟩
    go_wp2
    go_ret
    exact ⟨rfl, by (repeat (first | exact Below.refl _ _ | assumption | refine bchain (by assumption) ?_ | refine balloc ?_ _ | apply Below.drew | apply below_drewN | (refine Below.alloc ?_ (by (try simp) <;> omega) _) | (refine Below.setCell ?_ (by (try simp) <;> omega) _)))⟩
  · obtain ⟨l, hl⟩ : ∃ l, gs.length = l := ⟨_, rfl⟩
    rw [hl] at h6 ⊢
    have hd : decide ((l : Int) ≤ 256) = false := decide_eq_false (by omega)
    clear hl hS hV
    go_enter Try.func58, Try.ntmps58
    go_wp2
    go_ret
    exact ⟨rfl, by (repeat (first | exact Below.refl _ _ | assumption | refine bchain (by assumption) ?_ | refine balloc ?_ _ | apply Below.drew | apply below_drewN | (refine Below.alloc ?_ (by (try simp) <;> omega) _) | (refine Below.setCell ?_ (by (try simp) <;> omega) _)))⟩
theorem svl_t (v : Value) (gs : List (Int × Int)) (hS : SlG w v gs) (hV : Vl gs) :
    Calls Try.prog 56 #[v] w fun r w' => r = .returned (.bool true) ∧ Below w.heap.size w w' := by
  obtain ⟨a, cap, rfl, hL⟩ := hS.lies
  exact sv_t w a cap gs (by have := hV.1; omega) hL hV.2 hV.1
theorem svl_f (v : Value) (gs : List (Int × Int)) (hS : SlG w v gs) (hm : gs.length ≤ 1048576) (hV : ¬ Vl gs) :
    Calls Try.prog 56 #[v] w fun r w' => r = .returned (.bool false) ∧ Below w.heap.size w w' := by
  obtain ⟨a, cap, rfl, hL⟩ := hS.lies
  by_cases hA : AllV gs
  · exact sv_tl w a cap gs hm hL hA (Nat.lt_of_not_le fun h => hV ⟨h, hA⟩)
  · obtain ⟨m, h1, h2, h3⟩ := not_allV hA
    exact sv_f w a cap gs hm hL m h1 h2 h3
end
end Go.Proofs.Ytdibcchhamapjac
