/-
  LISTS OF FLAGS: which are valid: the program's word.
-/
import Derived.Test.YtncbimbbkealmaaGreatDoorKs
import Derived.Test.YtncbimbbkealmaaGreatDoorKVal
namespace Go.Proofs.YtncbimbbkealmaaGreatDoor
open Go.RowKit
set_option maxRecDepth 100000

def LiesK (w : World) (a : Option Addr) (gs : List (Int × Int × Int)) : Prop := ∀ i, i < gs.length → ∃ b off, a = some ⟨b, off, none⟩ ∧ b < w.heap.size ∧ KCell w b off (kAt gs i) i
theorem SlK.lies {w : World} {v : Value} {gs : List (Int × Int × Int)} (h : SlK w v gs) : ∃ a cap, v = .slice a gs.length cap ∧ LiesK w a gs := by
  obtain ⟨a, cap, e, _, _, h3⟩ := h
  refine ⟨a, cap, e, fun i hi => ?_⟩
  obtain ⟨b, off, e2, hlt, hc⟩ := h3 (by intro c; rw [c] at hi; simp at hi)
  exact ⟨b, off, e2, hlt, hc i hi⟩
theorem LiesK.below {w w' : World} {a : Option Addr} {gs : List (Int × Int × Int)} (h : LiesK w a gs) (hb : Below w.heap.size w w') : LiesK w' a gs := fun i hi => by
  obtain ⟨b, off, e, hlt, hc⟩ := h i hi
  exact ⟨b, off, e, Nat.lt_of_lt_of_le hlt hb.size, (hb.cell (p := ⟨b, _, none⟩) hlt).trans hc.1, (hb.cell (p := ⟨b, _, none⟩) hlt).trans hc.2.1, (hb.cell (p := ⟨b, _, none⟩) hlt).trans hc.2.2⟩
def KV (gs : List (Int × Int × Int)) (i : Nat) : Prop := VK (kAt gs i).1 (kAt gs i).2.1 (kAt gs i).2.2
def AllK (gs : List (Int × Int × Int)) : Prop := ∀ i, i < gs.length → KV gs i
def BdK (gs : List (Int × Int × Int)) : Prop := ∀ i, i < gs.length → 0 ≤ (kAt gs i).2.2 ∧ (kAt gs i).2.2 < 4294967296
theorem not_allK {gs : List (Int × Int × Int)} (h : ¬ AllK gs) : ∃ m, m < gs.length ∧ (∀ k, k < m → KV gs k) ∧ ¬ KV gs m := by
  have : ∀ m, m ≤ gs.length → (∀ k, k < m → KV gs k) ∨ ∃ m', m' < gs.length ∧ (∀ k, k < m' → KV gs k) ∧ ¬ KV gs m' := by
    intro m
    induction m with
    | zero => intro _; exact .inl (fun k hk => by omega)
    | succ m ih =>
      intro hm
      rcases ih (by omega) with h1 | h1
      · by_cases hf : KV gs m
        · refine .inl (fun k hk => ?_)
          by_cases e : k = m
          · rw [e]; exact hf
          · exact h1 k (by omega)
        · exact .inr ⟨m, by omega, h1, hf⟩
      · exact .inr h1
  rcases this gs.length (Nat.le_refl _) with h1 | h1
  · exact absurd h1 h
  · exact h1
/-- a valid flag of a list, in natural numbers -/
theorem kv_nat {gs : List (Int × Int × Int)} {i : Nat} (h : KV gs i) : ∃ x y z : Nat, kAt gs i = ((x : Int), (y : Int), (z : Int)) ∧ VK x y z := by
  unfold KV at h
  refine ⟨(kAt gs i).1.toNat, (kAt gs i).2.1.toNat, (kAt gs i).2.2.toNat, ?_, ?_⟩
  · have h1 := h.2.1; have h2 := h.1.1; have h3 := h.1.2.2.1
    apply Prod.ext
    · show (kAt gs i).1 = (((kAt gs i).1.toNat : Nat) : Int); omega
    · apply Prod.ext
      · show (kAt gs i).2.1 = (((kAt gs i).2.1.toNat : Nat) : Int); omega
      · show (kAt gs i).2.2 = (((kAt gs i).2.2.toNat : Nat) : Int); omega
  · have h1 := h.2.1; have h2 := h.1.1; have h3 := h.1.2.2.1
    rw [show (((kAt gs i).1.toNat : Nat) : Int) = (kAt gs i).1 by omega, show (((kAt gs i).2.1.toNat : Nat) : Int) = (kAt gs i).2.1 by omega, show (((kAt gs i).2.2.toNat : Nat) : Int) = (kAt gs i).2.2 by omega]
    exact h
section
variable (w : World)
theorem avk_t (a : Option Addr) (cap : Nat) (gs : List (Int × Int × Int)) (hm : gs.length ≤ 1048576) (hc : LiesK w a gs) (hV : AllK gs) :
    Calls Tryz.prog 19 #[.slice a gs.length cap] w fun r w' => r = .returned (.bool true) ∧ Below w.heap.size w w' := by
  obtain ⟨n, hn⟩ : ∃ n, n = gs.length := ⟨_, rfl⟩
  rw [← hn] at hm ⊢
  replace hc := Lib.hid hc
  replace hV := Lib.hid hV
  replace hn := Lib.hid hn
  go_enter Tryz.func19, Tryz.ntmps19
  go_wp2
  go_loopw [4, 7] (fun _ i wr => ∃ k : Nat, k ≤ n ∧ i = .int .i64 k ∧ Below w.heap.size w wr) (fun _ i _ => n - (intOf i).toNat)
  case atStart => exact ⟨0, by omega, rfl, by (repeat (first | exact Below.refl _ _ | assumption | refine bchain (by assumption) ?_ | refine balloc ?_ _ | apply Below.drew | apply below_drewN | (refine Below.alloc ?_ (by (try simp) <;> omega) _) | (refine Below.setCell ?_ (by (try simp) <;> omega) _)))⟩
  case round =>
    obtain ⟨k, hk, rfl, hB⟩ := hrel
    by_cases hlt : k < n
    · obtain ⟨b, off, rfl, hb, hg⟩ := hc.out k (by have := hn.out; omega)
      have hv : KV gs k := hV.out k (by have := hn.out; omega)
      unfold KV at hv
      obtain ⟨x, y, z, hxy⟩ : ∃ x y z, kAt gs k = (x, y, z) := ⟨_, _, _, rfl⟩
      rw [hxy] at hv
      have s0 : wr.cell? ⟨b, off + k * 3, none⟩ = some (.int .i64 x) := by rw [hB.cell (p := ⟨b, _, none⟩) hb, hg.1, hxy]
      have s1 : wr.cell? ⟨b, off + k * 3 + 1, none⟩ = some (.int .i64 y) := by rw [hB.cell (p := ⟨b, _, none⟩) hb, hg.2.1, hxy]
      have s2 : wr.cell? ⟨b, off + k * 3 + 2, none⟩ = some (.int .u32 z) := by rw [hB.cell (p := ⟨b, _, none⟩) hb, hg.2.2, hxy]
      have hC := Lib.hid (fun W => ivk_t W x y z hv)
      have hkn : (k : Int) < (n : Int) := by omega
      clear hg hxy hv
      go_wp2_with fail
      refine (hC.out _).mono ?_
      rintro r3 w3 ⟨rfl, hb3⟩
      go_wp2
      go_roundw
      case rel => exact ⟨k + 1, by omega, by go_num, by (repeat (first | exact Below.refl _ _ | assumption | refine bchain (by assumption) ?_ | refine balloc ?_ _ | apply Below.drew | apply below_drewN | (refine Below.alloc ?_ (by (try simp) <;> omega) _) | (refine Below.setCell ?_ (by (try simp) <;> omega) _)))⟩
      case measure => simp [intOf]; omega
    · have hd := decide_eq_false (show ¬ ((k : Int) < (n : Int)) by omega)
      go_wp2
      go_ret
      exact ⟨rfl, hB⟩
theorem avk_f (a : Option Addr) (cap : Nat) (gs : List (Int × Int × Int)) (hm : gs.length ≤ 1048576) (hc : LiesK w a gs) (hbd : BdK gs) (m : Nat) (hm2 : m < gs.length) (hV : ∀ k, k < m → KV gs k) (hbad : ¬ KV gs m) :
    Calls Tryz.prog 19 #[.slice a gs.length cap] w fun r w' => r = .returned (.bool false) ∧ Below w.heap.size w w' := by
  obtain ⟨n, hn⟩ : ∃ n, n = gs.length := ⟨_, rfl⟩
  rw [← hn] at hm hm2 ⊢
  replace hc := Lib.hid hc
  replace hV := Lib.hid hV
  replace hbd := Lib.hid hbd
  replace hn := Lib.hid hn
  replace hbad := Lib.hid hbad
  go_enter Tryz.func19, Tryz.ntmps19
  go_wp2
  go_loopw [4, 7] (fun _ i wr => ∃ k : Nat, k ≤ m ∧ i = .int .i64 k ∧ Below w.heap.size w wr) (fun _ i _ => n - (intOf i).toNat)
  case atStart => exact ⟨0, by omega, rfl, by (repeat (first | exact Below.refl _ _ | assumption | refine bchain (by assumption) ?_ | refine balloc ?_ _ | apply Below.drew | apply below_drewN | (refine Below.alloc ?_ (by (try simp) <;> omega) _) | (refine Below.setCell ?_ (by (try simp) <;> omega) _)))⟩
  case round =>
    obtain ⟨k, hk, rfl, hB⟩ := hrel
    obtain ⟨b, off, rfl, hb, hg⟩ := hc.out k (by have := hn.out; omega)
    obtain ⟨x, y, z, hxy⟩ : ∃ x y z, kAt gs k = (x, y, z) := ⟨_, _, _, rfl⟩
    have s0 : wr.cell? ⟨b, off + k * 3, none⟩ = some (.int .i64 x) := by rw [hB.cell (p := ⟨b, _, none⟩) hb, hg.1, hxy]
    have s1 : wr.cell? ⟨b, off + k * 3 + 1, none⟩ = some (.int .i64 y) := by rw [hB.cell (p := ⟨b, _, none⟩) hb, hg.2.1, hxy]
    have s2 : wr.cell? ⟨b, off + k * 3 + 2, none⟩ = some (.int .u32 z) := by rw [hB.cell (p := ⟨b, _, none⟩) hb, hg.2.2, hxy]
    have hkn : (k : Int) < (n : Int) := by omega
    by_cases hlt : k < m
    · have hv : KV gs k := hV.out k hlt
      unfold KV at hv
      rw [hxy] at hv
      have hC := Lib.hid (fun W => ivk_t W x y z hv)
      clear hg hxy hv
      go_wp2_with fail
      refine (hC.out _).mono ?_
      rintro r3 w3 ⟨rfl, hb3⟩
      go_wp2
      go_roundw
      case rel => exact ⟨k + 1, by omega, by go_num, by (repeat (first | exact Below.refl _ _ | assumption | refine bchain (by assumption) ?_ | refine balloc ?_ _ | apply Below.drew | apply below_drewN | (refine Below.alloc ?_ (by (try simp) <;> omega) _) | (refine Below.setCell ?_ (by (try simp) <;> omega) _)))⟩
      case measure => simp [intOf]; omega
    · obtain rfl : k = m := by omega
      have hv := hbad.out
      have hbk := hbd.out k (by have := hn.out; omega)
      unfold KV at hv
      rw [hxy] at hv hbk
      have hC := Lib.hid (fun W => ivk_f W x y z hbk.2 hbk.1 hv)
      clear hg hxy hv hbk
      go_wp2_with fail
      refine (hC.out _).mono ?_
      rintro r3 w3 ⟨rfl, hb3⟩
      go_wp2
      go_ret
      exact ⟨rfl, by (repeat (first | exact Below.refl _ _ | assumption | refine bchain (by assumption) ?_ | refine balloc ?_ _ | apply Below.drew | apply below_drewN | (refine Below.alloc ?_ (by (try simp) <;> omega) _) | (refine Below.setCell ?_ (by (try simp) <;> omega) _)))⟩
end
end Go.Proofs.YtncbimbbkealmaaGreatDoor
