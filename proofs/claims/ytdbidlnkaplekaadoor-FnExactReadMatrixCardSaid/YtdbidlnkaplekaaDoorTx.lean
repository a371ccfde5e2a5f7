/-
  DECIMAL TEXTS: the model's Decimal gives the digits.
-/
import Derived.Test.YtdbidlnkaplekaaDoorBase
import Derived.Lib.Hide
import Derived.Lib.ItoaMem
import Derived.Lib.ItoaLen
import Derived.Laws.IdiomStrings
import Derived.Laws.Concat
import Derived.Deep.RegionHeld3
import Derived.IntWalk
import Derived.Deep.RegionWith
namespace Go.Proofs.YtdbidlnkaplekaaDoor
open Go.RowKit
set_option maxRecDepth 100000
attribute [local go_sem] Oper.semAt_some
/-- a text of bytes -/
def tx (l : List UInt8) : ByteArray := ⟨l.toArray⟩
theorem tx_app (a b : List UInt8) : tx a ++ tx b = tx (a ++ b) := by
  apply ByteArray.ext
  simp [tx]
theorem tx_size (l : List UInt8) : (tx l).size = l.length := by simp [tx, ByteArray.size]
theorem dd_len {n : Nat} (h : n < 1000000000000000000) : (Lib.decDigits n).length ≤ 20 := by rw [Lib.decDigits_length]; exact Lib.nDigits_le20 n (by omega)
theorem dd_lt {n : Nat} (h : n < 10) : Lib.decDigits n = [UInt8.ofNat (48 + n)] := Lib.decDigits_one h
theorem dd_ge {n : Nat} (h : ¬ n < 10) : Lib.decDigits n = Lib.decDigits (n / 10) ++ [UInt8.ofNat (48 + n % 10)] := by rw [Lib.decDigits, dif_neg h]
theorem cv1 (W : World) (B d : Nat) (hd : d < 10) (h : W.cell? ⟨B, 0, none⟩ = some (.int .u8 (48 + (d : Int)))) :
    (convert 93 9 (.slice (some ⟨B, 0, none⟩) 1 1)).run Tryd.prog W = .ok (.string (tx [UInt8.ofNat (48 + d)])) W := by
  have hb : ((UInt8.ofNat (48 + d)).toNat : Int) = 48 + (d : Int) := by
    rw [UInt8.toNat_ofNat']
    omega
  exact run_convert_bytes_back (P := Tryd.prog) W 93 9 5 ⟨B, 0, none⟩ 1 [UInt8.ofNat (48 + d)] Tryd.underlying93 Tryd.underlying5 Tryd.underlying9 (fun j hj => by
    simp at hj
    subst hj
    show W.cell? ⟨B, 0, none⟩ = _
    rw [h]
    show some (Value.int .u8 (48 + (d : Int))) = some (Value.int .u8 ((UInt8.ofNat (48 + d)).toNat : Int))
    rw [hb])
theorem dec_lt (w : World) (n : Nat) (h : n < 10) :
    Calls Tryd.prog 53 #[.int .i64 n] w fun r w' => r = .returned (.string (tx (Lib.decDigits n))) ∧ Below w.heap.size w w' := by
  rw [dd_lt h]
  have h0 : ¬ (10 : Int) ≤ (n : Int) := by omega
  have hd : decide ((10 : Int) ≤ (n : Int)) = false := decide_eq_false h0
  have hw : (48 + (n : Int)) % 256 = 48 + (n : Int) := by omega
  have hw2 : IntKind.u8.wrap (48 + (n : Int)) = 48 + (n : Int) := by rw [IntKind.wrap_u8]; exact hw
  have hcv := cv1 (w.alloc (.cells #[.int .u8 (48 + (n : Int))] 5)) w.heap.size n h (by rw [World.cell?_alloc_new]; rfl)
  go_enter Tryd.func53, Tryd.ntmps53
  go_wp2
  go_ret
  exact ⟨rfl, by (repeat (first | exact Below.refl _ _ | assumption | refine bchain (by assumption) ?_ | refine balloc ?_ _ | apply Below.drew | apply below_drewN | (refine Below.alloc ?_ (by (try simp) <;> omega) _) | (refine Below.setCell ?_ (by (try simp) <;> omega) _)))⟩
set_option maxHeartbeats 1000000 in
theorem dec_any : ∀ (k : Nat) (w : World) (n : Nat), n < 10 ^ (k + 1) → k ≤ 17 →
    Calls Tryd.prog 53 #[.int .i64 n] w fun r w' => r = .returned (.string (tx (Lib.decDigits n))) ∧ Below w.heap.size w w'
  | 0, w, n, h, _ => dec_lt w n (by simpa using h)
  | k + 1, w, n, h, hk => by
    by_cases hn : n < 10
    · exact dec_lt w n hn
    · have hbd : n < 1000000000000000000 := by
        have : 10 ^ (k + 1 + 1) ≤ 10 ^ 18 := Nat.pow_le_pow_right (by omega) (by omega)
        have e : (10 : Nat) ^ 18 = 1000000000000000000 := by decide
        omega
      have hq : n / 10 < 10 ^ (k + 1) := by
        rw [Nat.pow_succ] at h
        omega
      have ih := Lib.hid (fun W => dec_any k W (n / 10) hq (by omega))
      rw [dd_ge hn, ← tx_app]
      have hm : n % 10 < 10 := Nat.mod_lt _ (by omega)
      have e1 : (n : Int) / 10 = ((n / 10 : Nat) : Int) := by omega
      have e2 : (n : Int) % 10 = ((n % 10 : Nat) : Int) := by omega
      have hcv := Lib.hid (fun W B h => cv1 W B (n % 10) hm h)
      obtain ⟨a, ha⟩ : ∃ a, n / 10 = a := ⟨_, rfl⟩
      obtain ⟨d, hd⟩ : ∃ d, n % 10 = d := ⟨_, rfl⟩
      rw [ha] at ih e1
      rw [hd] at hcv e2 hm
      rw [ha, hd]
      have hsum : ∀ W : World, (Op.stringOp .add (tx (Lib.decDigits a)) (tx [UInt8.ofNat (48 + d)])).run Tryd.prog W = .ok (.string (tx (Lib.decDigits a) ++ tx [UInt8.ofNat (48 + d)])) W := fun W => run_string_add W _ _ (by rw [tx_size]; have := dd_len (n := a) (by omega); omega) (by rw [tx_size]; simp)
      obtain ⟨t, ht⟩ : ∃ t, tx (Lib.decDigits a) = t := ⟨_, rfl⟩
      rw [ht] at ih hsum ⊢
      obtain ⟨u, hu⟩ : ∃ u, tx [UInt8.ofNat (48 + d)] = u := ⟨_, rfl⟩
      rw [hu] at hcv hsum ⊢
      have h10 : (10 : Int) ≤ (n : Int) := by omega
      have hw : (48 + (d : Int)) % 256 = 48 + (d : Int) := by omega
      have hcv2 := hcv.out
      have hcv3 : ∀ (W : World) (B : Nat), B = W.heap.size → (convert 93 9 (.slice (some ⟨B, 0, none⟩) 1 1)).run Tryd.prog (W.alloc (.cells #[.int .u8 (48 + (d : Int))] 5)) = .ok (.string u) (W.alloc (.cells #[.int .u8 (48 + (d : Int))] 5)) := fun W B hB => hcv2 _ B (by subst hB; rw [World.cell?_alloc_new]; rfl)
      have et1 : (n : Int).tdiv 10 = (a : Int) := by rw [Int.tdiv_eq_ediv_of_nonneg (by omega)]; exact e1
      have et2 : (n : Int).tmod 10 = (d : Int) := by rw [Int.tmod_eq_emod_of_nonneg (by omega)]; exact e2
      have ew1 : IntKind.i64.wrap (a : Int) = (a : Int) := IntWalk.i64_in _ (by omega)
      have ew2 : IntKind.i64.wrap (d : Int) = (d : Int) := IntWalk.i64_in _ (by omega)
      have ew3 : IntKind.i64.wrap (48 + (d : Int)) = 48 + (d : Int) := IntWalk.i64_in _ (by omega)
      have ew4 : IntKind.u8.wrap (48 + (d : Int)) = 48 + (d : Int) := by rw [IntKind.wrap_u8]; exact hw
      clear ha hd ht hu hq h hcv hn
      go_enter Tryd.func53, Tryd.ntmps53
      go_wp2
      go_region_with (go_at_call 53; (with_reducible refine (ih.out _).mono ?_); rintro r5 w5 ⟨rfl, hb5⟩; try (have hc5 := (hb5.cell (p := ⟨w.heap.size, 0, none⟩) (by simp)).trans (World.cell?_alloc_new _ _ _ _); simp at hc5))
      all_goals go_wp2
      all_goals go_ret
      all_goals exact ⟨rfl, by (repeat (first | exact Below.refl _ _ | assumption | refine bchain (by assumption) ?_ | refine balloc ?_ _ | apply Below.drew | apply below_drewN | (refine Below.alloc ?_ (by (try simp) <;> omega) _) | (refine Below.setCell ?_ (by (try simp) <;> omega) _)))⟩
end Go.Proofs.YtdbidlnkaplekaaDoor
