/-
  CONTRACTS: which graphs are valid (the program's word and the model's), and a graph of the laws' own as the program's.
-/
import Derived.Test.YtncbimbbkealmaaGreatDoorBase
namespace Go.Proofs.YtncbimbbkealmaaGreatDoor
open Go.RowKit
set_option maxRecDepth 100000

theorem eMax_pow (k : Nat) (h : k ≤ 5) : eMax k = 2 ^ pc k := by
  have hc : k = 0 ∨ k = 1 ∨ k = 2 ∨ k = 3 ∨ k = 4 ∨ k = 5 := by omega
  rcases hc with rfl | rfl | rfl | rfl | rfl | rfl <;> first | rfl | decide +kernel
theorem pc_le (k : Nat) : pc k ≤ 10 := by unfold pc; split <;> omega

section
variable (w : World)

theorem toGraph_any (n e : Int) :
    Calls Tryz.prog 7 #[.agg #[.int .i64 n, .int .u32 e]] w fun r w' => r = .returned (.agg #[.int .i64 n, .int .u32 e]) ∧ Below w.heap.size w w' := by
  go_enter Tryz.func7, Tryz.ntmps7
  go_wp2
  exact bodyPost_ret (v := .agg #[.int .i64 n, .int .u32 e]) (by simp [results, Tryz.results7, go_sem]) rfl ⟨rfl, by repeat (first | exact Below.refl _ _ | apply Below.drew | (refine Below.alloc ?_ (by first | (simp; done) | (simp; omega)) _) | (refine Below.setCell ?_ (by first | (simp; done) | (simp; omega)) _))⟩

theorem valid_t (n e : Int) (h : VG n e) :
    Calls Tryz.prog 20 #[.agg #[.int .i64 n, .int .u32 e]] w fun r w' => r = .returned (.bool true) ∧ Below w.heap.size w w' := by
  obtain ⟨h0, h5, he0, he⟩ := h
  obtain ⟨k, rfl⟩ : ∃ k : Nat, n = k := ⟨n.toNat, by omega⟩
  have hk : k ≤ 5 := by omega
  have hmx := eMax_le k
  rw [Int.toNat_natCast] at he
  have hm := andNot_mask (pc k) (pc_le k) e he0 (by omega)
  rw [← eMax_pow k hk, decide_eq_true he] at hm
  clear hmx
  go_enter Tryz.func20, Tryz.ntmps20
  go_wp2
  go_quiet (first | ((go_at_call 42; exact quiet_eq (vc_t _ _ (by omega) (by omega)))) | ((go_at_call 43; exact quiet_eq (ae_any _ k hk))))
  go_wp2
  go_ret
  exact ⟨rfl, by (repeat (first | exact Below.refl _ _ | assumption | refine bchain (by assumption) ?_ | refine balloc ?_ _ | apply Below.drew | apply below_drewN | (refine Below.alloc ?_ (by (try simp) <;> omega) _) | (refine Below.setCell ?_ (by (try simp) <;> omega) _)))⟩
theorem valid_f (n e : Int) (hn : e < 4294967296) (he0 : 0 ≤ e) (h : ¬ VG n e) :
    Calls Tryz.prog 20 #[.agg #[.int .i64 n, .int .u32 e]] w fun r w' => r = .returned (.bool false) ∧ Below w.heap.size w w' := by
  by_cases hr : n < 0 ∨ 5 < n
  · clear h
    go_enter Tryz.func20, Tryz.ntmps20
    go_wp2
    go_quiet (first | ((go_at_call 42; exact quiet_eq (vc_f _ _ hr))) | ((go_at_call 43; exact quiet_eq (ae_any _ 0 (by omega)))))
    go_wp2
    go_ret
    exact ⟨rfl, by (repeat (first | exact Below.refl _ _ | assumption | refine bchain (by assumption) ?_ | refine balloc ?_ _ | apply Below.drew | apply below_drewN | (refine Below.alloc ?_ (by (try simp) <;> omega) _) | (refine Below.setCell ?_ (by (try simp) <;> omega) _)))⟩
  · obtain ⟨k, rfl⟩ : ∃ k : Nat, n = k := ⟨n.toNat, by omega⟩
    have hk : k ≤ 5 := by omega
    have hm := andNot_mask (pc k) (pc_le k) e he0 (by omega)
    have hx : ¬ e < (eMax k : Nat) := fun c => h ⟨by omega, by omega, he0, by simpa using c⟩
    rw [← eMax_pow k hk, decide_eq_false hx] at hm
    clear h hx
    go_enter Tryz.func20, Tryz.ntmps20
    go_wp2
    go_quiet (first | ((go_at_call 42; exact quiet_eq (vc_t _ _ (by omega) (by omega)))) | ((go_at_call 43; exact quiet_eq (ae_any _ k hk))))
    go_wp2
    go_ret
    exact ⟨rfl, by (repeat (first | exact Below.refl _ _ | assumption | refine bchain (by assumption) ?_ | refine balloc ?_ _ | apply Below.drew | apply below_drewN | (refine Below.alloc ?_ (by (try simp) <;> omega) _) | (refine Below.setCell ?_ (by (try simp) <;> omega) _)))⟩
theorem shl_pc (k : Nat) (h : k ≤ 5) : wrap64 (2 ^ min (IntKind.u64.wrap (pc k : Int)).toNat 64) = (eMax k : Int) := by
  have hc : k = 0 ∨ k = 1 ∨ k = 2 ∨ k = 3 ∨ k = 4 ∨ k = 5 := by omega
  rcases hc with rfl | rfl | rfl | rfl | rfl | rfl <;> first | rfl | decide +kernel

theorem ok_t (n e : Int) (h : VG n e) :
    Calls Tryz.prog 14 #[.agg #[.int .i64 n, .int .u32 e]] w fun r w' => r = .returned (.bool true) ∧ Below w.heap.size w w' := by
  obtain ⟨h0, h5, he0, he⟩ := h
  obtain ⟨k, rfl⟩ : ∃ k : Nat, n = k := ⟨n.toNat, by omega⟩
  have hk : k ≤ 5 := by omega
  have hmx := eMax_le k
  rw [Int.toNat_natCast] at he
  have hsh := shl_pc k hk
  have hd := decide_eq_true he
  go_enter Tryz.func14, Tryz.ntmps14
  go_wp2
  go_quiet (first | ((go_at_call 30; exact quiet_eq (in_t _ _ _ _ (by omega) (by omega)))) | ((go_at_call 31; exact quiet_eq (bits_any _ _ hk))))
  go_wp2
  go_ret
  exact ⟨rfl, by (repeat (first | exact Below.refl _ _ | assumption | refine bchain (by assumption) ?_ | refine balloc ?_ _ | apply Below.drew | apply below_drewN | (refine Below.alloc ?_ (by (try simp) <;> omega) _) | (refine Below.setCell ?_ (by (try simp) <;> omega) _)))⟩
theorem ok_f (n e : Int) (hn : e < 4294967296) (he0 : 0 ≤ e) (h : ¬ VG n e) :
    Calls Tryz.prog 14 #[.agg #[.int .i64 n, .int .u32 e]] w fun r w' => r = .returned (.bool false) ∧ Below w.heap.size w w' := by
  by_cases hr : n < 0 ∨ 5 < n
  · clear h
    go_enter Tryz.func14, Tryz.ntmps14
    go_wp2
    go_quiet (first | ((go_at_call 30; exact quiet_eq (in_f _ _ _ _ hr))) | ((go_at_call 31; exact quiet_eq (bits_any _ 0 (by omega)))))
    go_wp2
    go_ret
    exact ⟨rfl, by (repeat (first | exact Below.refl _ _ | assumption | refine bchain (by assumption) ?_ | refine balloc ?_ _ | apply Below.drew | apply below_drewN | (refine Below.alloc ?_ (by (try simp) <;> omega) _) | (refine Below.setCell ?_ (by (try simp) <;> omega) _)))⟩
  · obtain ⟨k, rfl⟩ : ∃ k : Nat, n = k := ⟨n.toNat, by omega⟩
    have hk : k ≤ 5 := by omega
    have hx : ¬ e < (eMax k : Nat) := fun c => h ⟨by omega, by omega, he0, by simpa using c⟩
    have hsh := shl_pc k hk
    have hd := decide_eq_false hx
    clear h hx
    go_enter Tryz.func14, Tryz.ntmps14
    go_wp2
    go_quiet (first | ((go_at_call 30; exact quiet_eq (in_t _ _ _ _ (by omega) (by omega)))) | ((go_at_call 31; exact quiet_eq (bits_any _ _ hk))))
    go_wp2
    go_ret
    exact ⟨rfl, by (repeat (first | exact Below.refl _ _ | assumption | refine bchain (by assumption) ?_ | refine balloc ?_ _ | apply Below.drew | apply below_drewN | (refine Below.alloc ?_ (by (try simp) <;> omega) _) | (refine Below.setCell ?_ (by (try simp) <;> omega) _)))⟩
end
end Go.Proofs.YtncbimbbkealmaaGreatDoor
