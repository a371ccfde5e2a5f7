/-
  THE TEXT OF A FLAG: the program's and the model's contracts.
-/
import Derived.Test.YtiedombphcdpbaaDoorGtI
import Derived.Test.YtiedombphcdpbaaDoorKVal
namespace Go.Proofs.YtiedombphcdpbaaDoor
open Go.RowKit
set_option maxRecDepth 100000
attribute [local go_sem] Oper.semAt_some
def fHead : List UInt8 := [102, 108, 97, 103, 32]
/-- the text of a flag -/
def kText (k n : Nat) (ps : List (Nat × Nat)) : List UInt8 := (fHead ++ Lib.decDigits k) ++ ([32] ++ gText n ps)
theorem run_flag (k n : Nat) (ps : List (Nat × Nat)) (hk : k < 1000000) (hl : (gText n ps).length ≤ 5000) :
    (∀ W : World, (Op.stringOp .add { data := #[102, 108, 97, 103, 32] } (tx (Lib.decDigits k))).run Tryd.prog W = .ok (.string (tx (fHead ++ Lib.decDigits k))) W) ∧
    (∀ W : World, (Op.stringOp .add (tx (fHead ++ Lib.decDigits k)) { data := #[32] }).run Tryd.prog W = .ok (.string (tx ((fHead ++ Lib.decDigits k) ++ [32]))) W) ∧
    (∀ W : World, (Op.stringOp .add (tx ((fHead ++ Lib.decDigits k) ++ [32])) (tx (gText n ps))).run Tryd.prog W = .ok (.string (tx (kText k n ps))) W) := by
  have l1 := dd_len (n := k) (by omega)
  have e1 : ({ data := #[102, 108, 97, 103, 32] } : ByteArray) = tx fHead := rfl
  have e2 : ({ data := #[32] } : ByteArray) = tx [32] := rfl
  have x3 : tx ((fHead ++ Lib.decDigits k) ++ [32]) ++ tx (gText n ps) = tx (kText k n ps) := by rw [tx_app, List.append_assoc]; rfl
  have h5 : fHead.length = 5 := rfl
  refine ⟨fun W => ?_, fun W => ?_, fun W => ?_⟩
  · rw [e1, ← tx_app]; exact run_string_add W _ _ (by rw [tx_size]; omega) (by rw [tx_size]; omega)
  · rw [e2, ← tx_app (fHead ++ _) [32]]; exact run_string_add W _ _ (by simp [tx_size]; omega) (by simp [tx_size])
  · rw [← x3]; exact run_string_add W _ _ (by simp [tx_size]; omega) (by rw [tx_size]; omega)
section
variable (w : World)
theorem skt_f (k n e : Int) (hn : e < 4294967296) (he0 : 0 ≤ e) (h : ¬ VK k n e) :
    Calls Tryd.prog 86 #[.agg #[.int .i64 k, .int .i64 n, .int .u32 e]] w fun r w' => r = .returned (.string ⟨#[]⟩) ∧ Below w.heap.size w w' := by
  go_enter Tryd.func86, Tryd.ntmps86
  go_wp2_with fail
  refine (sok_f _ k n e hn he0 h).mono ?_
  rintro r1 w1 ⟨rfl, hb1⟩
  go_wp2
  go_ret
  exact ⟨rfl, by (repeat (first | exact Below.refl _ _ | assumption | refine bchain (by assumption) ?_ | refine balloc ?_ _ | apply Below.drew | apply below_drewN | (refine Below.alloc ?_ (by (try simp) <;> omega) _) | (refine Below.setCell ?_ (by (try simp) <;> omega) _)))⟩
theorem ikt_f (k n e : Int) (hn : e < 4294967296) (he0 : 0 ≤ e) (h : ¬ VK k n e) :
    Calls Tryd.prog 53 #[.agg #[.int .i64 k, .int .i64 n, .int .u32 e]] w fun r w' => r = .returned (.string ⟨#[]⟩) ∧ Below w.heap.size w w' := by
  go_enter Tryd.func53, Tryd.ntmps53
  go_wp2_with fail
  refine (ivk_f _ k n e hn he0 h).mono ?_
  rintro r1 w1 ⟨rfl, hb1⟩
  go_wp2
  go_ret
  exact ⟨rfl, by (repeat (first | exact Below.refl _ _ | assumption | refine bchain (by assumption) ?_ | refine balloc ?_ _ | apply Below.drew | apply below_drewN | (refine Below.alloc ?_ (by (try simp) <;> omega) _) | (refine Below.setCell ?_ (by (try simp) <;> omega) _)))⟩
set_option maxHeartbeats 1000000 in
theorem skt_t (k n e : Nat) (h : VK k n e) :
    Calls Tryd.prog 86 #[.agg #[.int .i64 k, .int .i64 n, .int .u32 e]] w fun r w' => r = .returned (.string (tx (kText k n (prE n e)))) ∧ Below w.heap.size w w' := by
  have hV := Lib.hid (fun W => sok_t W k n e h)
  have hn5 : n ≤ 5 := by have := h.1.2.1; omega
  have hk3 : k ≤ 3 := by have := h.2.2.1; omega
  have hD := Lib.hid (fun W => dec_any 5 W k (by omega) (by omega))
  have hG := Lib.hid (fun W => sgt_t W n e h.1)
  obtain ⟨x1, x2, x3⟩ := run_flag k n (prE n e) (by omega) (by
    have h1 := gText_len (n := n) (by omega) (ps := prE n e) (fun p hp => by have := prE_small hn5 p hp; omega)
    have h2 := prE_len n e hn5
    omega)
  obtain ⟨t1, ht1⟩ : ∃ t, tx (Lib.decDigits k) = t := ⟨_, rfl⟩
  obtain ⟨t2, ht2⟩ : ∃ t, tx (fHead ++ Lib.decDigits k) = t := ⟨_, rfl⟩
  obtain ⟨t3, ht3⟩ : ∃ t, tx ((fHead ++ Lib.decDigits k) ++ [32]) = t := ⟨_, rfl⟩
  obtain ⟨t4, ht4⟩ : ∃ t, tx (gText n (prE n e)) = t := ⟨_, rfl⟩
  obtain ⟨t5, ht5⟩ : ∃ t, tx (kText k n (prE n e)) = t := ⟨_, rfl⟩
  rw [ht1] at hD x1
  rw [ht2] at x1 x2
  rw [ht3] at x2 x3
  rw [ht4] at hG x3
  rw [ht5] at x3 ⊢
  clear ht1 ht2 ht3 ht4 ht5 h hn5 hk3
  have hfc := FC.made w k n e 92
  go_enter Tryd.func86, Tryd.ntmps86
  go_wp2_with fail
  refine (hV.out _).mono ?_
  rintro r1 w1 ⟨rfl, hb1⟩
  have hf1 := hfc.below hb1
  clear hfc
  have q0 := bw_cell hf1.lt hf1.c0
  have q1 := bw_cell hf1.lt hf1.c1
  have q2 := bw_cell hf1.lt hf1.c2
  go_wp2_with fail
  refine wp_region_below (by kernel_rfl) (by kernel_rfl) ?_
  iterate 2 (quiet_step (fail))
  refine wpQuiet_step (fun K hK => ?_)
  go_simp
  apply Exists.intro
  refine ⟨fun p => ?_, hK _ ?_⟩
  · exact bw_of (w := w1) (p := p) (hD.out p.W)
  clear hK K
  iterate 4 (quiet_step (fail))
  refine wpQuiet_step (fun K hK => ?_)
  go_simp
  apply Exists.intro
  refine ⟨fun p => ?_, hK _ ?_⟩
  · exact bw_of (w := w1) (p := p) (hG.out p.W)
  clear hK K
  iterate 2 (quiet_step (fail))
  refine wpQuiet_nil ?_
  intro w3 hw'
  obtain ⟨⟨wx, hb_w3⟩, rfl⟩ := hw'
  go_wp2
  go_ret
  exact ⟨rfl, by (repeat (first | exact Below.refl _ _ | assumption | refine bchain (by assumption) ?_ | refine balloc ?_ _ | apply Below.drew | apply below_drewN | (refine Below.alloc ?_ (by (try simp) <;> omega) _) | (refine Below.setCell ?_ (by (try simp) <;> omega) _)))⟩
set_option maxHeartbeats 1000000 in
theorem ikt_t (k n e : Nat) (h : VK k n e) (hT : TabP w) :
    Calls Tryd.prog 53 #[.agg #[.int .i64 k, .int .i64 n, .int .u32 e]] w fun r w' => r = .returned (.string (tx (kText k n (prE n e)))) ∧ Below w.heap.size w w' := by
  have hV := Lib.hid (fun W => ivk_t W k n e h)
  have hn5 : n ≤ 5 := by have := h.1.2.1; omega
  have hk3 : k ≤ 3 := by have := h.2.2.1; omega
  have hD := Lib.hid (fun W (h2 : Below w.heap.size w W) => fmt_any W k (by omega) (hT.below h2))
  have hG := Lib.hid (fun W (h2 : Below w.heap.size w W) => igt_t W n e h.1 (hT.below h2))
  obtain ⟨x1, x2, x3⟩ := run_flag k n (prE n e) (by omega) (by
    have h1 := gText_len (n := n) (by omega) (ps := prE n e) (fun p hp => by have := prE_small hn5 p hp; omega)
    have h2 := prE_len n e hn5
    omega)
  obtain ⟨t1, ht1⟩ : ∃ t, tx (Lib.decDigits k) = t := ⟨_, rfl⟩
  obtain ⟨t2, ht2⟩ : ∃ t, tx (fHead ++ Lib.decDigits k) = t := ⟨_, rfl⟩
  obtain ⟨t3, ht3⟩ : ∃ t, tx ((fHead ++ Lib.decDigits k) ++ [32]) = t := ⟨_, rfl⟩
  obtain ⟨t4, ht4⟩ : ∃ t, tx (gText n (prE n e)) = t := ⟨_, rfl⟩
  obtain ⟨t5, ht5⟩ : ∃ t, tx (kText k n (prE n e)) = t := ⟨_, rfl⟩
  rw [ht1] at hD x1
  rw [ht2] at x1 x2
  rw [ht3] at x2 x3
  rw [ht4] at hG x3
  rw [ht5] at x3 ⊢
  clear ht1 ht2 ht3 ht4 ht5 h hn5 hk3 hT
  have hfc := FC.made w k n e 92
  go_enter Tryd.func53, Tryd.ntmps53
  go_wp2_with fail
  refine (hV.out _).mono ?_
  rintro r1 w1 ⟨rfl, hb1⟩
  have hf1 := hfc.below hb1
  clear hfc
  have q0 := bw_cell hf1.lt hf1.c0
  have q1 := bw_cell hf1.lt hf1.c1
  have q2 := bw_cell hf1.lt hf1.c2
  have hB1 : Below w.heap.size w w1 := by (repeat (first | exact Below.refl _ _ | assumption | refine bchain (by assumption) ?_ | refine balloc ?_ _ | apply Below.drew | apply below_drewN | (refine Below.alloc ?_ (by (try simp) <;> omega) _) | (refine Below.setCell ?_ (by (try simp) <;> omega) _)))
  go_wp2_with fail
  refine wp_region_below (by kernel_rfl) (by kernel_rfl) ?_
  iterate 2 (quiet_step (fail))
  refine wpQuiet_step (fun K hK => ?_)
  go_simp
  apply Exists.intro
  refine ⟨fun p => ?_, hK _ ?_⟩
  · exact bw_of (w := w1) (p := p) (hD.out p.W (bchain p.h hB1))
  clear hK K
  iterate 4 (quiet_step (fail))
  refine wpQuiet_step (fun K hK => ?_)
  go_simp
  apply Exists.intro
  refine ⟨fun p => ?_, hK _ ?_⟩
  · exact bw_of (w := w1) (p := p) (hG.out p.W (bchain p.h hB1))
  clear hK K
  iterate 2 (quiet_step (fail))
  refine wpQuiet_nil ?_
  intro w3 hw'
  obtain ⟨⟨wx, hb_w3⟩, rfl⟩ := hw'
  go_wp2
  go_ret
  exact ⟨rfl, by (repeat (first | exact Below.refl _ _ | assumption | refine bchain (by assumption) ?_ | refine balloc ?_ _ | apply Below.drew | apply below_drewN | (refine Below.alloc ?_ (by (try simp) <;> omega) _) | (refine Below.setCell ?_ (by (try simp) <;> omega) _)))⟩
end
end Go.Proofs.YtiedombphcdpbaaDoor
