/-
  ReadFlag: what is read, and the model's contract.
-/
import Derived.Test.YtkmlgoklmmbmjaaDoorRgS
import Derived.Test.YtkmlgoklmmbmjaaDoorFtx
import Derived.Test.YtkmlgoklmmbmjaaDoorRi
namespace Go.Proofs.YtkmlgoklmmbmjaaDoor
open Go.RowKit
set_option maxRecDepth 100000
attribute [local go_sem] Oper.semAt_some
attribute [-go_sem] run_index_string run_slice_string run_slice_string_l run_slice_string_h
theorem kWord_inj {p q : Nat × Nat} (h : pWord p = pWord q) : p = q := by
  have h1 := cut_p p
  rw [h, cut_p q] at h1
  injection h1 with a b
  injection b with b _
  exact Prod.ext (dec_inj a).symm (dec_inj b).symm
theorem kmap_inj : ∀ {a b : List (Nat × Nat)}, a.map pWord = b.map pWord → a = b
  | [], [], _ => rfl
  | x :: a, y :: b, h => by
    simp only [List.map_cons, List.cons.injEq] at h
    rw [kWord_inj h.1, kmap_inj h.2]
  | [], _ :: _, h => by simp at h
  | _ :: _, [], h => by simp at h
theorem kText_ginj {n e n' e' : Nat} (hv : VG n e) (hv' : VG n' e') (h : gText n (prE n e) = gText n' (prE n' e')) : n = n' ∧ e = e' := by
  have h1 := words_g n (prE n e)
  rw [h, words_g] at h1
  injection h1 with _ h1
  injection h1 with h2 h3
  obtain rfl := dec_inj h2
  have h4 : prE n' e' = prE n' e := kmap_inj h3
  refine ⟨rfl, ?_⟩
  rw [← geE_all hv, ← geE_all hv', h4]
/-- a flag's box -/
structure FKB (W : World) (B : Nat) (k n e : Int) : Prop where
  lt : B < W.heap.size
  c0 : W.cell? ⟨B, 0, none⟩ = some (.int .i64 k)
  c1 : W.cell? ⟨B, 1, none⟩ = some (.int .i64 n)
  c2 : W.cell? ⟨B, 2, none⟩ = some (.int .u32 e)
  fz : ∀ o, W.frozen? ⟨B, o, none⟩ = false
theorem FKB.below {W W' : World} {B : Nat} {k n e : Int} (h : FKB W B k n e) (hb : Below W.heap.size W W') : FKB W' B k n e :=
  ⟨Nat.lt_of_lt_of_le h.lt hb.size, (hb.cell (p := ⟨B, 0, none⟩) h.lt).trans h.c0, (hb.cell (p := ⟨B, 1, none⟩) h.lt).trans h.c1, (hb.cell (p := ⟨B, 2, none⟩) h.lt).trans h.c2, fun o => (hb.frozen (p := ⟨B, o, none⟩) h.lt).trans (h.fz o)⟩
theorem FKB.made (W : World) (k n e : Int) (t : TypeId) : FKB (W.alloc (.cells #[.int .i64 k, .int .i64 n, .int .u32 e] t)) W.heap.size k n e :=
  ⟨by simp, by rw [World.cell?_alloc_new]; rfl, by rw [World.cell?_alloc_new]; rfl, by rw [World.cell?_alloc_new]; rfl, fun o => by simp⟩
theorem FKB.put {W : World} {B : Nat} {k n e : Int} (h : FKB W B k n e) (k' n' e' : Int) : FKB (((W.setCell ⟨B, 0, none⟩ (.int .i64 k')).setCell ⟨B, 1, none⟩ (.int .i64 n')).setCell ⟨B, 2, none⟩ (.int .u32 e')) B k' n' e' where
  lt := by have := h.lt; simpa using this
  c0 := (World.cell?_setCell_other _ _ _ _ (by simp)).trans ((World.cell?_setCell_other _ _ _ _ (by simp)).trans (World.cell?_setCell_same _ _ _ h.c0))
  c1 := (World.cell?_setCell_other _ _ _ _ (by simp)).trans (World.cell?_setCell_same _ _ _ ((World.cell?_setCell_other _ _ _ _ (by simp)).trans h.c1))
  c2 := World.cell?_setCell_same _ _ _ ((World.cell?_setCell_other _ _ _ _ (by simp)).trans ((World.cell?_setCell_other _ _ _ _ (by simp)).trans h.c2))
  fz := fun o => by simp [h.fz o]
/-- what is read off a text: either it is a valid flag's, or it is no valid flag's -/
def RkR (l : List UInt8) (k n e c : Int) : Prop :=
  (c = 0 ∧ VK k n e ∧ ∃ k' n' e' : Nat, k = k' ∧ n = n' ∧ e = e' ∧ l = kText k' n' (prE n' e')) ∨ (c = 5 ∧ k = 0 ∧ n = 0 ∧ e = 0 ∧ ∀ k' n' e' : Nat, VK k' n' e' → l ≠ kText k' n' (prE n' e'))
def RkP (l : List UInt8) (r : Ending) : Prop := ∃ k n e c, r = .returned (.tuple #[.agg #[.int .i64 k, .int .i64 n, .int .u32 e], .int .i64 c]) ∧ RkR l k n e c
theorem rkP_bad {l : List UInt8} (h : ∀ k n e : Nat, VK k n e → l ≠ kText k n (prE n e)) : RkP l (.returned (.tuple #[.agg #[.int .i64 0, .int .i64 0, .int .u32 0], .int .i64 5])) := ⟨0, 0, 0, 5, rfl, .inr ⟨rfl, rfl, rfl, rfl, h⟩⟩
theorem rkP_ok {l : List UInt8} {k n e : Nat} (h : VK k n e) (hl : l = kText k n (prE n e)) : RkP l (.returned (.tuple #[.agg #[.int .i64 k, .int .i64 n, .int .u32 e], .int .i64 0])) := ⟨k, n, e, 0, rfl, .inl ⟨rfl, h, k, n, e, rfl, rfl, rfl, hl⟩⟩
theorem kText_eq {k : Nat} (h : k ≤ 3) (n : Nat) (ps : List (Nat × Nat)) : kText k n ps = fHead ++ (UInt8.ofNat (48 + k) :: 32 :: gText n ps) := by
  unfold kText
  rw [dd_lt (by omega)]
  simp
/-- the parts of a flag's text -/
theorem kText_parts {l : List UInt8} {k n : Nat} {ps : List (Nat × Nat)} (h : k ≤ 3) (e : l = kText k n ps) : 8 ≤ l.length ∧ l.take 5 = fHead ∧ (∀ h6 : 6 < l.length, l[6] = 32) ∧ (∀ h5 : 5 < l.length, l[5].toNat = 48 + k) ∧ l.drop 7 = gText n ps := by
  rw [kText_eq h] at e
  subst e
  have hg : 6 ≤ (gText n ps).length := by simp [gText, gHead]
  have hf : fHead.length = 5 := rfl
  refine ⟨by simp [hf]; omega, by rw [List.take_left' hf], fun h6 => ?_, fun h5 => ?_, ?_⟩
  · rw [List.getElem_append_right (by omega)]; rfl
  · rw [List.getElem_append_right (by omega)]
    show (UInt8.ofNat (48 + k)).toNat = _
    exact dg_toNat (by omega)
  · rfl
/-- a text of these parts is a flag's -/
theorem kText_of {l : List UInt8} {k n : Nat} {ps : List (Nat × Nat)} (h : k ≤ 3) (h8 : 8 ≤ l.length) (e0 : l.take 5 = fHead) (e6 : l[6] = 32) (e5 : l[5].toNat = 48 + k) (e7 : l.drop 7 = gText n ps) : l = kText k n ps := by
  rw [kText_eq h, ← e0, ← e7]
  have h5 : l[5] = UInt8.ofNat (48 + k) := UInt8.toNat_inj.1 (by rw [e5]; exact (dg_toNat (by omega)).symm)
  rw [← h5, ← e6, ← List.drop_eq_getElem_cons (by omega), ← List.drop_eq_getElem_cons (by omega), List.take_append_drop]
theorem vk_nat {k n e : Nat} (h : VK k n e) : k ≤ 3 ∧ VG n e := ⟨by have := h.2.2.1; omega, h.1⟩
/-- what holds when the operations of the region that makes the flag have come up -/
structure RK4 (W1 : World) (kk n e : Int) (V0 V1 V2 : Value) (f : Nat → Bool) (t37 t38 t39 t40 t41 t42 t6 : Value) (W : World) : Prop where
  below : Below W1.heap.size W1 W
  h0 : f 0 = true → t37 = V0
  h1 : f 1 = true → t38 = V1
  h2 : f 2 = true → t39 = V2
  h3 : f 3 = true → t40 = .int .i64 kk
  h4 : f 4 = true → t41 = .agg #[.int .i64 n, .int .u32 e]
  h5 : f 5 = true → t42 = .agg #[.int .i64 kk, .int .i64 n, .int .u32 e]
  h6 : f 6 = true → ∃ (B : Nat) (x y z : Int), t6 = .pointer (some ⟨B, 0, none⟩) ∧ W1.heap.size ≤ B ∧ FKB W B x y z ∧ (f 7 = true → x = kk ∧ y = n ∧ z = e)
  h7 : f 7 = true → f 6 = true
section
variable {W1 : World} {kk n e : Int} {V0 V1 V2 : Value} {f : Nat → Bool} {t37 t38 t39 t40 t41 t42 t6 : Value} {W : World}
theorem RK4.p0 (h : RK4 W1 kk n e V0 V1 V2 f t37 t38 t39 t40 t41 t42 t6 W) : RK4 W1 kk n e V0 V1 V2 (setf f 0) V0 t38 t39 t40 t41 t42 t6 W :=
  ⟨h.below, fun _ => rfl, fun c => h.h1 c, fun c => h.h2 c, fun c => h.h3 c, fun c => h.h4 c, fun c => h.h5 c, fun c => h.h6 c, fun c => h.h7 c⟩
theorem RK4.p1 (h : RK4 W1 kk n e V0 V1 V2 f t37 t38 t39 t40 t41 t42 t6 W) : RK4 W1 kk n e V0 V1 V2 (setf f 1) t37 V1 t39 t40 t41 t42 t6 W :=
  ⟨h.below, fun c => h.h0 c, fun _ => rfl, fun c => h.h2 c, fun c => h.h3 c, fun c => h.h4 c, fun c => h.h5 c, fun c => h.h6 c, fun c => h.h7 c⟩
theorem RK4.p2 (h : RK4 W1 kk n e V0 V1 V2 f t37 t38 t39 t40 t41 t42 t6 W) : RK4 W1 kk n e V0 V1 V2 (setf f 2) t37 t38 V2 t40 t41 t42 t6 W :=
  ⟨h.below, fun c => h.h0 c, fun c => h.h1 c, fun _ => rfl, fun c => h.h3 c, fun c => h.h4 c, fun c => h.h5 c, fun c => h.h6 c, fun c => h.h7 c⟩
theorem RK4.p3 (h : RK4 W1 kk n e V0 V1 V2 f t37 t38 t39 t40 t41 t42 t6 W) : RK4 W1 kk n e V0 V1 V2 (setf f 3) t37 t38 t39 (.int .i64 kk) t41 t42 t6 W :=
  ⟨h.below, fun c => h.h0 c, fun c => h.h1 c, fun c => h.h2 c, fun _ => rfl, fun c => h.h4 c, fun c => h.h5 c, fun c => h.h6 c, fun c => h.h7 c⟩
theorem RK4.p4 (h : RK4 W1 kk n e V0 V1 V2 f t37 t38 t39 t40 t41 t42 t6 W) : RK4 W1 kk n e V0 V1 V2 (setf f 4) t37 t38 t39 t40 (.agg #[.int .i64 n, .int .u32 e]) t42 t6 W :=
  ⟨h.below, fun c => h.h0 c, fun c => h.h1 c, fun c => h.h2 c, fun c => h.h3 c, fun _ => rfl, fun c => h.h5 c, fun c => h.h6 c, fun c => h.h7 c⟩
theorem RK4.p5 (h : RK4 W1 kk n e V0 V1 V2 f t37 t38 t39 t40 t41 t42 t6 W) : RK4 W1 kk n e V0 V1 V2 (setf f 5) t37 t38 t39 t40 t41 (.agg #[.int .i64 kk, .int .i64 n, .int .u32 e]) t6 W :=
  ⟨h.below, fun c => h.h0 c, fun c => h.h1 c, fun c => h.h2 c, fun c => h.h3 c, fun c => h.h4 c, fun _ => rfl, fun c => h.h6 c, fun c => h.h7 c⟩
theorem RK4.p6 (h : RK4 W1 kk n e V0 V1 V2 f t37 t38 t39 t40 t41 t42 t6 W) (hf : f 6 = false) : RK4 W1 kk n e V0 V1 V2 (setf f 6) t37 t38 t39 t40 t41 t42 (.pointer (some ⟨W.heap.size, 0, none⟩)) (W.alloc (.cells #[.int .i64 0, .int .i64 0, .int .u32 0] 46)) :=
  ⟨balloc h.below _, fun c => h.h0 c, fun c => h.h1 c, fun c => h.h2 c, fun c => h.h3 c, fun c => h.h4 c, fun c => h.h5 c, fun _ => ⟨W.heap.size, 0, 0, 0, rfl, h.below.size, FKB.made W 0 0 0 _, fun c => by have := h.h7 c; rw [hf] at this; cases this⟩, fun _ => rfl⟩
theorem RK4.p7 {B : Nat} (h : RK4 W1 kk n e V0 V1 V2 f t37 t38 t39 t40 t41 t42 (.pointer (some ⟨B, 0, none⟩)) W) (h6 : f 6 = true) {x y z : Int} (hB : W1.heap.size ≤ B) (k : FKB W B x y z) : RK4 W1 kk n e V0 V1 V2 (setf f 7) t37 t38 t39 t40 t41 t42 (.pointer (some ⟨B, 0, none⟩)) (((W.setCell ⟨B, 0, none⟩ (.int .i64 kk)).setCell ⟨B, 1, none⟩ (.int .i64 n)).setCell ⟨B, 2, none⟩ (.int .u32 e)) :=
  ⟨((h.below.setCell (p := ⟨B, 0, none⟩) hB _).setCell (p := ⟨B, 1, none⟩) hB _).setCell (p := ⟨B, 2, none⟩) hB _, fun c => h.h0 c, fun c => h.h1 c, fun c => h.h2 c, fun c => h.h3 c, fun c => h.h4 c, fun c => h.h5 c, fun _ => ⟨B, kk, n, e, rfl, hB, k.put kk n e, fun _ => ⟨rfl, rfl, rfl⟩⟩, fun _ => h6⟩
end
section
variable (w : World)
theorem sok_any (k n e : Nat) (he : e < 4294967296) : Calls Tryd.prog 47 #[.agg #[.int .i64 k, .int .i64 n, .int .u32 e]] w fun r w' => (∃ b : Bool, r = .returned (.bool b) ∧ (b = true ↔ VK k n e)) ∧ Below w.heap.size w w' := by
  by_cases h : VK k n e
  · exact (sok_t w k n e h).mono fun _ _ ⟨a, b⟩ => ⟨⟨true, a, by simp [h]⟩, b⟩
  · exact (sok_f w k n e (by omega) (by omega) h).mono fun _ _ ⟨a, b⟩ => ⟨⟨false, a, by simp [h]⟩, b⟩
set_option maxHeartbeats 4000000 in
theorem srk_any (l : List UInt8) (hl : l.length ≤ 1048576) :
    Calls Tryd.prog 24 #[.string (tx l)] w fun r w' => RkP l r ∧ Below w.heap.size w w' := by
  have hfR := FKB.made w 0 0 0 46
  have hB0 : Below w.heap.size w (w.alloc (.cells #[.int .i64 0, .int .i64 0, .int .u32 0] 46)) := by (repeat (first | exact Below.refl _ _ | assumption | refine bchain (by assumption) ?_ | refine balloc ?_ _ | apply Below.drew | apply below_drewN | (refine Below.alloc ?_ (by (try simp) <;> omega) _) | (refine Below.setCell ?_ (by (try simp) <;> omega) _)))
  have hsz := tx_size l
  have hG := Lib.hid (fun W => srg_any W (l.drop 7) (by simp; omega))
  have hse : 7 ≤ l.length → ∀ W : World, (Instr.slice 9 (.string (tx l)) (some (.int .i64 7)) none none).run Tryd.prog W = .ok (.string (tx (l.drop 7))) W := fun h0 W => by
    rw [run_slice_string_l W _ _ Tryd.underlying9 _ _ (by omega) (by rw [tx_size]; omega)]
    show Result.ok (Value.string ((ByteArray.mk l.toArray).extract _ _)) W = _
    rw [ByteArray.extract_mk, tx_size, List.take_of_length_le (by simp)]
    rfl
  have hsh : 5 ≤ l.length → ∀ W : World, (Instr.slice 9 (.string (tx l)) none (some (.int .i64 5)) none).run Tryd.prog W = .ok (.string (tx (l.take 5))) W := fun h0 W => by
    rw [run_slice_string_h W _ _ Tryd.underlying9 _ _ (by omega) (by rw [tx_size]; omega)]
    show Result.ok (Value.string ((ByteArray.mk l.toArray).extract _ _)) W = _
    rw [ByteArray.extract_mk]
    simp
    rfl
  have hix : ∀ k (hk : k < l.length), ∀ W : World, (Instr.index 9 (.string (tx l)) (.int .i64 (k : Int))).run Tryd.prog W = .ok (.int .u8 (l[k].toNat : Int)) W := fun k hk W => by
    rw [run_index_string _ _ _ _ _ Tryd.underlying9, dif_pos ⟨by omega, by rw [tx_size]; omega⟩]
    rfl
  replace hse := Lib.hid hse
  replace hsh := Lib.hid hsh
  replace hix := Lib.hid hix
  obtain ⟨s, hs⟩ : ∃ s, tx l = s := ⟨_, rfl⟩
  rw [hs] at hsz hse hsh hix ⊢
  clear hs
  have hKp := Lib.hid (fun (k n e : Nat) (hv : VK k n e) (h : l = kText k n (prE n e)) => kText_parts (vk_nat hv).1 h)
  by_cases h8 : l.length < 8
  · have hbad := Lib.hid (rkP_bad (l := l) (fun k n e hv h => by have := (hKp.out k n e hv h).1; omega))
    have d1 := decide_eq_true (show ((l.length : Int) < 8) by omega)
    go_enter Tryd.func24, Tryd.ntmps24
    go_wp2
    exact bodyPost_ret (v := .tuple #[.agg #[.int .i64 0, .int .i64 0, .int .u32 0], .int .i64 5]) (by simp [results, Tryd.results24, go_sem]) rfl ⟨hbad.out, hB0⟩
  have d1 := decide_eq_false (show ¬ ((l.length : Int) < 8) by omega)
  have hs5 := hsh.out (by omega)
  have hx6 := hix.out 6 (by omega)
  have hx5 := hix.out 5 (by omega)
  have hs7 := hse.out (by omega)
  by_cases c1 : l.take 5 = fHead
  rotate_left
  · have hbad := Lib.hid (rkP_bad (l := l) (fun k n e hv h => c1 (hKp.out k n e hv h).2.1))
    have hne : ((tx (l.take 5)).toList == [102, 108, 97, 103, 32]) = false := by
      rw [show (tx (l.take 5)).toList = l.take 5 from ByteArray.toList_mk _]
      exact beq_false_of_ne c1
    obtain ⟨t5, ht5⟩ : ∃ t, tx (l.take 5) = t := ⟨_, rfl⟩
    rw [ht5] at hs5 hne
    clear ht5 c1 hx5 hx6 hs7
    go_enter Tryd.func24, Tryd.ntmps24
    go_wp2
    exact bodyPost_ret (v := .tuple #[.agg #[.int .i64 0, .int .i64 0, .int .u32 0], .int .i64 5]) (by simp [results, Tryd.results24, go_sem]) rfl ⟨hbad.out, hB0⟩
  have heq : ((tx (l.take 5)).toList == [102, 108, 97, 103, 32]) = true := by
    rw [show (tx (l.take 5)).toList = l.take 5 from ByteArray.toList_mk _, c1]
    rfl
  obtain ⟨t5, ht5⟩ : ∃ t, tx (l.take 5) = t := ⟨_, rfl⟩
  rw [ht5] at hs5 heq
  clear ht5
  replace c1 := Lib.hid c1
  obtain ⟨z6, hz6⟩ : ∃ z, l[6].toNat = z := ⟨_, rfl⟩
  obtain ⟨z5, hz5⟩ : ∃ z, l[5].toNat = z := ⟨_, rfl⟩
  have hx6' : ∀ W : World, (Instr.index 9 (.string s) (.int .i64 6)).run Tryd.prog W = .ok (.int .u8 (z6 : Int)) W := fun W => by rw [← hz6]; exact hx6 W
  have hx5' : ∀ W : World, (Instr.index 9 (.string s) (.int .i64 5)).run Tryd.prog W = .ok (.int .u8 (z5 : Int)) W := fun W => by rw [← hz5]; exact hx5 W
  clear hx5 hx6
  replace hz6 := Lib.hid hz6
  replace hz5 := Lib.hid hz5
  by_cases c6 : z6 = 32
  rotate_left
  · have hbad := Lib.hid (rkP_bad (l := l) (fun k n e hv h => c6 (by rw [← hz6.out, (hKp.out k n e hv h).2.2.1 (by omega)]; rfl)))
    have d6 : ((z6 : Int) == 32) = false := by simp; omega
    clear hs7
    go_enter Tryd.func24, Tryd.ntmps24
    go_wp2
    exact bodyPost_ret (v := .tuple #[.agg #[.int .i64 0, .int .i64 0, .int .u32 0], .int .i64 5]) (by simp [results, Tryd.results24, go_sem]) rfl ⟨hbad.out, hB0⟩
  subst c6
  by_cases c5 : z5 < 48
  · have hbad := Lib.hid (rkP_bad (l := l) (fun k n e hv h => by have := (hKp.out k n e hv h).2.2.2.1 (by omega); rw [hz5.out] at this; omega))
    have d5 := decide_eq_true (show (z5 : Int) < 48 by omega)
    clear hs7
    go_enter Tryd.func24, Tryd.ntmps24
    go_wp2
    exact bodyPost_ret (v := .tuple #[.agg #[.int .i64 0, .int .i64 0, .int .u32 0], .int .i64 5]) (by simp [results, Tryd.results24, go_sem]) rfl ⟨hbad.out, hB0⟩
  have d5 := decide_eq_false (show ¬ (z5 : Int) < 48 by omega)
  by_cases c5' : 51 < z5
  · have hbad := Lib.hid (rkP_bad (l := l) (fun k n e hv h => by
      have := (hKp.out k n e hv h).2.2.2.1 (by omega)
      have hk := (vk_nat hv).1
      rw [hz5.out] at this
      omega))
    have d5' := decide_eq_true (show (51 : Int) < (z5 : Int) by omega)
    clear hs7
    go_enter Tryd.func24, Tryd.ntmps24
    go_wp2
    exact bodyPost_ret (v := .tuple #[.agg #[.int .i64 0, .int .i64 0, .int .u32 0], .int .i64 5]) (by simp [results, Tryd.results24, go_sem]) rfl ⟨hbad.out, hB0⟩
  have d5' := decide_eq_false (show ¬ (51 : Int) < (z5 : Int) by omega)
  obtain ⟨kk, rfl⟩ : ∃ kk, z5 = 48 + kk := ⟨z5 - 48, by omega⟩
  have hk3 : kk ≤ 3 := by omega
  replace d5 : decide ((48 : Int) + (kk : Int) < 48) = false := decide_eq_false (by omega)
  replace d5' : decide ((51 : Int) < 48 + (kk : Int)) = false := decide_eq_false (by omega)
  have hKk := Lib.hid (fun (k n e : Nat) (hv : VK k n e) (h : l = kText k n (prE n e)) => show kk = k ∧ l.drop 7 = gText n (prE n e) by
    have h1 := (hKp.out k n e hv h).2.2.2.1 (by omega)
    rw [hz5.out] at h1
    exact ⟨by omega, (hKp.out k n e hv h).2.2.2.2⟩)
  have hOf := Lib.hid (fun (n e : Nat) (h : l.drop 7 = gText n (prE n e)) => kText_of hk3 (by omega) c1.out (UInt8.toNat_inj.1 (by rw [hz6.out]; rfl)) hz5.out h)
  obtain ⟨y, hy⟩ : ∃ y, l.drop 7 = y := ⟨_, rfl⟩
  rw [hy] at hG hs7 hKk hOf
  obtain ⟨ty, hty⟩ : ∃ t, tx y = t := ⟨_, rfl⟩
  rw [hty] at hG hs7
  clear hty hy hse hsh hix c5 c5'
  obtain ⟨W0, hW0⟩ : ∃ W0, W0 = w.alloc (.cells #[.int .i64 0, .int .i64 0, .int .u32 0] 46) := ⟨_, rfl⟩
  rw [← hW0] at hfR hB0
  replace hW0 := Lib.hid hW0
  go_enter Tryd.func24, Tryd.ntmps24
  go_wp2_with fail
  rw [← hW0.out]
  refine (hG.out _).mono ?_
  rintro r1 w1 ⟨⟨n, e, c, rfl, hR⟩, hb1⟩
  have hfR1 := hfR.below hb1
  have hB1 := bchain hb1 hB0
  replace hR := Lib.hid hR
  have hfR1' := Lib.hid hfR1
  obtain ⟨_, r0, r1, r2, rz⟩ := hfR1
  have rz0 := rz 0
  have rz1 := rz 1
  have rz2 := rz 2
  have u2 : IntKind.i64.wrap (kk : Int) = kk := IntWalk.i64_in _ ⟨by omega, by omega⟩
  have u1 : IntKind.u8.wrap (48 + (kk : Int) - 48) = kk := by rw [show (48 : Int) + kk - 48 = kk by omega]; exact IntWalk.u8_in _ ⟨by omega, by omega⟩
  clear rz hfR hb1
  have hfA := GxB.made w1 n e 36
  have hBA : Below w.heap.size w (w1.alloc (.cells #[.int .i64 n, .int .u32 e] 36)) := balloc hB1 _
  have hfR2 := hfR1'.out.below (balloc (Below.refl _ _) (.cells #[.int .i64 n, .int .u32 e] 36))
  obtain ⟨W1, hW1⟩ : ∃ W1, W1 = w1.alloc (.cells #[.int .i64 n, .int .u32 e] 36) := ⟨_, rfl⟩
  obtain ⟨A, hA⟩ : ∃ A, w1.heap.size = A := ⟨_, rfl⟩
  rw [← hW1] at hfA hBA hfR2
  rw [hA] at hfA
  replace hW1 := Lib.hid hW1
  replace hA := Lib.hid hA
  clear r0 r1 r2 rz0 rz1 rz2
  have hfA' := Lib.hid hfA
  clear hfA
  go_wp2_with fail
  rw [← hW1.out, hA.out]
  refine wp_region_inv (fun f ac W => ∃ t37 t38 t39 t40 t41 t42 t6, ac = { tmps := #[.string s, undef, .pointer (some ⟨w.heap.size, 0, none⟩), .int .i64 0, .pointer (some ⟨A, 0, none⟩), .int .i64 c, t6, .string s, .int .i64 (l.length : Int), .bool false, .bool false, .string s, .string t5, .bool false, .bool false, .bool false, .string s, .int .u8 32, .bool false, .bool false, .bool false, .string s, .int .u8 (48 + (kk : Int)), .bool false, .bool false, .bool false, .string s, .int .u8 (48 + (kk : Int)), .bool false, .bool false, undef, .tuple #[.agg #[.int .i64 n, .int .u32 e], .int .i64 c], .string s, .string ty, .tuple #[.agg #[.int .i64 n, .int .u32 e], .int .i64 c], .agg #[.int .i64 n, .int .u32 e], .int .i64 c, t37, t38, t39, t40, t41, t42, undef, undef, undef, undef, undef, undef, undef, undef, undef], defers := [] } ∧ RK4 W1 kk n e (.string s) (.int .u8 (48 + kk)) (.int .u8 kk) f t37 t38 t39 t40 t41 t42 t6 W) (by kernel_rfl) (by kernel_rfl) ?start ?step ?last
  case start => exact ⟨_, _, _, _, _, _, _, rfl, (Below.refl _ W1).drew, fun c => (by cases c), fun c => (by cases c), fun c => (by cases c), fun c => (by cases c), fun c => (by cases c), fun c => (by cases c), fun c => (by cases c), fun c => (by cases c)⟩
  case step =>
    intro i o f ac W ho hf hdep hI
    obtain ⟨t37, t38, t39, t40, t41, t42, t6, rfl, hJ⟩ := hI
    have hi : i < 8 := (Array.getElem?_eq_some_iff.1 ho).1
    have hc : i = 0 ∨ i = 1 ∨ i = 2 ∨ i = 3 ∨ i = 4 ∨ i = 5 ∨ i = 6 ∨ i = 7 := by omega
    clear hi
    rcases hc with rfl | rfl | rfl | rfl | rfl | rfl | rfl | rfl
    · obtain rfl := Option.some.inj ho
      refine wpOp_step rfl (fun K hK => ?_)
      go_simp
      exact hK _ _ ⟨_, _, _, _, _, _, _, rfl, hJ.p0⟩
    · obtain rfl := Option.some.inj ho
      have e0 : f 0 = true := hdep ⟨0, .data⟩ (by simp) (by decide)
      obtain rfl := hJ.h0 e0
      refine wpOp_step rfl (fun K hK => ?_)
      go_simp
      exact hK _ _ ⟨_, _, _, _, _, _, _, rfl, hJ.p1⟩
    · obtain rfl := Option.some.inj ho
      have e1 : f 1 = true := hdep ⟨1, .data⟩ (by simp) (by decide)
      obtain rfl := hJ.h1 e1
      refine wpOp_step rfl (fun K hK => ?_)
      go_simp
      exact hK _ _ ⟨_, _, _, _, _, _, _, rfl, hJ.p2⟩
    · obtain rfl := Option.some.inj ho
      have e2 : f 2 = true := hdep ⟨2, .data⟩ (by simp) (by decide)
      obtain rfl := hJ.h2 e2
      refine wpOp_step rfl (fun K hK => ?_)
      go_simp
      exact hK _ _ ⟨_, _, _, _, _, _, _, rfl, hJ.p3⟩
    · obtain rfl := Option.some.inj ho
      obtain ⟨_, b0, b1, _⟩ := hfA'.out.below hJ.below
      refine wpOp_step rfl (fun K hK => ?_)
      go_simp
      exact hK _ _ ⟨_, _, _, _, _, _, _, rfl, hJ.p4⟩
    · obtain rfl := Option.some.inj ho
      have e3 : f 3 = true := hdep ⟨3, .data⟩ (by simp) (by decide)
      have e4 : f 4 = true := hdep ⟨4, .data⟩ (by simp) (by decide)
      obtain rfl := hJ.h3 e3
      obtain rfl := hJ.h4 e4
      refine wpOp_step rfl (fun K hK => ?_)
      go_simp
      exact hK _ _ ⟨_, _, _, _, _, _, _, rfl, hJ.p5⟩
    · obtain rfl := Option.some.inj ho
      refine wpOp_step rfl (fun K hK => ?_)
      go_simp
      exact hK _ _ ⟨_, _, _, _, _, _, _, rfl, hJ.p6 hf⟩
    · obtain rfl := Option.some.inj ho
      have e6 : f 6 = true := hdep ⟨6, .data⟩ (by simp) (by decide)
      have e5 : f 5 = true := hdep ⟨5, .data⟩ (by simp) (by decide)
      obtain rfl := hJ.h5 e5
      obtain ⟨B, x, y, z, rfl, hB, k, _⟩ := hJ.h6 e6
      obtain ⟨_, b0, b1, b2, bz⟩ := id k
      have bz0 := bz 0
      have bz1 := bz 1
      have bz2 := bz 2
      refine wpOp_step rfl (fun K hK => ?_)
      go_simp
      exact hK _ _ ⟨_, _, _, _, _, _, _, rfl, hJ.p7 e6 hB k⟩
  case last =>
    intro f ac W hall hI
    obtain ⟨t37, t38, t39, t40, t41, t42, t6, rfl, hJ⟩ := hI
    obtain ⟨B, x, y, z, rfl, hB, hkB, hxy⟩ := hJ.h6 (hall 6 (show 6 < 8 by decide))
    obtain ⟨hx, hy, hz⟩ := hxy (hall 7 (show 7 < 8 by decide))
    rw [hx, hy, hz] at hkB
    clear hx hy hz hxy
    have hfR3 := hfR2.below hJ.below
    have hB3 : Below w.heap.size w W := bchain hJ.below hBA
    clear hJ hall hfR2
    have hkB' := Lib.hid hkB
    have hfR3' := Lib.hid hfR3
    obtain ⟨_, q0, q1, q2, _⟩ := hkB
    rcases hR.out with ⟨rfl, hv, n', e', rfl, rfl, hg⟩ | ⟨rfl, rfl, rfl, hno⟩
    · have hO := Lib.hid (sok_any W kk n' e' (vg_nat hv).2)
      have hok := Lib.hid (fun (h : VK kk n' e') => rkP_ok h (hOf.out n' e' hg))
      have hbd := Lib.hid (fun (h : ¬ VK kk n' e') => rkP_bad (l := l) (fun k n e hv2 h2 => by
        obtain ⟨rfl, h3⟩ := hKk.out k n e hv2 h2
        obtain ⟨rfl, rfl⟩ := kText_ginj hv (vk_nat hv2).2 (hg.symm.trans h3)
        exact h hv2))
      clear hg hv
      go_wp2_with fail
      refine hO.out.mono ?_
      rintro r2 w2 ⟨⟨b, rfl, hb⟩, hb2⟩
      have hfR4 := hfR3'.out.below hb2
      have hk4 := hkB'.out.below hb2
      have hB4 := bchain hb2 hB3
      have hfR4' := Lib.hid hfR4
      obtain ⟨_, r0, r1, r2, rz⟩ := hfR4
      have rz0 := rz 0
      have rz1 := rz 1
      have rz2 := rz 2
      clear rz q0 q1 q2 hb2
      obtain ⟨_, q0, q1, q2, _⟩ := hk4
      cases b
      · have hbad := Lib.hid (hbd.out (fun h => by have := hb.2 h; cases this))
        clear hb
        go_wp2
        have hG := (hfR4'.out).put (0) (0) (0)
        have hBB := ((((hB4).setCell (p := ⟨w.heap.size, 0, none⟩) (Nat.le_refl _) (.int .i64 (0))).setCell (p := ⟨w.heap.size, 1, none⟩) (Nat.le_refl _) (.int .i64 (0))).setCell (p := ⟨w.heap.size, 2, none⟩) (Nat.le_refl _) (.int .u32 (0)))
        obtain ⟨WW, hWW⟩ : ∃ WW, WW = ((((((w2).setCell ⟨w.heap.size, 0, none⟩ (.int .i64 (0)))).setCell ⟨w.heap.size, 1, none⟩ (.int .i64 (0)))).setCell ⟨w.heap.size, 2, none⟩ (.int .u32 (0))) := ⟨_, rfl⟩
        rw [← hWW] at hG hBB ⊢
        clear hWW
        obtain ⟨_, F0, F1, F2, _⟩ := hG
        exact bodyPost_ret (v := .tuple #[.agg #[.int .i64 (0), .int .i64 (0), .int .u32 (0)], .int .i64 5]) (by simp [results, Tryd.results24, go_sem, F0, F1, F2]) rfl ⟨hbad.out, hBB⟩
      · have hgood := Lib.hid (hok.out (hb.1 rfl))
        clear hb
        go_wp2
        have hG := (hfR4'.out).put (kk) (n') (e')
        have hBB := ((((hB4).setCell (p := ⟨w.heap.size, 0, none⟩) (Nat.le_refl _) (.int .i64 (kk))).setCell (p := ⟨w.heap.size, 1, none⟩) (Nat.le_refl _) (.int .i64 (n'))).setCell (p := ⟨w.heap.size, 2, none⟩) (Nat.le_refl _) (.int .u32 (e')))
        obtain ⟨WW, hWW⟩ : ∃ WW, WW = ((((((w2).setCell ⟨w.heap.size, 0, none⟩ (.int .i64 (kk)))).setCell ⟨w.heap.size, 1, none⟩ (.int .i64 (n')))).setCell ⟨w.heap.size, 2, none⟩ (.int .u32 (e'))) := ⟨_, rfl⟩
        rw [← hWW] at hG hBB ⊢
        clear hWW
        obtain ⟨_, F0, F1, F2, _⟩ := hG
        exact bodyPost_ret (v := .tuple #[.agg #[.int .i64 (kk), .int .i64 (n'), .int .u32 (e')], .int .i64 0]) (by simp [results, Tryd.results24, go_sem, F0, F1, F2]) rfl ⟨hgood.out, hBB⟩
    · have hbad := Lib.hid (rkP_bad (l := l) (fun k n e hv2 h2 => hno n e (vk_nat hv2).2 (hKk.out k n e hv2 h2).2))
      obtain ⟨_, r0, r1, r2, rz⟩ := hfR3
      have rz0 := rz 0
      have rz1 := rz 1
      have rz2 := rz 2
      clear rz hno
      go_wp2
      have hG := (hfR3'.out).put (0) (0) (0)
      have hBB := ((((hB3).setCell (p := ⟨w.heap.size, 0, none⟩) (Nat.le_refl _) (.int .i64 (0))).setCell (p := ⟨w.heap.size, 1, none⟩) (Nat.le_refl _) (.int .i64 (0))).setCell (p := ⟨w.heap.size, 2, none⟩) (Nat.le_refl _) (.int .u32 (0)))
      obtain ⟨WW, hWW⟩ : ∃ WW, WW = ((((((W).setCell ⟨w.heap.size, 0, none⟩ (.int .i64 (0)))).setCell ⟨w.heap.size, 1, none⟩ (.int .i64 (0)))).setCell ⟨w.heap.size, 2, none⟩ (.int .u32 (0))) := ⟨_, rfl⟩
      rw [← hWW] at hG hBB ⊢
      clear hWW
      obtain ⟨_, F0, F1, F2, _⟩ := hG
      exact bodyPost_ret (v := .tuple #[.agg #[.int .i64 (0), .int .i64 (0), .int .u32 (0)], .int .i64 5]) (by simp [results, Tryd.results24, go_sem, F0, F1, F2]) rfl ⟨hbad.out, hBB⟩
end
end Go.Proofs.YtkmlgoklmmbmjaaDoor
