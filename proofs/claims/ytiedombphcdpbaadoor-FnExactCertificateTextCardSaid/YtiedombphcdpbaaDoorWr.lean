/-
  REGIONS THAT DRAW THEIR ORDER AND END IN A WRITE TO A BUILDER: their invariants.
-/
import Derived.Test.YtiedombphcdpbaaDoorBd
import Derived.Test.YtiedombphcdpbaaDoorRi
namespace Go.Proofs.YtiedombphcdpbaaDoor
open Go.RowKit
set_option maxRecDepth 100000
/-- what holds when the operations with the flags have come up: a box, a builder that the last operation writes -/
structure W11 (n0 : Nat) (W3 : World) (b B : Nat) (O : Obj) (l l2 : List UInt8) (V0 V1 V2 V3 V4 V5 V6 V7 V8 V9 V10 : Value) (f : Nat → Bool) (t0 t1 t2 t3 t4 t5 t6 t7 t8 t9 t10 : Value) (W : World) : Prop where
  below : Below n0 W3 W
  box : W.heap[B]? = some O
  bd : ∃ t, BdAt W b t ∧ (f 10 = false → t = l) ∧ (f 10 = true → t = l2)
  h0 : f 0 = true → t0 = V0
  h1 : f 1 = true → t1 = V1
  h2 : f 2 = true → t2 = V2
  h3 : f 3 = true → t3 = V3
  h4 : f 4 = true → t4 = V4
  h5 : f 5 = true → t5 = V5
  h6 : f 6 = true → t6 = V6
  h7 : f 7 = true → t7 = V7
  h8 : f 8 = true → t8 = V8
  h9 : f 9 = true → t9 = V9
  h10 : f 10 = true → t10 = V10
section
variable {n0 : Nat} {W3 : World} {b B : Nat} {O : Obj} {l l2 : List UInt8} {V0 V1 V2 V3 V4 V5 V6 V7 V8 V9 V10 : Value} {f : Nat → Bool} {t0 t1 t2 t3 t4 t5 t6 t7 t8 t9 t10 : Value} {W : World}
theorem W11.p0 (h : W11 n0 W3 b B O l l2 V0 V1 V2 V3 V4 V5 V6 V7 V8 V9 V10 f t0 t1 t2 t3 t4 t5 t6 t7 t8 t9 t10 W) : W11 n0 W3 b B O l l2 V0 V1 V2 V3 V4 V5 V6 V7 V8 V9 V10 (setf f 0) V0 t1 t2 t3 t4 t5 t6 t7 t8 t9 t10 W :=
  ⟨h.below, h.box, h.bd, fun _ => rfl, fun c => h.h1 c, fun c => h.h2 c, fun c => h.h3 c, fun c => h.h4 c, fun c => h.h5 c, fun c => h.h6 c, fun c => h.h7 c, fun c => h.h8 c, fun c => h.h9 c, fun c => h.h10 c⟩
theorem W11.p1 (h : W11 n0 W3 b B O l l2 V0 V1 V2 V3 V4 V5 V6 V7 V8 V9 V10 f t0 t1 t2 t3 t4 t5 t6 t7 t8 t9 t10 W) : W11 n0 W3 b B O l l2 V0 V1 V2 V3 V4 V5 V6 V7 V8 V9 V10 (setf f 1) t0 V1 t2 t3 t4 t5 t6 t7 t8 t9 t10 W :=
  ⟨h.below, h.box, h.bd, fun c => h.h0 c, fun _ => rfl, fun c => h.h2 c, fun c => h.h3 c, fun c => h.h4 c, fun c => h.h5 c, fun c => h.h6 c, fun c => h.h7 c, fun c => h.h8 c, fun c => h.h9 c, fun c => h.h10 c⟩
theorem W11.p2 (h : W11 n0 W3 b B O l l2 V0 V1 V2 V3 V4 V5 V6 V7 V8 V9 V10 f t0 t1 t2 t3 t4 t5 t6 t7 t8 t9 t10 W) : W11 n0 W3 b B O l l2 V0 V1 V2 V3 V4 V5 V6 V7 V8 V9 V10 (setf f 2) t0 t1 V2 t3 t4 t5 t6 t7 t8 t9 t10 W :=
  ⟨h.below, h.box, h.bd, fun c => h.h0 c, fun c => h.h1 c, fun _ => rfl, fun c => h.h3 c, fun c => h.h4 c, fun c => h.h5 c, fun c => h.h6 c, fun c => h.h7 c, fun c => h.h8 c, fun c => h.h9 c, fun c => h.h10 c⟩
theorem W11.p3 (h : W11 n0 W3 b B O l l2 V0 V1 V2 V3 V4 V5 V6 V7 V8 V9 V10 f t0 t1 t2 t3 t4 t5 t6 t7 t8 t9 t10 W) : W11 n0 W3 b B O l l2 V0 V1 V2 V3 V4 V5 V6 V7 V8 V9 V10 (setf f 3) t0 t1 t2 V3 t4 t5 t6 t7 t8 t9 t10 W :=
  ⟨h.below, h.box, h.bd, fun c => h.h0 c, fun c => h.h1 c, fun c => h.h2 c, fun _ => rfl, fun c => h.h4 c, fun c => h.h5 c, fun c => h.h6 c, fun c => h.h7 c, fun c => h.h8 c, fun c => h.h9 c, fun c => h.h10 c⟩
theorem W11.p4 (h : W11 n0 W3 b B O l l2 V0 V1 V2 V3 V4 V5 V6 V7 V8 V9 V10 f t0 t1 t2 t3 t4 t5 t6 t7 t8 t9 t10 W) : W11 n0 W3 b B O l l2 V0 V1 V2 V3 V4 V5 V6 V7 V8 V9 V10 (setf f 4) t0 t1 t2 t3 V4 t5 t6 t7 t8 t9 t10 W :=
  ⟨h.below, h.box, h.bd, fun c => h.h0 c, fun c => h.h1 c, fun c => h.h2 c, fun c => h.h3 c, fun _ => rfl, fun c => h.h5 c, fun c => h.h6 c, fun c => h.h7 c, fun c => h.h8 c, fun c => h.h9 c, fun c => h.h10 c⟩
theorem W11.p5 (h : W11 n0 W3 b B O l l2 V0 V1 V2 V3 V4 V5 V6 V7 V8 V9 V10 f t0 t1 t2 t3 t4 t5 t6 t7 t8 t9 t10 W) : W11 n0 W3 b B O l l2 V0 V1 V2 V3 V4 V5 V6 V7 V8 V9 V10 (setf f 5) t0 t1 t2 t3 t4 V5 t6 t7 t8 t9 t10 W :=
  ⟨h.below, h.box, h.bd, fun c => h.h0 c, fun c => h.h1 c, fun c => h.h2 c, fun c => h.h3 c, fun c => h.h4 c, fun _ => rfl, fun c => h.h6 c, fun c => h.h7 c, fun c => h.h8 c, fun c => h.h9 c, fun c => h.h10 c⟩
theorem W11.p6 (h : W11 n0 W3 b B O l l2 V0 V1 V2 V3 V4 V5 V6 V7 V8 V9 V10 f t0 t1 t2 t3 t4 t5 t6 t7 t8 t9 t10 W) : W11 n0 W3 b B O l l2 V0 V1 V2 V3 V4 V5 V6 V7 V8 V9 V10 (setf f 6) t0 t1 t2 t3 t4 t5 V6 t7 t8 t9 t10 W :=
  ⟨h.below, h.box, h.bd, fun c => h.h0 c, fun c => h.h1 c, fun c => h.h2 c, fun c => h.h3 c, fun c => h.h4 c, fun c => h.h5 c, fun _ => rfl, fun c => h.h7 c, fun c => h.h8 c, fun c => h.h9 c, fun c => h.h10 c⟩
theorem W11.p7 (h : W11 n0 W3 b B O l l2 V0 V1 V2 V3 V4 V5 V6 V7 V8 V9 V10 f t0 t1 t2 t3 t4 t5 t6 t7 t8 t9 t10 W) : W11 n0 W3 b B O l l2 V0 V1 V2 V3 V4 V5 V6 V7 V8 V9 V10 (setf f 7) t0 t1 t2 t3 t4 t5 t6 V7 t8 t9 t10 W :=
  ⟨h.below, h.box, h.bd, fun c => h.h0 c, fun c => h.h1 c, fun c => h.h2 c, fun c => h.h3 c, fun c => h.h4 c, fun c => h.h5 c, fun c => h.h6 c, fun _ => rfl, fun c => h.h8 c, fun c => h.h9 c, fun c => h.h10 c⟩
theorem W11.p8 (h : W11 n0 W3 b B O l l2 V0 V1 V2 V3 V4 V5 V6 V7 V8 V9 V10 f t0 t1 t2 t3 t4 t5 t6 t7 t8 t9 t10 W) : W11 n0 W3 b B O l l2 V0 V1 V2 V3 V4 V5 V6 V7 V8 V9 V10 (setf f 8) t0 t1 t2 t3 t4 t5 t6 t7 V8 t9 t10 W :=
  ⟨h.below, h.box, h.bd, fun c => h.h0 c, fun c => h.h1 c, fun c => h.h2 c, fun c => h.h3 c, fun c => h.h4 c, fun c => h.h5 c, fun c => h.h6 c, fun c => h.h7 c, fun _ => rfl, fun c => h.h9 c, fun c => h.h10 c⟩
theorem W11.p9 (h : W11 n0 W3 b B O l l2 V0 V1 V2 V3 V4 V5 V6 V7 V8 V9 V10 f t0 t1 t2 t3 t4 t5 t6 t7 t8 t9 t10 W) : W11 n0 W3 b B O l l2 V0 V1 V2 V3 V4 V5 V6 V7 V8 V9 V10 (setf f 9) t0 t1 t2 t3 t4 t5 t6 t7 t8 V9 t10 W :=
  ⟨h.below, h.box, h.bd, fun c => h.h0 c, fun c => h.h1 c, fun c => h.h2 c, fun c => h.h3 c, fun c => h.h4 c, fun c => h.h5 c, fun c => h.h6 c, fun c => h.h7 c, fun c => h.h8 c, fun _ => rfl, fun c => h.h10 c⟩
theorem W11.world (h : W11 n0 W3 b B O l l2 V0 V1 V2 V3 V4 V5 V6 V7 V8 V9 V10 f t0 t1 t2 t3 t4 t5 t6 t7 t8 t9 t10 W) (h3 : n0 ≤ W3.heap.size) {W' : World} (hb : Below W.heap.size W W') : W11 n0 W3 b B O l l2 V0 V1 V2 V3 V4 V5 V6 V7 V8 V9 V10 f t0 t1 t2 t3 t4 t5 t6 t7 t8 t9 t10 W' :=
  ⟨h.below.trans (hb.mono (Nat.le_trans h3 h.below.size)), (hb.block _ (Array.getElem?_eq_some_iff.1 h.box).1).trans h.box, let ⟨t, k, k1, k2⟩ := h.bd; ⟨t, k.below hb, k1, k2⟩, fun c => h.h0 c, fun c => h.h1 c, fun c => h.h2 c, fun c => h.h3 c, fun c => h.h4 c, fun c => h.h5 c, fun c => h.h6 c, fun c => h.h7 c, fun c => h.h8 c, fun c => h.h9 c, fun c => h.h10 c⟩
theorem W11.write (h : W11 n0 W3 b B O l l2 V0 V1 V2 V3 V4 V5 V6 V7 V8 V9 V10 f t0 t1 t2 t3 t4 t5 t6 t7 t8 t9 t10 W) (hbn : n0 ≤ b) {W' : World} (hd : BdAt W' b l2) (hb : Below b W W') (hk : W'.heap[B]? = W.heap[B]?) : W11 n0 W3 b B O l l2 V0 V1 V2 V3 V4 V5 V6 V7 V8 V9 V10 (setf f 10) t0 t1 t2 t3 t4 t5 t6 t7 t8 t9 V10 W' :=
  ⟨h.below.trans (hb.mono hbn), hk.trans h.box, ⟨l2, hd, fun c => (by cases c), fun _ => rfl⟩, fun c => h.h0 c, fun c => h.h1 c, fun c => h.h2 c, fun c => h.h3 c, fun c => h.h4 c, fun c => h.h5 c, fun c => h.h6 c, fun c => h.h7 c, fun c => h.h8 c, fun c => h.h9 c, fun _ => rfl⟩
theorem W11.start (hd : BdAt W3 b l) (hB : W3.heap[B]? = some O) : W11 n0 W3 b B O l l2 V0 V1 V2 V3 V4 V5 V6 V7 V8 V9 V10 (fun _ => false) t0 t1 t2 t3 t4 t5 t6 t7 t8 t9 t10 W3.drew :=
  ⟨(Below.refl n0 W3).drew, hB, ⟨l, hd.below (Below.refl _ W3).drew, fun _ => rfl, fun c => (by cases c)⟩, fun c => (by cases c), fun c => (by cases c), fun c => (by cases c), fun c => (by cases c), fun c => (by cases c), fun c => (by cases c), fun c => (by cases c), fun c => (by cases c), fun c => (by cases c), fun c => (by cases c), fun c => (by cases c)⟩
theorem W11.at (h : W11 n0 W3 b B O l l2 V0 V1 V2 V3 V4 V5 V6 V7 V8 V9 V10 f t0 t1 t2 t3 t4 t5 t6 t7 t8 t9 t10 W) (hf : f 10 = false) : BdAt W b l := by
  obtain ⟨t, k, k1, _⟩ := h.bd
  rw [← k1 hf]; exact k
theorem W11.fin (h : W11 n0 W3 b B O l l2 V0 V1 V2 V3 V4 V5 V6 V7 V8 V9 V10 f t0 t1 t2 t3 t4 t5 t6 t7 t8 t9 t10 W) (hf : f 10 = true) : BdAt W b l2 := by
  obtain ⟨t, k, _, k2⟩ := h.bd
  rw [← k2 hf]; exact k
end
end Go.Proofs.YtiedombphcdpbaaDoor
