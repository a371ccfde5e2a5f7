/-
  A region of a law that converts three flags, calls a function and keeps its fraction and its code: what holds when some of its operations have come up.
-/
import Derived.Test.YtncbimbbkealmaaDoorFd
import Derived.Test.YtncbimbbkealmaaDoorRi
namespace Go.Proofs.YtncbimbbkealmaaDoor
open Go.RowKit Go.Shelf
set_option maxRecDepth 100000
/-- what holds when the operations with the flags have come up -/
structure LJ (W0 : World) (A1 A2 A3 : Value) (x y c : Int) (f : Nat → Bool) (tb td tm u0 u1 u2 u3 u4 u5 u6 u7 u8 : Value) (W : World) : Prop where
  below : Below W0.heap.size W0 W
  h0 : f 0 = true → u0 = A1
  h1 : f 1 = true → u1 = A1
  h2 : f 2 = true → u2 = A2
  h3 : f 3 = true → u3 = A2
  h4 : f 4 = true → u4 = A3
  h5 : f 5 = true → u5 = A3
  h6 : f 6 = true → u6 = .tuple #[.agg #[.int .i64 x, .int .i64 y], .int .i64 c]
  h7 : f 7 = true → tm = .tuple #[.agg #[.int .i64 x, .int .i64 y], .int .i64 c]
  h8 : f 8 = true → u7 = .agg #[.int .i64 x, .int .i64 y]
  h9 : f 9 = true → u8 = .int .i64 c
  h12 : f 12 = true → td = .int .i64 c
  h10 : f 10 = true → ∃ B, tb = .pointer (some ⟨B, 0, none⟩) ∧ W0.heap.size ≤ B ∧ FqB W B (if f 11 then x else 0) (if f 11 then y else 0)
  d11 : f 11 = true → f 10 = true
section
variable {W0 : World} {A1 A2 A3 : Value} {x y c : Int} {f : Nat → Bool} {tb td tm u0 u1 u2 u3 u4 u5 u6 u7 u8 : Value} {W : World}
theorem LJ.world (h : LJ W0 A1 A2 A3 x y c f tb td tm u0 u1 u2 u3 u4 u5 u6 u7 u8 W) {W' : World} (hb : Below W.heap.size W W') : LJ W0 A1 A2 A3 x y c f tb td tm u0 u1 u2 u3 u4 u5 u6 u7 u8 W' :=
  ⟨bchain hb h.below, fun e => h.h0 e, fun e => h.h1 e, fun e => h.h2 e, fun e => h.h3 e, fun e => h.h4 e, fun e => h.h5 e, fun e => h.h6 e, fun e => h.h7 e, fun e => h.h8 e, fun e => h.h9 e, fun e => h.h12 e, fun e => let ⟨B, e1, e2, q⟩ := h.h10 e; ⟨B, e1, e2, q.below hb⟩, h.d11⟩
theorem LJ.p0 (h : LJ W0 A1 A2 A3 x y c f tb td tm u0 u1 u2 u3 u4 u5 u6 u7 u8 W) : LJ W0 A1 A2 A3 x y c (setf f 0) tb td tm (A1) u1 u2 u3 u4 u5 u6 u7 u8 W :=
  ⟨h.below, fun _ => rfl, fun e => h.h1 e, fun e => h.h2 e, fun e => h.h3 e, fun e => h.h4 e, fun e => h.h5 e, fun e => h.h6 e, fun e => h.h7 e, fun e => h.h8 e, fun e => h.h9 e, fun e => h.h12 e, fun e => h.h10 e, fun e => h.d11 e⟩
theorem LJ.p1 (h : LJ W0 A1 A2 A3 x y c f tb td tm u0 u1 u2 u3 u4 u5 u6 u7 u8 W) : LJ W0 A1 A2 A3 x y c (setf f 1) tb td tm u0 (A1) u2 u3 u4 u5 u6 u7 u8 W :=
  ⟨h.below, fun e => h.h0 e, fun _ => rfl, fun e => h.h2 e, fun e => h.h3 e, fun e => h.h4 e, fun e => h.h5 e, fun e => h.h6 e, fun e => h.h7 e, fun e => h.h8 e, fun e => h.h9 e, fun e => h.h12 e, fun e => h.h10 e, fun e => h.d11 e⟩
theorem LJ.p2 (h : LJ W0 A1 A2 A3 x y c f tb td tm u0 u1 u2 u3 u4 u5 u6 u7 u8 W) : LJ W0 A1 A2 A3 x y c (setf f 2) tb td tm u0 u1 (A2) u3 u4 u5 u6 u7 u8 W :=
  ⟨h.below, fun e => h.h0 e, fun e => h.h1 e, fun _ => rfl, fun e => h.h3 e, fun e => h.h4 e, fun e => h.h5 e, fun e => h.h6 e, fun e => h.h7 e, fun e => h.h8 e, fun e => h.h9 e, fun e => h.h12 e, fun e => h.h10 e, fun e => h.d11 e⟩
theorem LJ.p3 (h : LJ W0 A1 A2 A3 x y c f tb td tm u0 u1 u2 u3 u4 u5 u6 u7 u8 W) : LJ W0 A1 A2 A3 x y c (setf f 3) tb td tm u0 u1 u2 (A2) u4 u5 u6 u7 u8 W :=
  ⟨h.below, fun e => h.h0 e, fun e => h.h1 e, fun e => h.h2 e, fun _ => rfl, fun e => h.h4 e, fun e => h.h5 e, fun e => h.h6 e, fun e => h.h7 e, fun e => h.h8 e, fun e => h.h9 e, fun e => h.h12 e, fun e => h.h10 e, fun e => h.d11 e⟩
theorem LJ.p4 (h : LJ W0 A1 A2 A3 x y c f tb td tm u0 u1 u2 u3 u4 u5 u6 u7 u8 W) : LJ W0 A1 A2 A3 x y c (setf f 4) tb td tm u0 u1 u2 u3 (A3) u5 u6 u7 u8 W :=
  ⟨h.below, fun e => h.h0 e, fun e => h.h1 e, fun e => h.h2 e, fun e => h.h3 e, fun _ => rfl, fun e => h.h5 e, fun e => h.h6 e, fun e => h.h7 e, fun e => h.h8 e, fun e => h.h9 e, fun e => h.h12 e, fun e => h.h10 e, fun e => h.d11 e⟩
theorem LJ.p5 (h : LJ W0 A1 A2 A3 x y c f tb td tm u0 u1 u2 u3 u4 u5 u6 u7 u8 W) : LJ W0 A1 A2 A3 x y c (setf f 5) tb td tm u0 u1 u2 u3 u4 (A3) u6 u7 u8 W :=
  ⟨h.below, fun e => h.h0 e, fun e => h.h1 e, fun e => h.h2 e, fun e => h.h3 e, fun e => h.h4 e, fun _ => rfl, fun e => h.h6 e, fun e => h.h7 e, fun e => h.h8 e, fun e => h.h9 e, fun e => h.h12 e, fun e => h.h10 e, fun e => h.d11 e⟩
theorem LJ.p6 (h : LJ W0 A1 A2 A3 x y c f tb td tm u0 u1 u2 u3 u4 u5 u6 u7 u8 W) : LJ W0 A1 A2 A3 x y c (setf f 6) tb td tm u0 u1 u2 u3 u4 u5 (.tuple #[.agg #[.int .i64 x, .int .i64 y], .int .i64 c]) u7 u8 W :=
  ⟨h.below, fun e => h.h0 e, fun e => h.h1 e, fun e => h.h2 e, fun e => h.h3 e, fun e => h.h4 e, fun e => h.h5 e, fun _ => rfl, fun e => h.h7 e, fun e => h.h8 e, fun e => h.h9 e, fun e => h.h12 e, fun e => h.h10 e, fun e => h.d11 e⟩
theorem LJ.p7 (h : LJ W0 A1 A2 A3 x y c f tb td tm u0 u1 u2 u3 u4 u5 u6 u7 u8 W) : LJ W0 A1 A2 A3 x y c (setf f 7) tb td (.tuple #[.agg #[.int .i64 x, .int .i64 y], .int .i64 c]) u0 u1 u2 u3 u4 u5 u6 u7 u8 W :=
  ⟨h.below, fun e => h.h0 e, fun e => h.h1 e, fun e => h.h2 e, fun e => h.h3 e, fun e => h.h4 e, fun e => h.h5 e, fun e => h.h6 e, fun _ => rfl, fun e => h.h8 e, fun e => h.h9 e, fun e => h.h12 e, fun e => h.h10 e, fun e => h.d11 e⟩
theorem LJ.p8 (h : LJ W0 A1 A2 A3 x y c f tb td tm u0 u1 u2 u3 u4 u5 u6 u7 u8 W) : LJ W0 A1 A2 A3 x y c (setf f 8) tb td tm u0 u1 u2 u3 u4 u5 u6 (.agg #[.int .i64 x, .int .i64 y]) u8 W :=
  ⟨h.below, fun e => h.h0 e, fun e => h.h1 e, fun e => h.h2 e, fun e => h.h3 e, fun e => h.h4 e, fun e => h.h5 e, fun e => h.h6 e, fun e => h.h7 e, fun _ => rfl, fun e => h.h9 e, fun e => h.h12 e, fun e => h.h10 e, fun e => h.d11 e⟩
theorem LJ.p9 (h : LJ W0 A1 A2 A3 x y c f tb td tm u0 u1 u2 u3 u4 u5 u6 u7 u8 W) : LJ W0 A1 A2 A3 x y c (setf f 9) tb td tm u0 u1 u2 u3 u4 u5 u6 u7 (.int .i64 c) W :=
  ⟨h.below, fun e => h.h0 e, fun e => h.h1 e, fun e => h.h2 e, fun e => h.h3 e, fun e => h.h4 e, fun e => h.h5 e, fun e => h.h6 e, fun e => h.h7 e, fun e => h.h8 e, fun _ => rfl, fun e => h.h12 e, fun e => h.h10 e, fun e => h.d11 e⟩
theorem LJ.p12 (h : LJ W0 A1 A2 A3 x y c f tb td tm u0 u1 u2 u3 u4 u5 u6 u7 u8 W) : LJ W0 A1 A2 A3 x y c (setf f 12) tb (.int .i64 c) tm u0 u1 u2 u3 u4 u5 u6 u7 u8 W :=
  ⟨h.below, fun e => h.h0 e, fun e => h.h1 e, fun e => h.h2 e, fun e => h.h3 e, fun e => h.h4 e, fun e => h.h5 e, fun e => h.h6 e, fun e => h.h7 e, fun e => h.h8 e, fun e => h.h9 e, fun _ => rfl, fun e => h.h10 e, fun e => h.d11 e⟩
theorem LJ.a10 (h : LJ W0 A1 A2 A3 x y c f tb td tm u0 u1 u2 u3 u4 u5 u6 u7 u8 W) (hf : f 10 = false) (t : TypeId) : LJ W0 A1 A2 A3 x y c (setf f 10) (.pointer (some ⟨W.heap.size, 0, none⟩)) td tm u0 u1 u2 u3 u4 u5 u6 u7 u8 (W.alloc (.cells #[.int .i64 0, .int .i64 0] t)) := by
  have hb : Below W.heap.size W (W.alloc (.cells #[.int .i64 0, .int .i64 0] t)) := balloc (Below.refl _ _) _
  have h11 : ¬ f 11 = true := fun e => by have := h.d11 e; rw [hf] at this; cases this
  have k := h.world hb
  refine ⟨k.below, fun e => k.h0 e, fun e => k.h1 e, fun e => k.h2 e, fun e => k.h3 e, fun e => k.h4 e, fun e => k.h5 e, fun e => k.h6 e, fun e => k.h7 e, fun e => k.h8 e, fun e => k.h9 e, fun e => k.h12 e, fun _ => ⟨W.heap.size, rfl, h.below.size, ?_⟩, fun _ => rfl⟩
  show FqB _ _ (if f 11 then x else 0) (if f 11 then y else 0)
  rw [if_neg h11, if_neg h11]
  exact FqB.made W 0 0 t
theorem LJ.s11 (h : LJ W0 A1 A2 A3 x y c f tb td tm u0 u1 u2 u3 u4 u5 u6 u7 u8 W) (g10 : f 10 = true) {B : Nat} {x' y' : Int} (e0 : tb = .pointer (some ⟨B, 0, none⟩)) (hB : W0.heap.size ≤ B) (k0 : FqB W B x' y') : LJ W0 A1 A2 A3 x y c (setf f 11) tb td tm u0 u1 u2 u3 u4 u5 u6 u7 u8 ((W.setCell ⟨B, 0, none⟩ (.int .i64 x)).setCell ⟨B, 1, none⟩ (.int .i64 y)) :=
  ⟨(h.below.setCell (p := ⟨B, 0, none⟩) hB _).setCell (p := ⟨B, 1, none⟩) hB _, fun e => h.h0 e, fun e => h.h1 e, fun e => h.h2 e, fun e => h.h3 e, fun e => h.h4 e, fun e => h.h5 e, fun e => h.h6 e, fun e => h.h7 e, fun e => h.h8 e, fun e => h.h9 e, fun e => h.h12 e, fun _ => ⟨B, e0, hB, k0.put x y⟩, fun _ => g10⟩
end
end Go.Proofs.YtncbimbbkealmaaDoor
