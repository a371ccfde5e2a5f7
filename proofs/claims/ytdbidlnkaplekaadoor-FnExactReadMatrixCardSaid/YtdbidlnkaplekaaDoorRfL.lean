/-
  ReadFraction: the last region of the model's l02Read, by itself.
-/
import Derived.Test.YtdbidlnkaplekaaDoorRfI
import Derived.Test.YtdbidlnkaplekaaDoorRi
import Derived.Deep.RegionWith
namespace Go.Proofs.YtdbidlnkaplekaaDoor
open Go.RowKit
set_option maxRecDepth 100000
attribute [local go_sem] Oper.semAt_some
def rfOps : Array Oper := #[{ dst := some 52, op := Op.load 53 (Operand.tmp 9), type := 53, pos := "l02_fractions.go:163", after := #[], guard := none }, { dst := some 53, op := Op.move (Operand.tmp 8), type := 4, pos := "l02_fractions.go:163", after := #[], guard := none }, { dst := some 54, op := Op.move (Operand.tmp 53), type := 4, pos := "l02_fractions.go:163", after := #[{ on := 1, ground := Ground.data }], guard := none }, { dst := some 55, op := Op.move (Operand.tmp 10), type := 4, pos := "l02_fractions.go:163", after := #[{ on := 2, ground := Ground.guard }], guard := some (2, true) }, { dst := some 56, op := Op.pick (Operand.tmp 54) (Operand.tmp 55) (Operand.const (Value.bool false)), type := 4, pos := "l02_fractions.go:163", after := #[{ on := 2, ground := Ground.data }, { on := 3, ground := Ground.data }], guard := none }, { dst := some 57, op := Op.move (Operand.tmp 56), type := 4, pos := "l02_fractions.go:163", after := #[{ on := 4, ground := Ground.data }, { on := 2, ground := Ground.chain }], guard := none }, { dst := some 58, op := Op.load 53 (Operand.tmp 9), type := 53, pos := "l02_fractions.go:163", after := #[{ on := 5, ground := Ground.guard }], guard := some (5, true) }, { dst := some 59, op := Op.call { callee := Callee.value (Operand.func 35), args := #[Operand.tmp 58], argTypes := #[53] }, type := 4, pos := "l02_fractions.go:163", after := #[{ on := 6, ground := Ground.data }, { on := 5, ground := Ground.chain }, { on := 5, ground := Ground.guard }], guard := some (5, true) }, { dst := some 60, op := Op.pick (Operand.tmp 57) (Operand.tmp 59) (Operand.const (Value.bool false)), type := 4, pos := "l02_fractions.go:163", after := #[{ on := 5, ground := Ground.data }, { on := 7, ground := Ground.data }], guard := none }, { dst := some 61, op := Op.move (Operand.tmp 60), type := 4, pos := "l02_fractions.go:163", after := #[{ on := 8, ground := Ground.data }, { on := 7, ground := Ground.chain }], guard := none }, { dst := some 62, op := Op.load 53 (Operand.tmp 9), type := 53, pos := "l02_fractions.go:163", after := #[{ on := 9, ground := Ground.guard }], guard := some (9, true) }, { dst := some 63, op := Op.call { callee := Callee.value (Operand.func 36), args := #[Operand.tmp 62], argTypes := #[53] }, type := 9, pos := "l02_fractions.go:163", after := #[{ on := 10, ground := Ground.data }, { on := 9, ground := Ground.chain }, { on := 9, ground := Ground.guard }], guard := some (9, true) }, { dst := some 64, op := Op.move (Operand.tmp 0), type := 9, pos := "l02_fractions.go:163", after := #[{ on := 9, ground := Ground.guard }, { on := 15, ground := Ground.gcOnly Departure.lateStores }], guard := some (9, true) }, { dst := some 65, op := Op.binOp BinOp.eql 9 (Operand.tmp 63) (Operand.tmp 64) 9, type := 4, pos := "l02_fractions.go:163", after := #[{ on := 11, ground := Ground.data }, { on := 12, ground := Ground.data }, { on := 9, ground := Ground.guard }, { on := 15, ground := Ground.gcOnly Departure.lateStores }], guard := some (9, true) }, { dst := some 66, op := Op.pick (Operand.tmp 61) (Operand.tmp 65) (Operand.const (Value.bool false)), type := 4, pos := "l02_fractions.go:163", after := #[{ on := 9, ground := Ground.data }, { on := 13, ground := Ground.data }, { on := 15, ground := Ground.gcOnly Departure.lateStores }], guard := none }, { dst := none, op := Op.store 53 (Operand.tmp 2) (Operand.tmp 52), type := 0, pos := "l02_fractions.go:163", after := #[{ on := 0, ground := Ground.data }, { on := 11, ground := Ground.chain }, { on := 0, ground := Ground.phase }, { on := 1, ground := Ground.textOnly Departure.lateStores }, { on := 2, ground := Ground.textOnly Departure.lateStores }, { on := 3, ground := Ground.textOnly Departure.lateStores }, { on := 4, ground := Ground.textOnly Departure.lateStores }, { on := 5, ground := Ground.textOnly Departure.lateStores }, { on := 6, ground := Ground.textOnly Departure.lateStores }, { on := 7, ground := Ground.textOnly Departure.lateStoresUnsure }, { on := 8, ground := Ground.textOnly Departure.lateStores }, { on := 9, ground := Ground.textOnly Departure.lateStores }, { on := 10, ground := Ground.textOnly Departure.lateStores }, { on := 11, ground := Ground.textOnly Departure.lateStoresUnsure }, { on := 12, ground := Ground.textOnly Departure.lateStores }, { on := 13, ground := Ground.textOnly Departure.lateStores }, { on := 14, ground := Ground.textOnly Departure.lateStores }], guard := none }, { dst := some 3, op := Op.assign (Operand.tmp 66), type := 4, pos := "l02_fractions.go:163", after := #[{ on := 14, ground := Ground.data }, { on := 15, ground := Ground.chain }, { on := 0, ground := Ground.phase }, { on := 1, ground := Ground.phase }, { on := 2, ground := Ground.phase }, { on := 3, ground := Ground.phase }, { on := 4, ground := Ground.phase }, { on := 5, ground := Ground.phase }, { on := 6, ground := Ground.phase }, { on := 7, ground := Ground.phase }, { on := 8, ground := Ground.phase }, { on := 9, ground := Ground.phase }, { on := 10, ground := Ground.phase }, { on := 11, ground := Ground.phase }, { on := 12, ground := Ground.phase }, { on := 13, ground := Ground.phase }, { on := 14, ground := Ground.phase }, { on := 15, ground := Ground.phase }], guard := none }]
/-- what holds when the operations with the flags have come up -/
structure RJ (b0 : Nat) (W3 : World) (R A : Nat) (P Q : Int) (one two vf eq g1 g2 g3 : Bool) (T s : ByteArray) (f : Nat → Bool) (t52 t53 t54 t55 t56 t57 t58 t59 t60 t61 t62 t63 t64 t65 t66 t3 : Value) (W : World) : Prop where
  below : Below b0 W3 W
  fR : ∃ x y, FxB W R x y ∧ (f 15 = true → x = P ∧ y = Q)
  fA : FxB W A P Q
  h0 : f 0 = true → t52 = .agg #[.int .i64 P, .int .i64 Q]
  h1 : f 1 = true → t53 = .bool one
  h2 : f 2 = true → t54 = .bool one
  h3 : f 3 = true → one = true → t55 = .bool two
  h4 : f 4 = true → t56 = .bool g1
  h5 : f 5 = true → t57 = .bool g1
  h6 : f 6 = true → g1 = true → t58 = .agg #[.int .i64 P, .int .i64 Q]
  h7 : f 7 = true → g1 = true → t59 = .bool vf
  h8 : f 8 = true → t60 = .bool g2
  h9 : f 9 = true → t61 = .bool g2
  h10 : f 10 = true → g2 = true → t62 = .agg #[.int .i64 P, .int .i64 Q]
  h11 : f 11 = true → g2 = true → t63 = .string T
  h12 : f 12 = true → g2 = true → t64 = .string s
  h13 : f 13 = true → g2 = true → t65 = .bool eq
  h14 : f 14 = true → t66 = .bool g3
  h16 : f 16 = true → t3 = .bool g3
section
variable {b0 : Nat} {W3 : World} {R A : Nat} {P Q : Int} {one two vf eq g1 g2 g3 : Bool} {T s : ByteArray} {f : Nat → Bool} {t52 t53 t54 t55 t56 t57 t58 t59 t60 t61 t62 t63 t64 t65 t66 t3 : Value} {W : World}
theorem RJ.p0 (h : RJ b0 W3 R A P Q one two vf eq g1 g2 g3 T s f t52 t53 t54 t55 t56 t57 t58 t59 t60 t61 t62 t63 t64 t65 t66 t3 W) {v : Value} (hv : v = .agg #[.int .i64 P, .int .i64 Q]) : RJ b0 W3 R A P Q one two vf eq g1 g2 g3 T s (setf f 0) v t53 t54 t55 t56 t57 t58 t59 t60 t61 t62 t63 t64 t65 t66 t3 W :=
  ⟨h.below, h.fR, h.fA, fun _ => hv, fun c => h.h1 c, fun c => h.h2 c, fun c => h.h3 c, fun c => h.h4 c, fun c => h.h5 c, fun c => h.h6 c, fun c => h.h7 c, fun c => h.h8 c, fun c => h.h9 c, fun c => h.h10 c, fun c => h.h11 c, fun c => h.h12 c, fun c => h.h13 c, fun c => h.h14 c, fun c => h.h16 c⟩
theorem RJ.p1 (h : RJ b0 W3 R A P Q one two vf eq g1 g2 g3 T s f t52 t53 t54 t55 t56 t57 t58 t59 t60 t61 t62 t63 t64 t65 t66 t3 W) {v : Value} (hv : v = .bool one) : RJ b0 W3 R A P Q one two vf eq g1 g2 g3 T s (setf f 1) t52 v t54 t55 t56 t57 t58 t59 t60 t61 t62 t63 t64 t65 t66 t3 W :=
  ⟨h.below, h.fR, h.fA, fun c => h.h0 c, fun _ => hv, fun c => h.h2 c, fun c => h.h3 c, fun c => h.h4 c, fun c => h.h5 c, fun c => h.h6 c, fun c => h.h7 c, fun c => h.h8 c, fun c => h.h9 c, fun c => h.h10 c, fun c => h.h11 c, fun c => h.h12 c, fun c => h.h13 c, fun c => h.h14 c, fun c => h.h16 c⟩
theorem RJ.p2 (h : RJ b0 W3 R A P Q one two vf eq g1 g2 g3 T s f t52 t53 t54 t55 t56 t57 t58 t59 t60 t61 t62 t63 t64 t65 t66 t3 W) {v : Value} (hv : v = .bool one) : RJ b0 W3 R A P Q one two vf eq g1 g2 g3 T s (setf f 2) t52 t53 v t55 t56 t57 t58 t59 t60 t61 t62 t63 t64 t65 t66 t3 W :=
  ⟨h.below, h.fR, h.fA, fun c => h.h0 c, fun c => h.h1 c, fun _ => hv, fun c => h.h3 c, fun c => h.h4 c, fun c => h.h5 c, fun c => h.h6 c, fun c => h.h7 c, fun c => h.h8 c, fun c => h.h9 c, fun c => h.h10 c, fun c => h.h11 c, fun c => h.h12 c, fun c => h.h13 c, fun c => h.h14 c, fun c => h.h16 c⟩
theorem RJ.p3 (h : RJ b0 W3 R A P Q one two vf eq g1 g2 g3 T s f t52 t53 t54 t55 t56 t57 t58 t59 t60 t61 t62 t63 t64 t65 t66 t3 W) {v : Value} (hv : one = true → v = .bool two) : RJ b0 W3 R A P Q one two vf eq g1 g2 g3 T s (setf f 3) t52 t53 t54 v t56 t57 t58 t59 t60 t61 t62 t63 t64 t65 t66 t3 W :=
  ⟨h.below, h.fR, h.fA, fun c => h.h0 c, fun c => h.h1 c, fun c => h.h2 c, fun _ => hv, fun c => h.h4 c, fun c => h.h5 c, fun c => h.h6 c, fun c => h.h7 c, fun c => h.h8 c, fun c => h.h9 c, fun c => h.h10 c, fun c => h.h11 c, fun c => h.h12 c, fun c => h.h13 c, fun c => h.h14 c, fun c => h.h16 c⟩
theorem RJ.p4 (h : RJ b0 W3 R A P Q one two vf eq g1 g2 g3 T s f t52 t53 t54 t55 t56 t57 t58 t59 t60 t61 t62 t63 t64 t65 t66 t3 W) {v : Value} (hv : v = .bool g1) : RJ b0 W3 R A P Q one two vf eq g1 g2 g3 T s (setf f 4) t52 t53 t54 t55 v t57 t58 t59 t60 t61 t62 t63 t64 t65 t66 t3 W :=
  ⟨h.below, h.fR, h.fA, fun c => h.h0 c, fun c => h.h1 c, fun c => h.h2 c, fun c => h.h3 c, fun _ => hv, fun c => h.h5 c, fun c => h.h6 c, fun c => h.h7 c, fun c => h.h8 c, fun c => h.h9 c, fun c => h.h10 c, fun c => h.h11 c, fun c => h.h12 c, fun c => h.h13 c, fun c => h.h14 c, fun c => h.h16 c⟩
theorem RJ.p5 (h : RJ b0 W3 R A P Q one two vf eq g1 g2 g3 T s f t52 t53 t54 t55 t56 t57 t58 t59 t60 t61 t62 t63 t64 t65 t66 t3 W) {v : Value} (hv : v = .bool g1) : RJ b0 W3 R A P Q one two vf eq g1 g2 g3 T s (setf f 5) t52 t53 t54 t55 t56 v t58 t59 t60 t61 t62 t63 t64 t65 t66 t3 W :=
  ⟨h.below, h.fR, h.fA, fun c => h.h0 c, fun c => h.h1 c, fun c => h.h2 c, fun c => h.h3 c, fun c => h.h4 c, fun _ => hv, fun c => h.h6 c, fun c => h.h7 c, fun c => h.h8 c, fun c => h.h9 c, fun c => h.h10 c, fun c => h.h11 c, fun c => h.h12 c, fun c => h.h13 c, fun c => h.h14 c, fun c => h.h16 c⟩
theorem RJ.p6 (h : RJ b0 W3 R A P Q one two vf eq g1 g2 g3 T s f t52 t53 t54 t55 t56 t57 t58 t59 t60 t61 t62 t63 t64 t65 t66 t3 W) {v : Value} (hv : g1 = true → v = .agg #[.int .i64 P, .int .i64 Q]) : RJ b0 W3 R A P Q one two vf eq g1 g2 g3 T s (setf f 6) t52 t53 t54 t55 t56 t57 v t59 t60 t61 t62 t63 t64 t65 t66 t3 W :=
  ⟨h.below, h.fR, h.fA, fun c => h.h0 c, fun c => h.h1 c, fun c => h.h2 c, fun c => h.h3 c, fun c => h.h4 c, fun c => h.h5 c, fun _ => hv, fun c => h.h7 c, fun c => h.h8 c, fun c => h.h9 c, fun c => h.h10 c, fun c => h.h11 c, fun c => h.h12 c, fun c => h.h13 c, fun c => h.h14 c, fun c => h.h16 c⟩
theorem RJ.p7 (h : RJ b0 W3 R A P Q one two vf eq g1 g2 g3 T s f t52 t53 t54 t55 t56 t57 t58 t59 t60 t61 t62 t63 t64 t65 t66 t3 W) {v : Value} (hv : g1 = true → v = .bool vf) : RJ b0 W3 R A P Q one two vf eq g1 g2 g3 T s (setf f 7) t52 t53 t54 t55 t56 t57 t58 v t60 t61 t62 t63 t64 t65 t66 t3 W :=
  ⟨h.below, h.fR, h.fA, fun c => h.h0 c, fun c => h.h1 c, fun c => h.h2 c, fun c => h.h3 c, fun c => h.h4 c, fun c => h.h5 c, fun c => h.h6 c, fun _ => hv, fun c => h.h8 c, fun c => h.h9 c, fun c => h.h10 c, fun c => h.h11 c, fun c => h.h12 c, fun c => h.h13 c, fun c => h.h14 c, fun c => h.h16 c⟩
theorem RJ.p8 (h : RJ b0 W3 R A P Q one two vf eq g1 g2 g3 T s f t52 t53 t54 t55 t56 t57 t58 t59 t60 t61 t62 t63 t64 t65 t66 t3 W) {v : Value} (hv : v = .bool g2) : RJ b0 W3 R A P Q one two vf eq g1 g2 g3 T s (setf f 8) t52 t53 t54 t55 t56 t57 t58 t59 v t61 t62 t63 t64 t65 t66 t3 W :=
  ⟨h.below, h.fR, h.fA, fun c => h.h0 c, fun c => h.h1 c, fun c => h.h2 c, fun c => h.h3 c, fun c => h.h4 c, fun c => h.h5 c, fun c => h.h6 c, fun c => h.h7 c, fun _ => hv, fun c => h.h9 c, fun c => h.h10 c, fun c => h.h11 c, fun c => h.h12 c, fun c => h.h13 c, fun c => h.h14 c, fun c => h.h16 c⟩
theorem RJ.p9 (h : RJ b0 W3 R A P Q one two vf eq g1 g2 g3 T s f t52 t53 t54 t55 t56 t57 t58 t59 t60 t61 t62 t63 t64 t65 t66 t3 W) {v : Value} (hv : v = .bool g2) : RJ b0 W3 R A P Q one two vf eq g1 g2 g3 T s (setf f 9) t52 t53 t54 t55 t56 t57 t58 t59 t60 v t62 t63 t64 t65 t66 t3 W :=
  ⟨h.below, h.fR, h.fA, fun c => h.h0 c, fun c => h.h1 c, fun c => h.h2 c, fun c => h.h3 c, fun c => h.h4 c, fun c => h.h5 c, fun c => h.h6 c, fun c => h.h7 c, fun c => h.h8 c, fun _ => hv, fun c => h.h10 c, fun c => h.h11 c, fun c => h.h12 c, fun c => h.h13 c, fun c => h.h14 c, fun c => h.h16 c⟩
theorem RJ.p10 (h : RJ b0 W3 R A P Q one two vf eq g1 g2 g3 T s f t52 t53 t54 t55 t56 t57 t58 t59 t60 t61 t62 t63 t64 t65 t66 t3 W) {v : Value} (hv : g2 = true → v = .agg #[.int .i64 P, .int .i64 Q]) : RJ b0 W3 R A P Q one two vf eq g1 g2 g3 T s (setf f 10) t52 t53 t54 t55 t56 t57 t58 t59 t60 t61 v t63 t64 t65 t66 t3 W :=
  ⟨h.below, h.fR, h.fA, fun c => h.h0 c, fun c => h.h1 c, fun c => h.h2 c, fun c => h.h3 c, fun c => h.h4 c, fun c => h.h5 c, fun c => h.h6 c, fun c => h.h7 c, fun c => h.h8 c, fun c => h.h9 c, fun _ => hv, fun c => h.h11 c, fun c => h.h12 c, fun c => h.h13 c, fun c => h.h14 c, fun c => h.h16 c⟩
theorem RJ.p11 (h : RJ b0 W3 R A P Q one two vf eq g1 g2 g3 T s f t52 t53 t54 t55 t56 t57 t58 t59 t60 t61 t62 t63 t64 t65 t66 t3 W) {v : Value} (hv : g2 = true → v = .string T) : RJ b0 W3 R A P Q one two vf eq g1 g2 g3 T s (setf f 11) t52 t53 t54 t55 t56 t57 t58 t59 t60 t61 t62 v t64 t65 t66 t3 W :=
  ⟨h.below, h.fR, h.fA, fun c => h.h0 c, fun c => h.h1 c, fun c => h.h2 c, fun c => h.h3 c, fun c => h.h4 c, fun c => h.h5 c, fun c => h.h6 c, fun c => h.h7 c, fun c => h.h8 c, fun c => h.h9 c, fun c => h.h10 c, fun _ => hv, fun c => h.h12 c, fun c => h.h13 c, fun c => h.h14 c, fun c => h.h16 c⟩
theorem RJ.p12 (h : RJ b0 W3 R A P Q one two vf eq g1 g2 g3 T s f t52 t53 t54 t55 t56 t57 t58 t59 t60 t61 t62 t63 t64 t65 t66 t3 W) {v : Value} (hv : g2 = true → v = .string s) : RJ b0 W3 R A P Q one two vf eq g1 g2 g3 T s (setf f 12) t52 t53 t54 t55 t56 t57 t58 t59 t60 t61 t62 t63 v t65 t66 t3 W :=
  ⟨h.below, h.fR, h.fA, fun c => h.h0 c, fun c => h.h1 c, fun c => h.h2 c, fun c => h.h3 c, fun c => h.h4 c, fun c => h.h5 c, fun c => h.h6 c, fun c => h.h7 c, fun c => h.h8 c, fun c => h.h9 c, fun c => h.h10 c, fun c => h.h11 c, fun _ => hv, fun c => h.h13 c, fun c => h.h14 c, fun c => h.h16 c⟩
theorem RJ.p13 (h : RJ b0 W3 R A P Q one two vf eq g1 g2 g3 T s f t52 t53 t54 t55 t56 t57 t58 t59 t60 t61 t62 t63 t64 t65 t66 t3 W) {v : Value} (hv : g2 = true → v = .bool eq) : RJ b0 W3 R A P Q one two vf eq g1 g2 g3 T s (setf f 13) t52 t53 t54 t55 t56 t57 t58 t59 t60 t61 t62 t63 t64 v t66 t3 W :=
  ⟨h.below, h.fR, h.fA, fun c => h.h0 c, fun c => h.h1 c, fun c => h.h2 c, fun c => h.h3 c, fun c => h.h4 c, fun c => h.h5 c, fun c => h.h6 c, fun c => h.h7 c, fun c => h.h8 c, fun c => h.h9 c, fun c => h.h10 c, fun c => h.h11 c, fun c => h.h12 c, fun _ => hv, fun c => h.h14 c, fun c => h.h16 c⟩
theorem RJ.p14 (h : RJ b0 W3 R A P Q one two vf eq g1 g2 g3 T s f t52 t53 t54 t55 t56 t57 t58 t59 t60 t61 t62 t63 t64 t65 t66 t3 W) {v : Value} (hv : v = .bool g3) : RJ b0 W3 R A P Q one two vf eq g1 g2 g3 T s (setf f 14) t52 t53 t54 t55 t56 t57 t58 t59 t60 t61 t62 t63 t64 t65 v t3 W :=
  ⟨h.below, h.fR, h.fA, fun c => h.h0 c, fun c => h.h1 c, fun c => h.h2 c, fun c => h.h3 c, fun c => h.h4 c, fun c => h.h5 c, fun c => h.h6 c, fun c => h.h7 c, fun c => h.h8 c, fun c => h.h9 c, fun c => h.h10 c, fun c => h.h11 c, fun c => h.h12 c, fun c => h.h13 c, fun _ => hv, fun c => h.h16 c⟩
theorem RJ.p16 (h : RJ b0 W3 R A P Q one two vf eq g1 g2 g3 T s f t52 t53 t54 t55 t56 t57 t58 t59 t60 t61 t62 t63 t64 t65 t66 t3 W) {v : Value} (hv : v = .bool g3) : RJ b0 W3 R A P Q one two vf eq g1 g2 g3 T s (setf f 16) t52 t53 t54 t55 t56 t57 t58 t59 t60 t61 t62 t63 t64 t65 t66 v W :=
  ⟨h.below, h.fR, h.fA, fun c => h.h0 c, fun c => h.h1 c, fun c => h.h2 c, fun c => h.h3 c, fun c => h.h4 c, fun c => h.h5 c, fun c => h.h6 c, fun c => h.h7 c, fun c => h.h8 c, fun c => h.h9 c, fun c => h.h10 c, fun c => h.h11 c, fun c => h.h12 c, fun c => h.h13 c, fun c => h.h14 c, fun _ => hv⟩
theorem RJ.world (h : RJ b0 W3 R A P Q one two vf eq g1 g2 g3 T s f t52 t53 t54 t55 t56 t57 t58 t59 t60 t61 t62 t63 t64 t65 t66 t3 W) {W' : World} (h1 : b0 ≤ W.heap.size) (hb : Below W.heap.size W W') : RJ b0 W3 R A P Q one two vf eq g1 g2 g3 T s f t52 t53 t54 t55 t56 t57 t58 t59 t60 t61 t62 t63 t64 t65 t66 t3 W' :=
  ⟨(h.below.trans (hb.mono h1)), let ⟨x, y, k, e⟩ := h.fR; ⟨x, y, k.below hb, e⟩, h.fA.below hb, fun c => h.h0 c, fun c => h.h1 c, fun c => h.h2 c, fun c => h.h3 c, fun c => h.h4 c, fun c => h.h5 c, fun c => h.h6 c, fun c => h.h7 c, fun c => h.h8 c, fun c => h.h9 c, fun c => h.h10 c, fun c => h.h11 c, fun c => h.h12 c, fun c => h.h13 c, fun c => h.h14 c, fun c => h.h16 c⟩
theorem RJ.st (h : RJ b0 W3 R A P Q one two vf eq g1 g2 g3 T s f t52 t53 t54 t55 t56 t57 t58 t59 t60 t61 t62 t63 t64 t65 t66 t3 W) (h0 : b0 ≤ R) (hRA : R ≠ A) : RJ b0 W3 R A P Q one two vf eq g1 g2 g3 T s (setf f 15) t52 t53 t54 t55 t56 t57 t58 t59 t60 t61 t62 t63 t64 t65 t66 t3 ((W.setCell ⟨R, 0, none⟩ (.int .i64 P)).setCell ⟨R, 1, none⟩ (.int .i64 Q)) := by
  obtain ⟨x, y, k, e⟩ := h.fR
  have hs : ((W.setCell ⟨R, 0, none⟩ (.int .i64 P)).setCell ⟨R, 1, none⟩ (.int .i64 Q)).heap[A]? = W.heap[A]? := (Below.heap_setCell _ _ _ _ (fun e => hRA e.symm)).trans (Below.heap_setCell _ _ _ _ (fun e => hRA e.symm))
  have fA := h.fA
  exact ⟨(h.below.setCell (p := ⟨R, 0, none⟩) h0 _).setCell (p := ⟨R, 1, none⟩) h0 _, ⟨P, Q, k.put P Q, fun _ => ⟨rfl, rfl⟩⟩, ⟨by simpa using fA.lt, (World.cell?_of_block (a := ⟨A, 0, none⟩) hs).trans fA.c0, (World.cell?_of_block (a := ⟨A, 1, none⟩) hs).trans fA.c1, fun o => by simp [fA.fz o]⟩, fun c => h.h0 c, fun c => h.h1 c, fun c => h.h2 c, fun c => h.h3 c, fun c => h.h4 c, fun c => h.h5 c, fun c => h.h6 c, fun c => h.h7 c, fun c => h.h8 c, fun c => h.h9 c, fun c => h.h10 c, fun c => h.h11 c, fun c => h.h12 c, fun c => h.h13 c, fun c => h.h14 c, fun c => h.h16 c⟩

end
set_option maxHeartbeats 4000000 in
theorem rl_any (one two vf eq g1 g2 g3 : Bool) (q1 : Hid (g1 = (one && two))) (q2 : Hid (g2 = (g1 && vf))) (q3 : Hid (g3 = (g2 && eq))) (T s : ByteArray) (he : Hid ((T.toList == s.toList) = eq)) (W3 : World) (R A b0 : Nat) (P Q x y : Int) (hR : FxB W3 R x y) (hA : FxB W3 A P Q) (hRA : R ≠ A) (h0 : b0 ≤ R) (h1 : b0 ≤ W3.heap.size)
    (hO : ∀ W, Calls Tryd.prog 35 #[.agg #[.int .i64 P, .int .i64 Q]] W fun r w' => r = .returned (.bool vf) ∧ Below W.heap.size W w')
    (hT : ∀ W, Calls Tryd.prog 36 #[.agg #[.int .i64 P, .int .i64 Q]] W fun r w' => r = .returned (.string T) ∧ Below W.heap.size W w')
    {u1 u3 u4 u5 u6 u7 u11 u12 u13 u14 u15 u16 u17 u18 u19 u20 u21 u22 u23 u24 u25 u26 u27 u28 u29 u30 u31 u32 u33 u34 u35 u36 u37 u38 u39 u40 u41 u42 u43 u44 u45 u46 u47 u48 u49 u50 u51 u52 u53 u54 u55 u56 u57 u58 u59 u60 u61 u62 u63 u64 u65 u66 : Value} {K : Act → World → Prop} {X : Exit → Act → World → Prop}
    (hK : ∀ t52 t53 t54 t55 t56 t57 t58 t59 t60 t61 t62 t63 t64 t65 t66 W, FxB W R P Q → Below b0 W3 W → K { tmps := #[.string s, u1, .pointer (some ⟨R, 0, none⟩), .bool g3, u4, u5, u6, u7, .bool one, .pointer (some ⟨A, 0, none⟩), .bool two, u11, u12, u13, u14, u15, u16, u17, u18, u19, u20, u21, u22, u23, u24, u25, u26, u27, u28, u29, u30, u31, u32, u33, u34, u35, u36, u37, u38, u39, u40, u41, u42, u43, u44, u45, u46, u47, u48, u49, u50, u51, t52, t53, t54, t55, t56, t57, t58, t59, t60, t61, t62, t63, t64, t65, t66], defers := [] } W) :
    (Code.region 13 rfOps true).wp Tryd.prog (Exit.then K X) { tmps := #[.string s, u1, .pointer (some ⟨R, 0, none⟩), u3, u4, u5, u6, u7, .bool one, .pointer (some ⟨A, 0, none⟩), .bool two, u11, u12, u13, u14, u15, u16, u17, u18, u19, u20, u21, u22, u23, u24, u25, u26, u27, u28, u29, u30, u31, u32, u33, u34, u35, u36, u37, u38, u39, u40, u41, u42, u43, u44, u45, u46, u47, u48, u49, u50, u51, u52, u53, u54, u55, u56, u57, u58, u59, u60, u61, u62, u63, u64, u65, u66], defers := [] } W3 := by
  have hR := Lib.hid hR
  have hA := Lib.hid hA
  have hO := Lib.hid hO
  have hT := Lib.hid hT
  have hK0 := Lib.hid hK
  clear hK
  unfold rfOps
  refine wp_region_inv (fun f ac W => ∃ t52 t53 t54 t55 t56 t57 t58 t59 t60 t61 t62 t63 t64 t65 t66 t3, ac = { tmps := #[.string s, u1, .pointer (some ⟨R, 0, none⟩), t3, u4, u5, u6, u7, .bool one, .pointer (some ⟨A, 0, none⟩), .bool two, u11, u12, u13, u14, u15, u16, u17, u18, u19, u20, u21, u22, u23, u24, u25, u26, u27, u28, u29, u30, u31, u32, u33, u34, u35, u36, u37, u38, u39, u40, u41, u42, u43, u44, u45, u46, u47, u48, u49, u50, u51, t52, t53, t54, t55, t56, t57, t58, t59, t60, t61, t62, t63, t64, t65, t66], defers := [] } ∧ RJ b0 W3 R A P Q one two vf eq g1 g2 g3 T s f t52 t53 t54 t55 t56 t57 t58 t59 t60 t61 t62 t63 t64 t65 t66 t3 W) (by kernel_rfl) (by kernel_rfl) ?start ?step ?last
  case start => exact ⟨_, _, _, _, _, _, _, _, _, _, _, _, _, _, _, _, rfl, (Below.refl _ W3).drew.mono h1, ⟨x, y, hR.out.below (Below.refl _ W3).drew, fun c => (by cases c)⟩, hA.out.below (Below.refl _ W3).drew, fun c => (by cases c), fun c => (by cases c), fun c => (by cases c), fun c => (by cases c), fun c => (by cases c), fun c => (by cases c), fun c => (by cases c), fun c => (by cases c), fun c => (by cases c), fun c => (by cases c), fun c => (by cases c), fun c => (by cases c), fun c => (by cases c), fun c => (by cases c), fun c => (by cases c), fun c => (by cases c)⟩
  case step =>
    intro i o f ac W ho hf hdep hI
    obtain ⟨t52, t53, t54, t55, t56, t57, t58, t59, t60, t61, t62, t63, t64, t65, t66, t3, rfl, hJ⟩ := hI
    have hi : i < 17 := (Array.getElem?_eq_some_iff.1 ho).1
    have hc : i = 0 ∨ i = 1 ∨ i = 2 ∨ i = 3 ∨ i = 4 ∨ i = 5 ∨ i = 6 ∨ i = 7 ∨ i = 8 ∨ i = 9 ∨ i = 10 ∨ i = 11 ∨ i = 12 ∨ i = 13 ∨ i = 14 ∨ i = 15 ∨ i = 16 := by omega
    clear hi
    rcases hc with rfl | rfl | rfl | rfl | rfl | rfl | rfl | rfl | rfl | rfl | rfl | rfl | rfl | rfl | rfl | rfl | rfl
    · obtain rfl := Option.some.inj ho
      obtain ⟨_, a0, a1, _⟩ := hJ.fA
      refine wpOp_step rfl (fun K hK => ?_)
      go_simp
      exact hK _ _ ⟨_, _, _, _, _, _, _, _, _, _, _, _, _, _, _, _, rfl, hJ.p0 (by simp)⟩
    · obtain rfl := Option.some.inj ho
      refine wpOp_step rfl (fun K hK => ?_)
      go_simp
      exact hK _ _ ⟨_, _, _, _, _, _, _, _, _, _, _, _, _, _, _, _, rfl, hJ.p1 (by simp)⟩
    · obtain rfl := Option.some.inj ho
      have e1 : f 1 = true := hdep ⟨1, .data⟩ (by simp) (by decide)
      obtain rfl := hJ.h1 e1
      refine wpOp_step rfl (fun K hK => ?_)
      go_simp
      exact hK _ _ ⟨_, _, _, _, _, _, _, _, _, _, _, _, _, _, _, _, rfl, hJ.p2 (by simp)⟩
    · obtain rfl := Option.some.inj ho
      have e2 : f 2 = true := hdep ⟨2, .guard⟩ (by simp) (by decide)
      cases one
      all_goals
        obtain rfl := hJ.h2 e2
        refine wpOp_step rfl (fun K hK => ?_)
        go_simp
        exact hK _ _ ⟨_, _, _, _, _, _, _, _, _, _, _, _, _, _, _, _, rfl, hJ.p3 (by simp)⟩
    · obtain rfl := Option.some.inj ho
      have e2 : f 2 = true := hdep ⟨2, .data⟩ (by simp) (by decide)
      have e3 : f 3 = true := hdep ⟨3, .data⟩ (by simp) (by decide)
      cases one
      all_goals
        obtain rfl := hJ.h2 e2
        try (obtain rfl := hJ.h3 e3 rfl)
        refine wpOp_step rfl (fun K hK => ?_)
        go_simp
        exact hK _ _ ⟨_, _, _, _, _, _, _, _, _, _, _, _, _, _, _, _, rfl, hJ.p4 (by simp [q1.out])⟩
    · obtain rfl := Option.some.inj ho
      have e4 : f 4 = true := hdep ⟨4, .data⟩ (by simp) (by decide)
      obtain rfl := hJ.h4 e4
      refine wpOp_step rfl (fun K hK => ?_)
      go_simp
      exact hK _ _ ⟨_, _, _, _, _, _, _, _, _, _, _, _, _, _, _, _, rfl, hJ.p5 (by simp)⟩
    · obtain rfl := Option.some.inj ho
      have e5 : f 5 = true := hdep ⟨5, .guard⟩ (by simp) (by decide)
      obtain ⟨_, a0, a1, _⟩ := hJ.fA
      cases g1
      all_goals
        obtain rfl := hJ.h5 e5
        refine wpOp_step rfl (fun K hK => ?_)
        go_simp
        exact hK _ _ ⟨_, _, _, _, _, _, _, _, _, _, _, _, _, _, _, _, rfl, hJ.p6 (by simp)⟩
    · obtain rfl := Option.some.inj ho
      have e5 : f 5 = true := hdep ⟨5, .guard⟩ (by simp) (by decide)
      have e6 : f 6 = true := hdep ⟨6, .data⟩ (by simp) (by decide)
      cases g1
      all_goals
        obtain rfl := hJ.h5 e5
        try (obtain rfl := hJ.h6 e6 rfl)
        refine wpOp_step rfl (fun K hK => ?_)
        go_simp
        first
          | exact hK _ _ ⟨_, _, _, _, _, _, _, _, _, _, _, _, _, _, _, _, rfl, hJ.p7 (by simp)⟩
          | (go_wp2_with (go_at_call 35; refine (hO.out _).mono ?_; rintro r3 w3 ⟨rfl, hb3⟩)
             exact ⟨_, _, _, _, _, _, _, _, _, _, _, _, _, _, _, _, rfl, (hJ.world (Nat.le_trans h1 hJ.below.size) hb3).p7 (by simp)⟩)
    · obtain rfl := Option.some.inj ho
      have e5 : f 5 = true := hdep ⟨5, .data⟩ (by simp) (by decide)
      have e7 : f 7 = true := hdep ⟨7, .data⟩ (by simp) (by decide)
      cases g1
      all_goals
        obtain rfl := hJ.h5 e5
        try (obtain rfl := hJ.h7 e7 rfl)
        refine wpOp_step rfl (fun K hK => ?_)
        go_simp
        exact hK _ _ ⟨_, _, _, _, _, _, _, _, _, _, _, _, _, _, _, _, rfl, hJ.p8 (by simp [q2.out])⟩
    · obtain rfl := Option.some.inj ho
      have e8 : f 8 = true := hdep ⟨8, .data⟩ (by simp) (by decide)
      obtain rfl := hJ.h8 e8
      refine wpOp_step rfl (fun K hK => ?_)
      go_simp
      exact hK _ _ ⟨_, _, _, _, _, _, _, _, _, _, _, _, _, _, _, _, rfl, hJ.p9 (by simp)⟩
    · obtain rfl := Option.some.inj ho
      have e9 : f 9 = true := hdep ⟨9, .guard⟩ (by simp) (by decide)
      obtain ⟨_, a0, a1, _⟩ := hJ.fA
      cases g2
      all_goals
        obtain rfl := hJ.h9 e9
        refine wpOp_step rfl (fun K hK => ?_)
        go_simp
        exact hK _ _ ⟨_, _, _, _, _, _, _, _, _, _, _, _, _, _, _, _, rfl, hJ.p10 (by simp)⟩
    · obtain rfl := Option.some.inj ho
      have e9 : f 9 = true := hdep ⟨9, .guard⟩ (by simp) (by decide)
      have e10 : f 10 = true := hdep ⟨10, .data⟩ (by simp) (by decide)
      cases g2
      all_goals
        obtain rfl := hJ.h9 e9
        try (obtain rfl := hJ.h10 e10 rfl)
        refine wpOp_step rfl (fun K hK => ?_)
        go_simp
        first
          | exact hK _ _ ⟨_, _, _, _, _, _, _, _, _, _, _, _, _, _, _, _, rfl, hJ.p11 (by simp)⟩
          | (go_wp2_with (go_at_call 36; refine (hT.out _).mono ?_; rintro r3 w3 ⟨rfl, hb3⟩)
             exact ⟨_, _, _, _, _, _, _, _, _, _, _, _, _, _, _, _, rfl, (hJ.world (Nat.le_trans h1 hJ.below.size) hb3).p11 (by simp)⟩)
    · obtain rfl := Option.some.inj ho
      have e9 : f 9 = true := hdep ⟨9, .guard⟩ (by simp) (by decide)
      cases g2
      all_goals
        obtain rfl := hJ.h9 e9
        refine wpOp_step rfl (fun K hK => ?_)
        go_simp
        exact hK _ _ ⟨_, _, _, _, _, _, _, _, _, _, _, _, _, _, _, _, rfl, hJ.p12 (by simp)⟩
    · obtain rfl := Option.some.inj ho
      have e9 : f 9 = true := hdep ⟨9, .guard⟩ (by simp) (by decide)
      have e11 : f 11 = true := hdep ⟨11, .data⟩ (by simp) (by decide)
      have e12 : f 12 = true := hdep ⟨12, .data⟩ (by simp) (by decide)
      cases g2
      all_goals
        obtain rfl := hJ.h9 e9
        try (obtain rfl := hJ.h11 e11 rfl)
        try (obtain rfl := hJ.h12 e12 rfl)
        refine wpOp_step rfl (fun K hK => ?_)
        go_simp
        exact hK _ _ ⟨_, _, _, _, _, _, _, _, _, _, _, _, _, _, _, _, rfl, hJ.p13 (by first | (intro h; cases h; done) | (intro _; rw [he.out]))⟩
    · obtain rfl := Option.some.inj ho
      have e9 : f 9 = true := hdep ⟨9, .data⟩ (by simp) (by decide)
      have e13 : f 13 = true := hdep ⟨13, .data⟩ (by simp) (by decide)
      cases g2
      all_goals
        obtain rfl := hJ.h9 e9
        try (obtain rfl := hJ.h13 e13 rfl)
        refine wpOp_step rfl (fun K hK => ?_)
        go_simp
        exact hK _ _ ⟨_, _, _, _, _, _, _, _, _, _, _, _, _, _, _, _, rfl, hJ.p14 (by simp [q3.out])⟩
    · obtain rfl := Option.some.inj ho
      have e0 : f 0 = true := hdep ⟨0, .data⟩ (by simp) (by decide)
      obtain ⟨x1, y1, ⟨_, k0, k1, k2⟩, _⟩ := hJ.fR
      have k20 := k2 0
      have k21 := k2 1
      obtain rfl := hJ.h0 e0
      refine wpOp_step rfl (fun K hK => ?_)
      go_simp
      exact hK _ _ ⟨_, _, _, _, _, _, _, _, _, _, _, _, _, _, _, _, rfl, hJ.st h0 hRA⟩
    · obtain rfl := Option.some.inj ho
      have e14 : f 14 = true := hdep ⟨14, .data⟩ (by simp) (by decide)
      have e15 : f 15 = true := hdep ⟨15, .chain⟩ (by simp) (by decide)
      obtain rfl := hJ.h14 e14
      refine wpOp_step rfl (fun K hK => ?_)
      go_simp
      exact hK _ _ ⟨_, _, _, _, _, _, _, _, _, _, _, _, _, _, _, _, rfl, hJ.p16 (by simp)⟩
  case last =>
    intro f ac W hall hI
    obtain ⟨t52, t53, t54, t55, t56, t57, t58, t59, t60, t61, t62, t63, t64, t65, t66, t3, rfl, hJ⟩ := hI
    obtain ⟨x', y', k, e⟩ := hJ.fR
    obtain ⟨rfl, rfl⟩ := e (hall 15 (by decide))
    obtain rfl := hJ.h16 (hall 16 (by decide))
    exact hK0.out _ _ _ _ _ _ _ _ _ _ _ _ _ _ _ W k hJ.below

end Go.Proofs.YtdbidlnkaplekaaDoor
