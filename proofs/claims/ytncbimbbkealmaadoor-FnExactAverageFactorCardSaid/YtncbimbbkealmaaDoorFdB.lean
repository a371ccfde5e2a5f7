/-
  FlagDensity and GraphDensity: both sides.
-/
import Derived.Test.YtncbimbbkealmaaDoorFd
namespace Go.Proofs.YtncbimbbkealmaaDoor
open Go.RowKit Go.Shelf
set_option maxRecDepth 100000
attribute [local go_sem] Oper.semAt_some
theorem fd0_made (w : World) (k0 n0 e0 k n e : Int) : Fd0 (((w.alloc (.cells #[.int .i64 k0, .int .i64 n0, .int .u32 e0] 33)).alloc (.cells #[.int .i64 k, .int .i64 n, .int .u32 e] 33)).alloc (.cells #[.int .i64 0, .int .i64 0] 28)) w.heap.size k0 n0 e0 k n e := by
  obtain ⟨hF0, hG0⟩ := two_boxes w k0 n0 e0 k n e 33
  have hR0 := FqB.made ((w.alloc (.cells #[.int .i64 k0, .int .i64 n0, .int .u32 e0] 33)).alloc (.cells #[.int .i64 k, .int .i64 n, .int .u32 e] 33)) 0 0 28
  rw [World.size_alloc, World.size_alloc] at hR0
  exact ⟨hF0.below (balloc (Below.refl _ _) _), hG0.below (balloc (Below.refl _ _) _), hR0⟩
/-- a graph's box -/
structure GxB (W : World) (B : Nat) (n e : Int) : Prop where
  lt : B < W.heap.size
  c0 : W.cell? ⟨B, 0, none⟩ = some (.int .i64 n)
  c1 : W.cell? ⟨B, 1, none⟩ = some (.int .u32 e)
theorem GxB.below {W W' : World} {B : Nat} {n e : Int} (h : GxB W B n e) (hb : Below W.heap.size W W') : GxB W' B n e :=
  ⟨Nat.lt_of_lt_of_le h.lt hb.size, (hb.cell (p := ⟨B, 0, none⟩) h.lt).trans h.c0, (hb.cell (p := ⟨B, 1, none⟩) h.lt).trans h.c1⟩
theorem GxB.made (W : World) (n e : Int) (t : TypeId) : GxB (W.alloc (.cells #[.int .i64 n, .int .u32 e] t)) W.heap.size n e :=
  ⟨by simp, by rw [World.cell?_alloc_new]; rfl, by rw [World.cell?_alloc_new]; rfl⟩
structure Gd0 (w : World) (G : Nat) (n0 e0 n e : Int) : Prop where
  f : GxB w G n0 e0
  g : GxB w (G + 1) n e
  r : FqB w (G + 2) 0 0
theorem Gd0.below {w W : World} {G : Nat} {n0 e0 n e : Int} (h : Gd0 w G n0 e0 n e) (hb : Below w.heap.size w W) : Gd0 W G n0 e0 n e := ⟨h.f.below hb, h.g.below hb, h.r.below hb⟩
theorem gd0_made (w : World) (n0 e0 n e : Int) : Gd0 (((w.alloc (.cells #[.int .i64 n0, .int .u32 e0] 31)).alloc (.cells #[.int .i64 n, .int .u32 e] 31)).alloc (.cells #[.int .i64 0, .int .i64 0] 28)) w.heap.size n0 e0 n e := by
  have hG0 := GxB.made (w.alloc (.cells #[.int .i64 n0, .int .u32 e0] 31)) n e 31
  rw [World.size_alloc] at hG0
  have hR0 := FqB.made ((w.alloc (.cells #[.int .i64 n0, .int .u32 e0] 31)).alloc (.cells #[.int .i64 n, .int .u32 e] 31)) 0 0 28
  rw [World.size_alloc, World.size_alloc] at hR0
  exact ⟨((GxB.made w n0 e0 _).below (balloc (Below.refl _ _) _)).below (balloc (Below.refl _ _) _), hG0.below (balloc (Below.refl _ _) _), hR0⟩
section
variable (w : World)
end
theorem vk_zero {n e : Nat} (h : VG n e) : VK ((0 : Nat) : Int) n e := ⟨h, by omega, by omega, by have := h.1; omega⟩
section
variable (w : World)
end
section
variable (w : World)
end
end Go.Proofs.YtncbimbbkealmaaDoor
