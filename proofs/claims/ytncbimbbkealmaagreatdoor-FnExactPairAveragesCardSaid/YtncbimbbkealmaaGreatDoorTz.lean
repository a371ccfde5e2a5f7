/-
  BITS OF SMALL SETS: the table of math/bits as the row's condition lays it; TrailingZeros32, OnesCount32 at sets of at most five vertices.
-/
import Derived.Test.YtncbimbbkealmaaGreatDoorRows
import Derived.Test.YtncbimbbkealmaaGreatDoorFrameC
import Derived.Test.YtncbimbbkealmaaGreatDoorBase
import Derived.Lib.Hide
import Derived.Lib.Tables
import Derived.Lib.BitFns
import Derived.Lib.LaidTab
import Derived.Deep.RegionHeld3
namespace Go.Proofs.YtncbimbbkealmaaGreatDoor
open Go.RowKit
set_option maxRecDepth 100000
attribute [local go_sem] Oper.semAt_some
/-- the vertices of a set, ascending -/
def bitsL (s : Nat) : List Nat := (List.range 5).filter fun i => s.testBit i
/-- the first one -/
def tzN (s : Nat) : Nat := ((List.range 5).find? fun i => s.testBit i).getD 0
/-- where the table has it -/
def ixZ : Nat → Nat | 0 => 0 | 1 => 1 | 2 => 3 | 3 => 7 | 4 => 14 | _ => 0
theorem bitsL_step : ∀ s, s < 32 → s ≠ 0 → bitsL s = tzN s :: bitsL (s &&& (s - 1)) ∧ (s &&& (s - 1)) < s ∧ tzN s < 5 := by decide +kernel
theorem bitsL_len : ∀ s, s < 32 → (bitsL s).length ≤ 5 := by decide +kernel
theorem tz_key : ∀ s : Nat, s < 32 → s ≠ 0 → bits BinOp.and IntKind.u32 (s : Int) (-(s : Int) % 4294967296) * 125613361 % 4294967296 / 134217728 = (ixZ (tzN s) : Int) := by decide +kernel
theorem and_key : ∀ s : Nat, s < 32 → s ≠ 0 → bits BinOp.and IntKind.u32 (s : Int) ((s : Int) - 1) = ((s &&& (s - 1) : Nat) : Int) := by decide +kernel
/-- the table of the program's library -/
def TabZ (W : World) : Prop := ∀ k, k < 5 → W.cell? ⟨0, ixZ k, none⟩ = some (.int .u8 (k : Int))
theorem TabZ.lt {W : World} (h : TabZ W) : 0 < W.heap.size := World.block_lt_of_cell? W _ (h 0 (by omega))
theorem TabZ.below {W W' : World} (h : TabZ W) (hb : Below W.heap.size W W') : TabZ W' := fun k hk => (hb.cell (p := ⟨0, _, none⟩) h.lt).trans (h k hk)
theorem gZ : Tryz.prog.globalNamed "math/bits.deBruijn32tab" = some 0 := by kernel_rfl
def zsZ : List Int := [0, 1, 28, 2, 29, 14, 24, 3, 30, 22, 20, 15, 25, 17, 4, 8, 31, 27, 13, 23, 21, 19, 16, 7, 26, 12, 18, 6, 11, 5, 10, 9]
theorem tabZ_of_laid {W : World} {rest : List (String × DataW Unit)} (h : laidMet Tryz.prog (("math/bits.deBruijn32tab", Rows.laid_math_bits_deBruijn32tab) :: rest) W) : TabZ W := by
  have hT : Lib.TabIs Tryz.prog W "math/bits.deBruijn32tab" .u8 zsZ := Lib.tabIs_of_head (zs := zsZ) gZ (by kernel_rfl) Tryz.underlying137 Tryz.underlying5 (by kernel_rfl) (by kernel_rfl) h
  intro k hk
  have hc := hT.cell gZ (ixZ k) (by rcases k with _ | _ | _ | _ | _ | k <;> first | decide | omega)
  rw [hc]
  rcases k with _ | _ | _ | _ | _ | k <;> first | rfl | omega
section
variable (w : World)
theorem tz_any (s : Nat) (hs : s < 32) (h0 : s ≠ 0) (hT : TabZ w) :
    Calls Tryz.prog 115 #[.int .u32 s] w fun r w' => r = .returned (.int .i64 (tzN s)) ∧ w = w' := by
  have key := tz_key s hs h0
  have h5 := (bitsL_step s hs h0).2.2
  have hcell := hT _ h5
  have hx0 : ((s : Int) == 0) = false := by simp; omega
  have hi : ixZ (tzN s) < 32 := by rcases hk : tzN s with _ | _ | _ | _ | _ | k <;> first | decide | omega
  obtain ⟨k, hk⟩ : ∃ k, tzN s = k := ⟨_, rfl⟩
  rw [hk] at key hcell hi h5 ⊢
  obtain ⟨x, hx⟩ : ∃ x, ixZ k = x := ⟨_, rfl⟩
  rw [hx] at key hcell hi
  clear hx hk hT
  go_enter Tryz.func115, Tryz.ntmps115
  go_wp2_with (simp only [key])
  go_ret
  exact ⟨rfl, rfl⟩
theorem oc_parts : ∀ e : Nat, e < 32 → (e : Int) / 16777216 = 0 ∧ bits .and .u32 ((e : Int) / 65536) 255 = 0 ∧ bits .and .u32 ((e : Int) / 256) 255 = 0 ∧ bits .and .u32 (e : Int) 255 = (e : Int) := by decide +kernel
theorem oc_sum : ∀ e : Nat, e < 32 → Lib.pop8 (e : Int) = ((bitsL e).length : Int) := by decide +kernel
theorem oc_any (e : Nat) (he : e < 32) :
    Calls Tryz.prog 113 #[.int .u32 e] w fun r w' => r = .returned (.int .i64 ((bitsL e).length : Nat)) ∧ Below w.heap.size w w' := by
  obtain ⟨h24, h16, h8, h0⟩ := oc_parts e he
  have hs := oc_sum e he
  have hl := bitsL_len e he
  have pz : Lib.pop8 0 = 0 := by decide +kernel
  have rb := fun W => Lib.run_index_pop8tab (P := Tryz.prog) W 9 .u32 (e : Int) (by kernel_rfl) (by omega) (by omega)
  have rz := fun W => Lib.run_index_pop8tab (P := Tryz.prog) W 9 .u32 0 (by kernel_rfl) (by omega) (by omega)
  rw [pz] at rz
  rw [hs] at rb
  obtain ⟨l, hl2⟩ : ∃ l, (bitsL e).length = l := ⟨_, rfl⟩
  rw [hl2] at rb hl ⊢
  have m2 : (l : Int) % 256 = (l : Int) := by omega
  clear hs hl2
  go_enter Tryz.func113, Tryz.ntmps113
  go_wp2
  go_region
  all_goals go_wp2
  all_goals go_ret
  all_goals exact ⟨rfl, by (repeat (first | exact Below.refl _ _ | assumption | refine bchain (by assumption) ?_ | refine balloc ?_ _ | apply Below.drew | apply below_drewN | (refine Below.alloc ?_ (by (try simp) <;> omega) _) | (refine Below.setCell ?_ (by (try simp) <;> omega) _)))⟩
end
end Go.Proofs.YtncbimbbkealmaaGreatDoor
