/-
  BYTES THAT COME IN, AND THE NUMBERS THAT A LAW DRAWS FROM THEM.
-/
import Derived.Test.YtoiepgdjknpjiaaOpen
import Derived.Test.YtoiepgdjknpjiaaBase
import Derived.Lib.Hide
namespace Go.Proofs.Ytoiepgdjknpjiaa
open Go.ChangeShapes Go.WideShapes Go.ChangeAt Go.RowKit
set_option maxRecDepth 100000

/-- v is a list of bytes; its first one, if there is one, lies at its head -/
def SlB (w : World) (v : Value) (l : Nat) : Prop :=
  ∃ (a : Option Addr) (cap : Nat), v = .slice a l cap ∧ l ≤ 9223372036854775807 ∧ (0 < l → ∃ b off z, a = some ⟨b, off, none⟩ ∧ b < w.heap.size ∧ w.cell? ⟨b, off, none⟩ = some (.int .u8 z) ∧ 0 ≤ z ∧ z < 256)
theorem SlB.below {w w' : World} {v : Value} {l : Nat} (h : SlB w v l) (hb : Below w.heap.size w w') : SlB w' v l := by
  obtain ⟨a, cap, e, h1, h3⟩ := h
  refine ⟨a, cap, e, h1, fun hz => ?_⟩
  obtain ⟨b, off, z, e2, hlt, hc, h4⟩ := h3 hz
  exact ⟨b, off, z, e2, Nat.lt_of_lt_of_le hlt hb.size, (hb.cell (p := ⟨b, off, none⟩) hlt).trans hc, h4⟩
theorem cells_u8 : Try.prog.cellsOf 5 = 1 := by kernel_rfl
theorem open_u8s {H : Type} {enc : TypeId × Value → H} {W : World} {base : Nat} {v : Value} {d : DataW H} {p : List MemPlace} (hv : Value.okWide Try.prog W .any base 22 v) (h : DataW.Trod enc Try.prog W 0 (fun _ => true) true 22 v d p) :
    ∃ l : Nat, SlB W v l := by
  obtain ⟨a0, len, cap, rfl⟩ := okWide_slice Try.underlying22 hv
  obtain ⟨fuel, hf⟩ := h
  rcases open_ints Try.underlying22 Try.underlying5 cells_u8 hf with ⟨hcs, hx⟩ | ⟨a, len', cap', zs, hcs, _, hl, hm, hz, hx, hcell, hwz⟩
  · simp only [Value.cells] at hcs
    cases hcs
    exact ⟨0, none, 0, rfl, by omega, fun c => absurd c (Nat.lt_irrefl _)⟩
  · simp only [Value.cells] at hcs
    cases hcs
    simp only [if_true] at hz
    refine ⟨len, some a, cap, rfl, by unfold maxLen at hm; omega, fun h0 => ?_⟩
    have hlen : 0 < zs.length := by omega
    obtain ⟨b, off, rfl, hc⟩ := ints_at hcell hlen
    have h1 := hc 0 hlen
    have hbd : 0 ≤ zs.getD 0 0 ∧ zs.getD 0 0 < 256 := by
      have hw := hwz zs[0] (List.getElem_mem hlen)
      have e : zs.getD 0 0 = zs[0] := by simp [List.getD, hlen]
      rw [e]
      simp [Lit.wf, IntKind.min, IntKind.max, IntKind.signed, IntKind.bits] at hw
      omega
    exact ⟨b, off, zs.getD 0 0, rfl, World.block_lt_of_cell? W _ h1, h1, hbd.1, hbd.2⟩

section
variable (w : World)
theorem long_t (a a' : Option Addr) (l cap l' cap' : Nat) (h : 3000 < l) :
    Calls Try.prog 11 #[.slice a l cap, .slice a' l' cap'] w fun r w' => r = .returned (.bool true) ∧ w = w' := by
  have hd : decide ((3000 : Int) < (l : Int)) = true := by simp; omega
  go_enter Try.func11, Try.ntmps11
  go_wp2
  go_ret
  exact ⟨rfl, rfl⟩
theorem long_f (a a' : Option Addr) (l cap l' cap' : Nat) (h : l ≤ 3000) (h' : l' ≤ 3000) :
    Calls Try.prog 11 #[.slice a l cap, .slice a' l' cap'] w fun r w' => r = .returned (.bool false) ∧ w = w' := by
  have hd : decide ((3000 : Int) < (l : Int)) = false := by simp; omega
  have hd' : decide ((3000 : Int) < (l' : Int)) = false := by simp; omega
  go_enter Try.func11, Try.ntmps11
  go_wp2
  go_ret
  exact ⟨rfl, rfl⟩
/-- the first number drawn -/
theorem at0_any (v : Value) (l : Nat) (h : SlB w v l) (m : Nat) (hm : 1 ≤ m) (hm2 : m ≤ 1000) :
    ∃ q : Nat, q < m ∧ Calls Try.prog 12 #[v, .int .i64 0, .int .i64 m] w fun r w' => r = .returned (.int .i64 q) ∧ w = w' := by
  obtain ⟨a, cap, rfl, h1, h2⟩ := h
  rcases Nat.eq_zero_or_pos l with h0 | h0
  · subst h0
    refine ⟨0, by omega, ?_⟩
    go_enter Try.func12, Try.ntmps12
    go_wp2
    go_ret
    exact ⟨rfl, rfl⟩
  · obtain ⟨b, off, z, rfl, hb, hc, hz0, hz1⟩ := h2 h0
    obtain ⟨y, rfl⟩ : ∃ y : Nat, z = y := ⟨z.toNat, by omega⟩
    have hy : y < 256 := by omega
    have hl0 : (0 : Int) < (l : Int) := by omega
    have hd : decide ((l : Int) ≤ 0) = false := by simp; omega
    have hd2 : decide ((m : Int) < 1) = false := by simp; omega
    refine ⟨y % m, Nat.mod_lt y (by omega), ?_⟩
    have hE := Lib.hid (congrArg (fun z => Ending.returned (Value.int .i64 z)) (show (y : Int) % (m : Int) = ((y % m : Nat) : Int) from (Int.natCast_emod y m).symm))
    go_enter Try.func12, Try.ntmps12
    go_wp2
    go_ret
    exact ⟨hE.out, rfl⟩
end
end Go.Proofs.Ytoiepgdjknpjiaa
