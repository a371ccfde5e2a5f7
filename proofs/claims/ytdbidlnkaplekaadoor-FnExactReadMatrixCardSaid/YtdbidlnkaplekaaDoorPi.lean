/-
  ParseInt AND Cut AS THE PROGRAM CALLS THEM: over whatever text; what the library's own variables hold.
-/
import Derived.Test.YtdbidlnkaplekaaDoorPd
import Derived.Test.YtdbidlnkaplekaaDoorFmt
import Derived.Lib.AtoiErrMem
namespace Go.Proofs.YtdbidlnkaplekaaDoor
open Go.RowKit
set_option maxRecDepth 100000
/-- what the library's variables hold: a number, two errors, the table of tens -/
structure LibW (W : World) : Prop where
  mx : ∃ m, W.cell? ⟨1, 0, none⟩ = some (.int .i64 m)
  sy : ∃ ev, W.cell? ⟨2, 0, none⟩ = some ev ∧ (ev = .nilIface ∨ ∃ te pe, ev = .iface te pe)
  rg : ∃ ev, W.cell? ⟨3, 0, none⟩ = some ev ∧ (ev = .nilIface ∨ ∃ te pe, ev = .iface te pe)
  tb : TabP W
theorem LibW.below {W W' : World} (h : LibW W) (hb : Below W.heap.size W W') : LibW W' := by
  obtain ⟨⟨m, h1⟩, ⟨e, h2, h3⟩, ⟨e', h4, h5⟩, h6⟩ := h
  exact ⟨⟨m, (hb.cell (block_lt_of_cell h1)).trans h1⟩, ⟨e, (hb.cell (block_lt_of_cell h2)).trans h2, h3⟩, ⟨e', (hb.cell (block_lt_of_cell h4)).trans h4, h5⟩, h6.below hb⟩
/-- what ParseInt hands back -/
def PiR (l : List UInt8) (v : Int) (ev : Value) : Prop :=
  (ev = .nilIface ∧ Lib.parseIntB 64 l = .ok v) ∨ ((∃ t p, ev = .iface t p) ∧ ∀ v, Lib.parseIntB 64 l ≠ .ok v)
section
variable (w : World)
theorem pi_any (l : List UInt8) (hl : l.length ≤ 2000000) (hL : LibW w) :
    Calls Tryd.prog 18 #[.string (tx l), .int .i64 10, .int .i64 64] w fun r w' => (∃ v ev, r = .returned (.tuple #[.int .i64 v, ev]) ∧ PiR l v ev) ∧ Below w.heap.size w w' := by
  have e : (tx l).data.toList = l := by simp [tx]
  have hs := tx_size l
  cases hp : Lib.parseIntB 64 l with
  | ok v =>
    refine (Tryd.strconv_ParseInt_10_at64_ok (tx l) (by rw [hs]; omega) v (by rw [e]; exact hp) w).mono ?_
    rintro r w' ⟨rfl, h⟩
    refine ⟨⟨v, _, rfl, .inl ⟨rfl, hp⟩⟩, ?_⟩
    rcases h with rfl | ⟨t, rfl⟩
    · exact Below.refl _ _
    · exact Lib.bytesWorld_below _ _ _
  | «syntax» =>
    obtain ⟨ev, h1, h2⟩ := hL.sy
    refine (Tryd.strconv_ParseInt_10_at64_syntax (tx l) (by rw [hs]; omega) (by rw [e]; exact hp) ev w h1 h2).mono ?_
    rintro r w' ⟨N, rfl, _, _, hb⟩
    exact ⟨⟨_, _, rfl, .inr ⟨⟨_, _, rfl⟩, fun v h => by rw [hp] at h; cases h⟩⟩, hb⟩
  | range =>
    obtain ⟨ev, h1, h2⟩ := hL.rg
    refine (Tryd.strconv_ParseInt_10_at64_range (tx l) (by rw [hs]; omega) (by rw [e]; exact hp) ev w h1 h2).mono ?_
    rintro r w' ⟨N, rfl, _, _, hb⟩
    exact ⟨⟨_, _, rfl, .inr ⟨⟨_, _, rfl⟩, fun v h => by rw [hp] at h; cases h⟩⟩, hb⟩
theorem cut_any (l : List UInt8) (x : UInt8) (hl : l.length ≤ 2000000) (hL : LibW w) :
    Calls Tryd.prog 17 #[.string (tx l), .string (tx [x])] w fun r w' => r = .returned (.tuple #[.string (tx (Lib.cut l [x]).1), .string (tx (Lib.cut l [x]).2.1), .bool (Lib.cut l [x]).2.2]) ∧ Below w.heap.size w w' := by
  have e : (tx l).data.toList = l := by simp [tx]
  have e2 : (tx [x]).data.toList = [x] := by simp [tx]
  obtain ⟨m, hm⟩ := hL.mx
  refine (Tryd.strings_Cut (tx l) (tx [x]) m w (by rw [tx_size]; omega) hm).mono ?_
  rintro r w' ⟨rfl, k, rfl⟩
  rw [e, e2]
  exact ⟨rfl, below_drewN (Below.refl _ _) k⟩
end
end Go.Proofs.YtdbidlnkaplekaaDoor
