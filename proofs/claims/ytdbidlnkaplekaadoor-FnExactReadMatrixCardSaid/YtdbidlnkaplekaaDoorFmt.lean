/-
  FormatInt AT BASE 10: the table of powers of ten as the row's condition lays it; contracts.
-/
import Derived.Test.YtdbidlnkaplekaaDoorTx
import Derived.Test.YtdbidlnkaplekaaDoorSh
import Derived.Test.YtdbidlnkaplekaaDoorRows
import Derived.Test.YtdbidlnkaplekaaDoorFrameC
import Derived.Stop.LaidErr
namespace Go.Proofs.YtdbidlnkaplekaaDoor
open Go.RowKit
set_option maxRecDepth 100000
attribute [local go_sem] Oper.semAt_some
/-- the table of powers of ten -/
def TabP (W : World) : Prop := Lib.TabIs Tryd.prog W "internal/strconv.uint64pow10" .u64 Lib.pow10Tab
theorem gP : Tryd.prog.globalNamed "internal/strconv.uint64pow10" = some 4 := by kernel_rfl
theorem TabP.below {W W' : World} (h : TabP W) (hb : Below W.heap.size W W') : TabP W' := by
  unfold TabP Lib.TabIs World.var? at h ⊢
  rw [gP] at h ⊢
  simp only [Option.bind_some] at h ⊢
  have hg : 4 < W.heap.size := by
    cases hh : W.heap[4]? with
    | none => rw [hh] at h; cases h
    | some o => exact (Array.getElem?_eq_some_iff.1 hh).1
  rw [hb.block _ hg]; exact h
theorem tabP_of_laid {W : World} {rest : List (String × DataW Unit)} (h : laidMet Tryd.prog (("internal/strconv.uint64pow10", Rows.laid_internal_strconv_uint64pow10) :: rest) W) : TabP W :=
  Lib.tabIs_of_head (zs := Lib.pow10Tab) gP (by kernel_rfl) Tryd.underlying116 Tryd.underlying80 (by kernel_rfl) (by kernel_rfl) h
theorem below_grow (w : World) (q : Nat) (os : Array Obj) : Below w.heap.size w (Sort.grow (w.drewN q) os) :=
  ⟨rfl, rfl, rfl, by simp [Sort.grow], fun i hi => by
    show ((w.drewN q).heap ++ os)[i]? = _
    rw [Array.getElem?_append_left (by show i < w.heap.size; omega)]
    rfl⟩
theorem fmt_any (w : World) (n : Nat) (h : n < 1000000000000000000) (hT : TabP w) :
    Calls Tryd.prog 33 #[.int .i64 n, .int .i64 10] w fun r w' => r = .returned (.string (tx (Lib.decDigits n))) ∧ Below w.heap.size w w' := by
  refine (Tryd.strconv_FormatInt_10 (n : Int) (by omega) (by omega) w hT).mono ?_
  rintro e w' ⟨rfl, k, os, rfl⟩
  rw [Lib.itoa_nonneg]
  exact ⟨rfl, below_grow w k os⟩
theorem fmt_int (w : World) (n : Int) (h : -1000000000000000000 < n) (h2 : n < 1000000000000000000) (hT : TabP w) :
    Calls Tryd.prog 33 #[.int .i64 n, .int .i64 10] w fun r w' => r = .returned (.string (tx (Lib.itoa n))) ∧ Below w.heap.size w w' := by
  refine (Tryd.strconv_FormatInt_10 n (by omega) (by omega) w hT).mono ?_
  rintro e w' ⟨rfl, k, os, rfl⟩
  exact ⟨rfl, below_grow w k os⟩
theorem itoa_len {n : Int} (h : -1000000000000000000 < n) (h2 : n < 1000000000000000000) : (Lib.itoa n).length ≤ 21 := Lib.itoa_length_le n (by omega) (by omega)
end Go.Proofs.YtdbidlnkaplekaaDoor
