/-
  strings.Lines AND strings.SplitSeq: what the calls give (the iterators themselves: XLn); strings.CutSuffix at a newline.
-/
import Derived.Test.YtdbidlnkaplekaaDoorLn
import Derived.WalkKit
namespace Go.Proofs.YtdbidlnkaplekaaDoor
open Go.RowKit
set_option maxRecDepth 100000
attribute [local go_sem] Oper.semAt_some
section
variable (w : World)
theorem lines_call (t : ByteArray) :
    Calls Tryd.prog 23 #[.string t] w fun r w' => r = .returned (.func (.func 37) #[] #[.pointer (some ⟨w.heap.size, 0, none⟩)]) ∧ w' = w.alloc (.cells #[.string t] 9) := by
  go_enter Tryd.func23, Tryd.ntmps23
  go_wp2
  go_ret
  exact ⟨rfl, rfl⟩
theorem splitq_call (t s : ByteArray) :
    Calls Tryd.prog 56 #[.string t, .string s, .int .i64 0] w fun r w' => r = .returned (.func (.func 73) #[] #[.pointer (some ⟨w.heap.size + 1, 0, none⟩), .pointer (some ⟨w.heap.size, 0, none⟩), .pointer (some ⟨w.heap.size + 2, 0, none⟩)]) ∧ w' = ((w.alloc (.cells #[.string t] 9)).alloc (.cells #[.string s] 9)).alloc (.cells #[.int .i64 0] 3) := by
  go_enter Tryd.func56, Tryd.ntmps56
  go_wp2
  go_ret
  exact ⟨rfl, rfl⟩
theorem split_call (t s : ByteArray) :
    Calls Tryd.prog 40 #[.string t, .string s] w fun r w' => r = .returned (.func (.func 73) #[] #[.pointer (some ⟨w.heap.size + 1, 0, none⟩), .pointer (some ⟨w.heap.size, 0, none⟩), .pointer (some ⟨w.heap.size + 2, 0, none⟩)]) ∧ w' = ((w.alloc (.cells #[.string t] 9)).alloc (.cells #[.string s] 9)).alloc (.cells #[.int .i64 0] 3) := by
  have hC := Lib.hid (fun W => splitq_call W t s)
  go_enter Tryd.func40, Tryd.ntmps40
  go_wp2_with fail
  refine (hC.out _).mono ?_
  rintro r1 w1 ⟨rfl, rfl⟩
  go_wp2
  go_ret
  exact ⟨rfl, rfl⟩
/-- CutSuffix at a newline: either the text ends in it, or it does not -/
theorem cutnl_any (l : List UInt8) (hl : l.length ≤ 2000000) :
    Calls Tryd.prog 39 #[.string (tx l), .string (tx [10])] w fun r w' => (∃ y b, r = .returned (.tuple #[.string (tx y), .bool b]) ∧ (b = true → l = y ++ [10]) ∧ (b = false → ∀ y, l ≠ y ++ [10]) ∧ y.length ≤ l.length) ∧ w' = w := by
  have e : (tx l).data.toList = l := by simp [tx]
  have e2 : (tx [10]).data.toList = [10] := by simp [tx]
  refine (Tryd.strings_CutSuffix (tx l) (tx [10]) w (by rw [tx_size]; omega)).mono ?_
  rintro r w' ⟨rfl, rfl⟩
  rw [e, e2]
  refine ⟨⟨_, _, rfl, ?_, ?_, ?_⟩, rfl⟩
  · intro h
    have h2 : [10].isSuffixOf l = true := h
    obtain ⟨y, hy⟩ := List.isSuffixOf_iff_suffix.1 h2
    unfold Lib.trimSuffix
    rw [if_pos h, ← hy]
    simp
  · intro h y c
    have h2 : Lib.hasSuffix l [10] = true := by
      show [10].isSuffixOf l = true
      exact List.isSuffixOf_iff_suffix.2 ⟨y, c.symm⟩
    rw [h] at h2
    cases h2
  · unfold Lib.trimSuffix
    split
    · simp
    · exact Nat.le_refl _
end
end Go.Proofs.YtdbidlnkaplekaaDoor
