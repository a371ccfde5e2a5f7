/-
  TEXTS PUT TOGETHER; the texts of graphs and fractions on both sides.
-/
import Derived.Test.YtiedombphcdpbaaDoorFl
import Derived.Test.YtiedombphcdpbaaDoorGtI
namespace Go.Proofs.YtiedombphcdpbaaDoor
open Go.RowKit
set_option maxRecDepth 100000
attribute [local go_sem] Oper.semAt_some
theorem run_cat (a b : List UInt8) (ha : a.length ≤ 1000000) (hb : b.length ≤ 1000000) : ∀ W : World, (Op.stringOp .add (tx a) (tx b)).run Tryd.prog W = .ok (.string (tx (a ++ b))) W := fun W => by
  rw [← tx_app]
  exact run_string_add W _ _ (by rw [tx_size]; omega) (by rw [tx_size]; omega)
def gT (n e : Int) : List UInt8 := gText n.toNat (prE n.toNat e.toNat)
theorem gT_len {n e : Int} (h : VG n e) : (gT n e).length ≤ 2000 := by
  obtain ⟨n', rfl⟩ : ∃ k : Nat, n = k := ⟨n.toNat, by have := h.1; omega⟩
  have hn5 : n' ≤ 5 := by have := h.2.1; omega
  have h1 := gText_len (n := n') (by omega) (ps := prE n' e.toNat) (fun p hp => by have := prE_small hn5 p hp; omega)
  have h2 := prE_len n' e.toNat hn5
  unfold gT
  rw [Int.toNat_natCast]
  omega
theorem sgT_any (W : World) {n e : Int} (h : VG n e) : Calls Tryd.prog 56 #[.agg #[.int .i64 n, .int .u32 e]] W fun r w' => r = .returned (.string (tx (gT n e))) ∧ Below W.heap.size W w' := by
  obtain ⟨n', rfl⟩ : ∃ k : Nat, n = k := ⟨n.toNat, by have := h.1; omega⟩
  obtain ⟨e', rfl⟩ : ∃ k : Nat, e = k := ⟨e.toNat, by have := h.2.2.1; omega⟩
  exact sgt_t W n' e' h
theorem igT_any (W : World) {n e : Int} (h : VG n e) (hT : TabP W) : Calls Tryd.prog 43 #[.agg #[.int .i64 n, .int .u32 e]] W fun r w' => r = .returned (.string (tx (gT n e))) ∧ Below W.heap.size W w' := by
  obtain ⟨n', rfl⟩ : ∃ k : Nat, n = k := ⟨n.toNat, by have := h.1; omega⟩
  obtain ⟨e', rfl⟩ : ∃ k : Nat, e = k := ⟨e.toNat, by have := h.2.2.1; omega⟩
  exact igt_t W n' e' h hT
theorem sfT_any (W : World) {p q : Int} (h : Fr.VF p q) : Calls Tryd.prog 29 #[.agg #[.int .i64 p, .int .i64 q]] W fun r w' => r = .returned (.string (tx (frL p q.toNat))) ∧ Below W.heap.size W w' := by
  obtain ⟨q', rfl⟩ : ∃ k : Nat, q = k := ⟨q.toNat, by have := h.1; omega⟩
  rw [Int.toNat_natCast, ← fText_frL]
  exact sft_t W p q' h
theorem ifT_any (W : World) {p q : Int} (h : Fr.VF p q) (hT : TabP W) : Calls Tryd.prog 33 #[.agg #[.int .i64 p, .int .i64 q]] W fun r w' => r = .returned (.string (tx (frL p q.toNat))) ∧ Below W.heap.size W w' := by
  obtain ⟨q', rfl⟩ : ∃ k : Nat, q = k := ⟨q.toNat, by have := h.1; omega⟩
  rw [Int.toNat_natCast, ← fText_frL]
  exact ift_t W p q' hT h
theorem frL_len' {p q : Int} (h : Fr.VF p q) : (frL p q.toNat).length ≤ 42 := by
  obtain ⟨q', rfl⟩ : ∃ k : Nat, q = k := ⟨q.toNat, by have := h.1; omega⟩
  rw [Int.toNat_natCast]
  exact frL_len h
end Go.Proofs.YtiedombphcdpbaaDoor
