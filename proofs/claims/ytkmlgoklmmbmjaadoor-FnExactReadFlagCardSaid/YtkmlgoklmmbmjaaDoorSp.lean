/-
  strings.Split AT ONE BYTE: the words.
-/
import Derived.Test.YtkmlgoklmmbmjaaDoorPd
import Derived.Test.YtkmlgoklmmbmjaaDoorTx
import Derived.Lib.Split
import Derived.Lib.CountLaws
import Derived.Lib.SplitLaws
namespace Go.Proofs.YtkmlgoklmmbmjaaDoor
open Go.RowKit
set_option maxRecDepth 100000
theorem tx_extract (l : List UInt8) (a b : Nat) : (tx l).extract a b = tx ((l.take b).drop a) := by
  show (ByteArray.mk l.toArray).extract _ _ = _
  rw [ByteArray.extract_mk, List.drop_take]
  rfl
theorem tx_data (l : List UInt8) : (tx l).data.toList = l := by simp [tx]
theorem spl_eq (x : UInt8) : ∀ (n : Nat) (l : List UInt8), l.length ≤ n → Lib.splitB (tx [x]) 0 (Lib.countB (tx l) (tx [x])) (tx l) = (splA x [] l).map tx := by
  intro n
  induction n with
  | zero =>
    intro l h
    obtain rfl := List.length_eq_zero_iff.1 (Nat.le_zero.1 h)
    have h1 : Lib.indexB (tx []) (tx [x]) = -1 := by
      show Lib.index (tx []).data.toList (tx [x]).data.toList = -1
      rw [tx_data, tx_data]; exact index_not [] x (by simp)
    rw [Lib.countB_miss _ _ h1, Lib.splitB_zero]
    rfl
  | succ n ih =>
    intro l h
    by_cases hm : ∀ c ∈ l, c ≠ x
    · have h1 : Lib.indexB (tx l) (tx [x]) = -1 := by
        show Lib.index (tx l).data.toList (tx [x]).data.toList = -1
        rw [tx_data, tx_data]; exact index_not l x hm
      rw [Lib.countB_miss _ _ h1, Lib.splitB_zero, splA_not x l [] hm]
      rfl
    · obtain ⟨a, b, rfl, ha⟩ : ∃ a b, l = a ++ x :: b ∧ ∀ c ∈ a, c ≠ x := by
        clear h ih
        induction l with
        | nil => exact absurd (by simp) hm
        | cons c r ih2 =>
          by_cases hc : c = x
          · exact ⟨[], r, by rw [hc]; rfl, by simp⟩
          · obtain ⟨a, b, h1, h2⟩ := ih2 (fun k => hm (fun d hd => by
              rcases List.mem_cons.1 hd with rfl | hd
              · exact hc
              · exact k d hd))
            exact ⟨c :: a, b, by rw [h1]; rfl, fun d hd => by
              rcases List.mem_cons.1 hd with rfl | hd
              · exact hc
              · exact h2 d hd⟩
      have h1 : Lib.indexB (tx (a ++ x :: b)) (tx [x]) = (a.length : Nat) := by
        show Lib.index (tx _).data.toList (tx [x]).data.toList = _
        rw [tx_data, tx_data]; exact index_at a b x ha
      have hs : (tx [x]).size = 1 := rfl
      have e1 : (tx (a ++ x :: b)).extract (a.length + (tx [x]).size) (tx (a ++ x :: b)).size = tx b := by
        rw [tx_extract, hs, tx_size, List.take_of_length_le (Nat.le_refl _)]
        congr 1
        rw [show a ++ x :: b = (a ++ [x]) ++ b by simp]
        exact List.drop_left' (by simp)
      have e2 : (tx (a ++ x :: b)).extract 0 (a.length + 0) = tx a := by
        rw [tx_extract]
        simp
      rw [Lib.countB_hit _ _ _ (by rw [hs]; omega) h1, e1, Nat.add_comm 1, Lib.splitB_hit _ _ _ _ _ h1, e1, e2, ih b (by simp at h; omega), splA_at x b a [] ha]
      rfl
end Go.Proofs.YtkmlgoklmmbmjaaDoor
