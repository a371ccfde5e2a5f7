/-
  AllFlags without forbidden graphs: both sides, with what its flags are.
-/
import Derived.Test.YtncbimbbkealmaaDoorFdM2
import Derived.Test.YtncbimbbkealmaaDoorFd
namespace Go.Proofs.YtncbimbbkealmaaDoor
open Go.RowKit Go.Shelf
set_option maxRecDepth 100000
theorem flL_at {n k t m i : Nat} (hi : i < (flL n k t [] m).length) (hm : m ≤ kM k n) (hn : n ≤ 5) (hk : k ≤ 3) (hkn : k ≤ n) (ht : t < eMax k) : ∃ E : Nat, kAt (flL n k t [] m) i = ((k : Int), (n : Int), (E : Int)) ∧ VK k n E := by
  unfold kAt
  rw [List.getElem?_eq_getElem hi]
  have hmem := List.getElem_mem hi
  obtain ⟨j, hj, e⟩ := List.mem_map.1 (show (flL n k t [] m)[i] ∈ ((List.range m).filter (isF n k t [])).map fun (j : Nat) => ((k : Int), (n : Int), ((kE t k j : Nat) : Int)) from hmem)
  have hjm := List.mem_range.1 (List.mem_filter.1 hj).1
  refine ⟨kE t k j, ?_, VK.mk' hn hk hkn (kE_max hn hkn (by rw [← eMax_pc k (by omega)]; exact ht) (by omega))⟩
  rw [← e]; rfl
theorem slG_nil (W : World) (a : Option Addr) : SlG W (.slice a 0 0) [] := ⟨a, 0, by simp, by simp, by simp, fun c => absurd rfl c⟩
end Go.Proofs.YtncbimbbkealmaaDoor
