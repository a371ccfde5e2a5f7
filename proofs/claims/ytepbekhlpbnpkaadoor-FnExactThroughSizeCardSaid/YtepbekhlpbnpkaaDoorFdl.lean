/-
  AllFlags without forbidden graphs: both sides, with what its flags are.
-/
import Derived.Test.YtepbekhlpbnpkaaDoorFdM2
import Derived.Test.YtepbekhlpbnpkaaDoorFd
namespace Go.Proofs.YtepbekhlpbnpkaaDoor
open Go.RowKit Go.Shelf
set_option maxRecDepth 100000
theorem flL_at {n k t m i : Nat} (hi : i < (flL n k t [] m).length) (hm : m ≤ kM k n) (hn : n ≤ 5) (hk : k ≤ 3) (hkn : k ≤ n) (ht : t < eMax k) : ∃ E : Nat, kAt (flL n k t [] m) i = ((k : Int), (n : Int), (E : Int)) ∧ VK k n E := by
  unfold kAt
  rw [List.getElem?_eq_getElem hi]
  have hmem := List.getElem_mem hi
  obtain ⟨j, hj, e⟩ := List.mem_map.1 (show (flL n k t [] m)[i] ∈ ((List.range m).filter (isF n k t [])).map fun (j : Nat) => ((k : Int), (n : Int), ((kE t k j : Nat) : Int)) from hmem)
  have hjm := List.mem_range.1 (List.mem_filter.1 hj).1
  refine ⟨kE t k j, ?_, VK.mk' hn hk hkn (kE_max hn hkn (by rw [← eMax_pc k (by omega)]; exact ht) (by omega))⟩
  rw [← e]; rfl
theorem slG_nil (W : World) (a : Option Addr) : SlG W (.slice a 0 0) [] := ⟨a, 0, by simp, by simp, by simp, fun c => absurd rfl c⟩
/-- the flags of a size, if there are not too many -/
theorem af_nil (k n t : Nat) (hn5 : n ≤ 5) (hk3 : k ≤ 3) (hkn : k ≤ n) (ht : t < eMax k) : ∃ (L : List (Int × Int × Int)) (c : Int), L.length ≤ 64 ∧ (c = 0 ∨ c = 3) ∧ (c = 3 → L = []) ∧ (∀ i, i < L.length → ∃ E : Nat, kAt L i = ((k : Int), (n : Int), (E : Int)) ∧ VK k n E) ∧
    (∀ W a, Calls Tryd.prog 65 #[.agg #[.int .i64 k, .int .u32 t], .int .i64 n, .slice a 0 0] W (RetK W L c)) ∧
    (∀ W a, Calls Tryd.prog 67 #[.agg #[.int .i64 k, .int .u32 t], .int .i64 n, .slice a 0 0] W (RetK W L c)) := by
  have hV : AllV [] := fun i hi => absurd hi (by simp)
  have hB : Bd [] := fun i hi => absurd hi (by simp)
  have hi2 := fun W a => iaf_ok W k n t hn5 hk3 hkn ht _ [] (slG_nil W a) (by simp) hB hV (by simp)
  have hs2 := fun W a => saf_ok W k n t hn5 hk3 hkn ht _ [] (slG_nil W a) (by simp) hB hV (by simp)
  by_cases h64 : (flL n k t [] (kM k n)).length ≤ 64
  · exact ⟨flL n k t [] (kM k n), 0, h64, .inl rfl, fun c => absurd c (by decide), fun i hi => flL_at hi (Nat.le_refl _) hn5 hk3 hkn ht, fun W a => RetLim.both (hC := hs2 W a) 0 _ (.inl ⟨h64, rfl, rfl⟩), fun W a => RetLim.both (hC := hi2 W a) 0 _ (.inl ⟨h64, rfl, rfl⟩)⟩
  · exact ⟨[], 3, by simp, .inr rfl, fun _ => rfl, fun i hi => absurd hi (by simp), fun W a => RetLim.both (hC := hs2 W a) 3 _ (.inr ⟨by omega, rfl, rfl⟩), fun W a => RetLim.both (hC := hi2 W a) 3 _ (.inr ⟨by omega, rfl, rfl⟩)⟩
/-- sizes below the type's -/
theorem af_low (k t : Nat) (n : Int) (hk3 : k ≤ 3) (ht : t < eMax k) (hlt : n < k) (W : World) : Calls Tryd.prog 67 #[.agg #[.int .i64 k, .int .u32 t], .int .i64 n, .slice none 0 0] W (RetK W [] 2) := by
  have hVt : VG k t := ⟨by omega, by omega, by omega, by simpa using ht⟩
  exact iaf_code W k n t 0 (.inr ⟨rfl, by omega⟩) hVt none 0 0 (fun W' _ => cf_ok W' none 0 [] (by simp) (fun i hi => absurd hi (by simp)) (fun i hi => absurd hi (by simp)) (fun i hi => absurd hi (by simp)) (by simp))
end Go.Proofs.YtepbekhlpbnpkaaDoor
