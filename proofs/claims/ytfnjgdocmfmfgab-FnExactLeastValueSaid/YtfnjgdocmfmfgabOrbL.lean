/-
  THE LEAST FLAGS OF A TYPE, IN ASCENDING ORDER: a flag has come among the turns of an earlier one just if it is not least. Plain facts.
-/
import Derived.Test.YtfnjgdocmfmfgabOrb
namespace Go.Proofs.Ytfnjgdocmfmfgab
set_option maxRecDepth 100000

theorem eMax_pc : ∀ k, k ≤ 5 → eMax k = 2 ^ pc k := by decide
theorem pp_ltP : ∀ m, m ≤ 5 → ∀ j, j < m → ∀ i, i < j → pp i j < pc m := by decide +kernel
theorem pp_all : ∀ k, k ≤ 5 → ∀ b, b < pc k → ∃ j, j < k ∧ ∃ i, i < j ∧ pp i j = b := by decide +kernel
theorem rowE_ltP (e : Nat) (f : Nat → Nat) (j i m : Nat) (hij : i ≤ j) (hj : j < m) (hm : m ≤ 5) : rowE e f j i < 2 ^ pc m := by
  induction i with
  | zero => exact Nat.pow_pos (by omega)
  | succ i ih =>
    refine Nat.or_lt_two_pow (ih (by omega)) ?_
    split
    · exact Nat.pow_lt_pow_right (by omega) (pp_ltP m hm j hj i (by omega))
    · exact Nat.pow_pos (by omega)
theorem onE_ltP (e : Nat) (f : Nat → Nat) (j m : Nat) (hj : j ≤ m) (hm : m ≤ 5) : onE e f j < 2 ^ pc m := by
  induction j with
  | zero => exact Nat.pow_pos (by omega)
  | succ j ih => exact Nat.or_lt_two_pow (ih (by omega)) (rowE_ltP e f j j m (Nat.le_refl _) (by omega) hm)
theorem onL_ltP (e : Nat) {n m : Nat} {x : List Nat} (hx : okList n m x = true) (hm : m ≤ 5) : onL e x < eMax m := by
  rw [eMax_pc m hm]
  unfold onL
  exact onE_ltP e _ _ m (by rw [ok_length hx]; exact Nat.le_refl _) hm
theorem VK.mk' {k n e : Nat} (hn : n ≤ 5) (hk : k ≤ 3) (hkn : k ≤ n) (he : e < eMax n) : VK k n e :=
  ⟨⟨by omega, by omega, by omega, by simpa using he⟩, by omega, by omega, by omega⟩
theorem VK.lt' {k n e : Nat} (h : VK k n e) : e < eMax n := by have := h.1.2.2.2; simpa using this
theorem tE_ok {k n e y : Nat} (h : VK k n e) (hy : y ∈ tE n k e) : VK k n y := by
  obtain ⟨_, hn, hk, hkn⟩ := h.nums
  obtain ⟨x, hx, rfl⟩ := List.mem_map.1 hy
  exact VK.mk' hn hk hkn (onL_ltP e (turns_ok hn hk hkn hx) hn)
/-- turned flags have the same type -/
theorem tE_low {k n e y : Nat} (h : VK k n e) (hy : y ∈ tE n k e) : y % 2 ^ pc k = e % 2 ^ pc k := by
  obtain ⟨_, hn, hk, hkn⟩ := h.nums
  obtain ⟨x, hx, rfl⟩ := List.mem_map.1 hy
  have hok := turns_ok hn hk hkn hx
  have htk := ((turns_iff hn hk hkn).1 hx).2
  have hget : ∀ i, i < k → x[i]?.getD 0 = i := fun i hi => by
    have h1 : (x.take k)[i]? = (List.range k)[i]? := by rw [htk]
    rw [List.getElem?_take, if_pos hi, List.getElem?_range hi] at h1
    rw [h1]
    rfl
  apply Nat.eq_of_testBit_eq
  intro b
  rw [Nat.testBit_mod_two_pow, Nat.testBit_mod_two_pow]
  by_cases hb : b < pc k
  · obtain ⟨j, hj, i, hi, rfl⟩ := pp_all k (by omega) b hb
    have hl := ok_length hok
    have h1 := oonE_bit e (vx (zl x)) n i j hn hi (by omega)
    rw [decide_eq_true (show j < n by omega), Bool.true_and, vx_zl, vx_zl, hget i (by omega), hget j hj] at h1
    unfold onL
    rw [hl, h1]
    rfl
  · simp [hb]
/-- the flag at an index -/
def kE (t k i : Nat) : Nat := t ||| i <<< pc k
theorem kE_eq {t k : Nat} (ht : t < 2 ^ pc k) (i : Nat) : kE t k i = 2 ^ pc k * i + t := by
  unfold kE
  rw [Nat.or_comm, Nat.shiftLeft_eq, Nat.mul_comm, ← Nat.two_pow_add_eq_or_of_lt ht]
theorem kE_lt {t k : Nat} (ht : t < 2 ^ pc k) {i j : Nat} : kE t k i < kE t k j ↔ i < j := by
  rw [kE_eq ht, kE_eq ht, Nat.add_lt_add_iff_right]
  exact Nat.mul_lt_mul_left (Nat.pow_pos (by omega))
theorem kE_inj {t k : Nat} (ht : t < 2 ^ pc k) {i j : Nat} (h : kE t k i = kE t k j) : i = j := by
  have h1 := kE_lt ht (i := i) (j := j)
  have h2 := kE_lt ht (i := j) (j := i)
  omega
theorem kE_low {t k : Nat} (ht : t < 2 ^ pc k) (i : Nat) : kE t k i % 2 ^ pc k = t := by
  rw [kE_eq ht, Nat.mul_add_mod, Nat.mod_eq_of_lt ht]
/-- how many there are -/
def kM (k n : Nat) : Nat := 2 ^ (pc n - pc k)
theorem pc_leP : ∀ n, n ≤ 5 → ∀ k, k ≤ n → pc k ≤ pc n := by decide
theorem kM_mul {k n : Nat} (hn : n ≤ 5) (hkn : k ≤ n) : 2 ^ pc k * kM k n = eMax n := by
  have := pc_leP n hn k hkn
  unfold kM
  rw [← Nat.pow_add, eMax_pc n hn]
  congr 1
  omega
theorem kE_max {t k n i : Nat} (hn : n ≤ 5) (hkn : k ≤ n) (ht : t < 2 ^ pc k) (hi : i < kM k n) : kE t k i < eMax n := by
  rw [kE_eq ht, ← kM_mul hn hkn]
  have : 2 ^ pc k * (i + 1) ≤ 2 ^ pc k * kM k n := Nat.mul_le_mul_left _ hi
  rw [Nat.mul_add] at this
  omega
theorem kE_of {k n y : Nat} (hn : n ≤ 5) (hkn : k ≤ n) (hy : y < eMax n) : ∃ i, i < kM k n ∧ y = kE (y % 2 ^ pc k) k i := by
  have hp : 0 < 2 ^ pc k := Nat.pow_pos (by omega)
  refine ⟨y / 2 ^ pc k, ?_, ?_⟩
  · rw [← kM_mul hn hkn] at hy
    exact Nat.div_lt_of_lt_mul hy
  · rw [kE_eq (Nat.mod_lt _ hp)]
    exact (Nat.div_add_mod y _).symm
/-- what has come behind the first i flags -/
def seenS (n k t i : Nat) : List Nat := (List.range i).flatMap fun j => if leastK n k (kE t k j) = kE t k j then tE n k (kE t k j) else []
theorem seenS_t {n k t i : Nat} (h : leastK n k (kE t k i) = kE t k i) : seenS n k t (i + 1) = seenS n k t i ++ tE n k (kE t k i) := by
  simp [seenS, List.range_succ, List.flatMap_append, h]
theorem seenS_f {n k t i : Nat} (h : leastK n k (kE t k i) ≠ kE t k i) : seenS n k t (i + 1) = seenS n k t i := by
  simp [seenS, List.range_succ, List.flatMap_append, h]
theorem seen_iff {n k t i : Nat} (hn : n ≤ 5) (hk : k ≤ 3) (hkn : k ≤ n) (ht : t < eMax k) (hi : i < kM k n) : kE t k i ∈ seenS n k t i ↔ leastK n k (kE t k i) ≠ kE t k i := by
  rw [eMax_pc k (by omega)] at ht
  have hV : ∀ j, j < kM k n → VK k n (kE t k j) := fun j hj => VK.mk' hn hk hkn (kE_max hn hkn ht hj)
  constructor
  · intro h
    obtain ⟨j, hj, hm⟩ := List.mem_flatMap.1 h
    rw [List.mem_range] at hj
    split at hm
    · rename_i hl
      have hs := leastK_same (hV j (by omega)) (hV i hi) hm
      have := (kE_lt ht).2 hj
      omega
    · cases hm
  · intro h
    have hm := leastK_mem (hV i hi)
    have hVm := tE_ok (hV i hi) hm
    have hlow := tE_low (hV i hi) hm
    rw [kE_low ht] at hlow
    obtain ⟨j, hj, he⟩ := kE_of (k := k) hn hkn hVm.lt'
    rw [hlow] at he
    have hle := leastK_le (tE_self (hV i hi))
    have hji : j < i := by
      refine (kE_lt ht).1 ?_
      omega
    have hself : leastK n k (kE t k j) = kE t k j := by
      have := leastK_same (hV i hi) hVm hm
      rw [← he]
      omega
    refine List.mem_flatMap.2 ⟨j, List.mem_range.2 hji, ?_⟩
    rw [if_pos hself, ← he]
    exact tE_symm (hV i hi) hm
end Go.Proofs.Ytfnjgdocmfmfgab
