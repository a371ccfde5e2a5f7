/-
  TURNED FLAGS: a flag is among the turns of another one just if both have the same least flag. Plain facts on bits and lists.
-/
import Derived.Test.YtfnjgdocmfmfgabKLeast
namespace Go.Proofs.Ytfnjgdocmfmfgab
set_option maxRecDepth 100000

theorem jn_symm (e i j : Nat) : jn e i j = jn e j i := by unfold jn pp; rw [Nat.max_comm, Nat.min_comm]
theorem opp_inj' : ((List.range 5).all fun j => (List.range j).all fun i => (List.range 5).all fun j' => (List.range j').all fun i' => pp i j != pp i' j' || (i == i' && j == j')) = true := by decide +kernel
theorem opp_inj (j : Nat) (hj : j ≤ 4) (i : Nat) (hi : i < j) (j' : Nat) (hj' : j' ≤ 4) (i' : Nat) (hi' : i' < j') (h : pp i j = pp i' j') : i = i' ∧ j = j' := by
  have h1 := List.all_eq_true.1 opp_inj' j (List.mem_range.2 (by omega))
  have h2 := List.all_eq_true.1 h1 i (List.mem_range.2 hi)
  have h3 := List.all_eq_true.1 h2 j' (List.mem_range.2 (by omega))
  have h4 := List.all_eq_true.1 h3 i' (List.mem_range.2 hi')
  simpa [h] using h4
theorem orowE_bit (e : Nat) (f : Nat → Nat) (j m i' j' : Nat) (hm : m ≤ j) (hj : j ≤ 4) (h : i' < j') (hj' : j' ≤ 4) : (rowE e f j m).testBit (pp i' j') = (decide (j' = j) && decide (i' < m) && jn e (f i') (f j')) := by
  induction m with
  | zero => simp [rowE]
  | succ m ih =>
    have h1 := ih (by omega)
    rw [rowE, Nat.testBit_or, h1]
    by_cases hc : j' = j ∧ i' = m
    · obtain ⟨rfl, rfl⟩ := hc
      cases hv : jn e (f i') (f j')
      · simp
      · simp [pb, Nat.testBit_two_pow_self]
    · have hne : (if jn e (f m) (f j) = true then pb m j else 0).testBit (pp i' j') = false := by
        split
        · unfold pb
          rw [Nat.testBit_two_pow]
          refine decide_eq_false (fun c => hc ?_)
          obtain ⟨a, b⟩ := opp_inj j hj m (by omega) j' hj' i' h c
          exact ⟨b.symm, a.symm⟩
        · simp
      rw [hne, Bool.or_false]
      by_cases c1 : j' = j
      · have : ¬ i' = m := fun c => hc ⟨c1, c⟩
        have e1 : decide (i' < m + 1) = decide (i' < m) := by
          by_cases c2 : i' < m
          · rw [decide_eq_true c2, decide_eq_true (by omega)]
          · rw [decide_eq_false c2, decide_eq_false (by omega)]
        rw [e1]
      · simp [c1]
theorem oonE_bit (e : Nat) (f : Nat → Nat) (m i j : Nat) (hm : m ≤ 5) (h : i < j) (hj : j ≤ 4) : (onE e f m).testBit (pp i j) = (decide (j < m) && jn e (f i) (f j)) := by
  induction m with
  | zero => simp [onE]
  | succ m ih =>
    rw [onE, Nat.testBit_or, ih (by omega), orowE_bit e f m m i j (Nat.le_refl _) (by omega) h hj]
    by_cases c : j = m
    · subst c
      simp [h]
    · simp only [c, decide_false, Bool.false_and, Bool.or_false]
      have e1 : decide (j < m + 1) = decide (j < m) := by
        by_cases c2 : j < m
        · rw [decide_eq_true c2, decide_eq_true (by omega)]
        · rw [decide_eq_false c2, decide_eq_false (by omega)]
      rw [e1]
theorem jn_onE (e : Nat) (f : Nat → Nat) (m i j : Nat) (hm : m ≤ 5) (hi : i < m) (hj : j < m) (hne : i ≠ j) : jn (onE e f m) i j = jn e (f i) (f j) := by
  by_cases h : i < j
  · have := oonE_bit e f m i j hm h (by omega)
    rw [decide_eq_true hj, Bool.true_and] at this
    exact this
  · have := oonE_bit e f m j i hm (by omega) (by omega)
    rw [decide_eq_true hi, Bool.true_and] at this
    rw [jn_symm, jn_symm e (f i)]
    exact this
theorem rowE_congr {e e' : Nat} {f f' : Nat → Nat} {j m : Nat} (h : ∀ i, i < m → jn e (f i) (f j) = jn e' (f' i) (f' j)) : rowE e f j m = rowE e' f' j m := by
  induction m with
  | zero => rfl
  | succ m ih => rw [rowE, rowE, ih (fun i hi => h i (by omega)), h m (by omega)]
theorem onE_congr {e e' : Nat} {f f' : Nat → Nat} {m : Nat} (h : ∀ j, j < m → ∀ i, i < j → jn e (f i) (f j) = jn e' (f' i) (f' j)) : onE e f m = onE e' f' m := by
  induction m with
  | zero => rfl
  | succ m ih => rw [onE, onE, ih (fun j hj => h j (by omega)), rowE_congr (h m (by omega))]
/-- a list of a list -/
def cmp (x y : List Nat) : List Nat := y.map fun v => x[v]?.getD 0
theorem cmp_length (x y : List Nat) : (cmp x y).length = y.length := by simp [cmp]
theorem cmp_get (x y : List Nat) {i : Nat} (h : i < y.length) : (cmp x y)[i]?.getD 0 = x[y[i]?.getD 0]?.getD 0 := by
  unfold cmp
  rw [List.getElem?_map, List.getElem?_eq_getElem h]
  rfl
theorem ok_ne {n k : Nat} {x : List Nat} (h : okList n k x = true) {i j : Nat} (hij : i < j) (hj : j < k) : x[i]?.getD 0 ≠ x[j]?.getD 0 := by
  simp only [okList, Bool.and_eq_true, beq_iff_eq, List.all_eq_true, List.mem_range, decide_eq_true_eq, bne_iff_ne] at h
  exact (h.2 j hj).2 i hij
theorem ok_mk {n k : Nat} {x : List Nat} (hl : x.length = k) (h1 : ∀ i, i < k → x[i]?.getD 0 < n) (h2 : ∀ i j, i < j → j < k → x[i]?.getD 0 ≠ x[j]?.getD 0) : okList n k x = true := by
  simp only [okList, Bool.and_eq_true, beq_iff_eq, List.all_eq_true, List.mem_range, decide_eq_true_eq, bne_iff_ne]
  exact ⟨hl, fun i hi => ⟨h1 i hi, fun j hj => h2 j i hj hi⟩⟩
theorem ok_inj {n k : Nat} {x : List Nat} (h : okList n k x = true) {i j : Nat} (hi : i < k) (hj : j < k) (hne : i ≠ j) : x[i]?.getD 0 ≠ x[j]?.getD 0 := by
  by_cases c : i < j
  · exact ok_ne h c hj
  · exact (ok_ne h (by omega) hi).symm
theorem onL_comp (e : Nat) {n m k : Nat} {x y : List Nat} (hx : okList n m x = true) (hy : okList m k y = true) (hm : m ≤ 5) : onL (onL e x) y = onL e (cmp x y) := by
  have hlx := ok_length hx
  have hly := ok_length hy
  unfold onL
  rw [cmp_length]
  refine onE_congr fun j hj i hi => ?_
  rw [vx_zl, vx_zl, vx_zl, vx_zl, cmp_get x y (by omega), cmp_get x y hj, hlx]
  rw [jn_onE e _ m _ _ hm (ok_lt hy (by omega)) (ok_lt hy (by omega)) (ok_ne hy hi (by omega)), vx_zl, vx_zl]
theorem cmp_ok {n m k : Nat} {x y : List Nat} (hx : okList n m x = true) (hy : okList m k y = true) : okList n k (cmp x y) = true := by
  have hly := ok_length hy
  refine ok_mk (by rw [cmp_length, hly]) (fun i hi => ?_) (fun i j hij hj => ?_)
  · rw [cmp_get x y (by omega)]
    exact ok_lt hx (ok_lt hy hi)
  · rw [cmp_get x y (by omega), cmp_get x y (by omega)]
    exact ok_inj hx (ok_lt hy (by omega)) (ok_lt hy hj) (ok_ne hy hij hj)

/-- which lists there are -/
theorem mem_ext {n : Nat} : ∀ (m : Nat) (p x : List Nat), x.length = p.length + m → x.take p.length = p → okList n x.length x = true → x ∈ ext n m p := by
  intro m
  induction m with
  | zero =>
    intro p x hl hp _
    have hx : x = p := by rw [← hp, List.take_of_length_le (by omega)]
    rw [hx]
    simp [ext]
  | succ m ih =>
    intro p x hl hp hx
    rw [ext, List.mem_flatMap]
    have hlt : p.length < x.length := by omega
    refine ⟨x[p.length], ?_, ?_⟩
    · have := ok_lt hx hlt
      rw [List.getElem?_eq_getElem hlt] at this
      simpa using this
    · have hnc : p.contains x[p.length] = false := by
        rw [Bool.eq_false_iff]
        intro c
        have c1 : x[p.length] ∈ p := by simpa using c
        obtain ⟨i, hi, he⟩ := List.getElem_of_mem c1
        have h2 := ok_ne hx hi hlt
        have h3 : p[i] = x[i] := by
          have : (x.take p.length)[i]? = p[i]? := by rw [hp]
          rw [List.getElem?_take, if_pos hi, List.getElem?_eq_getElem (by omega), List.getElem?_eq_getElem hi] at this
          exact (Option.some.inj this).symm
        rw [List.getElem?_eq_getElem (by omega), List.getElem?_eq_getElem hlt] at h2
        exact h2 (by rw [Option.getD_some, Option.getD_some, ← h3, he])
      rw [hnc]
      refine ih (p ++ [x[p.length]]) x (by simp; omega) ?_ hx
      rw [List.length_append, List.length_singleton, List.take_succ_eq_append_getElem hlt, hp]
theorem turns_take : ∀ n, n ≤ 5 → ∀ k, k ≤ 3 → k ≤ n → (turns n k).all (fun x => x.take k == List.range k) = true := by decide +kernel
theorem turns_iff {n k : Nat} (hn : n ≤ 5) (hk : k ≤ 3) (hkn : k ≤ n) {x : List Nat} : x ∈ turns n k ↔ okList n n x = true ∧ x.take k = List.range k := by
  constructor
  · intro h
    exact ⟨turns_ok hn hk hkn h, by simpa using List.all_eq_true.1 (turns_take n hn k hk hkn) x h⟩
  · rintro ⟨h1, h2⟩
    have hl := ok_length h1
    refine mem_ext (n - k) (List.range k) x (by simp; omega) (by rw [List.length_range]; exact h2) (by rw [hl]; exact h1)
theorem turns_cmp {n k : Nat} (hn : n ≤ 5) (hk : k ≤ 3) (hkn : k ≤ n) {x y : List Nat} (hx : x ∈ turns n k) (hy : y ∈ turns n k) : cmp x y ∈ turns n k := by
  rw [turns_iff hn hk hkn] at *
  refine ⟨cmp_ok hx.1 hy.1, ?_⟩
  have e1 : (cmp x y).take k = cmp x (y.take k) := by simp [cmp, List.map_take]
  rw [e1, hy.2]
  have hlx := ok_length hx.1
  refine List.ext_getElem? fun i => ?_
  by_cases hi : i < k
  · have h1 : (x.take k)[i]? = (List.range k)[i]? := by rw [hx.2]
    rw [List.getElem?_take, if_pos hi] at h1
    unfold cmp
    rw [List.getElem?_map, List.getElem?_range hi, Option.map_some, h1, List.getElem?_range hi]
    rfl
  · rw [List.getElem?_eq_none (by rw [cmp_length]; simp; omega), List.getElem?_eq_none (by simp; omega)]
theorem turns_inv' : ∀ n, n ≤ 5 → ∀ k, k ≤ 3 → k ≤ n → ((turns n k).all fun x => (turns n k).any fun y => cmp x y == List.range n) = true := by decide +kernel
theorem turns_inv {n k : Nat} (hn : n ≤ 5) (hk : k ≤ 3) (hkn : k ≤ n) {x : List Nat} (hx : x ∈ turns n k) : ∃ y ∈ turns n k, cmp x y = List.range n := by
  have := List.all_eq_true.1 (turns_inv' n hn k hk hkn) x hx
  obtain ⟨y, h1, h2⟩ := List.any_eq_true.1 this
  exact ⟨y, h1, by simpa using h2⟩
theorem onL_id : ∀ n, n ≤ 5 → ∀ e, e < eMax n → onL e (List.range n) = e := by decide +kernel
theorem range_ok {n m : Nat} (h : m ≤ n) : okList n m (List.range m) = true :=
  ok_mk (by simp) (fun i hi => by rw [List.getElem?_range hi]; simp; omega) (fun i j hij hj => by rw [List.getElem?_range hj, List.getElem?_range (by omega)]; simp; omega)
theorem range_turn {n k : Nat} (hn : n ≤ 5) (hk : k ≤ 3) (hkn : k ≤ n) : List.range n ∈ turns n k := by
  rw [turns_iff hn hk hkn]
  refine ⟨range_ok (Nat.le_refl _), ?_⟩
  rw [List.take_range, Nat.min_eq_left hkn]
/-- the edges of a flag's turns -/
def tE (n k e : Nat) : List Nat := (turns n k).map (onL e)
theorem minE_all (e : Nat) (pre : List (List Nat)) : ∀ x ∈ pre, minE e pre ≤ onL e x := by
  have : ∀ (l : List (List Nat)) (a : Nat), l.foldl (fun b x => min b (onL e x)) a ≤ a ∧ ∀ x ∈ l, l.foldl (fun b x => min b (onL e x)) a ≤ onL e x := by
    intro l
    induction l with
    | nil => intro a; exact ⟨Nat.le_refl _, fun x hx => by cases hx⟩
    | cons y l ih =>
      intro a
      obtain ⟨h1, h2⟩ := ih (min a (onL e y))
      refine ⟨Nat.le_trans h1 (Nat.min_le_left _ _), fun x hx => ?_⟩
      rcases List.mem_cons.1 hx with rfl | hx
      · exact Nat.le_trans h1 (Nat.min_le_right _ _)
      · exact h2 x hx
  exact (this pre e).2
theorem minE_mem (e : Nat) (pre : List (List Nat)) : minE e pre = e ∨ ∃ x ∈ pre, minE e pre = onL e x := by
  have : ∀ (l : List (List Nat)) (a : Nat), l.foldl (fun b x => min b (onL e x)) a = a ∨ ∃ x ∈ l, l.foldl (fun b x => min b (onL e x)) a = onL e x := by
    intro l
    induction l with
    | nil => intro a; exact .inl rfl
    | cons y l ih =>
      intro a
      rw [List.foldl_cons]
      rcases ih (min a (onL e y)) with h | ⟨x, h1, h2⟩
      · rcases Nat.le_total a (onL e y) with c | c
        · exact .inl (by rw [h, Nat.min_eq_left c])
        · exact .inr ⟨y, by simp, by rw [h, Nat.min_eq_right c]⟩
      · exact .inr ⟨x, by simp [h1], h2⟩
  exact this pre e
section
variable {k n e y : Nat}
theorem VK.id (h : VK k n e) : onL e (List.range n) = e := by
  obtain ⟨_, hn, _, _⟩ := h.nums
  exact onL_id n hn e (by have := h.1.2.2.2; simpa using this)
theorem tE_self (h : VK k n e) : e ∈ tE n k e := by
  obtain ⟨_, hn, hk, hkn⟩ := h.nums
  exact List.mem_map.2 ⟨_, range_turn hn hk hkn, h.id⟩
theorem tE_trans (hn : n ≤ 5) (hk : k ≤ 3) (hkn : k ≤ n) {z : Nat} (h1 : y ∈ tE n k e) (h2 : z ∈ tE n k y) : z ∈ tE n k e := by
  obtain ⟨x, hx, rfl⟩ := List.mem_map.1 h1
  obtain ⟨x', hx', rfl⟩ := List.mem_map.1 h2
  exact List.mem_map.2 ⟨cmp x x', turns_cmp hn hk hkn hx hx', (onL_comp e (turns_ok hn hk hkn hx) (turns_ok hn hk hkn hx') hn).symm⟩
theorem tE_symm (h : VK k n e) (h1 : y ∈ tE n k e) : e ∈ tE n k y := by
  obtain ⟨_, hn, hk, hkn⟩ := h.nums
  obtain ⟨x, hx, rfl⟩ := List.mem_map.1 h1
  obtain ⟨x', hx', he⟩ := turns_inv hn hk hkn hx
  exact List.mem_map.2 ⟨x', hx', by rw [onL_comp e (turns_ok hn hk hkn hx) (turns_ok hn hk hkn hx') hn, he, h.id]⟩
theorem leastK_mem (h : VK k n e) : leastK n k e ∈ tE n k e := by
  rcases minE_mem e (turns n k) with c | ⟨x, hx, c⟩
  · rw [leastK, c]; exact tE_self h
  · exact List.mem_map.2 ⟨x, hx, c.symm⟩
theorem leastK_le {z : Nat} (h : z ∈ tE n k e) : leastK n k e ≤ z := by
  obtain ⟨x, hx, rfl⟩ := List.mem_map.1 h
  exact minE_all e (turns n k) x hx
theorem leastK_same (h : VK k n e) (hy : VK k n y) (h1 : y ∈ tE n k e) : leastK n k y = leastK n k e := by
  obtain ⟨_, hn, hk, hkn⟩ := h.nums
  have a := leastK_le (tE_trans hn hk hkn h1 (leastK_mem hy))
  have b := leastK_le (tE_trans hn hk hkn (tE_symm h h1) (leastK_mem h))
  omega
theorem orb (h : VK k n e) (hy : VK k n y) : y ∈ tE n k e ↔ leastK n k y = leastK n k e := by
  obtain ⟨_, hn, hk, hkn⟩ := h.nums
  refine ⟨leastK_same h hy, fun hl => ?_⟩
  have h1 := leastK_mem hy
  rw [hl] at h1
  exact tE_trans hn hk hkn (leastK_mem h) (tE_symm hy h1)
end
end Go.Proofs.Ytfnjgdocmfmfgab
