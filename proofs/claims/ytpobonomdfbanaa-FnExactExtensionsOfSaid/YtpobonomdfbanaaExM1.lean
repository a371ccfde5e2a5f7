/-
  KEq, Bw, Ex, KPx, KPn, KTurnO, KSet, AfAll, KCan, KExC, KSmall, KType, KEx, KExF, KExS, KExE, in one text.
-/
import Derived.Test.YtpobonomdfbanaaKVal
import Derived.Laws.StructEq
import Derived.Laws.Tables
import Derived.KernelRfl
import Derived.BigQuiet
import Derived.Deep.QuietTactic
import Derived.Lib.Hide
import Derived.Test.YtpobonomdfbanaaOrbL
import Derived.Test.YtpobonomdfbanaaExM2
import Derived.Test.YtpobonomdfbanaaOrb
import Derived.Deep.Upon
import Derived.Deep.AppendSrc
import Derived.Test.YtpobonomdfbanaaKOwn
import Derived.Test.YtpobonomdfbanaaKTurns
import Derived.Maps.OwnIn
import Derived.DeepKeys4
import Derived.Test.YtpobonomdfbanaaKLeast
import Derived.Test.YtpobonomdfbanaaIter
import Derived.Lib.SmallJoins
import Derived.OwnWalk
import Derived.Deep.RegionHeld3
import Derived.Test.YtpobonomdfbanaaForb
import Derived.Test.YtpobonomdfbanaaKown
import Derived.Deep.DeepCutAuto
import Derived.Test.YtpobonomdfbanaaSLeast
/-
  TWO FLAGS HELD AGAINST EACH OTHER BY '=='.
-/
namespace Go.Proofs.Ytpobonomdfbanaa
open Go.RowKit
set_option maxRecDepth 100000

theorem eqGrK (W : World) (n m e f : Int) : (Op.equalIn 10000 32 (.agg #[.int .i64 n, .int .u32 e]) (.agg #[.int .i64 m, .int .u32 f])).run Try.prog W = .ok (n == m && e == f) W := by
  have u3 := Try.underlying2
  have u4 := Try.underlying22
  have hS : Try.prog.underlying 32 = some (.struct (Try.prog.fieldsOf 32)) := by kernel_rfl
  have hp : Try.prog.stoodInHeld 32 = false := by kernel_rfl
  rw [show (10000 : Nat) = 9999 + 1 from rfl, run_equalIn_agg W 9999 32 _ _ hS hp]
  simp only [Program.fieldsOf, Try.underlying32]
  go_simp
  by_cases h1 : n = m <;> by_cases h2 : e = f <;> simp [h1, h2]
theorem eqFl (W : World) (k l n m e f : Int) : (Op.equalIn 10000 34 (.agg #[.int .i64 k, .int .i64 n, .int .u32 e]) (.agg #[.int .i64 l, .int .i64 m, .int .u32 f])).run Try.prog W = .ok (k == l && (n == m && e == f)) W := by
  have u3 := Try.underlying2
  have u4 := Try.underlying22
  have hS : Try.prog.underlying 34 = some (.struct (Try.prog.fieldsOf 34)) := by kernel_rfl
  have hp : Try.prog.stoodInHeld 34 = false := by kernel_rfl
  rw [show (10000 : Nat) = 9999 + 1 from rfl, run_equalIn_agg W 9999 34 _ _ hS hp]
  simp only [Program.fieldsOf, Try.underlying34]
  go_simp
  by_cases h1 : k = l <;> by_cases h2 : n = m <;> by_cases h3 : e = f <;> simp [h1, h2, h3]
end Go.Proofs.Ytpobonomdfbanaa
/-
  WORLDS IN WHICH OLD BLOCKS ARE AS THEY WERE: for regions that draw their order.
-/
namespace Go.Proofs.Ytpobonomdfbanaa
open Go.RowKit
set_option maxRecDepth 100000
/-- the worlds in which old blocks are as they were -/
structure BW (w : World) where
  W : World
  h : Below w.heap.size w W
instance (w : World) : Nonempty (BW w) := ⟨⟨w, Below.refl _ _⟩⟩
theorem wp_region_below {P : Program} {id : Nat} {Q : Exit → Act → World → Prop} {a : Act} {w : World} {l : List Oper} (hm : P.follows .mixedOrders = true) (hB : Region.lexB .any l.toArray = true)
    (h : wpQuiet P l.toArray (fun w' => ∃ p : BW w, w' = p.W) (fun a' => ∀ w', (∃ p : BW w, w' = p.W) → Q .normal a' w') l a) : (Code.region id l.toArray true).wp P Q a w :=
  wp_region_quiet (C := fun w' => ∃ p : BW w, w' = p.W) hm hB ⟨⟨_, (Below.refl _ w).drew⟩, rfl⟩ (by simpa using h)
theorem bw_of {P : Program} {f : FuncId} {args : Array Value} {w : World} {p : BW w} {v : Value} (h : Calls P f args p.W fun e w' => e = .returned v ∧ Below p.W.heap.size p.W w') : Calls P f args p.W fun e w' => e = .returned v ∧ ∃ q : BW w, w' = q.W :=
  h.mono fun _ w' ⟨he, hb⟩ => ⟨he, ⟨w', p.h.trans (hb.mono p.h.size)⟩, rfl⟩
theorem bw_cell {w : World} {B o : Nat} {v : Value} (hz : B < w.heap.size) (hc : w.cell? ⟨B, o, none⟩ = some v) (p : BW w) : p.W.cell? ⟨B, o, none⟩ = some v := old_cell hz hc p.h
end Go.Proofs.Ytpobonomdfbanaa
/-
  THE FLAGS WITH ONE VERTEX MORE: which they are, and that there are never more than 16. Plain facts.
-/
namespace Go.Proofs.Ytpobonomdfbanaa
set_option maxRecDepth 100000

/-- the unlabelled vertices but one -/
def oth (k m a : Nat) : List Nat := (List.range m).filter fun v => decide (k ≤ v) && v != a
theorem oth_facts : ∀ m, m ≤ 5 → ∀ k, k ≤ 3 → ∀ a, a < m → (k ≤ a → (okList m (m - 1) (List.range k ++ oth k m a) = true ∧ okList m m (List.range k ++ oth k m a ++ [a]) = true)) := by decide +kernel
theorem pc_succ : ∀ n, n ≤ 4 → pc (n + 1) = pc n + n := by decide
theorem onL_low {n : Nat} (y a : Nat) {p : List Nat} (hp : p.length = n) (hn : n ≤ 4) : onL y (p ++ [a]) % 2 ^ pc n = onL y p := by
  have hlt : onL y p < 2 ^ pc n := by
    unfold onL
    exact onE_ltP y _ _ n (by omega) (by omega)
  apply Nat.eq_of_testBit_eq
  intro b
  rw [Nat.testBit_mod_two_pow]
  by_cases hb : b < pc n
  · obtain ⟨j, hj, i, hi, rfl⟩ := pp_all n (by omega) b hb
    have h1 := oonE_bit y (vx (zl (p ++ [a]))) (n + 1) i j (by omega) hi (by omega)
    have h2 := oonE_bit y (vx (zl p)) n i j (by omega) hi (by omega)
    rw [decide_eq_true (show j < n + 1 by omega), Bool.true_and, vx_zl, vx_zl, List.getElem?_append_left (by omega), List.getElem?_append_left (by omega)] at h1
    rw [decide_eq_true hj, Bool.true_and, vx_zl, vx_zl] at h2
    unfold onL
    rw [show (p ++ [a]).length = n + 1 by simp [hp], hp, h1, h2]
    simp [hb]
  · have h1 : onL y p < 2 ^ b := Nat.lt_of_lt_of_le hlt (Nat.pow_le_pow_right (by omega) (by omega))
    rw [Nat.testBit_lt_two_pow h1]
    simp [hb]
theorem ext_in {k n e y a : Nat} (hn : n ≤ 4) (hk : k ≤ 3) (hkn : k ≤ n) (he : VK k n e) (hy : VK k ((n + 1 : Nat) : Int) y) (ha : k ≤ a) (ha2 : a ≤ n) (hl : leastK (n + 1) k y = y)
    (hf : leastK n k (onL y (List.range k ++ oth k (n + 1) a)) = leastK n k e) : ∃ s, s < 2 ^ n ∧ y = leastK (n + 1) k (2 ^ pc n * s + e) := by
  obtain ⟨hL, hL2⟩ := oth_facts (n + 1) (by omega) k hk a (by omega) ha
  rw [Nat.add_sub_cancel] at hL
  obtain ⟨L, hLd⟩ : ∃ L, List.range k ++ oth k (n + 1) a = L := ⟨_, rfl⟩
  have hLk : L.take k = List.range k := by rw [← hLd, List.take_left' (by simp)]
  rw [hLd] at hL hL2 hf
  have hLl := ok_length hL
  have hp : VK k n (onL y L) := VK.mk' (by omega) hk hkn (onL_ltP y hL (by omega))
  have hmem : e ∈ tE n k (onL y L) := (orb hp he).2 hf.symm
  obtain ⟨q, hq, hqe⟩ := List.mem_map.1 hmem
  have hqo := turns_ok (by omega) hk hkn hq
  have hqk := ((turns_iff (by omega) hk hkn).1 hq).2
  have hql := ok_length hqo
  rw [onL_comp y hL hqo (by omega)] at hqe
  have hcl : (cmp L q).length = n := by rw [cmp_length, hql]
  have hck := cmp_ok hL hqo
  have hget : ∀ i, i < n → (cmp L q ++ [a])[i]?.getD 0 = L[q[i]?.getD 0]?.getD 0 := fun i hi => by rw [List.getElem?_append_left (by omega), cmp_get L q (by omega)]
  have hgl : (cmp L q ++ [a])[n]?.getD 0 = a := by rw [List.getElem?_append_right (by omega), hcl, Nat.sub_self]; rfl
  have hLa : ∀ i, i < n → L[i]?.getD 0 ≠ a := fun i hi => by
    have h1 := ok_ne hL2 hi (show n < n + 1 by omega)
    rw [List.getElem?_append_left (by omega), List.getElem?_append_right (by omega), hLl, Nat.sub_self] at h1
    exact h1
  have hx : cmp L q ++ [a] ∈ turns (n + 1) k := by
    rw [turns_iff (by omega) hk (by omega)]
    refine ⟨ok_mk (by simp [hcl]) (fun i hi => ?_) (fun i j hij hj => ?_), ?_⟩
    · by_cases c : i < n
      · rw [hget i c]
        exact ok_lt hL (ok_lt hqo c)
      · obtain rfl : i = n := by omega
        rw [hgl]; omega
    · by_cases c : j < n
      · rw [hget i (by omega), hget j c]
        exact ok_inj hL (ok_lt hqo (by omega)) (ok_lt hqo c) (ok_ne hqo hij c)
      · obtain rfl : j = n := by omega
        rw [hgl, hget i hij]
        exact hLa _ (ok_lt hqo hij)
    · rw [List.take_append_of_le_length (by omega)]
      have e1 : (cmp L q).take k = cmp L (q.take k) := by simp [cmp, List.map_take]
      rw [e1, hqk]
      refine List.ext_getElem? fun i => ?_
      by_cases hi : i < k
      · have h1 : (L.take k)[i]? = (List.range k)[i]? := by rw [hLk]
        rw [List.getElem?_take, if_pos hi, List.getElem?_range hi] at h1
        unfold cmp
        rw [List.getElem?_map, List.getElem?_range hi, Option.map_some, h1]
        rfl
      · rw [List.getElem?_eq_none (by rw [cmp_length]; simp; omega), List.getElem?_eq_none (by simp; omega)]
  have hlow := onL_low y a hcl hn
  rw [hqe] at hlow
  have hxo := turns_ok (by omega) hk (by omega) hx
  have hlt := onL_ltP y hxo (by omega)
  obtain ⟨Y, hY⟩ : ∃ Y, onL y (cmp L q ++ [a]) = Y := ⟨_, rfl⟩
  have hYm : Y ∈ tE (n + 1) k y := by rw [← hY]; exact List.mem_map_of_mem hx
  rw [hY] at hlow hlt
  rw [eMax_pc (n + 1) (by omega), pc_succ n hn, Nat.pow_add] at hlt
  refine ⟨Y / 2 ^ pc n, Nat.div_lt_of_lt_mul hlt, ?_⟩
  have hdm := Nat.div_add_mod Y (2 ^ pc n)
  rw [hlow] at hdm
  rw [hdm, leastK_same hy (tE_ok hy hYm) hYm, hl]
theorem pigeonL : ∀ (l I : List Nat), l.Nodup → (∀ x ∈ l, x ∈ I) → l.length ≤ I.length := by
  intro l
  induction l with
  | nil => intro I _ _; simp
  | cons x l ih =>
    intro I hnd hs
    have hx := hs x (by simp)
    have h1 := ih (I.erase x) (List.nodup_cons.1 hnd).2 (fun y hy => (List.mem_erase_of_ne (fun c => (List.nodup_cons.1 hnd).1 (by rw [← c]; exact hy))).2 (hs y (by simp [hy])))
    rw [List.length_erase_of_mem hx] at h1
    have h2 : 0 < I.length := List.length_pos_of_mem hx
    simp
    omega
/-- is a flag without some vertex alike another one -/
def fndB (k n e y : Nat) : Bool := (List.range (n + 1)).any fun a => decide (k ≤ a) && (leastK n k (onL y (List.range k ++ oth k (n + 1) a)) == leastK n k e)
theorem ext_bound {k n e t : Nat} (hn : n ≤ 4) (hk : k ≤ 3) (hkn : k ≤ n) (he : VK k n e) (ht : t < 2 ^ pc k) (P : Nat → Bool)
    (hP : ∀ j, j < kM k (n + 1) → P j = true → leastK (n + 1) k (kE t k j) = kE t k j ∧ fndB k n e (kE t k j) = true) : ((List.range (kM k (n + 1))).filter P).length ≤ 16 := by
  have h1 := pigeonL (((List.range (kM k (n + 1))).filter P).map (kE t k)) ((List.range (2 ^ n)).map fun s => leastK (n + 1) k (2 ^ pc n * s + e)) ?_ ?_
  · rw [List.length_map, List.length_map, List.length_range] at h1
    have h2 : 2 ^ n ≤ 2 ^ 4 := Nat.pow_le_pow_right (by omega) hn
    omega
  · exact List.pairwise_map.2 ((List.Pairwise.filter P List.nodup_range).imp (fun {a b} (hab : a ≠ b) c => hab (kE_inj ht c)))
  · intro y hy
    obtain ⟨j, hj, rfl⟩ := List.mem_map.1 hy
    obtain ⟨hj1, hj2⟩ := List.mem_filter.1 hj
    rw [List.mem_range] at hj1
    obtain ⟨hl, hf⟩ := hP j hj1 hj2
    unfold fndB at hf
    obtain ⟨a, ha, hfa⟩ := List.any_eq_true.1 hf
    rw [List.mem_range] at ha
    simp only [Bool.and_eq_true, decide_eq_true_eq, beq_iff_eq] at hfa
    have hy2 := VK.mk' (k := k) (n := n + 1) (by omega) hk (by omega) (kE_max (by omega) (by omega) ht hj1)
    obtain ⟨s, hs, he2⟩ := ext_in hn hk hkn he hy2 hfa.1 (by omega) hl hfa.2
    exact List.mem_map.2 ⟨s, List.mem_range.2 hs, he2.symm⟩
end Go.Proofs.Ytpobonomdfbanaa
/-
  KPartF, KSPart, in one text, under other names (Part has the old ones).
-/
/-
  THE FLAG ON THE LABELS AND SOME OTHER VERTICES: the program's.
-/
namespace Go.Proofs.Ytpobonomdfbanaa
open Go.RowKit Go.Shelf
set_option maxRecDepth 100000

theorem SlS.src {w : World} {v : Value} {x : List Nat} {ad : Addr} {l cap : Nat} (hS : SlS w v (zl x)) (hv : v = .slice (some ad) l cap) : ∀ q u, (rowN x)[q]? = some u → w.cell? (ad.add q) = some u := fun q u hq => by
  obtain ⟨q1, q2⟩ := rowN_get hq
  obtain ⟨a', cap', e1, _, _, e3⟩ := hS.1
  obtain ⟨b, off, rfl, hb, hc⟩ := e3 (by intro c; rw [← List.length_eq_zero_iff, zl_length] at c; omega)
  rw [hv] at e1
  injection e1 with e1 _ _
  injection e1 with e1
  rw [e1, add_none, hc q (by rw [zl_length]; exact q1), zl_get, q2]
theorem LMem.spare {W : World} {B n : Nat} {p x : List Nat} (h : LMem W B n p) (hl : p.length + x.length ≤ n) : ∀ j, j < (rowN x).length → (W.cell? ⟨B, 0 + p.length * 1 + j, none⟩).isSome = true ∧ W.frozen? ⟨B, 0 + p.length * 1 + j, none⟩ = false := fun j hj => by
  rw [rowN_length] at hj
  obtain ⟨z, hz⟩ := h.cells (0 + p.length * 1 + j) (by omega)
  exact ⟨by rw [hz]; rfl, h.free _ (by omega)⟩
theorem ok_len {n m : Nat} {x : List Nat} (h : okList n m x = true) : m ≤ n := by
  have := (diff_zl h).length_le
  rw [zl_length, ok_length h] at this
  exact this
theorem three_other {W : World} {G o : Nat} {x y z u : Value} (h : W.cell? ⟨G, o, none⟩ = some u) : (((W.setCell ⟨G + 1, 0, none⟩ x).setCell ⟨G + 1, 1, none⟩ y).setCell ⟨G + 1, 2, none⟩ z).cell? ⟨G, o, none⟩ = some u :=
  (World.cell?_setCell_other _ _ _ _ (by simp)).trans ((World.cell?_setCell_other _ _ _ _ (by simp)).trans ((World.cell?_setCell_other _ _ _ _ (by simp)).trans h))
section
variable (w : World)
set_option maxHeartbeats 4000000 in
theorem kpart_any (k n e m : Nat) (x : List Nat) (v : Value) (h : VK k n e) (hS : SlS w v (zl x)) (hm : x.length = m) (hx : okList n (k + m) (List.range k ++ x) = true) :
    Calls Try.prog 117 #[.agg #[.int .i64 k, .int .i64 n, .int .u32 e], v] w fun r w' => r = .returned (.agg #[.int .i64 k, .int .i64 ((k + m : Nat) : Int), .int .u32 (onL e (List.range k ++ x) : Nat)]) ∧ Below w.heap.size w w' := by
  obtain ⟨he, hn5, hk3, hkn⟩ := h.nums
  have hroom := ok_len hx
  obtain ⟨i0, hi, hz0, hz1, hz2⟩ := info_parts info_i64
  obtain ⟨_, ad, cap, hv⟩ := id hS
  rw [zl_length, hm] at hv
  have hOn := Lib.hid (fun W u (hs : See (List.range k ++ x) u W) => ionL_any W u (List.range k ++ x) n (k + m) e hs hn5 (by omega) hx)
  obtain ⟨wb, hwb⟩ : ∃ wb, wb = (w.alloc (.cells #[.int .i64 k, .int .i64 n, .int .u32 e] 34)).alloc (.cells #[.int .i64 0, .int .i64 0, .int .u32 0] 34) := ⟨_, rfl⟩
  have s1 : ∀ (W : World) (o : Obj), (W.alloc o).heap.size = W.heap.size + 1 := fun W o => by simp
  have hbz : wb.heap.size = w.heap.size + 2 := by rw [hwb, s1, s1]
  have hF : FC wb w.heap.size k n e := by rw [hwb]; exact (FC.made w k n e _).below ((Below.refl _ _).alloc (Nat.le_refl _) _)
  have hR : FC wb (w.heap.size + 1) 0 0 0 := by
    have := FC.made (w.alloc (.cells #[.int .i64 k, .int .i64 n, .int .u32 e] 34)) 0 0 0 34
    rw [s1, ← hwb] at this
    exact this
  have hfz : ∀ i, wb.frozen? ⟨w.heap.size + 1, i, none⟩ = false := fun i => by rw [hwb, fNew _ _ _ _ _ (by rw [s1])]
  have hB0 : Below w.heap.size w wb := by rw [hwb]; (repeat (first | exact Below.refl _ _ | assumption | refine bchain (by assumption) ?_ | refine balloc ?_ _ | apply Below.drew | apply below_drewN | (refine Below.alloc ?_ (by (try simp) <;> omega) _) | (refine Below.setCell ?_ (by (try simp) <;> omega) _)))
  have hsrc : ∀ W, Below wb.heap.size wb W → ∀ q u, (rowN x)[q]? = some u → W.cell? (ad.add q) = some u := fun W hW => ((hS.below hB0).below hW).src hv
  obtain ⟨y, hy⟩ : ∃ y, onL e (List.range k ++ x) = y := ⟨_, rfl⟩
  rw [hy] at hOn ⊢
  subst hv
  have hrl : (rowN x).length = m * 1 := by rw [rowN_length, hm]; omega
  have h1c : ∀ u ∈ rowN x, u.oneCell' = true := fun u hu => by unfold rowN at hu; rw [List.mem_map] at hu; obtain ⟨_, _, rfl⟩ := hu; rfl
  have hap : ∀ W3 B, wb.heap.size ≤ B → Below wb.heap.size wb W3 → LMem W3 B n (List.range k) → (∀ j, j < (rowN x).length → (W3.cell? ⟨B, 0 + k * 1 + j, none⟩).isSome = true ∧ W3.frozen? ⟨B, 0 + k * 1 + j, none⟩ = false) ∧
      See (List.range k ++ x) (.slice (some ⟨B, 0, none⟩) (k + m) n) (W3.setCells B k (rowN x)) ∧ Below wb.heap.size wb (W3.setCells B k (rowN x)) := fun W3 B hB hb hM => by
    have hl : (List.range k).length = k := List.length_range
    have h1 := hM.spare (x := x) (by rw [hl]; omega)
    have h2 := (hM.setCells x (by rw [hl]; omega)).sl (by omega)
    rw [hl] at h1 h2
    rw [List.length_append, hl, hm] at h2
    exact ⟨h1, h2, setCells_below hb hB _ _⟩
  replace hap := Lib.hid hap
  replace hsrc := Lib.hid hsrc
  replace hrl := Lib.hid hrl
  replace h1c := Lib.hid h1c
  replace hi := Lib.hid hi
  replace hz1 := Lib.hid hz1
  replace hwb := Lib.hid hwb
  obtain ⟨f0, f1, f2, f3⟩ := hF
  obtain ⟨r0, r1, r2, r3⟩ := hR
  clear hz0 hz2 hx hy hm hS s1 h
  obtain ⟨X, hX⟩ : ∃ X, X = rowN x := ⟨_, rfl⟩
  rw [← hX] at hap hsrc hrl h1c
  clear hX
  rw [show ((k + m : Nat) : Int) = (k : Int) + (m : Int) from Int.natCast_add k m]
  go_enter Try.func117, Try.ntmps117
  go_wp2_with fail
  rw [← hwb.out]
  go_region_held3 (fun A => A.cell? ⟨w.heap.size, 0, none⟩ = some (.int .i64 k) ∧ A.cell? ⟨w.heap.size, 1, none⟩ = some (.int .i64 n) ∧ A.cell? ⟨w.heap.size, 2, none⟩ = some (.int .u32 e))
    (first | exact ⟨three_other v0, three_other v1, three_other v2⟩ | exact ⟨old_cell f0 f1 (by (repeat (first | exact Below.refl _ _ | assumption | refine bchain (by assumption) ?_ | refine balloc ?_ _ | apply Below.drew | apply below_drewN | (refine Below.alloc ?_ (by (try simp) <;> omega) _) | (refine Below.setCell ?_ (by (try simp) <;> omega) _)))), old_cell f0 f2 (by (repeat (first | exact Below.refl _ _ | assumption | refine bchain (by assumption) ?_ | refine balloc ?_ _ | apply Below.drew | apply below_drewN | (refine Below.alloc ?_ (by (try simp) <;> omega) _) | (refine Below.setCell ?_ (by (try simp) <;> omega) _)))), old_cell f0 f3 (by (repeat (first | exact Below.refl _ _ | assumption | refine bchain (by assumption) ?_ | refine balloc ?_ _ | apply Below.drew | apply below_drewN | (refine Below.alloc ?_ (by (try simp) <;> omega) _) | (refine Below.setCell ?_ (by (try simp) <;> omega) _))))⟩)
    (first
    | (go_at_call 146; refine (labels_any _ k n e hkn hn5).mono ?_; rintro r3 w3 ⟨B, rfl, hB3, hM3, hb3⟩; have hbb : Below wb.heap.size wb w3 := (by (repeat (first | exact Below.refl _ _ | assumption | refine bchain (by assumption) ?_ | refine balloc ?_ _ | apply Below.drew | apply below_drewN | (refine Below.alloc ?_ (by (try simp) <;> omega) _) | (refine Below.setCell ?_ (by (try simp) <;> omega) _)))); obtain ⟨hsp, hse, hbx⟩ := hap.out w3 B hB3 hbb hM3; replace hsp := Lib.hid hsp; replace hse := Lib.hid hse; clear hM3 hb3)
    | (refine step_append_room rfl (.tmp 10) (.tmp 11) 82 rfl 2 i0 1 Try.underlying82 hi.out hz1.out B 0 k n (by simp [Act.eval]) ad m cap X (by simp [Act.eval]) hrl.out (hsrc.out w3 hbb) h1c.out hroom hsp.out ?_; simp only [Nat.zero_add, Nat.mul_one])
    | (go_at_call 148; refine (hOn.out _ _ hse.out).mono ?_; rintro r5 w5 ⟨rfl, hb5⟩; have hb55 : Below wb.heap.size wb w5 := hbx.trans (hb5.mono hbx.size); have v0 := old_cell f0 f1 hb55; have v1 := old_cell f0 f2 hb55; have v2 := old_cell f0 f3 hb55; have t0 := old_cell r0 r1 hb55; have t1 := old_cell r0 r2 hb55; have t2 := old_cell r0 r3 hb55; have u0 := ((hb55.frozen (p := ⟨w.heap.size + 1, 0, none⟩) r0).trans (hfz 0)); have u1 := ((hb55.frozen (p := ⟨w.heap.size + 1, 1, none⟩) r0).trans (hfz 1)); have u2 := ((hb55.frozen (p := ⟨w.heap.size + 1, 2, none⟩) r0).trans (hfz 2))))
  all_goals
    have hfc : FC w5 (w.heap.size + 1) 0 0 0 := ⟨Nat.lt_of_lt_of_le r0 hb55.size, t0, t1, t2⟩
    have hbw : Below w.heap.size w w5 := hB0.trans (hb55.mono hB0.size)
    clear hb5 hb55 hbx hbb hB3 f0 f1 f2 f3 r0 r1 r2 r3 hap hsrc hOn
    go_wp2
    have hF := hfc.put (k) ((k : Int) + m) (y)
    have hBB := (((hbw.setCell (p := ⟨w.heap.size + 1, 0, none⟩) (by show w.heap.size ≤ w.heap.size + 1; omega) (.int .i64 (k))).setCell (p := ⟨w.heap.size + 1, 1, none⟩) (by show w.heap.size ≤ w.heap.size + 1; omega) (.int .i64 ((k : Int) + m))).setCell (p := ⟨w.heap.size + 1, 2, none⟩) (by show w.heap.size ≤ w.heap.size + 1; omega) (.int .u32 (y)))
    obtain ⟨WW, hWW⟩ : ∃ WW, WW = (((w5.setCell ⟨w.heap.size + 1, 0, none⟩ (.int .i64 (k))).setCell ⟨w.heap.size + 1, 1, none⟩ (.int .i64 ((k : Int) + m))).setCell ⟨w.heap.size + 1, 2, none⟩ (.int .u32 (y))) := ⟨_, rfl⟩
    rw [← hWW] at hF hBB ⊢
    clear hWW
    obtain ⟨_, hF0, hF1, hF2⟩ := hF
    exact bodyPost_ret (v := .agg #[.int .i64 (k), .int .i64 ((k : Int) + m), .int .u32 (y)]) (by simp [results, Try.results117, go_sem, hF0, hF1, hF2]) rfl ⟨rfl, hBB⟩
end
end Go.Proofs.Ytpobonomdfbanaa
/-
  THE FLAG ON THE LABELS AND SOME OTHER VERTICES: the model's.
-/
namespace Go.Proofs.Ytpobonomdfbanaa
open Go.RowKit Go.Shelf
set_option maxRecDepth 100000

/-- append onto a row of the call's own, as one step of a region that draws -/
theorem step_append_own {P : Program} {ops : Array Oper} {o : Oper} {a : Act} {w : World} {K : Act → World → Prop} {Q : Exit → Act → World → Prop} {E : Prop}
    (hg : o.guard = none) (s x : Operand) (t : TypeId) (hop : o.op = Op.call { callee := Callee.builtin Builtin.append, args := #[s, x], argTypes := #[t, t] })
    (base : Nat) (e : TypeId) (i : TypeInfo) (z : Value) (size bytes : Nat) (h1 : P.underlying t = some (.slice e)) (h2 : P.info? e = some i) (h3 : i.zero = some z) (h4 : i.size = size) (h5 : i.bytes = bytes) (h6 : z.cells.size = size) (h7 : 0 < size)
    (v : Value) (n : Nat) (xs : List Value) (hs : a.eval s = v) (hown : w.ownsRow base e size v n xs)
    (ad : Addr) (m c : Nat) (news : List Value) (hx : a.eval x = .slice (some ad) m c) (hn : news.length = m * size) (hc : ∀ j u, news[j]? = some u → w.cell? (ad.add j) = some u) (h1c : ∀ u ∈ news, u.oneCell' = true)
    (b1 : n + m ≤ maxLen) (b2 : (n + m) * bytes ≤ 140737488355328) (b3 : base ≤ w.heap.size)
    (hK : ∀ v' w', w'.ownsRow base e size v' (n + m) (xs ++ news) → w.grownBy w' v.ownBlock → K (a.put o.dst v') w') :
    if Region.wanted o (yielded ops a.tmps) = true then Oper.wp P o a w K Q else E := by
  have hw : Region.wanted o (yielded ops a.tmps) = true := by simp [Region.wanted, hg]
  rw [if_pos hw]
  obtain ⟨v', w', hrun, r1, r2, _⟩ := run_append_own (P := P) w base t o.type e i z size bytes h1 h2 h3 h4 h5 h6 h7 v n xs hown ad m c news hn hc h1c b1 b2 b3
  unfold Oper.wp
  simp [execOp, hop, resolve, invoke, builtin, hs, hx, hrun, Result.andThen]
  exact hK v' w' r1 r2
/-- numbers, as cells -/
def rowI (ys : List Int) : List Value := ys.map fun z => .int .i64 z
theorem rowI_length (ys : List Int) : (rowI ys).length = ys.length := by simp [rowI]
theorem rowI_zl (x : List Nat) : rowI (zl x) = x.map fun i => .int .i64 ((i : Nat) : Int) := by simp [rowI, zl]
theorem rowI_app (xs ys : List Int) : rowI (xs ++ ys) = rowI xs ++ rowI ys := by simp [rowI]
theorem rowI_get {ys : List Int} {i : Nat} {u : Value} (h : (rowI ys)[i]? = some u) : i < ys.length ∧ u = .int .i64 (ys[i]?.getD 0) := by
  unfold rowI at h
  rw [List.getElem?_map] at h
  cases hx : ys[i]? with
  | none => rw [hx] at h; cases h
  | some v =>
    rw [hx] at h
    injection h with h
    obtain ⟨h1, _⟩ := List.getElem?_eq_some_iff.1 hx
    exact ⟨h1, by rw [← h]; simp⟩
theorem rowI_one (ys : List Int) : ∀ u ∈ rowI ys, u.oneCell' = true := fun u hu => by unfold rowI at hu; rw [List.mem_map] at hu; obtain ⟨_, _, rfl⟩ := hu; rfl
theorem SlS.srcI {w : World} {v : Value} {zs : List Int} {ad : Addr} {l cap : Nat} (hS : SlS w v zs) (hv : v = .slice (some ad) l cap) : ∀ q u, (rowI zs)[q]? = some u → w.cell? (ad.add q) = some u := fun q u hq => by
  obtain ⟨q1, q2⟩ := rowI_get hq
  obtain ⟨a', cap', e1, _, _, e3⟩ := hS.1
  obtain ⟨b, off, rfl, hb, hc⟩ := e3 (by intro c; subst c; simp at q1)
  rw [hv] at e1
  injection e1 with e1 _ _
  injection e1 with e1
  rw [e1, add_none, hc q q1, q2]
theorem row_slI {w : World} {base : Nat} {v : Value} {n : Nat} {ys : List Int} (h : w.ownsRow base 2 1 v n (rowI ys)) (hn : ys.length = n) : SlI w v ys := by
  have hm : maxLen ≤ 9223372036854775807 := by unfold maxLen; omega
  rcases h.2 with ⟨rfl, rfl⟩ | ⟨g, cap, cur, rfl, hg, hh, hnc, hc, hs, hx⟩
  · rw [List.length_eq_zero_iff] at hn
    subst hn
    exact ⟨none, 0, rfl, Nat.zero_le _, by omega, fun c => absurd rfl c⟩
  · refine ⟨some ⟨g, 0, none⟩, cap, by rw [hn], by omega, by omega, fun _ => ⟨g, 0, rfl, (Array.getElem?_eq_some_iff.1 hh).1, fun i hi => ?_⟩⟩
    have h1 : (cur.toList.take (n * 1))[i]? = some (.int .i64 (ys[i]?.getD 0)) := by
      rw [hx]
      simp [rowI, hi]
    rw [List.getElem?_take_of_lt (by omega)] at h1
    rw [Nat.zero_add]
    simpa [World.cell?, hh] using h1

section
variable (w : World)
theorem first_rowI (n : Nat) (hn : n ≤ 5) :
    Calls Try.prog 109 #[.int .i64 n] w fun r w' => (∃ v, r = .returned v ∧ Hid (w'.ownsRow w.heap.size 2 1 v n (rowI (zl (List.range n))))) ∧ Below w.heap.size w w' := by
  rw [rowI_zl]
  exact first_row w n hn
set_option maxHeartbeats 4000000 in
theorem skpart_any (k n e m : Nat) (x : List Nat) (v : Value) (h : VK k n e) (hS : SlS w v (zl x)) (hm : x.length = m) (hx : okList n (k + m) (List.range k ++ x) = true) (hvk : VK k (k + m : Nat) (onL e (List.range k ++ x) : Nat)) :
    Calls Try.prog 55 #[.agg #[.int .i64 k, .int .i64 n, .int .u32 e], v] w fun r w' => r = .returned (.agg #[.int .i64 k, .int .i64 ((k + m : Nat) : Int), .int .u32 (leastK (k + m) k (onL e (List.range k ++ x)) : Nat)]) ∧ Below w.heap.size w w' := by
  obtain ⟨he, hn5, hk3, hkn⟩ := h.nums
  have hroom := ok_len hx
  obtain ⟨i0, hi, hz0, hz1, hz2⟩ := info_parts info_i64
  obtain ⟨_, ad, cap, hv⟩ := id hS
  rw [zl_length, hm] at hv
  have hOn := Lib.hid (fun W u (hs : See (List.range k ++ x) u W) => sonL_any W u (List.range k ++ x) n (k + m) e hs hn5 (by omega) hx)
  have hLs := Lib.hid (fun W => sleastK_any W k (k + m) _ hvk)
  have hFr := Lib.hid (fun W => first_rowI W k (by omega))
  obtain ⟨y, hy⟩ : ∃ y, onL e (List.range k ++ x) = y := ⟨_, rfl⟩
  rw [hy] at hOn hLs ⊢
  obtain ⟨z, hz⟩ : ∃ z, leastK (k + m) k y = z := ⟨_, rfl⟩
  rw [hz] at hLs ⊢
  obtain ⟨wb, hwb⟩ : ∃ wb, wb = (w.alloc (.cells #[.int .i64 k, .int .i64 n, .int .u32 e] 34)).alloc (.cells #[.int .i64 0, .int .i64 0, .int .u32 0] 34) := ⟨_, rfl⟩
  have s1 : ∀ (W : World) (o : Obj), (W.alloc o).heap.size = W.heap.size + 1 := fun W o => by simp
  have hbz : wb.heap.size = w.heap.size + 2 := by rw [hwb, s1, s1]
  have hF : FC wb w.heap.size k n e := by rw [hwb]; exact (FC.made w k n e _).below ((Below.refl _ _).alloc (Nat.le_refl _) _)
  have hR : FC wb (w.heap.size + 1) 0 0 0 := by
    have := FC.made (w.alloc (.cells #[.int .i64 k, .int .i64 n, .int .u32 e] 34)) 0 0 0 34
    rw [s1, ← hwb] at this
    exact this
  have hfz : ∀ i, wb.frozen? ⟨w.heap.size + 1, i, none⟩ = false := fun i => by rw [hwb, fNew _ _ _ _ _ (by rw [s1])]
  have hB0 : Below w.heap.size w wb := by rw [hwb]; (repeat (first | exact Below.refl _ _ | assumption | refine bchain (by assumption) ?_ | refine balloc ?_ _ | apply Below.drew | apply below_drewN | (refine Below.alloc ?_ (by (try simp) <;> omega) _) | (refine Below.setCell ?_ (by (try simp) <;> omega) _)))
  have hsrc : ∀ W, Below wb.heap.size wb W → ∀ q u, (rowI (zl x))[q]? = some u → W.cell? (ad.add q) = some u := fun W hW => ((hS.below hB0).below hW).srcI hv
  have hsee : ∀ W u, W.ownsRow wb.heap.size 2 1 u (k + m) (rowI (zl (List.range k)) ++ rowI (zl x)) → See (List.range k ++ x) u W := fun W u hu => by
    rw [← rowI_app, show zl (List.range k) ++ zl x = zl (List.range k ++ x) by simp [zl]] at hu
    exact row_slI hu (by rw [zl_length, List.length_append, hm]; simp)
  have hrl : (rowI (zl x)).length = m * 1 := by rw [rowI_length, zl_length, hm]; omega
  have h1c := rowI_one (zl x)
  obtain ⟨X, hX⟩ : ∃ X, X = rowI (zl x) := ⟨_, rfl⟩
  obtain ⟨X0, hX0⟩ : ∃ X0, X0 = rowI (zl (List.range k)) := ⟨_, rfl⟩
  rw [← hX] at hsrc hrl h1c hsee
  rw [← hX0] at hsee hFr
  subst hv
  replace hsrc := Lib.hid hsrc
  replace hsee := Lib.hid hsee
  replace hrl := Lib.hid hrl
  replace h1c := Lib.hid h1c
  replace hi := Lib.hid hi
  replace hz0 := Lib.hid hz0
  replace hz1 := Lib.hid hz1
  replace hz2 := Lib.hid hz2
  replace hwb := Lib.hid hwb
  obtain ⟨f0, f1, f2, f3⟩ := hF
  obtain ⟨r0, r1, r2, r3⟩ := hR
  clear hx hy hz hm hS s1 h hvk hX hX0
  rw [show ((k + m : Nat) : Int) = (k : Int) + (m : Int) from Int.natCast_add k m] at hOn hLs ⊢
  go_enter Try.func55, Try.ntmps55
  go_wp2_with fail
  rw [← hwb.out]
  refine (hFr.out _).mono ?_
  rintro r3' w3 ⟨⟨u3, rfl, hown3⟩, hb3⟩
  have hge3 := hb3.size
  go_wp2_with (at_builtin; refine wpList_append_own _ rfl _ _ 82 rfl wb.heap.size 2 i0 (.int .i64 0) 1 8 Try.underlying82 hi.out hz0.out hz1.out hz2.out rfl (by decide) _ _ _ rfl hown3.out ad m cap X rfl hrl.out (hsrc.out w3 hb3) h1c.out (by unfold maxLen; omega) (by omega) hge3 ?_; intro v' w4 hown' hgrow _)
  have hb4 : Below wb.heap.size wb w4 := hb3.grown hgrow hge3 (fun q hq => (hown3.out.lt q hq).1)
  have hse := Lib.hid (hsee.out w4 v' hown')
  have d0 := old_cell f0 f1 hb4
  have d1 := old_cell f0 f2 hb4
  have d2 := old_cell f0 f3 hb4
  have dl : w.heap.size < w4.heap.size := Nat.lt_of_lt_of_le f0 hb4.size
  have dl2 : w.heap.size + 1 < w4.heap.size := Nat.lt_of_lt_of_le r0 hb4.size
  have dr0 := old_cell r0 r1 hb4
  have dr1 := old_cell r0 r2 hb4
  have dr2 := old_cell r0 r3 hb4
  have df : ∀ i, w4.frozen? ⟨w.heap.size + 1, i, none⟩ = false := fun i => (hb4.frozen (p := ⟨w.heap.size + 1, i, none⟩) r0).trans (hfz i)
  have hB4 : Below w.heap.size w w4 := hB0.trans (hb4.mono hB0.size)
  replace df := Lib.hid df
  clear hown' hgrow hown3 hb3 hb4 f0 f1 f2 f3 r0 r1 r2 r3 hsrc hfz hFr hsee hge3 hB0
  go_wp2_with fail
  go_region_held3 (fun A => A.cell? ⟨w.heap.size, 0, none⟩ = some (.int .i64 k) ∧ A.cell? ⟨w.heap.size, 1, none⟩ = some (.int .i64 n) ∧ A.cell? ⟨w.heap.size, 2, none⟩ = some (.int .u32 e))
    (first | exact ⟨three_other v0, three_other v1, three_other v2⟩ | exact ⟨old_cell dl d0 (by (repeat (first | exact Below.refl _ _ | assumption | refine bchain (by assumption) ?_ | refine balloc ?_ _ | apply Below.drew | apply below_drewN | (refine Below.alloc ?_ (by (try simp) <;> omega) _) | (refine Below.setCell ?_ (by (try simp) <;> omega) _)))), old_cell dl d1 (by (repeat (first | exact Below.refl _ _ | assumption | refine bchain (by assumption) ?_ | refine balloc ?_ _ | apply Below.drew | apply below_drewN | (refine Below.alloc ?_ (by (try simp) <;> omega) _) | (refine Below.setCell ?_ (by (try simp) <;> omega) _)))), old_cell dl d2 (by (repeat (first | exact Below.refl _ _ | assumption | refine bchain (by assumption) ?_ | refine balloc ?_ _ | apply Below.drew | apply below_drewN | (refine Below.alloc ?_ (by (try simp) <;> omega) _) | (refine Below.setCell ?_ (by (try simp) <;> omega) _))))⟩)
    (first
    | (go_at_call 108; refine (hOn.out _ _ (See.below _ _ _ _ hse.out (by (repeat (first | exact Below.refl _ _ | assumption | refine bchain (by assumption) ?_ | refine balloc ?_ _ | apply Below.drew | apply below_drewN | (refine Below.alloc ?_ (by (try simp) <;> omega) _) | (refine Below.setCell ?_ (by (try simp) <;> omega) _)))))).mono ?_; rintro r5 w5 ⟨rfl, hb5⟩)
    | (go_at_call 54; refine (hLs.out _).mono ?_; rintro r6 w6 ⟨rfl, hb6⟩; have hb66 : Below w4.heap.size w4 w6 := (by (repeat (first | exact Below.refl _ _ | assumption | refine bchain (by assumption) ?_ | refine balloc ?_ _ | apply Below.drew | apply below_drewN | (refine Below.alloc ?_ (by (try simp) <;> omega) _) | (refine Below.setCell ?_ (by (try simp) <;> omega) _)))); have v0 := old_cell dl d0 hb66; have v1 := old_cell dl d1 hb66; have v2 := old_cell dl d2 hb66; have t0 := old_cell dl2 dr0 hb66; have t1 := old_cell dl2 dr1 hb66; have t2 := old_cell dl2 dr2 hb66; have u0 := ((hb66.frozen (p := ⟨w.heap.size + 1, 0, none⟩) dl2).trans (df.out 0)); have u1 := ((hb66.frozen (p := ⟨w.heap.size + 1, 1, none⟩) dl2).trans (df.out 1)); have u2 := ((hb66.frozen (p := ⟨w.heap.size + 1, 2, none⟩) dl2).trans (df.out 2))))
  all_goals
    have hfc : FC w6 (w.heap.size + 1) 0 0 0 := ⟨Nat.lt_of_lt_of_le dl2 hb66.size, t0, t1, t2⟩
    have hbw : Below w.heap.size w w6 := hB4.trans (hb66.mono hB4.size)
    clear hb5 hb6 hb66 d0 d1 d2 dr0 dr1 dr2 dl dl2 hOn hLs
    go_wp2
    have hF := hfc.put (k) ((k : Int) + m) (z)
    have hBB := (((hbw.setCell (p := ⟨w.heap.size + 1, 0, none⟩) (by show w.heap.size ≤ w.heap.size + 1; omega) (.int .i64 (k))).setCell (p := ⟨w.heap.size + 1, 1, none⟩) (by show w.heap.size ≤ w.heap.size + 1; omega) (.int .i64 ((k : Int) + m))).setCell (p := ⟨w.heap.size + 1, 2, none⟩) (by show w.heap.size ≤ w.heap.size + 1; omega) (.int .u32 (z)))
    obtain ⟨WW, hWW⟩ : ∃ WW, WW = (((w6.setCell ⟨w.heap.size + 1, 0, none⟩ (.int .i64 (k))).setCell ⟨w.heap.size + 1, 1, none⟩ (.int .i64 ((k : Int) + m))).setCell ⟨w.heap.size + 1, 2, none⟩ (.int .u32 (z))) := ⟨_, rfl⟩
    rw [← hWW] at hF hBB ⊢
    clear hWW
    obtain ⟨_, hF0, hF1, hF2⟩ := hF
    exact bodyPost_ret (v := .agg #[.int .i64 (k), .int .i64 ((k : Int) + m), .int .u32 (z)]) (by simp [results, Try.results55, go_sem, hF0, hF1, hF2]) rfl ⟨rfl, hBB⟩
end
end Go.Proofs.Ytpobonomdfbanaa
/-
  A flag on its labelled vertices alone (the list of the others is nil): the program's contract.
-/
namespace Go.Proofs.Ytpobonomdfbanaa
open Go.RowKit Go.Shelf
set_option maxRecDepth 100000

theorem step_append_nothing {P : Program} {ops : Array Oper} {o : Oper} {a : Act} {w : World} {K : Act → World → Prop} {Q : Exit → Act → World → Prop} {E : Prop}
    (hg : o.guard = none) (s x : Operand) (t : TypeId) (hop : o.op = Op.call { callee := Callee.builtin Builtin.append, args := #[s, x], argTypes := #[t, t] })
    (e : TypeId) (i : TypeInfo) (h1 : P.underlying t = some (.slice e)) (h2 : P.info? e = some i)
    (b off n cap : Nat) (hle : n ≤ cap) (hs : a.eval s = .slice (some ⟨b, off, none⟩) n cap) (hx : a.eval x = .slice none 0 0)
    (hK : K (a.put o.dst (.slice (some ⟨b, off, none⟩) n cap)) w) :
    if Region.wanted o (yielded ops a.tmps) = true then Oper.wp P o a w K Q else E := by
  have hw : Region.wanted o (yielded ops a.tmps) = true := by simp [Region.wanted, hg]
  rw [if_pos hw]
  have hrun := run_append_nothing (P := P) w t t o.type e i h1 h2 (some ⟨b, off, none⟩) n cap hle (.slice none 0 0) (Src.ofNil _ h1 0)
  unfold Oper.wp
  simp [execOp, hop, resolve, invoke, builtin, hs, hx, hrun, Result.andThen]
  exact hK
section
variable (w : World)
set_option maxHeartbeats 4000000 in
theorem kpart_nil (k n e : Nat) (h : VK k n e) :
    Calls Try.prog 117 #[.agg #[.int .i64 k, .int .i64 n, .int .u32 e], .slice none 0 0] w fun r w' => r = .returned (.agg #[.int .i64 k, .int .i64 k, .int .u32 (onL e (List.range k) : Nat)]) ∧ Below w.heap.size w w' := by
  obtain ⟨he, hn5, hk3, hkn⟩ := h.nums
  obtain ⟨i0, hi, hz0, hz1, hz2⟩ := info_parts info_i64
  have hx : okList n k (List.range k) = true := range_ok hkn
  have hOn := Lib.hid (fun W u (hs : See (List.range k) u W) => ionL_any W u (List.range k) n k e hs hn5 (by omega) hx)
  obtain ⟨wb, hwb⟩ : ∃ wb, wb = (w.alloc (.cells #[.int .i64 k, .int .i64 n, .int .u32 e] 34)).alloc (.cells #[.int .i64 0, .int .i64 0, .int .u32 0] 34) := ⟨_, rfl⟩
  have s1 : ∀ (W : World) (o : Obj), (W.alloc o).heap.size = W.heap.size + 1 := fun W o => by simp
  have hbz : wb.heap.size = w.heap.size + 2 := by rw [hwb, s1, s1]
  have hF : FC wb w.heap.size k n e := by rw [hwb]; exact (FC.made w k n e _).below ((Below.refl _ _).alloc (Nat.le_refl _) _)
  have hR : FC wb (w.heap.size + 1) 0 0 0 := by
    have := FC.made (w.alloc (.cells #[.int .i64 k, .int .i64 n, .int .u32 e] 34)) 0 0 0 34
    rw [s1, ← hwb] at this
    exact this
  have hfz : ∀ i, wb.frozen? ⟨w.heap.size + 1, i, none⟩ = false := fun i => by rw [hwb, fNew _ _ _ _ _ (by rw [s1])]
  have hB0 : Below w.heap.size w wb := by rw [hwb]; (repeat (first | exact Below.refl _ _ | assumption | refine bchain (by assumption) ?_ | refine balloc ?_ _ | apply Below.drew | apply below_drewN | (refine Below.alloc ?_ (by (try simp) <;> omega) _) | (refine Below.setCell ?_ (by (try simp) <;> omega) _)))
  obtain ⟨y, hy⟩ : ∃ y, onL e (List.range k) = y := ⟨_, rfl⟩
  rw [hy] at hOn ⊢
  have hap := Lib.hid (fun W3 B (hM : LMem W3 B n (List.range k)) => (show See (List.range k) (.slice (some ⟨B, 0, none⟩) k n) W3 from by
    have h2 := hM.sl (by omega)
    rw [List.length_range] at h2
    exact h2))
  replace hi := Lib.hid hi
  replace hz1 := Lib.hid hz1
  replace hwb := Lib.hid hwb
  obtain ⟨f0, f1, f2, f3⟩ := hF
  obtain ⟨r0, r1, r2, r3⟩ := hR
  clear hz0 hz2 hx hy s1 h
  go_enter Try.func117, Try.ntmps117
  go_wp2_with fail
  rw [← hwb.out]
  go_region_held3 (fun A => A.cell? ⟨w.heap.size, 0, none⟩ = some (.int .i64 k) ∧ A.cell? ⟨w.heap.size, 1, none⟩ = some (.int .i64 n) ∧ A.cell? ⟨w.heap.size, 2, none⟩ = some (.int .u32 e))
    (first | exact ⟨three_other v0, three_other v1, three_other v2⟩ | exact ⟨old_cell f0 f1 (by (repeat (first | exact Below.refl _ _ | assumption | refine bchain (by assumption) ?_ | refine balloc ?_ _ | apply Below.drew | apply below_drewN | (refine Below.alloc ?_ (by (try simp) <;> omega) _) | (refine Below.setCell ?_ (by (try simp) <;> omega) _)))), old_cell f0 f2 (by (repeat (first | exact Below.refl _ _ | assumption | refine bchain (by assumption) ?_ | refine balloc ?_ _ | apply Below.drew | apply below_drewN | (refine Below.alloc ?_ (by (try simp) <;> omega) _) | (refine Below.setCell ?_ (by (try simp) <;> omega) _)))), old_cell f0 f3 (by (repeat (first | exact Below.refl _ _ | assumption | refine bchain (by assumption) ?_ | refine balloc ?_ _ | apply Below.drew | apply below_drewN | (refine Below.alloc ?_ (by (try simp) <;> omega) _) | (refine Below.setCell ?_ (by (try simp) <;> omega) _))))⟩)
    (first
    | (go_at_call 146; refine (labels_any _ k n e hkn hn5).mono ?_; rintro r3 w3 ⟨B, rfl, hB3, hM3, hb3⟩; have hse := Lib.hid (hap.out w3 B hM3); clear hM3)
    | (refine step_append_nothing rfl (.tmp 10) (.tmp 11) 82 rfl 2 i0 Try.underlying82 hi.out B 0 k n hkn (by simp [Act.eval]) (by simp [Act.eval]) ?_)
    | (go_at_call 148; refine (hOn.out _ _ hse.out).mono ?_; rintro r5 w5 ⟨rfl, hb5⟩; have hb55 : Below wb.heap.size wb w5 := (by (repeat (first | exact Below.refl _ _ | assumption | refine bchain (by assumption) ?_ | refine balloc ?_ _ | apply Below.drew | apply below_drewN | (refine Below.alloc ?_ (by (try simp) <;> omega) _) | (refine Below.setCell ?_ (by (try simp) <;> omega) _)))); have v0 := old_cell f0 f1 hb55; have v1 := old_cell f0 f2 hb55; have v2 := old_cell f0 f3 hb55; have t0 := old_cell r0 r1 hb55; have t1 := old_cell r0 r2 hb55; have t2 := old_cell r0 r3 hb55; have u0 := ((hb55.frozen (p := ⟨w.heap.size + 1, 0, none⟩) r0).trans (hfz 0)); have u1 := ((hb55.frozen (p := ⟨w.heap.size + 1, 1, none⟩) r0).trans (hfz 1)); have u2 := ((hb55.frozen (p := ⟨w.heap.size + 1, 2, none⟩) r0).trans (hfz 2))))
  all_goals
    have hfc : FC w5 (w.heap.size + 1) 0 0 0 := ⟨Nat.lt_of_lt_of_le r0 hb55.size, t0, t1, t2⟩
    have hbw : Below w.heap.size w w5 := hB0.trans (hb55.mono hB0.size)
    clear hb5 hb55 hb3 hB3 f0 f1 f2 f3 r0 r1 r2 r3 hap hOn
    go_wp2
    have hF := hfc.put (k) (k) (y)
    have hBB := (((hbw.setCell (p := ⟨w.heap.size + 1, 0, none⟩) (by show w.heap.size ≤ w.heap.size + 1; omega) (.int .i64 (k))).setCell (p := ⟨w.heap.size + 1, 1, none⟩) (by show w.heap.size ≤ w.heap.size + 1; omega) (.int .i64 (k))).setCell (p := ⟨w.heap.size + 1, 2, none⟩) (by show w.heap.size ≤ w.heap.size + 1; omega) (.int .u32 (y)))
    obtain ⟨WW, hWW⟩ : ∃ WW, WW = (((w5.setCell ⟨w.heap.size + 1, 0, none⟩ (.int .i64 (k))).setCell ⟨w.heap.size + 1, 1, none⟩ (.int .i64 (k))).setCell ⟨w.heap.size + 1, 2, none⟩ (.int .u32 (y))) := ⟨_, rfl⟩
    rw [← hWW] at hF hBB ⊢
    clear hWW
    obtain ⟨_, hF0, hF1, hF2⟩ := hF
    exact bodyPost_ret (v := .agg #[.int .i64 (k), .int .i64 (k), .int .u32 (y)]) (by simp [results, Try.results117, go_sem, hF0, hF1, hF2]) rfl ⟨rfl, hBB⟩
end
end Go.Proofs.Ytpobonomdfbanaa
/-
  A FLAG WITH ITS UNLABELLED VERTICES IN EVERY ORDER: what the program's iterator yields, for loops whose rounds make and change memory.
-/
namespace Go.Proofs.Ytpobonomdfbanaa
open Go.RowKit Go.Shelf
set_option maxRecDepth 100000

/-- what the closure promises the iterator -/
def RoundsO (Y Fb B : Nat) (L : List (List Nat)) (J : List (List Nat) → World → Prop) : Prop :=
  ∀ pre x rest v W1, L = pre ++ x :: rest → J pre W1 → B < W1.heap.size → SlI W1 v (zl x) → Calls Try.prog 147 #[v, .pointer (some ⟨Y, 0, none⟩), .pointer (some ⟨Fb, 0, none⟩)] W1 fun e W' =>
    e = .returned (.bool true) ∧ J (pre ++ [x]) W' ∧ W1.heap.size ≤ W'.heap.size ∧ W'.heap[B]? = W1.heap[B]?

set_option maxHeartbeats 1000000 in
theorem llo_zero (n k B Y Fb : Nat) (hk : k ≤ 5) (L : List (List Nat)) (J : List (List Nat) → World → Prop) (hY : RoundsO Y Fb B L J)
    (p : List Nat) (pre rest : List (List Nat)) (W : World) (hp : p.length = k) (hL : L = pre ++ [p] ++ rest) (h0 : J pre W) (hM : LMem W B k p) :
    Calls Try.prog 145 #[.int .i64 n, .int .i64 k, .slice (some ⟨B, 0, none⟩) k k, .func (.func 147) #[] #[.pointer (some ⟨Y, 0, none⟩), .pointer (some ⟨Fb, 0, none⟩)]] W fun e W' =>
      e = .returned (.bool true) ∧ J (pre ++ [p]) W' ∧ LMem W' B k p := by
  have hR := hY pre p rest _ W (by rw [hL]; simp) h0 hM.lt (hM.sl (by omega))
  rw [hp] at hR
  replace hR := Lib.hid hR
  replace hM := Lib.hid hM
  clear hL h0 hp hY
  go_enter Try.func145, Try.ntmps145
  go_wp2_with (go_at_call 147; refine (hR.out).mono ?_; rintro e w1 ⟨rfl, hJ1, hz1, hu1⟩)
  go_ret
  exact ⟨rfl, hJ1, hM.out.block hz1 hu1⟩

set_option maxHeartbeats 4000000 in
theorem llo_in (n k B Y Fb : Nat) (hn : n ≤ 5) (hk : k ≤ 5) (L : List (List Nat)) (J : List (List Nat) → World → Prop) (hJ : ∀ s A A', J s A → Chg (fun b => b = B) A A' → J s A') (hY : RoundsO Y Fb B L J) (m : Nat) :
    ∀ (p : List Nat) (pl : Nat) (pre rest : List (List Nat)) (W : World), p.length = pl → pl + m = k → L = pre ++ ext n m p ++ rest → J pre W → LMem W B k p →
    Calls Try.prog 145 #[.int .i64 n, .int .i64 k, .slice (some ⟨B, 0, none⟩) pl k, .func (.func 147) #[] #[.pointer (some ⟨Y, 0, none⟩), .pointer (some ⟨Fb, 0, none⟩)]] W fun e W' =>
      e = .returned (.bool true) ∧ J (pre ++ ext n m p) W' ∧ LMem W' B k p := by
  induction m with
  | zero =>
    intro p pl pre rest W hpl hp hL h0 hM
    obtain rfl : pl = k := hp
    exact llo_zero n pl B Y Fb hk L J hY p pre rest W hpl hL h0 hM
  | succ m ih =>
    intro p pl pre rest W hpl hp hL h0 hM
    obtain ⟨i0, hi0, hs0⟩ := info_i64s
    have hlt : pl < k := by omega
    have hne : ((pl : Int) == (k : Int)) = false := by simp; omega
    replace hY := Lib.hid hY
    replace ih := Lib.hid ih
    replace hL := Lib.hid hL
    replace hJ := Lib.hid hJ
    replace hM := Lib.hid hM
    replace h0 := Lib.hid h0
    replace hpl := Lib.hid hpl
    replace hp := Lib.hid hp
    replace hi0 := Lib.hid hi0
    replace hs0 := Lib.hid hs0
    go_enter Try.func145, Try.ntmps145
    go_wp2
    go_loopw [9, 18] (fun _ c wr => ∃ j : Nat, j ≤ n ∧ c = .int .i64 j ∧ J (pre ++ extTo n m p j) wr ∧ LMem wr B k p) (fun _ c _ => n - (intOf c).toNat)
    case atStart => exact ⟨0, by omega, rfl, by rw [extTo_zero, List.append_nil]; exact h0.out, hM.out⟩
    case round =>
      obtain ⟨j, hj, rfl, hJj, hMj⟩ := hrel
      by_cases hlt2 : j < n
      · have hC := contains_any wr _ p j (hMj.sl (by omega)) (by have := hpl.out; omega)
        rw [hpl.out] at hC
        replace hJj := Lib.hid hJj
        have hM0 := Lib.hid hMj
        cases hb : p.contains j
        · rw [hb] at hC
          replace hC := Lib.hid hC
          have hx := Lib.hid (extTo_f (n := n) (m := m) hb)
          obtain ⟨z, hz⟩ := hMj.cells pl hlt
          have hfz := hMj.free pl hlt
          have hBl := hMj.lt
          obtain ⟨t, ht⟩ := extTo_pre (n := n) (m := m) (p := p) (j := j + 1) (by omega)
          have hcall := Lib.hid (fun W2 hJ2 hM2 => ih.out (p ++ [j]) (pl + 1) (pre ++ extTo n m p j) (t ++ rest) W2 (by simp [hpl.out]) (by have := hp.out; omega) (by rw [hL.out, ht, hx.out]; simp [List.append_assoc]) hJ2 hM2)
          have hJ2 := Lib.hid (hJ.out _ _ _ hJj.out (show Chg (fun b => b = B) wr ((wr.setCell ⟨B, pl, none⟩ (.int .i64 (j : Int))).alloc (.cells #[.int .i64 (j : Int)] 2)) from (Chg.setCell (Own := fun b => b = B) wr ⟨B, pl, none⟩ _ rfl).trans (Chg.of_below ((Below.refl _ _).alloc (Nat.le_refl _) _))))
          have hM2 := hM0.out.push (by have := hpl.out; omega) j
          rw [hpl.out] at hM2
          replace hM2 := Lib.hid (hM2.below (balloc (Below.refl _ _) (.cells #[.int .i64 (j : Int)] 2)))
          clear hb hMj ht
          go_wp2_with (first
            | (go_at_call 156; refine (hC.out).mono ?_; rintro r3 w3 ⟨rfl, rfl⟩)
            | (go_at_call 145; refine (hcall.out _ hJ2.out hM2.out).mono ?_; rintro r4 w4 ⟨rfl, hJ4, hM4⟩))
          go_roundw
          case rel => exact ⟨j + 1, by omega, by go_num, by rw [hx.out, ← List.append_assoc]; exact hJ4, hM4.pop⟩
          case measure => simp [intOf]; omega
        · rw [hb] at hC
          replace hC := Lib.hid hC
          have hx := Lib.hid (extTo_t (n := n) (m := m) hb)
          clear hb hMj
          go_wp2_with (go_at_call 156; refine (hC.out).mono ?_; rintro r3 w3 ⟨rfl, rfl⟩)
          go_roundw
          case rel => exact ⟨j + 1, by omega, by go_num, by rw [hx.out]; exact hJj.out, hM0.out⟩
          case measure => simp [intOf]; omega
      · obtain rfl : j = n := by omega
        have hdd := decide_eq_false (show ¬ ((j : Int) < (j : Int)) by omega)
        replace hJj := Lib.hid hJj
        replace hMj := Lib.hid hMj
        go_wp2
        go_ret
        exact ⟨rfl, by rw [← extTo_end]; exact hJj.out, hMj.out⟩


set_option maxHeartbeats 2000000 in
theorem turns_own (k n e : Nat) (h : VK k n e) (nn Fb : Nat) (w : World) (hF : Fb < w.heap.size) :
    SeqOwn Fence.wide nn Try.prog 144 #[.pointer (some ⟨Fb, 0, none⟩)] (fun A => FC A Fb k n e) (SeeK k n e) (turns n k) w := fun l J W hWb hJ hJi hY h0 => by
  obtain ⟨he, hn5, hk3, hkn⟩ := h.nums
  have f1 := hJi _ _ _ (h0 (fun _ => False) W (fun _ h => h.elim) (Below.refl _ _))
  obtain ⟨Y, hYd⟩ : ∃ Y, Y = W.heap.size := ⟨_, rfl⟩
  have hFY : Fb < Y := by have := hWb.size; omega
  refine callsIn_wide.2 ((turn1_any k n e Fb l hkn hn5 W f1 (fun w' => FC w' Fb k n e ∧ ∃ Own : Nat → Prop, (∀ b, Own b → W.heap.size ≤ b) ∧ J Own (turns n k) w') (fun w' hw => hw.1) fun B W3 hB hb hM => ?_).mono fun e w' hw => ⟨hw.1, hw.2.2⟩)
  rw [← hYd] at hB ⊢
  have hz3 : Y < W3.heap.size := by have := hb.size; simp at this; omega
  have hYc : W3.cell? ⟨Y, 0, none⟩ = some (.func (.yield l) #[] #[]) := by
    rw [hb.cell (p := ⟨Y, 0, none⟩) (by show Y < _; simp; omega), hYd, World.cell?_alloc_new]; rfl
  have hWW : Below W.heap.size W W3 := ((Below.refl _ W).alloc (Nat.le_refl _) _).trans (hb.mono (by simp))
  obtain ⟨Own, hOwn⟩ : ∃ Own : Nat → Prop, Own = fun b => b = Y ∨ b = B := ⟨_, rfl⟩
  have hog : ∀ b, Own b → W.heap.size ≤ b := fun b hb => by
    rw [hOwn] at hb
    rcases hb with hb | hb <;> omega
  obtain ⟨J', hJ'd⟩ : ∃ J' : List (List Nat) → World → Prop, J' = fun pre A => J Own pre A ∧ A.cell? ⟨Y, 0, none⟩ = some (.func (.yield l) #[] #[]) ∧ Y < A.heap.size := ⟨_, rfl⟩
  have hJ' : ∀ s A A', J' s A → Chg (fun b => b = B) A A' → J' s A' := by
    subst hJ'd
    rintro s A A' ⟨a1, a2, a3⟩ hc
    exact ⟨hJ Own hog _ _ _ a1 (hc.mono (fun b hb => by rw [hOwn]; exact .inr hb)), (World.cell?_of_block (a := ⟨Y, 0, none⟩) (hc.same Y a3 (by omega))).trans a2, Nat.lt_of_lt_of_le a3 hc.size⟩
  have hR : RoundsO Y Fb B (turns n k) J' := by
    subst hJ'd
    rintro pre x rest v W1 hL ⟨a1, a2, a3⟩ hBl hs
    have hx := turns_ok hn5 hk3 hkn (x := x) (by rw [hL]; simp)
    refine ((callsIn_wide (n := nn)).1 (tt_any W1 nn l Y Fb k n e x v hs hn5 (by omega) hx (hJi _ _ _ a1) a3 a2 (fun b W' => b = true ∧ J Own (pre ++ [x]) W' ∧ W'.cell? ⟨Y, 0, none⟩ = some (.func (.yield l) #[] #[]) ∧ Y < W'.heap.size ∧ W1.heap.size ≤ W'.heap.size ∧ W'.heap[B]? = W1.heap[B]?) ?_)).mono ?_
    · intro m W2 hb2
      have ho2 : ∀ b, Own b → W.heap.size ≤ b ∧ b < W2.heap.size := fun b hb => ⟨hog b hb, by
        have := hb2.size
        rw [hOwn] at hb
        rcases hb with hb | hb <;> omega⟩
      refine anyDepth (yield_mono (hY Own pre x rest _ W2 ho2 hL (hJ Own hog _ _ _ a1 (Chg.of_below hb2)) rfl) ?_)
      rintro e' W' ⟨rfl, hj, hz, hu⟩
      have hz2 : Y < W2.heap.size := Nat.lt_of_lt_of_le a3 hb2.size
      have hc : W2.cell? ⟨Y, 0, none⟩ = some (.func (.yield l) #[] #[]) := (hb2.cell (p := ⟨Y, 0, none⟩) a3).trans a2
      exact ⟨true, rfl, rfl, hj, (World.cell?_of_block (a := ⟨Y, 0, none⟩) (hu Y (by rw [hOwn]; exact .inl rfl))).trans hc, Nat.lt_of_lt_of_le hz2 hz, Nat.le_trans hb2.size hz, (hu B (by rw [hOwn]; exact .inr rfl)).trans (hb2.block _ hBl)⟩
    · rintro e' W' ⟨b, rfl, rfl, h1, h2, h3, h4, h5⟩
      exact ⟨rfl, ⟨h1, h2, h3⟩, h4, h5⟩
  have hj0 : J' [] W3 := by
    subst hJ'd
    exact ⟨h0 Own W3 hog hWW, hYc, hz3⟩
  refine (llo_in n n B Y Fb hn5 hn5 (turns n k) J' hJ' hR (n - k) (List.range k) k [] [] W3 (by simp) (by omega) (by simp [turns]) hj0 hM).mono ?_
  rintro e w' ⟨h1, h2, _⟩
  subst hJ'd
  exact ⟨true, h1, hJi _ _ _ h2.1, Own, fun b hb => by have := hog b hb; omega, h2.1⟩
end Go.Proofs.Ytpobonomdfbanaa
/-
  A SET OF FLAGS, AS A MAP FROM FLAGS TO BOOLS: what the block holds; a flag is looked up; a flag is put in.
-/
namespace Go.Proofs.Ytpobonomdfbanaa
open Go.RowKit
open Go.Maps (Keyed)
open Go.ChangeMaps (setBlock heap_setBlock_same heap_setBlock_other)
set_option maxRecDepth 100000

theorem set_laid : laidOutB Try.prog = true := by kernel_rfl
theorem flag_keyed : Keyed Try.prog 34 := Keyed.of_law (deep_law_laid set_laid (m := 3) (by omega) (of_decide_eq_true (by kernel_rfl)) (by kernel_rfl) (by kernel_rfl))
def flagV (k n e : Nat) : Value := .agg #[.int .i64 k, .int .i64 n, .int .u32 e]
theorem flagV_inj {k n e k' n' e' : Nat} : flagV k n e = flagV k' n' e' ↔ k = k' ∧ n = n' ∧ e = e' := by
  unfold flagV
  simp
  omega
theorem i64_wf (k : Nat) (h : k ≤ 5) : (Lit.int .i64 k).wf = true := by
  simp [Lit.wf, IntKind.min, IntKind.max, IntKind.signed, IntKind.bits]
  omega
theorem u32_wf (k : Nat) (h : k < 4294967296) : (Lit.int .u32 k).wf = true := by
  simp [Lit.wf, IntKind.min, IntKind.max, IntKind.signed, IntKind.bits]
  omega
theorem flag_deep : ∃ d, Try.prog.types.size + 1 = d + 3 := ⟨Try.prog.types.size - 2, by kernel_rfl⟩
theorem flag_keyType : Try.prog.keyType 34 = true := by kernel_rfl
theorem flag_cells : Try.prog.cellsOf 34 = 3 := by kernel_rfl
theorem graph_cells : Try.prog.cellsOf 32 = 2 := by kernel_rfl
theorem i64_cells : Try.prog.cellsOf 2 = 1 := by kernel_rfl
theorem u32_cells : Try.prog.cellsOf 22 = 1 := by kernel_rfl
theorem flag_key (k n e : Nat) (hk : k ≤ 5) (hn : n ≤ 5) (he : e < 4294967296) : ∃ l, keyOf Try.prog 34 (flagV k n e) = some l := by
  obtain ⟨d, hd⟩ := flag_deep
  have w0 := i64_wf k hk
  have w1 := i64_wf n hn
  have w2 := u32_wf e he
  have hf : (flagV k n e).formed Try.prog 34 = true := by simp [Value.formed, flagV, Try.underlying34, flag_cells]
  unfold keyOf
  rw [Try.underlying34]
  simp only [flag_keyType, hf, Bool.and_self, if_true]
  rw [hd]
  simp [flagV, Value.cells, Program.keyLits, Try.underlying34, Try.underlying32, Try.underlying2, Try.underlying22, flag_cells, graph_cells, i64_cells, u32_cells, w0, w1, w2]
  rw [if_pos (by decide)]
  exact ⟨_, rfl⟩

/-- the block B holds the flags with k labels, n vertices and edges in S -/
def FSet (W : World) (B k n : Nat) (S : List Nat) : Prop :=
  k ≤ 5 ∧ n ≤ 5 ∧ (∀ y ∈ S, y < 4294967296) ∧ ∃ es clock, W.heap[B]? = some (.map es clock) ∧ (∀ x ∈ es.toList, x.val = .bool true ∧ ∃ y ∈ S, x.key = flagV k n y) ∧ ∀ y ∈ S, ∃ x ∈ es.toList, x.key = flagV k n y
theorem FSet.of_block {W W' : World} {B k n : Nat} {S : List Nat} (h : FSet W B k n S) (hs : W'.heap[B]? = W.heap[B]?) : FSet W' B k n S := by
  obtain ⟨h1, h2, h3, es, c, h4, h5⟩ := h
  exact ⟨h1, h2, h3, es, c, hs.trans h4, h5⟩
theorem FSet.lt {W : World} {B k n : Nat} {S : List Nat} (h : FSet W B k n S) : B < W.heap.size := by
  obtain ⟨_, _, _, es, c, h4, _⟩ := h
  exact (Array.getElem?_eq_some_iff.1 h4).1
theorem FSet.below {W W' : World} {B k n : Nat} {S : List Nat} (h : FSet W B k n S) (hb : Below W.heap.size W W') : FSet W' B k n S := h.of_block (hb.block _ h.lt)
theorem FSet.under {W W' : World} {B C k n : Nat} {S : List Nat} (h : FSet W B k n S) (hb : Below C W W') (hB : B < C) : FSet W' B k n S := h.of_block (hb.block _ hB)
theorem FSet.made (W : World) (k n : Nat) (hk : k ≤ 5) (hn : n ≤ 5) : FSet (W.alloc (.map #[] 0)) W.heap.size k n [] :=
  ⟨hk, hn, fun y hy => (by cases hy), #[], 0, (MapKept.heap_alloc W _).1, by simp, by simp⟩
/-- is a flag in the set -/
def inS (k n : Nat) (S : List Nat) (k' n' y : Nat) : Bool := decide (k' = k) && decide (n' = n) && decide (y ∈ S)
theorem FSet.keys {es : Array MapEntry} {k n : Nat} {S : List Nat} (hk : k ≤ 5) (hn : n ≤ 5) (hS : ∀ y ∈ S, y < 4294967296) (h : ∀ x ∈ es.toList, x.val = .bool true ∧ ∃ y ∈ S, x.key = flagV k n y) :
    ∀ x ∈ es.toList, ∃ l, keyOf Try.prog 34 x.key = some l := fun x hx => by
  obtain ⟨_, y, hy, e⟩ := h x hx
  rw [e]
  exact flag_key k n y hk hn (hS y hy)
theorem zero_bool (w : World) : (zeroValue 4).run Try.prog w = .ok (.bool false) w := by kernel_rfl
theorem FSet.look {W : World} {B k n : Nat} {S : List Nat} (h : FSet W B k n S) (k' n' y : Nat) (hk : k' ≤ 5) (hn : n' ≤ 5) (hy : y < 4294967296) :
    (Instr.lookup 84 (.map (some B)) (flagV k' n' y) false).run Try.prog W = .ok (.bool (inS k n S k' n' y)) W := by
  obtain ⟨a1, a2, a3, es, c, hb, h5, h6⟩ := h
  obtain ⟨l, hl⟩ := flag_key k' n' y hk hn hy
  rcases flag_keyed.find W hl es.toList (FSet.keys a1 a2 a3 h5) with ⟨h1, h2⟩ | ⟨j, e0, h1, h2, h3⟩
  · have hf : inS k n S k' n' y = false := by
      unfold inS
      rw [Bool.eq_false_iff]
      intro c
      simp only [Bool.and_eq_true, decide_eq_true_eq] at c
      obtain ⟨⟨rfl, rfl⟩, c3⟩ := c
      obtain ⟨x, hx, he⟩ := h6 y c3
      exact h2 x hx he
    rw [hf]
    simp [Instr.lookup, run_underlying Try.underlying84, MapKept.run_getObj_map hb, flag_keyed.check W _ hl, h1, Result.andThen]
  · obtain ⟨h7, y', hy', he⟩ := h5 e0 (List.mem_of_getElem? h2)
    rw [h3, flagV_inj] at he
    obtain ⟨rfl, rfl, rfl⟩ := he
    have ht : inS k' n' S k' n' y = true := by simp [inS, hy']
    rw [ht]
    simp [Instr.lookup, run_underlying Try.underlying84, MapKept.run_getObj_map hb, flag_keyed.check W _ hl, h1, h7, Result.andThen]
theorem FSet.store {W : World} {B k n : Nat} {S : List Nat} (h : FSet W B k n S) (y : Nat) (hy : y < 4294967296) :
    ∃ w', (Instr.mapUpdate 84 (.map (some B)) (flagV k n y) (.bool true)).run Try.prog W = .ok () w' ∧ FSet w' B k n (S ++ [y]) ∧ W.grownBy w' (some B) := by
  obtain ⟨a1, a2, a3, es, c, hb, h5, h6⟩ := h
  obtain ⟨l, hl⟩ := flag_key k n y a1 a2 hy
  have hS' : ∀ z ∈ S ++ [y], z < 4294967296 := fun z hz => by
    rcases List.mem_append.1 hz with h | h
    · exact a3 z h
    · simp at h; omega
  have hg : ∀ o, W.grownBy (setBlock W B o) (some B) := fun o => ⟨rfl, rfl, rfl, by simp [setBlock], fun i _ hi => heap_setBlock_other hb _ (fun e => hi (by rw [e]))⟩
  rcases flag_keyed.find W hl es.toList (FSet.keys a1 a2 a3 h5) with ⟨h1, h2⟩ | ⟨j, e0, h1, h2, h3⟩
  · refine ⟨setBlock W B (.map (es.push ⟨flagV k n y, .bool true, c⟩) (c + 1)), ?_, ⟨a1, a2, hS', _, _, heap_setBlock_same hb _, ?_, ?_⟩, hg _⟩
    · simp [Instr.mapUpdate, run_underlying Try.underlying84, MapKept.run_getObj_map hb, flag_keyed.check W _ hl, h1, MapKept.run_setObj_map _ hb, Result.andThen, setBlock]
    · intro x hx
      simp only [Array.toList_push, List.mem_append, List.mem_singleton] at hx
      rcases hx with hx | rfl
      · obtain ⟨b1, z, b2, b3⟩ := h5 x hx
        exact ⟨b1, z, by simp [b2], b3⟩
      · exact ⟨rfl, y, by simp, rfl⟩
    · intro z hz
      rcases List.mem_append.1 hz with hz | hz
      · obtain ⟨x, b1, b2⟩ := h6 z hz
        exact ⟨x, by simp [b1], b2⟩
      · simp at hz
        subst hz
        exact ⟨⟨flagV k n z, .bool true, c⟩, by simp, rfl⟩
  · have hj : es[j]? = some e0 := by simpa using h2
    have hlist : (es.modify j (fun e' => { e' with key := flagV k n y, val := .bool true })).toList = es.toList.set j { e0 with key := flagV k n y, val := .bool true } := by rw [Array.toList_modify, ChangeMaps.modify_eq_set _ _ _ _ h2]
    have hjl : j < es.toList.length := (List.getElem?_eq_some_iff.1 h2).1
    refine ⟨setBlock W B (.map (es.modify j (fun e' => { e' with key := flagV k n y, val := .bool true })) c), ?_, ⟨a1, a2, hS', _, _, heap_setBlock_same hb _, ?_, ?_⟩, hg _⟩
    · simp [Instr.mapUpdate, run_underlying Try.underlying84, MapKept.run_getObj_map hb, flag_keyed.check W _ hl, h1, hj, h3, flag_keyed.stays W hl, MapKept.run_setObj_map _ hb, Result.andThen, setBlock]
    · intro x hx
      rw [hlist] at hx
      rcases List.mem_or_eq_of_mem_set hx with hx | rfl
      · obtain ⟨b1, z, b2, b3⟩ := h5 x hx
        exact ⟨b1, z, by simp [b2], b3⟩
      · exact ⟨rfl, y, by simp, rfl⟩
    · intro z hz
      rw [hlist]
      by_cases hzy : z = y
      · subst hzy
        exact ⟨_, List.mem_set hjl _, rfl⟩
      · have hz' : z ∈ S := by
          rcases List.mem_append.1 hz with h | h
          · exact h
          · simp at h; exact absurd h hzy
        obtain ⟨x, b1, b2⟩ := h6 z hz'
        refine ⟨x, ?_, b2⟩
        obtain ⟨i, hi, he⟩ := List.getElem_of_mem b1
        have hne : j ≠ i := by
          rintro rfl
          have : e0 = x := by
            rw [List.getElem?_eq_getElem hi] at h2
            rw [← he]
            exact (Option.some.inj h2).symm
          rw [← this, h3, flagV_inj] at b2
          exact hzy b2.2.2.symm
        refine List.mem_iff_getElem.2 ⟨i, by simpa using hi, ?_⟩
        rw [List.getElem_set_ne hne, he]

/-! ### at the operations -/
section
variable {F : Fence} {nF : Nat} {w : World} {ops : Array Oper} {rest : List Oper} {o : Oper} {a : Act} {Q : Exit → Act → World → Prop}
theorem wpList_flagLook (hg : o.guard = none) (m x : Operand) (hop : o.op = Op.lookup 84 m x false) (B k n : Nat) (S : List Nat) (hm : a.eval m = .map (some B)) (hS : FSet w B k n S)
    (k' n' y : Nat) (hx : a.eval x = .agg #[.int .i64 k', .int .i64 n', .int .u32 y]) (hk : k' ≤ 5) (hn : n' ≤ 5) (hy : y < 4294967296) (b : Bool) (hb : inS k n S k' n' y = b)
    (hK : wpList Try.prog ops Q rest (a.put o.dst (.bool b)) w) : wpList Try.prog ops Q (o :: rest) a w := by
  subst hb
  refine wpList_plain hg fun K' hK' => ?_
  have hrun := hS.look k' n' y hk hn hy
  unfold flagV at hrun
  unfold Oper.wp
  simp [execOp, hop, hm, hx, hrun, Result.andThen]
  exact hK' _ _ hK
theorem wpListIn_flagLook (hg : o.guard = none) (m x : Operand) (hop : o.op = Op.lookup 84 m x false) (B k n : Nat) (S : List Nat) (hm : a.eval m = .map (some B)) (hS : FSet w B k n S)
    (k' n' y : Nat) (hx : a.eval x = .agg #[.int .i64 k', .int .i64 n', .int .u32 y]) (hk : k' ≤ 5) (hn : n' ≤ 5) (hy : y < 4294967296) (b : Bool) (hb : inS k n S k' n' y = b)
    (hK : wpListIn F nF Try.prog ops Q rest (a.put o.dst (.bool b)) w) : wpListIn F nF Try.prog ops Q (o :: rest) a w := by
  subst hb
  refine wpListIn_plain hg fun K' hK' => ?_
  have hrun := hS.look k' n' y hk hn hy
  unfold flagV at hrun
  unfold Oper.wpIn
  refine ⟨by simp [Oper.about, hop], ?_⟩
  rw [Oper.semAt_plain F _ _ (by rw [hop]; intro c hc'; cases hc')]
  simp [execOp, hop, hm, hx, hrun, Result.andThen]
  exact hK' _ _ hK
theorem wpListIn_flagStore (hg : o.guard = none) (m x v : Operand) (hop : o.op = Op.mapUpdate 84 m x v) (B k n : Nat) (S : List Nat) (hm : a.eval m = .map (some B)) (hS : FSet w B k n S)
    (y : Nat) (hx : a.eval x = .agg #[.int .i64 k, .int .i64 n, .int .u32 y]) (hv : a.eval v = .bool true) (hy : y < 4294967296)
    (hK : ∀ w', FSet w' B k n (S ++ [y]) → w.grownBy w' (some B) → wpListIn F nF Try.prog ops Q rest (a.put o.dst undef) w') : wpListIn F nF Try.prog ops Q (o :: rest) a w := by
  refine wpListIn_plain hg fun K' hK' => ?_
  obtain ⟨w', hrun, r1, r2⟩ := hS.store y hy
  unfold flagV at hrun
  unfold Oper.wpIn
  refine ⟨by simp [Oper.about, hop], ?_⟩
  rw [Oper.semAt_plain F _ _ (by rw [hop]; intro c hc'; cases hc')]
  simp [execOp, hop, hm, hx, hv, hrun, Result.andThen]
  exact hK' _ _ (hK w' r1 r2)
/-- a look-up as one step of a region that draws -/
theorem step_flagLook {K : Act → World → Prop} {E : Prop} (hg : o.guard = none) (m x : Operand) (hop : o.op = Op.lookup 84 m x false) (B k n : Nat) (S : List Nat) (hm : a.eval m = .map (some B)) (hS : FSet w B k n S)
    (k' n' y : Nat) (hx : a.eval x = .agg #[.int .i64 k', .int .i64 n', .int .u32 y]) (hk : k' ≤ 5) (hn : n' ≤ 5) (hy : y < 4294967296) (b : Bool) (hb : inS k n S k' n' y = b)
    (hK : K (a.put o.dst (.bool b)) w) : if Region.wanted o (yielded ops a.tmps) = true then Oper.wp Try.prog o a w K Q else E := by
  subst hb
  have hw : Region.wanted o (yielded ops a.tmps) = true := by simp [Region.wanted, hg]
  rw [if_pos hw]
  have hrun := hS.look k' n' y hk hn hy
  unfold flagV at hrun
  unfold Oper.wp
  simp [execOp, hop, hm, hx, hrun, Result.andThen]
  exact hK
end
end Go.Proofs.Ytpobonomdfbanaa
/-
  KFa, KGr, KOwn2, KeptK, KLf, ForbK, KAf, KAfS, KAfE, in one text.
-/
/-
  THE SET OF ALL FLAGS THAT ARE ALIKE A FLAG: the program's contract.
-/
namespace Go.Proofs.Ytpobonomdfbanaa
open Go.RowKit Go.Shelf
set_option maxRecDepth 100000
attribute [local go_sem] Oper.semAt_some

section
variable (w : World)
set_option maxHeartbeats 4000000 in
theorem fa_any (k n e : Nat) (h : VK k n e) :
    Calls Try.prog 58 #[.agg #[.int .i64 k, .int .i64 n, .int .u32 e]] w fun r w' => (∃ B, r = .returned (.map (some B)) ∧ w.heap.size ≤ B ∧ FSet w' B k n (tE n k e)) ∧ Below w.heap.size w w' := by
  obtain ⟨he, hn5, hk3, hkn⟩ := h.nums
  refine (callsIn_wide (n := 5)).1 ?_
  refine callsIn_of_wp_marks Try.func58 rfl trivial ?_ rfl
  simp only [Try.ntmps58, List.size_toArray, List.length_cons, List.length_nil, Nat.reduceAdd, Nat.reduceSub, Array.replicate_succ, Array.replicate_zero, List.push_toArray, List.append_toArray, List.nil_append, List.cons_append]
  have hmm := @run_makeMap Try.prog
  have hS0 := FSet.made (w.alloc (.cells #[.int .i64 (k : Int), .int .i64 (n : Int), .int .u32 (e : Int)] 34)) k n (by omega) hn5
  replace hS0 := Lib.hid hS0
  gi_wp2_with (refine ⟨trivial, ?_⟩; gi_at_call 113; refine (callsIn_wide.2 (to_any _ k n e)).mono ?_; rintro r1 w1 ⟨B, rfl, hBge, hFB, hb1⟩)
  have s1 : ∀ (W : World) (o : Obj), (W.alloc o).heap.size = W.heap.size + 1 := fun W o => by simp
  have hB1 : Below w.heap.size w w1 := by (repeat (first | exact Below.refl _ _ | assumption | refine bchain (by assumption) ?_ | refine balloc ?_ _ | apply Below.drew | apply below_drewN | (refine Below.alloc ?_ (by (try simp) <;> omega) _) | (refine Below.setCell ?_ (by (try simp) <;> omega) _)))
  obtain ⟨G, hG⟩ : ∃ G, w.heap.size = G := ⟨_, rfl⟩
  have hS1 : FSet w1 (G + 1) k n [] := by
    have h1 := hS0.out
    rw [s1, hG] at h1
    have h2 := h1.below ((Below.refl _ _).alloc (Nat.le_refl _) (.cells #[.map (some (w.heap.size + 1))] 84))
    exact h2.below hb1
  have hc1 : w1.cell? ⟨G + 2, 0, none⟩ = some (.map (some (G + 1))) := by
    rw [hb1.cell (p := ⟨G + 2, 0, none⟩) (by show G + 2 < _; rw [s1, s1, s1]; omega), cNew _ _ _ _ _ (by rw [s1, s1]; omega), hG]
    rfl
  have hz1 : G + 3 ≤ w1.heap.size := by have := hb1.size; rw [s1, s1, s1] at this; omega
  rw [s1, s1, s1] at hBge
  rw [hG] at hB1 hBge ⊢
  have hBl := hFB.lt
  clear hb1 hS0 s1 hmm
  refine wpIn_range_own rfl (by omega) (gf := 144) (lb := #[.pointer (some ⟨B, 0, none⟩)]) rfl trivial (enters_of Try.func144 (by kernel_rfl) rfl)
    (turns_own k n e h 4 B w1 hBl) (Below.refl _ _) rfl (SeeK.below k n e) (SeeK.cellular k n e)
    (fun _ pre W => FSet W (G + 1) k n (pre.map (onL e)) ∧ FC W B k n e ∧ W.cell? ⟨G + 2, 0, none⟩ = some (.map (some (G + 1))) ∧ w1.heap.size ≤ W.heap.size ∧ Below G w W)
    (fun _ s A hs => hs.2.1)
    (fun Own ho s A A' hs hc => by
      obtain ⟨a1, a2, a3, a4, a5⟩ := hs
      have hne : ∀ b, b < w1.heap.size → A'.heap[b]? = A.heap[b]? := fun b hb => hc.same b (by omega) (fun c => by have := ho b c; omega)
      exact ⟨a1.of_block (hne _ (by omega)), a2.block hc.size (hne _ hBl), (World.cell?_of_block (a := ⟨G + 2, 0, none⟩) (hne (G + 2) (by omega))).trans a3, Nat.le_trans a4 hc.size,
        ⟨hc.os.trans a5.os, hc.tape.trans a5.tape, hc.output.trans a5.output, Nat.le_trans a5.size hc.size, fun q hq => (hne q (by omega)).trans (a5.block q hq)⟩⟩)
    (fun Own A ho hA => ⟨hS1.below hA, hFB.below hA, (hA.cell (p := ⟨G + 2, 0, none⟩) (by show G + 2 < _; omega)).trans hc1, hA.size, hB1.trans (hA.mono (by omega))⟩)
    (fun v a' W => ∃ Gb y : Nat, v = .agg #[.int .i64 k, .int .i64 n, .int .u32 y] ∧ FC W Gb k n y ∧ a' = { tmps := #[.agg #[.int .i64 k, .int .i64 n, .int .u32 e], .pointer (some ⟨G, 0, none⟩), .map none, .pointer (some ⟨G + 1 + 1, 0, none⟩), .pointer (some ⟨Gb, 0, none⟩), .map (some (G + 1)), .agg #[.int .i64 k, .int .i64 n, .int .u32 e], .func (.func 144) #[] #[.pointer (some ⟨B, 0, none⟩)], v, undef, undef, undef], defers := [] })
    (fun v a' A l o o' h hl ho => by obtain ⟨Gb, y, h1, h2, h3⟩ := h; exact ⟨Gb, y, h1, FC.cellular Gb k n y A l o o' h2 hl ho, h3⟩) ?assign ?body ?done
  case assign =>
    intro l x v W K hv hK
    obtain rfl : v = _ := hv
    gi_wp2
    exact hK _ _ ((Below.refl _ _).alloc (Nat.le_refl _) _) ⟨W.heap.size, onL e x, rfl, FC.made W k n _ _, rfl⟩
  case body =>
    rintro l Own pre x rest v a' W ho hL ⟨a1, a2, a3, a4, a5⟩ hS ⟨Gb, y, hv, hFG, rfl⟩
    have hx := turns_ok (n := n) (k := k) hn5 hk3 hkn (x := x) (by rw [hL]; simp)
    have hy : onL e x = y := by
      have hS' : v = _ := hS
      rw [hv] at hS'
      simp at hS'
      omega
    have hyl : y < 4294967296 := by
      have := onL_lt e x (by rw [ok_length hx]; exact hn5)
      omega
    have hS2 : FSet W (G + 1) k n (pre.map (onL e)) := a1
    have hmap : pre.map (onL e) ++ [y] = (pre ++ [x]).map (onL e) := by rw [← hy]; simp
    have hfin := Lib.hid (fun (w4 : World) (hS4 : FSet w4 (G + 1) k n (pre.map (onL e) ++ [y])) (hg4 : W.grownBy w4 (some (G + 1))) =>
      (show ownPost Own (fun pre W => FSet W (G + 1) k n (pre.map (onL e)) ∧ FC W B k n e ∧ W.cell? ⟨G + 2, 0, none⟩ = some (.map (some (G + 1))) ∧ w1.heap.size ≤ W.heap.size ∧ Below G w W) (pre ++ [x]) W .normal { tmps := #[], defers := [] } w4 from
        ⟨hg4.size, fun b hb => hg4.block b (ho b hb).2 (by intro c; injection c with c; have := (ho b hb).1; omega), by rw [← hmap]; exact hS4, a2.block hg4.size (hg4.block B a2.lt (by intro c; injection c with c; omega)),
          (World.cell?_of_block (a := ⟨G + 2, 0, none⟩) (hg4.block (G + 2) (by omega) (by intro c; injection c with c; omega))).trans a3, Nat.le_trans a4 hg4.size, a5.grown hg4 (by omega) (fun q hq => by injection hq with hq; omega)⟩))
    obtain ⟨S, hSd⟩ : ∃ S, pre.map (onL e) = S := ⟨_, rfl⟩
    rw [hSd] at hfin hS2
    replace hS2 := Lib.hid hS2
    obtain ⟨g0, g1, g2, g3⟩ := hFG
    clear a1 a2 a5 hS hv hL hmap hSd hy hx hS1 hFB hB1 hc1
    gi_wp2_with (gi_at_mapUpdate; refine wpListIn_flagStore rfl _ _ _ rfl (G + 1) k n S rfl hS2.out y rfl rfl hyl ?_; intro w4 hS4 hg4)
    exact hfin.out w4 hS4 hg4
  case done =>
    rintro D Own W hD ⟨a1, a2, a3, a4, a5⟩ hK hOD
    have hne : ∀ b, b < w1.heap.size → (W.putObj D (.deferred none)).heap[b]? = W.heap[b]? := fun b hb => World.putObj_heap_other (by omega)
    have hS5 := Lib.hid (a1.of_block (hne (G + 1) (by omega)))
    have hB5 := Lib.hid (a5.trans (below_putObj W D (.deferred none) (by omega)))
    clear a1 a2 a5 hS1 hFB hB1 hc1 hne
    gi_wp2
    refine ⟨by simp, .inl ⟨_, _, rfl, run_takeDeferred hK, ?_⟩⟩
    exact ⟨.map (some (G + 1)), by simp [results, Try.results58, go_sem], ⟨G + 1, rfl, by omega, hS5.out⟩, by rw [hG]; exact hB5.out⟩
end
end Go.Proofs.Ytpobonomdfbanaa
/-
  ALL GRAPHS WITH n VERTICES, IN ASCENDING ORDER: what the program's iterator yields.
-/
namespace Go.Proofs.Ytpobonomdfbanaa
open Go.RowKit Go.Shelf
set_option maxRecDepth 100000

theorem eMax_pos : ∀ n, n ≤ 5 → 1 ≤ eMax n := by decide
theorem range_split {M j : Nat} (h : j < M) : ∃ rest, List.range M = List.range j ++ j :: rest := by
  obtain ⟨d, rfl⟩ : ∃ d, M = j + 1 + d := ⟨M - (j + 1), by omega⟩
  exact ⟨(List.range d).map (j + 1 + ·), by rw [List.range_add, List.range_succ, List.append_assoc]; rfl⟩
section
variable (w : World)
end
end Go.Proofs.Ytpobonomdfbanaa
namespace Go.Proofs.Ytpobonomdfbanaa
open Go.RowKit
/-- the contract of such an iterator -/
def SeqOwn2 {α : Type} (F : Fence) (n : Nat) (P : Program) (g : Nat) (lb : Array Value) (Inv : World → Prop) (See : α → Value → World → Prop) (L : List α) (w : World) : Prop :=
  ∀ (l : Nat) (J : (Nat → Prop) → List α → World → Prop) (W : World), Below w.heap.size w W →
    (∀ Own, (∀ b, Own b → W.heap.size ≤ b) → ∀ s A A', J Own s A → Chg Own A A' → J Own s A') → (∀ Own s A, J Own s A → Inv A) →
    (∀ Own Own' s A, (∀ b, Own' b → W.heap.size ≤ b) → (∀ b, Own' b → Own b ∨ A.heap.size ≤ b) → J Own s A → J Own' s A) →
    (∀ Own pre x rest v W1, (∀ b, Own b → W.heap.size ≤ b ∧ b < W1.heap.size) → L = pre ++ x :: rest → J Own pre W1 → See x v W1 → YieldAt F (n - 1) P l #[v] W1 fun e W' =>
      e = .returned (.bool true) ∧ J Own (pre ++ [x]) W' ∧ W1.heap.size ≤ W'.heap.size ∧ ∀ b, Own b → W'.heap[b]? = W1.heap[b]?) →
    (∀ Own A, (∀ b, Own b → W.heap.size ≤ b) → Below W.heap.size W A → J Own [] A) →
    CallsIn F n P g (#[.func (.yield l) #[] #[]] ++ lb) W fun e W' => (∃ v, e = .returned v) ∧ ∃ Own, (∀ b, Own b → W.heap.size ≤ b) ∧ J Own L W'

/-- an iterator that does not need to be told of blocks to come -/
theorem SeqOwn.two {α : Type} {F : Fence} {n : Nat} {P : Program} {g : Nat} {lb : Array Value} {Inv : World → Prop} {See : α → Value → World → Prop} {L : List α} {w : World} (h : SeqOwn F n P g lb Inv See L w) : SeqOwn2 F n P g lb Inv See L w :=
  fun l J W hW hJ hJi _ hY h0 => h l J W hW hJ hJi hY h0
variable {F : Fence} {n : Nat} {P : Program}

/-- the statement -/
theorem wpIn_range_own2 {α : Type} {g : Operand} {ps : Array Tmp} {assign body : Code} {Q : Exit → Act → World → Prop} {a : Act} {w : World}
    (hro : F.round = none) (h1 : 1 ≤ n) {gf : Nat} {lb : Array Value} (hg : a.eval g = .func (.func gf) #[] lb) (hFg : F.fn gf) (eg : ∀ args w, (callFunc gf args).run P w = .ok (.enter gf args) w)
    {Inv : World → Prop} {See : α → Value → World → Prop} {L : List α} {w0 : World} (hseq : SeqOwn2 F (n - 1) P gf lb Inv See L w0) (hb0 : Below w0.heap.size w0 w) (hps : ps.size = 1)
    (hSb : ∀ x v A A', See x v A → Below A.heap.size A A' → See x v A') (hSc : ∀ x v, Cellular (See x v))
    (I : (Nat → Prop) → List α → World → Prop) (hInv : ∀ Own s A, I Own s A → Inv A)
    (hI : ∀ Own, (∀ b, Own b → w.heap.size ≤ b) → ∀ s A A', I Own s A → Chg Own A A' → I Own s A')
    (hIo : ∀ Own Own' s A, (∀ b, Own' b → w.heap.size ≤ b) → (∀ b, Own' b → Own b ∨ A.heap.size ≤ b) → I Own s A → I Own' s A)
    (h0 : ∀ Own A, (∀ b, Own b → w.heap.size ≤ b) → Below w.heap.size w A → I Own [] A)
    (Ax : Value → Act → World → Prop) (hAx : ∀ v a', Cellular (Ax v a'))
    (hassign : ∀ (l : Nat) (x : α) (v : Value) (W : World) (K : Act → World → Prop), See x v W → (∀ a' W', Below W.heap.size W W' → Ax v a' W' → K a' W') →
      assign.wpIn (F.inRound l) (n - 1 - 1) P (Exit.then K (fun _ _ _ => False)) { tmps := (ps.zip #[v]).foldl (fun t (p, v) => t.setIfInBounds p v) a.tmps, defers := [] } W)
    (hbody : ∀ (l : Nat) (Own : Nat → Prop) (pre : List α) (x : α) (rest : List α) (v : Value) (a' : Act) (W : World), (∀ b, Own b → w.heap.size ≤ b ∧ b < W.heap.size) → L = pre ++ x :: rest → I Own pre W → See x v W → Ax v a' W →
      body.wpIn (F.inRound l) (n - 1 - 1) P (ownPost Own (I Own) (pre ++ [x]) W) a' W)
    (hdone : ∀ (D : Nat) (Own : Nat → Prop) (W : World), w.heap.size ≤ D → I Own L W → W.heap[D]? = some (.deferred (some [])) → Own D → Q .normal { a with defers := { target := .collected D, args := #[] } :: a.defers } W) :
    (Code.rangeFunc g ps assign body).wpIn F n P Q a w := by
  refine wpIn_rangeFunc fun fn hfn => ?_
  rw [hro]
  obtain ⟨k, hk⟩ : ∃ k, k = w.heap.size := ⟨_, rfl⟩
  obtain ⟨rec, hrec⟩ : ∃ rec : LoopState → Option Code → Loop, rec = fun st pe => { state := st, pending := pe, fn, tmps := a.tmps, params := ps, assign, body, defers := w.heap.size } := ⟨_, rfl⟩
  obtain ⟨W1, hW1⟩ : ∃ W1, (w.alloc (.deferred (some []))).alloc (.loop (rec .ready none)) = W1 := ⟨_, rfl⟩
  have hz1 : W1.heap.size = k + 2 := by rw [← hW1, hk]; simp
  have hL1 : W1.heap[k + 1]? = some (.loop (rec .ready none)) := by
    rw [← hW1, hk]; have := World.alloc_heap_new (w.alloc (.deferred (some []))) (.loop (rec .ready none)); rwa [World.size_alloc] at this
  have hK1 : W1.heap[k]? = some (.deferred (some [])) := by
    rw [← hW1, hk]; exact (Below.heap_alloc _ _ _ (by simp)).trans (World.alloc_heap_new w _)
  have hB1 : Below w.heap.size w W1 := by rw [← hW1]; exact ((Below.refl _ w).alloc (Nat.le_refl _) _).alloc (by simp) _
  have hb1 : Below w0.heap.size w0 W1 := hb0.trans (hB1.mono hb0.size)
  obtain ⟨Ex, hEx⟩ : ∃ Ex : (Nat → Prop) → Nat → Prop, Ex = fun Own b => Own b ∨ b = k ∨ b = k + 1 := ⟨_, rfl⟩
  have hExg : ∀ Own : Nat → Prop, (∀ b, Own b → W1.heap.size ≤ b) → ∀ b, Ex Own b → w.heap.size ≤ b := fun Own h b hb => by
    rw [hEx] at hb
    rcases hb with hb | hb | hb
    · have := h b hb; omega
    · omega
    · omega
  have hEl : ∀ Own, Ex Own (k + 1) := fun Own => by rw [hEx]; exact .inr (.inr rfl)
  refine ⟨k + 1, [{ target := .collected k, args := #[] }], W1, { target := .fn (.func gf) lb, args := #[.func (.yield (k + 1)) #[] #[]] }, W1, gf, #[.func (.yield (k + 1)) #[] #[]] ++ lb, W1, ?_, ?_, ?_, ?_, fun _ => h1, ?_⟩
  · rw [← hW1, hrec, hk]; exact run_enterLoop_outer _ _ _ _ _
  · simp only [resolve, hg]
    simp [go_sem]
  · intro f' hf'; simp [Target.leads] at hf'; subst hf'; exact hFg
  · simp [invoke, go_sem, eg]
  refine (hseq (k + 1)
    (fun Own pre W => I (Ex Own) pre W ∧ W.heap[k + 1]? = some (.loop (rec .ready none)) ∧ W.heap[k]? = some (.deferred (some []))) W1 hb1
    (fun Own ho s A A' hs hb => ⟨hI _ (hExg Own ho) s A A' hs.1 (hb.mono (fun b hb => by rw [hEx]; exact .inl hb)),
      (hb.same _ (Array.getElem?_eq_some_iff.1 hs.2.1).1 (fun c => by have := ho _ c; omega)).trans hs.2.1, (hb.same _ (Array.getElem?_eq_some_iff.1 hs.2.2).1 (fun c => by have := ho _ c; omega)).trans hs.2.2⟩)
    (fun Own s A hs => hInv _ s A hs.1)
    (fun Own Own' s A ho hs h => ⟨hIo _ _ s A (hExg Own' ho) (fun b hb => by
      rw [hEx] at hb ⊢
      rcases hb with hb | hb
      · rcases hs b hb with h1 | h1
        · exact .inl (.inl h1)
        · exact .inr h1
      · exact .inl (.inr hb)) h.1, h.2⟩)
    ?_ (fun Own A ho hA => ⟨h0 _ _ (hExg Own ho) (hB1.trans (hA.mono (by omega))), (hA.block _ (by omega)).trans hL1, (hA.block _ (by omega)).trans hK1⟩)).mono ?_
  · -- one round
    rintro Own pre x rest v W ho hLx ⟨hi, hl, hd⟩ hsee
    have hlt : k + 1 < W.heap.size := (Array.getElem?_eq_some_iff.1 hl).1
    have hy := run_yield (P := P) (args := #[v]) hl (by rw [hrec]; exact hps.symm)
    rw [hrec] at hy
    have hog := hExg Own (fun b hb => (ho b hb).1)
    have hol : ∀ b, Ex Own b → b < W.heap.size := fun b hb => by
      rw [hEx] at hb
      rcases hb with hb | hb | hb
      · exact (ho b hb).2
      · omega
      · omega
    refine ⟨fn, _, assign, body, hy, roundIn_of_wpIn hfn (hassign _ x v W _ hsee fun a' Wa hba hax => ?_)⟩
    have hla : Wa.heap[k + 1]? = some (.loop (rec .ready none)) := (hba.block _ hlt).trans hl
    have hda : Wa.heap[k]? = some (.deferred (some [])) := (hba.block _ (by omega)).trans hd
    have hlta : k + 1 < Wa.heap.size := Nat.lt_of_lt_of_le hlt hba.size
    refine ⟨_, run_beginRound hla (by rw [hrec]), ?_⟩
    obtain ⟨Wb, hWb⟩ : ∃ Wb, Wb = Wa.putObj (k + 1) (.loop { rec .ready none with state := .busy }) := ⟨_, rfl⟩
    rw [← hWb]
    have hzb : Wb.heap.size = Wa.heap.size := by rw [hWb]; simp [World.putObj]
    have hlb : Wb.heap[k + 1]? = some (.loop { rec .ready none with state := .busy }) := by rw [hWb]; exact World.putObj_heap_same hlta
    have hdb : Wb.heap[k]? = some (.deferred (some [])) := by rw [hWb]; exact (World.putObj_heap_other (by omega)).trans hda
    have hib : I (Ex Own) pre Wb := by rw [hWb]; exact hI _ hog _ _ _ (hI _ hog _ _ _ hi (Chg.of_below hba)) (Chg.putObj _ _ _ (hEl Own))
    have hsb : See x v Wb := by rw [hWb]; exact hSc x v _ _ _ _ (hSb x v _ _ hsee hba) hla rfl
    have hab : Ax v a' Wb := by rw [hWb]; exact hAx v a' _ _ _ _ hax hla rfl
    have hsz := hba.size
    refine wpIn_mono (hbody _ (Ex Own) pre x rest v a' Wb (fun b hb => ⟨hog b hb, by have := hol b hb; omega⟩) hLx hib hsb hab) ?_
    rintro e a3 W3 hp
    cases e with
    | normal =>
      obtain ⟨hz3, hs3, hi3⟩ := hp
      have hl3 := (hs3 _ (hEl Own)).trans hlb
      have hd3 := (hs3 k (by rw [hEx]; exact .inr (.inl rfl))).trans hdb
      have hr := run_endRound (P := P) none hl3
      refine ⟨_, _, hr, rfl, ⟨hI _ hog _ _ _ hi3 (Chg.putObj _ _ _ (hEl Own)), ?_, (World.putObj_heap_other (by omega)).trans hd3⟩, ?_, fun b hb => ?_⟩
      · rw [hrec]
        exact World.putObj_heap_same (Array.getElem?_eq_some_iff.1 hl3).1
      · simp only [World.putObj, Array.size_setIfInBounds]; omega
      · have hb2 := ho b hb
        refine (World.putObj_heap_other (by omega)).trans ((hs3 b (by rw [hEx]; exact .inl hb)).trans ?_)
        rw [hWb]
        exact (World.putObj_heap_other (by omega)).trans (hba.block _ hb2.2)
    | ret => exact hp.elim
    | exit id => exact hp.elim
    | goto t => exact hp.elim
    | panic ch => exact hp.elim
    | outgrown => exact hp.elim
  · -- behind the iterator
    rintro e W2 ⟨⟨v, rfl⟩, Own, ho, hi, hl, hd⟩
    exact ⟨none, _, by have := run_endLoop (P := P) hl (by rw [hrec]; simp); rw [hrec] at this; exact this, hdone k (Ex Own) _ (by omega) (hI _ (hExg Own ho) _ _ _ hi (Chg.putObj _ _ _ (hEl Own))) ((World.putObj_heap_other (by omega)).trans hd) (by rw [hEx]; exact .inr (.inl rfl))⟩
#print axioms wpIn_range_own2
/-- the marks of several loops, one behind the other -/
theorem leaves_marks {fn : Func} {tmps : Array Value} {R : Ending → World → Prop} (T : World → Prop) (base : ∀ W, T W → LeavesInM F n P fn tmps R [] .returning W) :
    ∀ (Ds : List Nat) (W : World), Ds.Nodup → (∀ D ∈ Ds, W.heap[D]? = some (.deferred (some []))) → (∀ D ∈ Ds, ∀ W, T W → T (W.putObj D (.deferred none))) → T W →
      LeavesInM F n P fn tmps R (Ds.map fun D => { target := .collected D, args := #[] }) .returning W := by
  intro Ds
  induction Ds with
  | nil => intro W _ _ _ hT; exact base W hT
  | cons D Ds ih =>
    intro W hn hD hp hT
    rw [List.nodup_cons] at hn
    refine ⟨by simp, .inl ⟨D, _, rfl, run_takeDeferred (hD D (by simp)), ih _ hn.2 (fun D' hD' => ?_) (fun D' hD' => hp D' (by simp [hD'])) (hp D (by simp) W hT)⟩⟩
    rw [World.putObj_heap_other (fun c => hn.1 (by rw [← c]; exact hD'))]
    exact hD D' (by simp [hD'])
end Go.Proofs.Ytpobonomdfbanaa
/-
  THE FLAGS THAT A FUNCTION TAKES, out of those that an iterator yields: the program's 'kept'.
-/
namespace Go.Proofs.Ytpobonomdfbanaa
open Go.RowKit Go.Shelf
set_option maxRecDepth 100000
attribute [local go_sem] Oper.semAt_some

/-- what the values are -/
structure KeptKE (α : Type) where
  a : α → Int
  b : α → Int
  c : α → Int
def KeptKE.val {α : Type} (E : KeptKE α) (x : α) : Value := .agg #[.int .i64 (E.a x), .int .i64 (E.b x), .int .u32 (E.c x)]
/-- .. in a block -/
structure KeptKM (W : World) (B : Nat) (a b c : Int) : Prop where
  lt : B < W.heap.size
  c0 : W.cell? ⟨B, 0, none⟩ = some (.int .i64 a)
  c1 : W.cell? ⟨B, 1, none⟩ = some (.int .i64 b)
  c2 : W.cell? ⟨B, 2, none⟩ = some (.int .u32 c)
theorem KeptKM.block {W W' : World} {B : Nat} {a b c : Int} (h : KeptKM W B a b c) (hz : W.heap.size ≤ W'.heap.size) (hs : W'.heap[B]? = W.heap[B]?) : KeptKM W' B a b c :=
  ⟨Nat.lt_of_lt_of_le h.lt hz, (World.cell?_of_block (a := ⟨B, 0, none⟩) hs).trans h.c0, (World.cell?_of_block (a := ⟨B, 1, none⟩) hs).trans h.c1, (World.cell?_of_block (a := ⟨B, 2, none⟩) hs).trans h.c2⟩
theorem KeptKM.below {W W' : World} {B : Nat} {a b c : Int} (h : KeptKM W B a b c) (hb : Below W.heap.size W W') : KeptKM W' B a b c := h.block hb.size (hb.block _ h.lt)
theorem KeptKM.made (W : World) (a b c : Int) (t : TypeId) : KeptKM (W.alloc (.cells #[.int .i64 (a), .int .i64 (b), .int .u32 (c)] t)) W.heap.size a b c :=
  ⟨by simp, by rw [World.cell?_alloc_new]; rfl, by rw [World.cell?_alloc_new]; rfl, by rw [World.cell?_alloc_new]; rfl⟩
theorem KeptKM.cellular (B : Nat) (a b c : Int) : Cellular (fun W => KeptKM W B a b c) := fun A l o o' h hl ho =>
  ⟨by have := h.lt; simpa [World.putObj] using this, cellular_cell _ _ A l o o' h.c0 hl ho, cellular_cell _ _ A l o o' h.c1 hl ho, cellular_cell _ _ A l o o' h.c2 hl ho⟩
/-- the values that p takes, as cells -/
def KeptKC {α : Type} (E : KeptKE α) (p : α → Bool) (pre : List α) : List Value := (pre.filter p).flatMap fun x => [.int .i64 (E.a x), .int .i64 (E.b x), .int .u32 (E.c x)]
theorem KeptKC_t {α : Type} {E : KeptKE α} {p : α → Bool} {pre : List α} {x : α} (h : p x = true) : KeptKC E p (pre ++ [x]) = KeptKC E p pre ++ [.int .i64 (E.a x), .int .i64 (E.b x), .int .u32 (E.c x)] := by
  simp [KeptKC, List.filter_append, h]
theorem KeptKC_f {α : Type} {E : KeptKE α} {p : α → Bool} {pre : List α} {x : α} (h : p x = false) : KeptKC E p (pre ++ [x]) = KeptKC E p pre := by
  simp [KeptKC, List.filter_append, h]
theorem KeptK_t {α : Type} {p : α → Bool} {pre : List α} {x : α} (h : p x = true) : ((pre ++ [x]).filter p).length = (pre.filter p).length + 1 := by simp [List.filter_append, h]
theorem KeptK_f {α : Type} {p : α → Bool} {pre : List α} {x : α} (h : p x = false) : ((pre ++ [x]).filter p).length = (pre.filter p).length := by simp [List.filter_append, h]
theorem KeptK_len {α : Type} {L pre rest : List α} {x : α} (h : L = pre ++ x :: rest) (hl : L.length ≤ 2000) (p : α → Bool) : (pre.filter p).length ≤ 2000 := by
  rw [h] at hl
  have h2 := List.length_filter_le p pre
  simp at hl
  omega
/-- what the loop of 'kept' keeps -/
structure KeptKI {α : Type} (w : World) (G : Nat) (E : KeptKE α) (p : α → Bool) (fv : Value) (Own : Nat → Prop) (pre : List α) (W : World) : Prop where
  below : Below G w W
  lt : G + 1 < W.heap.size
  f : W.cell? ⟨G, 0, none⟩ = some fv
  fz : W.frozen? ⟨G + 1, 0, none⟩ = false
  l : ∃ u, W.cell? ⟨G + 1, 0, none⟩ = some u ∧ W.ownsRow (G + 2) 34 3 u (pre.filter p).length (KeptKC E p pre) ∧ ∀ b, Value.ownBlock u = some b → ¬ Own b
theorem KeptKI.chg {α : Type} {w : World} {G : Nat} {E : KeptKE α} {p : α → Bool} {fv : Value} {Own : Nat → Prop} (ho : ∀ b, Own b → G + 2 ≤ b) {pre : List α} {A A' : World} (h : KeptKI w G E p fv Own pre A) (hc : Chg Own A A') : KeptKI w G E p fv Own pre A' := by
  have hlt := h.lt
  have h0 := hc.same G (by omega) (fun c => by have := ho _ c; omega)
  have h1 := hc.same (G + 1) hlt (fun c => by have := ho _ c; omega)
  refine ⟨?_, Nat.lt_of_lt_of_le h.lt hc.size, (World.cell?_of_block (a := ⟨G, 0, none⟩) h0).trans h.f, (World.frozen?_of_block (a := ⟨G + 1, 0, none⟩) h1).trans h.fz, ?_⟩
  · exact ⟨hc.os.trans h.below.os, hc.tape.trans h.below.tape, hc.output.trans h.below.output, Nat.le_trans h.below.size hc.size, fun q hq => (hc.same q (by omega) (fun c => by have := ho _ c; omega)).trans (h.below.block q hq)⟩
  · obtain ⟨u, e1, e2, e3⟩ := h.l
    refine ⟨u, (World.cell?_of_block (a := ⟨G + 1, 0, none⟩) h1).trans e1, ⟨e2.1, ?_⟩, e3⟩
    rcases e2.2 with hn | ⟨g, cap, cur, rfl, a1, a2, a3⟩
    · exact .inl hn
    · exact .inr ⟨g, cap, cur, rfl, a1, (hc.same g (Array.getElem?_eq_some_iff.1 a2).1 (e3 g rfl)).trans a2, a3⟩
theorem KeptK_info : (Try.prog.info? 34).map (fun i => (i.zero, i.size, i.bytes)) = some (some (.agg #[.int .i64 0, .int .i64 0, .int .u32 0]), 3, 24) := by kernel_rfl
section
variable (w : World)
set_option maxHeartbeats 4000000 in
theorem KeptK_any {α : Type} (E : KeptKE α) (gf : FuncId) (lb : Array Value) (Inv : World → Prop) (L : List α) (hlen : L.length ≤ 2000) (egf : ∀ args w, (callFunc gf args).run Try.prog w = .ok (.enter gf args) w)
    (hseq : ∀ n W, Below w.heap.size w W → SeqOwn2 Fence.wide n Try.prog gf lb Inv (fun x v _ => v = .agg #[.int .i64 (E.a x), .int .i64 (E.b x), .int .u32 (E.c x)]) L W) (hInv : ∀ A, Below w.heap.size w A → Inv A)
    (PF : FuncId) (caps : Array Value) (eg : ∀ args w, (callFunc PF args).run Try.prog w = .ok (.enter PF args) w) (p : α → Bool)
    (hPF : ∀ W x, x ∈ L → Below w.heap.size w W → Calls Try.prog PF (#[.agg #[.int .i64 (E.a x), .int .i64 (E.b x), .int .u32 (E.c x)]] ++ caps) W fun r w' => r = .returned (.bool (p x)) ∧ Below W.heap.size W w') :
    Calls Try.prog 59 #[.func (.func gf) #[] lb, .func (.func PF) #[] caps] w fun r w' =>
      (∃ u, r = .returned u ∧ w'.ownsRow w.heap.size 34 3 u (L.filter p).length (KeptKC E p L)) ∧ Below w.heap.size w w' := by
  obtain ⟨i0, hi, hz0, hz1, hz2⟩ := info_parts KeptK_info
  replace hi := Lib.hid hi
  replace hz0 := Lib.hid hz0
  replace hz1 := Lib.hid hz1
  replace hz2 := Lib.hid hz2
  replace hInv := Lib.hid hInv
  replace hseq := Lib.hid hseq
  replace hPF := Lib.hid hPF
  replace hlen := Lib.hid hlen
  refine (callsIn_wide (n := 5)).1 ?_
  refine callsIn_of_wp_marks Try.func59 rfl trivial ?_ rfl
  simp only [Try.ntmps59, List.size_toArray, List.length_cons, List.length_nil, Nat.reduceAdd, Nat.reduceSub, Array.replicate_succ, Array.replicate_zero, List.push_toArray, List.append_toArray, List.nil_append, List.cons_append]
  gi_wp2
  obtain ⟨wL, hwL⟩ : ∃ wL, wL = (w.alloc (.cells #[.func (.func PF) #[] caps] 77)).alloc (.cells #[.slice none 0 0] 29) := ⟨_, rfl⟩
  have s1 : ∀ (W : World) (o : Obj), (W.alloc o).heap.size = W.heap.size + 1 := fun W o => by simp
  have hLz : wL.heap.size = w.heap.size + 2 := by rw [hwL, s1, s1]
  have hBL : Below w.heap.size w wL := by rw [hwL]; (repeat (first | exact Below.refl _ _ | assumption | refine bchain (by assumption) ?_ | refine balloc ?_ _ | apply Below.drew | apply below_drewN | (refine Below.alloc ?_ (by (try simp) <;> omega) _) | (refine Below.setCell ?_ (by (try simp) <;> omega) _)))
  have hKI : ∀ Own : Nat → Prop, KeptKI w w.heap.size E p (.func (.func PF) #[] caps) Own [] wL := fun Own => by
    refine ⟨hBL, by omega, ?_, ?_, .slice none 0 0, ?_, ⟨by simp [KeptKC], .inl ⟨rfl, rfl⟩⟩, fun b hb => by cases hb⟩
    · rw [hwL, cOld _ _ _ _ (by rw [s1]; omega), cNew _ _ _ _ _ rfl]; rfl
    · rw [hwL, fNew _ _ _ _ _ (by rw [s1])]
    · rw [hwL, cNew _ _ _ _ _ (by rw [s1])]; rfl
  have hseqL := Lib.hid (hseq.out 4 wL hBL)
  rw [← hwL]
  obtain ⟨G, hG⟩ : ∃ G, w.heap.size = G := ⟨_, rfl⟩
  rw [hG] at hKI hLz hBL ⊢
  clear hwL s1
  refine wpIn_range_own2 rfl (by omega) (gf := gf) (lb := lb) rfl trivial egf
    hseqL.out (Below.refl _ _) rfl (fun _ _ _ _ h _ => h) (fun _ _ _ _ _ _ h _ _ => h)
    (fun Own pre W => KeptKI w G E p (.func (.func PF) #[] caps) Own pre W)
    (fun Own s A hs => hInv.out A (by rw [hG]; exact hs.below))
    (fun Own ho s A A' hs hc => hs.chg (fun b hb => by have := ho b hb; omega) hc)
    (fun Own Own' s A _ ho hs => ⟨hs.below, hs.lt, hs.f, hs.fz, by
      obtain ⟨u, e1, e2, e3⟩ := hs.l
      refine ⟨u, e1, e2, fun b hb c => ?_⟩
      rcases ho b c with h1 | h1
      · exact e3 b hb h1
      · rcases e2.2 with hn | ⟨g, cap, cur, rfl, _, a2, _⟩
        · rw [hn.1] at hb; cases hb
        · injection hb with hb
          have := (Array.getElem?_eq_some_iff.1 a2).1
          have h2 : A.heap.size ≤ g := by rw [show g = b from hb]; exact h1
          omega⟩)
    (fun Own A ho hA => (hKI Own).chg (fun b hb => by have := ho b hb; omega) (Chg.of_below hA))
    (fun v a' W => ∃ (Gb : Nat) (a b c : Int), v = .agg #[.int .i64 (a), .int .i64 (b), .int .u32 (c)] ∧ KeptKM W Gb a b c ∧ a' = { tmps := #[.func (.func gf) #[] lb, .func (.func PF) #[] caps, undef, .pointer (some ⟨G, 0, none⟩), .slice none 0 0, .pointer (some ⟨G + 1, 0, none⟩), .pointer (some ⟨Gb, 0, none⟩), .func (.func gf) #[] lb, v, undef, undef, undef, undef, undef, undef, undef, undef], defers := [] })
    (fun v a' A l o o' h hl ho => by obtain ⟨Gb, a, b, c, h1, h2, h3⟩ := h; exact ⟨Gb, a, b, c, h1, KeptKM.cellular Gb a b c A l o o' h2 hl ho, h3⟩) ?assign ?body ?done
  case assign =>
    intro l x v W K hv hK
    obtain rfl : v = _ := hv
    gi_wp2
    exact hK _ _ ((Below.refl _ _).alloc (Nat.le_refl _) _) ⟨W.heap.size, E.a x, E.b x, E.c x, rfl, KeptKM.made W _ _ _ _, rfl⟩
  case body =>
    clear hKI
    rintro l Own pre x rest v a' W ho hL hI hS ⟨Gb, a, b, c, hv, hFG, rfl⟩
    have hy : E.a x = a ∧ E.b x = b ∧ E.c x = c := by
      have hS' : v = _ := hS
      rw [hv] at hS'
      simp at hS'
      omega
    have hP := Lib.hid (fun W' (hb : Below W.heap.size W W') => hPF.out W' x (by rw [hL]; simp) (by rw [hG]; exact hI.below.trans (hb.mono (by have := hI.lt; omega))))
    have hpl := KeptK_len hL hlen.out p
    obtain ⟨i1, i2, i3, i4, _⟩ := id hI
    obtain ⟨g0, g1, g2, g3⟩ := id hFG
    have hL2 : 2 ≤ wL.heap.size := by omega
    obtain ⟨y0, y1, y2⟩ := hy
    rw [y0, y1, y2] at hP
    cases hb : p x
    · rw [hb] at hP
      have e1 := KeptK_f (pre := pre) hb
      have e2 := KeptKC_f (E := E) (pre := pre) hb
      have hfin : ∀ W3, Below W.heap.size W W3 → W.heap.size ≤ W3.heap.size ∧ (∀ b, Own b → W3.heap[b]? = W.heap[b]?) ∧ KeptKI w G E p (.func (.func PF) #[] caps) Own (pre ++ [x]) W3 := fun W3 h3 => by
        refine ⟨h3.size, fun b hb => h3.block b (ho b hb).2, ?_⟩
        have hc := hI.chg (fun b hb => by have := (ho b hb).1; omega) (Chg.of_below h3)
        obtain ⟨j1, j2, j3, j4, j5⟩ := hc
        exact ⟨j1, j2, j3, j4, by rw [e1, e2]; exact j5⟩
      replace hfin := Lib.hid hfin
      clear hI hFG hL hS hv e1 e2 hb hpl y0 y1 y2
      gi_wp2
      refine ⟨trivial, (CallsIn.inRound l (callsIn_wide.2 (hP.out W (Below.refl _ _)))).mono ?_⟩
      rintro r3 w3 ⟨rfl, hb3⟩
      gi_wp2
      exact hfin.out w3 hb3
    · rw [hb] at hP
      have e1 := KeptK_t (pre := pre) hb
      have e2 := KeptKC_t (E := E) (pre := pre) hb
      rw [y0, y1, y2] at e2
      have hog : ∀ b, Own b → G + 2 ≤ b := fun b hb => by have := (ho b hb).1; omega
      have hnx := fun W3 (h3 : Below W.heap.size W W3) => hI.chg hog (Chg.of_below h3)
      replace hnx := Lib.hid hnx
      replace e1 := Lib.hid e1
      replace e2 := Lib.hid e2
      clear hI hL hS hv hb y0 y1 y2
      gi_wp2
      refine ⟨trivial, (CallsIn.inRound l (callsIn_wide.2 (hP.out W (Below.refl _ _)))).mono ?_⟩
      rintro r3 w3 ⟨rfl, hb3⟩
      obtain ⟨_, k0, k1, k2⟩ := hFG.below hb3
      obtain ⟨j1, j2, j3, j4, u, j5, j6, j7⟩ := hnx.out w3 hb3
      replace j6 := Lib.hid j6
      have hsz3 := hb3.size
      have hnb : ∀ q, q < G + 2 → some q ≠ Value.ownBlock u := fun q hq c => by
        have := (j6.out.lt q c.symm).1
        omega
      replace hnb := Lib.hid hnb
      replace j7 := Lib.hid j7
      clear i1 i3 i4 g0 g1 g2 g3 hFG
      gi_wp2_with (gi_at_builtin; refine wpListIn_append_own_at _ rfl _ _ 29 rfl (G + 2) 34 i0 (.agg #[.int .i64 0, .int .i64 0, .int .u32 0]) 3 24 Try.underlying29 hi.out hz0.out hz1.out hz2.out rfl (by decide) _ _ _ rfl (j6.out.alloc _) ⟨w3.heap.size, 0, none⟩ 1 1 [.int .i64 (a), .int .i64 (b), .int .u32 (c)] rfl rfl (fun q u hq => by match q, hq with
        | 0, hq => simp at hq; subst hq; rw [show (⟨w3.heap.size, 0, none⟩ : Addr).add 0 = ⟨w3.heap.size, 0, none⟩ from rfl, World.cell?_alloc_new]; rfl
        | 1, hq => simp at hq; subst hq; rw [show (⟨w3.heap.size, 0, none⟩ : Addr).add 1 = ⟨w3.heap.size, 1, none⟩ from rfl, World.cell?_alloc_new]; rfl
        | 2, hq => simp at hq; subst hq; rw [show (⟨w3.heap.size, 0, none⟩ : Addr).add 2 = ⟨w3.heap.size, 2, none⟩ from rfl, World.cell?_alloc_new]; rfl
        | q + 3, hq => simp at hq) (fun u hu => by simp at hu; rcases hu with rfl | rfl | rfl <;> rfl) (by unfold maxLen; omega) (by omega) (by simp; omega) ?_; intro v' w4 hown' hgrow _ hat; obtain ⟨g, cap, rfl⟩ := Go.Joins.ownsRow_form hown' (by omega); have c1 := hgrow.cell (a := ⟨G + 1, 0, none⟩) ((cOld _ _ _ _ j2).trans j5) (hnb.out (G + 1) (by omega)); have c2 : w4.frozen? ⟨G + 1, 0, none⟩ = false := (World.frozen?_of_block (a := ⟨G + 1, 0, none⟩) (hgrow.block (G + 1) (by rw [World.size_alloc]; omega) (hnb.out (G + 1) (by omega)))).trans ((fOld _ _ _ _ j2).trans j4))
      have hbg : ∀ q, Value.ownBlock u = some q → G + 2 ≤ q := fun q hq => (j6.out.lt q hq).1
      have hz4 := hgrow.size
      rw [World.size_alloc] at hz4
      refine ⟨by show W.heap.size ≤ (World.setCell _ _ _).heap.size; simp; omega, fun b hb => ?_, ?_⟩
      · obtain ⟨b1, b2⟩ := ho b hb
        refine (Below.heap_setCell _ _ _ _ (by show b ≠ G + 1; omega)).trans ((hgrow.block b (by rw [World.size_alloc]; omega) (fun c => j7.out b c.symm hb)).trans ((Below.heap_alloc _ _ _ (by omega)).trans (hb3.block b b2)))
      · refine ⟨?_, by simp; omega, ?_, by rw [World.frozen?_setCell]; exact c2, _, World.cell?_setCell_same _ _ _ c1, ?_, fun b hb => ?_⟩
        · exact ((j1.alloc (by omega) _).grown hgrow (by rw [World.size_alloc]; omega) (fun q hq => by have := hbg q hq; omega)).setCell (p := ⟨G + 1, 0, none⟩) (by show G ≤ G + 1; omega) _
        · rw [World.cell?_setCell_other _ _ _ _ (by simp)]
          exact hgrow.cell (a := ⟨G, 0, none⟩) ((cOld _ _ _ _ (by omega)).trans j3) (hnb.out G (by omega))
        · rw [e1.out, e2.out]
          exact ownsRow_setCell_below hown' (by show G + 1 < G + 2; omega) _
        · intro hO
          obtain ⟨b1, b2⟩ := ho b hO
          rcases hat with hat | hat
          · exact j7.out b (hat.symm.trans hb) hO
          · rw [hat] at hb
            injection hb with hb
            rw [World.size_alloc] at hb
            omega
  case done =>
    rintro D Own W hD hI hK hOD
    obtain ⟨i1, i2, i3, i4, u, i5, i6, i7⟩ := hI
    have hne : Value.ownBlock u ≠ some D := fun c => i7 D c hOD
    obtain ⟨W5, hW5⟩ : ∃ W5, W5 = W.putObj D (.deferred none) := ⟨_, rfl⟩
    have hrow' : W5.ownsRow (G + 2) 34 3 u (L.filter p).length (KeptKC E p L) := by
      refine ⟨i6.1, ?_⟩
      rcases i6.2 with hn | ⟨g, cap, cur, rfl, a1, a2, a3⟩
      · exact .inl hn
      · refine .inr ⟨g, cap, cur, rfl, a1, ?_, a3⟩
        rw [hW5, World.putObj_heap_other (fun c => hne (by rw [← c]; rfl))]
        exact a2
    have hbe : Below G w W5 := by rw [hW5]; exact i1.trans (below_putObj _ _ _ (by omega))
    replace hrow' := Lib.hid hrow'
    replace hbe := Lib.hid hbe
    clear i6 i7 hne
    gi_wp2
    refine ⟨by simp, .inl ⟨_, _, rfl, run_takeDeferred hK, ?_⟩⟩
    rw [← hW5]
    refine ⟨u, by simp [results, Try.results59, go_sem], ⟨u, rfl, ?_⟩, by rw [hG]; exact hbe.out⟩
    rw [hG]
    exact Go.Joins.ownsRow_le hrow'.out (by omega)
end
end Go.Proofs.Ytpobonomdfbanaa
/-
  THE LEAST FLAGS OF A TYPE: what the program's iterator yields.
-/
namespace Go.Proofs.Ytpobonomdfbanaa
open Go.RowKit Go.Shelf
set_option maxRecDepth 100000
attribute [local go_sem] Oper.semAt_some

/-- the indexes of the least flags -/
def isL (n k t j : Nat) : Bool := leastK n k (kE t k j) == kE t k j
def lfs (n k t : Nat) : List Nat := (List.range (kM k n)).filter (isL n k t)
theorem lfs_split {n k t j : Nat} (h : j < kM k n) (hl : isL n k t j = true) : ∃ rest, lfs n k t = (List.range j).filter (isL n k t) ++ j :: rest := by
  obtain ⟨rest, hr⟩ := range_split h
  exact ⟨rest.filter (isL n k t), by unfold lfs; rw [hr, List.filter_append, List.filter_cons_of_pos hl]⟩
theorem lf_t {n k t j : Nat} (hl : isL n k t j = true) : (List.range (j + 1)).filter (isL n k t) = (List.range j).filter (isL n k t) ++ [j] := by
  rw [List.range_succ, List.filter_append]; simp [hl]
theorem lf_f {n k t j : Nat} (hl : isL n k t j = false) : (List.range (j + 1)).filter (isL n k t) = (List.range j).filter (isL n k t) := by
  rw [List.range_succ, List.filter_append]; simp [hl]
section
variable (w : World)
theorem lfo_any (k t n : Int) :
    Calls Try.prog 60 #[.agg #[.int .i64 k, .int .u32 t], .int .i64 n] w fun r w' => ∃ B, r = .returned (.func (.func 114) #[] #[.pointer (some ⟨B, 0, none⟩), .pointer (some ⟨B + 1, 0, none⟩)]) ∧ w.heap.size ≤ B ∧ B + 1 < w'.heap.size ∧
      w'.cell? ⟨B, 0, none⟩ = some (.int .i64 k) ∧ w'.cell? ⟨B, 1, none⟩ = some (.int .u32 t) ∧ w'.cell? ⟨B + 1, 0, none⟩ = some (.int .i64 n) ∧ Below w.heap.size w w' := by
  have s1 : ∀ (W : World) (o : Obj), (W.alloc o).heap.size = W.heap.size + 1 := fun W o => by simp
  replace s1 := Lib.hid s1
  go_enter Try.func60, Try.ntmps60
  go_wp2
  go_ret
  refine ⟨w.heap.size, rfl, Nat.le_refl _, by rw [s1.out, s1.out]; omega, ?_, ?_, ?_, by (repeat (first | exact Below.refl _ _ | assumption | refine bchain (by assumption) ?_ | refine balloc ?_ _ | apply Below.drew | apply below_drewN | (refine Below.alloc ?_ (by (try simp) <;> omega) _) | (refine Below.setCell ?_ (by (try simp) <;> omega) _)))⟩
  · rw [cOld _ _ _ _ (by rw [s1.out]; omega), cNew _ _ _ _ _ rfl]; rfl
  · rw [cOld _ _ _ _ (by rw [s1.out]; omega), cNew _ _ _ _ _ rfl]; rfl
  · rw [cNew _ _ _ _ _ (by rw [s1.out])]; rfl
end
theorem shr_kMn : ∀ n, n ≤ 5 → ∀ k, k ≤ 3 → k ≤ n → (eMax n - 1) / 2 ^ min (pc k) 32 + 1 = kM k n := by decide +kernel
theorem kM_le : ∀ n, n ≤ 5 → ∀ k, kM k n ≤ 1024 := fun n hn k => by
  unfold kM
  have h : pc n ≤ 10 := pc_le n
  have h2 : 2 ^ (pc n - pc k) ≤ 2 ^ 10 := Nat.pow_le_pow_right (by omega) (by omega)
  omega
theorem kE_run {k n t j : Nat} (hn : n ≤ 5) (hkn : k ≤ n) (ht : t < eMax k) (hj : j < kM k n) : bits .or .u32 (t : Int) (IntKind.u32.wrap ((j : Int) * 2 ^ min (pc k) 32)) = ((kE t k j : Nat) : Int) := by
  have hp : pc k ≤ 10 := pc_le k
  have h1 : 2 ^ pc k * (j + 1) ≤ 2 ^ pc k * kM k n := Nat.mul_le_mul_left _ hj
  rw [kM_mul hn hkn] at h1
  have h2 := eMax_le n
  have h3 := eMax_le k
  have e1 : ((j : Int) * 2 ^ min (pc k) 32) = ((j <<< pc k : Nat) : Int) := by
    rw [Nat.min_eq_left (by omega), Nat.shiftLeft_eq]
    push_cast
    rfl
  have h4 : j <<< pc k < 4294967296 := by
    rw [Nat.shiftLeft_eq, Nat.mul_comm]
    have : 2 ^ pc k * j ≤ 2 ^ pc k * (j + 1) := Nat.mul_le_mul_left _ (by omega)
    omega
  unfold kE
  obtain ⟨x, hx⟩ : ∃ x, j <<< pc k = x := ⟨_, rfl⟩
  rw [e1, hx]
  rw [hx] at h4
  rw [IntWalk.u32_in _ (by omega), u32_or_nat _ _ (by omega) h4]
theorem shr_kM (n : Nat) (hn : n ≤ 5) (k : Nat) (hk : k ≤ 3) (hkn : k ≤ n) : (((eMax n - 1 : Nat) : Int) / 2 ^ min (pc k) 32 + 1) % 4294967296 = (kM k n : Nat) := by
  have h := shr_kMn n hn k hk hkn
  have h2 := kM_le n hn k
  have e : ((eMax n - 1 : Nat) : Int) / 2 ^ min (pc k) 32 = (((eMax n - 1) / 2 ^ min (pc k) 32 : Nat) : Int) := by push_cast; rfl
  rw [e]
  omega
/-- how far the iterator is -/
structure LfR (J : (Nat → Prop) → List Nat → World → Prop) (W : World) (k n t j : Nat) (Ds : List Nat) (Own : Nat → Prop) (A : World) : Prop where
  own : ∀ b, Own b → W.heap.size ≤ b ∧ b < A.heap.size
  m : Own W.heap.size
  s : Own (W.heap.size + 1)
  nd : Ds.Nodup
  ds : ∀ D ∈ Ds, Own D ∧ A.heap[D]? = some (.deferred (some []))
  jj : J Own ((List.range j).filter (isL n k t)) A
  set : FSet A W.heap.size k n (seenS n k t j)
  c : A.cell? ⟨W.heap.size + 1, 0, none⟩ = some (.map (some W.heap.size))
/-- what the iterator reads -/
def LfInv (Bt Bn k n t : Nat) (A : World) : Prop := A.cell? ⟨Bt, 0, none⟩ = some (.int .i64 k) ∧ A.cell? ⟨Bt, 1, none⟩ = some (.int .u32 t) ∧ A.cell? ⟨Bn, 0, none⟩ = some (.int .i64 n)
set_option maxHeartbeats 4000000 in
theorem lf_own (k n t : Nat) (hn5 : n ≤ 5) (hk3 : k ≤ 3) (hkn : k ≤ n) (ht : t < eMax k) (nn Bt Bn : Nat) (w : World) (hBt : Bt < w.heap.size) (hBn : Bn < w.heap.size) :
    SeqOwn2 Fence.wide nn Try.prog 114 #[.pointer (some ⟨Bt, 0, none⟩), .pointer (some ⟨Bn, 0, none⟩)] (LfInv Bt Bn k n t) (fun j v _ => v = .agg #[.int .i64 k, .int .i64 n, .int .u32 (kE t k j : Nat)]) (lfs n k t) w := fun l J W hW hJ hJi hJo hY h0 => by
  have hj0 := h0 (fun _ => False) W (fun _ h => h.elim) (Below.refl _ _)
  obtain ⟨c0, c1, c2⟩ := hJi _ _ _ hj0
  have hE := Lib.hid (fun W => ae_any W n hn5)
  have hP := Lib.hid (fun W => pc_any W k (by omega))
  have hmm := @run_makeMap Try.prog
  refine callsIn_wide.2 ((callsIn_wide (n := 5)).1 ?_)
  refine callsIn_of_wp_marks Try.func114 rfl trivial ?_ rfl
  simp only [Try.ntmps114, List.size_toArray, List.length_cons, List.length_nil, Nat.reduceAdd, Nat.reduceSub, Array.replicate_succ, Array.replicate_zero, List.push_toArray, List.append_toArray, List.nil_append, List.cons_append]
  obtain ⟨W1, hW1⟩ : ∃ W1, W1 = (W.alloc (.map #[] 0)).alloc (.cells #[.map (some W.heap.size)] 84) := ⟨_, rfl⟩
  have hBW : Below W.heap.size W W1 := by rw [hW1]; (repeat (first | exact Below.refl _ _ | assumption | refine bchain (by assumption) ?_ | refine balloc ?_ _ | apply Below.drew | apply below_drewN | (refine Below.alloc ?_ (by (try simp) <;> omega) _) | (refine Below.setCell ?_ (by (try simp) <;> omega) _)))
  have hz1 : W1.heap.size = W.heap.size + 2 := by rw [hW1]; simp
  have hzW := hW.size
  have hS1 : FSet W1 W.heap.size k n [] := by rw [hW1]; exact (FSet.made W k n (by omega) hn5).below ((Below.refl _ _).alloc (Nat.le_refl _) _)
  have hc1 : W1.cell? ⟨W.heap.size + 1, 0, none⟩ = some (.map (some W.heap.size)) := by rw [hW1, cNew _ _ _ _ _ (by simp)]; rfl
  have d0 := (hBW.cell (p := ⟨Bt, 0, none⟩) (by show Bt < _; omega)).trans c0
  have d1 := (hBW.cell (p := ⟨Bt, 1, none⟩) (by show Bt < _; omega)).trans c1
  have d2 := (hBW.cell (p := ⟨Bn, 0, none⟩) (by show Bn < _; omega)).trans c2
  rw [hW1] at d0 d1 d2
  replace hW1 := Lib.hid hW1
  replace hS1 := Lib.hid hS1
  replace hc1 := Lib.hid hc1
  have hj1 := Lib.hid (h0 (fun b => b = W.heap.size ∨ b = W.heap.size + 1) W1 (fun b (hb : b = W.heap.size ∨ b = W.heap.size + 1) => by omega) hBW)
  replace hJ := Lib.hid hJ
  replace hJo := Lib.hid hJo
  replace hY := Lib.hid hY
  replace hJi := Lib.hid hJi
  clear hj0 h0 c0 c1 c2 hBW
  gi_wp2_with (first
    | (refine ⟨trivial, ?_⟩; gi_at_call 115; refine (callsIn_wide.2 (hP.out _)).mono ?_; rintro r3 w3 ⟨rfl, rfl⟩)
    | (refine ⟨trivial, ?_⟩; gi_at_call 116; refine (callsIn_wide.2 (hE.out _)).mono ?_; rintro r4 w4 ⟨rfl, rfl⟩))
  rw [← hW1.out]
  obtain ⟨sh, hsh⟩ : ∃ sh : Int, ((eMax n - 1 : Nat) : Int) / 2 ^ min (pc k) 32 = sh := ⟨_, rfl⟩
  have hM1 : (sh + 1) % 4294967296 = (kM k n : Nat) := by rw [← hsh]; exact shr_kM n hn5 k hk3 hkn
  rw [hsh, hM1]
  obtain ⟨M, hM⟩ : ∃ M, kM k n = M := ⟨_, rfl⟩
  have hMl : M ≤ 1024 := by rw [← hM]; exact kM_le n hn5 k
  rw [hM]
  clear hsh hM1 d0 d1 d2
  replace hM := Lib.hid hM
  refine wpIn_loop (fun a A => ∃ (j : Nat) (Ds : List Nat) (Own : Nat → Prop) (u6 u7 u8 u19 u20 u21 u22 u23 u24 u25 u26 u27 u28 u29 u30 u31 u32 u33 u34 u35 u36 u37 u38 u39 u40 u41 u42 u43 u44 : Value), a = { tmps := #[.func (.yield l) #[] #[], .pointer (some ⟨Bt, 0, none⟩), .pointer (some ⟨Bn, 0, none⟩), undef, .pointer (some ⟨W.heap.size + 1, 0, none⟩), .int .i64 (pc k : Nat), u6, u7, u8, .map (some W.heap.size), .pointer (some ⟨Bt, 0, none⟩), .int .i64 k, .int .i64 (pc k : Nat), .int .i64 n, .int .u32 (eMax n - 1 : Nat), .int .i64 (pc k : Nat), .int .u32 sh, .int .u32 M, .int .u32 j, u19, u20, u21, u22, u23, u24, u25, u26, u27, u28, u29, u30, u31, u32, u33, u34, u35, u36, u37, u38, u39, u40, u41, u42, u43, u44], defers := Ds.map fun D => { target := .collected D, args := #[] } } ∧ j ≤ M ∧ LfR J W k n t j Ds Own A)
    (fun a _ => M - (intOf (a.tmps.getD 18 undef)).toNat) ?start ?round
  case start =>
    exact ⟨0, [], (fun b => b = W.heap.size ∨ b = W.heap.size + 1), _, _, _, _, _, _, _, _, _, _, _, _, _, _, _, _, _, _, _, _, _, _, _, _, _, _, _, _, _, rfl, by omega, ⟨fun b (hb : b = W.heap.size ∨ b = W.heap.size + 1) => (by rw [hz1]; omega), .inl rfl, .inr rfl, List.nodup_nil, fun D hD => (by cases hD), hj1.out, hS1.out, hc1.out⟩⟩
  case round =>
    rintro _ A ⟨j, Ds, Own, u6, u7, u8, u19, u20, u21, u22, u23, u24, u25, u26, u27, u28, u29, u30, u31, u32, u33, u34, u35, u36, u37, u38, u39, u40, u41, u42, u43, u44, rfl, hj, hR⟩
    have hinv := hJi.out _ _ _ hR.jj
    obtain ⟨c0, c1, c2⟩ := hinv
    by_cases hlt : j < M
    · have hAm := (hR.own _ hR.m).2
      have hBtA : Bt < A.heap.size := by omega
      have hBnA : Bn < A.heap.size := by omega
      gi_wp2
      refine wpIn_wide.2 ?_
      go_region_held3 (fun B => B.cell? ⟨Bt, 0, none⟩ = some (.int .i64 k) ∧ B.cell? ⟨Bt, 1, none⟩ = some (.int .u32 t) ∧ B.cell? ⟨Bn, 0, none⟩ = some (.int .i64 n))
        (exact ⟨old_cell hBtA c0 (by (repeat (first | exact Below.refl _ _ | assumption | refine bchain (by assumption) ?_ | refine balloc ?_ _ | apply Below.drew | apply below_drewN | (refine Below.alloc ?_ (by (try simp) <;> omega) _) | (refine Below.setCell ?_ (by (try simp) <;> omega) _)))), old_cell hBtA c1 (by (repeat (first | exact Below.refl _ _ | assumption | refine bchain (by assumption) ?_ | refine balloc ?_ _ | apply Below.drew | apply below_drewN | (refine Below.alloc ?_ (by (try simp) <;> omega) _) | (refine Below.setCell ?_ (by (try simp) <;> omega) _)))), old_cell hBnA c2 (by (repeat (first | exact Below.refl _ _ | assumption | refine bchain (by assumption) ?_ | refine balloc ?_ _ | apply Below.drew | apply below_drewN | (refine Below.alloc ?_ (by (try simp) <;> omega) _) | (refine Below.setCell ?_ (by (try simp) <;> omega) _))))⟩)
        (fail)
      have hjk : j < kM k n := by rw [hM.out]; exact hlt
      have hV : VK k n (kE t k j) := VK.mk' hn5 hk3 hkn (kE_max hn5 hkn (by rw [← eMax_pc k (by omega)]; exact ht) hjk)
      have hsn := seen_iff hn5 hk3 hkn ht hjk
      rw [kE_run hn5 hkn ht hjk]
      obtain ⟨sv, hsv⟩ : ∃ sv, IntKind.u32.wrap ((j : Int) * 2 ^ min (pc k) 32) = sv := ⟨_, rfl⟩
      rw [hsv]
      clear hsv
      have hsp := lfs_split (t := t) hjk
      obtain ⟨y, hy⟩ : ∃ y, kE t k j = y := ⟨_, rfl⟩
      have hlt' : y < 1024 := by have := hV.nums; rw [hy] at this; omega
      have hyl : y < 4294967296 := by omega
      have hisL : isL n k t j = (leastK n k y == y) := by unfold isL; rw [hy]
      have hse : leastK n k y = y → seenS n k t (j + 1) = seenS n k t j ++ tE n k y := fun h => by rw [seenS_t (by rw [hy]; exact h), hy]
      have hsf : leastK n k y ≠ y → seenS n k t (j + 1) = seenS n k t j := fun h => seenS_f (by rw [hy]; exact h)
      have hvs : ∀ b : Nat, b = y → Value.agg #[.int .i64 k, .int .i64 n, .int .u32 ((kE t k j : Nat) : Int)] = .agg #[.int .i64 k, .int .i64 n, .int .u32 (b : Int)] := fun b hb => by rw [hy, hb]
      rw [hy] at hV hsn ⊢
      obtain ⟨A1, hA1⟩ : ∃ A1, A1 = (A.alloc (.cells #[.int .i64 (k : Int), .int .i64 (n : Int), .int .u32 (y : Int)] 34)).drew := ⟨_, rfl⟩
      have hBA : Below A.heap.size A A1 := by rw [hA1]; (repeat (first | exact Below.refl _ _ | assumption | refine bchain (by assumption) ?_ | refine balloc ?_ _ | apply Below.drew | apply below_drewN | (refine Below.alloc ?_ (by (try simp) <;> omega) _) | (refine Below.setCell ?_ (by (try simp) <;> omega) _)))
      have hzA : A1.heap.size = A.heap.size + 1 := by rw [hA1]; show (A.alloc _).heap.size = _; simp
      have hF1 : FC A1 A.heap.size k n y := by rw [hA1]; exact (FC.made A k n y _).below (by (repeat (first | exact Below.refl _ _ | assumption | refine bchain (by assumption) ?_ | refine balloc ?_ _ | apply Below.drew | apply below_drewN | (refine Below.alloc ?_ (by (try simp) <;> omega) _) | (refine Below.setCell ?_ (by (try simp) <;> omega) _))))
      rw [← hA1]
      clear hA1 c0 c1 c2 hy
      have hS1' := hR.set.below hBA
      have hc1' : A1.cell? ⟨W.heap.size + 1, 0, none⟩ = some (.map (some W.heap.size)) := (hBA.cell (p := ⟨W.heap.size + 1, 0, none⟩) (hR.own _ hR.s).2).trans hR.c
      have hj1' := hJ.out Own (fun b hb => (hR.own b hb).1) _ _ _ hR.jj (Chg.of_below hBA)
      have hown1 : ∀ b, Own b → W.heap.size ≤ b ∧ b < A1.heap.size := fun b hb => by have := hR.own b hb; omega
      have hds1 : ∀ D ∈ Ds, Own D ∧ A1.heap[D]? = some (.deferred (some [])) := fun D hD => ⟨(hR.ds D hD).1, (hBA.block D (hR.own D (hR.ds D hD).1).2).trans (hR.ds D hD).2⟩
      have hm1 := hR.m
      have hs1 := hR.s
      have hnd := hR.nd
      have hdA : ∀ D ∈ Ds, D < A.heap.size := fun D hD => (hR.own D (hR.ds D hD).1).2
      obtain ⟨Bf, hBf⟩ : ∃ Bf, A.heap.size = Bf := ⟨_, rfl⟩
      rw [hBf] at hF1 hzA hdA ⊢
      replace hBf := Lib.hid hBf
      replace hds1 := Lib.hid hds1
      replace hown1 := Lib.hid hown1
      replace hdA := Lib.hid hdA
      clear hR hBA hAm hBtA hBnA
      cases hil : isL n k t j
      · have hne : leastK n k y ≠ y := by rw [hisL] at hil; simpa using hil
        have hin : inS k n (seenS n k t j) k n y = true := by unfold inS; simp; exact hsn.2 hne
        have hnx := hsf hne
        have hlf := lf_f hil
        have hRn := Lib.hid (show LfR J W k n t (j + 1) Ds Own A1 from ⟨hown1.out, hm1, hs1, hnd, hds1.out, by rw [hlf]; exact hj1', by rw [hnx]; exact hS1', hc1'⟩)
        replace hS1' := Lib.hid hS1'
        replace hin := Lib.hid hin
        obtain ⟨f0, f1, f2, f3⟩ := hF1
        clear hj1' hnx hlf hsn hisL hil hne hse hsf hsp hV hvs
        gi_wp2_with (gi_at_lookup; refine wpListIn_flagLook rfl _ _ rfl W.heap.size k n (seenS n k t j) rfl hS1'.out k n y rfl (by omega) hn5 hyl true hin.out ?_)
        refine ⟨⟨j + 1, Ds, Own, _, _, _, _, _, _, _, _, _, _, _, _, _, _, _, _, _, _, _, _, _, _, _, _, _, _, _, _, _, rfl, by omega, hRn.out⟩, ?_⟩
        simp [intOf]
        omega
      · have hne : leastK n k y = y := by rw [hisL] at hil; simpa using hil
        have hin : inS k n (seenS n k t j) k n y = false := by
          unfold inS
          simp
          exact fun h => hsn.1 h hne
        have hnx := hse hne
        have hlf := lf_t hil
        obtain ⟨rest, hsp2⟩ := hsp hil
        obtain ⟨S, hSd⟩ : ∃ S, seenS n k t j = S := ⟨_, rfl⟩
        obtain ⟨s, hsd⟩ : ∃ s, (List.range j).filter (isL n k t) = s := ⟨_, rfl⟩
        rw [hSd] at hin hnx hS1'
        rw [hsd] at hlf hsp2 hj1'
        have hYv := Lib.hid (fun Own W1 ho hj => hY.out Own s j rest (.agg #[.int .i64 k, .int .i64 n, .int .u32 (y : Int)]) W1 ho hsp2 hj (hvs y rfl).symm)
        replace hS1' := Lib.hid hS1'
        replace hin := Lib.hid hin
        replace hnx := Lib.hid hnx
        replace hlf := Lib.hid hlf
        replace hV := Lib.hid hV
        replace hj1' := Lib.hid hj1'
        obtain ⟨f0, f1, f2, f3⟩ := id hF1
        replace hF1 := Lib.hid hF1
        clear hsn hisL hil hne hse hsf hsp hvs hsp2 hSd hsd
        gi_wp2_with (first
          | (gi_at_lookup; refine wpListIn_flagLook rfl _ _ rfl W.heap.size k n S rfl hS1'.out k n y rfl (by omega) hn5 hyl false hin.out ?_)
          | (refine ⟨trivial, ?_⟩; gi_at_call 113; refine (callsIn_wide.2 (to_any _ k n y)).mono ?_; rintro r1 A2 ⟨B, rfl, hBge, hFB, hb2⟩))
        have hz2 := hb2.size
        have hF2 := Lib.hid (hF1.out.below hb2)
        have hS2 := Lib.hid (hS1'.out.below hb2)
        have hc2 := (hb2.cell (p := ⟨W.heap.size + 1, 0, none⟩) (hown1.out _ hs1).2).trans hc1'
        have hj2 := Lib.hid (hJ.out Own (fun b hb => (hown1.out b hb).1) _ _ _ hj1'.out (Chg.of_below hb2))
        have hown2 : ∀ b, Own b → W.heap.size ≤ b ∧ b < A2.heap.size := fun b hb => by have := hown1.out b hb; omega
        have hds2 : ∀ D ∈ Ds, Own D ∧ A2.heap[D]? = some (.deferred (some [])) := fun D hD => ⟨(hds1.out D hD).1, (hb2.block D (hown1.out D (hds1.out D hD).1).2).trans (hds1.out D hD).2⟩
        have hBl := hFB.lt
        have hBf2 : Bf < A2.heap.size := hF2.out.lt
        have hBM : B ≠ W.heap.size := by have := (hown1.out _ hm1).2; omega
        have hBfM : Bf ≠ W.heap.size := by have := (hown1.out _ hm1).2; have := hBf.out; intro c; have h3 := (hown1.out _ hs1).2; rw [c] at this; have h4 := hzA; omega
        have hM2 : W.heap.size < A2.heap.size := (hown2 _ hm1).2
        have hs2 : W.heap.size + 1 < A2.heap.size := (hown2 _ hs1).2
        replace hown2 := Lib.hid hown2
        replace hds2 := Lib.hid hds2
        clear f0 f1 f2 f3 hF1 hS1' hc1' hj1' hown1 hds1 hb2 hz2 hBge
        have hog : ∀ Own' : Nat → Prop, (∀ b, Own' b → A2.heap.size ≤ b) → ∀ b, (Own b ∨ Own' b) → W.heap.size ≤ b := fun Own' ho b hb => by
          rcases hb with hb | hb
          · exact (hown2.out b hb).1
          · have := ho b hb; omega
        replace hog := Lib.hid hog
        refine wpIn_range_own rfl (by omega) (gf := 144) (lb := #[.pointer (some ⟨B, 0, none⟩)]) rfl trivial (enters_of Try.func144 (by kernel_rfl) rfl)
          (turns_own k n y hV.out 4 B A2 hBl) (Below.refl _ _) rfl (SeeK.below k n y) (SeeK.cellular k n y)
          (fun Own' pre A' => (∀ b, Own' b → A2.heap.size ≤ b) ∧ J (fun b => Own b ∨ Own' b) s A' ∧ FSet A' W.heap.size k n (S ++ pre.map (onL y)) ∧ A2.heap.size ≤ A'.heap.size ∧ ∀ b, b < A2.heap.size → b ≠ W.heap.size → A'.heap[b]? = A2.heap[b]?)
          (fun Own' p A' hs => hFB.block hs.2.2.2.1 (hs.2.2.2.2 B hBl hBM))
          (fun Own' ho p A' A'' hs hc => ⟨ho, hJ.out _ (hog.out Own' ho) _ _ _ hs.2.1 (hc.mono (fun b hb => .inr hb)), hs.2.2.1.of_block (hc.same _ (by have := hs.2.2.2.1; omega) (fun c => by have := ho _ c; omega)), Nat.le_trans hs.2.2.2.1 hc.size,
            fun b hb hne => (hc.same b (by have := hs.2.2.2.1; omega) (fun c => by have := ho _ c; omega)).trans (hs.2.2.2.2 b hb hne)⟩)
          (fun Own' A' ho hA => ⟨ho, hJ.out _ (hog.out Own' ho) _ _ _ (hJo.out _ _ _ _ (hog.out Own' ho) (fun b hb => hb.elim .inl (fun h => .inr (ho b h))) hj2.out) (Chg.of_below hA), by simpa using hS2.out.below hA, hA.size, fun b hb _ => hA.block b hb⟩)
          (fun v a' A' => ∃ Gb z : Nat, v = .agg #[.int .i64 k, .int .i64 n, .int .u32 z] ∧ FC A' Gb k n z ∧ a' = { tmps := #[.func (.yield l) #[] #[], .pointer (some ⟨Bt, 0, none⟩), .pointer (some ⟨Bn, 0, none⟩), undef, .pointer (some ⟨W.heap.size + 1, 0, none⟩), .int .i64 (pc k : Nat), .int .u32 j, .pointer (some ⟨Bf, 0, none⟩), .pointer (some ⟨Gb, 0, none⟩), .map (some W.heap.size), .pointer (some ⟨Bt, 0, none⟩), .int .i64 k, .int .i64 (pc k : Nat), .int .i64 n, .int .u32 (eMax n - 1 : Nat), .int .i64 (pc k : Nat), .int .u32 sh, .int .u32 M, .int .u32 j, .bool true, .int .u32 j, .pointer (some ⟨Bt, 0, none⟩), .int .i64 k, .int .i64 n, .pointer (some ⟨Bt, 1, none⟩), .int .u32 t, .int .u32 j, .int .i64 (pc k : Nat), .int .u32 sv, .int .u32 y, .agg #[.int .i64 n, .int .u32 y], .agg #[.int .i64 k, .int .i64 n, .int .u32 y], .map (some W.heap.size), .agg #[.int .i64 k, .int .i64 n, .int .u32 y], .bool false, .agg #[.int .i64 k, .int .i64 n, .int .u32 y], .func (.func 144) #[] #[.pointer (some ⟨B, 0, none⟩)], v, u38, u39, u40, u41, u42, u43, u44], defers := [] })
          (fun v a' A' l' o o' h hl ho => by obtain ⟨Gb, z, h1, h2, h3⟩ := h; exact ⟨Gb, z, h1, FC.cellular Gb k n z A' l' o o' h2 hl ho, h3⟩) ?assign ?body ?done
        case assign =>
          intro l' x v A' K hv hK
          obtain rfl : v = _ := hv
          gi_wp2
          exact hK _ _ ((Below.refl _ _).alloc (Nat.le_refl _) _) ⟨A'.heap.size, onL y x, rfl, FC.made A' k n _ _, rfl⟩
        case body =>
          rintro l' Own' pre x rest' v a' A' ho hL ⟨hoo, b1, b2, b3, b4⟩ hSv ⟨Gb, z, hv, hFG, rfl⟩
          have hx := turns_ok (n := n) (k := k) hn5 hk3 hkn (x := x) (by rw [hL]; simp)
          have hyz : onL y x = z := by
            have hS' : v = _ := hSv
            rw [hv] at hS'
            simp at hS'
            omega
          have hzl : z < 4294967296 := by
            have := onL_lt y x (by rw [ok_length hx]; exact hn5)
            omega
          have hcA : A'.cell? ⟨W.heap.size + 1, 0, none⟩ = some (.map (some W.heap.size)) := (World.cell?_of_block (a := ⟨W.heap.size + 1, 0, none⟩) (b4 (W.heap.size + 1) hs2 (by omega))).trans hc2
          have hmap : S ++ pre.map (onL y) ++ [z] = S ++ (pre ++ [x]).map (onL y) := by rw [← hyz]; simp
          have hfin := Lib.hid (fun (A4 : World) (hS4 : FSet A4 W.heap.size k n (S ++ pre.map (onL y) ++ [z])) (hg4 : A'.grownBy A4 (some W.heap.size)) =>
            (show ownPost Own' (fun pre A' => (∀ b, Own' b → A2.heap.size ≤ b) ∧ J (fun b => Own b ∨ Own' b) s A' ∧ FSet A' W.heap.size k n (S ++ pre.map (onL y)) ∧ A2.heap.size ≤ A'.heap.size ∧ ∀ b, b < A2.heap.size → b ≠ W.heap.size → A'.heap[b]? = A2.heap[b]?) (pre ++ [x]) A' .normal { tmps := #[], defers := [] } A4 from
              ⟨hg4.size, fun b hb => hg4.block b (ho b hb).2 (by intro c; injection c with c; have := hoo b hb; omega), hoo,
                hJ.out _ (hog.out Own' hoo) _ _ _ b1 ⟨hg4.os, hg4.tape, hg4.output, hg4.size, fun q hq hn => hg4.block q hq (by intro c; injection c with c; exact hn (.inl (by rw [c]; exact hm1)))⟩,
                by rw [← hmap]; exact hS4, Nat.le_trans b3 hg4.size, fun b hb hne => (hg4.block b (by omega) (by intro c; injection c with c; exact hne c)).trans (b4 b hb hne)⟩))
          obtain ⟨S', hS'd⟩ : ∃ S', S ++ pre.map (onL y) = S' := ⟨_, rfl⟩
          rw [hS'd] at hfin b2
          replace b2 := Lib.hid b2
          obtain ⟨g0, g1, g2, g3⟩ := hFG
          clear b1 b4 hSv hv hL hmap hS'd hyz hx hFB hc2
          gi_wp2_with (gi_at_mapUpdate; refine wpListIn_flagStore rfl _ _ _ rfl W.heap.size k n S' rfl b2.out z rfl rfl hzl ?_; intro A4 hS4 hg4)
          exact hfin.out A4 hS4 hg4
        case done =>
          rintro D Own' A3 hD ⟨hoo, b1, b2, b3, b4⟩ hK hOD
          have hF3 := hF2.out.block b3 (b4 Bf hBf2 hBfM)
          have hcA : A3.cell? ⟨W.heap.size + 1, 0, none⟩ = some (.map (some W.heap.size)) := (World.cell?_of_block (a := ⟨W.heap.size + 1, 0, none⟩) (b4 (W.heap.size + 1) hs2 (by omega))).trans hc2
          obtain ⟨Own3, hOwn3⟩ : ∃ Own3 : Nat → Prop, Own3 = fun b => (Own b ∨ Own' b) ∧ b < A3.heap.size := ⟨_, rfl⟩
          have hDl : D < A3.heap.size := (Array.getElem?_eq_some_iff.1 hK).1
          have o3 : ∀ b, Own3 b → W.heap.size ≤ b ∧ b < A3.heap.size := fun b hb => by rw [hOwn3] at hb; exact ⟨hog.out Own' hoo b hb.1, hb.2⟩
          have om : Own3 W.heap.size := by rw [hOwn3]; exact ⟨.inl hm1, by omega⟩
          have os : Own3 (W.heap.size + 1) := by rw [hOwn3]; exact ⟨.inl hs1, by omega⟩
          have oD : Own3 D := by rw [hOwn3]; exact ⟨.inr hOD, hDl⟩
          have od : ∀ D' ∈ Ds, Own3 D' ∧ A3.heap[D']? = some (.deferred (some [])) := fun D' hD' => by
            have h1 := hds2.out D' hD'
            have h2 := hown2.out D' h1.1
            have h3 := hdA.out D' hD'
            refine ⟨by rw [hOwn3]; exact ⟨.inl h1.1, by omega⟩, (b4 D' h2.2 (fun c => ?_)).trans h1.2⟩
            rw [c] at h1
            have := hS2.out
            obtain ⟨_, _, _, es, cl, hh, _⟩ := this
            rw [hh] at h1
            cases h1.2
          have hnd2 : (D :: Ds).Nodup := List.nodup_cons.2 ⟨fun c => by
            have := hown2.out D (hds2.out D c).1
            omega, hnd⟩
          have hj3 : J Own3 s A3 := hJo.out _ _ _ _ (fun b hb => (o3 b hb).1) (fun b hb => by rw [hOwn3] at hb; exact .inl hb.1) b1
          obtain ⟨fn, tmps, assign, body, hy3, hRd⟩ := anyDepth (m' := 4) (hYv.out Own3 A3 o3 hj3)
          have hset3 : FSet A3 W.heap.size k n (seenS n k t (j + 1)) := by rw [hnx.out]; exact b2
          have hfin := Lib.hid (fun (A4 : World) (h1 : J Own3 (s ++ [j]) A4) (h2 : A3.heap.size ≤ A4.heap.size) (h3 : ∀ b, Own3 b → A4.heap[b]? = A3.heap[b]?) =>
            (show LfR J W k n t (j + 1) (D :: Ds) Own3 A4 from ⟨fun b hb => by have := o3 b hb; omega, om, os, hnd2, fun D' hD' => by
              rcases List.mem_cons.1 hD' with rfl | hD'
              · exact ⟨oD, (h3 _ oD).trans hK⟩
              · exact ⟨(od D' hD').1, (h3 _ (od D' hD').1).trans (od D' hD').2⟩, by rw [hlf.out]; exact h1, hset3.of_block (h3 _ om), (World.cell?_of_block (a := ⟨W.heap.size + 1, 0, none⟩) (h3 _ os)).trans hcA⟩))
          replace hRd := Lib.hid hRd
          obtain ⟨f0, f1, f2, f3⟩ := hF3
          clear b1 b2 b4 hFB hc2 hset3 hj3 od hcA hK hnd2 o3 hF2 hS2
          gi_wp2
          refine hRd.out.mono ?_
          rintro e4 A4 ⟨rfl, h1, h2, h3⟩
          have hl4 := hfin.out A4 h1 h2 h3
          replace hl4 := Lib.hid hl4
          clear h1 h2 h3
          gi_wp2
          refine ⟨⟨j + 1, D :: Ds, Own3, _, _, _, _, _, _, _, _, _, _, _, _, _, _, _, _, _, _, _, _, _, _, _, _, _, _, _, _, _, rfl, by omega, hl4.out⟩, ?_⟩
          simp [intOf]
          omega
    · obtain rfl : j = M := by omega
      have hdd := decide_eq_false (show ¬ ((j : Int) < (j : Int)) by omega)
      have hjl : (List.range j).filter (isL n k t) = lfs n k t := by unfold lfs; rw [hM.out]
      have hj5 := hR.jj
      rw [hjl] at hj5
      have hgo : ∀ b, Own b → W.heap.size ≤ b := fun b hb => (hR.own b hb).1
      have hnd := hR.nd
      have hdd2 : ∀ D ∈ Ds, A.heap[D]? = some (.deferred (some [])) := fun D hD => (hR.ds D hD).2
      have hst : ∀ D ∈ Ds, ∀ A', J Own (lfs n k t) A' → J Own (lfs n k t) (A'.putObj D (.deferred none)) := fun D hD A' hA' => hJ.out Own hgo _ _ _ hA' (Chg.putObj A' D _ (hR.ds D hD).1)
      replace hdd2 := Lib.hid hdd2
      replace hst := Lib.hid hst
      replace hj5 := Lib.hid hj5
      replace hjl := Lib.hid hjl
      clear hR c0 c1 c2
      gi_wp2
      exact leaves_marks (fun A => J Own (lfs n k t) A) (fun A' hA' => ⟨.tuple #[], by simp [results, Try.results114, go_sem], ⟨_, rfl⟩, Own, hgo, hA'⟩) Ds A hnd hdd2.out hst.out hj5.out
end Go.Proofs.Ytpobonomdfbanaa
/-
  LISTS OF FLAGS THAT A CALL RETURNS WITH A CODE; the least flags of a type that have no forbidden part.
-/
namespace Go.Proofs.Ytpobonomdfbanaa
open Go.RowKit
set_option maxRecDepth 100000

def RetK (W : World) (L : List (Int × Int × Int)) (c : Int) (r : Ending) (w' : World) : Prop := (∃ u, r = .returned (.tuple #[u, .int .i64 c]) ∧ OwnK W w' u L) ∧ Below W.heap.size W w'
/-- a list that may be too long -/
def RetLim (W : World) (L : List (Int × Int × Int)) (r : Ending) (w' : World) : Prop := (L.length ≤ 64 ∧ RetK W L 0 r w') ∨ (64 < L.length ∧ RetK W [] 3 r w')
theorem ownK_zero (w0 w : World) (a : Option Addr) : OwnK w0 w (.slice a 0 0) [] := ⟨a, 0, by simp, by simp, by simp, fun c => absurd c (by simp)⟩
/-- is a flag of the type wanted -/
def isF (n k t : Nat) (gs : List (Int × Int)) (j : Nat) : Bool := isL n k t j && freeB n (kE t k j) gs
def flL (n k t : Nat) (gs : List (Int × Int)) (m : Nat) : List (Int × Int × Int) := ((List.range m).filter (isF n k t gs)).map fun (j : Nat) => ((k : Int), (n : Int), ((kE t k j : Nat) : Int))
theorem flL_t {n k t : Nat} {gs : List (Int × Int)} {m : Nat} (h : isF n k t gs m = true) : flL n k t gs (m + 1) = flL n k t gs m ++ [((k : Int), (n : Int), ((kE t k m : Nat) : Int))] := by simp [flL, List.range_succ, List.filter_append, h]
theorem flL_f {n k t : Nat} {gs : List (Int × Int)} {m : Nat} (h : isF n k t gs m = false) : flL n k t gs (m + 1) = flL n k t gs m := by simp [flL, List.range_succ, List.filter_append, h]
theorem flL_len (n k t : Nat) (gs : List (Int × Int)) (m : Nat) : (flL n k t gs m).length ≤ m := by
  unfold flL
  rw [List.length_map]
  have := List.length_filter_le (isF n k t gs) (List.range m)
  simpa using this
/-- flags of one type and size, as numbers -/
def flE (n k t : Nat) : KeptKE Nat := ⟨fun _ => (k : Int), fun _ => (n : Int), fun j => ((kE t k j : Nat) : Int)⟩
theorem lfs_free (n k t : Nat) (gs : List (Int × Int)) : (lfs n k t).filter (fun j => freeB n (kE t k j) gs) = (List.range (kM k n)).filter (isF n k t gs) := by
  unfold lfs
  rw [List.filter_filter]
  refine List.filter_congr (fun j _ => ?_)
  unfold isF
  rw [Bool.and_comm]
theorem flE_cells (n k t : Nat) (gs : List (Int × Int)) : KeptKC (flE n k t) (fun j => freeB n (kE t k j) gs) (lfs n k t) = ksC (flL n k t gs (kM k n)) := by
  unfold KeptKC ksC flL flE
  rw [lfs_free, List.flatMap_map]
theorem fl_length (n k t : Nat) (gs : List (Int × Int)) : ((lfs n k t).filter (fun j => freeB n (kE t k j) gs)).length = (flL n k t gs (kM k n)).length := by
  rw [lfs_free]; simp [flL]
theorem lfs_len {n k t : Nat} (hn : n ≤ 5) : (lfs n k t).length ≤ 2000 := by
  unfold lfs
  have h1 := List.length_filter_le (isL n k t) (List.range (kM k n))
  have h2 := kM_le n hn k
  simp at h1
  omega
theorem lfs_mem {n k t j : Nat} (h : j ∈ lfs n k t) : j < kM k n := by
  unfold lfs at h
  have := (List.mem_filter.1 h).1
  simpa using this
end Go.Proofs.Ytpobonomdfbanaa
/-
  AllFlags: the program's contract.
-/
namespace Go.Proofs.Ytpobonomdfbanaa
open Go.RowKit Go.Shelf
set_option maxRecDepth 100000

section
variable (w : World)
set_option maxHeartbeats 1000000 in
theorem afc_any (k n e Ba : Nat) (h : VG n e) (a : Option Addr) (cap : Nat) (gs : List (Int × Int)) (hm : gs.length ≤ 1048576) (hc : Lies w a gs) (hV : AllV gs) (hBa : Ba < w.heap.size) (hA : w.cell? ⟨Ba, 0, none⟩ = some (.slice a gs.length cap)) :
    Calls Try.prog 126 #[.agg #[.int .i64 k, .int .i64 n, .int .u32 e], .pointer (some ⟨Ba, 0, none⟩)] w fun r w' => r = .returned (.bool (freeB n e gs)) ∧ Below w.heap.size w w' := by
  have hC := Lib.hid (fun W (hW : Below w.heap.size w W) => ifree_any W n e h a cap gs hm (hc.below hW) hV)
  obtain ⟨b, hb⟩ : ∃ b, freeB n e gs = b := ⟨_, rfl⟩
  obtain ⟨l, hl⟩ : ∃ l, gs.length = l := ⟨_, rfl⟩
  rw [hb, hl] at hC
  rw [hb]
  rw [hl] at hA
  clear hb hl hm hV hc
  go_enter Try.func126, Try.ntmps126
  go_wp2_with fail
  refine (hC.out _ (by (repeat (first | exact Below.refl _ _ | assumption | refine bchain (by assumption) ?_ | refine balloc ?_ _ | apply Below.drew | apply below_drewN | (refine Below.alloc ?_ (by (try simp) <;> omega) _) | (refine Below.setCell ?_ (by (try simp) <;> omega) _))))).mono ?_
  rintro r1 w1 ⟨rfl, hb1⟩
  go_wp2
  go_ret
  exact ⟨rfl, by (repeat (first | exact Below.refl _ _ | assumption | refine bchain (by assumption) ?_ | refine balloc ?_ _ | apply Below.drew | apply below_drewN | (refine Below.alloc ?_ (by (try simp) <;> omega) _) | (refine Below.setCell ?_ (by (try simp) <;> omega) _)))⟩
set_option maxHeartbeats 2000000 in
theorem iaf_ok (k n t : Nat) (hn5 : n ≤ 5) (hk3 : k ≤ 3) (hkn : k ≤ n) (ht : t < eMax k) (v : Value) (gs : List (Int × Int)) (hS : SlG w v gs) (hm : gs.length ≤ 1048576) (hbd : Bd gs) (hV : AllV gs) (h6 : gs.length ≤ 6) :
    Calls Try.prog 93 #[.agg #[.int .i64 k, .int .u32 t], .int .i64 n, v] w (RetLim w (flL n k t gs (kM k n))) := by
  obtain ⟨a, cap, rfl, hc⟩ := hS.lies
  have hF := Lib.hid (fun W (hW : Below w.heap.size w W) => cf_ok W a cap gs hm (hc.below hW) hbd hV h6)
  have hVt : VG k t := ⟨by omega, by omega, by omega, by simpa using ht⟩
  have htl : t < 4294967296 := by have := eMax_le k; omega
  have ht2 : t < 2 ^ pc k := by rw [← eMax_pc k (by omega)]; exact ht
  have hK := fun (W : World) (B Ba : Nat) (hW : Below w.heap.size w W) (hB : B + 1 < W.heap.size) (c0 : W.cell? ⟨B, 0, none⟩ = some (.int .i64 k)) (c1 : W.cell? ⟨B, 1, none⟩ = some (.int .u32 t)) (c2 : W.cell? ⟨B + 1, 0, none⟩ = some (.int .i64 n)) (hBa : Ba < W.heap.size) (hA : W.cell? ⟨Ba, 0, none⟩ = some (.slice a gs.length cap)) =>
    KeptK_any W (flE n k t) 114 #[.pointer (some ⟨B, 0, none⟩), .pointer (some ⟨B + 1, 0, none⟩)] (LfInv B (B + 1) k n t) (lfs n k t) (lfs_len hn5) (enters_of Try.func114 (by kernel_rfl) rfl)
      (fun nn W' hW' => lf_own k n t hn5 hk3 hkn ht nn B (B + 1) W' (by have := hW'.size; omega) (by have := hW'.size; omega))
      (fun A hA' => ⟨(hA'.cell (p := ⟨B, 0, none⟩) (by show B < _; omega)).trans c0, (hA'.cell (p := ⟨B, 1, none⟩) (by show B < _; omega)).trans c1, (hA'.cell (p := ⟨B + 1, 0, none⟩) hB).trans c2⟩)
      126 #[.pointer (some ⟨Ba, 0, none⟩)] (enters_of Try.func126 (by kernel_rfl) rfl) (fun j => freeB n (kE t k j) gs)
      (fun W' j hj hb => afc_any W' k n (kE t k j) Ba ⟨by omega, by omega, by omega, by have := kE_max hn5 hkn ht2 (lfs_mem hj); simpa using this⟩ a cap gs hm (hc.below (hW.trans (hb.mono hW.size))) hV (by have := hb.size; omega) ((hb.cell (p := ⟨Ba, 0, none⟩) hBa).trans hA))
  rw [fl_length, flE_cells] at hK
  have hLl := flL_len n k t gs (kM k n)
  have hLm := kM_le n hn5 k
  obtain ⟨L, hL⟩ : ∃ L, flL n k t gs (kM k n) = L := ⟨_, rfl⟩
  rw [hL] at hK hLl ⊢
  replace hK := Lib.hid hK
  obtain ⟨l, hl⟩ : ∃ l, gs.length = l := ⟨_, rfl⟩
  rw [hl] at hF hK ⊢
  have hLb : L.length ≤ 1024 := by omega
  clear hL hl hm hbd hV h6 hc hS hLl hLm ht2 ht
  obtain ⟨W0, hW0⟩ : ∃ W0, W0 = (w.alloc (.cells #[.int .i64 (k : Int), .int .u32 (t : Int)] 32)).alloc (.cells #[.slice a l cap] 36) := ⟨_, rfl⟩
  have hB0 : Below w.heap.size w W0 := by rw [hW0]; (repeat (first | exact Below.refl _ _ | assumption | refine bchain (by assumption) ?_ | refine balloc ?_ _ | apply Below.drew | apply below_drewN | (refine Below.alloc ?_ (by (try simp) <;> omega) _) | (refine Below.setCell ?_ (by (try simp) <;> omega) _)))
  have hA0 : W0.cell? ⟨w.heap.size + 1, 0, none⟩ = some (.slice a l cap) := by rw [hW0, cNew _ _ _ _ _ (by simp)]; rfl
  have hg0 : W0.cell? ⟨w.heap.size, 0, none⟩ = some (.int .i64 k) := by rw [hW0, cOld _ _ _ _ (by simp), cNew _ _ _ _ _ rfl]; rfl
  have hg1 : W0.cell? ⟨w.heap.size, 1, none⟩ = some (.int .u32 t) := by rw [hW0, cOld _ _ _ _ (by simp), cNew _ _ _ _ _ rfl]; rfl
  have hz0 : w.heap.size + 1 < W0.heap.size := by rw [hW0]; simp
  replace hW0 := Lib.hid hW0
  go_enter Try.func93, Try.ntmps93
  go_wp2_with fail
  refine (valid_t _ k t hVt).mono ?_
  rintro r1 w1 ⟨rfl, hb1⟩
  rw [← hW0.out] at hb1
  have hA1 := (hb1.cell (p := ⟨w.heap.size + 1, 0, none⟩) hz0).trans hA0
  have p0 := (hb1.cell (p := ⟨w.heap.size, 0, none⟩) (by show w.heap.size < _; omega)).trans hg0
  have p1 := (hb1.cell (p := ⟨w.heap.size, 1, none⟩) (by show w.heap.size < _; omega)).trans hg1
  have hB1 := hB0.trans (hb1.mono hB0.size)
  have hz1 : w.heap.size + 1 < w1.heap.size := by have := hb1.size; omega
  clear hb1 hB0 hA0 hg0 hg1 hz0
  go_wp2_with fail
  refine (hF.out _ hB1).mono ?_
  rintro r2 w2 ⟨rfl, hb2⟩
  have hA2 := (hb2.cell (p := ⟨w.heap.size + 1, 0, none⟩) hz1).trans hA1
  have p2 := (hb2.cell (p := ⟨w.heap.size, 0, none⟩) (by show w.heap.size < _; omega)).trans p0
  have p3 := (hb2.cell (p := ⟨w.heap.size, 1, none⟩) (by show w.heap.size < _; omega)).trans p1
  have hB2 := hB1.trans (hb2.mono hB1.size)
  have hz2 : w.heap.size + 1 < w2.heap.size := by have := hb2.size; omega
  clear hb2 hB1 hA1 p0 p1 hz1
  go_wp2_with fail
  refine (lfo_any _ k t n).mono ?_
  rintro r3 w3 ⟨B, rfl, hBge, hBz, c0, c1, c2, hb3⟩
  have hA3 := (hb3.cell (p := ⟨w.heap.size + 1, 0, none⟩) hz2).trans hA2
  have hB3 := hB2.trans (hb3.mono hB2.size)
  have hk := Lib.hid (hK.out w3 B (w.heap.size + 1) hB3 hBz c0 c1 c2 (by have := hb3.size; omega) hA3)
  clear hb3 hB2 hA2 p2 p3 hz2 c0 c1 c2 hA3
  go_wp2_with fail
  refine (hk.out).mono ?_
  rintro r4 w4 ⟨⟨u, rfl, hown⟩, hb4⟩
  have hB4 := hB3.trans (hb4.mono hB3.size)
  have hO := Lib.hid (ownK_of_row (w0 := w) hown hB3.size)
  obtain ⟨ll, hll⟩ : ∃ ll, L.length = ll := ⟨_, rfl⟩
  have hform := hown.2
  rw [hll] at hform hLb
  have hnil : u = .slice none 0 0 → ll = 0 := fun c => by
    rcases hform with ⟨_, h⟩ | ⟨g, cap, cur, h, _⟩
    · exact h
    · rw [c] at h; cases h
  clear hk hb4 hB3 hown hnil
  replace hll := Lib.hid hll
  by_cases h64 : ll ≤ 64
  · have hd : decide (64 < (ll : Int)) = false := decide_eq_false (by omega)
    rcases hform with ⟨rfl, rfl⟩ | ⟨g, cap2, cur, rfl, _⟩
    all_goals go_wp2
    all_goals go_ret2
    all_goals exact .inl ⟨by rw [hll.out]; exact h64, ⟨_, rfl, hO.out⟩, hB4⟩
  · have hd : decide (64 < (ll : Int)) = true := decide_eq_true (by omega)
    rcases hform with ⟨rfl, rfl⟩ | ⟨g, cap2, cur, rfl, _⟩
    · omega
    · go_wp2
      go_ret2
      exact .inr ⟨by rw [hll.out]; omega, ⟨_, rfl, ownK_zero _ _ _⟩, hB4⟩
end
end Go.Proofs.Ytpobonomdfbanaa
/-
  AllFlags: the model's list of least flags.
-/
namespace Go.Proofs.Ytpobonomdfbanaa
open Go.RowKit Go.Shelf
set_option maxRecDepth 100000

theorem kW_run : ∀ n, n ≤ 5 → ∀ k, k ≤ 3 → k ≤ n → wrap64 ((2 : Int) ^ (pc n - pc k)) = (kM k n : Int) := by decide +kernel
theorem kE_run2 {k n t j : Nat} (hn : n ≤ 5) (hkn : k ≤ n) (ht : t < eMax k) (hj : j < kM k n) : bits .or .u32 (t : Int) (wrap64 ((j : Int) * 2 ^ pc k) % 4294967296) = ((kE t k j : Nat) : Int) := by
  have hp : pc k ≤ 10 := pc_le k
  have h1 : 2 ^ pc k * (j + 1) ≤ 2 ^ pc k * kM k n := Nat.mul_le_mul_left _ hj
  rw [kM_mul hn hkn] at h1
  have h2 := eMax_le n
  have h3 := eMax_le k
  have e1 : ((j : Int) * 2 ^ pc k) = ((j <<< pc k : Nat) : Int) := by
    rw [Nat.shiftLeft_eq]
    push_cast
    rfl
  have h4 : j <<< pc k < 4294967296 := by
    rw [Nat.shiftLeft_eq, Nat.mul_comm]
    have : 2 ^ pc k * j ≤ 2 ^ pc k * (j + 1) := Nat.mul_le_mul_left _ (by omega)
    omega
  unfold kE
  obtain ⟨x, hx⟩ : ∃ x, j <<< pc k = x := ⟨_, rfl⟩
  rw [e1, hx]
  rw [hx] at h4
  rw [show wrap64 ((x : Nat) : Int) = (x : Int) by unfold wrap64; omega, Int.emod_eq_of_lt (by omega) (by omega), u32_or_nat _ _ (by omega) h4]
section
variable (w : World)
set_option maxHeartbeats 4000000 in
theorem sla_any (k n t : Nat) (hn5 : n ≤ 5) (hk3 : k ≤ 3) (hkn : k ≤ n) (ht : t < eMax k) (a : Option Addr) (cap : Nat) (gs : List (Int × Int)) (hc : Lies w a gs) (hm : gs.length ≤ 1048576) (hV : AllV gs) :
    Calls Try.prog 52 #[.agg #[.int .i64 k, .int .u32 t], .int .i64 n, .slice a gs.length cap] w fun r w' => (∃ u, r = .returned u ∧ OwnK w w' u (flL n k t gs (kM k n))) ∧ Below w.heap.size w w' := by
  have hFr := Lib.hid (fun W (hW : Below w.heap.size w W) (e : Nat) (he : VG n e) => sfree_any W n e he a cap gs hm (hc.below hW) hV)
  have hpk := Lib.hid (fun W => bits_any W k (by omega))
  have hpn := Lib.hid (fun W => bits_any W n hn5)
  have hLe := Lib.hid (fun W e h => sleastK_any W k n e h)
  obtain ⟨i0, hi, hz0, hz1, hz2⟩ := info_parts info_flagK
  replace hi := Lib.hid hi
  replace hz0 := Lib.hid hz0
  replace hz1 := Lib.hid hz1
  replace hz2 := Lib.hid hz2
  obtain ⟨l, hl⟩ : ∃ l, gs.length = l := ⟨_, rfl⟩
  rw [hl] at hFr ⊢
  have hkW := kW_run n hn5 k hk3 hkn
  have hkE := Lib.hid (fun j (h : j < kM k n) => kE_run2 hn5 hkn ht h)
  have ht2 : t < 2 ^ pc k := by rw [← eMax_pc k (by omega)]; exact ht
  have hKx := Lib.hid (fun j (h : j < kM k n) => kE_max hn5 hkn ht2 h)
  have hKm := Lib.hid (fun j (h : j < kM k n) => VK.mk' hn5 hk3 hkn (kE_max hn5 hkn ht2 h))
  have hft := Lib.hid (fun m => flL_t (n := n) (k := k) (t := t) (gs := gs) (m := m))
  have hff := Lib.hid (fun m => flL_f (n := n) (k := k) (t := t) (gs := gs) (m := m))
  have hlen : ∀ m, (flL n k t gs m).length ≤ m := flL_len n k t gs
  replace hlen := Lib.hid hlen
  have hkM := kM_le n hn5 k
  obtain ⟨pk, hpkd⟩ : ∃ pk, pc k = pk := ⟨_, rfl⟩
  obtain ⟨pn, hpnd⟩ : ∃ pn, pc n = pn := ⟨_, rfl⟩
  have hpk0 : pk ≤ 10 := by rw [← hpkd]; exact pc_le k
  have hpn0 : pn ≤ 10 := by rw [← hpnd]; exact pc_le n
  have hpp : pk ≤ pn := by rw [← hpkd, ← hpnd]; exact pc_leP n hn5 k hkn
  rw [hpkd] at hpk hkE hkW
  rw [hpnd] at hpn hkW
  obtain ⟨M, hM⟩ : ∃ M, kM k n = M := ⟨_, rfl⟩
  rw [hM] at hkE hKm hKx hkW hkM ⊢
  obtain ⟨W0, hW0⟩ : ∃ W0, W0 = w.alloc (.cells #[.int .i64 (k : Int), .int .u32 (t : Int)] 32) := ⟨_, rfl⟩
  have g0 : W0.cell? ⟨w.heap.size, 0, none⟩ = some (.int .i64 k) := by rw [hW0, cNew _ _ _ _ _ rfl]; rfl
  have g1 : W0.cell? ⟨w.heap.size, 1, none⟩ = some (.int .u32 t) := by rw [hW0, cNew _ _ _ _ _ rfl]; rfl
  have gz : W0.heap.size = w.heap.size + 1 := by rw [hW0]; simp
  have gB : Below w.heap.size w W0 := by rw [hW0]; (repeat (first | exact Below.refl _ _ | assumption | refine bchain (by assumption) ?_ | refine balloc ?_ _ | apply Below.drew | apply below_drewN | (refine Below.alloc ?_ (by (try simp) <;> omega) _) | (refine Below.setCell ?_ (by (try simp) <;> omega) _)))
  have hW1 : Below W0.heap.size W0 (W0.alloc (.cells #[] 34)) := by (repeat (first | exact Below.refl _ _ | assumption | refine bchain (by assumption) ?_ | refine balloc ?_ _ | apply Below.drew | apply below_drewN | (refine Below.alloc ?_ (by (try simp) <;> omega) _) | (refine Below.setCell ?_ (by (try simp) <;> omega) _)))
  have hown0 : Hid ((W0.alloc (.cells #[] 34)).ownsRow W0.heap.size 34 3 (.slice (some ⟨W0.heap.size, 0, none⟩) 0 0) (flL n k t gs 0).length (ksC (flL n k t gs 0))) := World.ownsRow_made W0 #[] 0 (Nat.le_refl _) (by omega) rfl
  have hB1 := gB.trans (hW1.mono (by omega))
  have g2 := (hW1.cell (p := ⟨w.heap.size, 0, none⟩) (by show w.heap.size < _; omega)).trans g0
  have g3 := (hW1.cell (p := ⟨w.heap.size, 1, none⟩) (by show w.heap.size < _; omega)).trans g1
  have g4 : w.heap.size + 1 ≤ (W0.alloc (.cells #[] 34)).heap.size := by have := hW1.size; omega
  rw [hW0] at g2 g3 hB1 hown0 g4
  have hwz : (w.alloc (.cells #[.int .i64 (k : Int), .int .u32 (t : Int)] 32)).heap.size = w.heap.size + 1 := by simp
  rw [hwz] at hown0
  clear hl hm hV hc hM ht ht2 hW0 hW1 g0 g1 gz gB hwz
  clear W0
  replace hpkd := Lib.hid hpkd
  replace hpnd := Lib.hid hpnd
  go_enter Try.func52, Try.ntmps52
  go_wp2_with (go_at_call 107; refine (hpk.out _).mono ?_; rintro r3 w3 ⟨rfl, rfl⟩)
  go_loopw [7, 9, 10] (fun u i _ wr => ∃ j : Nat, j ≤ M ∧ i = .int .i64 j ∧ Hid (wr.ownsRow (w.heap.size + 1) 34 3 u (flL n k t gs j).length (ksC (flL n k t gs j))) ∧ wr.cell? ⟨w.heap.size, 0, none⟩ = some (.int .i64 k) ∧ wr.cell? ⟨w.heap.size, 1, none⟩ = some (.int .u32 t) ∧ w.heap.size + 1 ≤ wr.heap.size ∧ Below w.heap.size w wr) (fun _ i _ _ => M - (intOf i).toNat)
  case atStart => exact ⟨0, by omega, rfl, hown0, g2, g3, g4, hB1⟩
  case round =>
    clear hown0 g2 g3 g4 hB1
    obtain ⟨j, hj, rfl, hown, c0, c1, hz, hB⟩ := hrel
    have hsz := hB.size
    by_cases hlt : j < M
    · have hkE1 := hkE.out j hlt
      have hV := hKm.out j hlt
      have hL1 := Lib.hid (fun W => hLe.out W _ hV)
      have hF1 := Lib.hid (fun W (hW : Below wr.heap.size wr W) => hFr.out W (hB.trans (hW.mono hsz)) (kE t k j) ⟨by omega, by omega, by omega, by have := hKx.out j hlt; simpa using this⟩)
      have hjl := hlen.out j
      have hft1 := hft.out j
      have hff1 := hff.out j
      unfold isF isL at hft1 hff1
      have hVn := hV.nums.1
      have hemx := eMax_le n
      obtain ⟨y, hy⟩ : ∃ y, kE t k j = y := ⟨_, rfl⟩
      rw [hy] at hkE1 hL1 hF1 hft1 hff1 hVn
      obtain ⟨z, hzz⟩ : ∃ z, leastK n k y = z := ⟨_, rfl⟩
      rw [hzz] at hL1 hft1 hff1
      obtain ⟨b, hbb⟩ : ∃ b, freeB n y gs = b := ⟨_, rfl⟩
      rw [hbb] at hF1 hft1 hff1
      clear hV hy hzz hbb
      go_wp2_with (go_at_call 107; refine (hpn.out _).mono ?_; rintro r3 w3 ⟨rfl, rfl⟩)
      obtain ⟨W1, hW1⟩ : ∃ W1, W1 = wr.alloc (.cells #[.int .i64 (k : Int), .int .i64 (n : Int), .int .u32 (y : Int)] 34) := ⟨_, rfl⟩
      have hBW : Below wr.heap.size wr W1 := by rw [hW1]; (repeat (first | exact Below.refl _ _ | assumption | refine bchain (by assumption) ?_ | refine balloc ?_ _ | apply Below.drew | apply below_drewN | (refine Below.alloc ?_ (by (try simp) <;> omega) _) | (refine Below.setCell ?_ (by (try simp) <;> omega) _)))
      have hzW : W1.heap.size = wr.heap.size + 1 := by rw [hW1]; simp
      have f0 : W1.cell? ⟨wr.heap.size, 0, none⟩ = some (.int .i64 k) := by rw [hW1, cNew _ _ _ _ _ rfl]; rfl
      have f1 : W1.cell? ⟨wr.heap.size, 1, none⟩ = some (.int .i64 n) := by rw [hW1, cNew _ _ _ _ _ rfl]; rfl
      have f2 : W1.cell? ⟨wr.heap.size, 2, none⟩ = some (.int .u32 y) := by rw [hW1, cNew _ _ _ _ _ rfl]; rfl
      rw [← hW1]
      replace hW1 := Lib.hid hW1
      have hfz : wr.heap.size < W1.heap.size := by omega
      by_cases hzy : z = y
      · subst hzy
        cases b
        · have hnx := Lib.hid (hff1 (by simp))
          clear hft1 hff1
          go_region_held3 (fun A => A.cell? ⟨wr.heap.size, 0, none⟩ = some (.int .i64 k) ∧ A.cell? ⟨wr.heap.size, 1, none⟩ = some (.int .i64 n) ∧ A.cell? ⟨wr.heap.size, 2, none⟩ = some (.int .u32 z))
            (exact ⟨old_cell hfz f0 (by (repeat (first | exact Below.refl _ _ | assumption | refine bchain (by assumption) ?_ | refine balloc ?_ _ | apply Below.drew | apply below_drewN | (refine Below.alloc ?_ (by (try simp) <;> omega) _) | (refine Below.setCell ?_ (by (try simp) <;> omega) _)))), old_cell hfz f1 (by (repeat (first | exact Below.refl _ _ | assumption | refine bchain (by assumption) ?_ | refine balloc ?_ _ | apply Below.drew | apply below_drewN | (refine Below.alloc ?_ (by (try simp) <;> omega) _) | (refine Below.setCell ?_ (by (try simp) <;> omega) _)))), old_cell hfz f2 (by (repeat (first | exact Below.refl _ _ | assumption | refine bchain (by assumption) ?_ | refine balloc ?_ _ | apply Below.drew | apply below_drewN | (refine Below.alloc ?_ (by (try simp) <;> omega) _) | (refine Below.setCell ?_ (by (try simp) <;> omega) _))))⟩)
            (first
            | (go_at_call 54; refine (hL1.out _).mono ?_; rintro r3 w3 ⟨rfl, hb3⟩)
            | (go_at_call 87; refine (hF1.out _ (by (repeat (first | exact Below.refl _ _ | assumption | refine bchain (by assumption) ?_ | refine balloc ?_ _ | apply Below.drew | apply below_drewN | (refine Below.alloc ?_ (by (try simp) <;> omega) _) | (refine Below.setCell ?_ (by (try simp) <;> omega) _))))).mono ?_; rintro r4 w4 ⟨rfl, hb4⟩))
          have hb34 : Below wr.heap.size wr w4 := by (repeat (first | exact Below.refl _ _ | assumption | refine bchain (by assumption) ?_ | refine balloc ?_ _ | apply Below.drew | apply below_drewN | (refine Below.alloc ?_ (by (try simp) <;> omega) _) | (refine Below.setCell ?_ (by (try simp) <;> omega) _)))
          have hown4 := hown.out.kept (row := none) (w' := w4) ⟨hb34.os, hb34.tape, hb34.output, hb34.size, fun k hk _ => hb34.block k hk⟩ (by cases (Value.ownBlock _) <;> simp)
          rw [← hnx.out] at hown4
          replace hown4 := Lib.hid hown4
          have hz4 := hb34.size
          have e0 := (hb34.cell (p := ⟨w.heap.size, 0, none⟩) (by show w.heap.size < _; omega)).trans c0
          have e1 := (hb34.cell (p := ⟨w.heap.size, 1, none⟩) (by show w.heap.size < _; omega)).trans c1
          have hB4 := hB.trans (hb34.mono hsz)
          clear hown c0 c1
          go_wp2
          go_roundw
          case rel => exact ⟨j + 1, by omega, by go_num, hown4, e0, e1, by omega, hB4⟩
          case measure => simp [intOf]; omega
        · have hnx := Lib.hid (hft1 (by simp))
          clear hft1 hff1
          go_region_held3 (fun A => A.cell? ⟨wr.heap.size, 0, none⟩ = some (.int .i64 k) ∧ A.cell? ⟨wr.heap.size, 1, none⟩ = some (.int .i64 n) ∧ A.cell? ⟨wr.heap.size, 2, none⟩ = some (.int .u32 z))
            (exact ⟨old_cell hfz f0 (by (repeat (first | exact Below.refl _ _ | assumption | refine bchain (by assumption) ?_ | refine balloc ?_ _ | apply Below.drew | apply below_drewN | (refine Below.alloc ?_ (by (try simp) <;> omega) _) | (refine Below.setCell ?_ (by (try simp) <;> omega) _)))), old_cell hfz f1 (by (repeat (first | exact Below.refl _ _ | assumption | refine bchain (by assumption) ?_ | refine balloc ?_ _ | apply Below.drew | apply below_drewN | (refine Below.alloc ?_ (by (try simp) <;> omega) _) | (refine Below.setCell ?_ (by (try simp) <;> omega) _)))), old_cell hfz f2 (by (repeat (first | exact Below.refl _ _ | assumption | refine bchain (by assumption) ?_ | refine balloc ?_ _ | apply Below.drew | apply below_drewN | (refine Below.alloc ?_ (by (try simp) <;> omega) _) | (refine Below.setCell ?_ (by (try simp) <;> omega) _))))⟩)
            (first
            | (go_at_call 54; refine (hL1.out _).mono ?_; rintro r3 w3 ⟨rfl, hb3⟩)
            | (go_at_call 87; refine (hF1.out _ (by (repeat (first | exact Below.refl _ _ | assumption | refine bchain (by assumption) ?_ | refine balloc ?_ _ | apply Below.drew | apply below_drewN | (refine Below.alloc ?_ (by (try simp) <;> omega) _) | (refine Below.setCell ?_ (by (try simp) <;> omega) _))))).mono ?_; rintro r4 w4 ⟨rfl, hb4⟩))
          have hb34 : Below wr.heap.size wr w4 := by (repeat (first | exact Below.refl _ _ | assumption | refine bchain (by assumption) ?_ | refine balloc ?_ _ | apply Below.drew | apply below_drewN | (refine Below.alloc ?_ (by (try simp) <;> omega) _) | (refine Below.setCell ?_ (by (try simp) <;> omega) _)))
          have hownk := Lib.hid (hown.out.kept (row := none) (w' := w4) ⟨hb34.os, hb34.tape, hb34.output, hb34.size, fun k hk _ => hb34.block k hk⟩ (by cases (Value.ownBlock _) <;> simp))
          have hz4 := hb34.size
          have e0 := (hb34.cell (p := ⟨w.heap.size, 0, none⟩) (by show w.heap.size < _; omega)).trans c0
          have e1 := (hb34.cell (p := ⟨w.heap.size, 1, none⟩) (by show w.heap.size < _; omega)).trans c1
          have hB4 := hB.trans (hb34.mono hsz)
          obtain ⟨x0, x1, x2⟩ := ‹w4.cell? ⟨wr.heap.size, 0, none⟩ = some (.int .i64 k) ∧ w4.cell? ⟨wr.heap.size, 1, none⟩ = some (.int .i64 n) ∧ w4.cell? ⟨wr.heap.size, 2, none⟩ = some (.int .u32 z)›
          clear hown c0 c1 f0 f1 f2 hb3 hb4
          go_wp2_with (at_builtin; refine wpList_append_own _ rfl _ _ 29 rfl (w.heap.size + 1) 34 i0 (.agg #[.int .i64 0, .int .i64 0, .int .u32 0]) 3 24 Try.underlying29 hi.out hz0.out hz1.out hz2.out rfl (by decide) _ _ _ rfl (hownk.out.alloc _) ⟨w4.heap.size, 0, none⟩ 1 1 [.int .i64 k, .int .i64 n, .int .u32 z] rfl rfl (fun q u hq => by match q, hq with
              | 0, hq => simp at hq; subst hq; rw [show (⟨w4.heap.size, 0, none⟩ : Addr).add 0 = ⟨w4.heap.size, 0, none⟩ from rfl, World.cell?_alloc_new]; rfl
              | 1, hq => simp at hq; subst hq; rw [show (⟨w4.heap.size, 0, none⟩ : Addr).add 1 = ⟨w4.heap.size, 1, none⟩ from rfl, World.cell?_alloc_new]; rfl
              | 2, hq => simp at hq; subst hq; rw [show (⟨w4.heap.size, 0, none⟩ : Addr).add 2 = ⟨w4.heap.size, 2, none⟩ from rfl, World.cell?_alloc_new]; rfl
              | q + 3, hq => simp at hq) (fun u hu => by simp at hu; rcases hu with rfl | rfl | rfl <;> rfl) (by unfold maxLen; omega) (by omega) (by simp; omega) ?_; intro v' w5 hown' hgrow _)
          have hB5 : Below w.heap.size w w5 := (balloc hB4 _).grown hgrow (by simp; omega) (fun k hk => by have := (hownk.out.lt k hk).1; omega)
          have hz5 : w.heap.size + 1 ≤ w5.heap.size := by have := hgrow.size; simp at this; omega
          have hown5 : Hid (w5.ownsRow (w.heap.size + 1) 34 3 v' (flL n k t gs (j + 1)).length (ksC (flL n k t gs (j + 1)))) := by
            show World.ownsRow _ _ _ _ _ _ _
            rw [hnx.out, ksC_snoc, List.length_append]
            exact hown'
          have y0 := (hgrow.block w.heap.size (by simp; omega) (fun hk => by have := (hownk.out.lt _ hk.symm).1; omega))
          have d0 := (World.cell?_of_block (a := ⟨w.heap.size, 0, none⟩) y0).trans ((cOld _ _ _ _ (by show w.heap.size < _; omega)).trans e0)
          have d1 := (World.cell?_of_block (a := ⟨w.heap.size, 1, none⟩) y0).trans ((cOld _ _ _ _ (by show w.heap.size < _; omega)).trans e1)
          clear hown' hgrow hownk y0 e0 e1
          go_roundw
          case rel => exact ⟨j + 1, by omega, by go_num, hown5, d0, d1, hz5, hB5⟩
          case measure => simp [intOf]; omega
      · have hnx := Lib.hid (hff1 (by simp [hzy]))
        have hzf : ((z : Int) == (y : Int)) = false := by simp; omega
        have hzd : decide ((z : Int) = (y : Int)) = false := by simp; omega
        clear hft1 hff1
        have q0 := bw_cell hfz f0
        have q1 := bw_cell hfz f1
        have q2 := bw_cell hfz f2
        refine wp_region_below (by kernel_rfl) (by kernel_rfl) ?_
        iterate 1 (quiet_step (fail))
        refine wpQuiet_step (fun K hK => ?_)
        go_simp
        apply Exists.intro
        refine ⟨fun p => ?_, hK _ ?_⟩
        · exact bw_of (w := W1) (p := p) (hL1.out p.W)
        clear hK K
        iterate 3 (quiet_step (fail))
        iterate 4 go_big_quiet_skip
        quiet_step (fail)
        refine wpQuiet_nil ?_
        intro w3 hw'
        obtain ⟨⟨wx, hb3⟩, rfl⟩ := hw'
        have hb34 : Below wr.heap.size wr w3 := hBW.trans (hb3.mono (by omega))
        have hown4 := hown.out.kept (row := none) (w' := w3) ⟨hb34.os, hb34.tape, hb34.output, hb34.size, fun k hk _ => hb34.block k hk⟩ (by cases (Value.ownBlock _) <;> simp)
        rw [← hnx.out] at hown4
        replace hown4 := Lib.hid hown4
        have hz4 := hb34.size
        have e0 := (hb34.cell (p := ⟨w.heap.size, 0, none⟩) (by show w.heap.size < _; omega)).trans c0
        have e1 := (hb34.cell (p := ⟨w.heap.size, 1, none⟩) (by show w.heap.size < _; omega)).trans c1
        have hB4 := hB.trans (hb34.mono hsz)
        clear hown c0 c1
        go_wp2
        go_roundw
        case rel => exact ⟨j + 1, by omega, by go_num, hown4, e0, e1, by omega, hB4⟩
        case measure => simp [intOf]; omega
    · obtain rfl : j = M := by omega
      have hdd := decide_eq_false (show ¬ ((j : Int) < (j : Int)) by omega)
      have hO := Lib.hid (ownK_of_row (w0 := w) hown.out (by omega))
      clear hown
      go_wp2_with (go_at_call 107; refine (hpn.out _).mono ?_; rintro r3 w3 ⟨rfl, rfl⟩)
      go_ret
      exact ⟨⟨_, rfl, hO.out⟩, hB⟩
end
end Go.Proofs.Ytpobonomdfbanaa
/-
  AllFlags: the codes, the model's contract, and both.
-/
namespace Go.Proofs.Ytpobonomdfbanaa
open Go.RowKit Go.Shelf
set_option maxRecDepth 100000

section
variable (w : World)
theorem iaf_inv (k n t : Int) (hn : t < 4294967296) (he0 : 0 ≤ t) (h : ¬ VG k t) (a : Option Addr) (l cap : Nat) :
    Calls Try.prog 93 #[.agg #[.int .i64 k, .int .u32 t], .int .i64 n, .slice a l cap] w (RetK w [] 1) := by
  go_enter Try.func93, Try.ntmps93
  go_wp2_with fail
  refine (valid_f _ k t hn he0 h).mono ?_
  rintro r1 w1 ⟨rfl, hb1⟩
  go_wp2
  go_ret2
  exact ⟨⟨_, rfl, ownK_zero _ _ _⟩, by (repeat (first | exact Below.refl _ _ | assumption | refine bchain (by assumption) ?_ | refine balloc ?_ _ | apply Below.drew | apply below_drewN | (refine Below.alloc ?_ (by (try simp) <;> omega) _) | (refine Below.setCell ?_ (by (try simp) <;> omega) _)))⟩
theorem saf_inv (k n t : Int) (hn : t < 4294967296) (he0 : 0 ≤ t) (h : ¬ VG k t) (v : Value) :
    Calls Try.prog 91 #[.agg #[.int .i64 k, .int .u32 t], .int .i64 n, v] w (RetK w [] 1) := by
  go_enter Try.func91, Try.ntmps91
  go_wp2_with fail
  refine (ok_f _ k t hn he0 h).mono ?_
  rintro r1 w1 ⟨rfl, hb1⟩
  go_wp2
  go_ret2
  exact ⟨⟨_, rfl, ownK_zero _ _ _⟩, by (repeat (first | exact Below.refl _ _ | assumption | refine bchain (by assumption) ?_ | refine balloc ?_ _ | apply Below.drew | apply below_drewN | (refine Below.alloc ?_ (by (try simp) <;> omega) _) | (refine Below.setCell ?_ (by (try simp) <;> omega) _)))⟩
set_option maxHeartbeats 1000000 in
theorem iaf_code (k n t c : Int) (hc : c ≠ 0 ∨ (c = 0 ∧ (3 < k ∨ n < k ∨ 5 < n))) (h : VG k t) (a : Option Addr) (l cap : Nat) (hF : ∀ W, Below w.heap.size w W → Calls Try.prog 57 #[.slice a l cap] W fun r w' => r = .returned (.int .i64 c) ∧ Below W.heap.size W w') :
    Calls Try.prog 93 #[.agg #[.int .i64 k, .int .u32 t], .int .i64 n, .slice a l cap] w (RetK w [] (if c = 0 then 2 else c)) := by
  replace hF := Lib.hid hF
  obtain ⟨W0, hW0⟩ : ∃ W0, W0 = (w.alloc (.cells #[.int .i64 (k : Int), .int .u32 (t : Int)] 32)).alloc (.cells #[.slice a l cap] 36) := ⟨_, rfl⟩
  have hB0 : Below w.heap.size w W0 := by rw [hW0]; (repeat (first | exact Below.refl _ _ | assumption | refine bchain (by assumption) ?_ | refine balloc ?_ _ | apply Below.drew | apply below_drewN | (refine Below.alloc ?_ (by (try simp) <;> omega) _) | (refine Below.setCell ?_ (by (try simp) <;> omega) _)))
  have hA0 : W0.cell? ⟨w.heap.size + 1, 0, none⟩ = some (.slice a l cap) := by rw [hW0, cNew _ _ _ _ _ (by simp)]; rfl
  have hg0 : W0.cell? ⟨w.heap.size, 0, none⟩ = some (.int .i64 k) := by rw [hW0, cOld _ _ _ _ (by simp), cNew _ _ _ _ _ rfl]; rfl
  have hz0 : w.heap.size + 1 < W0.heap.size := by rw [hW0]; simp
  replace hW0 := Lib.hid hW0
  have hcond : (c ≠ 0) ∨ (c = 0 ∧ 3 < k) ∨ (c = 0 ∧ ¬ 3 < k ∧ n < k) ∨ (c = 0 ∧ ¬ 3 < k ∧ ¬ n < k ∧ 5 < n) := by omega
  clear hc
  rcases hcond with hc | ⟨rfl, h1⟩ | ⟨rfl, h1, h2⟩ | ⟨rfl, h1, h2, h3⟩
  · have hne : (c == 0) = false := by simpa using hc
    rw [if_neg hc]
    clear hc
    go_enter Try.func93, Try.ntmps93
    go_wp2_with fail
    refine (valid_t _ k t h).mono ?_
    rintro r1 w1 ⟨rfl, hb1⟩
    rw [← hW0.out] at hb1
    have hA1 := (hb1.cell (p := ⟨w.heap.size + 1, 0, none⟩) hz0).trans hA0
    have hB1 := hB0.trans (hb1.mono hB0.size)
    clear hb1 hB0 hA0
    go_wp2_with fail
    refine (hF.out _ hB1).mono ?_
    rintro r2 w2 ⟨rfl, hb2⟩
    have hB2 := hB1.trans (hb2.mono hB1.size)
    clear hb2 hB1 hA1
    go_wp2
    go_ret2
    exact ⟨⟨_, rfl, ownK_zero _ _ _⟩, hB2⟩
  · have e1 : decide (3 < k) = true := decide_eq_true h1
    rw [if_pos rfl]
    go_enter Try.func93, Try.ntmps93
    go_wp2_with fail
    refine (valid_t _ k t h).mono ?_
    rintro r1 w1 ⟨rfl, hb1⟩
    rw [← hW0.out] at hb1
    have hA1 := (hb1.cell (p := ⟨w.heap.size + 1, 0, none⟩) hz0).trans hA0
    have p0 := (hb1.cell (p := ⟨w.heap.size, 0, none⟩) (by show w.heap.size < _; omega)).trans hg0
    have hB1 := hB0.trans (hb1.mono hB0.size)
    have hz1 : w.heap.size + 1 < w1.heap.size := by have := hb1.size; omega
    clear hb1 hB0 hA0 hg0 hz0
    go_wp2_with fail
    refine (hF.out _ hB1).mono ?_
    rintro r2 w2 ⟨rfl, hb2⟩
    have p2 := (hb2.cell (p := ⟨w.heap.size, 0, none⟩) (by show w.heap.size < _; omega)).trans p0
    have hB2 := hB1.trans (hb2.mono hB1.size)
    clear hb2 hB1 hA1 p0 hz1
    go_wp2
    go_ret2
    exact ⟨⟨_, rfl, ownK_zero _ _ _⟩, hB2⟩
  · have e1 : decide (3 < k) = false := decide_eq_false h1
    have e2 : decide (n < k) = true := decide_eq_true h2
    rw [if_pos rfl]
    go_enter Try.func93, Try.ntmps93
    go_wp2_with fail
    refine (valid_t _ k t h).mono ?_
    rintro r1 w1 ⟨rfl, hb1⟩
    rw [← hW0.out] at hb1
    have hA1 := (hb1.cell (p := ⟨w.heap.size + 1, 0, none⟩) hz0).trans hA0
    have p0 := (hb1.cell (p := ⟨w.heap.size, 0, none⟩) (by show w.heap.size < _; omega)).trans hg0
    have hB1 := hB0.trans (hb1.mono hB0.size)
    have hz1 : w.heap.size + 1 < w1.heap.size := by have := hb1.size; omega
    clear hb1 hB0 hA0 hg0 hz0
    go_wp2_with fail
    refine (hF.out _ hB1).mono ?_
    rintro r2 w2 ⟨rfl, hb2⟩
    have p2 := (hb2.cell (p := ⟨w.heap.size, 0, none⟩) (by show w.heap.size < _; omega)).trans p0
    have hB2 := hB1.trans (hb2.mono hB1.size)
    clear hb2 hB1 hA1 p0 hz1
    go_wp2
    go_ret2
    exact ⟨⟨_, rfl, ownK_zero _ _ _⟩, hB2⟩
  · have e1 : decide (3 < k) = false := decide_eq_false h1
    have e2 : decide (n < k) = false := decide_eq_false h2
    have e3 : decide (5 < n) = true := decide_eq_true h3
    rw [if_pos rfl]
    go_enter Try.func93, Try.ntmps93
    go_wp2_with fail
    refine (valid_t _ k t h).mono ?_
    rintro r1 w1 ⟨rfl, hb1⟩
    rw [← hW0.out] at hb1
    have hA1 := (hb1.cell (p := ⟨w.heap.size + 1, 0, none⟩) hz0).trans hA0
    have p0 := (hb1.cell (p := ⟨w.heap.size, 0, none⟩) (by show w.heap.size < _; omega)).trans hg0
    have hB1 := hB0.trans (hb1.mono hB0.size)
    have hz1 : w.heap.size + 1 < w1.heap.size := by have := hb1.size; omega
    clear hb1 hB0 hA0 hg0 hz0
    go_wp2_with fail
    refine (hF.out _ hB1).mono ?_
    rintro r2 w2 ⟨rfl, hb2⟩
    have p2 := (hb2.cell (p := ⟨w.heap.size, 0, none⟩) (by show w.heap.size < _; omega)).trans p0
    have hB2 := hB1.trans (hb2.mono hB1.size)
    clear hb2 hB1 hA1 p0 hz1
    go_wp2
    go_ret2
    exact ⟨⟨_, rfl, ownK_zero _ _ _⟩, hB2⟩
set_option maxHeartbeats 1000000 in
theorem saf_code (k n t c : Int) (hc : c ≠ 0 ∨ (c = 0 ∧ (3 < k ∨ n < k ∨ 5 < n))) (h : VG k t) (v : Value) (hF : ∀ W, Below w.heap.size w W → Calls Try.prog 51 #[v] W fun r w' => r = .returned (.int .i64 c) ∧ Below W.heap.size W w') :
    Calls Try.prog 91 #[.agg #[.int .i64 k, .int .u32 t], .int .i64 n, v] w (RetK w [] (if c = 0 then 2 else c)) := by
  replace hF := Lib.hid hF
  obtain ⟨W0, hW0⟩ : ∃ W0, W0 = w.alloc (.cells #[.int .i64 (k : Int), .int .u32 (t : Int)] 32) := ⟨_, rfl⟩
  have hB0 : Below w.heap.size w W0 := by rw [hW0]; (repeat (first | exact Below.refl _ _ | assumption | refine bchain (by assumption) ?_ | refine balloc ?_ _ | apply Below.drew | apply below_drewN | (refine Below.alloc ?_ (by (try simp) <;> omega) _) | (refine Below.setCell ?_ (by (try simp) <;> omega) _)))
  have hg0 : W0.cell? ⟨w.heap.size, 0, none⟩ = some (.int .i64 k) := by rw [hW0, cNew _ _ _ _ _ rfl]; rfl
  have hz0 : w.heap.size < W0.heap.size := by rw [hW0]; simp
  replace hW0 := Lib.hid hW0
  have hcond : (c ≠ 0) ∨ (c = 0 ∧ 3 < k) ∨ (c = 0 ∧ ¬ 3 < k ∧ (n < k ∨ 5 < n)) := by omega
  clear hc
  rcases hcond with hc | ⟨rfl, h1⟩ | ⟨rfl, h1, h2⟩
  · have hne : (c == 0) = false := by simpa using hc
    rw [if_neg hc]
    clear hc
    go_enter Try.func91, Try.ntmps91
    go_wp2_with fail
    refine (ok_t _ k t h).mono ?_
    rintro r1 w1 ⟨rfl, hb1⟩
    rw [← hW0.out] at hb1
    have hB1 := hB0.trans (hb1.mono hB0.size)
    clear hb1 hB0
    go_wp2_with fail
    refine (hF.out _ hB1).mono ?_
    rintro r2 w2 ⟨rfl, hb2⟩
    have hB2 := hB1.trans (hb2.mono hB1.size)
    clear hb2 hB1
    go_wp2
    go_ret2
    exact ⟨⟨_, rfl, ownK_zero _ _ _⟩, by (repeat (first | exact Below.refl _ _ | assumption | refine bchain (by assumption) ?_ | refine balloc ?_ _ | apply Below.drew | apply below_drewN | (refine Below.alloc ?_ (by (try simp) <;> omega) _) | (refine Below.setCell ?_ (by (try simp) <;> omega) _)))⟩
  · have e1 : decide (3 < k) = true := decide_eq_true h1
    rw [if_pos rfl]
    go_enter Try.func91, Try.ntmps91
    go_wp2_with fail
    refine (ok_t _ k t h).mono ?_
    rintro r1 w1 ⟨rfl, hb1⟩
    rw [← hW0.out] at hb1
    have p0 := (hb1.cell (p := ⟨w.heap.size, 0, none⟩) hz0).trans hg0
    have hB1 := hB0.trans (hb1.mono hB0.size)
    have hz1 : w.heap.size < w1.heap.size := by have := hb1.size; omega
    clear hb1 hB0 hg0 hz0
    go_wp2_with fail
    refine (hF.out _ hB1).mono ?_
    rintro r2 w2 ⟨rfl, hb2⟩
    have p2 := (hb2.cell (p := ⟨w.heap.size, 0, none⟩) hz1).trans p0
    have hB2 := hB1.trans (hb2.mono hB1.size)
    clear hb2 hB1 p0 hz1
    go_wp2
    go_ret2
    exact ⟨⟨_, rfl, ownK_zero _ _ _⟩, by (repeat (first | exact Below.refl _ _ | assumption | refine bchain (by assumption) ?_ | refine balloc ?_ _ | apply Below.drew | apply below_drewN | (refine Below.alloc ?_ (by (try simp) <;> omega) _) | (refine Below.setCell ?_ (by (try simp) <;> omega) _)))⟩
  · have e1 : decide (3 < k) = false := decide_eq_false h1
    rw [if_pos rfl]
    go_enter Try.func91, Try.ntmps91
    go_wp2_with fail
    refine (ok_t _ k t h).mono ?_
    rintro r1 w1 ⟨rfl, hb1⟩
    rw [← hW0.out] at hb1
    have p0 := (hb1.cell (p := ⟨w.heap.size, 0, none⟩) hz0).trans hg0
    have hB1 := hB0.trans (hb1.mono hB0.size)
    have hz1 : w.heap.size < w1.heap.size := by have := hb1.size; omega
    clear hb1 hB0 hg0 hz0
    go_wp2_with fail
    refine (hF.out _ hB1).mono ?_
    rintro r2 w2 ⟨rfl, hb2⟩
    have p2 := (hb2.cell (p := ⟨w.heap.size, 0, none⟩) hz1).trans p0
    have hB2 := hB1.trans (hb2.mono hB1.size)
    clear hb2 hB1 p0 hz1
    go_wp2_with (go_at_call 106; refine (in_f _ n k 5 h2).mono ?_; rintro r3 w3 ⟨rfl, rfl⟩)
    go_ret2
    exact ⟨⟨_, rfl, ownK_zero _ _ _⟩, by (repeat (first | exact Below.refl _ _ | assumption | refine bchain (by assumption) ?_ | refine balloc ?_ _ | apply Below.drew | apply below_drewN | (refine Below.alloc ?_ (by (try simp) <;> omega) _) | (refine Below.setCell ?_ (by (try simp) <;> omega) _)))⟩
set_option maxHeartbeats 1000000 in
theorem saf_ok (k n t : Nat) (hn5 : n ≤ 5) (hk3 : k ≤ 3) (hkn : k ≤ n) (ht : t < eMax k) (v : Value) (gs : List (Int × Int)) (hS : SlG w v gs) (hm : gs.length ≤ 1048576) (hbd : Bd gs) (hV : AllV gs) (h6 : gs.length ≤ 6) :
    Calls Try.prog 91 #[.agg #[.int .i64 k, .int .u32 t], .int .i64 n, v] w (RetLim w (flL n k t gs (kM k n))) := by
  obtain ⟨a, cap, rfl, hc⟩ := hS.lies
  have hF := Lib.hid (fun W (hW : Below w.heap.size w W) => sf_ok W a cap gs hm (hc.below hW) hbd hV h6)
  have hA := Lib.hid (fun W (hW : Below w.heap.size w W) => sla_any W k n t hn5 hk3 hkn ht a cap gs (hc.below hW) hm hV)
  have hVt : VG k t := ⟨by omega, by omega, by omega, by simpa using ht⟩
  have hLl := flL_len n k t gs (kM k n)
  have hLm := kM_le n hn5 k
  obtain ⟨L, hL⟩ : ∃ L, flL n k t gs (kM k n) = L := ⟨_, rfl⟩
  rw [hL] at hA hLl ⊢
  obtain ⟨l, hl⟩ : ∃ l, gs.length = l := ⟨_, rfl⟩
  rw [hl] at hF hA ⊢
  have hLb : L.length ≤ 1024 := by omega
  clear hL hl hm hbd hV h6 hc hS hLl hLm ht
  obtain ⟨W0, hW0⟩ : ∃ W0, W0 = w.alloc (.cells #[.int .i64 (k : Int), .int .u32 (t : Int)] 32) := ⟨_, rfl⟩
  have hB0 : Below w.heap.size w W0 := by rw [hW0]; (repeat (first | exact Below.refl _ _ | assumption | refine bchain (by assumption) ?_ | refine balloc ?_ _ | apply Below.drew | apply below_drewN | (refine Below.alloc ?_ (by (try simp) <;> omega) _) | (refine Below.setCell ?_ (by (try simp) <;> omega) _)))
  have hg0 : W0.cell? ⟨w.heap.size, 0, none⟩ = some (.int .i64 k) := by rw [hW0, cNew _ _ _ _ _ rfl]; rfl
  have hg1 : W0.cell? ⟨w.heap.size, 1, none⟩ = some (.int .u32 t) := by rw [hW0, cNew _ _ _ _ _ rfl]; rfl
  have hz0 : w.heap.size < W0.heap.size := by rw [hW0]; simp
  replace hW0 := Lib.hid hW0
  go_enter Try.func91, Try.ntmps91
  go_wp2_with fail
  refine (ok_t _ k t hVt).mono ?_
  rintro r1 w1 ⟨rfl, hb1⟩
  rw [← hW0.out] at hb1
  have p0 := (hb1.cell (p := ⟨w.heap.size, 0, none⟩) hz0).trans hg0
  have p1 := (hb1.cell (p := ⟨w.heap.size, 1, none⟩) hz0).trans hg1
  have hB1 := hB0.trans (hb1.mono hB0.size)
  have hz1 : w.heap.size < w1.heap.size := by have := hb1.size; omega
  clear hb1 hB0 hg0 hg1 hz0
  go_wp2_with fail
  refine (hF.out _ hB1).mono ?_
  rintro r2 w2 ⟨rfl, hb2⟩
  have p2 := (hb2.cell (p := ⟨w.heap.size, 0, none⟩) hz1).trans p0
  have p3 := (hb2.cell (p := ⟨w.heap.size, 1, none⟩) hz1).trans p1
  have hB2 := hB1.trans (hb2.mono hB1.size)
  have hz2 : w.heap.size < w2.heap.size := by have := hb2.size; omega
  clear hb2 hB1 p0 p1 hz1
  go_wp2_with (go_at_call 106; refine (in_t _ n k 5 (by omega) (by omega)).mono ?_; rintro r3 w3 ⟨rfl, rfl⟩)
  refine (hA.out _ hB2).mono ?_
  rintro r4 w4 ⟨⟨u, rfl, hO⟩, hb4⟩
  have hB4 := hB2.trans (hb4.mono hB2.size)
  have hO4 := Lib.hid (hO.mono hB2.size)
  obtain ⟨ll, hll⟩ : ∃ ll, L.length = ll := ⟨_, rfl⟩
  obtain ⟨a', cap', rfl, _⟩ := id hO
  clear hO
  have hO5 := Lib.hid (show OwnK w w4 (.slice a' ll cap') L by have := hO4.out; rw [hll] at this; exact this)
  rw [hll] at hLb ⊢
  clear hO4
  replace hll := Lib.hid hll
  clear hb4 hB2 p2 p3
  by_cases h64 : ll ≤ 64
  · have hd : decide (64 < (ll : Int)) = false := decide_eq_false (by omega)
    go_wp2
    go_ret2
    exact .inl ⟨by rw [hll.out]; exact h64, ⟨_, rfl, hO5.out⟩, by (repeat (first | exact Below.refl _ _ | assumption | refine bchain (by assumption) ?_ | refine balloc ?_ _ | apply Below.drew | apply below_drewN | (refine Below.alloc ?_ (by (try simp) <;> omega) _) | (refine Below.setCell ?_ (by (try simp) <;> omega) _)))⟩
  · have hd : decide (64 < (ll : Int)) = true := decide_eq_true (by omega)
    go_wp2
    go_ret2
    exact .inr ⟨by rw [hll.out]; omega, ⟨_, rfl, ownK_zero _ _ _⟩, by (repeat (first | exact Below.refl _ _ | assumption | refine bchain (by assumption) ?_ | refine balloc ?_ _ | apply Below.drew | apply below_drewN | (refine Below.alloc ?_ (by (try simp) <;> omega) _) | (refine Below.setCell ?_ (by (try simp) <;> omega) _)))⟩
end
theorem RetLim.both {W : World} {L : List (Int × Int × Int)} (c : Int) (L' : List (Int × Int × Int)) (h : (L.length ≤ 64 ∧ c = 0 ∧ L' = L) ∨ (64 < L.length ∧ c = 3 ∧ L' = [])) {P : Program} {f : FuncId} {args : Array Value} (hC : Calls P f args W (RetLim W L)) : Calls P f args W (RetK W L' c) := hC.mono fun r w' hr => by
  rcases h with ⟨h, rfl, rfl⟩ | ⟨h, rfl, rfl⟩ <;> rcases hr with ⟨h1, h2⟩ | ⟨h1, h2⟩ <;> first | exact h2 | omega
theorem af_both (k n t : Int) (hn : t < 4294967296) (he0 : 0 ≤ t) (gs : List (Int × Int)) (hm : gs.length ≤ 1048576) (hbd : Bd gs) : ∃ (L : List (Int × Int × Int)) (c : Int), L.length ≤ 1024 ∧
    (∀ W v, SlG W v gs → Calls Try.prog 91 #[.agg #[.int .i64 k, .int .u32 t], .int .i64 n, v] W (RetK W L c)) ∧
    (∀ W v, SlG W v gs → Calls Try.prog 93 #[.agg #[.int .i64 k, .int .u32 t], .int .i64 n, v] W (RetK W L c)) := by
  by_cases hv : VG k t
  · obtain ⟨c, h0, _, _, hi, hs⟩ := forb_both gs hm hbd
    by_cases hc : c ≠ 0 ∨ (c = 0 ∧ (3 < k ∨ n < k ∨ 5 < n))
    · refine ⟨[], if c = 0 then 2 else c, by simp, fun W v hS => ?_, fun W v hS => ?_⟩
      · obtain ⟨a, cap, rfl, hl⟩ := hS.lies
        exact saf_code W k n t c hc hv _ (fun W' hW => hs W' a cap (hl.below hW))
      · obtain ⟨a, cap, rfl, hl⟩ := hS.lies
        exact iaf_code W k n t c hc hv a _ cap (fun W' hW => hi W' a cap (hl.below hW))
    · have hc0 : c = 0 := by omega
      obtain ⟨hV, h6⟩ := h0 hc0
      have hv0 := hv.1
      obtain ⟨k, rfl⟩ : ∃ x : Nat, k = x := ⟨k.toNat, by omega⟩
      obtain ⟨n, rfl⟩ : ∃ x : Nat, n = x := ⟨n.toNat, by omega⟩
      obtain ⟨t, rfl⟩ : ∃ x : Nat, t = x := ⟨t.toNat, by omega⟩
      have ht : t < eMax k := by have := hv.2.2.2; simpa using this
      have hlb := flL_len n k t gs (kM k n)
      have hLm := kM_le n (by omega) k
      have hi2 := fun W v hS => iaf_ok W k n t (by omega) (by omega) (by omega) ht v gs hS hm hbd hV h6
      have hs2 := fun W v hS => saf_ok W k n t (by omega) (by omega) (by omega) ht v gs hS hm hbd hV h6
      by_cases h64 : (flL n k t gs (kM k n)).length ≤ 64
      · exact ⟨flL n k t gs (kM k n), 0, by omega, fun W v hS => RetLim.both (hC := hs2 W v hS) 0 _ (.inl ⟨h64, rfl, rfl⟩), fun W v hS => RetLim.both (hC := hi2 W v hS) 0 _ (.inl ⟨h64, rfl, rfl⟩)⟩
      · exact ⟨[], 3, by simp, fun W v hS => RetLim.both (hC := hs2 W v hS) 3 _ (.inr ⟨by omega, rfl, rfl⟩), fun W v hS => RetLim.both (hC := hi2 W v hS) 3 _ (.inr ⟨by omega, rfl, rfl⟩)⟩
  · refine ⟨[], 1, by simp, fun W v hS => saf_inv W k n t hn he0 hv v, fun W v hS => ?_⟩
    obtain ⟨a, cap, rfl, hl⟩ := hS.lies
    exact iaf_inv W k n t hn he0 hv a _ cap
end Go.Proofs.Ytpobonomdfbanaa
/-
  Can a flag lose a vertex and be one of a set: the program's contract.
-/
namespace Go.Proofs.Ytpobonomdfbanaa
open Go.RowKit Go.Shelf
set_option maxRecDepth 100000

def othTo (k a v : Nat) : List Nat := (List.range v).filter fun x => decide (k ≤ x) && x != a
theorem othTo_t {k a v : Nat} (h1 : k ≤ v) (h2 : v ≠ a) : othTo k a (v + 1) = othTo k a v ++ [v] := by simp [othTo, List.range_succ, List.filter_append, h1, h2]
theorem othTo_f {k a : Nat} : othTo k a (a + 1) = othTo k a a := by simp [othTo, List.range_succ, List.filter_append]
theorem othTo_zero {k a : Nat} : othTo k a k = [] := by
  unfold othTo
  rw [List.filter_eq_nil_iff]
  intro x hx
  rw [List.mem_range] at hx
  simp
  omega
theorem othTo_len (k a v : Nat) : (othTo k a v).length ≤ v := by
  have := List.length_filter_le (fun x => decide (k ≤ x) && x != a) (List.range v)
  simpa [othTo] using this
theorem slI_of_row {w : World} {base : Nat} {e : TypeId} {v : Value} {x : List Nat} (h : w.ownsRow base e 1 v x.length (rowN x)) : SlI w v (zl x) ∧ (x ≠ [] → ∃ ad cap, v = .slice (some ad) (zl x).length cap) ∧ (x = [] → v = .slice none 0 0 ∨ ∃ ad cap, v = .slice (some ad) 0 cap) := by
  obtain ⟨hl, (⟨rfl, h0⟩ | ⟨g, cap, cur, rfl, hg, hh, hn, hc, hs, hx⟩)⟩ := h
  · have hxe : x = [] := List.length_eq_zero_iff.1 h0
    subst hxe
    exact ⟨⟨none, 0, rfl, Nat.le_refl _, by omega, fun c => absurd rfl c⟩, fun c => absurd rfl c, fun _ => .inl rfl⟩
  · have hcell : ∀ i, w.cell? ⟨g, i, none⟩ = cur[i]? := fun i => by simp [World.cell?, hh]
    refine ⟨⟨some ⟨g, 0, none⟩, cap, by rw [zl_length], by rw [zl_length]; exact hn, by unfold maxLen at hc; omega, fun _ => ⟨g, 0, rfl, (Array.getElem?_eq_some_iff.1 hh).1, fun i hi => ?_⟩⟩, fun _ => ⟨_, cap, by rw [zl_length]⟩, fun c => .inr ⟨_, cap, by rw [c]; rfl⟩⟩
    rw [zl_length] at hi
    have h1 : (rowN x)[i]? = some (.int .i64 ((zl x)[i]?.getD 0)) := by simp [rowN, zl, List.getElem?_eq_getElem hi]
    have h2 : (cur.toList.take (x.length * 1))[i]? = some (.int .i64 ((zl x)[i]?.getD 0)) := by rw [hx]; exact h1
    rw [List.getElem?_take_of_lt (by omega)] at h2
    rw [Nat.zero_add, hcell]
    simpa using h2
section
variable (w : World)
theorem cpart_any (k n m y a : Nat) (v : Value) (hm : n + 1 = m) (hn : n ≤ 4) (hk : k ≤ 3) (ha : k ≤ a) (ha2 : a < m) (hy : VK k m y) {base : Nat} {e : TypeId} (h : w.ownsRow base e 1 v (oth k m a).length (rowN (oth k m a))) :
    Calls Try.prog 117 #[.agg #[.int .i64 k, .int .i64 m, .int .u32 y], v] w fun r w' => r = .returned (.agg #[.int .i64 k, .int .i64 n, .int .u32 (onL y (List.range k ++ oth k m a) : Nat)]) ∧ Below w.heap.size w w' := by
  obtain ⟨hL, _⟩ := oth_facts m (by omega) k hk a ha2 ha
  rw [show m - 1 = n by omega] at hL
  have hlen := ok_length hL
  rw [List.length_append, List.length_range] at hlen
  obtain ⟨h1, h2, h3⟩ := slI_of_row h
  by_cases hx : oth k m a = []
  · rw [hx] at hlen
    obtain rfl : k = n := by simpa using hlen
    rcases h3 hx with rfl | ⟨ad, cap, hv⟩
    · rw [hx, List.append_nil]
      exact kpart_nil w k m y hy
    · have := kpart_any w k m y 0 [] v hy ⟨by rw [hx] at h1; exact h1, ad, cap, hv⟩ rfl (by rw [hx] at hL; exact hL)
      rw [hx]
      exact this
  · obtain ⟨q, hq⟩ : ∃ q, (oth k m a).length = q := ⟨_, rfl⟩
    rw [hq] at hlen
    have := kpart_any w k m y q (oth k m a) v hy ⟨h1, h2 hx⟩ hq (by rw [hlen]; exact hL)
    rw [hlen] at this
    exact this
set_option maxHeartbeats 4000000 in
theorem can_any (k n m y M : Nat) (S : List Nat) (hm : n + 1 = m) (hn : n ≤ 4) (hk : k ≤ 3) (hkn : k ≤ n) (hy : VK k m y) (hS : FSet w M k n S) :
    Calls Try.prog 63 #[.agg #[.int .i64 k, .int .i64 m, .int .u32 y], .map (some M)] w fun r w' => r = .returned (.bool ((List.range m).any fun a => decide (k ≤ a) && inS k n S k n (onL y (List.range k ++ oth k m a)))) ∧ Below w.heap.size w w' := by
  obtain ⟨R, hR⟩ : ∃ R, ((List.range m).any fun a => decide (k ≤ a) && inS k n S k n (onL y (List.range k ++ oth k m a))) = R := ⟨_, rfl⟩
  have hRt := Lib.hid (fun a (h1 : k ≤ a) (h2 : a < m) (h3 : inS k n S k n (onL y (List.range k ++ oth k m a)) = true) => (show R = true by rw [← hR]; exact List.any_eq_true.2 ⟨a, List.mem_range.2 h2, by simp [h1, h3]⟩))
  have hRf := Lib.hid (fun (h : ∀ a, k ≤ a → a < m → inS k n S k n (onL y (List.range k ++ oth k m a)) = false) => (show R = false by
    rw [← hR, List.any_eq_false]
    intro a ha
    rw [List.mem_range] at ha
    by_cases c : k ≤ a
    · simp [h a c ha]
    · simp [c]))
  have hP := Lib.hid (fun W a v (ha : k ≤ a) (ha2 : a < m) base e h => cpart_any W k n m y a v hm hn hk ha ha2 hy (base := base) (e := e) h)
  have hzl := Lib.hid (fun a (ha : k ≤ a) (ha2 : a < m) => (show onL y (List.range k ++ oth k m a) < 4294967296 by
    have h1 := ok_length (oth_facts m (by omega) k hk a ha2 ha).1
    have := onL_lt y (List.range k ++ oth k m a) (by omega)
    omega))
  rw [hR]
  obtain ⟨i0, hi, hz0, hz1, hz2⟩ := info_parts info_i64
  replace hi := Lib.hid hi
  replace hz0 := Lib.hid hz0
  replace hz1 := Lib.hid hz1
  replace hz2 := Lib.hid hz2
  have hF0 := FC.made w k m y 34
  have hm5 : m ≤ 5 := by omega
  have hkm : k ≤ m := by omega
  replace hS := Lib.hid hS
  clear hR hy hm
  go_enter Try.func63, Try.ntmps63
  go_wp2
  go_loopw [5] (fun i wr => ∃ a : Nat, k ≤ a ∧ a ≤ m ∧ i = .int .i64 a ∧ Hid (∀ b, k ≤ b → b < a → inS k n S k n (onL y (List.range k ++ oth k m b)) = false) ∧ FC wr w.heap.size k m y ∧ Below w.heap.size w wr) (fun i _ => m - (intOf i).toNat)
  case atStart => exact ⟨k, by omega, by omega, rfl, fun b h1 h2 => by omega, hF0, by (repeat (first | exact Below.refl _ _ | assumption | refine bchain (by assumption) ?_ | refine balloc ?_ _ | apply Below.drew | apply below_drewN | (refine Below.alloc ?_ (by (try simp) <;> omega) _) | (refine Below.setCell ?_ (by (try simp) <;> omega) _)))⟩
  case round =>
    clear hF0
    obtain ⟨a, hka, ham, rfl, hno, hF, hB⟩ := hrel
    rename World => V
    obtain ⟨f0, f1, f2, f3⟩ := id hF
    by_cases hlt : a < m
    · have hla : (a : Int) < (m : Int) := by omega
      go_wp2
      go_loopw [6, 7] (fun u i w2 => ∃ v : Nat, k ≤ v ∧ v ≤ m ∧ i = .int .i64 v ∧ Hid (w2.ownsRow V.heap.size 2 1 u (othTo k a v).length (rowN (othTo k a v))) ∧ FC w2 w.heap.size k m y ∧ Below V.heap.size V w2) (fun _ i _ => m - (intOf i).toNat)
      case atStart =>
        refine ⟨k, by omega, by omega, rfl, ?_, hF, Below.refl _ _⟩
        show World.ownsRow _ _ _ _ _ _ _
        rw [othTo_zero]
        exact ⟨rfl, .inl ⟨rfl, rfl⟩⟩
      case round =>
        clear f0 f1 f2 f3
        obtain ⟨v, hkv, hvm, rfl, hown, hF2, hB2⟩ := hrel
        obtain ⟨f0, f1, f2, f3⟩ := id hF2
        have hsz2 := hB2.size
        by_cases hvl : v < m
        · have hlv : (v : Int) < (m : Int) := by omega
          have hol := othTo_len k a v
          by_cases hva : v = a
          · subst hva
            have hnx : othTo k v (v + 1) = othTo k v v := othTo_f
            go_wp2
            go_roundw
            case rel => exact ⟨v + 1, by omega, by omega, by go_num, by show World.ownsRow _ _ _ _ _ _ _; rw [hnx]; exact hown.out, hF2, hB2⟩
            case measure => simp [intOf]; omega
          · have hne1 : ((v : Int) == (a : Int)) = false := by simp; omega
            have hnx := othTo_t hkv hva
            go_wp2_with (at_builtin; refine wpList_append_own _ rfl _ _ 82 rfl V.heap.size 2 i0 (.int .i64 0) 1 8 Try.underlying82 hi.out hz0.out hz1.out hz2.out rfl (by decide) _ _ _ rfl (hown.out.alloc _) ⟨wr.heap.size, 0, none⟩ 1 1 [.int .i64 v] rfl rfl (fun q u hq => by match q, hq with
              | 0, hq => simp at hq; subst hq; rw [show (⟨wr.heap.size, 0, none⟩ : Addr).add 0 = ⟨wr.heap.size, 0, none⟩ from rfl, World.cell?_alloc_new]; rfl
              | q + 1, hq => simp at hq) (fun u hu => by simp at hu; subst hu; rfl) (by unfold maxLen; omega) (by omega) (by simp; omega) ?_; intro v' w5 hown' hgrow _)
            have hB5 : Below V.heap.size V w5 := (balloc hB2 _).grown hgrow (by simp; omega) (fun k hk => by have := (hown.out.lt k hk).1; omega)
            have hown5 : Hid (w5.ownsRow V.heap.size 2 1 v' (othTo k a (v + 1)).length (rowN (othTo k a (v + 1)))) := by
              show World.ownsRow _ _ _ _ _ _ _
              rw [hnx, rowN_snoc, List.length_append]
              exact hown'
            have hF5 : FC w5 w.heap.size k m y := hF.below hB5
            clear hown' hgrow hown
            go_roundw
            case rel => exact ⟨v + 1, by omega, by omega, by go_num, hown5, hF5, hB5⟩
            case measure => simp [intOf]; omega
        · obtain rfl : v = m := by omega
          have hdv := decide_eq_false (show ¬ ((v : Int) < (v : Int)) by omega)
          have hC := Lib.hid (hP.out _ a _ hka hlt _ _ hown.out)
          have hz := hzl.out a hka hlt
          have hno2 := Lib.hid (fun (h : inS k n S k n (onL y (List.range k ++ oth k v a)) = false) b (h1 : k ≤ b) (h2 : b < a + 1) => (show inS k n S k n (onL y (List.range k ++ oth k v b)) = false from by
            by_cases c : b = a
            · rw [c]; exact h
            · exact hno.out b h1 (by omega)))
          have hRt1 := hRt.out a hka hlt
          have hB3 := hB.trans (hB2.mono hB.size)
          have hS2 := hS.out.below hB3
          obtain ⟨z, hzz⟩ : ∃ z, onL y (List.range k ++ oth k v a) = z := ⟨_, rfl⟩
          rw [hzz] at hC hz hno2 hRt1
          obtain ⟨bb, hbb⟩ : ∃ bb, inS k n S k n z = bb := ⟨_, rfl⟩
          rw [hbb] at hno2 hRt1
          replace hbb := Lib.hid hbb
          clear hown hno hzz
          cases bb
          · have hno3 := Lib.hid (hno2.out rfl)
            clear hno2 hRt1
            go_wp2_with (first
              | (go_at_call 117; refine (hC.out).mono ?_; rintro r3 w3 ⟨rfl, hb3⟩; have hS3 := hS2.below hb3)
              | (at_lookup; refine wpList_flagLook rfl _ _ rfl M k n S rfl hS3 k n z rfl (by omega) (by omega) hz false hbb.out ?_))
            have hB4 := hB3.trans (hb3.mono hB3.size)
            have hF4 := hF2.below hb3
            go_roundw
            case rel => exact ⟨a + 1, by omega, by omega, by go_num, hno3, hF4, hB4⟩
            case measure => simp [intOf]; omega
          · have hres := hRt1 rfl
            clear hno2 hRt1
            go_wp2_with (first
              | (go_at_call 117; refine (hC.out).mono ?_; rintro r3 w3 ⟨rfl, hb3⟩; have hS3 := hS2.below hb3)
              | (at_lookup; refine wpList_flagLook rfl _ _ rfl M k n S rfl hS3 k n z rfl (by omega) (by omega) hz true hbb.out ?_))
            go_ret
            exact ⟨by rw [hres]; rfl, hB3.trans (hb3.mono hB3.size)⟩
    · obtain rfl : a = m := by omega
      have hda := decide_eq_false (show ¬ ((a : Int) < (a : Int)) by omega)
      have hres := hRf.out hno.out
      go_wp2
      go_ret
      exact ⟨by rw [hres]; rfl, hB⟩
end
end Go.Proofs.Ytpobonomdfbanaa
/-
  ExtensionsOf: the program's closure.
-/
namespace Go.Proofs.Ytpobonomdfbanaa
open Go.RowKit Go.Shelf
set_option maxRecDepth 100000

/-- can a flag lose a vertex and be alike another one -/
def canB (k n e y : Nat) : Bool := (List.range (n + 1)).any fun a => decide (k ≤ a) && inS k n (tE n k e) k n (onL y (List.range k ++ oth k (n + 1) a))
section
variable (w : World)
set_option maxHeartbeats 1000000 in
theorem exc_any (k n m e y M Ba Bb : Nat) (hm : n + 1 = m) (hn : n ≤ 4) (hk : k ≤ 3) (hkn : k ≤ n) (hy : VK k m y) (hS : FSet w M k n (tE n k e)) (a : Option Addr) (cap : Nat) (gs : List (Int × Int)) (hgm : gs.length ≤ 1048576) (hc : Lies w a gs) (hV : AllV gs)
    (hBa : Ba < w.heap.size) (hA : w.cell? ⟨Ba, 0, none⟩ = some (.map (some M))) (hBb : Bb < w.heap.size) (hB : w.cell? ⟨Bb, 0, none⟩ = some (.slice a gs.length cap)) :
    Calls Try.prog 62 #[.agg #[.int .i64 k, .int .i64 m, .int .u32 y], .pointer (some ⟨Ba, 0, none⟩), .pointer (some ⟨Bb, 0, none⟩)] w fun r w' => r = .returned (.bool (canB k n e y && freeB m y gs)) ∧ Below w.heap.size w w' := by
  have hC := Lib.hid (fun W (hW : Below w.heap.size w W) => can_any W k n m y M (tE n k e) hm hn hk hkn hy (hS.below hW))
  have hF := Lib.hid (fun W (hW : Below w.heap.size w W) => ifree_any W m y hy.1 a cap gs hgm (hc.below hW) hV)
  subst hm
  have hd : canB k n e y = (List.range (n + 1)).any fun a => decide (k ≤ a) && inS k n (tE n k e) k n (onL y (List.range k ++ oth k (n + 1) a)) := rfl
  rw [← hd] at hC
  obtain ⟨m, hm⟩ : ∃ m, n + 1 = m := ⟨_, rfl⟩
  obtain ⟨c, hcd⟩ : ∃ c, canB k n e y = c := ⟨_, rfl⟩
  rw [hm] at hC hF ⊢
  obtain ⟨b, hb⟩ : ∃ b, freeB m y gs = b := ⟨_, rfl⟩
  obtain ⟨l, hl⟩ : ∃ l, gs.length = l := ⟨_, rfl⟩
  rw [hcd] at hC ⊢
  rw [hb, hl] at hF
  rw [hb]
  rw [hl] at hB
  clear hb hl hgm hV hc hS hy hcd hd
  cases c
  · go_enter Try.func62, Try.ntmps62
    go_wp2_with (go_at_call 63; refine (hC.out _ (by (repeat (first | exact Below.refl _ _ | assumption | refine bchain (by assumption) ?_ | refine balloc ?_ _ | apply Below.drew | apply below_drewN | (refine Below.alloc ?_ (by (try simp) <;> omega) _) | (refine Below.setCell ?_ (by (try simp) <;> omega) _))))).mono ?_; rintro r1 w1 ⟨rfl, hb1⟩)
    go_ret
    exact ⟨rfl, by (repeat (first | exact Below.refl _ _ | assumption | refine bchain (by assumption) ?_ | refine balloc ?_ _ | apply Below.drew | apply below_drewN | (refine Below.alloc ?_ (by (try simp) <;> omega) _) | (refine Below.setCell ?_ (by (try simp) <;> omega) _)))⟩
  · go_enter Try.func62, Try.ntmps62
    go_wp2_with (first
      | (go_at_call 63; refine (hC.out _ (by (repeat (first | exact Below.refl _ _ | assumption | refine bchain (by assumption) ?_ | refine balloc ?_ _ | apply Below.drew | apply below_drewN | (refine Below.alloc ?_ (by (try simp) <;> omega) _) | (refine Below.setCell ?_ (by (try simp) <;> omega) _))))).mono ?_; rintro r1 w1 ⟨rfl, hb1⟩; obtain ⟨hc1, hz1⟩ := bkeep hb1 w.heap.size (by (try simp) <;> omega); obtain ⟨hc2, hz2⟩ := bkeep hb1 Bb (by (try simp) <;> omega))
      | (go_at_call 64; refine (hF.out _ (by (repeat (first | exact Below.refl _ _ | assumption | refine bchain (by assumption) ?_ | refine balloc ?_ _ | apply Below.drew | apply below_drewN | (refine Below.alloc ?_ (by (try simp) <;> omega) _) | (refine Below.setCell ?_ (by (try simp) <;> omega) _))))).mono ?_; rintro r2 w2 ⟨rfl, hb2⟩))
    go_ret
    exact ⟨rfl, by (repeat (first | exact Below.refl _ _ | assumption | refine bchain (by assumption) ?_ | refine balloc ?_ _ | apply Below.drew | apply below_drewN | (refine Below.alloc ?_ (by (try simp) <;> omega) _) | (refine Below.setCell ?_ (by (try simp) <;> omega) _)))⟩
end
end Go.Proofs.Ytpobonomdfbanaa
/-
  CONTRACTS OF SizeOf, PlainFlag AND TypeOf: the program's and the model's.
-/
namespace Go.Proofs.Ytpobonomdfbanaa
open Go.RowKit
set_option maxRecDepth 100000

/-- the edges among the first k vertices -/
theorem and_first : ∀ k, k ≤ 3 → ∀ e, e < 1024 → e &&& (eMax k - 1) = onL e (List.range k) := by decide +kernel
theorem and_u32 (e m : Nat) (h1 : e < 4294967296) (h2 : m < 4294967296) : bits .and .u32 (e : Int) (m : Int) = ((e &&& m : Nat) : Int) := by
  rw [u32_and _ _ (by omega) (by omega) (by omega) (by omega)]
  simp
section
variable (w : World)
set_option maxHeartbeats 2000000 in
theorem ity_any (k n e : Nat) (h : VK k n e) :
    Calls Try.prog 61 #[.agg #[.int .i64 k, .int .i64 n, .int .u32 e]] w fun r w' => r = .returned (.agg #[.int .i64 k, .int .u32 (onL e (List.range k) : Nat)]) ∧ Below w.heap.size w w' := by
  have he : e < 1024 := by have := h.1.2.2.2; have := eMax_le n; simp at *; omega
  have hk3 : k ≤ 3 := by have := h.2.2.1; omega
  have hm := and_u32 e (eMax k - 1) (by omega) (by have := eMax_le k; omega)
  rw [and_first k hk3 e he] at hm
  obtain ⟨x, hx⟩ : ∃ x, onL e (List.range k) = x := ⟨_, rfl⟩
  rw [hx] at hm ⊢
  clear hx h
  go_enter Try.func61, Try.ntmps61
  go_wp2
  go_region_with (go_at_call 116; refine (ae_any _ k (by omega)).mono ?_; rintro r1 w1 ⟨rfl, rfl⟩)
  all_goals go_wp2
  all_goals exact bodyPost_ret (v := .agg #[.int .i64 k, .int .u32 x]) (by simp [results, Try.results61, go_sem]) rfl ⟨rfl, by (repeat (first | exact Below.refl _ _ | assumption | refine bchain (by assumption) ?_ | refine balloc ?_ _ | apply Below.drew | apply below_drewN | (refine Below.alloc ?_ (by (try simp) <;> omega) _) | (refine Below.setCell ?_ (by (try simp) <;> omega) _)))⟩
theorem ok_range : ∀ n, n ≤ 5 → ∀ k, k ≤ 3 → k ≤ n → okList n k (List.range k) = true := by decide +kernel
set_option maxHeartbeats 2000000 in
theorem sty_any (k n e : Nat) (h : VK k n e) :
    Calls Try.prog 53 #[.agg #[.int .i64 k, .int .i64 n, .int .u32 e]] w fun r w' => r = .returned (.agg #[.int .i64 k, .int .u32 (onL e (List.range k) : Nat)]) ∧ Below w.heap.size w w' := by
  have he : e < 1024 := by have := h.1.2.2.2; have := eMax_le n; simp at *; omega
  have hn5 : n ≤ 5 := by have := h.1.2.1; omega
  have hk3 : k ≤ 3 := by have := h.2.2.1; omega
  have hok := ok_range n hn5 k hk3 (by have := h.2.2.2; omega)
  have hS := Lib.hid (fun W v (hs : See (List.range k) v W) => sonL_any W v (List.range k) n k e hs hn5 (by omega) hok)
  obtain ⟨x, hx⟩ : ∃ x, onL e (List.range k) = x := ⟨_, rfl⟩
  rw [hx] at hS ⊢
  clear hx h hok
  go_enter Try.func53, Try.ntmps53
  go_wp2
  go_region_with (first
    | (go_at_call 109; refine (first_any _ k (by omega)).mono ?_; rintro r1 w1 ⟨⟨v, rfl, hO⟩, hb1⟩; have hsee := (hO.congr (fun i hi => lf_range k i hi)).see (by simp); replace hsee := Lib.hid hsee; clear hO; obtain ⟨hc1_0, hz1_0⟩ := bkeep hb1 w.heap.size (by (try simp) <;> omega); obtain ⟨hc1_1, hz1_1⟩ := bkeep hb1 (w.heap.size + 1) (by (try simp) <;> omega); have hf1_1 := bkeepz hb1 (w.heap.size + 1) (by (try simp) <;> omega))
    | (go_at_call 108; refine (hS.out _ _ hsee.out).mono ?_; rintro r2 w2 ⟨rfl, hb2⟩; obtain ⟨hc2_1, hz2_1⟩ := bkeep hb2 (w.heap.size + 1) hz1_1; have hf2_1 := bkeepz hb2 (w.heap.size + 1) hz1_1))
  all_goals go_wp2
  all_goals have h0 : w2.cell? ⟨w.heap.size + 1, 0, none⟩ = some (.int .i64 0) := by rw [hc2_1, hc1_1]; simp [go_sem]
  all_goals have h1 : w2.cell? ⟨w.heap.size + 1, 1, none⟩ = some (.int .u32 0) := by rw [hc2_1, hc1_1]; simp [go_sem]
  all_goals have h2 := twoCells h0 h1 (.int .i64 k) (.int .u32 x)
  all_goals exact bodyPost_ret (v := .agg #[.int .i64 k, .int .u32 x]) (by simp [results, Try.results53, go_sem, h2.1, h2.2]) rfl ⟨rfl, by (repeat (first | exact Below.refl _ _ | assumption | refine bchain (by assumption) ?_ | refine balloc ?_ _ | apply Below.drew | apply below_drewN | (refine Below.alloc ?_ (by (try simp) <;> omega) _) | (refine Below.setCell ?_ (by (try simp) <;> omega) _)))⟩
end
end Go.Proofs.Ytpobonomdfbanaa
/-
  TypeOf: the program's contract and the model's.
-/
namespace Go.Proofs.Ytpobonomdfbanaa
open Go.RowKit
set_option maxRecDepth 100000
section
variable (w : World)
end
end Go.Proofs.Ytpobonomdfbanaa
namespace Go.Proofs.Ytpobonomdfbanaa
open Go.RowKit Go.Shelf
def tyE (k e : Nat) : Nat := onL e (List.range k)
theorem tyE_lt {k n e : Nat} (hk : k ≤ 3) (hkn : k ≤ n) : tyE k e < eMax k := onL_ltP e (range_ok (n := n) hkn) (by omega)
def exQ (n k e : Nat) (gs : List (Int × Int)) (j : Nat) : Bool := canB k n e (kE (tyE k e) k j) && freeB (n + 1) (kE (tyE k e) k j) gs
def exL (n k e : Nat) (gs : List (Int × Int)) : List (Int × Int × Int) := ((List.range (kM k (n + 1))).filter fun j => isL (n + 1) k (tyE k e) j && exQ n k e gs j).map fun (j : Nat) => ((k : Int), ((n + 1 : Nat) : Int), ((kE (tyE k e) k j : Nat) : Int))
theorem ex_free (n k e : Nat) (gs : List (Int × Int)) : (lfs (n + 1) k (tyE k e)).filter (exQ n k e gs) = (List.range (kM k (n + 1))).filter fun j => isL (n + 1) k (tyE k e) j && exQ n k e gs j := by
  unfold lfs
  rw [List.filter_filter]
  exact List.filter_congr (fun j _ => Bool.and_comm _ _)
theorem ex_cells (n k e : Nat) (gs : List (Int × Int)) : KeptKC (flE (n + 1) k (tyE k e)) (exQ n k e gs) (lfs (n + 1) k (tyE k e)) = ksC (exL n k e gs) := by
  unfold KeptKC ksC exL flE
  rw [ex_free, List.flatMap_map]
theorem ex_length (n k e : Nat) (gs : List (Int × Int)) : ((lfs (n + 1) k (tyE k e)).filter (exQ n k e gs)).length = (exL n k e gs).length := by
  rw [ex_free]; simp [exL]
section
variable (w : World)
set_option maxHeartbeats 4000000 in
theorem iex_ok (k n e : Nat) (h : VK k n e) (hn4 : n ≤ 4) (v : Value) (gs : List (Int × Int)) (hS : SlG w v gs) (hm : gs.length ≤ 1048576) (hbd : Bd gs) (hV : AllV gs) (h6 : gs.length ≤ 6) :
    Calls Try.prog 17 #[.agg #[.int .i64 k, .int .i64 n, .int .u32 e], v] w (RetK w (exL n k e gs) 0) := by
  obtain ⟨he, hn5, hk3, hkn⟩ := h.nums
  obtain ⟨a, cap, rfl, hc⟩ := hS.lies
  have hF := Lib.hid (fun W (hW : Below w.heap.size w W) => cf_ok W a cap gs hm (hc.below hW) hbd hV h6)
  have ht : tyE k e < eMax k := tyE_lt hk3 hkn
  have ht2 : tyE k e < 2 ^ pc k := by rw [← eMax_pc k (by omega)]; exact ht
  have hK := fun (W : World) (B Ba Bb M : Nat) (hW : Below w.heap.size w W) (hB : B + 1 < W.heap.size) (c0 : W.cell? ⟨B, 0, none⟩ = some (.int .i64 k)) (c1 : W.cell? ⟨B, 1, none⟩ = some (.int .u32 (tyE k e))) (c2 : W.cell? ⟨B + 1, 0, none⟩ = some (.int .i64 (n + 1 : Nat)))
      (hBa : Ba < W.heap.size) (hA : W.cell? ⟨Ba, 0, none⟩ = some (.map (some M))) (hM : FSet W M k n (tE n k e)) (hBb : Bb < W.heap.size) (hAb : W.cell? ⟨Bb, 0, none⟩ = some (.slice a gs.length cap)) =>
    KeptK_any W (flE (n + 1) k (tyE k e)) 114 #[.pointer (some ⟨B, 0, none⟩), .pointer (some ⟨B + 1, 0, none⟩)] (LfInv B (B + 1) k (n + 1) (tyE k e)) (lfs (n + 1) k (tyE k e)) (lfs_len (by omega)) (enters_of Try.func114 (by kernel_rfl) rfl)
      (fun nn W' hW' => lf_own k (n + 1) (tyE k e) (by omega) hk3 (by omega) ht nn B (B + 1) W' (by have := hW'.size; omega) (by have := hW'.size; omega))
      (fun A hA' => ⟨(hA'.cell (p := ⟨B, 0, none⟩) (by show B < _; omega)).trans c0, (hA'.cell (p := ⟨B, 1, none⟩) (by show B < _; omega)).trans c1, (hA'.cell (p := ⟨B + 1, 0, none⟩) hB).trans c2⟩)
      62 #[.pointer (some ⟨Ba, 0, none⟩), .pointer (some ⟨Bb, 0, none⟩)] (enters_of Try.func62 (by kernel_rfl) rfl) (exQ n k e gs)
      (fun W' j hj hb => exc_any W' k n (n + 1) e (kE (tyE k e) k j) M Ba Bb rfl hn4 hk3 hkn (VK.mk' (by omega) hk3 (by omega) (kE_max (by omega) (by omega) ht2 (lfs_mem hj))) (hM.below hb) a cap gs hm (hc.below (hW.trans (hb.mono hW.size))) hV (by have := hb.size; omega) ((hb.cell (p := ⟨Ba, 0, none⟩) hBa).trans hA) (by have := hb.size; omega) ((hb.cell (p := ⟨Bb, 0, none⟩) hBb).trans hAb))
  rw [ex_length, ex_cells] at hK
  obtain ⟨L, hL⟩ : ∃ L, exL n k e gs = L := ⟨_, rfl⟩
  rw [hL] at hK ⊢
  replace hK := Lib.hid hK
  obtain ⟨l, hl⟩ : ∃ l, gs.length = l := ⟨_, rfl⟩
  rw [hl] at hF hK ⊢
  have hT := Lib.hid (fun W => ity_any W k n e h)
  have hTe : onL e (List.range k) = tyE k e := rfl
  rw [hTe] at hT
  obtain ⟨t, htd⟩ : ∃ t, tyE k e = t := ⟨_, rfl⟩
  rw [htd] at hK hT
  have hAl := Lib.hid (fun W => fa_any W k n e h)
  have hVv := Lib.hid (fun W => ivk_t W k n e h)
  have hne5 : ((n : Int) == 5) = false := by simp; omega
  clear hL hl hm hbd hV h6 hc hS ht ht2 htd hTe h
  obtain ⟨W0, hW0⟩ : ∃ W0, W0 = (w.alloc (.cells #[.int .i64 (k : Int), .int .i64 (n : Int), .int .u32 (e : Int)] 34)).alloc (.cells #[.slice a l cap] 36) := ⟨_, rfl⟩
  have hB0 : Below w.heap.size w W0 := by rw [hW0]; (repeat (first | exact Below.refl _ _ | assumption | refine bchain (by assumption) ?_ | refine balloc ?_ _ | apply Below.drew | apply below_drewN | (refine Below.alloc ?_ (by (try simp) <;> omega) _) | (refine Below.setCell ?_ (by (try simp) <;> omega) _)))
  have hA0 : W0.cell? ⟨w.heap.size + 1, 0, none⟩ = some (.slice a l cap) := by rw [hW0, cNew _ _ _ _ _ (by simp)]; rfl
  have hF0 : FC W0 w.heap.size k n e := by rw [hW0]; exact (FC.made w k n e 34).below ((Below.refl _ _).alloc (Nat.le_refl _) _)
  have hz0 : w.heap.size + 1 < W0.heap.size := by rw [hW0]; simp
  replace hW0 := Lib.hid hW0
  go_enter Try.func17, Try.ntmps17
  go_wp2_with fail
  refine (hVv.out _).mono ?_
  rintro r1 w1 ⟨rfl, hb1⟩
  rw [← hW0.out] at hb1
  have hA1 := (hb1.cell (p := ⟨w.heap.size + 1, 0, none⟩) hz0).trans hA0
  have hF1 := hF0.below hb1
  have hB1 := hB0.trans (hb1.mono hB0.size)
  have hz1 : w.heap.size + 1 < w1.heap.size := by have := hb1.size; omega
  clear hb1 hB0 hF0 hz0
  obtain ⟨p0, p1, p2, p3⟩ := id hF1
  go_wp2_with fail
  refine (hF.out _ hB1).mono ?_
  rintro r2 w2 ⟨rfl, hb2⟩
  have hA2 := (hb2.cell (p := ⟨w.heap.size + 1, 0, none⟩) hz1).trans hA1
  have hF2 := hF1.below hb2
  have hB2 := hB1.trans (hb2.mono hB1.size)
  have hz2 : w.heap.size + 1 < w2.heap.size := by have := hb2.size; omega
  clear hb2 hB1 hA1 hF1 hz1 p0 p1 p2 p3
  obtain ⟨p0, p1, p2, p3⟩ := id hF2
  go_wp2_with fail
  refine (hAl.out _).mono ?_
  rintro r3 w3 ⟨⟨M, rfl, hMge, hM3⟩, hb3⟩
  have hA3 := (hb3.cell (p := ⟨w.heap.size + 1, 0, none⟩) hz2).trans hA2
  have hF3 := hF2.below hb3
  have hB3 := hB2.trans (hb3.mono hB2.size)
  have hz3 : w.heap.size + 1 < w3.heap.size := by have := hb3.size; omega
  clear hb3 hB2 hA2 hF2 hz2 p0 p1 p2 p3
  obtain ⟨W4, hW4⟩ : ∃ W4, W4 = w3.alloc (.cells #[.map (some M)] 84) := ⟨_, rfl⟩
  have hb4 : Below w3.heap.size w3 W4 := by rw [hW4]; (repeat (first | exact Below.refl _ _ | assumption | refine bchain (by assumption) ?_ | refine balloc ?_ _ | apply Below.drew | apply below_drewN | (refine Below.alloc ?_ (by (try simp) <;> omega) _) | (refine Below.setCell ?_ (by (try simp) <;> omega) _)))
  have hm4 : W4.cell? ⟨w3.heap.size, 0, none⟩ = some (.map (some M)) := by rw [hW4, cNew _ _ _ _ _ rfl]; rfl
  have hz4 : w3.heap.size < W4.heap.size := by rw [hW4]; simp
  have hA4 := (hb4.cell (p := ⟨w.heap.size + 1, 0, none⟩) hz3).trans hA3
  have hF4 := hF3.below hb4
  have hB4 := hB3.trans (hb4.mono hB3.size)
  have hM4 := hM3.below hb4
  replace hW4 := Lib.hid hW4
  clear hb4 hM3 hA3 hB3
  clear hF3
  obtain ⟨p0, p1, p2, p3⟩ := id hF4
  have hz34 : w.heap.size + 1 < W4.heap.size := by omega
  have hk4 := Lib.hid (fun W6 B (hW : Below W4.heap.size W4 W6) hBz c0 c1 c2 => hK.out W6 B w3.heap.size (w.heap.size + 1) M (hB4.trans (hW.mono hB4.size)) hBz c0 c1 c2 (by have := hW.size; omega) ((hW.cell (p := ⟨w3.heap.size, 0, none⟩) hz4).trans hm4) (hM4.below hW) (by have := hW.size; omega) ((hW.cell (p := ⟨w.heap.size + 1, 0, none⟩) hz34).trans hA4))
  clear hK hA4 hm4 hM4 hMge hF4 hA0
  go_wp2_with fail
  rw [← hW4.out]
  go_region_held3 (fun A => A.cell? ⟨w.heap.size, 0, none⟩ = some (.int .i64 (k : Int)) ∧ A.cell? ⟨w.heap.size, 1, none⟩ = some (.int .i64 (n : Int)) ∧ A.cell? ⟨w.heap.size, 2, none⟩ = some (.int .u32 (e : Int)))
    (exact ⟨old_cell p0 p1 (by (repeat (first | exact Below.refl _ _ | assumption | refine bchain (by assumption) ?_ | refine balloc ?_ _ | apply Below.drew | apply below_drewN | (refine Below.alloc ?_ (by (try simp) <;> omega) _) | (refine Below.setCell ?_ (by (try simp) <;> omega) _)))), old_cell p0 p2 (by (repeat (first | exact Below.refl _ _ | assumption | refine bchain (by assumption) ?_ | refine balloc ?_ _ | apply Below.drew | apply below_drewN | (refine Below.alloc ?_ (by (try simp) <;> omega) _) | (refine Below.setCell ?_ (by (try simp) <;> omega) _)))), old_cell p0 p3 (by (repeat (first | exact Below.refl _ _ | assumption | refine bchain (by assumption) ?_ | refine balloc ?_ _ | apply Below.drew | apply below_drewN | (refine Below.alloc ?_ (by (try simp) <;> omega) _) | (refine Below.setCell ?_ (by (try simp) <;> omega) _))))⟩)
    (first
    | (go_at_call 61; with_reducible refine (hT.out _).mono ?_; rintro r5 w5 ⟨rfl, hb5⟩)
    | (go_at_call 59; with_reducible refine (hk4.out _ B (by (repeat (first | exact Below.refl _ _ | assumption | refine bchain (by assumption) ?_ | refine balloc ?_ _ | apply Below.drew | apply below_drewN | (refine Below.alloc ?_ (by (try simp) <;> omega) _) | (refine Below.setCell ?_ (by (try simp) <;> omega) _)))) hBz c0 c1 c3).mono ?_; rintro r7 w7 ⟨⟨u, rfl, hown⟩, hb7⟩)
    | (go_at_call 60; with_reducible refine (lfo_any _ _ _ _).mono ?_; rintro r6 w6 ⟨B, rfl, hBge, hBz, c0, c1, c2, hb6⟩; have c3 : w6.cell? ⟨B + 1, 0, none⟩ = some (.int .i64 ((n + 1 : Nat) : Int)) := by rw [c2, IntWalk.i64_in _ ⟨by omega, by omega⟩]; simp))
  all_goals
    have hb47 : Below W4.heap.size W4 w7 := by (repeat (first | exact Below.refl _ _ | assumption | refine bchain (by assumption) ?_ | refine balloc ?_ _ | apply Below.drew | apply below_drewN | (refine Below.alloc ?_ (by (try simp) <;> omega) _) | (refine Below.setCell ?_ (by (try simp) <;> omega) _)))
    have hB7 := hB4.trans (hb47.mono hB4.size)
    have hb46 : Below W4.heap.size W4 w6 := by (repeat (first | exact Below.refl _ _ | assumption | refine bchain (by assumption) ?_ | refine balloc ?_ _ | apply Below.drew | apply below_drewN | (refine Below.alloc ?_ (by (try simp) <;> omega) _) | (refine Below.setCell ?_ (by (try simp) <;> omega) _)))
    have hO := Lib.hid (ownK_of_row (w0 := w) hown (by have := hb46.size; have := hB4.size; omega))
    clear hown hb47 hb46
    go_wp2
    go_ret2
    exact ⟨⟨_, rfl, hO.out⟩, hB7⟩
end
end Go.Proofs.Ytpobonomdfbanaa
/-
  ExtensionsOf: the model's list is the program's. Plain facts, and the model's parts.
-/
namespace Go.Proofs.Ytpobonomdfbanaa
open Go.RowKit Go.Shelf
set_option maxRecDepth 100000

def fA (k n e y a : Nat) : Bool := leastK n k (onL y (List.range k ++ oth k (n + 1) a)) == leastK n k e
def fTo (k n e y a : Nat) : Bool := (List.range a).any fun b => decide (k ≤ b) && fA k n e y b
theorem fTo_succ {k n e y a : Nat} (h : k ≤ a) : fTo k n e y (a + 1) = (fTo k n e y a || fA k n e y a) := by
  unfold fTo
  rw [List.range_succ, List.any_append]
  simp [h]
theorem fTo_zero {k n e y : Nat} : fTo k n e y k = false := by
  unfold fTo
  rw [List.any_eq_false]
  intro b hb
  rw [List.mem_range] at hb
  simp
  omega
theorem fTo_all {k n e y : Nat} : fTo k n e y (n + 1) = fndB k n e y := rfl
theorem can_fnd {k n e y : Nat} (hn : n ≤ 4) (hk : k ≤ 3) (hkn : k ≤ n) (h : VK k n e) : canB k n e y = fndB k n e y := by
  unfold canB fndB
  rw [Bool.eq_iff_iff, List.any_eq_true, List.any_eq_true]
  have key : ∀ a, a < n + 1 → k ≤ a → (inS k n (tE n k e) k n (onL y (List.range k ++ oth k (n + 1) a)) = true ↔ leastK n k (onL y (List.range k ++ oth k (n + 1) a)) = leastK n k e) := fun a ha hka => by
    obtain ⟨hL, _⟩ := oth_facts (n + 1) (by omega) k hk a ha hka
    rw [Nat.add_sub_cancel] at hL
    have hp : VK k n (onL y (List.range k ++ oth k (n + 1) a)) := VK.mk' (by omega) hk hkn (onL_ltP y hL (by omega))
    have ho := orb h hp
    unfold inS
    simp [ho]
  constructor
  · rintro ⟨a, ha, hb⟩
    simp only [Bool.and_eq_true, decide_eq_true_eq] at hb
    exact ⟨a, ha, by simp only [Bool.and_eq_true, decide_eq_true_eq, beq_iff_eq]; exact ⟨hb.1, (key a (List.mem_range.1 ha) hb.1).1 hb.2⟩⟩
  · rintro ⟨a, ha, hb⟩
    simp only [Bool.and_eq_true, decide_eq_true_eq, beq_iff_eq] at hb
    exact ⟨a, ha, by simp only [Bool.and_eq_true, decide_eq_true_eq]; exact ⟨hb.1, (key a (List.mem_range.1 ha) hb.1).2 hb.2⟩⟩
theorem flL_el {n k t m i : Nat} {gs : List (Int × Int)} (hi : i < (flL n k t gs m).length) : ∃ j, j < m ∧ kAt (flL n k t gs m) i = ((k : Int), (n : Int), ((kE t k j : Nat) : Int)) := by
  have hm : (flL n k t gs m)[i] ∈ flL n k t gs m := List.getElem_mem hi
  unfold flL at hm
  obtain ⟨j, hj, he⟩ := List.mem_map.1 hm
  rw [List.mem_filter, List.mem_range] at hj
  exact ⟨j, hj.1, by unfold kAt; rw [List.getElem?_eq_getElem hi]; exact he.symm⟩
/-- what of the list is kept so far -/
def exS (k n e : Nat) (L : List (Int × Int × Int)) (i : Nat) : List (Int × Int × Int) := (L.take i).filter fun g => fndB k n e g.2.2.toNat
theorem exS_succ {k n e i : Nat} {L : List (Int × Int × Int)} (hi : i < L.length) : exS k n e L (i + 1) = exS k n e L i ++ (if fndB k n e (kAt L i).2.2.toNat then [kAt L i] else []) := by
  unfold exS kAt
  rw [List.take_add_one, List.filter_append, List.getElem?_eq_getElem hi]
  simp only [Option.toList_some, Option.getD_some]
  split <;> rename_i c <;> simp [c]
theorem exS_all {k n e : Nat} {gs : List (Int × Int)} (hn : n ≤ 4) (hk : k ≤ 3) (hkn : k ≤ n) (h : VK k n e) : exS k n e (flL (n + 1) k (tyE k e) gs (kM k (n + 1))) (flL (n + 1) k (tyE k e) gs (kM k (n + 1))).length = exL n k e gs := by
  unfold exS
  rw [List.take_length]
  unfold exL flL
  rw [List.filter_map, List.filter_filter]
  refine congrArg _ (List.filter_congr fun j _ => ?_)
  have := can_fnd (y := kE (tyE k e) k j) hn hk hkn h
  simp only [Function.comp, Int.toNat_natCast]
  unfold exQ isF
  rw [this]
  cases fndB k n e (kE (tyE k e) k j) <;> cases isL (n + 1) k (tyE k e) j <;> cases freeB (n + 1) (kE (tyE k e) k j) gs <;> rfl
theorem exL_len {k n e : Nat} {gs : List (Int × Int)} (hn : n ≤ 4) (hk : k ≤ 3) (hkn : k ≤ n) (h : VK k n e) : (exL n k e gs).length ≤ 16 := by
  unfold exL
  rw [List.length_map]
  have ht : tyE k e < 2 ^ pc k := by rw [← eMax_pc k (by omega)]; exact tyE_lt hk hkn
  refine ext_bound hn hk hkn h ht _ (fun j _ hP => ?_)
  simp only [Bool.and_eq_true] at hP
  unfold isL exQ at hP
  simp only [Bool.and_eq_true, beq_iff_eq] at hP
  exact ⟨hP.1, by rw [← can_fnd hn hk hkn h]; exact hP.2.1⟩
theorem exS_le {k n e i : Nat} {L : List (Int × Int × Int)} : (exS k n e L i).length ≤ i := by
  unfold exS
  have h1 := List.length_filter_le (fun g : Int × Int × Int => fndB k n e g.2.2.toNat) (L.take i)
  rw [List.length_take] at h1
  omega
section
variable (w : World)
theorem spart_oth (k n y a : Nat) (u : Value) (hn : n ≤ 4) (hk : k ≤ 3) (hkn : k ≤ n) (hy : VK k ((n + 1 : Nat) : Int) y) (ha : k ≤ a) (ha2 : a < n + 1) (hu : SlS w u (zl (oth k (n + 1) a))) :
    Calls Try.prog 55 #[.agg #[.int .i64 k, .int .i64 ((n + 1 : Nat) : Int), .int .u32 y], u] w fun r w' => r = .returned (.agg #[.int .i64 k, .int .i64 n, .int .u32 (leastK n k (onL y (List.range k ++ oth k (n + 1) a)) : Nat)]) ∧ Below w.heap.size w w' := by
  obtain ⟨hL, _⟩ := oth_facts (n + 1) (by omega) k hk a (by omega) ha
  rw [Nat.add_sub_cancel] at hL
  have hlen := ok_length hL
  rw [List.length_append, List.length_range] at hlen
  have := skpart_any w k (n + 1) y (oth k (n + 1) a).length (oth k (n + 1) a) u hy hu rfl (by rw [hlen]; exact hL) (by rw [hlen]; exact VK.mk' (by omega) hk hkn (onL_ltP y hL (by omega)))
  rw [hlen] at this
  exact this
theorem iex_inv (k n e : Int) (he : e < 4294967296) (h0 : 0 ≤ e) (h : ¬ VK k n e) (a : Option Addr) (l cap : Nat) :
    Calls Try.prog 17 #[.agg #[.int .i64 k, .int .i64 n, .int .u32 e], .slice a l cap] w (RetK w [] 1) := by
  have hV := Lib.hid (fun W => ivk_f W k n e he h0 h)
  clear h he h0
  go_enter Try.func17, Try.ntmps17
  go_wp2_with fail
  refine (hV.out _).mono ?_
  rintro r1 w1 ⟨rfl, hb1⟩
  go_wp2
  go_ret2
  exact ⟨⟨_, rfl, ownK_zero _ _ _⟩, by (repeat (first | exact Below.refl _ _ | assumption | refine bchain (by assumption) ?_ | refine balloc ?_ _ | apply Below.drew | apply below_drewN | (refine Below.alloc ?_ (by (try simp) <;> omega) _) | (refine Below.setCell ?_ (by (try simp) <;> omega) _)))⟩
theorem iex_code (k n e c : Int) (hc : c ≠ 0) (h : VK k n e) (a : Option Addr) (l cap : Nat) (hF : ∀ W, Below w.heap.size w W → Calls Try.prog 57 #[.slice a l cap] W fun r w' => r = .returned (.int .i64 c) ∧ Below W.heap.size W w') :
    Calls Try.prog 17 #[.agg #[.int .i64 k, .int .i64 n, .int .u32 e], .slice a l cap] w (RetK w [] c) := by
  have hV := Lib.hid (fun W => ivk_t W k n e h)
  replace hF := Lib.hid hF
  have hne : (c == 0) = false := by simpa using hc
  obtain ⟨W0, hW0⟩ : ∃ W0, W0 = (w.alloc (.cells #[.int .i64 k, .int .i64 n, .int .u32 e] 34)).alloc (.cells #[.slice a l cap] 36) := ⟨_, rfl⟩
  have hB0 : Below w.heap.size w W0 := by rw [hW0]; (repeat (first | exact Below.refl _ _ | assumption | refine bchain (by assumption) ?_ | refine balloc ?_ _ | apply Below.drew | apply below_drewN | (refine Below.alloc ?_ (by (try simp) <;> omega) _) | (refine Below.setCell ?_ (by (try simp) <;> omega) _)))
  have hA0 : W0.cell? ⟨w.heap.size + 1, 0, none⟩ = some (.slice a l cap) := by rw [hW0, cNew _ _ _ _ _ (by simp)]; rfl
  have hz0 : w.heap.size + 1 < W0.heap.size := by rw [hW0]; simp
  replace hW0 := Lib.hid hW0
  clear hc h
  go_enter Try.func17, Try.ntmps17
  go_wp2_with fail
  refine (hV.out _).mono ?_
  rintro r1 w1 ⟨rfl, hb1⟩
  rw [← hW0.out] at hb1
  have hA1 := (hb1.cell (p := ⟨w.heap.size + 1, 0, none⟩) hz0).trans hA0
  have hB1 := hB0.trans (hb1.mono hB0.size)
  clear hb1 hB0
  go_wp2_with fail
  refine (hF.out _ hB1).mono ?_
  rintro r2 w2 ⟨rfl, hb2⟩
  have hB2 := hB1.trans (hb2.mono hB1.size)
  clear hb2 hB1
  go_wp2
  go_ret2
  exact ⟨⟨_, rfl, ownK_zero _ _ _⟩, by (repeat (first | exact Below.refl _ _ | assumption | refine bchain (by assumption) ?_ | refine balloc ?_ _ | apply Below.drew | apply below_drewN | (refine Below.alloc ?_ (by (try simp) <;> omega) _) | (refine Below.setCell ?_ (by (try simp) <;> omega) _)))⟩
theorem iex_five (k e : Int) (h : VK k 5 e) (a : Option Addr) (l cap : Nat) (hF : ∀ W, Below w.heap.size w W → Calls Try.prog 57 #[.slice a l cap] W fun r w' => r = .returned (.int .i64 0) ∧ Below W.heap.size W w') :
    Calls Try.prog 17 #[.agg #[.int .i64 k, .int .i64 5, .int .u32 e], .slice a l cap] w (RetK w [] 2) := by
  have hV := Lib.hid (fun W => ivk_t W k 5 e h)
  replace hF := Lib.hid hF
  obtain ⟨W0, hW0⟩ : ∃ W0, W0 = (w.alloc (.cells #[.int .i64 k, .int .i64 5, .int .u32 e] 34)).alloc (.cells #[.slice a l cap] 36) := ⟨_, rfl⟩
  have hB0 : Below w.heap.size w W0 := by rw [hW0]; (repeat (first | exact Below.refl _ _ | assumption | refine bchain (by assumption) ?_ | refine balloc ?_ _ | apply Below.drew | apply below_drewN | (refine Below.alloc ?_ (by (try simp) <;> omega) _) | (refine Below.setCell ?_ (by (try simp) <;> omega) _)))
  have hf0 : FC W0 w.heap.size k 5 e := by rw [hW0]; exact (FC.made w k 5 e 34).below ((Below.refl _ _).alloc (Nat.le_refl _) _)
  have hA0 : W0.cell? ⟨w.heap.size + 1, 0, none⟩ = some (.slice a l cap) := by rw [hW0, cNew _ _ _ _ _ (by simp)]; rfl
  have hz0 : w.heap.size + 1 < W0.heap.size := by rw [hW0]; simp
  replace hW0 := Lib.hid hW0
  clear h
  go_enter Try.func17, Try.ntmps17
  go_wp2_with fail
  refine (hV.out _).mono ?_
  rintro r1 w1 ⟨rfl, hb1⟩
  rw [← hW0.out] at hb1
  have hA1 := (hb1.cell (p := ⟨w.heap.size + 1, 0, none⟩) hz0).trans hA0
  have hB1 := hB0.trans (hb1.mono hB0.size)
  replace hf0 := hf0.below hb1
  clear hb1 hB0
  go_wp2_with fail
  refine (hF.out _ hB1).mono ?_
  rintro r2 w2 ⟨rfl, hb2⟩
  have hB2 := hB1.trans (hb2.mono hB1.size)
  replace hf0 := hf0.below hb2
  obtain ⟨_, f0, f1, f2⟩ := id hf0
  clear hb2 hB1
  go_wp2
  go_ret2
  exact ⟨⟨_, rfl, ownK_zero _ _ _⟩, by (repeat (first | exact Below.refl _ _ | assumption | refine bchain (by assumption) ?_ | refine balloc ?_ _ | apply Below.drew | apply below_drewN | (refine Below.alloc ?_ (by (try simp) <;> omega) _) | (refine Below.setCell ?_ (by (try simp) <;> omega) _)))⟩
theorem sex_inv (k n e : Int) (he : e < 4294967296) (h0 : 0 ≤ e) (h : ¬ VK k n e) (a : Option Addr) (l cap : Nat) :
    Calls Try.prog 14 #[.agg #[.int .i64 k, .int .i64 n, .int .u32 e], .slice a l cap] w (RetK w [] 1) := by
  have hV := Lib.hid (fun W => sok_f W k n e he h0 h)
  clear h he h0
  go_enter Try.func14, Try.ntmps14
  go_wp2_with fail
  refine (hV.out _).mono ?_
  rintro r1 w1 ⟨rfl, hb1⟩
  go_wp2
  go_ret2
  exact ⟨⟨_, rfl, ownK_zero _ _ _⟩, by (repeat (first | exact Below.refl _ _ | assumption | refine bchain (by assumption) ?_ | refine balloc ?_ _ | apply Below.drew | apply below_drewN | (refine Below.alloc ?_ (by (try simp) <;> omega) _) | (refine Below.setCell ?_ (by (try simp) <;> omega) _)))⟩
theorem sex_code (k n e c : Int) (hc : c ≠ 0) (h : VK k n e) (a : Option Addr) (l cap : Nat) (hF : ∀ W, Below w.heap.size w W → Calls Try.prog 51 #[.slice a l cap] W fun r w' => r = .returned (.int .i64 c) ∧ Below W.heap.size W w') :
    Calls Try.prog 14 #[.agg #[.int .i64 k, .int .i64 n, .int .u32 e], .slice a l cap] w (RetK w [] c) := by
  have hV := Lib.hid (fun W => sok_t W k n e h)
  replace hF := Lib.hid hF
  have hne : (c == 0) = false := by simpa using hc
  obtain ⟨W0, hW0⟩ : ∃ W0, W0 = w.alloc (.cells #[.int .i64 k, .int .i64 n, .int .u32 e] 34) := ⟨_, rfl⟩
  have hB0 : Below w.heap.size w W0 := by rw [hW0]; (repeat (first | exact Below.refl _ _ | assumption | refine bchain (by assumption) ?_ | refine balloc ?_ _ | apply Below.drew | apply below_drewN | (refine Below.alloc ?_ (by (try simp) <;> omega) _) | (refine Below.setCell ?_ (by (try simp) <;> omega) _)))
  replace hW0 := Lib.hid hW0
  clear hc h
  go_enter Try.func14, Try.ntmps14
  go_wp2_with fail
  refine (hV.out _).mono ?_
  rintro r1 w1 ⟨rfl, hb1⟩
  rw [← hW0.out] at hb1
  have hB1 := hB0.trans (hb1.mono hB0.size)
  clear hb1 hB0
  go_wp2_with fail
  refine (hF.out _ hB1).mono ?_
  rintro r2 w2 ⟨rfl, hb2⟩
  have hB2 := hB1.trans (hb2.mono hB1.size)
  clear hb2 hB1
  go_wp2
  go_ret2
  exact ⟨⟨_, rfl, ownK_zero _ _ _⟩, by (repeat (first | exact Below.refl _ _ | assumption | refine bchain (by assumption) ?_ | refine balloc ?_ _ | apply Below.drew | apply below_drewN | (refine Below.alloc ?_ (by (try simp) <;> omega) _) | (refine Below.setCell ?_ (by (try simp) <;> omega) _)))⟩
theorem sex_five (k e : Int) (h : VK k 5 e) (a : Option Addr) (l cap : Nat) (hF : ∀ W, Below w.heap.size w W → Calls Try.prog 51 #[.slice a l cap] W fun r w' => r = .returned (.int .i64 0) ∧ Below W.heap.size W w') :
    Calls Try.prog 14 #[.agg #[.int .i64 k, .int .i64 5, .int .u32 e], .slice a l cap] w (RetK w [] 2) := by
  have hV := Lib.hid (fun W => sok_t W k 5 e h)
  replace hF := Lib.hid hF
  obtain ⟨W0, hW0⟩ : ∃ W0, W0 = w.alloc (.cells #[.int .i64 k, .int .i64 5, .int .u32 e] 34) := ⟨_, rfl⟩
  have hB0 : Below w.heap.size w W0 := by rw [hW0]; (repeat (first | exact Below.refl _ _ | assumption | refine bchain (by assumption) ?_ | refine balloc ?_ _ | apply Below.drew | apply below_drewN | (refine Below.alloc ?_ (by (try simp) <;> omega) _) | (refine Below.setCell ?_ (by (try simp) <;> omega) _)))
  have hf0 : FC W0 w.heap.size k 5 e := by rw [hW0]; exact (FC.made w k 5 e 34)
  replace hW0 := Lib.hid hW0
  clear h
  go_enter Try.func14, Try.ntmps14
  go_wp2_with fail
  refine (hV.out _).mono ?_
  rintro r1 w1 ⟨rfl, hb1⟩
  rw [← hW0.out] at hb1
  have hB1 := hB0.trans (hb1.mono hB0.size)
  replace hf0 := hf0.below hb1
  clear hb1 hB0
  go_wp2_with fail
  refine (hF.out _ hB1).mono ?_
  rintro r2 w2 ⟨rfl, hb2⟩
  have hB2 := hB1.trans (hb2.mono hB1.size)
  replace hf0 := hf0.below hb2
  obtain ⟨_, f0, f1, f2⟩ := id hf0
  clear hb2 hB1
  go_wp2
  go_ret2
  exact ⟨⟨_, rfl, ownK_zero _ _ _⟩, by (repeat (first | exact Below.refl _ _ | assumption | refine bchain (by assumption) ?_ | refine balloc ?_ _ | apply Below.drew | apply below_drewN | (refine Below.alloc ?_ (by (try simp) <;> omega) _) | (refine Below.setCell ?_ (by (try simp) <;> omega) _)))⟩
end
end Go.Proofs.Ytpobonomdfbanaa
/-
  ExtensionsOf: the model's walk.
-/
namespace Go.Proofs.Ytpobonomdfbanaa
open Go.RowKit Go.Shelf
set_option maxRecDepth 100000
attribute [local go_sem] Oper.semAt_some
section
variable (w : World)
set_option maxHeartbeats 16000000 in
theorem sex_ok (k n e : Nat) (h : VK k n e) (hn4 : n ≤ 4) (v : Value) (gs : List (Int × Int)) (hS : SlG w v gs) (hm : gs.length ≤ 1048576) (hbd : Bd gs) (hV : AllV gs) (h6 : gs.length ≤ 6) :
    Calls Try.prog 14 #[.agg #[.int .i64 k, .int .i64 n, .int .u32 e], v] w (RetK w (exL n k e gs) 0) := by
  obtain ⟨he, hn5, hk3, hkn⟩ := h.nums
  obtain ⟨a, cap, rfl, hc⟩ := hS.lies
  have hF := Lib.hid (fun W (hW : Below w.heap.size w W) => sf_ok W a cap gs hm (hc.below hW) hbd hV h6)
  have ht : tyE k e < eMax k := tyE_lt hk3 hkn
  have ht2 : tyE k e < 2 ^ pc k := by rw [← eMax_pc k (by omega)]; exact ht
  have hA := Lib.hid (fun W (z : Int) (hz : z = ((n + 1 : Nat) : Int)) (hW : Below w.heap.size w W) => (by
    subst hz
    exact sla_any W k (n + 1) (tyE k e) (by omega) hk3 (by omega) ht a cap gs (hc.below hW) hm hV : Calls Try.prog 52 #[.agg #[.int .i64 k, .int .u32 (tyE k e : Nat)], .int .i64 z, .slice a gs.length cap] W fun r w' => (∃ u, r = .returned u ∧ OwnK W w' u (flL (n + 1) k (tyE k e) gs (kM k (n + 1)))) ∧ Below W.heap.size W w'))
  have hT : Hid (∀ W, Calls Try.prog 53 #[.agg #[.int .i64 k, .int .i64 n, .int .u32 e]] W fun r w' => r = .returned (.agg #[.int .i64 k, .int .u32 (tyE k e : Nat)]) ∧ Below W.heap.size W w') := fun W => sty_any W k n e h
  have hL := Lib.hid (fun W => sleastK_any W k n e h)
  have hVv := Lib.hid (fun W => sok_t W k n e h)
  have hP := Lib.hid (fun W y aw u hy ha ha2 hu => spart_oth W k n y aw u hn4 hk3 hkn hy ha ha2 hu)
  have hEl := Lib.hid (fun i (hi : i < (flL (n + 1) k (tyE k e) gs (kM k (n + 1))).length) => (by
    obtain ⟨j, hj, hq⟩ := flL_el hi
    exact ⟨kE (tyE k e) k j, hq, VK.mk' (by omega) hk3 (by omega) (kE_max (by omega) (by omega) ht2 hj)⟩ : ∃ y : Nat, kAt (flL (n + 1) k (tyE k e) gs (kM k (n + 1))) i = ((k : Int), ((n + 1 : Nat) : Int), (y : Int)) ∧ VK k ((n + 1 : Nat) : Int) y))
  have hAll := Lib.hid (exS_all (gs := gs) hn4 hk3 hkn h)
  have hLen := Lib.hid (exL_len (gs := gs) hn4 hk3 hkn h)
  have hLm : (flL (n + 1) k (tyE k e) gs (kM k (n + 1))).length ≤ 1024 := by have := flL_len (n + 1) k (tyE k e) gs (kM k (n + 1)); have := kM_le (n + 1) (by omega) k; omega
  obtain ⟨L, hLd⟩ : ∃ L, flL (n + 1) k (tyE k e) gs (kM k (n + 1)) = L := ⟨_, rfl⟩
  rw [hLd] at hA hEl hAll hLm
  obtain ⟨t, htd⟩ : ∃ t, tyE k e = t := ⟨_, rfl⟩
  rw [htd] at hA hT
  obtain ⟨z, hzd⟩ : ∃ z, leastK n k e = z := ⟨_, rfl⟩
  rw [hzd] at hL
  have hfA := Lib.hid (fun y aw => (show fA k n e y aw = (leastK n k (onL y (List.range k ++ oth k (n + 1) aw)) == z) by rw [← hzd]; rfl))
  obtain ⟨E, hE⟩ : ∃ E, exL n k e gs = E := ⟨_, rfl⟩
  rw [hE] at hAll hLen ⊢
  obtain ⟨gl, hgl⟩ : ∃ gl, gs.length = gl := ⟨_, rfl⟩
  rw [hgl] at hF hA ⊢
  have hne5 : ((n : Int) == 5) = false := by simp; omega
  clear hLd hE hgl hm hbd hV h6 hc hS ht ht2 htd hzd
  obtain ⟨i0, hi, hz0, hz1, hz2⟩ := info_parts info_flagK
  obtain ⟨j0, hj, hy0, hy1, hy2⟩ := info_parts info_i64
  replace hi := Lib.hid hi
  replace hz0 := Lib.hid hz0
  replace hz1 := Lib.hid hz1
  have hz2' := Lib.hid hz2
  clear hz2
  replace hj := Lib.hid hj
  replace hy0 := Lib.hid hy0
  replace hy1 := Lib.hid hy1
  replace hy2 := Lib.hid hy2
  obtain ⟨W0, hW0⟩ : ∃ W0, W0 = w.alloc (.cells #[.int .i64 (k : Int), .int .i64 (n : Int), .int .u32 (e : Int)] 34) := ⟨_, rfl⟩
  have hB0 : Below w.heap.size w W0 := by rw [hW0]; (repeat (first | exact Below.refl _ _ | assumption | refine bchain (by assumption) ?_ | refine balloc ?_ _ | apply Below.drew | apply below_drewN | (refine Below.alloc ?_ (by (try simp) <;> omega) _) | (refine Below.setCell ?_ (by (try simp) <;> omega) _)))
  have hF0 : FC W0 w.heap.size k n e := by rw [hW0]; exact FC.made w k n e 34
  replace hW0 := Lib.hid hW0
  go_enter Try.func14, Try.ntmps14
  go_wp2_with fail
  refine (hVv.out _).mono ?_
  rintro r1 w1 ⟨rfl, hb1⟩
  rw [← hW0.out] at hb1
  have hF1 := hF0.below hb1
  have hB1 := bchain hb1 hB0
  clear hb1 hB0 hF0
  go_wp2_with fail
  refine (hF.out _ hB1).mono ?_
  rintro r2 w2 ⟨rfl, hb2⟩
  have hF2 := Lib.hid (hF1.below hb2)
  have hB2 := bchain hb2 hB1
  clear hb2 hB1 hF1
  obtain ⟨_, p0, p1, p2⟩ := hF2.out
  go_wp2_with fail
  go_region_held3 (fun A => A.cell? ⟨w.heap.size, 0, none⟩ = some (.int .i64 (k : Int)) ∧ A.cell? ⟨w.heap.size, 1, none⟩ = some (.int .i64 (n : Int)) ∧ A.cell? ⟨w.heap.size, 2, none⟩ = some (.int .u32 (e : Int)))
    (exact ⟨(hF2.out.below (by (repeat (first | exact Below.refl _ _ | assumption | refine bchain (by assumption) ?_ | refine balloc ?_ _ | apply Below.drew | apply below_drewN | (refine Below.alloc ?_ (by (try simp) <;> omega) _) | (refine Below.setCell ?_ (by (try simp) <;> omega) _))))).c0, (hF2.out.below (by (repeat (first | exact Below.refl _ _ | assumption | refine bchain (by assumption) ?_ | refine balloc ?_ _ | apply Below.drew | apply below_drewN | (refine Below.alloc ?_ (by (try simp) <;> omega) _) | (refine Below.setCell ?_ (by (try simp) <;> omega) _))))).c1, (hF2.out.below (by (repeat (first | exact Below.refl _ _ | assumption | refine bchain (by assumption) ?_ | refine balloc ?_ _ | apply Below.drew | apply below_drewN | (refine Below.alloc ?_ (by (try simp) <;> omega) _) | (refine Below.setCell ?_ (by (try simp) <;> omega) _))))).c2⟩)
    (first
    | (go_at_call 53; with_reducible refine (hT.out _).mono ?_; rintro r3 w3 ⟨rfl, hb3⟩)
    | (go_at_call 52; with_reducible refine (hA.out _ _ (by rw [IntWalk.i64_in _ ⟨by omega, by omega⟩]; simp) (bchain hb3 (Below.drew hB2))).mono ?_; rintro r4 w4 ⟨⟨U, rfl, hU⟩, hb4⟩))
  rw [IntWalk.i64_in ((n : Int) + 1) ⟨by omega, by omega⟩]
  have hb24 : Below w2.heap.size w2 w4 := bchain hb4 (bchain hb3 (Below.refl _ w2).drew)
  have hF4 := hF2.out.below hb24
  have hB4 := bchain hb24 hB2
  have hU4 := hU.sl
  obtain ⟨aU, cU, rfl, hcU, hcM, hU3⟩ := hU4
  clear hb3 hb4 hb24 hF2 hB2 hU p0 p1 p2
  obtain ⟨_, p0, p1, p2⟩ := id hF4
  obtain ⟨len, hlen⟩ : ∃ len, L.length = len := ⟨_, rfl⟩
  rw [hlen] at hcU hLm ⊢
  have hU5 : Hid (0 < len → ∃ b off, aU = some ⟨b, off, none⟩ ∧ b < w4.heap.size ∧ ∀ i, i < len → KCell w4 b off (kAt L i) i) := fun h => by rw [← hlen] at h ⊢; exact hU3 (List.length_pos_iff.1 h)
  replace hlen := Lib.hid hlen
  clear hU3
  go_wp2_with fail
  refine (hL.out _).mono ?_
  rintro r5 w5 ⟨rfl, hb5⟩
  have hF5 := hF4.below hb5
  have hB5 := bchain hb5 hB4
  have hz45 := hb5.size
  have hB4z : w.heap.size < w4.heap.size := hF4.lt
  obtain ⟨W6, hW6⟩ : ∃ W6, W6 = w5.alloc (.cells #[.int .i64 (k : Int), .int .i64 (n : Int), .int .u32 (z : Int)] 34) := ⟨_, rfl⟩
  have hb56 : Below w5.heap.size w5 W6 := by rw [hW6]; (repeat (first | exact Below.refl _ _ | assumption | refine bchain (by assumption) ?_ | refine balloc ?_ _ | apply Below.drew | apply below_drewN | (refine Below.alloc ?_ (by (try simp) <;> omega) _) | (refine Below.setCell ?_ (by (try simp) <;> omega) _)))
  have hz6 : W6.heap.size = w5.heap.size + 1 := by rw [hW6]; simp
  have hF6 := hF5.below hb56
  have hZ6 : FC W6 w5.heap.size k n z := by rw [hW6]; exact FC.made _ _ _ _ _
  have hU6 : Hid (0 < len → ∃ b off, aU = some ⟨b, off, none⟩ ∧ b < w5.heap.size ∧ ∀ i, i < len → KCell W6 b off (kAt L i) i) := fun h => by
    obtain ⟨b, off, e1, e2, e3⟩ := hU5.out h
    have hq : Below w4.heap.size w4 W6 := bchain hb56 hb5
    exact ⟨b, off, e1, by omega, fun i hi => ⟨(hq.cell (p := ⟨b, _, none⟩) e2).trans (e3 i hi).1, (hq.cell (p := ⟨b, _, none⟩) e2).trans (e3 i hi).2.1, (hq.cell (p := ⟨b, _, none⟩) e2).trans (e3 i hi).2.2⟩⟩
  have hB6 := bchain hb56 hB5
  clear hU5 hb5 hb56 hF4 hF5 hB4 hB5 p0 p1 p2
  obtain ⟨W7, hW7⟩ : ∃ W7, W7 = W6.alloc (.cells #[] 34) := ⟨_, rfl⟩
  have hown0 : Hid (W7.ownsRow (w5.heap.size + 1) 34 3 (.slice (some ⟨w5.heap.size + 1, 0, none⟩) 0 0) (exS k n e L 0).length (ksC (exS k n e L 0))) := by
    rw [hW7, ← hz6]
    exact World.ownsRow_made W6 #[] 0 (Nat.le_refl _) (by omega) rfl
  have hD0 : Below (w5.heap.size + 1) W6 W7 := by rw [hW7, ← hz6]; exact balloc (Below.refl _ _) _
  have hbs2 : w5.heap.size + 1 ≤ W7.heap.size := by rw [hW7]; simp; omega
  have hwz : w.heap.size < w5.heap.size := by have := hF6.lt; have := hB6.size; have := hZ6.lt; have h1 := hB4z; omega
  obtain ⟨_, p0, p1, p2⟩ := id hF6
  go_wp2_with fail
  rw [← hW6, ← hW7]
  replace hW6 := Lib.hid hW6
  replace hW7 := Lib.hid hW7
  have hFl : ∀ A : World, Below (w5.heap.size + 1) W6 A → FC A w.heap.size k n e := fun A hA => hF6.under hA (by omega)
  have hZl : ∀ A : World, Below (w5.heap.size + 1) W6 A → FC A w5.heap.size k n z := fun A hA => hZ6.under hA (by omega)
  replace hFl := Lib.hid hFl
  replace hZl := Lib.hid hZl
  clear hF6 hZ6 p0 p1 p2
  go_loopw [9, 10, 11, 12, 13, 14] (fun u q _ _ _ _ wr => ∃ i : Nat, i ≤ len ∧ q = .int .i64 i ∧ Hid (wr.ownsRow (w5.heap.size + 1) 34 3 u (exS k n e L i).length (ksC (exS k n e L i))) ∧ Below (w5.heap.size + 1) W6 wr ∧ w5.heap.size + 1 ≤ wr.heap.size) (fun _ q _ _ _ _ _ => len - (intOf q).toNat)
  case atStart => exact ⟨0, by omega, rfl, hown0, hD0, hbs2⟩
  case round =>
    clear hown0 hD0 hbs2 hW6 hW7
    obtain ⟨i, hi0, rfl, hown, hD, hz⟩ := hrel
    rename World => V
    have hFV := hFl.out _ hD
    have hZV := hZl.out _ hD
    obtain ⟨_, p0, p1, p2⟩ := id hFV
    obtain ⟨_, z0, z1, z2⟩ := id hZV
    by_cases hlt : i < len
    · obtain ⟨b, off, rfl, hb, hg⟩ := hU6.out (by omega)
      obtain ⟨y, hy, hyV⟩ := hEl.out i (by rw [hlen.out]; exact hlt)
      have hgi := hg i hlt
      rw [hy] at hgi
      have s0 : V.cell? ⟨b, off + i * 3, none⟩ = some (.int .i64 k) := (hD.cell (p := ⟨b, _, none⟩) (by show b < _; omega)).trans hgi.1
      have s1 : V.cell? ⟨b, off + i * 3 + 1, none⟩ = some (.int .i64 ((n + 1 : Nat) : Int)) := (hD.cell (p := ⟨b, _, none⟩) (by show b < _; omega)).trans hgi.2.1
      have s2 : V.cell? ⟨b, off + i * 3 + 2, none⟩ = some (.int .u32 y) := (hD.cell (p := ⟨b, _, none⟩) (by show b < _; omega)).trans hgi.2.2
      have hil : (i : Int) < (len : Int) := by omega
      have hi1 : (0 : Int) ≤ (i : Int) := by omega
      have hbV : b < V.heap.size := by omega
      clear hg hgi
      go_wp2
      go_loopw [11, 12, 13, 14] (fun f q _ _ wr => ∃ aw : Nat, k ≤ aw ∧ aw ≤ n + 1 ∧ q = .int .i64 aw ∧ f = .bool (fTo k n e y aw) ∧ Below V.heap.size V wr) (fun _ q _ _ _ => n + 1 - (intOf q).toNat)
      case atStart => exact ⟨k, by omega, by omega, rfl, by rw [fTo_zero], Below.refl _ _⟩
      case round =>
        obtain ⟨aw, hka, han, rfl, rfl, hBV⟩ := hrel
        rename World => V2
        have hF2 := hFV.below hBV
        clear p0 p1 p2 z0 z1 z2
        obtain ⟨_, p0, p1, p2⟩ := id hF2
        by_cases hle : aw ≤ n
        · have hle2 : (aw : Int) ≤ (n : Int) := by omega
          obtain ⟨V3, hV3⟩ : ∃ V3, V3 = V2.alloc (.cells #[] 2) := ⟨_, rfl⟩
          have hown3 : Hid (V3.ownsRow V2.heap.size 2 1 (.slice (some ⟨V2.heap.size, 0, none⟩) 0 0) (othTo k aw k).length (rowN (othTo k aw k))) := by
            rw [hV3, othTo_zero]
            exact World.ownsRow_made V2 #[] 0 (Nat.le_refl _) (by omega) rfl
          have hB23 : Below V2.heap.size V2 V3 := by rw [hV3]; exact balloc (Below.refl _ _) _
          go_wp2_with fail
          rw [← hV3]
          replace hV3 := Lib.hid hV3
          go_loopw [13, 14] (fun u q w2 => ∃ v : Nat, k ≤ v ∧ v ≤ n + 1 ∧ q = .int .i64 v ∧ Hid (w2.ownsRow V2.heap.size 2 1 u (othTo k aw v).length (rowN (othTo k aw v))) ∧ (∃ ad c, u = .slice (some ad) (othTo k aw v).length c) ∧ Below V2.heap.size V2 w2) (fun _ q _ => n + 1 - (intOf q).toNat)
          case atStart => exact ⟨k, by omega, by omega, rfl, hown3, by rw [othTo_zero]; exact ⟨_, _, rfl⟩, hB23⟩
          case round =>
            clear hown3 hB23
            obtain ⟨v, hkv, hvn, rfl, hown4, ⟨ad, c4, rfl⟩, hB4⟩ := hrel
            rename World => V4
            have hF3 := hF2.below hB4
            clear p0 p1 p2
            obtain ⟨_, p0, p1, p2⟩ := id hF3
            have hsz4 := hB4.size
            by_cases hvl : v ≤ n
            · have hvl2 : (v : Int) ≤ (n : Int) := by omega
              have hol := othTo_len k aw v
              by_cases hva : v = aw
              · subst hva
                have hnx : othTo k v (v + 1) = othTo k v v := othTo_f
                go_wp2
                go_roundw
                case rel => exact ⟨v + 1, by omega, by omega, by go_num, by show World.ownsRow _ _ _ _ _ _ _; rw [hnx]; exact hown4.out, by rw [hnx]; exact ⟨_, _, rfl⟩, hB4⟩
                case measure => simp [intOf]; omega
              · have hne1 : ((v : Int) == (aw : Int)) = false := by simp; omega
                have hne2 : ((v : Int) != (aw : Int)) = true := by simp; omega
                have hnx := othTo_t hkv hva
                go_wp2_with (at_builtin; refine wpList_append_own _ rfl _ _ 82 rfl V2.heap.size 2 j0 (.int .i64 0) 1 8 Try.underlying82 hj.out hy0.out hy1.out hy2.out rfl (by decide) _ _ _ rfl (hown4.out.alloc _) ⟨V4.heap.size, 0, none⟩ 1 1 [.int .i64 v] rfl rfl (fun q u hq => by match q, hq with
                  | 0, hq => simp at hq; subst hq; rw [show (⟨V4.heap.size, 0, none⟩ : Addr).add 0 = ⟨V4.heap.size, 0, none⟩ from rfl, World.cell?_alloc_new]; rfl
                  | q + 1, hq => simp at hq) (fun u hu => by simp at hu; subst hu; rfl) (by unfold maxLen; omega) (by omega) (by simp; omega) ?_; intro v' w9 hown' hgrow _)
                have hB5 : Below V2.heap.size V2 w9 := (balloc hB4 _).grown hgrow (by simp; omega) (fun k hk => by have := (hown4.out.lt k hk).1; omega)
                have hown5 : Hid (w9.ownsRow V2.heap.size 2 1 v' (othTo k aw (v + 1)).length (rowN (othTo k aw (v + 1)))) := by
                  show World.ownsRow _ _ _ _ _ _ _
                  rw [hnx, rowN_snoc, List.length_append]
                  exact hown'
                have hsome : ∃ ad c, v' = .slice (some ad) (othTo k aw (v + 1)).length c := by
                  obtain ⟨ad, c, e⟩ := (slI_of_row hown5.out).2.1 (by rw [hnx]; simp)
                  exact ⟨ad, c, by rw [e, zl_length]⟩
                clear hown' hgrow hown4
                go_roundw
                case rel => exact ⟨v + 1, by omega, by omega, by go_num, hown5, hsome, hB5⟩
                case measure => simp [intOf]; omega
            · obtain ⟨hv1, hdv⟩ : v = n + 1 ∧ decide ((v : Int) ≤ (n : Int)) = false := ⟨by omega, decide_eq_false (by omega)⟩
              have hus : SlS V4 (.slice (some ad) (othTo k aw v).length c4) (zl (oth k (n + 1) aw)) := by
                have h1 := (slI_of_row hown4.out).1
                subst hv1
                exact ⟨h1, ad, c4, by rw [zl_length]; rfl⟩
              have hPc := Lib.hid (fun W (hb : Below V4.heap.size V4 W) => hP.out W y aw _ hyV hka (by omega) (hus.below hb))
              obtain ⟨x, hx⟩ : ∃ x, (othTo k aw v).length = x := ⟨_, rfl⟩
              rw [hx] at hPc ⊢
              have hfa := hfA.out y aw
              obtain ⟨Z, hZ⟩ : ∃ Z, leastK n k (onL y (List.range k ++ oth k (n + 1) aw)) = Z := ⟨_, rfl⟩
              rw [hZ] at hPc hfa
              have hfs := fTo_succ (n := n) (e := e) (y := y) hka
              obtain ⟨ff, hff⟩ : ∃ ff, fTo k n e y aw = ff := ⟨_, rfl⟩
              rw [hff] at hfs ⊢
              have hBB : Below V.heap.size V V4 := hBV.trans (hB4.mono hBV.size)
              have hZ4 := hZV.below hBB
              have hBBz := hBB.size
              have q0 := bw_cell (show b < V4.heap.size by omega) ((hBB.cell (p := ⟨b, _, none⟩) hbV).trans s0)
              have q1 := bw_cell (show b < V4.heap.size by omega) ((hBB.cell (p := ⟨b, _, none⟩) hbV).trans s1)
              have q2 := bw_cell (show b < V4.heap.size by omega) ((hBB.cell (p := ⟨b, _, none⟩) hbV).trans s2)
              have q3 := bw_cell hZ4.lt hZ4.c0
              have q4 := bw_cell hZ4.lt hZ4.c1
              have q5 := bw_cell hZ4.lt hZ4.c2
              clear hus hown4 hx hZ hff
              replace hfs := Lib.hid hfs
              cases ff with
              | true =>
                go_wp2
                refine wp_region_below (by kernel_rfl) (by kernel_rfl) ?_
                iterate 2 (quiet_step (fail))
                iterate 8 go_big_quiet_skip
                iterate 2 (quiet_step (fail))
                refine wpQuiet_nil ?_
                intro w9 hw'
                obtain ⟨⟨wx, hb_w9⟩, rfl⟩ := hw'
                have hfin : .bool true = Value.bool (fTo k n e y (aw + 1)) := by rw [hfs.out]; rfl
                have hB9 : Below V.heap.size V w9 := bchain hb_w9 hBB
                go_wp2
                go_roundw
                case rel => exact ⟨aw + 1, by omega, by omega, by go_num, hfin, hB9⟩
                case measure => simp [intOf]; omega
              | false =>
                have hq : ∀ W, (Op.equalIn 10000 34 (.agg #[.int .i64 (k : Int), .int .i64 (n : Int), .int .u32 (Z : Int)]) (.agg #[.int .i64 (k : Int), .int .i64 (n : Int), .int .u32 (z : Int)])).run Try.prog W = .ok (Z == z) W := fun W => by
                  rw [eqFl]
                  have : ((k : Int) == (k : Int) && ((n : Int) == (n : Int) && (Z : Int) == (z : Int))) = (Z == z) := by
                    rw [Bool.eq_iff_iff]
                    simp
                    omega
                  rw [this]
                have hfin : .bool (Z == z) = Value.bool (fTo k n e y (aw + 1)) := by rw [hfs.out, hfa]; rfl
                obtain ⟨zz, hzz⟩ : ∃ zz, (Z == z) = zz := ⟨_, rfl⟩
                rw [hzz] at hq hfin
                replace hfin := Lib.hid hfin
                clear hzz
                go_wp2
                refine wp_region_below (by kernel_rfl) (by kernel_rfl) ?_
                iterate 2 (quiet_step (fail))
                iterate 5 (quiet_step (fail))
                refine wpQuiet_step (fun K hK => ?_)
                go_simp
                apply Exists.intro
                refine ⟨fun p => ?_, hK _ ?_⟩
                · exact bw_of (w := V4) (p := p) (hPc.out p.W p.h)
                clear hK K
                iterate 2 (quiet_step (fail))
                iterate 2 (quiet_step (fail))
                refine wpQuiet_nil ?_
                intro w9 hw'
                obtain ⟨⟨wx, hb_w9⟩, rfl⟩ := hw'
                have hB9 : Below V.heap.size V w9 := bchain hb_w9 hBB
                go_wp2
                go_roundw
                case rel => exact ⟨aw + 1, by omega, by omega, by go_num, hfin.out, hB9⟩
                case measure => simp [intOf]; omega
        · obtain ⟨ha1, hda⟩ : aw = n + 1 ∧ decide ((aw : Int) ≤ (n : Int)) = false := ⟨by omega, decide_eq_false (by omega)⟩
          have hfn : fTo k n e y aw = fndB k n e y := by rw [ha1]; rfl
          rw [hfn]
          have hext := Lib.hid (fun (c : fndB k n e y = true) => (by rw [exS_succ (by rw [hlen.out]; exact hlt), hy]; simp [c] : exS k n e L (i + 1) = exS k n e L i ++ [((k : Int), ((n + 1 : Nat) : Int), (y : Int))]))
          have hexf := Lib.hid (fun (c : fndB k n e y = false) => (by rw [exS_succ (by rw [hlen.out]; exact hlt), hy]; simp [c] : exS k n e L (i + 1) = exS k n e L i))
          obtain ⟨fb, hfb⟩ : ∃ fb, fndB k n e y = fb := ⟨_, rfl⟩
          rw [hfb]
          replace hfb := Lib.hid hfb
          have hownk := Lib.hid (hown.out.kept (row := none) (w' := V2) ⟨hBV.os, hBV.tape, hBV.output, hBV.size, fun k hk _ => hBV.block k hk⟩ (by cases (Value.ownBlock _) <;> simp))
          have hD2 : Below (w5.heap.size + 1) W6 V2 := hD.trans (hBV.mono hz)
          have hz2 : w5.heap.size + 1 ≤ V2.heap.size := by have := hBV.size; omega
          have u0 := (hBV.cell (p := ⟨b, _, none⟩) hbV).trans s0
          have u1 := (hBV.cell (p := ⟨b, _, none⟩) hbV).trans s1
          have u2 := (hBV.cell (p := ⟨b, _, none⟩) hbV).trans s2
          have hle16 := exS_le (k := k) (n := n) (e := e) (i := i) (L := L)
          clear hown hD hfn hFV hZV hF2
          cases fb with
          | false =>
            have hex2 : exS k n e L (i + 1) = exS k n e L i := hexf.out hfb.out
            clear hext hexf
            rw [← hex2] at hownk
            go_wp2
            go_roundw
            case rel => exact ⟨i + 1, by omega, by go_num, hownk, hD2, hz2⟩
            case measure => simp [intOf]; omega
          | true =>
            have hex2 : exS k n e L (i + 1) = exS k n e L i ++ [((k : Int), ((n + 1 : Nat) : Int), (y : Int))] := hext.out hfb.out
            clear hext hexf
            obtain ⟨N, hN⟩ : ∃ N : Int, ((n + 1 : Nat) : Int) = N := ⟨_, rfl⟩
            rw [hN] at u1 hex2
            go_wp2_with (at_builtin; refine wpList_append_own _ rfl _ _ 29 rfl (w5.heap.size + 1) 34 i0 (.agg #[.int .i64 0, .int .i64 0, .int .u32 0]) 3 24 Try.underlying29 hi.out hz0.out hz1.out hz2'.out rfl (by decide) _ _ _ rfl (hownk.out.alloc _) ⟨V2.heap.size, 0, none⟩ 1 1 [.int .i64 k, .int .i64 N, .int .u32 y] rfl rfl (fun q u hq => by match q, hq with
              | 0, hq => simp at hq; subst hq; rw [show (⟨V2.heap.size, 0, none⟩ : Addr).add 0 = ⟨V2.heap.size, 0, none⟩ from rfl, World.cell?_alloc_new]; rfl
              | 1, hq => simp at hq; subst hq; rw [show (⟨V2.heap.size, 0, none⟩ : Addr).add 1 = ⟨V2.heap.size, 1, none⟩ from rfl, World.cell?_alloc_new]; rfl
              | 2, hq => simp at hq; subst hq; rw [show (⟨V2.heap.size, 0, none⟩ : Addr).add 2 = ⟨V2.heap.size, 2, none⟩ from rfl, World.cell?_alloc_new]; rfl
              | q + 3, hq => simp at hq) (fun u hu => by simp at hu; rcases hu with rfl | rfl | rfl <;> rfl) (by unfold maxLen; omega) (by omega) (by simp; omega) ?_; intro v' w9 hown' hgrow _)
            have hD9 : Below (w5.heap.size + 1) W6 w9 := (hD2.alloc hz2 _).grown hgrow (by simp; omega) (fun k hk => (hownk.out.lt k hk).1)
            have hz9 : w5.heap.size + 1 ≤ w9.heap.size := by have := hgrow.size; simp at this; omega
            have hown9 : Hid (w9.ownsRow (w5.heap.size + 1) 34 3 v' (exS k n e L (i + 1)).length (ksC (exS k n e L (i + 1)))) := by
              show World.ownsRow _ _ _ _ _ _ _
              rw [hex2, ksC_snoc, List.length_append]
              exact hown'
            clear hown' hgrow hownk
            go_roundw
            case rel => exact ⟨i + 1, by omega, by go_num, hown9, hD9, hz9⟩
            case measure => simp [intOf]; omega
    · obtain rfl : i = len := by omega
      have hd := decide_eq_false (show ¬ ((i : Int) < (i : Int)) by omega)
      have hall := hAll.out
      rw [hlen.out] at hall
      rw [hall] at hown
      have hO := Lib.hid (ownK_of_row (w0 := w) hown.out (by omega))
      have hBz := hB6.trans (hD.mono (show w.heap.size ≤ w5.heap.size + 1 by omega))
      have hform := hown.out.2
      have hl16 := hLen.out
      obtain ⟨ll, hll⟩ : ∃ ll, E.length = ll := ⟨_, rfl⟩
      rw [hll] at hform hl16
      clear hown hall hll
      have hd64 : decide (64 < (ll : Int)) = false := decide_eq_false (by omega)
      rcases hform with ⟨rfl, rfl⟩ | ⟨g, cap2, cur, rfl, _⟩
      all_goals go_wp2
      all_goals go_ret2
      all_goals exact ⟨⟨_, rfl, hO.out⟩, hBz⟩
end
end Go.Proofs.Ytpobonomdfbanaa
/-
  ExtensionsOf: both sides answer alike.
-/
namespace Go.Proofs.Ytpobonomdfbanaa
open Go.RowKit
set_option maxRecDepth 100000
theorem ex_both (k n e : Int) (he : e < 4294967296) (h0 : 0 ≤ e) (gs : List (Int × Int)) (hm : gs.length ≤ 1048576) (hbd : Bd gs) : ∃ (L : List (Int × Int × Int)) (c : Int), L.length ≤ 1024 ∧
    (∀ W v, SlG W v gs → Calls Try.prog 14 #[.agg #[.int .i64 k, .int .i64 n, .int .u32 e], v] W (RetK W L c)) ∧
    (∀ W v, SlG W v gs → Calls Try.prog 17 #[.agg #[.int .i64 k, .int .i64 n, .int .u32 e], v] W (RetK W L c)) := by
  by_cases hv : VK k n e
  · obtain ⟨c, hc0, _, _, hi, hs⟩ := forb_both gs hm hbd
    by_cases hc : c = 0
    · subst hc
      obtain ⟨hV, h6⟩ := hc0 rfl
      by_cases h5 : n = 5
      · subst h5
        refine ⟨[], 2, by simp, fun W v hS => ?_, fun W v hS => ?_⟩
        · obtain ⟨a, cap, rfl, hl⟩ := hS.lies
          exact sex_five W k e hv a _ cap (fun W' hW => hs W' a cap (hl.below hW))
        · obtain ⟨a, cap, rfl, hl⟩ := hS.lies
          exact iex_five W k e hv a _ cap (fun W' hW => hi W' a cap (hl.below hW))
      · obtain ⟨k, n, e, rfl, rfl, rfl⟩ : ∃ k' n' e' : Nat, k = k' ∧ n = n' ∧ e = e' := ⟨k.toNat, n.toNat, e.toNat, by have := hv.2.1; omega, by have := hv.1.1; omega, by omega⟩
        have hn4 : n ≤ 4 := by have := hv.1.2.1; omega
        exact ⟨exL n k e gs, 0, by have := exL_len (gs := gs) hn4 hv.nums.2.2.1 hv.nums.2.2.2 hv; omega, fun W v hS => sex_ok W k n e hv hn4 v gs hS hm hbd hV h6, fun W v hS => iex_ok W k n e hv hn4 v gs hS hm hbd hV h6⟩
    · refine ⟨[], c, by simp, fun W v hS => ?_, fun W v hS => ?_⟩
      · obtain ⟨a, cap, rfl, hl⟩ := hS.lies
        exact sex_code W k n e c hc hv a _ cap (fun W' hW => hs W' a cap (hl.below hW))
      · obtain ⟨a, cap, rfl, hl⟩ := hS.lies
        exact iex_code W k n e c hc hv a _ cap (fun W' hW => hi W' a cap (hl.below hW))
  · refine ⟨[], 1, by simp, fun W v hS => ?_, fun W v hS => ?_⟩
    · obtain ⟨a, cap, rfl, _⟩ := hS.lies
      exact sex_inv W k n e he h0 hv a _ cap
    · obtain ⟨a, cap, rfl, _⟩ := hS.lies
      exact iex_inv W k n e he h0 hv a _ cap
end Go.Proofs.Ytpobonomdfbanaa
