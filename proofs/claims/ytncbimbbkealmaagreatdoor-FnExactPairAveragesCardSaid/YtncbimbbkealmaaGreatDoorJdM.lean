/-
  Jm, Jt, Jts, KSeesU, KSeesN, Spr, Cq, Jd1, Jq, Jd2, Jms, in one text.
-/
import Derived.Test.YtncbimbbkealmaaGreatDoorFd
import Derived.Deep.RegionHeld3
import Derived.Test.YtncbimbbkealmaaGreatDoorCfM1
import Derived.RangeFuncNested
import Derived.Scope
import Derived.OwnWalkIn
import Derived.TacticsInMore
import Derived.LoopNIn
import Derived.LoopIn
import Derived.Test.YtncbimbbkealmaaGreatDoorThA
import Derived.Test.YtncbimbbkealmaaGreatDoorRi
import Derived.BigQuiet
/-
  Whether a list holds a number (the model's l00Has); whether two lists have one in common (l04Meet).
-/
namespace Go.Proofs.YtncbimbbkealmaaGreatDoor
open Go.RowKit Go.Shelf
set_option maxRecDepth 100000
attribute [local go_sem] Oper.semAt_some
theorem contains_at {x : List Nat} {u k : Nat} (hk : k < x.length) (h : x[k]?.getD 0 = u) : x.contains u = true := by
  rw [List.getElem?_eq_getElem hk] at h
  simp only [Option.getD_some] at h
  simpa using h ▸ List.getElem_mem hk
theorem contains_no {x : List Nat} {u : Nat} (h : ∀ i, i < x.length → x[i]?.getD 0 ≠ u) : x.contains u = false := by
  cases hb : x.contains u
  · rfl
  · have hm : u ∈ x := by simpa using hb
    obtain ⟨i, hi, e⟩ := List.mem_iff_getElem.1 hm
    exact absurd (by rw [List.getElem?_eq_getElem hi]; exact e) (h i hi)
/-- have they one in common? -/
def mtB (x y : List Nat) : Bool := x.any fun a => y.contains a
theorem mtB_at {x y : List Nat} {k : Nat} (hk : k < x.length) (h : y.contains (x[k]?.getD 0) = true) : mtB x y = true := by
  rw [List.getElem?_eq_getElem hk] at h
  unfold mtB
  rw [List.any_eq_true]
  exact ⟨_, List.getElem_mem hk, h⟩
theorem mtB_no {x y : List Nat} (h : ∀ i, i < x.length → y.contains (x[i]?.getD 0) = false) : mtB x y = false := by
  unfold mtB
  rw [List.any_eq_false]
  intro a ha
  obtain ⟨i, hi, e⟩ := List.mem_iff_getElem.1 ha
  have := h i hi
  rw [List.getElem?_eq_getElem hi] at this
  simp only [Option.getD_some] at this
  rw [e] at this
  rw [this]
  simp
section
variable (w : World)
set_option maxHeartbeats 1000000 in
theorem has_any (v : Value) (x : List Nat) (u : Nat) (h : SlI w v (zl x)) (hl : x.length ≤ 1048576) :
    Calls Tryz.prog 60 #[v, .int .i64 u] w fun e w' => e = .returned (.bool (x.contains u)) ∧ w = w' := by
  obtain ⟨a, cap, rfl, h1, h2, h3⟩ := h
  have hc : Hid (∀ i, i < x.length → ∃ b off, a = some ⟨b, off, none⟩ ∧ w.cell? ⟨b, off + i, none⟩ = some (.int .i64 ((x[i]?.getD 0 : Nat) : Int))) := fun i hi => by
    obtain ⟨b, off, e, _, hc⟩ := h3 (by intro c; rw [← List.length_eq_zero_iff, zl_length] at c; omega)
    refine ⟨b, off, e, ?_⟩
    have := hc i (by rw [zl_length]; exact hi)
    rwa [zl_get] at this
  rw [zl_length] at h1 ⊢
  have hy := Lib.hid (fun k (hk : k < x.length) (h : x[k]?.getD 0 = u) => contains_at hk h)
  have hn := Lib.hid (fun (h : ∀ i, i < x.length → x[i]?.getD 0 ≠ u) => contains_no h)
  obtain ⟨N, hN⟩ : ∃ N, x.length = N := ⟨_, rfl⟩
  rw [hN] at hc hy hn hl h1 ⊢
  obtain ⟨r, hr⟩ : ∃ r, x.contains u = r := ⟨_, rfl⟩
  rw [hr] at hy hn ⊢
  clear h3 hN hr h1 h2
  go_enter Tryz.func60, Tryz.ntmps60
  go_wp2
  go_loop [4, 5] (fun s i => ∃ k : Nat, k ≤ N ∧ s = .bool false ∧ i = .int .i64 k ∧ Hid (∀ q, q < k → x[q]?.getD 0 ≠ u)) (fun _ i => N - (intOf i).toNat)
  case atStart => exact ⟨0, by omega, rfl, rfl, fun q hq => by omega⟩
  case round =>
    obtain ⟨k, hk, rfl, rfl, hq⟩ := hrel
    by_cases hlt : k < N
    · obtain ⟨b, off, rfl, hs⟩ := hc.out k hlt
      have hkn : (k : Int) < (N : Int) := by omega
      obtain ⟨z, hz⟩ : ∃ z, x[k]?.getD 0 = z := ⟨_, rfl⟩
      rw [hz] at hs
      by_cases hzu : z = u
      · have hyes := hy.out k hlt (hz.trans hzu)
        subst hzu
        subst hyes
        clear hz
        go_wp2
        go_ret
        exact ⟨rfl, rfl⟩
      · have hne : ((z : Int) == (u : Int)) = false := by simp; omega
        have hnx : Hid (∀ q, q < k + 1 → x[q]?.getD 0 ≠ u) := fun q hqk => by
          by_cases e : q < k
          · exact hq.out q e
          · obtain rfl : q = k := by omega
            rw [hz]; exact hzu
        clear hz hq
        go_wp2
        go_round
        case rel => exact ⟨k + 1, by omega, rfl, by go_num, hnx⟩
        case measure => simp [intOf]; omega
    · obtain rfl : k = N := by omega
      have hdd := decide_eq_false (show ¬ ((k : Int) < (k : Int)) by omega)
      obtain rfl := hn.out hq.out
      go_wp2
      go_ret
      exact ⟨rfl, rfl⟩
set_option maxHeartbeats 1000000 in
theorem meet_any (v v' : Value) (x y : List Nat) (h : SlI w v (zl x)) (h' : SlI w v' (zl y)) (hl : x.length ≤ 1048576) (hl' : y.length ≤ 1048576) :
    Calls Tryz.prog 82 #[v, v'] w fun e w' => e = .returned (.bool (mtB x y)) ∧ w = w' := by
  have hH := Lib.hid (fun u => has_any w v' y u h' hl')
  obtain ⟨a, cap, rfl, h1, h2, h3⟩ := h
  have hc : Hid (∀ i, i < x.length → ∃ b off, a = some ⟨b, off, none⟩ ∧ w.cell? ⟨b, off + i, none⟩ = some (.int .i64 ((x[i]?.getD 0 : Nat) : Int))) := fun i hi => by
    obtain ⟨b, off, e, _, hc⟩ := h3 (by intro c; rw [← List.length_eq_zero_iff, zl_length] at c; omega)
    refine ⟨b, off, e, ?_⟩
    have := hc i (by rw [zl_length]; exact hi)
    rwa [zl_get] at this
  rw [zl_length] at h1 ⊢
  have hy := Lib.hid (fun k (hk : k < x.length) (h : y.contains (x[k]?.getD 0) = true) => mtB_at hk h)
  have hn := Lib.hid (fun (h : ∀ i, i < x.length → y.contains (x[i]?.getD 0) = false) => mtB_no h)
  obtain ⟨N, hN⟩ : ∃ N, x.length = N := ⟨_, rfl⟩
  rw [hN] at hc hy hn hl h1 ⊢
  obtain ⟨r, hr⟩ : ∃ r, mtB x y = r := ⟨_, rfl⟩
  rw [hr] at hy hn ⊢
  clear h3 hN hr h1 h2 h' hl'
  go_enter Tryz.func82, Tryz.ntmps82
  go_wp2
  go_loop [4, 5] (fun s i => ∃ k : Nat, k ≤ N ∧ s = .bool false ∧ i = .int .i64 k ∧ Hid (∀ q, q < k → y.contains (x[q]?.getD 0) = false)) (fun _ i => N - (intOf i).toNat)
  case atStart => exact ⟨0, by omega, rfl, rfl, fun q hq => by omega⟩
  case round =>
    obtain ⟨k, hk, rfl, rfl, hq⟩ := hrel
    by_cases hlt : k < N
    · obtain ⟨b, off, rfl, hs⟩ := hc.out k hlt
      have hkn : (k : Int) < (N : Int) := by omega
      obtain ⟨z, hz⟩ : ∃ z, x[k]?.getD 0 = z := ⟨_, rfl⟩
      rw [hz] at hs
      have hHz := Lib.hid (hH.out z)
      cases hb : y.contains z
      · rw [hb] at hHz
        have hnx : Hid (∀ q, q < k + 1 → y.contains (x[q]?.getD 0) = false) := fun q hqk => by
          by_cases e : q < k
          · exact hq.out q e
          · obtain rfl : q = k := by omega
            rw [hz]; exact hb
        clear hz hq hb
        go_wp2_with (go_at_call 60; refine (hHz.out).mono ?_; rintro r1 w1 ⟨rfl, rfl⟩)
        go_round
        case rel => exact ⟨k + 1, by omega, rfl, by go_num, hnx⟩
        case measure => simp [intOf]; omega
      · rw [hb] at hHz
        have hyes := hy.out k hlt (by rw [hz]; exact hb)
        subst hyes
        clear hz hb
        go_wp2_with (go_at_call 60; refine (hHz.out).mono ?_; rintro r1 w1 ⟨rfl, rfl⟩)
        go_ret
        exact ⟨rfl, rfl⟩
    · obtain rfl : k = N := by omega
      have hdd := decide_eq_false (show ¬ ((k : Int) < (k : Int)) by omega)
      obtain rfl := hn.out hq.out
      go_wp2
      go_ret
      exact ⟨rfl, rfl⟩
end
end Go.Proofs.YtncbimbbkealmaaGreatDoor
/-
  The density of two flags side by side: how many pairs of sets; the model's l04Joint.
-/
namespace Go.Proofs.YtncbimbbkealmaaGreatDoor
open Go.RowKit Go.Shelf
set_option maxRecDepth 100000
attribute [local go_sem] Oper.semAt_some
/-- the sets that have none in common with s; those that fit, too -/
def prA (s : List Nat) (T : List (List Nat)) : Nat := cntP (fun t => !mtB s t) T
def prN (b : Bool) (p : List Nat → Bool) (s : List Nat) (T : List (List Nat)) : Nat := cntP (fun t => !mtB s t && (b && p t)) T
def jA : List (List Nat) → List (List Nat) → Nat
  | [], _ => 0
  | s :: r, T => prA s T + jA r T
def jN (p1 p2 : List Nat → Bool) : List (List Nat) → List (List Nat) → Nat
  | [], _ => 0
  | s :: r, T => prN (p1 s) p2 s T + jN p1 p2 r T
theorem jA_snoc (s : List Nat) (T : List (List Nat)) : ∀ l, jA (l ++ [s]) T = jA l T + prA s T
  | [] => by simp [jA]
  | x :: r => by simp only [List.cons_append, jA, jA_snoc s T r]; omega
theorem jN_snoc (p1 p2 : List Nat → Bool) (s : List Nat) (T : List (List Nat)) : ∀ l, jN p1 p2 (l ++ [s]) T = jN p1 p2 l T + prN (p1 s) p2 s T
  | [] => by simp [jN]
  | x :: r => by simp only [List.cons_append, jN, jN_snoc p1 p2 s T r]; omega
theorem prA_le (s : List Nat) (T : List (List Nat)) : prA s T ≤ T.length := cntP_le _ _
theorem prN_le (b : Bool) (p : List Nat → Bool) (s : List Nat) (T : List (List Nat)) : prN b p s T ≤ T.length := cntP_le _ _
theorem jA_le (T : List (List Nat)) (hT : T.length ≤ 32) : ∀ l, jA l T ≤ l.length * 32
  | [] => by simp [jA]
  | x :: r => by
    have := jA_le T hT r
    have := prA_le x T
    simp only [jA, List.length_cons]; omega
theorem jN_le (p1 p2 : List Nat → Bool) (T : List (List Nat)) (hT : T.length ≤ 32) : ∀ l, jN p1 p2 l T ≤ l.length * 32
  | [] => by simp [jN]
  | x :: r => by
    have := jN_le p1 p2 T hT r
    have := prN_le (p1 x) p2 x T
    simp only [jN, List.length_cons]; omega
/-- three flags' boxes and a result's -/
structure J0 (W : World) (G : Nat) (k0 n0 e0 k1 n1 e1 k n e : Int) : Prop where
  f : FC W G k0 n0 e0
  h : FC W (G + 1) k1 n1 e1
  g : FC W (G + 2) k n e
  r : FqB W (G + 3) 0 0
theorem J0.below {W W' : World} {G : Nat} {k0 n0 e0 k1 n1 e1 k n e : Int} (h : J0 W G k0 n0 e0 k1 n1 e1 k n e) (hb : Below W.heap.size W W') : J0 W' G k0 n0 e0 k1 n1 e1 k n e := ⟨h.f.below hb, h.h.below hb, h.g.below hb, h.r.below hb⟩
theorem j0_made (w : World) (k0 n0 e0 k1 n1 e1 k n e : Int) : J0 ((((w.alloc (.cells #[.int .i64 k0, .int .i64 n0, .int .u32 e0] 43)).alloc (.cells #[.int .i64 k1, .int .i64 n1, .int .u32 e1] 43)).alloc (.cells #[.int .i64 k, .int .i64 n, .int .u32 e] 43)).alloc (.cells #[.int .i64 0, .int .i64 0] 51)) w.heap.size k0 n0 e0 k1 n1 e1 k n e := by
  obtain ⟨hF0, hG0⟩ := two_boxes w k0 n0 e0 k1 n1 e1 43
  have hH0 := FC.made ((w.alloc (.cells #[.int .i64 k0, .int .i64 n0, .int .u32 e0] 43)).alloc (.cells #[.int .i64 k1, .int .i64 n1, .int .u32 e1] 43)) k n e 43
  have hR0 := FqB.made (((w.alloc (.cells #[.int .i64 k0, .int .i64 n0, .int .u32 e0] 43)).alloc (.cells #[.int .i64 k1, .int .i64 n1, .int .u32 e1] 43)).alloc (.cells #[.int .i64 k, .int .i64 n, .int .u32 e] 43)) 0 0 51
  rw [World.size_alloc, World.size_alloc] at hH0
  rw [World.size_alloc, World.size_alloc, World.size_alloc] at hR0
  exact ⟨(hF0.below (balloc (Below.refl _ _) _)).below (balloc (Below.refl _ _) _), (hG0.below (balloc (Below.refl _ _) _)).below (balloc (Below.refl _ _) _), hH0.below (balloc (Below.refl _ _) _), hR0⟩
/-- the part on a set, against the least one of what is looked for -/
theorem sfr4_any (W : World) (k n0 e0 q : Nat) (hq : k + q = n0) (hn : n0 ≤ 5) : Calls Tryz.prog 16 #[.agg #[.int .i64 k, .int .i64 n0, .int .u32 e0]] W fun r w' => r = .returned (.int .i64 (q : Int)) ∧ Below W.heap.size W w' := by
  have e1 : (n0 : Int) - (k : Int) = (q : Int) := by omega
  have hq5 : q ≤ 5 := by omega
  clear hq
  go_enter Tryz.func16, Tryz.ntmps16
  go_wp2
  go_ret
  exact ⟨rfl, by (repeat (first | exact Below.refl _ _ | assumption | refine bchain (by assumption) ?_ | refine balloc ?_ _ | apply Below.drew | apply below_drewN | (refine Below.alloc ?_ (by (try simp) <;> omega) _) | (refine Below.setCell ?_ (by (try simp) <;> omega) _)))⟩
/-- what a list of sets is for a flag: each set's part, and whether it is alike -/
def PtS (k n e n0 e0 : Nat) (p : List Nat → Bool) (L : List (List Nat)) : Prop := ∀ x, x ∈ L → x.length ≤ 5 ∧ ∃ y : Nat, (∀ W v, SlS W v (zl x) → Calls Tryz.prog 81 #[.agg #[.int .i64 k, .int .i64 n, .int .u32 e], v] W fun r w' => r = .returned (.agg #[.int .i64 k, .int .i64 (n0 : Int), .int .u32 (y : Int)]) ∧ Below W.heap.size W w') ∧ p x = (y == leastK n0 k e0)
theorem ptS_of (k n e n0 e0 q : Nat) (h : VK k n e) (h0 : VK k n0 e0) (hle : n0 ≤ n) (hq : k + q = n0) : PtS k n e n0 e0 (inB k e n0 (tE n0 k e0)) ((setsL (n - k) q).map (shN k)) := fun x hx => by
  obtain ⟨he, hn5, hk3, hkn⟩ := h.nums
  obtain ⟨x0, hx0, rfl⟩ := List.mem_map.1 hx
  obtain ⟨hxl, hxo⟩ := cf_mem hn5 hkn hx0
  have hv : VK k (k + q : Nat) (onL e (List.range k ++ shN k x0) : Nat) := VK.mk' (by omega) hk3 (by omega) (onL_ltP e hxo (by omega))
  refine ⟨by rw [shN_length, hxl]; omega, leastK n0 k (onL e (List.range k ++ shN k x0)), fun W v hs => ?_, inB_least h h0 hle (by rw [← hq]; exact hxo)⟩
  have := skpart_any W k n e q (shN k x0) v h hs (by rw [shN_length]; exact hxl) hxo hv
  rwa [hq] at this
end Go.Proofs.YtncbimbbkealmaaGreatDoor
/-
  The density of two flags side by side: the model's l04Joint.
-/
namespace Go.Proofs.YtncbimbbkealmaaGreatDoor
open Go.RowKit Go.Shelf
set_option maxRecDepth 100000
attribute [local go_sem] Oper.semAt_some
section
variable (w : World)
set_option maxHeartbeats 8000000 in
theorem sjt_any (k n e n0 e0 m0 f0 q1 q2 : Nat) (h : VK k n e) (h0 : VK k n0 e0) (h1 : VK k m0 f0) (hq1 : k + q1 = n0) (hq2 : k + q2 = m0) (p1 p2 : List Nat → Bool) (L1 L2 : List (List Nat))
    (hL1 : (setsL (n - k) q1).map (shN k) = L1) (hL2 : (setsL (n - k) q2).map (shN k) = L2) (hP1 : PtS k n e n0 e0 p1 L1) (hP2 : PtS k n e m0 f0 p2 L2)
    (x y : Int) (hA : 0 < jA L1 L2) (hlow : Fr.low (jN p1 p2 L1 L2 : Nat) (jA L1 L2 : Nat) = some (x, y)) :
    Calls Tryz.prog 64 #[.agg #[.int .i64 k, .int .i64 n0, .int .u32 e0], .agg #[.int .i64 k, .int .i64 m0, .int .u32 f0], .agg #[.int .i64 k, .int .i64 n, .int .u32 e]] w
      fun r w' => r = .returned (.agg #[.int .i64 x, .int .i64 y]) ∧ Below w.heap.size w w' := by
  obtain ⟨he, hn5, hk3, hkn⟩ := h.nums
  obtain ⟨_, hn05, _, hkn0⟩ := h0.nums
  obtain ⟨_, hm05, _, hkm0⟩ := h1.nums
  have hLs1 := Lib.hid (fun W => sleastK_any W k n0 e0 h0)
  have hLs2 := Lib.hid (fun W => sleastK_any W k m0 f0 h1)
  have hFr1 := Lib.hid (fun W => sfr4_any W k n0 e0 q1 hq1 hn05)
  have hFr2 := Lib.hid (fun W => sfr4_any W k m0 f0 q2 hq2 hm05)
  have hSl1 := Lib.hid (fun W => sl4_any W k n e q1 hn5 hkn)
  have hSl2 := Lib.hid (fun W => sl4_any W k n e q2 hn5 hkn)
  rw [hL1] at hSl1
  rw [hL2] at hSl2
  have hlen1 : L1.length ≤ 32 := by rw [← hL1, List.length_map]; exact sets_len (by omega)
  have hlen2 : L2.length ≤ 32 := by rw [← hL2, List.length_map]; exact sets_len (by omega)
  have hb1 : ∀ i, jA (L1.take i) L2 ≤ 1024 ∧ jN p1 p2 (L1.take i) L2 ≤ 1024 := fun i => by
    have a1 := jA_le L2 hlen2 (L1.take i)
    have a2 := jN_le p1 p2 L2 hlen2 (L1.take i)
    have a3 : (L1.take i).length ≤ 32 := by rw [List.length_take]; omega
    omega
  replace hb1 := Lib.hid hb1
  have hbd : jA L1 L2 ≤ 1024 ∧ jN p1 p2 L1 L2 ≤ 1024 := by have := hb1.out L1.length; rwa [List.take_length] at this
  have hQ := Lib.hid (fun W => srat_any W (jN p1 p2 L1 L2 : Nat) (jA L1 L2 : Nat) x y (by omega) (by omega) (by omega) hlow)
  replace hP1 := Lib.hid hP1
  replace hP2 := Lib.hid hP2
  obtain ⟨ls1, hls1⟩ : ∃ ls, leastK n0 k e0 = ls := ⟨_, rfl⟩
  obtain ⟨ls2, hls2⟩ : ∃ ls, leastK m0 k f0 = ls := ⟨_, rfl⟩
  unfold PtS at hP1 hP2
  rw [hls1] at hLs1 hP1
  rw [hls2] at hLs2 hP2
  have k0 := Lib.hid (j0_made w k n0 e0 k m0 f0 k n e)
  clear hL1 hL2 hq1 hq2 hlow hA h h0 h1 hbd hls1 hls2
  go_enter Tryz.func64, Tryz.ntmps64
  go_wp2_with fail
  refine (hLs1.out _).mono ?_
  rintro r1 w1 ⟨rfl, hb⟩
  have k1 := Lib.hid ((k0.out.below hb).below (balloc (Below.refl _ _) (.cells #[.int .i64 (k : Int), .int .i64 (n0 : Int), .int .u32 (ls1 : Int)] 43)))
  have hBx1 := FC.made w1 k n0 ls1 43
  obtain ⟨t1, ht1⟩ : ∃ t, w1.heap.size = t := ⟨_, rfl⟩
  have hB1 : Below w.heap.size w (w1.alloc (.cells #[.int .i64 (k : Int), .int .i64 (n0 : Int), .int .u32 (ls1 : Int)] 43)) := by (repeat (first | exact Below.refl _ _ | assumption | refine bchain (by assumption) ?_ | refine balloc ?_ _ | apply Below.drew | apply below_drewN | (refine Below.alloc ?_ (by (try simp) <;> omega) _) | (refine Below.setCell ?_ (by (try simp) <;> omega) _)))
  rw [ht1] at hBx1
  obtain ⟨f0', f1, f2, f3⟩ := id k1.out.h
  replace hBx1 := Lib.hid hBx1
  clear hb k0
  go_wp2_with fail
  refine (hLs2.out _).mono ?_
  rintro r2 w2 ⟨rfl, hb⟩
  have k2 := k1.out.below hb
  have hx2 := hBx1.out.below hb
  have hB2 := hB1.trans (hb.mono hB1.size)
  clear hb k1 hBx1 hB1 ht1 f0' f1 f2 f3
  obtain ⟨W2, hW2⟩ : ∃ W, W = w2.alloc (.cells #[.int .i64 (k : Int), .int .i64 (m0 : Int), .int .u32 (ls2 : Int)] 43) := ⟨_, rfl⟩
  have hbW : Below w2.heap.size w2 W2 := by rw [hW2]; (repeat (first | exact Below.refl _ _ | assumption | refine bchain (by assumption) ?_ | refine balloc ?_ _ | apply Below.drew | apply below_drewN | (refine Below.alloc ?_ (by (try simp) <;> omega) _) | (refine Below.setCell ?_ (by (try simp) <;> omega) _)))
  have hy2 : FC W2 w2.heap.size k m0 ls2 := by rw [hW2]; exact FC.made w2 k m0 ls2 _
  replace k2 := Lib.hid (k2.below hbW)
  replace hx2 := Lib.hid (hx2.below hbW)
  replace hy2 := Lib.hid hy2
  have hB2' : Below w.heap.size w W2 := hB2.trans (hbW.mono hB2.size)
  obtain ⟨t2, ht2⟩ : ∃ t, w2.heap.size = t := ⟨_, rfl⟩
  rw [ht2] at hy2
  replace hW2 := Lib.hid hW2
  obtain ⟨a0, a1, a2, a3⟩ := id k2.out.f
  obtain ⟨b0, b1, b2, b3⟩ := id k2.out.g
  go_wp2
  rw [← hW2.out]
  clear hW2 hB2 hbW ht2
  go_region_held3 (fun A => A.cell? ⟨w.heap.size, 0, none⟩ = some (.int .i64 k) ∧ A.cell? ⟨w.heap.size, 1, none⟩ = some (.int .i64 n0) ∧ A.cell? ⟨w.heap.size, 2, none⟩ = some (.int .u32 e0) ∧ A.cell? ⟨w.heap.size + 2, 0, none⟩ = some (.int .i64 k) ∧ A.cell? ⟨w.heap.size + 2, 1, none⟩ = some (.int .i64 n) ∧ A.cell? ⟨w.heap.size + 2, 2, none⟩ = some (.int .u32 e))
    (exact ⟨old_cell a0 a1 (by (repeat (first | exact Below.refl _ _ | assumption | refine bchain (by assumption) ?_ | refine balloc ?_ _ | apply Below.drew | apply below_drewN | (refine Below.alloc ?_ (by (try simp) <;> omega) _) | (refine Below.setCell ?_ (by (try simp) <;> omega) _)))), old_cell a0 a2 (by (repeat (first | exact Below.refl _ _ | assumption | refine bchain (by assumption) ?_ | refine balloc ?_ _ | apply Below.drew | apply below_drewN | (refine Below.alloc ?_ (by (try simp) <;> omega) _) | (refine Below.setCell ?_ (by (try simp) <;> omega) _)))), old_cell a0 a3 (by (repeat (first | exact Below.refl _ _ | assumption | refine bchain (by assumption) ?_ | refine balloc ?_ _ | apply Below.drew | apply below_drewN | (refine Below.alloc ?_ (by (try simp) <;> omega) _) | (refine Below.setCell ?_ (by (try simp) <;> omega) _)))), old_cell b0 b1 (by (repeat (first | exact Below.refl _ _ | assumption | refine bchain (by assumption) ?_ | refine balloc ?_ _ | apply Below.drew | apply below_drewN | (refine Below.alloc ?_ (by (try simp) <;> omega) _) | (refine Below.setCell ?_ (by (try simp) <;> omega) _)))), old_cell b0 b2 (by (repeat (first | exact Below.refl _ _ | assumption | refine bchain (by assumption) ?_ | refine balloc ?_ _ | apply Below.drew | apply below_drewN | (refine Below.alloc ?_ (by (try simp) <;> omega) _) | (refine Below.setCell ?_ (by (try simp) <;> omega) _)))), old_cell b0 b3 (by (repeat (first | exact Below.refl _ _ | assumption | refine bchain (by assumption) ?_ | refine balloc ?_ _ | apply Below.drew | apply below_drewN | (refine Below.alloc ?_ (by (try simp) <;> omega) _) | (refine Below.setCell ?_ (by (try simp) <;> omega) _))))⟩)
    (first
      | (go_at_call 16; refine (hFr1.out _).mono ?_; rintro r3 w3 ⟨rfl, hb3⟩)
      | (go_at_call 80; refine (hSl1.out _).mono ?_; rintro r4 w4 ⟨⟨v1, rfl, hSe1⟩, hb4⟩))
  have hx4 : Below W2.heap.size W2 w4 := by (repeat (first | exact Below.refl _ _ | assumption | refine bchain (by assumption) ?_ | refine balloc ?_ _ | apply Below.drew | apply below_drewN | (refine Below.alloc ?_ (by (try simp) <;> omega) _) | (refine Below.setCell ?_ (by (try simp) <;> omega) _)))
  have hB4 : Below w.heap.size w w4 := hB2'.trans (hx4.mono hB2'.size)
  have k4 := Lib.hid (k2.out.below hx4)
  have hx4' := Lib.hid (hx2.out.below hx4)
  have hy4 := Lib.hid (hy2.out.below hx4)
  clear a0 a1 a2 a3 b0 b1 b2 b3 k2 hx2 hy2 hx4 hB2' hb3 hb4
  obtain ⟨a0, a1, a2, a3⟩ := id k4.out.h
  obtain ⟨b0, b1, b2, b3⟩ := id k4.out.g
  go_wp2
  go_region_held3 (fun A => A.cell? ⟨w.heap.size + 1, 0, none⟩ = some (.int .i64 k) ∧ A.cell? ⟨w.heap.size + 1, 1, none⟩ = some (.int .i64 m0) ∧ A.cell? ⟨w.heap.size + 1, 2, none⟩ = some (.int .u32 f0) ∧ A.cell? ⟨w.heap.size + 2, 0, none⟩ = some (.int .i64 k) ∧ A.cell? ⟨w.heap.size + 2, 1, none⟩ = some (.int .i64 n) ∧ A.cell? ⟨w.heap.size + 2, 2, none⟩ = some (.int .u32 e))
    (exact ⟨old_cell a0 a1 (by (repeat (first | exact Below.refl _ _ | assumption | refine bchain (by assumption) ?_ | refine balloc ?_ _ | apply Below.drew | apply below_drewN | (refine Below.alloc ?_ (by (try simp) <;> omega) _) | (refine Below.setCell ?_ (by (try simp) <;> omega) _)))), old_cell a0 a2 (by (repeat (first | exact Below.refl _ _ | assumption | refine bchain (by assumption) ?_ | refine balloc ?_ _ | apply Below.drew | apply below_drewN | (refine Below.alloc ?_ (by (try simp) <;> omega) _) | (refine Below.setCell ?_ (by (try simp) <;> omega) _)))), old_cell a0 a3 (by (repeat (first | exact Below.refl _ _ | assumption | refine bchain (by assumption) ?_ | refine balloc ?_ _ | apply Below.drew | apply below_drewN | (refine Below.alloc ?_ (by (try simp) <;> omega) _) | (refine Below.setCell ?_ (by (try simp) <;> omega) _)))), old_cell b0 b1 (by (repeat (first | exact Below.refl _ _ | assumption | refine bchain (by assumption) ?_ | refine balloc ?_ _ | apply Below.drew | apply below_drewN | (refine Below.alloc ?_ (by (try simp) <;> omega) _) | (refine Below.setCell ?_ (by (try simp) <;> omega) _)))), old_cell b0 b2 (by (repeat (first | exact Below.refl _ _ | assumption | refine bchain (by assumption) ?_ | refine balloc ?_ _ | apply Below.drew | apply below_drewN | (refine Below.alloc ?_ (by (try simp) <;> omega) _) | (refine Below.setCell ?_ (by (try simp) <;> omega) _)))), old_cell b0 b3 (by (repeat (first | exact Below.refl _ _ | assumption | refine bchain (by assumption) ?_ | refine balloc ?_ _ | apply Below.drew | apply below_drewN | (refine Below.alloc ?_ (by (try simp) <;> omega) _) | (refine Below.setCell ?_ (by (try simp) <;> omega) _))))⟩)
    (first
      | (go_at_call 16; refine (hFr2.out _).mono ?_; rintro r5 w5 ⟨rfl, hb5⟩)
      | (go_at_call 80; refine (hSl2.out _).mono ?_; rintro r6 w6 ⟨⟨v2, rfl, hSe2⟩, hb6⟩))
  have hx6 : Below w4.heap.size w4 w6 := by (repeat (first | exact Below.refl _ _ | assumption | refine bchain (by assumption) ?_ | refine balloc ?_ _ | apply Below.drew | apply below_drewN | (refine Below.alloc ?_ (by (try simp) <;> omega) _) | (refine Below.setCell ?_ (by (try simp) <;> omega) _)))
  have hB6 : Below w.heap.size w w6 := hB4.trans (hx6.mono hB4.size)
  have k6 := Lib.hid (k4.out.below hx6)
  have hxt := Lib.hid (hx4'.out.below hx6)
  have hyt := Lib.hid (hy4.out.below hx6)
  have hSe1' : Hid (SeeLs w6 v1 L1) := hSe1.out.below hx6
  clear a0 a1 a2 a3 b0 b1 b2 b3 k4 hx4' hy4 hx6 hB4 hb5 hb6 hSe1 hFr1 hFr2 hSl1 hSl2 hLs1 hLs2
  obtain ⟨va, vc, rfl, hv1, hv2, hr1⟩ := hSe1'.out
  obtain ⟨ua, uc, rfl, hu1, hu2, hr2⟩ := hSe2.out
  obtain ⟨N1, hN1⟩ : ∃ N, L1.length = N := ⟨_, rfl⟩
  obtain ⟨N2, hN2⟩ : ∃ N, L2.length = N := ⟨_, rfl⟩
  rw [hN1] at hv1 hlen1 ⊢
  rw [hN2] at hu1 hlen2 ⊢
  replace hN1 := Lib.hid hN1
  replace hN2 := Lib.hid hN2
  replace hr1 := Lib.hid hr1
  replace hr2 := Lib.hid hr2
  clear hSe1' hSe2
  go_wp2
  go_loopw [11, 12, 13] (fun c a i wr => ∃ p : Nat, p ≤ N1 ∧ i = .int .i64 p ∧ c = .int .i64 (jN p1 p2 (L1.take p) L2 : Nat) ∧ a = .int .i64 (jA (L1.take p) L2 : Nat) ∧ Below w6.heap.size w6 wr) (fun _ _ i _ => N1 - (intOf i).toNat)
  case atStart => exact ⟨0, by omega, rfl, by simp [jN], by simp [jA], Below.refl _ _⟩
  case round =>
    obtain ⟨p, hp, rfl, rfl, rfl, hb⟩ := hrel
    by_cases hlt : p < N1
    · have hpN : (p : Int) < (N1 : Int) := by omega
      have hpL : p < L1.length := by rw [hN1.out]; exact hlt
      obtain ⟨g, u, rfl, hg, hu, hsu⟩ := hr1.out p hpL
      have hmem : L1[p]?.getD [] ∈ L1 := by rw [List.getElem?_eq_getElem hpL]; exact List.getElem_mem hpL
      have htk : L1.take (p + 1) = L1.take p ++ [L1[p]?.getD []] := by rw [List.take_add_one, List.getElem?_eq_getElem hpL]; rfl
      obtain ⟨s, hs⟩ : ∃ s, L1[p]?.getD [] = s := ⟨_, rfl⟩
      rw [hs] at hmem htk hsu
      obtain ⟨hs5, yy, hPc, hpe⟩ := hP1.out s hmem
      have hbn := hb1.out p
      have hbn2 := hb1.out (p + 1)
      have hjA := Lib.hid (show jA (L1.take (p + 1)) L2 = jA (L1.take p) L2 + prA s L2 by rw [htk, jA_snoc])
      have hjN := Lib.hid (show jN p1 p2 (L1.take (p + 1)) L2 = jN p1 p2 (L1.take p) L2 + prN (p1 s) p2 s L2 by rw [htk, jN_snoc])
      have hGr := k6.out.g.below hb
      have hLr := hxt.out.below hb
      have s0 := (hb.cell (p := ⟨g, p, none⟩) hg).trans hu
      have hsr := hsu.below hb
      have hPc2 := Lib.hid (fun W (hW : Below wr.heap.size wr W) => hPc W u (hsr.below hW))
      obtain ⟨bb, hbb⟩ : ∃ b, p1 s = b := ⟨_, rfl⟩
      rw [hbb] at hpe hjN
      have q0 := bw_cell hGr.lt hGr.c0
      have q1 := bw_cell hGr.lt hGr.c1
      have q2 := bw_cell hGr.lt hGr.c2
      have q3 := bw_cell hLr.lt hLr.c0
      have q4 := bw_cell hLr.lt hLr.c1
      have q5 := bw_cell hLr.lt hLr.c2
      have q6 := bw_cell (Nat.lt_of_lt_of_le hg hb.size) s0
      have hq : ∀ W, (Op.equalIn 10000 43 (.agg #[.int .i64 k, .int .i64 n0, .int .u32 yy]) (.agg #[.int .i64 k, .int .i64 n0, .int .u32 ls1])).run Tryz.prog W = .ok bb W := fun W => by
        rw [eqFl]
        congr 1
        rw [hpe, Bool.eq_iff_iff]
        simp
        omega
      obtain ⟨⟨_, _⟩, ul, ucap, rfl⟩ : ∃ (_ : Nat × Nat) (ad : Addr) (cap : Nat), u = .slice (some ad) (zl s).length cap := by obtain ⟨_, ad, cap, e⟩ := hsu; exact ⟨(0, 0), ad, cap, e⟩
      obtain ⟨m, hm⟩ : ∃ m, (zl s).length = m := ⟨_, rfl⟩
      rw [hm] at hPc2 q6 hu hsu
      obtain ⟨zA, hzA⟩ : ∃ z, jA (L1.take p) L2 = z := ⟨_, rfl⟩
      obtain ⟨zN, hzN⟩ : ∃ z, jN p1 p2 (L1.take p) L2 = z := ⟨_, rfl⟩
      rw [hzA] at hjA hbn ⊢
      rw [hzN] at hjN hbn ⊢
      replace hsu := Lib.hid hsu
      replace hu := Lib.hid hu
      have hzl : (zl s).length = m := hm
      clear hPc hpe hs htk hsr s0 hGr hLr hzA hzN hbb hmem
      go_wp2
      refine wp_region_below (by kernel_rfl) (by kernel_rfl) ?_
      iterate 5 (quiet_step (fail))
      refine wpQuiet_step (fun K hK => ?_)
      go_simp
      apply Exists.intro
      refine ⟨fun p => ?_, hK _ ?_⟩
      · exact bw_of (w := wr) (p := p) (hPc2.out p.W p.h)
      clear hK K
      iterate 3 (quiet_step (fail))
      refine wpQuiet_nil ?_
      intro w7 hw'
      obtain ⟨⟨wx, hb_w7⟩, rfl⟩ := hw'
      have hb7 : Below w6.heap.size w6 w7 := hb.trans (hb_w7.mono hb.size)
      clear q0 q1 q2 q3 q4 q5 q6 hq hPc2 hb_w7 hb
      go_wp2
      go_loopw [11, 12, 15] (fun c a i wr => ∃ r : Nat, r ≤ N2 ∧ i = .int .i64 r ∧ c = .int .i64 (zN + prN bb p2 s (L2.take r) : Nat) ∧ a = .int .i64 (zA + prA s (L2.take r) : Nat) ∧ Below w6.heap.size w6 wr) (fun _ _ i _ => N2 - (intOf i).toNat)
      case atStart => exact ⟨0, by omega, rfl, by simp [prN, cntP], by simp [prA, cntP], hb7⟩
      case round =>
        obtain ⟨r, hr, rfl, rfl, rfl, hb⟩ := hrel
        have hcA : prA s (L2.take r) ≤ 32 := by have := prA_le s (L2.take r); rw [List.length_take] at this; omega
        have hcN : prN bb p2 s (L2.take r) ≤ 32 := by have := prN_le bb p2 s (L2.take r); rw [List.length_take] at this; omega
        by_cases hlr : r < N2
        · have hrN : (r : Int) < (N2 : Int) := by omega
          have hrL : r < L2.length := by rw [hN2.out]; exact hlr
          obtain ⟨g', u', rfl, hg', hu', hsu'⟩ := hr2.out r hrL
          have hmem : L2[r]?.getD [] ∈ L2 := by rw [List.getElem?_eq_getElem hrL]; exact List.getElem_mem hrL
          have htk : L2.take (r + 1) = L2.take r ++ [L2[r]?.getD []] := by rw [List.take_add_one, List.getElem?_eq_getElem hrL]; rfl
          obtain ⟨t, ht⟩ : ∃ t, L2[r]?.getD [] = t := ⟨_, rfl⟩
          rw [ht] at hmem htk hsu'
          obtain ⟨ht5, y2, hPc, hpe⟩ := hP2.out t hmem
          have hMt := Lib.hid (fun W (hW : Below wr.heap.size wr W) => (meet_any W _ u' s t ((hsu.out.below hb).below hW).1 ((hsu'.below hb).below hW).1 (by omega) (by omega)).mono (fun e w' (hh : e = .returned (.bool (mtB s t)) ∧ W = w') => (show e = .returned (.bool (mtB s t)) ∧ Below W.heap.size W w' from ⟨hh.1, hh.2 ▸ Below.refl _ _⟩)))
          have hPc2 := Lib.hid (fun W (hW : Below wr.heap.size wr W) => hPc W u' ((hsu'.below hb).below hW))
          obtain ⟨mt, hmt⟩ : ∃ b, mtB s t = b := ⟨_, rfl⟩
          obtain ⟨pt, hpt⟩ : ∃ b, p2 t = b := ⟨_, rfl⟩
          have hnA : Hid (prA s (L2.take (r + 1)) = if mt then prA s (L2.take r) else prA s (L2.take r) + 1) := by
            show _ = _
            unfold prA
            rw [htk]
            cases mt
            · rw [cntP_t (by rw [hmt]; rfl)]; rfl
            · rw [cntP_f (by rw [hmt]; rfl)]; rfl
          have hnN : Hid (prN bb p2 s (L2.take (r + 1)) = if !mt && (bb && pt) then prN bb p2 s (L2.take r) + 1 else prN bb p2 s (L2.take r)) := by
            show _ = _
            unfold prN
            rw [htk]
            cases hx : !mt && (bb && pt)
            · rw [cntP_f (by rw [hmt, hpt]; exact hx)]; rfl
            · rw [cntP_t (by rw [hmt, hpt]; exact hx)]; rfl
          rw [hmt] at hMt
          rw [hpt] at hpe
          have hGr := k6.out.g.below hb
          have hLr := hyt.out.below hb
          have s0 := (hb.cell (p := ⟨g, p, none⟩) hg).trans hu.out
          have s1 := (hb.cell (p := ⟨g', r, none⟩) hg').trans hu'
          have q0 := bw_cell (Nat.lt_of_lt_of_le hg hb.size) s0
          have q1 := bw_cell (Nat.lt_of_lt_of_le hg' hb.size) s1
          have hlg' := Nat.lt_of_lt_of_le hg' hb.size
          have hq : ∀ W, (Op.equalIn 10000 43 (.agg #[.int .i64 k, .int .i64 m0, .int .u32 y2]) (.agg #[.int .i64 k, .int .i64 m0, .int .u32 ls2])).run Tryz.prog W = .ok pt W := fun W => by
            rw [eqFl]
            congr 1
            rw [hpe, Bool.eq_iff_iff]
            simp
            omega
          obtain ⟨⟨_, _⟩, ul', ucap', rfl⟩ : ∃ (_ : Nat × Nat) (ad : Addr) (cap : Nat), u' = .slice (some ad) (zl t).length cap := by obtain ⟨_, ad, cap, e⟩ := hsu'; exact ⟨(0, 0), ad, cap, e⟩
          obtain ⟨m', hm'⟩ : ∃ m, (zl t).length = m := ⟨_, rfl⟩
          rw [hm'] at hPc2 q1 hMt s1
          obtain ⟨a, ha⟩ : ∃ z, prA s (L2.take r) = z := ⟨_, rfl⟩
          obtain ⟨c, hc⟩ : ∃ z, prN bb p2 s (L2.take r) = z := ⟨_, rfl⟩
          rw [ha] at hnA hcA ⊢
          rw [hc] at hnN hcN ⊢
          replace hu' := Lib.hid hu'
          clear hPc hpe ht htk hsu' s0 ha hc hmt hpt hmem hm'
          go_wp2
          refine wp_region_below (by kernel_rfl) (by kernel_rfl) ?_
          iterate 8 (quiet_step (fail))
          refine wpQuiet_step (fun K hK => ?_)
          go_simp
          apply Exists.intro
          refine ⟨fun p => ?_, hK _ ?_⟩
          · exact bw_of (w := wr) (p := p) (hMt.out p.W p.h)
          clear hK K
          refine wpQuiet_nil ?_
          intro w8 hw'
          obtain ⟨⟨wx, hb_w8⟩, rfl⟩ := hw'
          have hb8 : Below w6.heap.size w6 w8 := hb.trans (hb_w8.mono hb.size)
          have hG8 := hGr.below hb_w8
          have hL8 := hLr.below hb_w8
          have hPc8 := Lib.hid (fun W (hW : Below w8.heap.size w8 W) => hPc2.out W (hb_w8.trans (hW.mono hb_w8.size)))
          have s18 := (hb_w8.cell (p := ⟨g', r, none⟩) hlg').trans s1
          have hlg8 := Nat.lt_of_lt_of_le hlg' hb_w8.size
          clear q0 q1 hMt hPc2 hGr hLr s1
          cases mt
          · have q0 := bw_cell hG8.lt hG8.c0
            have q1 := bw_cell hG8.lt hG8.c1
            have q2 := bw_cell hG8.lt hG8.c2
            have q3 := bw_cell hL8.lt hL8.c0
            have q4 := bw_cell hL8.lt hL8.c1
            have q5 := bw_cell hL8.lt hL8.c2
            have q6 := bw_cell hlg8 s18
            clear hG8 hL8 s18
            cases bb
            · go_wp2
              refine wp_region_below (by kernel_rfl) (by kernel_rfl) ?_
              iterate 2 (quiet_step (fail))
              iterate 8 go_big_quiet_skip
              iterate 1 (quiet_step (fail))
              refine wpQuiet_nil ?_
              intro w9 hw'
              obtain ⟨⟨wx, hb_w9⟩, rfl⟩ := hw'
              have hb9 : Below w6.heap.size w6 w9 := hb8.trans (hb_w9.mono hb8.size)
              go_wp2
              go_roundw
              case rel => exact ⟨r + 1, by omega, by go_num, by rw [hnN.out]; rfl, by rw [hnA.out]; go_num, hb9⟩
              case measure => simp [intOf]; omega
            · go_wp2
              refine wp_region_below (by kernel_rfl) (by kernel_rfl) ?_
              iterate 7 (quiet_step (fail))
              refine wpQuiet_step (fun K hK => ?_)
              go_simp
              apply Exists.intro
              refine ⟨fun p => ?_, hK _ ?_⟩
              · exact bw_of (w := w8) (p := p) (hPc8.out p.W p.h)
              clear hK K
              iterate 3 (quiet_step (fail))
              refine wpQuiet_nil ?_
              intro w9 hw'
              obtain ⟨⟨wx, hb_w9⟩, rfl⟩ := hw'
              have hb9 : Below w6.heap.size w6 w9 := hb8.trans (hb_w9.mono hb8.size)
              clear q0 q1 q2 q3 q4 q5 q6
              cases pt
              · go_wp2
                go_roundw
                case rel => exact ⟨r + 1, by omega, by go_num, by rw [hnN.out]; rfl, by rw [hnA.out]; go_num, hb9⟩
                case measure => simp [intOf]; omega
              · go_wp2
                go_roundw
                case rel => exact ⟨r + 1, by omega, by go_num, by rw [hnN.out]; go_num, by rw [hnA.out]; go_num, hb9⟩
                case measure => simp [intOf]; omega
          · go_wp2
            go_roundw
            case rel => exact ⟨r + 1, by omega, by go_num, by rw [hnN.out]; rfl, by rw [hnA.out]; rfl, hb8⟩
            case measure => simp [intOf]; omega
        · obtain rfl : r = N2 := by omega
          have hdd := decide_eq_false (show ¬ ((r : Int) < (r : Int)) by omega)
          have ht : L2.take r = L2 := by rw [← hN2.out, List.take_length]
          rw [ht]
          rw [ht] at hcA hcN
          go_wp2
          go_roundw
          case rel => exact ⟨p + 1, by omega, by go_num, by rw [hjN.out], by rw [hjA.out], hb⟩
          case measure => simp [intOf]; omega
    · obtain rfl : p = N1 := by omega
      have hdd := decide_eq_false (show ¬ ((p : Int) < (p : Int)) by omega)
      have ht : L1.take p = L1 := by rw [← hN1.out, List.take_length]
      rw [ht]
      have k9 := k6.out.below hb
      go_wp2_with fail
      refine (hQ.out _).mono ?_
      rintro r9 w9 ⟨rfl, hb9⟩
      have k10 := k9.below hb9
      obtain ⟨_, z0, z1, z2⟩ := id k10.r
      have z20 := z2 0
      have z21 := z2 1
      obtain ⟨_, F0, F1, _⟩ := k10.r.put x y
      replace k10 := Lib.hid k10
      replace k9 := Lib.hid k9
      go_wp2
      exact bodyPost_ret (v := .agg #[.int .i64 x, .int .i64 y]) (by simp [results, Tryz.results64, go_sem, F0, F1]) rfl ⟨rfl, by (repeat (first | exact Below.refl _ _ | assumption | refine bchain (by assumption) ?_ | refine balloc ?_ _ | apply Below.drew | apply below_drewN | (refine Below.alloc ?_ (by (try simp) <;> omega) _) | (refine Below.setCell ?_ (by (try simp) <;> omega) _)))⟩
end
end Go.Proofs.YtncbimbbkealmaaGreatDoor
/-
  AS KSeesT; the assignment may make memory, and is told that the world is a later one.
-/
namespace Go.Proofs.YtncbimbbkealmaaGreatDoor
open Go.RowKit

variable {F : Fence} {n : Nat} {P : Program}

/-- the statement -/
theorem wpIn_range_seesU {α : Type} {g : Operand} {ps : Array Tmp} {assign body : Code} {Q : Exit → Act → World → Prop} {a : Act} {w : World}
    (hro : F.round = none) (h1 : 1 ≤ n) {gf : Nat} {lb : Array Value} (hg : a.eval g = .func (.func gf) #[] lb) (hFg : F.fn gf) (eg : ∀ args w, (callFunc gf args).run P w = .ok (.enter gf args) w)
    {Inv : World → Prop} {See : α → Value → World → Prop} {L : List α} {w0 : World} (hseq : SeqSeesT F (n - 1) P gf lb Inv See L w0) (hb0 : Below w0.heap.size w0 w) (hps : ps.size = 1)
    (hSb : ∀ x v A A', See x v A → Below A.heap.size A A' → See x v A') (hSc : ∀ x v, Cellular (See x v))
    (I : List α → World → Prop) (hInv : ∀ s A, I s A → Inv A) (hI : Under w.heap.size I) (h0 : I [] w)
    (Ax : Value → Act → World → Prop) (hAx : ∀ v a', Cellular (Ax v a'))
    (hassign : ∀ (l : Nat) (x : α) (v : Value) (W : World) (K : Act → World → Prop), w.heap.size < W.heap.size → See x v W → (∀ a' W', Below W.heap.size W W' → Ax v a' W' → K a' W') →
      assign.wpIn (F.inRound l) (n - 1 - 1) P (Exit.then K (fun _ _ _ => False)) { tmps := (ps.zip #[v]).foldl (fun t (p, v) => t.setIfInBounds p v) a.tmps, defers := [] } W)
    (hbody : ∀ (l : Nat) (pre : List α) (x : α) (rest : List α) (v : Value) (a' : Act) (W : World), w.heap.size ≤ l → (∃ r, W.heap[l]? = some (.loop r)) → L = pre ++ x :: rest → I pre W → See x v W → Ax v a' W →
      body.wpIn (F.inRound l) (n - 1 - 1) P (seesPost w.heap.size I (fun _ _ _ => False) (pre ++ [x]) W) a' W)
    (hdone : ∀ (D : Nat) (W : World), w.heap.size ≤ D → I L W → W.heap[D]? = some (.deferred (some [])) → Q .normal { a with defers := { target := .collected D, args := #[] } :: a.defers } W) :
    (Code.rangeFunc g ps assign body).wpIn F n P Q a w := by
  refine wpIn_rangeFunc fun fn hfn => ?_
  rw [hro]
  obtain ⟨k, hk⟩ : ∃ k, k = w.heap.size := ⟨_, rfl⟩
  obtain ⟨rec, hrec⟩ : ∃ rec : LoopState → Option Code → Loop, rec = fun st pe => { state := st, pending := pe, fn, tmps := a.tmps, params := ps, assign, body, defers := w.heap.size } := ⟨_, rfl⟩
  obtain ⟨W1, hW1⟩ : ∃ W1, (w.alloc (.deferred (some []))).alloc (.loop (rec .ready none)) = W1 := ⟨_, rfl⟩
  have hz1 : W1.heap.size = k + 2 := by rw [← hW1, hk]; simp
  have hL1 : W1.heap[k + 1]? = some (.loop (rec .ready none)) := by
    rw [← hW1, hk]; have := World.alloc_heap_new (w.alloc (.deferred (some []))) (.loop (rec .ready none)); rwa [World.size_alloc] at this
  have hK1 : W1.heap[k]? = some (.deferred (some [])) := by
    rw [← hW1, hk]; exact (Below.heap_alloc _ _ _ (by simp)).trans (World.alloc_heap_new w _)
  have hB1 : Below w.heap.size w W1 := by rw [← hW1]; exact ((Below.refl _ w).alloc (Nat.le_refl _) _).alloc (by simp) _
  have hb1 : Below w0.heap.size w0 W1 := hb0.trans (hB1.mono hb0.size)
  have hI1 : I [] W1 := hI _ _ _ h0 hB1
  refine ⟨k + 1, [{ target := .collected k, args := #[] }], W1, { target := .fn (.func gf) lb, args := #[.func (.yield (k + 1)) #[] #[]] }, W1, gf, #[.func (.yield (k + 1)) #[] #[]] ++ lb, W1, ?_, ?_, ?_, ?_, fun _ => h1, ?_⟩
  · rw [← hW1, hrec, hk]; exact run_enterLoop_outer _ _ _ _ _
  · simp only [resolve, hg]
    simp [go_sem]
  · intro f' hf'; simp [Target.leads] at hf'; subst hf'; exact hFg
  · simp [invoke, go_sem, eg]
  have hkeep : ∀ {A A' : World}, Below W1.heap.size A A' → (∀ r, A.heap[k + 1]? = some r → A'.heap[k + 1]? = some r) ∧ (∀ r, A.heap[k]? = some r → A'.heap[k]? = some r) :=
    fun hb => ⟨fun r h => (hb.block _ (by omega)).trans h, fun r h => (hb.block _ (by omega)).trans h⟩
  refine (hseq (k + 1)
    (fun pre W => I pre W ∧ W.heap[k + 1]? = some (.loop (rec .ready none)) ∧ W.heap[k]? = some (.deferred (some []))) W1 hb1
    (fun s A A' hs hb => ⟨hI s A A' hs.1 (hb.mono (by omega)), (hkeep hb).1 _ hs.2.1, (hkeep hb).2 _ hs.2.2⟩)
    (fun s A hs => hInv s A hs.1)
    ?_ ⟨hI1, hL1, hK1⟩).mono ?_
  · -- one round
    rintro pre x rest v W hLx ⟨hi, hl, hd⟩ hsee
    have hlt : k + 1 < W.heap.size := (Array.getElem?_eq_some_iff.1 hl).1
    have hy := run_yield (P := P) (args := #[v]) hl (by rw [hrec]; exact hps.symm)
    rw [hrec] at hy
    refine ⟨fn, _, assign, body, hy, roundIn_of_wpIn hfn (hassign _ x v W _ (by omega) hsee fun a' Wa hba hax => ?_)⟩
    have hla : Wa.heap[k + 1]? = some (.loop (rec .ready none)) := (hba.block _ hlt).trans hl
    have hda : Wa.heap[k]? = some (.deferred (some [])) := (hba.block _ (by omega)).trans hd
    have hlta : k + 1 < Wa.heap.size := Nat.lt_of_lt_of_le hlt hba.size
    refine ⟨_, run_beginRound hla (by rw [hrec]), ?_⟩
    obtain ⟨Wb, hWb⟩ : ∃ Wb, Wb = Wa.putObj (k + 1) (.loop { rec .ready none with state := .busy }) := ⟨_, rfl⟩
    rw [← hWb]
    have hlb : Wb.heap[k + 1]? = some (.loop { rec .ready none with state := .busy }) := by rw [hWb]; exact World.putObj_heap_same hlta
    have hdb : Wb.heap[k]? = some (.deferred (some [])) := by rw [hWb]; exact (World.putObj_heap_other (by omega)).trans hda
    have hib : I pre Wb := by rw [hWb]; exact hI _ _ _ (hI _ _ _ hi (hba.mono (by omega))) (below_putObj _ _ _ (by omega))
    have hsb : See x v Wb := by rw [hWb]; exact hSc x v _ _ _ _ (hSb x v _ _ hsee hba) hla rfl
    have hab : Ax v a' Wb := by rw [hWb]; exact hAx v a' _ _ _ _ hax hla rfl
    have hub : Upper W1.heap.size W Wb := by rw [hWb]; exact (Upper.of_below hba).trans (Upper.putObj _ _ _ (by omega))
    refine wpIn_mono (hbody _ pre x rest v a' Wb (by omega) ⟨_, hlb⟩ hLx hib hsb hab) ?_
    have fin : ∀ (jump : Option Code) (W3 : World), Upper w.heap.size Wb W3 →
        (Instr.endRound (k + 1) jump).run P W3 = .ok (.bool jump.isNone) (W3.putObj (k + 1) (.loop (rec (if jump.isNone then .ready else .done) jump))) ∧
        (W3.putObj (k + 1) (.loop (rec (if jump.isNone then .ready else .done) jump))).heap[k + 1]? = some (.loop (rec (if jump.isNone then .ready else .done) jump)) ∧
        (W3.putObj (k + 1) (.loop (rec (if jump.isNone then .ready else .done) jump))).heap[k]? = some (.deferred (some [])) ∧
        Upper W1.heap.size W (W3.putObj (k + 1) (.loop (rec (if jump.isNone then .ready else .done) jump))) := fun jump W3 hu => by
      have hl3 := (hu.same _ (by omega) (Array.getElem?_eq_some_iff.1 hlb).1).trans hlb
      have hd3 := (hu.same _ (by omega) (Array.getElem?_eq_some_iff.1 hdb).1).trans hdb
      have := run_endRound (P := P) jump hl3
      rw [hrec] at this ⊢
      exact ⟨this, World.putObj_heap_same (Array.getElem?_eq_some_iff.1 hl3).1, (World.putObj_heap_other (by omega)).trans hd3, (hub.trans (hu.mono (by omega))).trans (Upper.putObj _ _ _ (by omega))⟩
    rintro e a3 W3 hp
    cases e with
    | normal =>
      obtain ⟨hr, hl4, hd4, hu4⟩ := fin none W3 hp.1
      exact ⟨_, _, hr, rfl, ⟨hI _ _ _ hp.2 (below_putObj _ _ _ (by omega)), hl4, hd4⟩, hu4⟩
    | ret => exact hp.2.elim
    | exit id => exact hp.2.elim
    | goto t => exact hp.2.elim
    | panic ch => exact hp.elim
    | outgrown => exact hp.elim
  · -- behind the iterator
    rintro e W2 ⟨⟨v, rfl⟩, hi, hl, hd⟩
    exact ⟨none, _, by have := run_endLoop (P := P) hl (by rw [hrec]; simp); rw [hrec] at this; exact this, hdone k _ (by omega) (hI _ _ _ hi (below_putObj _ _ _ (by omega))) ((World.putObj_heap_other (by omega)).trans hd)⟩
end Go.Proofs.YtncbimbbkealmaaGreatDoor
/-
  AS KSeesT, FOR A LOOP IN A ROUND OF ANOTHER ONE.
-/
namespace Go.Proofs.YtncbimbbkealmaaGreatDoor
open Go.RowKit

variable {F : Fence} {n : Nat} {P : Program}

section
variable {b : Frame} {a : Act} {k : List Item} {cs : List Frame} {w : World} {Q : Exit → Act → World → Prop}
theorem stepR_scope {c : Code} : step P (lone (b.atR a (.code (.scope c) :: k)) cs w) = .next (lone (b.atR a (.code c :: .inScope c :: k)) cs w) :=
  step_lone_go (by simp [stepG, stepG.exec, Frame.atR])
theorem stepR_inScope {c : Code} : step P (lone (b.atR a (.inScope c :: k)) cs w) = .next (lone (b.atR a k) cs w) :=
  step_lone_go (by simp [stepG, stepG.exec, Frame.atR])
/-- a scope that no jump enters, in a round -/
theorem wpIn_scope_round {c : Code} (h : c.wpIn F n P (Exit.noGoto Q) a w) : (Code.scope c).wpIn F n P Q a w := by
  intro b k cs hro hb hr
  have h0 : (lone (b.atR a (.code (.scope c) :: k)) cs w).fenced P F := fenced_calm hb hr rfl
  obtain ⟨e, a₁, w₁, hq, harr⟩ := h b (.inScope c :: k) cs hro hb hr
  cases e with
  | normal => exact ⟨.normal, a₁, w₁, hq, .head h0 stepR_scope (StepsIn.trans harr (.one (fenced_calm hb hr rfl) stepR_inScope))⟩
  | exit id =>
    have hx : exitTo id (.inScope c :: k) = exitTo id k := by simp [exitTo]
    exact ⟨.exit id, a₁, w₁, hq, fun k' hk => .head h0 stepR_scope (harr.1 k' (by rw [hx]; exact hk)),
        fun hr' hk => let ⟨k₁, h1, h2⟩ := harr.2 hr' (by rw [hx]; exact hk); ⟨k₁, h1, .head h0 stepR_scope h2⟩⟩
  | goto l => exact hq.elim
  | ret => exact ⟨_, a₁, w₁, hq, .of_steps (.one h0 stepR_scope) harr⟩
  | panic ch => exact ⟨_, a₁, w₁, hq, .of_steps (.one h0 stepR_scope) harr⟩
  | outgrown => exact ⟨_, a₁, w₁, hq, .of_steps (.one h0 stepR_scope) harr⟩
end
/-- a contract goes into a round as it is -/
theorem SeqSeesT.inRound {α : Type} {g : Nat} {lb : Array Value} {Inv : World → Prop} {See : α → Value → World → Prop} {L : List α} {w : World} (l : Nat) (h : SeqSeesT F n P g lb Inv See L w) : SeqSeesT (F.inRound l) n P g lb Inv See L w := h

/-- the statement -/
theorem wpIn_range_seesN {α : Type} {g : Operand} {ps : Array Tmp} {assign body : Code} {Q : Exit → Act → World → Prop} {a : Act} {w : World}
    {l₀ : Nat} {r₀ : Loop} (hro : F.round = some l₀) (hl₀ : w.heap[l₀]? = some (.loop r₀)) (h1 : 1 ≤ n) {gf : Nat} {lb : Array Value} (hg : a.eval g = .func (.func gf) #[] lb) (hFg : F.fn gf) (eg : ∀ args w, (callFunc gf args).run P w = .ok (.enter gf args) w)
    {Inv : World → Prop} {See : α → Value → World → Prop} {L : List α} {w0 : World} (hseq : SeqSeesT F (n - 1) P gf lb Inv See L w0) (hb0 : Below w0.heap.size w0 w) (hps : ps.size = 1)
    (hSb : ∀ x v A A', See x v A → Below A.heap.size A A' → See x v A') (hSc : ∀ x v, Cellular (See x v))
    (I : List α → World → Prop) (hInv : ∀ s A, I s A → Inv A) (hI : Under w.heap.size I) (h0 : I [] w)
    (Ax : Value → Act → World → Prop) (hAx : ∀ v a', Cellular (Ax v a'))
    (hassign : ∀ (l : Nat) (x : α) (v : Value) (W : World) (K : Act → World → Prop), See x v W → (∀ a' W', Below W.heap.size W W' → Ax v a' W' → K a' W') →
      assign.wpIn (F.inRound l) (n - 1 - 1) P (Exit.then K (fun _ _ _ => False)) { tmps := (ps.zip #[v]).foldl (fun t (p, v) => t.setIfInBounds p v) a.tmps, defers := [] } W)
    (hbody : ∀ (l : Nat) (pre : List α) (x : α) (rest : List α) (v : Value) (a' : Act) (W : World), w.heap.size ≤ l → (∃ r, W.heap[l]? = some (.loop r)) → L = pre ++ x :: rest → I pre W → See x v W → Ax v a' W →
      body.wpIn (F.inRound l) (n - 1 - 1) P (seesPost w.heap.size I (fun _ _ _ => False) (pre ++ [x]) W) a' W)
    (hdone : ∀ (W : World), I L W → Q .normal a W) :
    (Code.rangeFunc g ps assign body).wpIn F n P Q a w := by
  refine wpIn_rangeFunc fun fn hfn => ?_
  rw [hro]
  obtain ⟨k, hk⟩ : ∃ k, k = w.heap.size := ⟨_, rfl⟩
  obtain ⟨rec, hrec⟩ : ∃ rec : LoopState → Option Code → Loop, rec = fun st pe => { state := st, pending := pe, fn, tmps := a.tmps, params := ps, assign, body, defers := r₀.defers } := ⟨_, rfl⟩
  obtain ⟨W1, hW1⟩ : ∃ W1, w.alloc (.loop (rec .ready none)) = W1 := ⟨_, rfl⟩
  have hz1 : W1.heap.size = k + 1 := by rw [← hW1, hk]; simp
  have hL1 : W1.heap[k]? = some (.loop (rec .ready none)) := by
    rw [← hW1, hk]; exact World.alloc_heap_new w (.loop (rec .ready none))
  have hB1 : Below w.heap.size w W1 := by rw [← hW1]; exact (Below.refl _ w).alloc (Nat.le_refl _) _
  have hb1 : Below w0.heap.size w0 W1 := hb0.trans (hB1.mono hb0.size)
  have hI1 : I [] W1 := hI _ _ _ h0 hB1
  refine ⟨k, [], W1, { target := .fn (.func gf) lb, args := #[.func (.yield k) #[] #[]] }, W1, gf, #[.func (.yield k) #[] #[]] ++ lb, W1, ?_, ?_, ?_, ?_, fun _ => h1, ?_⟩
  · rw [← hW1, hrec, hk]; exact run_enterLoop_inner hl₀ _ _ _ _ _
  · simp only [resolve, hg]
    simp [go_sem]
  · intro f' hf'; simp [Target.leads] at hf'; subst hf'; exact hFg
  · simp [invoke, go_sem, eg]
  have hkeep : ∀ {A A' : World}, Below W1.heap.size A A' → (∀ r, A.heap[k]? = some r → A'.heap[k]? = some r) :=
    fun hb => fun r h => (hb.block _ (by omega)).trans h
  refine (hseq k
    (fun pre W => I pre W ∧ W.heap[k]? = some (.loop (rec .ready none))) W1 hb1
    (fun s A A' hs hb => ⟨hI s A A' hs.1 (hb.mono (by omega)), hkeep hb _ hs.2⟩)
    (fun s A hs => hInv s A hs.1)
    ?_ ⟨hI1, hL1⟩).mono ?_
  · -- one round
    rintro pre x rest v W hLx ⟨hi, hl⟩ hsee
    have hlt : k < W.heap.size := (Array.getElem?_eq_some_iff.1 hl).1
    have hy := run_yield (P := P) (args := #[v]) hl (by rw [hrec]; exact hps.symm)
    rw [hrec] at hy
    refine ⟨fn, _, assign, body, hy, roundIn_of_wpIn hfn (hassign _ x v W _ hsee fun a' Wa hba hax => ?_)⟩
    have hla : Wa.heap[k]? = some (.loop (rec .ready none)) := (hba.block _ hlt).trans hl
    have hlta : k < Wa.heap.size := Nat.lt_of_lt_of_le hlt hba.size
    refine ⟨_, run_beginRound hla (by rw [hrec]), ?_⟩
    obtain ⟨Wb, hWb⟩ : ∃ Wb, Wb = Wa.putObj k (.loop { rec .ready none with state := .busy }) := ⟨_, rfl⟩
    rw [← hWb]
    have hlb : Wb.heap[k]? = some (.loop { rec .ready none with state := .busy }) := by rw [hWb]; exact World.putObj_heap_same hlta
    have hib : I pre Wb := by rw [hWb]; exact hI _ _ _ (hI _ _ _ hi (hba.mono (by omega))) (below_putObj _ _ _ (by omega))
    have hsb : See x v Wb := by rw [hWb]; exact hSc x v _ _ _ _ (hSb x v _ _ hsee hba) hla rfl
    have hab : Ax v a' Wb := by rw [hWb]; exact hAx v a' _ _ _ _ hax hla rfl
    have hub : Upper W1.heap.size W Wb := by rw [hWb]; exact (Upper.of_below hba).trans (Upper.putObj _ _ _ (by omega))
    refine wpIn_mono (hbody _ pre x rest v a' Wb (by omega) ⟨_, hlb⟩ hLx hib hsb hab) ?_
    have fin : ∀ (jump : Option Code) (W3 : World), Upper w.heap.size Wb W3 →
        (Instr.endRound k jump).run P W3 = .ok (.bool jump.isNone) (W3.putObj k (.loop (rec (if jump.isNone then .ready else .done) jump))) ∧
        (W3.putObj k (.loop (rec (if jump.isNone then .ready else .done) jump))).heap[k]? = some (.loop (rec (if jump.isNone then .ready else .done) jump)) ∧
        Upper W1.heap.size W (W3.putObj k (.loop (rec (if jump.isNone then .ready else .done) jump))) := fun jump W3 hu => by
      have hl3 := (hu.same _ (by omega) (Array.getElem?_eq_some_iff.1 hlb).1).trans hlb
      have := run_endRound (P := P) jump hl3
      rw [hrec] at this ⊢
      exact ⟨this, World.putObj_heap_same (Array.getElem?_eq_some_iff.1 hl3).1, (hub.trans (hu.mono (by omega))).trans (Upper.putObj _ _ _ (by omega))⟩
    rintro e a3 W3 hp
    cases e with
    | normal =>
      obtain ⟨hr, hl4, hu4⟩ := fin none W3 hp.1
      exact ⟨_, _, hr, rfl, ⟨hI _ _ _ hp.2 (below_putObj _ _ _ (by omega)), hl4⟩, hu4⟩
    | ret => exact hp.2.elim
    | exit id => exact hp.2.elim
    | goto t => exact hp.2.elim
    | panic ch => exact hp.elim
    | outgrown => exact hp.elim
  · -- behind the iterator
    rintro e W2 ⟨⟨v, rfl⟩, hi, hl⟩
    exact ⟨none, _, by have := run_endLoop (P := P) hl (by rw [hrec]; simp); rw [hrec] at this; exact this, hdone _ (hI _ _ _ hi (below_putObj _ _ _ (by omega)))⟩
end Go.Proofs.YtncbimbbkealmaaGreatDoor
/-
  PAIRS OF SETS OF UNLABELLED VERTICES: what the program's iterator setPairs yields.
-/
namespace Go.Proofs.YtncbimbbkealmaaGreatDoor
open Go.RowKit Go.Shelf
set_option maxRecDepth 100000
attribute [local go_sem] Oper.semAt_some
/-- the pairs -/
def prsT (s : List Nat) (T : List (List Nat)) : List (List Nat × List Nat) := (T.filter fun t => !mtB s t).map fun t => (s, t)
def prs : List (List Nat) → List (List Nat) → List (List Nat × List Nat)
  | [], _ => []
  | s :: r, T => prsT s T ++ prs r T
theorem prs_snoc (s : List Nat) (T : List (List Nat)) : ∀ l, prs (l ++ [s]) T = prs l T ++ prsT s T
  | [] => by simp [prs]
  | x :: r => by simp only [List.cons_append, prs, prs_snoc s T r, List.append_assoc]
theorem prs_cons (s : List Nat) (T : List (List Nat)) (r : List (List Nat)) : ∀ l, prs (l ++ s :: r) T = prs l T ++ (prsT s T ++ prs r T)
  | [] => by simp [prs]
  | x :: l => by simp only [List.cons_append, prs, prs_cons s T r l, List.append_assoc]
theorem prsT_app (s : List Nat) (A B : List (List Nat)) : prsT s (A ++ B) = prsT s A ++ prsT s B := by simp [prsT]
theorem prsT_t {s t : List Nat} {r : List (List Nat)} (h : mtB s t = false) : prsT s (t :: r) = (s, t) :: prsT s r := by simp [prsT, h]
theorem prsT_f {s t : List Nat} {r : List (List Nat)} (h : mtB s t = true) : prsT s (t :: r) = prsT s r := by simp [prsT, h]
theorem mtB_symm (s t : List Nat) : mtB t s = mtB s t := by
  unfold mtB
  rw [Bool.eq_iff_iff]
  simp only [List.any_eq_true, List.contains_iff_mem]
  exact ⟨fun ⟨a, h1, h2⟩ => ⟨a, h2, h1⟩, fun ⟨a, h1, h2⟩ => ⟨a, h2, h1⟩⟩
theorem UInv.under {Bg Bq k n e q c : Nat} {A A' : World} (h : UInv Bg Bq k n e q A) (hb : Below c A A') (h1 : Bg < c) (h2 : Bq < c) (h3 : 0 < c) : UInv Bg Bq k n e q A' :=
  ⟨⟨Nat.lt_of_lt_of_le h.g.lt hb.size, (hb.cell (p := ⟨Bg, 0, none⟩) h1).trans h.g.c0, (hb.cell (p := ⟨Bg, 1, none⟩) h1).trans h.g.c1, (hb.cell (p := ⟨Bg, 2, none⟩) h1).trans h.g.c2⟩, (hb.cell (p := ⟨Bq, 0, none⟩) h2).trans h.q, fun j hj => (hb.cell (p := ⟨0, _, none⟩) h3).trans (h.t j hj)⟩
theorem UInv.upper {Bg Bq k n e q c : Nat} {A A' : World} (h : UInv Bg Bq k n e q A) (hu : Upper c A A') (h1 : c ≤ Bg) (h2 : c ≤ Bq) (hT : TabZ A') : UInv Bg Bq k n e q A' :=
  have hq := World.block_lt_of_cell? A ⟨Bq, 0, none⟩ h.q
  ⟨⟨Nat.lt_of_lt_of_le h.g.lt hu.size, (World.cell?_of_block (a := ⟨Bg, 0, none⟩) (hu.same _ h1 h.g.lt)).trans h.g.c0, (World.cell?_of_block (a := ⟨Bg, 1, none⟩) (hu.same _ h1 h.g.lt)).trans h.g.c1, (World.cell?_of_block (a := ⟨Bg, 2, none⟩) (hu.same _ h1 h.g.lt)).trans h.g.c2⟩, (World.cell?_of_block (a := ⟨Bq, 0, none⟩) (hu.same _ h2 hq)).trans h.q, hT⟩
theorem SeeT.mono {b b' : Nat} {x : List Nat} {v : Value} {W : World} (h : SeeT b x v W) (hb : b' ≤ b) : SeeT b' x v W := by
  obtain ⟨h1, g, off, l, c, e, h2⟩ := h
  exact ⟨h1, g, off, l, c, e, Nat.le_trans hb h2⟩
theorem SeeT.upper {b c : Nat} {x : List Nat} {v : Value} {A A' : World} (h : SeeT b x v A) (hu : Upper c A A') (hc : c ≤ b) : SeeT b x v A' := by
  obtain ⟨⟨⟨a, cap, e, h1, h2, h3⟩, h4⟩, g, off, l, d, e2, hb⟩ := h
  refine ⟨⟨⟨a, cap, e, h1, h2, fun hx => ?_⟩, h4⟩, g, off, l, d, e2, hb⟩
  obtain ⟨b2, off2, e3, hlt, hcl⟩ := h3 hx
  have hb2 : b ≤ b2 := by
    rw [e, e3] at e2
    injection e2 with e2 _ _
    injection e2 with e2
    injection e2 with e2
    omega
  exact ⟨b2, off2, e3, Nat.lt_of_lt_of_le hlt hu.size, fun i hi => (World.cell?_of_block (a := ⟨b2, off2 + i, none⟩) (hu.same b2 (by omega) hlt)).trans (hcl i hi)⟩
theorem SeeT.upperB {b : Nat} {x : List Nat} {v : Value} {A5 B B' : World} (h : SeeT b x v B) (h5 : SeeT b x v A5) (hb : Below A5.heap.size B B') : SeeT b x v B' := by
  obtain ⟨⟨⟨a, cap, e, h1, h2, h3⟩, h4⟩, g, off, l, d, e2, hbb⟩ := h
  obtain ⟨⟨⟨a5, cap5, e5, _, _, h35⟩, _⟩, _⟩ := h5
  refine ⟨⟨⟨a, cap, e, h1, h2, fun hx => ?_⟩, h4⟩, g, off, l, d, e2, hbb⟩
  obtain ⟨b2, off2, e3, hlt, hcl⟩ := h3 hx
  obtain ⟨b3, off3, e4, hlt3, _⟩ := h35 hx
  have hb2 : b2 = b3 := by
    rw [e, e3, e4] at e5
    injection e5 with e5 _ _
    injection e5 with e5
    injection e5 with e5
  exact ⟨b2, off2, e3, Nat.lt_of_lt_of_le hlt hb.size, fun i hi => (hb.cell (p := ⟨b2, off2 + i, none⟩) (by show b2 < _; omega)).trans (hcl i hi)⟩
theorem yield_monoP {F : Fence} {m : Nat} {P : Program} {l : Nat} {args : Array Value} {W : World} {R R' : Ending → World → Prop} (h : YieldAt F m P l args W R) (hR : ∀ e w, R e w → R' e w) : YieldAt F m P l args W R' := by
  obtain ⟨fn, tmps, assign, body, hy, hd⟩ := h
  exact ⟨fn, tmps, assign, body, hy, hd.mono hR⟩
/-- a pair, as it is yielded -/
def SeeP (base : Nat) (p : List Nat × List Nat) (v : Value) (W : World) : Prop := ∃ v1 v2, v = .agg #[v1, v2] ∧ SeeT base p.1 v1 W ∧ SeeT base p.2 v2 W
/-- what the iterator reads of its caller's -/
structure PInv (Bg B1 B2 : Nat) (k n e q1 q2 : Nat) (A : World) : Prop where
  g : FC A Bg k n e
  a : A.cell? ⟨B1, 0, none⟩ = some (.int .i64 q1)
  b : A.cell? ⟨B2, 0, none⟩ = some (.int .i64 q2)
  t : TabZ A
set_option maxHeartbeats 4000000 in
theorem prs_seesT (k n e q1 q2 : Nat) (hn : n ≤ 5) (hkn : k ≤ n) (nn Bg B1 B2 : Nat) (L1 L2 : List (List Nat)) (hL1 : (setsL (n - k) q1).map (shN k) = L1) (hL2 : (setsL (n - k) q2).map (shN k) = L2) (w : World) (hB1 : B1 < w.heap.size) :
    SeqSeesT Fence.wide nn Tryz.prog 109 #[.pointer (some ⟨Bg, 0, none⟩), .pointer (some ⟨B1, 0, none⟩), .pointer (some ⟨B2, 0, none⟩)] (PInv Bg B1 B2 k n e q1 q2) (SeeP w.heap.size) (prs L1 L2) w := fun l J W hW hJ hJi hY h0 => by
  have hI0 := hJi _ _ h0
  have hU1 := Lib.hid (fun W => us_any W k n e q1)
  have hU2 := Lib.hid (fun W => us_any W k n e q2)
  have hzW := hW.size
  obtain ⟨W1, hW1⟩ : ∃ W1, W1 = W.alloc (.cells #[.func (.yield l) #[] #[]] 124) := ⟨_, rfl⟩
  have hb1 : Below W.heap.size W W1 := by rw [hW1]; (repeat (first | exact Below.refl _ _ | assumption | refine bchain (by assumption) ?_ | refine balloc ?_ _ | apply Below.drew | apply below_drewN | (refine Below.alloc ?_ (by (try simp) <;> omega) _) | (refine Below.setCell ?_ (by (try simp) <;> omega) _)))
  have hz1 : W1.heap.size = W.heap.size + 1 := by rw [hW1]; simp
  have hy1 : W1.cell? ⟨W.heap.size, 0, none⟩ = some (.func (.yield l) #[] #[]) := by rw [hW1, cNew _ _ _ _ _ rfl]; rfl
  have d := hI0.g.below hb1
  obtain ⟨d3, d0, d1, d2⟩ := id d
  have da := (hb1.cell (p := ⟨B1, 0, none⟩) (by show B1 < _; omega)).trans hI0.a
  have hT1 := hI0.t.below hb1
  replace hJ := Lib.hid hJ
  replace hJi := Lib.hid hJi
  replace hY := Lib.hid hY
  replace h0 := Lib.hid h0
  replace hy1 := Lib.hid hy1
  clear hI0
  refine callsIn_wide.2 ((callsIn_wide (n := 8)).1 ?_)
  refine callsIn_of_wp_marks Tryz.func109 rfl trivial ?_ rfl
  simp only [Tryz.ntmps109, List.size_toArray, List.length_cons, List.length_nil, Nat.reduceAdd, Nat.reduceSub, Array.replicate_succ, Array.replicate_zero, List.push_toArray, List.append_toArray, List.nil_append, List.cons_append]
  have e0 := d0; have e1 := d1; have e2 := d2; have ea := da
  rw [hW1] at e0 e1 e2 ea
  gi_wp2_with fail
  rw [← hW1]
  clear e0 e1 e2 ea
  replace hW1 := Lib.hid hW1
  refine ⟨trivial, ?_⟩
  gi_at_call 107
  refine (callsIn_wide.2 (hU1.out _)).mono ?_
  rintro r4 w4 ⟨Bu, rfl, hu1, hu2, hu3, hu4, hb4⟩
  have hb04 : Below W.heap.size W w4 := hb1.trans (hb4.mono (by omega))
  have hj4 := Lib.hid (hJ.out _ _ _ h0.out hb04)
  have hy4 : w4.cell? ⟨W.heap.size, 0, none⟩ = some (.func (.yield l) #[] #[]) := (hb4.cell (p := ⟨W.heap.size, 0, none⟩) (by show W.heap.size < _; omega)).trans hy1.out
  have hT4 := hT1.below hb4
  have hSI : UInv Bu (Bu + 1) k n e q1 w4 := ⟨hu3, hu4, hT4⟩
  have hgl : 0 < w4.heap.size := hT4.lt
  obtain ⟨Y, hYd⟩ : ∃ Y, W.heap.size = Y := ⟨_, rfl⟩
  have hY4 : Y < w4.heap.size := by omega
  rw [hYd] at hy4 ⊢
  clear hy1 hb4 hb1 hT1 d d0 d1 d2 d3 da h0 hu3 hu4 hT4
  gi_wp2_with fail
  refine wpIn_range_seesU rfl (by omega) (gf := 110) (lb := #[.pointer (some ⟨Bu, 0, none⟩), .pointer (some ⟨Bu + 1, 0, none⟩)]) rfl trivial (enters_of Tryz.func110 (by kernel_rfl) rfl)
    (L := L1) (by rw [← hL1]; exact unl_seesT k n e q1 hn hkn 7 Bu (Bu + 1) w4 (by omega)) (Below.refl _ _) rfl (SeeT.below _) (SeeT.cellular _)
    (fun pre A => J (prs pre L2) A ∧ A.cell? ⟨Y, 0, none⟩ = some (.func (.yield l) #[] #[]) ∧ UInv Bu (Bu + 1) k n e q1 A ∧ w4.heap.size ≤ A.heap.size)
    (fun s A hs => hs.2.2.1)
    (fun s A A' hs hb => ⟨hJ.out _ _ _ hs.1 (hb.mono (by have := hb04.size; omega)), (hb.cell (p := ⟨Y, 0, none⟩) (by show Y < _; omega)).trans hs.2.1, hs.2.2.1.under hb (by omega) (by omega) hgl, Nat.le_trans hs.2.2.2 hb.size⟩)
    ⟨hj4.out, hy4, hSI, Nat.le_refl _⟩
    (fun v a' A => ∃ Z, w4.heap.size ≤ Z ∧ A.cell? ⟨Z, 0, none⟩ = some v ∧ a' = { tmps := #[.func (.yield l) #[] #[], .pointer (some ⟨Bg, 0, none⟩), .pointer (some ⟨B1, 0, none⟩), .pointer (some ⟨B2, 0, none⟩), .pointer (some ⟨Y, 0, none⟩), .pointer (some ⟨Z, 0, none⟩), undef, undef, undef, .agg #[.int .i64 k, .int .i64 n, .int .u32 e], .int .i64 q1, .func (.func 110) #[] #[.pointer (some ⟨Bu, 0, none⟩), .pointer (some ⟨Bu + 1, 0, none⟩)], v, undef, undef, undef, undef, undef, undef, undef, undef, undef, undef, undef, undef, undef, undef, undef, undef, undef, undef, undef, undef], defers := [] })
    (fun v a' A l o o' h hl ho => by obtain ⟨Z, h1, h2, h3⟩ := h; exact ⟨Z, h1, cellular_cell _ _ A l o o' h2 hl ho, h3⟩) ?assign ?body ?done
  case assign =>
    intro l' x v A K hAz hS hK
    obtain ⟨⟨_, ad, cap, rfl⟩, _⟩ := hS
    obtain ⟨m, hm⟩ : ∃ m, (zl x).length = m := ⟨_, rfl⟩
    rw [hm] at hK ⊢
    have hfin := Lib.hid (hK _ (A.alloc (.cells #[.slice (some ad) m cap] 69)) (balloc (Below.refl _ _) _) ⟨A.heap.size, by omega, by rw [cNew _ _ _ _ _ rfl]; rfl, rfl⟩)
    gi_wp2
    exact hfin.out
  case body =>
    rintro l' pre s rest v a' A hl' hlr hL ⟨hj, hy, hS, hz⟩ hSee ⟨Z, hZ4, hZc, rfl⟩
    have hsm : s ∈ L1 := by rw [hL]; simp
    have hpI := hJi.out _ _ hj
    obtain ⟨d3, d0, d1, d2⟩ := id hpI.g
    have db := hpI.b
    have hZl : Z < A.heap.size := World.block_lt_of_cell? A ⟨Z, 0, none⟩ hZc
    obtain ⟨r₀, hr₀⟩ := hlr
    gi_wp2_with fail
    refine wpIn_scope_round ?_
    refine wpIn_seq (wpIn_label ?_)
    show Code.wpIn _ _ _ _ _ _ _
    gi_wp2_with fail
    refine ⟨trivial, ?_⟩
    gi_at_call 107
    refine (CallsIn.inRound l' (callsIn_wide.2 (hU2.out _))).mono ?_
    rintro r5 A5 ⟨Bv, rfl, hv1, hv2, hv3, hv4, hb5⟩
    have hz5 := hb5.size
    have hT5 := hpI.t.below hb5
    have hgl5 : 0 < A5.heap.size := hT5.lt
    have hl5 : A5.heap[l']? = some (.loop r₀) := (hb5.block l' (Array.getElem?_eq_some_iff.1 hr₀).1).trans hr₀
    have hU5 : Upper w4.heap.size A A5 := ⟨hb5.size, fun i _ h2 => hb5.block i h2⟩
    have hBuA : Bu + 1 < A5.heap.size := Nat.lt_of_lt_of_le (World.block_lt_of_cell? A ⟨Bu + 1, 0, none⟩ hS.q) hz5
    have hwW : w.heap.size ≤ w4.heap.size := by have := hb04.size; omega
    have hj5 := Lib.hid (hJ.out _ _ _ hj (hb5.mono (by have := hb04.size; omega)))
    have hy5 := (hb5.cell (p := ⟨Y, 0, none⟩) (by show Y < _; omega)).trans hy
    have hZ5 := (hb5.cell (p := ⟨Z, 0, none⟩) hZl).trans hZc
    have hS5 := hS.under hb5 (Nat.lt_of_le_of_lt (Nat.le_refl _) hS.g.lt) (World.block_lt_of_cell? A ⟨Bu + 1, 0, none⟩ hS.q) (by omega)
    have hSee5 := SeeT.below _ _ _ _ _ hSee hb5
    have hprs0 : prs pre L2 ++ prsT s [] = prs pre L2 := by simp [prsT]
    gi_wp2_with fail
    refine wpIn_range_seesN (l₀ := l') (r₀ := r₀) rfl hl5 (by omega) (gf := 110) (lb := #[.pointer (some ⟨Bv, 0, none⟩), .pointer (some ⟨Bv + 1, 0, none⟩)]) rfl trivial (enters_of Tryz.func110 (by kernel_rfl) rfl)
      (L := L2) (w0 := A5) (by rw [← hL2]; exact SeqSeesT.inRound l' (unl_seesT k n e q2 hn hkn 5 Bv (Bv + 1) A5 (by omega))) (Below.refl _ _) rfl (SeeT.below _) (SeeT.cellular _)
      (fun pre2 B => J (prs pre L2 ++ prsT s pre2) B ∧ B.cell? ⟨Y, 0, none⟩ = some (.func (.yield l) #[] #[]) ∧ B.cell? ⟨Z, 0, none⟩ = some v ∧ UInv Bv (Bv + 1) k n e q2 B ∧ UInv Bu (Bu + 1) k n e q1 B ∧ SeeT w4.heap.size s v B ∧ A5.heap.size ≤ B.heap.size ∧ Upper w4.heap.size A B)
      (fun x B hs => hs.2.2.2.1)
      (fun x B B' hs hb => ⟨hJ.out _ _ _ hs.1 (hb.mono (by have := hb04.size; omega)), (hb.cell (p := ⟨Y, 0, none⟩) (by show Y < _; omega)).trans hs.2.1, (hb.cell (p := ⟨Z, 0, none⟩) (by show Z < _; omega)).trans hs.2.2.1, hs.2.2.2.1.under hb (by omega) (by omega) hgl5, hs.2.2.2.2.1.under hb (by omega) (by omega) hgl5, SeeT.upperB hs.2.2.2.2.2.1 hSee5 hb, Nat.le_trans hs.2.2.2.2.2.2.1 hb.size, ⟨Nat.le_trans hs.2.2.2.2.2.2.2.size hb.size, fun i h1 h2 => (hb.block i (by omega)).trans (hs.2.2.2.2.2.2.2.same i h1 h2)⟩⟩)
      ⟨by rw [hprs0]; exact hj5.out, hy5, hZ5, ⟨hv3, hv4, hT5⟩, hS5, hSee5, Nat.le_refl _, hU5⟩
      (fun v2 a'' _ => a'' = { tmps := #[.func (.yield l) #[] #[], .pointer (some ⟨Bg, 0, none⟩), .pointer (some ⟨B1, 0, none⟩), .pointer (some ⟨B2, 0, none⟩), .pointer (some ⟨Y, 0, none⟩), .pointer (some ⟨Z, 0, none⟩), v2, undef, undef, .agg #[.int .i64 k, .int .i64 n, .int .u32 e], .int .i64 q1, .func (.func 110) #[] #[.pointer (some ⟨Bu, 0, none⟩), .pointer (some ⟨Bu + 1, 0, none⟩)], v, .agg #[.int .i64 k, .int .i64 n, .int .u32 e], .int .i64 q2, .func (.func 110) #[] #[.pointer (some ⟨Bv, 0, none⟩), .pointer (some ⟨Bv + 1, 0, none⟩)], v2, undef, undef, undef, undef, undef, undef, undef, undef, undef, undef, undef, undef, undef, undef, undef, undef], defers := [] })
      (fun _ _ _ _ _ _ h _ _ => h) ?assign2 ?body2 ?done2
    case assign2 =>
      intro l'' x v2 B K hS2 hK
      gi_wp2
      exact hK _ _ (Below.refl _ _) rfl
    case body2 =>
      rintro l'' pre2 t rest2 v2 a'' B hl'' hlr2 hLL ⟨kj, ky, kZ, kV, kU, kS, kz, kup⟩ hSt rfl
      have hm1 : Below W.heap.size W W := Below.refl _ _
      have hYW : W.heap.size = Y := hYd
      have hLp : prs L1 L2 = (prs pre L2 ++ prsT s pre2) ++ prsT s (t :: rest2) ++ prs rest L2 := by
        rw [hL, prs_cons, hLL, prsT_app]; simp only [List.append_assoc]
      have hpT := (hJi.out _ _ kj).t
      have hI2 : ∀ A6, J (prs pre L2 ++ prsT s (pre2 ++ [t])) A6 → Upper W.heap.size B A6 → TabZ A6 → Upper A5.heap.size B A6 ∧ (J (prs pre L2 ++ prsT s (pre2 ++ [t])) A6 ∧ A6.cell? ⟨Y, 0, none⟩ = some (.func (.yield l) #[] #[]) ∧ A6.cell? ⟨Z, 0, none⟩ = some v ∧ UInv Bv (Bv + 1) k n e q2 A6 ∧ UInv Bu (Bu + 1) k n e q1 A6 ∧ SeeT w4.heap.size s v A6 ∧ A5.heap.size ≤ A6.heap.size ∧ Upper w4.heap.size A A6) := fun A6 g1 g2 g3 =>
        ⟨g2.mono (by omega), g1, (World.cell?_of_block (a := ⟨Y, 0, none⟩) (g2.same Y (by omega) (World.block_lt_of_cell? B ⟨Y, 0, none⟩ ky))).trans ky, (World.cell?_of_block (a := ⟨Z, 0, none⟩) (g2.same Z (by omega) (World.block_lt_of_cell? B ⟨Z, 0, none⟩ kZ))).trans kZ, kV.upper g2 (by omega) (by omega) g3, kU.upper g2 (by omega) (by omega) g3, SeeT.upper kS g2 (by omega), Nat.le_trans kz g2.size, kup.trans (g2.mono (by omega))⟩
      have hSeeP : SeeP w.heap.size (s, t) (.agg #[v, v2]) B := ⟨v, v2, rfl, kS.mono hwW, hSt.mono (by omega)⟩
      have hfT : mtB s t = true → Hid (Upper A5.heap.size B B ∧ (J (prs pre L2 ++ prsT s (pre2 ++ [t])) B ∧ B.cell? ⟨Y, 0, none⟩ = some (.func (.yield l) #[] #[]) ∧ B.cell? ⟨Z, 0, none⟩ = some v ∧ UInv Bv (Bv + 1) k n e q2 B ∧ UInv Bu (Bu + 1) k n e q1 B ∧ SeeT w4.heap.size s v B ∧ A5.heap.size ≤ B.heap.size ∧ Upper w4.heap.size A B)) := fun hmt =>
        hI2 B (by rw [prsT_app, prsT_f hmt]; simpa [prsT] using kj) (Upper.refl _ _) hpT
      have hfF : mtB s t = false → Hid (YieldAt Fence.wide 3 Tryz.prog l #[.agg #[v, v2]] B fun e6 A6 => e6 = .returned (.bool true) ∧ (Upper A5.heap.size B A6 ∧ (J (prs pre L2 ++ prsT s (pre2 ++ [t])) A6 ∧ A6.cell? ⟨Y, 0, none⟩ = some (.func (.yield l) #[] #[]) ∧ A6.cell? ⟨Z, 0, none⟩ = some v ∧ UInv Bv (Bv + 1) k n e q2 A6 ∧ UInv Bu (Bu + 1) k n e q1 A6 ∧ SeeT w4.heap.size s v A6 ∧ A5.heap.size ≤ A6.heap.size ∧ Upper w4.heap.size A A6))) := fun hmt => by
        have hLf : prs L1 L2 = (prs pre L2 ++ prsT s pre2) ++ (s, t) :: (prsT s rest2 ++ prs rest L2) := by
          rw [hLp, prsT_t hmt]; simp only [List.append_assoc, List.cons_append]
        have hyv := anyDepth (m' := 3) (hY.out _ _ _ _ B hLf kj hSeeP)
        refine yield_monoP hyv (fun e6 A6 h6 => ?_)
        obtain ⟨h61, h62, h63⟩ := h6
        have h64 : J (prs pre L2 ++ prsT s (pre2 ++ [t])) A6 := by
          rw [prsT_app, prsT_t hmt, ← List.append_assoc]; simpa [prsT] using h62
        exact ⟨h61, hI2 A6 h64 h63 (hJi.out _ _ h64).t⟩
      have hC := Lib.hid (fun (u : Nat) (hl : s.length ≤ 1048576) => contains_any B v s u kS.1.1 hl)
      have hs5 : s.length ≤ 1048576 := by
        obtain ⟨s0, hs0, rfl⟩ := List.mem_map.1 (show s ∈ (setsL (n - k) q1).map (shN k) by rw [hL1]; exact hsm)
        rw [shN_length, (cf_mem hn hkn hs0).1]
        have := ok_len (cf_mem hn hkn hs0).2
        omega
      have htm : t ∈ L2 := by rw [hLL]; simp
      have ht5 : t.length ≤ 5 := by
        obtain ⟨t0, ht0, rfl⟩ := List.mem_map.1 (show t ∈ (setsL (n - k) q2).map (shN k) by rw [hL2]; exact htm)
        rw [shN_length, (cf_mem hn hkn ht0).1]
        have := ok_len (cf_mem hn hkn ht0).2
        omega
      have hmy := Lib.hid (fun j (hj : j < t.length) (h : s.contains (t[j]?.getD 0) = true) => (show mtB s t = true by rw [← mtB_symm]; exact mtB_at hj h))
      have hmn := Lib.hid (fun (h : ∀ i, i < t.length → s.contains (t[i]?.getD 0) = false) => (show mtB s t = false by rw [← mtB_symm]; exact mtB_no h))
      obtain ⟨⟨_, ad1, cap1, rfl⟩, _⟩ := id kS
      obtain ⟨⟨⟨va, vc, rfl, hv5, hv6, hv7⟩, _⟩, _⟩ := id hSt
      have hvc : Hid (∀ i, i < t.length → ∃ b off, va = some ⟨b, off, none⟩ ∧ B.cell? ⟨b, off + i, none⟩ = some (.int .i64 ((t[i]?.getD 0 : Nat) : Int))) := fun i hi => by
        obtain ⟨b, off, e, _, hc⟩ := hv7 (by intro c; rw [← List.length_eq_zero_iff, zl_length] at c; omega)
        refine ⟨b, off, e, ?_⟩
        have := hc i (by rw [zl_length]; exact hi)
        rwa [zl_get] at this
      replace hfT := Lib.hid hfT
      replace hfF := Lib.hid hfF
      simp only [zl_length] at hv5 hfT hfF hC kZ ⊢
      obtain ⟨m, hm⟩ : ∃ m, t.length = m := ⟨_, rfl⟩
      obtain ⟨ms, hms⟩ : ∃ m, s.length = m := ⟨_, rfl⟩
      rw [hm] at hmy hmn hvc ht5 hv5 hfF ⊢
      rw [hms] at hC kZ hfT hfF hs5 ⊢
      obtain ⟨mt, hmt⟩ : ∃ b, mtB s t = b := ⟨_, rfl⟩
      rw [hmt] at hfT hfF hmy hmn
      clear hI2 hSeeP hv7 kS hSt hLp hLL hL kV kU kup kj hj hS hSee hSee5 hS5 hU5 hpT hm1 hpI hZ5 hy5 hT5 hZc hy hj5 hm hms hmt htm hsm
      gi_wp2
      gi_loopw [19] (fun i wr => ∃ j : Nat, j ≤ m ∧ i = .int .i64 j ∧ wr = B ∧ Hid (∀ q, q < j → s.contains (t[q]?.getD 0) = false)) (fun i _ => m - (intOf i).toNat)
      case atStart => exact ⟨0, by omega, rfl, rfl, fun q hq => by omega⟩
      case round =>
        obtain ⟨j, hj, rfl, rfl, hq⟩ := hrel
        by_cases hlt : j < m
        · obtain ⟨b, off, rfl, hc⟩ := hvc.out j hlt
          have hjm : (j : Int) < (m : Int) := by omega
          obtain ⟨z, hz⟩ : ∃ z, t[j]?.getD 0 = z := ⟨_, rfl⟩
          rw [hz] at hc
          have hCz := Lib.hid (hC.out z hs5)
          cases hbz : s.contains z
          · rw [hbz] at hCz
            have hnx : Hid (∀ q, q < j + 1 → s.contains (t[q]?.getD 0) = false) := fun q hqk => by
              by_cases e : q < j
              · exact hq.out q e
              · obtain rfl : q = j := by omega
                rw [hz]; exact hbz
            clear hz hq hbz
            gi_wp2_with fail
            refine ⟨trivial, ?_⟩
            gi_at_call 74
            refine (CallsIn.inRound l'' (CallsIn.inRound l' (callsIn_wide.2 hCz.out))).mono ?_
            rintro r7 w7 ⟨rfl, rfl⟩
            gi_wp2
            go_roundw
            case rel => exact ⟨j + 1, by omega, by go_num, trivial, hnx⟩
            case measure => simp [intOf]; omega
          · rw [hbz] at hCz
            have hfin := Lib.hid (hfT.out (hmy.out j hlt (by rw [hz]; exact hbz)))
            clear hz hq hbz
            gi_wp2_with fail
            refine ⟨trivial, ?_⟩
            gi_at_call 74
            refine (CallsIn.inRound l'' (CallsIn.inRound l' (callsIn_wide.2 hCz.out))).mono ?_
            rintro r7 w7 ⟨rfl, rfl⟩
            gi_wp2
            exact hfin.out.out
        · obtain rfl : j = m := by omega
          have hdd := decide_eq_false (show ¬ ((j : Int) < (j : Int)) by omega)
          obtain ⟨fn, ytm, yas, ybo, hyy, hRd⟩ := (hfF.out (hmn.out hq.out)).out
          replace hRd := Lib.hid hRd
          clear hq
          gi_wp2
          refine (show RoundIn ((Fence.wide.inRound l').inRound l'') 3 Tryz.prog l fn ytm yas ybo wr _ from hRd.out).mono ?_
          rintro e6 A6 ⟨rfl, hfin⟩
          replace hfin := Lib.hid hfin
          gi_wp2
          exact hfin.out
    case done2 =>
      rintro B ⟨kj, ky, kZ, kV, kU, kS, kz, kup⟩
      exact ⟨kup, by rw [prs_snoc]; exact kj, ky, kU, by omega⟩
  case done =>
    rintro D A hD ⟨hj, hy, hS, hz⟩ hK
    have hj5 := Lib.hid (hJ.out _ _ _ hj (below_putObj A D (.deferred none) (by have := hb04.size; omega)))
    clear hj
    gi_wp2
    refine ⟨by simp, .inl ⟨_, _, rfl, run_takeDeferred hK, ?_⟩⟩
    exact ⟨.tuple #[], by simp [results, Tryz.results109, go_sem], ⟨_, rfl⟩, hj5.out⟩
end Go.Proofs.YtncbimbbkealmaaGreatDoor
/-
  The pairs that are counted: counted[setPair], the program's.
-/
namespace Go.Proofs.YtncbimbbkealmaaGreatDoor
open Go.RowKit Go.Shelf
set_option maxRecDepth 100000
attribute [local go_sem] Oper.semAt_some
def cntQ (p : List Nat × List Nat → Bool) (pre : List (List Nat × List Nat)) : Nat := pre.countP p
theorem cntQ_t {p : List Nat × List Nat → Bool} {pre : List (List Nat × List Nat)} {x : List Nat × List Nat} (h : p x = true) : cntQ p (pre ++ [x]) = cntQ p pre + 1 := by simp [cntQ, h]
theorem cntQ_f {p : List Nat × List Nat → Bool} {pre : List (List Nat × List Nat)} {x : List Nat × List Nat} (h : p x = false) : cntQ p (pre ++ [x]) = cntQ p pre := by simp [cntQ, h]
theorem cntQ_le (p : List Nat × List Nat → Bool) (pre : List (List Nat × List Nat)) : cntQ p pre ≤ pre.length := List.countP_le_length
theorem SeeP.below (base : Nat) (x : List Nat × List Nat) (v : Value) (A A' : World) (h : SeeP base x v A) (hb : Below A.heap.size A A') : SeeP base x v A' := by
  obtain ⟨v1, v2, e, h1, h2⟩ := h
  exact ⟨v1, v2, e, SeeT.below _ _ _ _ _ h1 hb, SeeT.below _ _ _ _ _ h2 hb⟩
theorem SeeP.cellular (base : Nat) (x : List Nat × List Nat) (v : Value) : Cellular (SeeP base x v) := fun A l o o' h hl ho => by
  obtain ⟨v1, v2, e, h1, h2⟩ := h
  exact ⟨v1, v2, e, SeeT.cellular _ _ _ A l o o' h1 hl ho, SeeT.cellular _ _ _ A l o o' h2 hl ho⟩
theorem SeeP.setCell {base : Nat} {x : List Nat × List Nat} {v : Value} {A : World} (h : SeeP base x v A) {p : Addr} (hp : p.block < base) (u : Value) : SeeP base x v (A.setCell p u) := by
  obtain ⟨v1, v2, e, h1, h2⟩ := h
  exact ⟨v1, v2, e, h1.setCell hp u, h2.setCell hp u⟩
theorem SeeP.mono {b b' : Nat} {x : List Nat × List Nat} {v : Value} {W : World} (h : SeeP b x v W) (hb : b' ≤ b) : SeeP b' x v W := by
  obtain ⟨v1, v2, e, h1, h2⟩ := h
  exact ⟨v1, v2, e, h1.mono hb, h2.mono hb⟩
/-- what the counting loop keeps: the closure's box, both counters -/
structure CdQ (w : World) (F : Value) (p : List Nat × List Nat → Bool) (pre : List (List Nat × List Nat)) (A : World) : Prop where
  below : Below w.heap.size w A
  lt : w.heap.size + 2 < A.heap.size
  f : A.cell? ⟨w.heap.size, 0, none⟩ = some F
  c1 : A.cell? ⟨w.heap.size + 1, 0, none⟩ = some (.int .i64 (cntQ p pre : Nat))
  z1 : A.frozen? ⟨w.heap.size + 1, 0, none⟩ = false
  c2 : A.cell? ⟨w.heap.size + 2, 0, none⟩ = some (.int .i64 (pre.length : Nat))
  z2 : A.frozen? ⟨w.heap.size + 2, 0, none⟩ = false
theorem CdQ.under {w : World} {F : Value} {p : List Nat × List Nat → Bool} {pre : List (List Nat × List Nat)} {A A' : World} {C : Nat} (h : CdQ w F p pre A) (hb : Below C A A') (hC : w.heap.size + 2 < C) : CdQ w F p pre A' :=
  ⟨h.below.trans (hb.mono (by omega)), Nat.lt_of_lt_of_le h.lt hb.size, (hb.cell (p := ⟨w.heap.size, 0, none⟩) (by show w.heap.size < _; omega)).trans h.f, (hb.cell (p := ⟨w.heap.size + 1, 0, none⟩) (by show w.heap.size + 1 < _; omega)).trans h.c1,
    (hb.frozen (p := ⟨w.heap.size + 1, 0, none⟩) (by show w.heap.size + 1 < _; omega)).trans h.z1, (hb.cell (p := ⟨w.heap.size + 2, 0, none⟩) (by show w.heap.size + 2 < _; omega)).trans h.c2, (hb.frozen (p := ⟨w.heap.size + 2, 0, none⟩) (by show w.heap.size + 2 < _; omega)).trans h.z2⟩
/-- behind a round -/
theorem CdQ.next {w : World} {F : Value} {p : List Nat × List Nat → Bool} {pre : List (List Nat × List Nat)} {x : List Nat × List Nat} {A A3 : World} (h : CdQ w F p pre A) (hb : Below A.heap.size (A.setCell ⟨w.heap.size + 2, 0, none⟩ (.int .i64 ((pre.length : Nat) + 1 : Int))) A3) (b : Bool) (hpx : p x = b) :
    CdQ w F p (pre ++ [x]) (if b then A3.setCell ⟨w.heap.size + 1, 0, none⟩ (.int .i64 ((cntQ p pre : Nat) + 1 : Int)) else A3) ∧ Upper (w.heap.size + 3) A (if b then A3.setCell ⟨w.heap.size + 1, 0, none⟩ (.int .i64 ((cntQ p pre : Nat) + 1 : Int)) else A3) := by
  have hl := h.lt
  have e0 : (A.setCell ⟨w.heap.size + 2, 0, none⟩ (.int .i64 ((pre.length : Nat) + 1 : Int))).heap.size = A.heap.size := by simp
  have hA : Below w.heap.size w (A.setCell ⟨w.heap.size + 2, 0, none⟩ (.int .i64 ((pre.length : Nat) + 1 : Int))) := h.below.setCell (p := ⟨w.heap.size + 2, 0, none⟩) (by show _ ≤ w.heap.size + 2; omega) _
  have q0 : A3.cell? ⟨w.heap.size, 0, none⟩ = some F := (hb.cell (p := ⟨w.heap.size, 0, none⟩) (by show w.heap.size < _; omega)).trans ((World.cell?_setCell_other _ _ _ _ (by simp)).trans h.f)
  have q1 : A3.cell? ⟨w.heap.size + 1, 0, none⟩ = some (.int .i64 (cntQ p pre : Nat)) := (hb.cell (p := ⟨w.heap.size + 1, 0, none⟩) (by show w.heap.size + 1 < _; omega)).trans ((World.cell?_setCell_other _ _ _ _ (by simp)).trans h.c1)
  have q2 : A3.cell? ⟨w.heap.size + 2, 0, none⟩ = some (.int .i64 (((pre ++ [x]).length : Nat) : Int)) := by
    rw [hb.cell (p := ⟨w.heap.size + 2, 0, none⟩) (by show w.heap.size + 2 < _; omega), World.cell?_setCell_same _ _ _ h.c2]
    simp
  have z1 : A3.frozen? ⟨w.heap.size + 1, 0, none⟩ = false := (hb.frozen (p := ⟨w.heap.size + 1, 0, none⟩) (by show w.heap.size + 1 < _; omega)).trans (by rw [World.frozen?_setCell]; exact h.z1)
  have z2 : A3.frozen? ⟨w.heap.size + 2, 0, none⟩ = false := (hb.frozen (p := ⟨w.heap.size + 2, 0, none⟩) (by show w.heap.size + 2 < _; omega)).trans (by rw [World.frozen?_setCell]; exact h.z2)
  have hz3 := hb.size
  have hbw : Below w.heap.size w A3 := hA.trans (hb.mono (by omega))
  have hu : Upper (w.heap.size + 3) A A3 := by
    have hu1 : Upper (w.heap.size + 3) A (A.setCell ⟨w.heap.size + 2, 0, none⟩ (.int .i64 ((pre.length : Nat) + 1 : Int))) := Upper.setCell A ⟨w.heap.size + 2, 0, none⟩ _ (by show w.heap.size + 2 < _; omega)
    exact hu1.trans (Upper.of_below (by rw [e0]; exact hb))
  cases b
  · refine ⟨⟨hbw, by simp only [Bool.false_eq_true, if_false]; omega, q0, by rw [cntQ_f hpx]; exact q1, z1, q2, z2⟩, hu⟩
  · refine ⟨⟨hbw.setCell (p := ⟨w.heap.size + 1, 0, none⟩) (by show _ ≤ w.heap.size + 1; omega) _, by simp; omega, (World.cell?_setCell_other _ _ _ _ (by simp)).trans q0, ?_, (by simp only [if_true]; rw [World.frozen?_setCell]; exact z1), (World.cell?_setCell_other _ _ _ _ (by simp)).trans q2, (by simp only [if_true]; rw [World.frozen?_setCell]; exact z2)⟩, hu.trans (Upper.setCell _ _ _ (by show w.heap.size + 1 < _; omega))⟩
    rw [cntQ_t hpx]
    simp only [if_true]
    rw [World.cell?_setCell_same _ _ _ q1]
    simp
section
variable (w : World)
set_option maxHeartbeats 4000000 in
theorem cnq_any (k n e q1 q2 B Bw Bf Bx : Nat) (p : List Nat × List Nat → Bool) (L1 L2 : List (List Nat)) (hL1 : (setsL (n - k) q1).map (shN k) = L1) (hL2 : (setsL (n - k) q2).map (shN k) = L2) (hn : n ≤ 5) (hkn : k ≤ n) (hlen : (prs L1 L2).length ≤ 2000)
    (hB : FC w B k n e) (hBa : w.cell? ⟨B + 1, 0, none⟩ = some (.int .i64 q1)) (hBb : w.cell? ⟨B + 2, 0, none⟩ = some (.int .i64 q2)) (hT : TabZ w)
    (hTk0 : ∀ (A : World) (x : List Nat × List Nat) (v : Value), Below w.heap.size w A → SeeP 0 x v A → x ∈ prs L1 L2 → Calls Tryz.prog 91 #[v, .pointer (some ⟨Bw, 0, none⟩), .pointer (some ⟨Bf, 0, none⟩), .pointer (some ⟨Bx, 0, none⟩)] A fun r w' => r = .returned (.bool (p x)) ∧ Below A.heap.size A w') :
    Calls Tryz.prog 89 #[.func (.func 109) #[] #[.pointer (some ⟨B, 0, none⟩), .pointer (some ⟨B + 1, 0, none⟩), .pointer (some ⟨B + 2, 0, none⟩)], .func (.func 91) #[] #[.pointer (some ⟨Bw, 0, none⟩), .pointer (some ⟨Bf, 0, none⟩), .pointer (some ⟨Bx, 0, none⟩)]] w
      fun r w' => r = .returned (.tuple #[.int .i64 (cntQ p (prs L1 L2) : Nat), .int .i64 ((prs L1 L2).length : Nat)]) ∧ Below w.heap.size w w' := by
  have hzB := World.block_lt_of_cell? w _ hBb
  have hBl : B + 2 < w.heap.size := hzB
  have hTk := Lib.hid hTk0
  have hUI := Lib.hid (fun (A : World) (hA : Below w.heap.size w A) => (show PInv B (B + 1) (B + 2) k n e q1 q2 A from ⟨hB.below hA, (hA.cell (p := ⟨B + 1, 0, none⟩) (by show B + 1 < _; omega)).trans hBa, (hA.cell (p := ⟨B + 2, 0, none⟩) hBl).trans hBb, hT.below hA⟩))
  obtain ⟨F, hFd⟩ : ∃ F, F = Value.func (.func 91) #[] #[.pointer (some ⟨Bw, 0, none⟩), .pointer (some ⟨Bf, 0, none⟩), .pointer (some ⟨Bx, 0, none⟩)] := ⟨_, rfl⟩
  obtain ⟨W0, hW0⟩ : ∃ W0, W0 = ((w.alloc (.cells #[F] 124)).alloc (.cells #[.int .i64 0] 2)).alloc (.cells #[.int .i64 0] 2) := ⟨_, rfl⟩
  have hb0 : Below w.heap.size w W0 := by rw [hW0]; (repeat (first | exact Below.refl _ _ | assumption | refine bchain (by assumption) ?_ | refine balloc ?_ _ | apply Below.drew | apply below_drewN | (refine Below.alloc ?_ (by (try simp) <;> omega) _) | (refine Below.setCell ?_ (by (try simp) <;> omega) _)))
  have hz0 : W0.heap.size = w.heap.size + 3 := by rw [hW0]; simp
  have hI0 : CdQ w F p [] W0 := by
    refine ⟨hb0, by omega, ?_, ?_, ?_, ?_, ?_⟩
    · rw [hW0, cOld _ _ _ _ (by simp; omega), cOld _ _ _ _ (by simp), cNew _ _ _ _ _ rfl]; rfl
    · rw [hW0, cOld _ _ _ _ (by simp), cNew _ _ _ _ _ (by simp)]; rfl
    · rw [hW0, fOld _ _ _ _ (by simp), fNew _ _ _ _ _ (by simp)]
    · rw [hW0, cNew _ _ _ _ _ (by simp)]; rfl
    · rw [hW0, fNew _ _ _ _ _ (by simp)]
  have hseq := prs_seesT k n e q1 q2 hn hkn 6 B (B + 1) (B + 2) L1 L2 hL1 hL2 W0 (by omega)
  clear hB hBa hBb hT hTk0
  obtain ⟨zz, hzz⟩ : ∃ z : Nat, cntQ p (prs L1 L2) = z := ⟨_, rfl⟩
  obtain ⟨tt, htt⟩ : ∃ t : Nat, (prs L1 L2).length = t := ⟨_, rfl⟩
  rw [hzz, htt]
  replace hzz := Lib.hid hzz
  replace htt := Lib.hid htt
  refine (callsIn_wide (n := 7)).1 ?_
  refine callsIn_of_wp_marks Tryz.func89 rfl trivial ?_ rfl
  simp only [Tryz.ntmps89, List.size_toArray, List.length_cons, List.length_nil, Nat.reduceAdd, Nat.reduceSub, Array.replicate_succ, Array.replicate_zero, List.push_toArray, List.append_toArray, List.nil_append, List.cons_append]
  gi_wp2
  rw [← hFd, ← hW0]
  rw [show (w.heap.size + 1 + 1 : Nat) = w.heap.size + 2 by omega]
  replace hW0 := Lib.hid hW0
  replace hFd := Lib.hid hFd
  obtain ⟨GF, hGF⟩ : ∃ GF, GF = Value.func (.func 109) #[] #[.pointer (some ⟨B, 0, none⟩), .pointer (some ⟨B + 1, 0, none⟩), .pointer (some ⟨B + 2, 0, none⟩)] := ⟨_, rfl⟩
  have hTab := (hUI.out W0 hb0).t.lt
  refine wpIn_range_seesU rfl (by omega) (gf := 109) (lb := #[.pointer (some ⟨B, 0, none⟩), .pointer (some ⟨B + 1, 0, none⟩), .pointer (some ⟨B + 2, 0, none⟩)]) rfl trivial (enters_of Tryz.func109 (by kernel_rfl) rfl)
    hseq (Below.refl _ _) rfl (SeeP.below _) (SeeP.cellular _)
    (fun pre A => CdQ w F p pre A)
    (fun s A hs => hUI.out A hs.below)
    (fun s A A' hs hb => hs.under hb (by omega))
    hI0
    (fun v a' A => ∃ Z v1 v2, W0.heap.size ≤ Z ∧ A.cell? ⟨Z, 0, none⟩ = some v1 ∧ A.cell? ⟨Z, 1, none⟩ = some v2 ∧ v = .agg #[v1, v2] ∧ a' = { tmps := #[.func (.func 109) #[] #[.pointer (some ⟨B, 0, none⟩), .pointer (some ⟨B + 1, 0, none⟩), .pointer (some ⟨B + 2, 0, none⟩)], F, undef, .pointer (some ⟨w.heap.size, 0, none⟩), .pointer (some ⟨w.heap.size + 1, 0, none⟩), .pointer (some ⟨w.heap.size + 2, 0, none⟩), .pointer (some ⟨Z, 0, none⟩), .func (.func 109) #[] #[.pointer (some ⟨B, 0, none⟩), .pointer (some ⟨B + 1, 0, none⟩), .pointer (some ⟨B + 2, 0, none⟩)], v, undef, undef, undef, undef, undef, undef, undef, undef, undef], defers := [] })
    (fun v a' A l o o' h hl ho => by obtain ⟨Z, v1, v2, h1, h2, h3, h4⟩ := h; exact ⟨Z, v1, v2, h1, cellular_cell _ _ A l o o' h2 hl ho, cellular_cell _ _ A l o o' h3 hl ho, h4⟩) ?assign ?body ?done
  case assign =>
    intro l' x v A K hAz hS hK
    obtain ⟨v1, v2, rfl, ⟨⟨_, ad1, cap1, rfl⟩, _⟩, ⟨⟨_, ad2, cap2, rfl⟩, _⟩⟩ := hS
    obtain ⟨m1, hm1⟩ : ∃ m, (zl x.1).length = m := ⟨_, rfl⟩
    obtain ⟨m2, hm2⟩ : ∃ m, (zl x.2).length = m := ⟨_, rfl⟩
    rw [hm1, hm2] at hK ⊢
    have hfin := Lib.hid (hK _ (A.alloc (.cells #[.slice (some ad1) m1 cap1, .slice (some ad2) m2 cap2] 120)) (balloc (Below.refl _ _) _) ⟨A.heap.size, _, _, by omega, by rw [cNew _ _ _ _ _ rfl]; rfl, by rw [cNew _ _ _ _ _ rfl]; rfl, rfl, rfl⟩)
    gi_wp2
    exact hfin.out
  case body =>
    rintro l' pre x rest v a' A hl' hlr hL hI hSee ⟨Z, v1, v2, hZ0, hZ1, hZ2, rfl, rfl⟩
    have hxm : x ∈ prs L1 L2 := by rw [hL]; simp
    have hkl : pre.length < 2000 := by
      have h2 := hlen
      rw [hL] at h2
      simp at h2
      omega
    have hcl := cntQ_le p pre
    have hIl := hI.lt
    have hcall := Lib.hid (fun A2 (hb : Below w.heap.size w A2) (hs : SeeP 0 x (.agg #[v1, v2]) A2) => hTk.out A2 x _ hb hs hxm)
    have hAw : Below w.heap.size w (A.setCell ⟨w.heap.size + 2, 0, none⟩ (.int .i64 ((pre.length : Nat) + 1 : Int))) := hI.below.setCell (p := ⟨w.heap.size + 2, 0, none⟩) (by show _ ≤ w.heap.size + 2; omega) _
    have hSee2 : SeeP 0 x (.agg #[v1, v2]) (A.setCell ⟨w.heap.size + 2, 0, none⟩ (.int .i64 ((pre.length : Nat) + 1 : Int))) := (hSee.setCell (p := ⟨w.heap.size + 2, 0, none⟩) (by show w.heap.size + 2 < _; omega) _).mono (Nat.zero_le _)
    have c0 : (A.setCell ⟨w.heap.size + 2, 0, none⟩ (.int .i64 ((pre.length : Nat) + 1 : Int))).cell? ⟨w.heap.size, 0, none⟩ = some F := (World.cell?_setCell_other _ _ _ _ (by simp)).trans hI.f
    have y0 : (A.setCell ⟨w.heap.size + 2, 0, none⟩ (.int .i64 ((pre.length : Nat) + 1 : Int))).cell? ⟨Z, 0, none⟩ = some v1 := (World.cell?_setCell_other _ _ _ _ (by (try simp) <;> omega)).trans hZ1
    have y1 : (A.setCell ⟨w.heap.size + 2, 0, none⟩ (.int .i64 ((pre.length : Nat) + 1 : Int))).cell? ⟨Z, 1, none⟩ = some v2 := (World.cell?_setCell_other _ _ _ _ (by simp)).trans hZ2
    have hC := Lib.hid (hcall.out _ hAw hSee2)
    obtain ⟨b, hb⟩ : ∃ b, p x = b := ⟨_, rfl⟩
    have hnx := Lib.hid (fun A3 (h3 : Below A.heap.size (A.setCell ⟨w.heap.size + 2, 0, none⟩ (.int .i64 ((pre.length : Nat) + 1 : Int))) A3) => hI.next h3 b hb)
    have e0 : (A.setCell ⟨w.heap.size + 2, 0, none⟩ (.int .i64 ((pre.length : Nat) + 1 : Int))).heap.size = A.heap.size := by simp
    rw [hb] at hC
    obtain ⟨z, hz⟩ : ∃ z : Nat, cntQ p pre = z := ⟨_, rfl⟩
    obtain ⟨t, ht⟩ : ∃ t : Nat, pre.length = t := ⟨_, rfl⟩
    obtain ⟨_, _, i1, i2, i3, i4, i5⟩ := id hI
    have q1 : ∀ A3, Below A.heap.size (A.setCell ⟨w.heap.size + 2, 0, none⟩ (.int .i64 ((pre.length : Nat) + 1 : Int))) A3 → A3.cell? ⟨w.heap.size + 1, 0, none⟩ = some (.int .i64 (cntQ p pre : Nat)) ∧ A3.frozen? ⟨w.heap.size + 1, 0, none⟩ = false := fun A3 h3 =>
      ⟨(h3.cell (p := ⟨w.heap.size + 1, 0, none⟩) (by show w.heap.size + 1 < _; omega)).trans ((World.cell?_setCell_other _ _ _ _ (by simp)).trans i2), (h3.frozen (p := ⟨w.heap.size + 1, 0, none⟩) (by show w.heap.size + 1 < _; omega)).trans (by rw [World.frozen?_setCell]; exact i3)⟩
    rw [hz] at hnx q1 i2 hcl
    rw [ht] at hC hnx q1 i4 hcl hkl c0 e0 y0 y1
    replace q1 := Lib.hid q1
    obtain ⟨u1, u2, hv, ⟨⟨_, ad1, cap1, rfl⟩, _⟩, ⟨⟨_, ad2, cap2, rfl⟩, _⟩⟩ := hSee
    simp only [Value.agg.injEq, Array.mk.injEq, List.cons.injEq, and_true] at hv
    obtain ⟨rfl, rfl⟩ := hv
    obtain ⟨m1, hm1⟩ : ∃ m, (zl x.1).length = m := ⟨_, rfl⟩
    obtain ⟨m2, hm2⟩ : ∃ m, (zl x.2).length = m := ⟨_, rfl⟩
    rw [hm1, hm2] at hC
    rw [hm1] at y0
    rw [hm2] at y1
    rw [hm1, hm2]
    rw [hFd.out] at i1 c0 ⊢
    clear hSee2 hAw hZ1 hZ2 hm1 hm2 hI hL hcall hz ht hb hxm hlr
    gi_wp2_with fail
    refine ⟨trivial, ?_⟩
    gi_at_call 91
    refine (CallsIn.inRound l' (callsIn_wide.2 hC.out)).mono ?_
    rintro r5 w5 ⟨rfl, hb5⟩
    rw [e0] at hb5
    obtain ⟨k1, k2⟩ := q1.out w5 hb5
    obtain ⟨n1, n2⟩ := hnx.out w5 hb5
    have n3 := Lib.hid (show Upper W0.heap.size A (if b then w5.setCell ⟨w.heap.size + 1, 0, none⟩ (.int .i64 ((z : Nat) + 1 : Int)) else w5) from n2.mono (by omega))
    replace n1 := Lib.hid n1
    clear n2 hnx q1 hC
    cases b
    · gi_wp2
      exact ⟨n3.out, by rw [← hFd.out]; exact n1.out⟩
    · gi_wp2
      exact ⟨n3.out, by rw [← hFd.out]; exact n1.out⟩
  case done =>
    rintro D A hD hI hK
    have hDz : w.heap.size + 3 ≤ D := by omega
    obtain ⟨i0, il, i1, i2, i3, i4, i5⟩ := id hI
    rw [hzz.out] at i2
    rw [htt.out] at i4
    clear hI hlen hseq
    gi_wp2
    refine wpIn_wide.2 ?_
    go_region_held3 (fun A => A.cell? ⟨w.heap.size + 1, 0, none⟩ = some (.int .i64 zz) ∧ A.cell? ⟨w.heap.size + 2, 0, none⟩ = some (.int .i64 tt))
      (first
        | exact ⟨i2, i4⟩
        | exact ⟨World.cell?_setCell_same _ _ _ i2, (World.cell?_setCell_other _ _ _ _ (by simp)).trans i4⟩
        | exact ⟨(World.cell?_setCell_other _ _ _ _ (by simp)).trans (World.cell?_setCell_same _ _ _ i2), World.cell?_setCell_same _ _ _ ((World.cell?_setCell_other _ _ _ _ (by simp)).trans i4)⟩)
      (fail)
    have hbW : Below w.heap.size w ((A.setCell ⟨w.heap.size + 1, 0, none⟩ (.int .i64 (zz : Int))).setCell ⟨w.heap.size + 2, 0, none⟩ (.int .i64 (tt : Int))).drew := ((i0.setCell (p := ⟨w.heap.size + 1, 0, none⟩) (by show _ ≤ w.heap.size + 1; omega) _).setCell (p := ⟨w.heap.size + 2, 0, none⟩) (by show _ ≤ w.heap.size + 2; omega) _).drew
    have hK2 : ((A.setCell ⟨w.heap.size + 1, 0, none⟩ (.int .i64 (zz : Int))).setCell ⟨w.heap.size + 2, 0, none⟩ (.int .i64 (tt : Int))).drew.heap[D]? = some (.deferred (some [])) :=
      (Below.heap_setCell _ _ _ _ (by show D ≠ w.heap.size + 2; omega)).trans ((Below.heap_setCell _ _ _ _ (by show D ≠ w.heap.size + 1; omega)).trans hK)
    have s1 : ((A.setCell ⟨w.heap.size + 1, 0, none⟩ (.int .i64 (zz : Int))).setCell ⟨w.heap.size + 2, 0, none⟩ (.int .i64 (tt : Int))).drew.cell? ⟨w.heap.size + 1, 0, none⟩ = some (.int .i64 zz) := (World.cell?_setCell_other _ _ _ _ (by simp)).trans (World.cell?_setCell_same _ _ _ i2)
    have s2 : ((A.setCell ⟨w.heap.size + 1, 0, none⟩ (.int .i64 (zz : Int))).setCell ⟨w.heap.size + 2, 0, none⟩ (.int .i64 (tt : Int))).drew.cell? ⟨w.heap.size + 2, 0, none⟩ = some (.int .i64 tt) := World.cell?_setCell_same _ _ _ ((World.cell?_setCell_other _ _ _ _ (by simp)).trans i4)
    obtain ⟨W2, hW2⟩ : ∃ W2, W2 = ((A.setCell ⟨w.heap.size + 1, 0, none⟩ (.int .i64 (zz : Int))).setCell ⟨w.heap.size + 2, 0, none⟩ (.int .i64 (tt : Int))).drew := ⟨_, rfl⟩
    rw [← hW2] at hbW hK2 s1 s2 ⊢
    have r1 := cell_kept s1 (grownBy_putObj' _ D (.deferred none)) (fun r e => by cases e; exact ⟨_, hK2, rfl⟩)
    have r2 := cell_kept s2 (grownBy_putObj' _ D (.deferred none)) (fun r e => by cases e; exact ⟨_, hK2, rfl⟩)
    have hbe : Hid (Below w.heap.size w (W2.putObj D (.deferred none))) := hbW.trans (below_putObj _ _ _ (by omega))
    clear hW2 i0 il i1 i2 i3 i4 i5 s1 s2 hbW hK
    gi_wp2
    refine ⟨by simp, .inl ⟨_, _, rfl, run_takeDeferred hK2, ?_⟩⟩
    exact ⟨.tuple #[.int .i64 zz, .int .i64 tt], by simp [results, Tryz.results89, go_sem, r1, r2], rfl, hbe.out⟩
end
end Go.Proofs.YtncbimbbkealmaaGreatDoor
/-
  Whether a pair of sets is counted: jointDensity's closure.
-/
namespace Go.Proofs.YtncbimbbkealmaaGreatDoor
open Go.RowKit Go.Shelf
set_option maxRecDepth 100000
attribute [local go_sem] Oper.semAt_some
/-- operations under other names: they are met where they come, and not ahead of the guard -/
def ldB (t : TypeId) (x : Operand) : Op := Op.load t x
def faB (t : TypeId) (x : Operand) (i : Nat) : Op := Op.fieldAddr t x i
attribute [local go_sem] ldB faB
section
variable (w : World)
set_option maxHeartbeats 4000000 in
theorem jd1_any (k n e q1 q2 M1 M2 : Nat) (S1 S2 : List Nat) (x : List Nat × List Nat) (v : Value) (B1 Bf B2 : Nat) (h : VK k n e) (hF : FC w Bf k n e) (hc1 : w.cell? ⟨B1, 0, none⟩ = some (.map (some M1))) (hM1 : FSet w M1 k (k + q1) S1) (hc2 : w.cell? ⟨B2, 0, none⟩ = some (.map (some M2))) (hM2 : FSet w M2 k (k + q2) S2)
    (hS : SeeP 0 x v w) (hm1 : x.1.length = q1) (hm2 : x.2.length = q2) (hx1 : okList n (k + q1) (List.range k ++ x.1) = true) (hx2 : okList n (k + q2) (List.range k ++ x.2) = true) :
    Calls Tryz.prog 91 #[v, .pointer (some ⟨B1, 0, none⟩), .pointer (some ⟨Bf, 0, none⟩), .pointer (some ⟨B2, 0, none⟩)] w fun r w' => r = .returned (.bool (inB k e (k + q1) S1 x.1 && inB k e (k + q2) S2 x.2)) ∧ Below w.heap.size w w' := by
  obtain ⟨he, hn5, hk3, hkn⟩ := h.nums
  obtain ⟨v1, v2, rfl, hS1, hS2⟩ := hS
  obtain ⟨x1, x2⟩ := x
  dsimp only at hS1 hS2 hm1 hm2 hx1 hx2 ⊢
  have hroom1 := ok_len hx1
  have hroom2 := ok_len hx2
  have hP1 := Lib.hid (fun W (hb : Below w.heap.size w W) => kpart_any W k n e q1 x1 v1 h (SeeS.below x1 v1 w W hS1.1 hb) hm1 hx1)
  have hP2 := Lib.hid (fun W (hb : Below w.heap.size w W) => kpart_any W k n e q2 x2 v2 h (SeeS.below x2 v2 w W hS2.1 hb) hm2 hx2)
  have hy1 : onL e (List.range k ++ x1) < 4294967296 := by
    have h1 := onL_ltP e hx1 (by omega)
    have h2 := eMax_le (k + q1)
    omega
  have hy2 : onL e (List.range k ++ x2) < 4294967296 := by
    have h1 := onL_ltP e hx2 (by omega)
    have h2 := eMax_le (k + q2)
    omega
  have hb1 : inS k (k + q1) S1 k (k + q1) (onL e (List.range k ++ x1)) = inB k e (k + q1) S1 x1 := rfl
  have hb2 : inS k (k + q2) S2 k (k + q2) (onL e (List.range k ++ x2)) = inB k e (k + q2) S2 x2 := rfl
  obtain ⟨b1, hbb1⟩ : ∃ b, inB k e (k + q1) S1 x1 = b := ⟨_, rfl⟩
  obtain ⟨b2, hbb2⟩ : ∃ b, inB k e (k + q2) S2 x2 = b := ⟨_, rfl⟩
  rw [hbb1] at hb1 ⊢
  rw [hbb2] at hb2 ⊢
  obtain ⟨y1, hyy1⟩ : ∃ y, onL e (List.range k ++ x1) = y := ⟨_, rfl⟩
  obtain ⟨y2, hyy2⟩ : ∃ y, onL e (List.range k ++ x2) = y := ⟨_, rfl⟩
  rw [hyy1] at hP1 hy1 hb1
  rw [hyy2] at hP2 hy2 hb2
  obtain ⟨⟨_, va1, vc1, rfl⟩, _⟩ := hS1
  obtain ⟨⟨_, va2, vc2, rfl⟩, _⟩ := hS2
  have hcl1 := World.block_lt_of_cell? w _ hc1
  have hcl2 := World.block_lt_of_cell? w _ hc2
  obtain ⟨f0, f1, f2, f3⟩ := hF
  obtain ⟨n1, hn1⟩ : ∃ n0, k + q1 = n0 := ⟨_, rfl⟩
  obtain ⟨n2, hn2⟩ : ∃ n0, k + q2 = n0 := ⟨_, rfl⟩
  rw [hn1] at hP1 hM1 hb1 hroom1
  rw [hn2] at hP2 hM2 hb2 hroom2
  have hlk1 : ∀ W, Below w.heap.size w W → (Instr.lookup 116 (.map (some M1)) (.agg #[.int .i64 k, .int .i64 n1, .int .u32 y1]) false).run Tryz.prog W = .ok (.bool b1) W := fun W hW => by
    have h1 := (hM1.below hW).look k n1 y1 (by omega) (by omega) hy1
    unfold flagV at h1
    rw [hb1] at h1
    exact h1
  have hlk2 : ∀ W, Below w.heap.size w W → (Instr.lookup 116 (.map (some M2)) (.agg #[.int .i64 k, .int .i64 n2, .int .u32 y2]) false).run Tryz.prog W = .ok (.bool b2) W := fun W hW => by
    have h1 := (hM2.below hW).look k n2 y2 (by omega) (by omega) hy2
    unfold flagV at h1
    rw [hb2] at h1
    exact h1
  replace hlk1 := Lib.hid hlk1
  replace hlk2 := Lib.hid hlk2
  obtain ⟨m1, hmm1⟩ : ∃ m, (zl x1).length = m := ⟨_, rfl⟩
  obtain ⟨m2, hmm2⟩ : ∃ m, (zl x2).length = m := ⟨_, rfl⟩
  rw [hmm1, hmm2]
  rw [hmm1] at hP1
  rw [hmm2] at hP2
  clear hM1 hM2 hx1 hx2 hb1 hb2 hbb1 hbb2 hyy1 hyy2 hmm1 hmm2 hn1 hn2 hm1 hm2
  obtain ⟨W0, hW0⟩ : ∃ W0, W0 = w.alloc (.cells #[.slice (some va1) m1 vc1, .slice (some va2) m2 vc2] 120) := ⟨_, rfl⟩
  have hB0 : Below w.heap.size w W0 := by rw [hW0]; (repeat (first | exact Below.refl _ _ | assumption | refine bchain (by assumption) ?_ | refine balloc ?_ _ | apply Below.drew | apply below_drewN | (refine Below.alloc ?_ (by (try simp) <;> omega) _) | (refine Below.setCell ?_ (by (try simp) <;> omega) _)))
  have g0 : W0.cell? ⟨w.heap.size, 0, none⟩ = some (.slice (some va1) m1 vc1) := by rw [hW0, cNew _ _ _ _ _ rfl]; rfl
  have g1 : W0.cell? ⟨w.heap.size, 1, none⟩ = some (.slice (some va2) m2 vc2) := by rw [hW0, cNew _ _ _ _ _ rfl]; rfl
  have gz : w.heap.size < W0.heap.size := by rw [hW0]; simp
  have c1 := (hB0.cell (p := ⟨B1, 0, none⟩) hcl1).trans hc1
  have c2 := (hB0.cell (p := ⟨B2, 0, none⟩) hcl2).trans hc2
  have e1 := (hB0.cell (p := ⟨Bf, 0, none⟩) f0).trans f1
  have e2 := (hB0.cell (p := ⟨Bf, 1, none⟩) f0).trans f2
  have e3 := (hB0.cell (p := ⟨Bf, 2, none⟩) f0).trans f3
  have l1 : B1 < W0.heap.size := Nat.lt_of_lt_of_le hcl1 hB0.size
  have l2 : B2 < W0.heap.size := Nat.lt_of_lt_of_le hcl2 hB0.size
  have l3 : Bf < W0.heap.size := Nat.lt_of_lt_of_le f0 hB0.size
  have hB : ∀ W, Below W0.heap.size W0 W → Below w.heap.size w W := fun W hW => hB0.trans (hW.mono hB0.size)
  replace hB := Lib.hid hB
  clear hc1 hc2 f1 f2 f3 hcl1 hcl2 f0
  cases b1
  · go_enter Tryz.func91, Tryz.ntmps91
    go_wp2
    rw [← hW0]
    rw [show Op.load 116 (Operand.tmp 3) = ldB 116 (Operand.tmp 3) from rfl, show Op.load 43 (Operand.tmp 2) = ldB 43 (Operand.tmp 2) from rfl, show Op.load 69 (Operand.tmp 15) = ldB 69 (Operand.tmp 15) from rfl, show Op.fieldAddr 120 (Operand.tmp 4) 1 = faB 120 (Operand.tmp 4) 1 from rfl]
    replace hW0 := Lib.hid hW0
    go_region_held3 (fun A => A.cell? ⟨w.heap.size, 0, none⟩ = some (.slice (some va1) m1 vc1) ∧ A.cell? ⟨w.heap.size, 1, none⟩ = some (.slice (some va2) m2 vc2) ∧ A.cell? ⟨B1, 0, none⟩ = some (.map (some M1)) ∧ A.cell? ⟨B2, 0, none⟩ = some (.map (some M2)) ∧ A.cell? ⟨Bf, 0, none⟩ = some (.int .i64 k) ∧ A.cell? ⟨Bf, 1, none⟩ = some (.int .i64 n) ∧ A.cell? ⟨Bf, 2, none⟩ = some (.int .u32 e))
      (exact ⟨old_cell gz g0 (by (repeat (first | exact Below.refl _ _ | assumption | refine bchain (by assumption) ?_ | refine balloc ?_ _ | apply Below.drew | apply below_drewN | (refine Below.alloc ?_ (by (try simp) <;> omega) _) | (refine Below.setCell ?_ (by (try simp) <;> omega) _)))), old_cell gz g1 (by (repeat (first | exact Below.refl _ _ | assumption | refine bchain (by assumption) ?_ | refine balloc ?_ _ | apply Below.drew | apply below_drewN | (refine Below.alloc ?_ (by (try simp) <;> omega) _) | (refine Below.setCell ?_ (by (try simp) <;> omega) _)))), old_cell l1 c1 (by (repeat (first | exact Below.refl _ _ | assumption | refine bchain (by assumption) ?_ | refine balloc ?_ _ | apply Below.drew | apply below_drewN | (refine Below.alloc ?_ (by (try simp) <;> omega) _) | (refine Below.setCell ?_ (by (try simp) <;> omega) _)))), old_cell l2 c2 (by (repeat (first | exact Below.refl _ _ | assumption | refine bchain (by assumption) ?_ | refine balloc ?_ _ | apply Below.drew | apply below_drewN | (refine Below.alloc ?_ (by (try simp) <;> omega) _) | (refine Below.setCell ?_ (by (try simp) <;> omega) _)))), old_cell l3 e1 (by (repeat (first | exact Below.refl _ _ | assumption | refine bchain (by assumption) ?_ | refine balloc ?_ _ | apply Below.drew | apply below_drewN | (refine Below.alloc ?_ (by (try simp) <;> omega) _) | (refine Below.setCell ?_ (by (try simp) <;> omega) _)))), old_cell l3 e2 (by (repeat (first | exact Below.refl _ _ | assumption | refine bchain (by assumption) ?_ | refine balloc ?_ _ | apply Below.drew | apply below_drewN | (refine Below.alloc ?_ (by (try simp) <;> omega) _) | (refine Below.setCell ?_ (by (try simp) <;> omega) _)))), old_cell l3 e3 (by (repeat (first | exact Below.refl _ _ | assumption | refine bchain (by assumption) ?_ | refine balloc ?_ _ | apply Below.drew | apply below_drewN | (refine Below.alloc ?_ (by (try simp) <;> omega) _) | (refine Below.setCell ?_ (by (try simp) <;> omega) _))))⟩)
      (first
        | (go_at_call 92; first | (with_reducible refine (hP1.out _ ?_).mono ?_; (· exact hB.out _ (by (repeat (first | exact Below.refl _ _ | assumption | refine bchain (by assumption) ?_ | refine balloc ?_ _ | apply Below.drew | apply below_drewN | (refine Below.alloc ?_ (by (try simp) <;> omega) _) | (refine Below.setCell ?_ (by (try simp) <;> omega) _))))); rintro r3 w3 ⟨rfl, hb3⟩; have hl3 := hlk1.out w3 (hB.out _ (by (repeat (first | exact Below.refl _ _ | assumption | refine bchain (by assumption) ?_ | refine balloc ?_ _ | apply Below.drew | apply below_drewN | (refine Below.alloc ?_ (by (try simp) <;> omega) _) | (refine Below.setCell ?_ (by (try simp) <;> omega) _)))))) | (with_reducible refine (hP2.out _ ?_).mono ?_; (· exact hB.out _ (by (repeat (first | exact Below.refl _ _ | assumption | refine bchain (by assumption) ?_ | refine balloc ?_ _ | apply Below.drew | apply below_drewN | (refine Below.alloc ?_ (by (try simp) <;> omega) _) | (refine Below.setCell ?_ (by (try simp) <;> omega) _))))); rintro r4 w4 ⟨rfl, hb4⟩; have hl4 := hlk2.out w4 (hB.out _ (by (repeat (first | exact Below.refl _ _ | assumption | refine bchain (by assumption) ?_ | refine balloc ?_ _ | apply Below.drew | apply below_drewN | (refine Below.alloc ?_ (by (try simp) <;> omega) _) | (refine Below.setCell ?_ (by (try simp) <;> omega) _)))))))
        | fail)
    all_goals
      go_wp2
      go_ret
      exact ⟨rfl, hB.out _ (by (repeat (first | exact Below.refl _ _ | assumption | refine bchain (by assumption) ?_ | refine balloc ?_ _ | apply Below.drew | apply below_drewN | (refine Below.alloc ?_ (by (try simp) <;> omega) _) | (refine Below.setCell ?_ (by (try simp) <;> omega) _))))⟩
  · go_enter Tryz.func91, Tryz.ntmps91
    go_wp2
    rw [← hW0]
    replace hW0 := Lib.hid hW0
    go_region_held3 (fun A => A.cell? ⟨w.heap.size, 0, none⟩ = some (.slice (some va1) m1 vc1) ∧ A.cell? ⟨w.heap.size, 1, none⟩ = some (.slice (some va2) m2 vc2) ∧ A.cell? ⟨B1, 0, none⟩ = some (.map (some M1)) ∧ A.cell? ⟨B2, 0, none⟩ = some (.map (some M2)) ∧ A.cell? ⟨Bf, 0, none⟩ = some (.int .i64 k) ∧ A.cell? ⟨Bf, 1, none⟩ = some (.int .i64 n) ∧ A.cell? ⟨Bf, 2, none⟩ = some (.int .u32 e))
      (exact ⟨old_cell gz g0 (by (repeat (first | exact Below.refl _ _ | assumption | refine bchain (by assumption) ?_ | refine balloc ?_ _ | apply Below.drew | apply below_drewN | (refine Below.alloc ?_ (by (try simp) <;> omega) _) | (refine Below.setCell ?_ (by (try simp) <;> omega) _)))), old_cell gz g1 (by (repeat (first | exact Below.refl _ _ | assumption | refine bchain (by assumption) ?_ | refine balloc ?_ _ | apply Below.drew | apply below_drewN | (refine Below.alloc ?_ (by (try simp) <;> omega) _) | (refine Below.setCell ?_ (by (try simp) <;> omega) _)))), old_cell l1 c1 (by (repeat (first | exact Below.refl _ _ | assumption | refine bchain (by assumption) ?_ | refine balloc ?_ _ | apply Below.drew | apply below_drewN | (refine Below.alloc ?_ (by (try simp) <;> omega) _) | (refine Below.setCell ?_ (by (try simp) <;> omega) _)))), old_cell l2 c2 (by (repeat (first | exact Below.refl _ _ | assumption | refine bchain (by assumption) ?_ | refine balloc ?_ _ | apply Below.drew | apply below_drewN | (refine Below.alloc ?_ (by (try simp) <;> omega) _) | (refine Below.setCell ?_ (by (try simp) <;> omega) _)))), old_cell l3 e1 (by (repeat (first | exact Below.refl _ _ | assumption | refine bchain (by assumption) ?_ | refine balloc ?_ _ | apply Below.drew | apply below_drewN | (refine Below.alloc ?_ (by (try simp) <;> omega) _) | (refine Below.setCell ?_ (by (try simp) <;> omega) _)))), old_cell l3 e2 (by (repeat (first | exact Below.refl _ _ | assumption | refine bchain (by assumption) ?_ | refine balloc ?_ _ | apply Below.drew | apply below_drewN | (refine Below.alloc ?_ (by (try simp) <;> omega) _) | (refine Below.setCell ?_ (by (try simp) <;> omega) _)))), old_cell l3 e3 (by (repeat (first | exact Below.refl _ _ | assumption | refine bchain (by assumption) ?_ | refine balloc ?_ _ | apply Below.drew | apply below_drewN | (refine Below.alloc ?_ (by (try simp) <;> omega) _) | (refine Below.setCell ?_ (by (try simp) <;> omega) _))))⟩)
      (first
        | (go_at_call 92; first | (with_reducible refine (hP1.out _ ?_).mono ?_; (· exact hB.out _ (by (repeat (first | exact Below.refl _ _ | assumption | refine bchain (by assumption) ?_ | refine balloc ?_ _ | apply Below.drew | apply below_drewN | (refine Below.alloc ?_ (by (try simp) <;> omega) _) | (refine Below.setCell ?_ (by (try simp) <;> omega) _))))); rintro r3 w3 ⟨rfl, hb3⟩; have hl3 := hlk1.out w3 (hB.out _ (by (repeat (first | exact Below.refl _ _ | assumption | refine bchain (by assumption) ?_ | refine balloc ?_ _ | apply Below.drew | apply below_drewN | (refine Below.alloc ?_ (by (try simp) <;> omega) _) | (refine Below.setCell ?_ (by (try simp) <;> omega) _)))))) | (with_reducible refine (hP2.out _ ?_).mono ?_; (· exact hB.out _ (by (repeat (first | exact Below.refl _ _ | assumption | refine bchain (by assumption) ?_ | refine balloc ?_ _ | apply Below.drew | apply below_drewN | (refine Below.alloc ?_ (by (try simp) <;> omega) _) | (refine Below.setCell ?_ (by (try simp) <;> omega) _))))); rintro r4 w4 ⟨rfl, hb4⟩; have hl4 := hlk2.out w4 (hB.out _ (by (repeat (first | exact Below.refl _ _ | assumption | refine bchain (by assumption) ?_ | refine balloc ?_ _ | apply Below.drew | apply below_drewN | (refine Below.alloc ?_ (by (try simp) <;> omega) _) | (refine Below.setCell ?_ (by (try simp) <;> omega) _)))))))
        | fail)
    go_wp2
    go_ret
    exact ⟨rfl, hB.out _ (by (repeat (first | exact Below.refl _ _ | assumption | refine bchain (by assumption) ?_ | refine balloc ?_ _ | apply Below.drew | apply below_drewN | (refine Below.alloc ?_ (by (try simp) <;> omega) _) | (refine Below.setCell ?_ (by (try simp) <;> omega) _))))⟩
end
end Go.Proofs.YtncbimbbkealmaaGreatDoor
/-
  How many pairs there are, and how many are counted: both sides' numbers are the same; there is a pair if there is room.
-/
namespace Go.Proofs.YtncbimbbkealmaaGreatDoor
open Go.RowKit Go.Shelf
set_option maxRecDepth 100000
theorem prsT_len (s : List Nat) (T : List (List Nat)) : (prsT s T).length = prA s T := by
  unfold prsT prA cntP
  rw [List.length_map, List.countP_eq_length_filter]
theorem prs_len (T : List (List Nat)) : ∀ L, (prs L T).length = jA L T
  | [] => rfl
  | s :: r => by simp only [prs, jA, List.length_append, prsT_len, prs_len T r]
theorem prsT_cnt (p1 p2 : List Nat → Bool) (s : List Nat) (T : List (List Nat)) : cntQ (fun p => p1 p.1 && p2 p.2) (prsT s T) = prN (p1 s) p2 s T := by
  unfold prsT prN cntP cntQ
  rw [List.countP_map, List.countP_filter]
  apply List.countP_congr
  intro t _
  simp [Bool.and_comm]
theorem prs_cnt (p1 p2 : List Nat → Bool) (T : List (List Nat)) : ∀ L, cntQ (fun p => p1 p.1 && p2 p.2) (prs L T) = jN p1 p2 L T
  | [] => rfl
  | s :: r => by
    have h1 := prsT_cnt p1 p2 s T
    have h2 := prs_cnt p1 p2 T r
    unfold cntQ at h1 h2 ⊢
    simp only [prs, jN, List.countP_append, h1, h2]
theorem mtB_shN (k : Nat) (x y : List Nat) : mtB (shN k x) (shN k y) = mtB x y := by
  unfold mtB shN
  rw [Bool.eq_iff_iff]
  simp only [List.any_eq_true, List.contains_iff_mem, List.mem_map]
  constructor
  · rintro ⟨a, ⟨u, hu, rfl⟩, v, hv, e⟩
    obtain rfl : v = u := by omega
    exact ⟨v, hu, hv⟩
  · rintro ⟨a, h1, h2⟩
    exact ⟨_, ⟨a, h1, rfl⟩, a, h2, rfl⟩
theorem prA_shN (k : Nat) (s : List Nat) (T : List (List Nat)) : prA (shN k s) (T.map (shN k)) = prA s T := by
  unfold prA cntP
  rw [List.countP_map]
  apply List.countP_congr
  intro t _
  simp [mtB_shN]
theorem jA_shN (k : Nat) (T : List (List Nat)) : ∀ L : List (List Nat), jA (L.map (shN k)) (T.map (shN k)) = jA L T
  | [] => rfl
  | s :: r => by simp only [List.map_cons, jA, prA_shN, jA_shN k T r]
theorem jA_room : ∀ d, d ≤ 5 → ∀ q1, q1 ≤ 5 → ∀ q2, q2 ≤ 5 → q1 + q2 ≤ d → 0 < jA (setsL d q1) (setsL d q2) := by decide +kernel
theorem jA_pos {k n q1 q2 : Nat} (hn : n ≤ 5) (h : k + q1 + q2 ≤ n) : 0 < jA ((setsL (n - k) q1).map (shN k)) ((setsL (n - k) q2).map (shN k)) := by
  rw [jA_shN]
  exact jA_room (n - k) (by omega) q1 (by omega) q2 (by omega) (by omega)
end Go.Proofs.YtncbimbbkealmaaGreatDoor
/-
  The density of two flags side by side: the program's jointDensity.
-/
namespace Go.Proofs.YtncbimbbkealmaaGreatDoor
open Go.RowKit Go.Shelf
set_option maxRecDepth 100000
attribute [local go_sem] Oper.semAt_some
theorem FSet.other {W : World} {B k n : Nat} {S : List Nat} (h : FSet W B k n S) {p : Addr} (hp : p.block ≠ B) (v : Value) : FSet (W.setCell p v) B k n S := h.of_block (Below.heap_setCell _ _ _ _ (fun c => hp c.symm))
theorem FSet.ne_cell {W : World} {B C o k n : Nat} {S : List Nat} {v : Value} (h : FSet W B k n S) (hc : W.cell? ⟨C, o, none⟩ = some v) : C ≠ B := fun e => by
  obtain ⟨_, _, _, es, c, hb, _⟩ := h
  subst e
  simp [World.cell?, hb] at hc
/-- the sets of both flags, the numbers, the fraction -/
def jSet (k n n0 : Nat) : List (List Nat) := (setsL (n - k) (n0 - k)).map (shN k)
def jdN (k n e n0 e0 m0 f0 : Nat) : Nat := jN (inB k e n0 (tE n0 k e0)) (inB k e m0 (tE m0 k f0)) (jSet k n n0) (jSet k n m0)
def jdA (k n n0 m0 : Nat) : Nat := jA (jSet k n n0) (jSet k n m0)
def jdF (k n e n0 e0 m0 f0 : Nat) : Int × Int := (Fr.low (jdN k n e n0 e0 m0 f0 : Nat) (jdA k n n0 m0 : Nat)).getD (0, 1)
theorem jSet_len {k n n0 : Nat} (hn : n ≤ 5) (hk0 : k ≤ n0) (hle : n0 ≤ n) : (jSet k n n0).length ≤ 10 := by
  unfold jSet
  rw [List.length_map]
  exact (sets_cnt (n - k) (by omega) (n0 - k) (by omega)).2
theorem prN_le_prA (b : Bool) (p : List Nat → Bool) (s : List Nat) (T : List (List Nat)) : prN b p s T ≤ prA s T := by
  unfold prN prA cntP
  apply List.countP_mono_left
  intro t _ h
  simp only [Bool.and_eq_true] at h
  exact h.1
theorem jN_le_jA (p1 p2 : List Nat → Bool) (T : List (List Nat)) : ∀ l, jN p1 p2 l T ≤ jA l T
  | [] => Nat.le_refl _
  | x :: r => by
    have := jN_le_jA p1 p2 T r
    have := prN_le_prA (p1 x) p2 x T
    simp only [jA, jN]; omega
theorem jd_low {k n n0 m0 : Nat} (e e0 f0 : Nat) (hn : n ≤ 5) (h0 : k ≤ n0) (h1 : k ≤ m0) (hle : n0 + m0 ≤ n + k) : jdN k n e n0 e0 m0 f0 ≤ jdA k n n0 m0 ∧ 0 < jdA k n n0 m0 ∧ jdA k n n0 m0 ≤ 320 ∧ Fr.low (jdN k n e n0 e0 m0 f0 : Nat) (jdA k n n0 m0 : Nat) = some ((jdF k n e n0 e0 m0 f0).1, (jdF k n e n0 e0 m0 f0).2) := by
  have a1 : 0 < jdA k n n0 m0 := jA_pos hn (by omega)
  have l1 := jSet_len hn h0 (show n0 ≤ n by omega)
  have l2 := jSet_len hn h1 (show m0 ≤ n by omega)
  have a2 := jA_le (jSet k n m0) (by omega) (jSet k n n0)
  have a3 : jdN k n e n0 e0 m0 f0 ≤ jdA k n n0 m0 := jN_le_jA _ _ _ _
  have a4 : jdA k n n0 m0 ≤ 320 := by unfold jdA; omega
  refine ⟨a3, a1, a4, ?_⟩
  obtain ⟨a, b, hl, _⟩ := Fr.low_at (X := jdN k n e n0 e0 m0 f0) (D := jdA k n n0 m0) (by omega) (by omega)
  unfold jdF
  rw [hl]
  rfl
theorem jd_vf {k n n0 m0 : Nat} (e e0 f0 : Nat) (hn : n ≤ 5) (h0 : k ≤ n0) (h1 : k ≤ m0) (hle : n0 + m0 ≤ n + k) : Fr.VF (jdF k n e n0 e0 m0 f0).1 (jdF k n e n0 e0 m0 f0).2 := by
  obtain ⟨_, h2, _, h4⟩ := jd_low e e0 f0 hn h0 h1 hle
  exact Fr.low_vf (by omega) h4
theorem prs_mem {T : List (List Nat)} {x : List Nat × List Nat} : ∀ {L : List (List Nat)}, x ∈ prs L T → x.1 ∈ L ∧ x.2 ∈ T
  | [], h => by cases h
  | s :: r, h => by
    simp only [prs, List.mem_append] at h
    rcases h with h | h
    · unfold prsT at h
      obtain ⟨t, ht, rfl⟩ := List.mem_map.1 h
      exact ⟨by simp, (List.mem_filter.1 ht).1⟩
    · have := prs_mem h
      exact ⟨by simp [this.1], this.2⟩
/-- a new box of one cell -/
structure Bx1 (W0 W : World) (B : Nat) (v : Value) : Prop where
  ge : W0.heap.size ≤ B
  lt : B < W.heap.size
  c : W.cell? ⟨B, 0, none⟩ = some v
  fz : W.frozen? ⟨B, 0, none⟩ = false
theorem Bx1.below {W0 W W' : World} {B : Nat} {v : Value} (h : Bx1 W0 W B v) (hb : Below W.heap.size W W') : Bx1 W0 W' B v :=
  ⟨h.ge, Nat.lt_of_lt_of_le h.lt hb.size, (hb.cell (p := ⟨B, 0, none⟩) h.lt).trans h.c, (hb.frozen (p := ⟨B, 0, none⟩) h.lt).trans h.fz⟩
theorem Bx1.put {W0 W : World} {B : Nat} {v : Value} (h : Bx1 W0 W B v) (u : Value) : Bx1 W0 (W.setCell ⟨B, 0, none⟩ u) B u :=
  ⟨h.ge, by simpa using h.lt, World.cell?_setCell_same _ _ _ h.c, by rw [World.frozen?_setCell]; exact h.fz⟩
theorem Bx1.other {W0 W : World} {B : Nat} {v : Value} (h : Bx1 W0 W B v) {a : Addr} (u : Value) (hp : a.block ≠ B) : Bx1 W0 (W.setCell a u) B v := by
  have hs : (W.setCell a u).heap[B]? = W.heap[B]? := Below.heap_setCell _ _ _ _ (fun c => hp c.symm)
  exact ⟨h.ge, by simpa using h.lt, (World.cell?_of_block (a := ⟨B, 0, none⟩) hs).trans h.c, by rw [World.frozen?_setCell]; exact h.fz⟩
theorem Bx1.made {W0 W : World} (hb : Below W0.heap.size W0 W) (v : Value) (t : TypeId) : Bx1 W0 (W.alloc (.cells #[v] t)) W.heap.size v :=
  ⟨hb.size, by simp, by rw [World.cell?_alloc_new]; rfl, by simp⟩
/-- what holds when the operations with the flags have come up -/
structure JJ (W0 : World) (FV HV : Value) (k n0 e0 m0 f0 : Nat) (f : Nat → Bool) (t7 t8 t9 t10 t11 t12 : Value) (W : World) : Prop where
  below : Below W0.heap.size W0 W
  h0 : f 0 = true → t9 = FV
  h1 : f 1 = true → ∃ M, t10 = .map (some M) ∧ FSet W M k n0 (tE n0 k e0)
  h2 : f 2 = true → t11 = HV
  h3 : f 3 = true → ∃ M, t12 = .map (some M) ∧ FSet W M k m0 (tE m0 k f0)
  h4 : f 4 = true → ∃ B, t7 = .pointer (some ⟨B, 0, none⟩) ∧ Bx1 W0 W B (if f 6 then t10 else .map none)
  h5 : f 5 = true → ∃ B, t8 = .pointer (some ⟨B, 0, none⟩) ∧ Bx1 W0 W B (if f 7 then t12 else .map none)
  hn : f 4 = true → f 5 = true → t7 ≠ t8
  d6 : f 6 = true → f 1 = true ∧ f 4 = true
  d7 : f 7 = true → f 3 = true ∧ f 5 = true
section
variable {W0 : World} {FV HV : Value} {k n0 e0 m0 f0 : Nat} {f : Nat → Bool} {t7 t8 t9 t10 t11 t12 : Value} {W : World}
theorem JJ.world (h : JJ W0 FV HV k n0 e0 m0 f0 f t7 t8 t9 t10 t11 t12 W) {W' : World} (hb : Below W.heap.size W W') : JJ W0 FV HV k n0 e0 m0 f0 f t7 t8 t9 t10 t11 t12 W' :=
  ⟨bchain hb h.below, h.h0, fun c => let ⟨M, e, q⟩ := h.h1 c; ⟨M, e, q.below hb⟩, h.h2, fun c => let ⟨M, e, q⟩ := h.h3 c; ⟨M, e, q.below hb⟩, fun c => let ⟨B, e, q⟩ := h.h4 c; ⟨B, e, q.below hb⟩, fun c => let ⟨B, e, q⟩ := h.h5 c; ⟨B, e, q.below hb⟩, h.hn, h.d6, h.d7⟩
theorem JJ.p0 (h : JJ W0 FV HV k n0 e0 m0 f0 f t7 t8 t9 t10 t11 t12 W) : JJ W0 FV HV k n0 e0 m0 f0 (setf f 0) t7 t8 FV t10 t11 t12 W :=
  ⟨h.below, fun _ => rfl, fun c => h.h1 c, fun c => h.h2 c, fun c => h.h3 c, fun c => h.h4 c, fun c => h.h5 c, fun c d => h.hn c d, fun c => h.d6 c, fun c => h.d7 c⟩
theorem JJ.p2 (h : JJ W0 FV HV k n0 e0 m0 f0 f t7 t8 t9 t10 t11 t12 W) : JJ W0 FV HV k n0 e0 m0 f0 (setf f 2) t7 t8 t9 t10 HV t12 W :=
  ⟨h.below, fun c => h.h0 c, fun c => h.h1 c, fun _ => rfl, fun c => h.h3 c, fun c => h.h4 c, fun c => h.h5 c, fun c d => h.hn c d, fun c => h.d6 c, fun c => h.d7 c⟩
theorem JJ.p1 (h : JJ W0 FV HV k n0 e0 m0 f0 f t7 t8 t9 t10 t11 t12 W) (hf : f 1 = false) {M : Nat} (hM : FSet W M k n0 (tE n0 k e0)) : JJ W0 FV HV k n0 e0 m0 f0 (setf f 1) t7 t8 t9 (.map (some M)) t11 t12 W := by
  have h6 : ¬ f 6 = true := fun c => by have := (h.d6 c).1; rw [hf] at this; cases this
  refine ⟨h.below, fun c => h.h0 c, fun _ => ⟨M, rfl, hM⟩, fun c => h.h2 c, fun c => h.h3 c, fun c => ?_, fun c => h.h5 c, fun c d => h.hn c d, fun c => ⟨rfl, (h.d6 c).2⟩, fun c => h.d7 c⟩
  obtain ⟨B, e, q⟩ := h.h4 c
  refine ⟨B, e, ?_⟩
  rw [if_neg h6] at q
  show Bx1 W0 W B (if f 6 then _ else _)
  rw [if_neg h6]
  exact q
theorem JJ.p3 (h : JJ W0 FV HV k n0 e0 m0 f0 f t7 t8 t9 t10 t11 t12 W) (hf : f 3 = false) {M : Nat} (hM : FSet W M k m0 (tE m0 k f0)) : JJ W0 FV HV k n0 e0 m0 f0 (setf f 3) t7 t8 t9 t10 t11 (.map (some M)) W := by
  have h7 : ¬ f 7 = true := fun c => by have := (h.d7 c).1; rw [hf] at this; cases this
  refine ⟨h.below, fun c => h.h0 c, fun c => h.h1 c, fun c => h.h2 c, fun _ => ⟨M, rfl, hM⟩, fun c => h.h4 c, fun c => ?_, fun c d => h.hn c d, fun c => h.d6 c, fun c => ⟨rfl, (h.d7 c).2⟩⟩
  obtain ⟨B, e, q⟩ := h.h5 c
  refine ⟨B, e, ?_⟩
  rw [if_neg h7] at q
  show Bx1 W0 W B (if f 7 then _ else _)
  rw [if_neg h7]
  exact q
theorem JJ.a4 (h : JJ W0 FV HV k n0 e0 m0 f0 f t7 t8 t9 t10 t11 t12 W) (hf : f 4 = false) (t : TypeId) : JJ W0 FV HV k n0 e0 m0 f0 (setf f 4) (.pointer (some ⟨W.heap.size, 0, none⟩)) t8 t9 t10 t11 t12 (W.alloc (.cells #[.map none] t)) := by
  have hb : Below W.heap.size W (W.alloc (.cells #[.map none] t)) := balloc (Below.refl _ _) _
  have h6 : ¬ f 6 = true := fun c => by have := (h.d6 c).2; rw [hf] at this; cases this
  have k := h.world hb
  refine ⟨k.below, fun c => k.h0 c, fun c => k.h1 c, fun c => k.h2 c, fun c => k.h3 c, fun _ => ⟨W.heap.size, rfl, ?_⟩, fun c => k.h5 c, fun _ c e => ?_, fun c => ⟨(k.d6 c).1, rfl⟩, fun c => k.d7 c⟩
  · show Bx1 W0 _ _ (if f 6 then _ else _)
    rw [if_neg h6]
    exact Bx1.made h.below _ _
  · obtain ⟨C, e2, q⟩ := h.h5 c
    rw [e2] at e
    injection e with e
    injection e with e
    injection e with e
    have := q.lt
    omega
theorem JJ.a5 (h : JJ W0 FV HV k n0 e0 m0 f0 f t7 t8 t9 t10 t11 t12 W) (hf : f 5 = false) (t : TypeId) : JJ W0 FV HV k n0 e0 m0 f0 (setf f 5) t7 (.pointer (some ⟨W.heap.size, 0, none⟩)) t9 t10 t11 t12 (W.alloc (.cells #[.map none] t)) := by
  have hb : Below W.heap.size W (W.alloc (.cells #[.map none] t)) := balloc (Below.refl _ _) _
  have h7 : ¬ f 7 = true := fun c => by have := (h.d7 c).2; rw [hf] at this; cases this
  have k := h.world hb
  refine ⟨k.below, fun c => k.h0 c, fun c => k.h1 c, fun c => k.h2 c, fun c => k.h3 c, fun c => k.h4 c, fun _ => ⟨W.heap.size, rfl, ?_⟩, fun c _ e => ?_, fun c => k.d6 c, fun c => ⟨(k.d7 c).1, rfl⟩⟩
  · show Bx1 W0 _ _ (if f 7 then _ else _)
    rw [if_neg h7]
    exact Bx1.made h.below _ _
  · obtain ⟨C, e2, q⟩ := h.h4 c
    rw [e2] at e
    injection e with e
    injection e with e
    injection e with e
    have := q.lt
    omega
theorem JJ.s6 (h : JJ W0 FV HV k n0 e0 m0 f0 f t7 t8 t9 t10 t11 t12 W) (g1 : f 1 = true) (g4 : f 4 = true) {B : Nat} {v : Value} (ee : t7 = .pointer (some ⟨B, 0, none⟩)) (k0 : Bx1 W0 W B v) : JJ W0 FV HV k n0 e0 m0 f0 (setf f 6) t7 t8 t9 t10 t11 t12 (W.setCell ⟨B, 0, none⟩ t10) := by
  refine ⟨h.below.setCell (p := ⟨B, 0, none⟩) k0.ge _, fun c => h.h0 c, fun c => let ⟨M, e, q⟩ := h.h1 c; ⟨M, e, q.other (p := ⟨B, 0, none⟩) (q.ne_cell k0.c) _⟩, fun c => h.h2 c, fun c => let ⟨M, e, q⟩ := h.h3 c; ⟨M, e, q.other (p := ⟨B, 0, none⟩) (q.ne_cell k0.c) _⟩, fun _ => ⟨B, ee, k0.put _⟩, fun c => ?_, fun c d => h.hn c d, fun _ => ⟨g1, g4⟩, fun c => h.d7 c⟩
  obtain ⟨C, e2, q⟩ := h.h5 c
  exact ⟨C, e2, q.other (a := ⟨B, 0, none⟩) _ (fun e => h.hn g4 c (by rw [ee, e2]; dsimp only at e; rw [e]))⟩
theorem JJ.s7 (h : JJ W0 FV HV k n0 e0 m0 f0 f t7 t8 t9 t10 t11 t12 W) (g3 : f 3 = true) (g5 : f 5 = true) {B : Nat} {v : Value} (ee : t8 = .pointer (some ⟨B, 0, none⟩)) (k0 : Bx1 W0 W B v) : JJ W0 FV HV k n0 e0 m0 f0 (setf f 7) t7 t8 t9 t10 t11 t12 (W.setCell ⟨B, 0, none⟩ t12) := by
  refine ⟨h.below.setCell (p := ⟨B, 0, none⟩) k0.ge _, fun c => h.h0 c, fun c => let ⟨M, e, q⟩ := h.h1 c; ⟨M, e, q.other (p := ⟨B, 0, none⟩) (q.ne_cell k0.c) _⟩, fun c => h.h2 c, fun c => let ⟨M, e, q⟩ := h.h3 c; ⟨M, e, q.other (p := ⟨B, 0, none⟩) (q.ne_cell k0.c) _⟩, fun c => ?_, fun _ => ⟨B, ee, k0.put _⟩, fun c d => h.hn c d, fun c => h.d6 c, fun _ => ⟨g3, g5⟩⟩
  obtain ⟨C, e2, q⟩ := h.h4 c
  exact ⟨C, e2, q.other (a := ⟨B, 0, none⟩) _ (fun e => h.hn c g5 (by rw [ee, e2]; dsimp only at e; rw [e]))⟩
end
section
variable (w : World)
theorem sp_any (k n e q1 q2 : Nat) :
    Calls Tryz.prog 90 #[.agg #[.int .i64 k, .int .i64 n, .int .u32 e], .int .i64 q1, .int .i64 q2] w fun r w' => ∃ B, r = .returned (.func (.func 109) #[] #[.pointer (some ⟨B, 0, none⟩), .pointer (some ⟨B + 1, 0, none⟩), .pointer (some ⟨B + 2, 0, none⟩)]) ∧ w.heap.size ≤ B ∧ B + 2 < w'.heap.size ∧
      FC w' B k n e ∧ w'.cell? ⟨B + 1, 0, none⟩ = some (.int .i64 q1) ∧ w'.cell? ⟨B + 2, 0, none⟩ = some (.int .i64 q2) ∧ Below w.heap.size w w' := by
  have s1 : ∀ (W : World) (o : Obj), (W.alloc o).heap.size = W.heap.size + 1 := fun W o => by simp
  have hF := FC.made w k n e 43
  have hF2 : FC (((w.alloc (.cells #[.int .i64 k, .int .i64 n, .int .u32 e] 43)).alloc (.cells #[.int .i64 q1] 2)).alloc (.cells #[.int .i64 q2] 2)) w.heap.size k n e := (hF.below (balloc (Below.refl _ _) _)).below (balloc (Below.refl _ _) _)
  replace hF2 := Lib.hid hF2
  replace s1 := Lib.hid s1
  clear hF
  go_enter Tryz.func90, Tryz.ntmps90
  go_wp2
  go_ret
  refine ⟨w.heap.size, rfl, Nat.le_refl _, by rw [s1.out, s1.out, s1.out]; omega, hF2.out, ?_, ?_, by (repeat (first | exact Below.refl _ _ | assumption | refine bchain (by assumption) ?_ | refine balloc ?_ _ | apply Below.drew | apply below_drewN | (refine Below.alloc ?_ (by (try simp) <;> omega) _) | (refine Below.setCell ?_ (by (try simp) <;> omega) _)))⟩
  · rw [cOld _ _ _ _ (by rw [s1.out, s1.out]; omega), cNew _ _ _ _ _ (by rw [s1.out])]; rfl
  · rw [cNew _ _ _ _ _ (by rw [s1.out, s1.out])]; rfl
end
/-- three flags' boxes and a result's, as a region reads them -/
def J0S (G : Nat) (k0 n0 e0 k1 n1 e1 k n e : Int) (A : World) : Prop := A.cell? ⟨G, 0, none⟩ = some (.int .i64 k0) ∧ A.cell? ⟨G, 1, none⟩ = some (.int .i64 n0) ∧ A.cell? ⟨G, 2, none⟩ = some (.int .u32 e0) ∧ A.cell? ⟨G + 1, 0, none⟩ = some (.int .i64 k1) ∧ A.cell? ⟨G + 1, 1, none⟩ = some (.int .i64 n1) ∧ A.cell? ⟨G + 1, 2, none⟩ = some (.int .u32 e1) ∧ A.cell? ⟨G + 2, 0, none⟩ = some (.int .i64 k) ∧ A.cell? ⟨G + 2, 1, none⟩ = some (.int .i64 n) ∧ A.cell? ⟨G + 2, 2, none⟩ = some (.int .u32 e) ∧
  A.cell? ⟨G + 3, 0, none⟩ = some (cellAt A ⟨G + 3, 0, none⟩) ∧ A.cell? ⟨G + 3, 1, none⟩ = some (cellAt A ⟨G + 3, 1, none⟩) ∧ A.frozen? ⟨G + 3, 0, none⟩ = false ∧ A.frozen? ⟨G + 3, 1, none⟩ = false
theorem J0.s {w : World} {G : Nat} {k0 n0 e0 k1 n1 e1 k n e : Int} (h : J0 w G k0 n0 e0 k1 n1 e1 k n e) : J0S G k0 n0 e0 k1 n1 e1 k n e w := ⟨h.f.c0, h.f.c1, h.f.c2, h.h.c0, h.h.c1, h.h.c2, h.g.c0, h.g.c1, h.g.c2, cellAt_of h.r.c0, cellAt_of h.r.c1, h.r.fz 0, h.r.fz 1⟩
theorem J0.held {w W S : World} {G : Nat} {k0 n0 e0 k1 n1 e1 k n e : Int} {x y : Int} (h : J0 w G k0 n0 e0 k1 n1 e1 k n e) (hb : Below w.heap.size w W) (hS : S = (W.setCell ⟨G + 3, 0, none⟩ (.int .i64 x)).setCell ⟨G + 3, 1, none⟩ (.int .i64 y)) : J0S G k0 n0 e0 k1 n1 e1 k n e S := by
  have q := h.below hb
  subst hS
  have f1 := (q.f.other (p := ⟨G + 3, 0, none⟩) (.int .i64 x) (by show G + 3 ≠ G; omega)).other (p := ⟨G + 3, 1, none⟩) (.int .i64 y) (by show G + 3 ≠ G; omega)
  have g1 := (q.h.other (p := ⟨G + 3, 0, none⟩) (.int .i64 x) (by show G + 3 ≠ G + 1; omega)).other (p := ⟨G + 3, 1, none⟩) (.int .i64 y) (by show G + 3 ≠ G + 1; omega)
  have g2 := (q.g.other (p := ⟨G + 3, 0, none⟩) (.int .i64 x) (by show G + 3 ≠ G + 2; omega)).other (p := ⟨G + 3, 1, none⟩) (.int .i64 y) (by show G + 3 ≠ G + 2; omega)
  have r1 := q.r.put x y
  exact ⟨f1.c0, f1.c1, f1.c2, g1.c0, g1.c1, g1.c2, g2.c0, g2.c1, g2.c2, cellAt_of r1.c0, cellAt_of r1.c1, r1.fz 0, r1.fz 1⟩
section
variable (w : World)
set_option maxHeartbeats 8000000 in
/-- the program's jointDensity -/
theorem ijd_any (k n e n0 e0 m0 f0 : Nat) (h : VK k n e) (h0 : VK k n0 e0) (h1 : VK k m0 f0) (hle : n0 + m0 ≤ n + k) (hT : TabZ w) :
    Calls Tryz.prog 69 #[.agg #[.int .i64 k, .int .i64 n0, .int .u32 e0], .agg #[.int .i64 k, .int .i64 m0, .int .u32 f0], .agg #[.int .i64 k, .int .i64 n, .int .u32 e]] w
      fun r w' => r = .returned (.agg #[.int .i64 (jdF k n e n0 e0 m0 f0).1, .int .i64 (jdF k n e n0 e0 m0 f0).2]) ∧ Below w.heap.size w w' := by
  obtain ⟨he, hn5, hk3, hkn⟩ := h.nums
  obtain ⟨_, hn05, _, hkn0⟩ := h0.nums
  obtain ⟨_, hm05, _, hkm0⟩ := h1.nums
  obtain ⟨l1, l2, l3, l4⟩ := jd_low e e0 f0 hn5 hkn0 hkm0 hle
  have hFa := Lib.hid (fun W => fa_any W k n0 e0 h0)
  have hFb := Lib.hid (fun W => fa_any W k m0 f0 h1)
  obtain ⟨q1, hq1⟩ : ∃ q, n0 - k = q := ⟨_, rfl⟩
  obtain ⟨q2, hq2⟩ : ∃ q, m0 - k = q := ⟨_, rfl⟩
  have hn0q : k + q1 = n0 := by omega
  have hm0q : k + q2 = m0 := by omega
  have hU1 := Lib.hid (fun W => (show Calls Tryz.prog 22 #[.agg #[.int .i64 k, .int .i64 n0, .int .u32 e0]] W fun r w' => r = .returned (.int .i64 (q1 : Int)) ∧ Below W.heap.size W w' from by
    have := unl_any W k n0 e0 hkn0 (by omega)
    rwa [hq1] at this))
  have hU2 := Lib.hid (fun W => (show Calls Tryz.prog 22 #[.agg #[.int .i64 k, .int .i64 m0, .int .u32 f0]] W fun r w' => r = .returned (.int .i64 (q2 : Int)) ∧ Below W.heap.size W w' from by
    have := unl_any W k m0 f0 hkm0 (by omega)
    rwa [hq2] at this))
  have hSp := Lib.hid (fun W => sp_any W k n e q1 q2)
  have hL1 : (setsL (n - k) q1).map (shN k) = jSet k n n0 := by unfold jSet; rw [hq1]
  have hL2 : (setsL (n - k) q2).map (shN k) = jSet k n m0 := by unfold jSet; rw [hq2]
  have hlen : (prs (jSet k n n0) (jSet k n m0)).length = jdA k n n0 m0 := prs_len _ _
  have hcnt : cntQ (fun p => inB k e n0 (tE n0 k e0) p.1 && inB k e m0 (tE m0 k f0) p.2) (prs (jSet k n n0) (jSet k n m0)) = jdN k n e n0 e0 m0 f0 := prs_cnt _ _ _ _
  have hCn := Lib.hid (fun (W : World) (M1 M2 B Bw Bf Bx : Nat) (hB : FC W B k n e) (hBa : W.cell? ⟨B + 1, 0, none⟩ = some (.int .i64 q1)) (hBb : W.cell? ⟨B + 2, 0, none⟩ = some (.int .i64 q2)) (hT : TabZ W) (hF : FC W Bf k n e) (hc1 : W.cell? ⟨Bw, 0, none⟩ = some (.map (some M1))) (hM1 : FSet W M1 k n0 (tE n0 k e0)) (hc2 : W.cell? ⟨Bx, 0, none⟩ = some (.map (some M2))) (hM2 : FSet W M2 k m0 (tE m0 k f0)) =>
    (show Calls Tryz.prog 89 #[.func (.func 109) #[] #[.pointer (some ⟨B, 0, none⟩), .pointer (some ⟨B + 1, 0, none⟩), .pointer (some ⟨B + 2, 0, none⟩)], .func (.func 91) #[] #[.pointer (some ⟨Bw, 0, none⟩), .pointer (some ⟨Bf, 0, none⟩), .pointer (some ⟨Bx, 0, none⟩)]] W
      fun r w' => r = .returned (.tuple #[.int .i64 (jdN k n e n0 e0 m0 f0 : Nat), .int .i64 (jdA k n n0 m0 : Nat)]) ∧ Below W.heap.size W w' from by
      have := cnq_any W k n e q1 q2 B Bw Bf Bx (fun p => inB k e n0 (tE n0 k e0) p.1 && inB k e m0 (tE m0 k f0) p.2) (jSet k n n0) (jSet k n m0) hL1 hL2 hn5 hkn (by rw [hlen]; omega) hB hBa hBb hT (fun A x v hA hS hx => by
        obtain ⟨hx1, hx2⟩ := prs_mem hx
        rw [← hL1] at hx1
        rw [← hL2] at hx2
        obtain ⟨y1, hy1, e1⟩ := List.mem_map.1 hx1
        obtain ⟨y2, hy2, e2⟩ := List.mem_map.1 hx2
        obtain ⟨a1, b1⟩ := cf_mem hn5 hkn hy1
        obtain ⟨a2, b2⟩ := cf_mem hn5 hkn hy2
        rw [e1] at b1
        rw [e2] at b2
        have g1 : x.1.length = q1 := by rw [← e1, shN_length]; exact a1
        have g2 : x.2.length = q2 := by rw [← e2, shN_length]; exact a2
        have hcl1 := World.block_lt_of_cell? W _ hc1
        have hcl2 := World.block_lt_of_cell? W _ hc2
        have := jd1_any A k n e q1 q2 M1 M2 (tE n0 k e0) (tE m0 k f0) x v Bw Bf Bx h (hF.below hA) ((hA.cell (p := ⟨Bw, 0, none⟩) hcl1).trans hc1) (by rw [hn0q]; exact hM1.below hA) ((hA.cell (p := ⟨Bx, 0, none⟩) hcl2).trans hc2) (by rw [hm0q]; exact hM2.below hA) hS g1 g2 b1 b2
        rwa [hn0q, hm0q] at this)
      rwa [hcnt, hlen] at this))
  have hQ := Lib.hid (fun W => Fr.q_any W (jdN k n e n0 e0 m0 f0 : Nat) (jdA k n n0 m0 : Nat) (by omega) (by omega) (by omega))
  rw [l4] at hQ
  simp only [Fr.qe, Fr.fv] at hQ
  obtain ⟨x, hx⟩ : ∃ x, (jdF k n e n0 e0 m0 f0).1 = x := ⟨_, rfl⟩
  obtain ⟨y, hy⟩ : ∃ x, (jdF k n e n0 e0 m0 f0).2 = x := ⟨_, rfl⟩
  rw [hx, hy] at hQ ⊢
  obtain ⟨a, ha⟩ : ∃ x, jdN k n e n0 e0 m0 f0 = x := ⟨_, rfl⟩
  obtain ⟨b, hb⟩ : ∃ x, jdA k n n0 m0 = x := ⟨_, rfl⟩
  rw [ha, hb] at hCn hQ
  have kk0 := Lib.hid (j0_made w k n0 e0 k m0 f0 k n e)
  have kT := Lib.hid (fun A (hA : Below w.heap.size w A) => hT.below hA)
  clear l1 l2 l3 l4 hx hy ha hb hT hlen hcnt hL1 hL2 hq1 hq2 hn0q hm0q h h0 h1 he hle
  obtain ⟨W0, hW0⟩ : ∃ W0, W0 = (((w.alloc (.cells #[.int .i64 (k : Int), .int .i64 (n0 : Int), .int .u32 (e0 : Int)] 43)).alloc (.cells #[.int .i64 (k : Int), .int .i64 (m0 : Int), .int .u32 (f0 : Int)] 43)).alloc (.cells #[.int .i64 (k : Int), .int .i64 (n : Int), .int .u32 (e : Int)] 43)).alloc (.cells #[.int .i64 0, .int .i64 0] 51) := ⟨_, rfl⟩
  rw [← hW0] at kk0
  have hb0 : Below w.heap.size w W0 := by rw [hW0]; (repeat (first | exact Below.refl _ _ | assumption | refine bchain (by assumption) ?_ | refine balloc ?_ _ | apply Below.drew | apply below_drewN | (refine Below.alloc ?_ (by (try simp) <;> omega) _) | (refine Below.setCell ?_ (by (try simp) <;> omega) _)))
  obtain ⟨a0, a1, a2, a3⟩ := id kk0.out.f
  obtain ⟨b0, b1, b2, b3⟩ := id kk0.out.h
  replace hW0 := Lib.hid hW0
  go_enter Tryz.func69, Tryz.ntmps69
  go_upto_region 1 with fail
  rw [← hW0.out]
  go_cut [7, 8] (fun s7 s8 wx => ∃ B1 B2 M1 M2 : Nat, s7 = .pointer (some ⟨B1, 0, none⟩) ∧ s8 = .pointer (some ⟨B2, 0, none⟩) ∧ Below W0.heap.size W0 wx ∧ wx.cell? ⟨B1, 0, none⟩ = some (.map (some M1)) ∧ wx.cell? ⟨B2, 0, none⟩ = some (.map (some M2)) ∧ FSet wx M1 k n0 (tE n0 k e0) ∧ FSet wx M2 k m0 (tE m0 k f0))
  case first =>
    refine wp_region_inv (fun f ac W => ∃ t7 t8 t9 t10 t11 t12, ac = { tmps := #[.agg #[.int .i64 k, .int .i64 n0, .int .u32 e0], .agg #[.int .i64 k, .int .i64 m0, .int .u32 f0], .agg #[.int .i64 k, .int .i64 n, .int .u32 e], .pointer (some ⟨w.heap.size, 0, none⟩), .pointer (some ⟨w.heap.size + 1, 0, none⟩), .pointer (some ⟨w.heap.size + 1 + 1, 0, none⟩), .pointer (some ⟨w.heap.size + 1 + 1 + 1, 0, none⟩), t7, t8, t9, t10, t11, t12, undef, undef, undef, undef, undef, undef, undef, undef, undef, undef, undef], defers := [] } ∧ JJ W0 (.agg #[.int .i64 k, .int .i64 n0, .int .u32 e0]) (.agg #[.int .i64 k, .int .i64 m0, .int .u32 f0]) k n0 e0 m0 f0 f t7 t8 t9 t10 t11 t12 W) (by kernel_rfl) (by kernel_rfl) ?start ?step ?last
    case start => exact ⟨_, _, _, _, _, _, rfl, (Below.refl _ W0).drew, fun c => (by cases c), fun c => (by cases c), fun c => (by cases c), fun c => (by cases c), fun c => (by cases c), fun c => (by cases c), fun c => (by cases c), fun c => (by cases c), fun c => (by cases c)⟩
    case step =>
      intro i o f ac W ho hf hdep hI
      obtain ⟨t7, t8, t9, t10, t11, t12, rfl, hJ⟩ := hI
      have hi : i < 8 := (Array.getElem?_eq_some_iff.1 ho).1
      have hc : i = 0 ∨ i = 1 ∨ i = 2 ∨ i = 3 ∨ i = 4 ∨ i = 5 ∨ i = 6 ∨ i = 7 := by omega
      clear hi
      rcases hc with rfl | rfl | rfl | rfl | rfl | rfl | rfl | rfl
      · obtain rfl := Option.some.inj ho
        obtain ⟨_, x0, x1, x2⟩ := (kk0.out.below hJ.below).f
        refine wpOp_step rfl (fun K hK => ?_)
        go_simp
        exact hK _ _ ⟨_, _, _, _, _, _, rfl, hJ.p0⟩
      · obtain rfl := Option.some.inj ho
        have e0 : f 0 = true := hdep ⟨0, .data⟩ (by simp) (by decide)
        obtain rfl := hJ.h0 e0
        refine wpOp_step rfl (fun K hK => ?_)
        go_simp
        go_wp2_with (go_at_call 88; refine (hFa.out _).mono ?_; rintro r3 w3 ⟨⟨M, rfl, hMg, hM⟩, hb3⟩)
        exact ⟨_, _, _, _, _, _, rfl, (hJ.world hb3).p1 hf hM⟩
      · obtain rfl := Option.some.inj ho
        obtain ⟨_, x0, x1, x2⟩ := (kk0.out.below hJ.below).h
        refine wpOp_step rfl (fun K hK => ?_)
        go_simp
        exact hK _ _ ⟨_, _, _, _, _, _, rfl, hJ.p2⟩
      · obtain rfl := Option.some.inj ho
        have e2 : f 2 = true := hdep ⟨2, .data⟩ (by simp) (by decide)
        obtain rfl := hJ.h2 e2
        refine wpOp_step rfl (fun K hK => ?_)
        go_simp
        go_wp2_with (go_at_call 88; refine (hFb.out _).mono ?_; rintro r3 w3 ⟨⟨M, rfl, hMg, hM⟩, hb3⟩)
        exact ⟨_, _, _, _, _, _, rfl, (hJ.world hb3).p3 hf hM⟩
      · obtain rfl := Option.some.inj ho
        refine wpOp_step rfl (fun K hK => ?_)
        go_simp
        exact hK _ _ ⟨_, _, _, _, _, _, rfl, hJ.a4 hf _⟩
      · obtain rfl := Option.some.inj ho
        refine wpOp_step rfl (fun K hK => ?_)
        go_simp
        exact hK _ _ ⟨_, _, _, _, _, _, rfl, hJ.a5 hf _⟩
      · obtain rfl := Option.some.inj ho
        have e4 : f 4 = true := hdep ⟨4, .data⟩ (by simp) (by decide)
        have e1 : f 1 = true := hdep ⟨1, .data⟩ (by simp) (by decide)
        obtain ⟨B, rfl, k0⟩ := hJ.h4 e4
        obtain ⟨M, rfl, _⟩ := hJ.h1 e1
        have z0 := k0.c
        have zf := k0.fz
        refine wpOp_step rfl (fun K hK => ?_)
        go_simp
        exact hK _ _ ⟨_, _, _, _, _, _, rfl, hJ.s6 e1 e4 rfl k0⟩
      · obtain rfl := Option.some.inj ho
        have e5 : f 5 = true := hdep ⟨5, .data⟩ (by simp) (by decide)
        have e3 : f 3 = true := hdep ⟨3, .data⟩ (by simp) (by decide)
        obtain ⟨B, rfl, k0⟩ := hJ.h5 e5
        obtain ⟨M, rfl, _⟩ := hJ.h3 e3
        have z0 := k0.c
        have zf := k0.fz
        refine wpOp_step rfl (fun K hK => ?_)
        go_simp
        exact hK _ _ ⟨_, _, _, _, _, _, rfl, hJ.s7 e3 e5 rfl k0⟩
    case last =>
      intro f ac W hall hI
      obtain ⟨t7, t8, t9, t10, t11, t12, rfl, hJ⟩ := hI
      obtain ⟨M1, rfl, hM1⟩ := hJ.h1 (hall 1 (show 1 < 8 by decide))
      obtain ⟨M2, rfl, hM2⟩ := hJ.h3 (hall 3 (show 3 < 8 by decide))
      obtain ⟨B1, rfl, hB1⟩ := hJ.h4 (hall 4 (show 4 < 8 by decide))
      obtain ⟨B2, rfl, hB2⟩ := hJ.h5 (hall 5 (show 5 < 8 by decide))
      rw [if_pos (hall 6 (show 6 < 8 by decide))] at hB1
      rw [if_pos (hall 7 (show 7 < 8 by decide))] at hB2
      have hbw := hJ.below
      go_wp2_with fail
      go_meet
      exact ⟨_, _, _, _, rfl, rfl, hbw, hB1.c, hB2.c, hM1, hM2⟩
  case rest =>
    obtain ⟨B1, B2, M1, M2, rfl, rfl, hbc, c1, c2, hM1, hM2⟩ := hcut
    have kk := Lib.hid (kk0.out.below hbc)
    have hbw := bchain hbc hb0
    have hcl1 := World.block_lt_of_cell? wc _ c1
    have hcl2 := World.block_lt_of_cell? wc _ c2
    have kC1 := Lib.hid (fun A (hA : Below wc.heap.size wc A) => (hA.cell (p := ⟨B1, 0, none⟩) hcl1).trans c1)
    have kC2 := Lib.hid (fun A (hA : Below wc.heap.size wc A) => (hA.cell (p := ⟨B2, 0, none⟩) hcl2).trans c2)
    have kM1 := Lib.hid (fun A (hA : Below wc.heap.size wc A) => hM1.below hA)
    have kM2 := Lib.hid (fun A (hA : Below wc.heap.size wc A) => hM2.below hA)
    have kG := Lib.hid (fun A (hA : Below wc.heap.size wc A) => (kk.out.below hA).g)
    have kTT := Lib.hid (fun A (hA : Below wc.heap.size wc A) => kT.out A (bchain hA hbw))
    clear c1 c2 hM1 hM2 a0 a1 a2 a3 b0 b1 b2 b3 hFa hFb kk0 hbc
    obtain ⟨a0, a1, a2, a3⟩ := id kk.out.f
    obtain ⟨b0, b1, b2, b3⟩ := id kk.out.h
    obtain ⟨d0, d1, d2, d3⟩ := id kk.out.g
    obtain ⟨_, z0, z1, z2⟩ := id kk.out.r
    have z20 := z2 0
    have z21 := z2 1
    rw [show (w.heap.size + 1 + 1 + 1 : Nat) = w.heap.size + 3 by omega, show (w.heap.size + 1 + 1 : Nat) = w.heap.size + 2 by omega]
    go_wp2
    go_region_held3 (fun A => A.cell? ⟨w.heap.size, 0, none⟩ = some (.int .i64 k) ∧ A.cell? ⟨w.heap.size, 1, none⟩ = some (.int .i64 n0) ∧ A.cell? ⟨w.heap.size, 2, none⟩ = some (.int .u32 e0) ∧ A.cell? ⟨w.heap.size + 1, 0, none⟩ = some (.int .i64 k) ∧ A.cell? ⟨w.heap.size + 1, 1, none⟩ = some (.int .i64 m0) ∧ A.cell? ⟨w.heap.size + 1, 2, none⟩ = some (.int .u32 f0) ∧ A.cell? ⟨w.heap.size + 2, 0, none⟩ = some (.int .i64 k) ∧ A.cell? ⟨w.heap.size + 2, 1, none⟩ = some (.int .i64 n) ∧ A.cell? ⟨w.heap.size + 2, 2, none⟩ = some (.int .u32 e) ∧ A.cell? ⟨w.heap.size + 3, 0, none⟩ = some (cellAt A ⟨w.heap.size + 3, 0, none⟩) ∧ A.cell? ⟨w.heap.size + 3, 1, none⟩ = some (cellAt A ⟨w.heap.size + 3, 1, none⟩) ∧ A.frozen? ⟨w.heap.size + 3, 0, none⟩ = false ∧ A.frozen? ⟨w.heap.size + 3, 1, none⟩ = false)
      (first | exact kk.out.held (by (repeat (first | exact Below.refl _ _ | assumption | refine bchain (by assumption) ?_ | refine balloc ?_ _ | apply Below.drew | apply below_drewN | (refine Below.alloc ?_ (by (try simp) <;> omega) _) | (refine Below.setCell ?_ (by (try simp) <;> omega) _)))) rfl | exact (kk.out.below (by (repeat (first | exact Below.refl _ _ | assumption | refine bchain (by assumption) ?_ | refine balloc ?_ _ | apply Below.drew | apply below_drewN | (refine Below.alloc ?_ (by (try simp) <;> omega) _) | (refine Below.setCell ?_ (by (try simp) <;> omega) _))))).s)
      (first
        | (go_at_call 22; first | (with_reducible refine (hU1.out _).mono ?_; rintro r3 w3 ⟨rfl, hb3⟩) | (with_reducible refine (hU2.out _).mono ?_; rintro r2 w2 ⟨rfl, hb2⟩))
        | (go_at_call 90; refine (hSp.out _).mono ?_; rintro r4 w4 ⟨B, rfl, hBge, hBlt, hFB, hqB, hqC, hb4⟩; have hx4 : Below wc.heap.size wc w4 := (by (repeat (first | exact Below.refl _ _ | assumption | refine bchain (by assumption) ?_ | refine balloc ?_ _ | apply Below.drew | apply below_drewN | (refine Below.alloc ?_ (by (try simp) <;> omega) _) | (refine Below.setCell ?_ (by (try simp) <;> omega) _)))))
        | (go_at_call 89; refine (hCn.out w4 M1 M2 B B1 (w.heap.size + 2) B2 hFB hqB hqC (kTT.out _ hx4) (kG.out _ hx4) (kC1.out _ hx4) (kM1.out _ hx4) (kC2.out _ hx4) (kM2.out _ hx4)).mono ?_; rintro r5 w5 ⟨rfl, hb5⟩)
        | (go_at_call 76; refine (hQ.out _).mono ?_; rintro r6 w6 ⟨rfl, hb6⟩))
    all_goals
      have hx6 : Below wc.heap.size wc w6 := by (repeat (first | exact Below.refl _ _ | assumption | refine bchain (by assumption) ?_ | refine balloc ?_ _ | apply Below.drew | apply below_drewN | (refine Below.alloc ?_ (by (try simp) <;> omega) _) | (refine Below.setCell ?_ (by (try simp) <;> omega) _)))
      have kf := kk.out.below hx6
      obtain ⟨_, F0, F1, _⟩ := kf.r.put x y
      go_wp2
      exact bodyPost_ret (v := .agg #[.int .i64 x, .int .i64 y]) (by simp [results, Tryz.results69, go_sem, F0, F1]) rfl ⟨rfl, by have hx7 := bchain hx6 hbw; (repeat (first | exact Below.refl _ _ | assumption | refine bchain (by assumption) ?_ | refine balloc ?_ _ | apply Below.drew | apply below_drewN | (refine Below.alloc ?_ (by (try simp) <;> omega) _) | (refine Below.setCell ?_ (by (try simp) <;> omega) _)))⟩
end
end Go.Proofs.YtncbimbbkealmaaGreatDoor
/-
  JointDensity: the model's errors, and its answer.
-/
namespace Go.Proofs.YtncbimbbkealmaaGreatDoor
open Go.RowKit Go.Shelf
set_option maxRecDepth 100000
attribute [local go_sem] Oper.semAt_some
section
variable (w : World)
theorem sjd_in (k n e n0 e0 m0 f0 : Nat) (h : VK k n e) (h0 : VK k n0 e0) (h1 : VK k m0 f0) (hle : n0 + m0 ≤ n + k) :
    Calls Tryz.prog 64 #[.agg #[.int .i64 k, .int .i64 n0, .int .u32 e0], .agg #[.int .i64 k, .int .i64 m0, .int .u32 f0], .agg #[.int .i64 k, .int .i64 n, .int .u32 e]] w
      fun r w' => r = .returned (.agg #[.int .i64 (jdF k n e n0 e0 m0 f0).1, .int .i64 (jdF k n e n0 e0 m0 f0).2]) ∧ Below w.heap.size w w' := by
  obtain ⟨_, hn5, _, hkn⟩ := h.nums
  obtain ⟨_, _, _, hkn0⟩ := h0.nums
  obtain ⟨_, _, _, hkm0⟩ := h1.nums
  obtain ⟨l1, l2, l3, l4⟩ := jd_low e e0 f0 hn5 hkn0 hkm0 hle
  exact sjt_any w k n e n0 e0 m0 f0 (n0 - k) (m0 - k) h h0 h1 (by omega) (by omega) (inB k e n0 (tE n0 k e0)) (inB k e m0 (tE m0 k f0)) (jSet k n n0) (jSet k n m0) rfl rfl (ptS_of k n e n0 e0 (n0 - k) h h0 (by omega) (by omega)) (ptS_of k n e m0 f0 (m0 - k) h h1 (by omega) (by omega)) _ _ l2 l4
end
end Go.Proofs.YtncbimbbkealmaaGreatDoor
