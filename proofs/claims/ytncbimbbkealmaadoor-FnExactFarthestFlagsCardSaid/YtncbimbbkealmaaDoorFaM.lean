/-
  FaA, Fas, Thi, Fai, FaB, in one text.
-/
import Derived.Test.YtncbimbbkealmaaDoorFdl
import Derived.Test.YtncbimbbkealmaaDoorFrO
import Derived.Test.YtncbimbbkealmaaDoorFdB
import Derived.Deep.RegionHeld3
import Derived.Deep.DeepCutAuto
import Derived.Test.YtncbimbbkealmaaDoorThA
import Derived.Test.YtncbimbbkealmaaDoorRiR
import Derived.OwnWalkIn
import Derived.TacticsInMore
/-
  FarthestFlags: small fractions; how two of them are held against each other; the greatest one of a list.
-/
namespace Go.Proofs.YtncbimbbkealmaaDoor
open Go.RowKit Go.Shelf
set_option maxRecDepth 100000
attribute [local go_sem] Oper.semAt_some
/-- a fraction with small parts -/
def Sm (b : Nat) (x : Int × Int) : Prop := x.1.natAbs ≤ b ∧ 1 ≤ x.2 ∧ x.2 ≤ (b : Int)
theorem mul_ab {a b : Int} {M N : Nat} (ha : a.natAbs ≤ M) (hb : b.natAbs ≤ N) : (a * b).natAbs ≤ M * N := by
  rw [Int.natAbs_mul]; exact Nat.mul_le_mul ha hb
theorem low_sm {p q : Int} {b : Nat} (hp : p.natAbs ≤ b) (hq : 1 ≤ q ∧ q ≤ (b : Int)) (hb : b ≤ 1000000000) : ∃ x, Fr.low p q = some x ∧ Sm b x ∧ Fr.VP x ∧ (0 < x.1 ↔ 0 < p) := by
  have hg : 0 < Fr.gs p q := by
    unfold Fr.gs
    rw [if_neg (by omega)]
    have : 0 < Int.gcd p q := Int.gcd_pos_of_ne_zero_right _ (by omega)
    omega
  obtain ⟨A, hA⟩ : ∃ A, p.tdiv (Fr.gs p q) = A := ⟨_, rfl⟩
  obtain ⟨B, hB⟩ : ∃ B, q.tdiv (Fr.gs p q) = B := ⟨_, rfl⟩
  have hm := (Fr.gs_mul p q).1
  have h1 := Fr.tdiv_abs p (Fr.gs p q) (b : Int) (by omega)
  have h2 := Fr.tdiv_abs q (Fr.gs p q) (b : Int) (by omega)
  have h3 := Fr.low_den (p := p) (q := q) (by omega)
  rw [hA] at h1 hm
  rw [hB] at h2 h3
  have hl := Fr.low_some hA hB (by omega) (by omega)
  refine ⟨(A, B), hl, ⟨by dsimp only; omega, h3, h2.2⟩, Fr.low_vf (by omega) hl, ?_⟩
  dsimp only
  constructor
  · intro h
    rw [← hm]
    exact Int.mul_pos h hg
  · intro h
    rcases Int.lt_or_le 0 A with h4 | h4
    · exact h4
    · have := Int.mul_le_mul_of_nonneg_right h4 (Int.le_of_lt hg)
      omega
theorem fd_sm {k n e n0 e0 : Nat} (hn : n ≤ 5) (hkn0 : k ≤ n0) (hle : n0 ≤ n) : Sm 10 (fdF k n e n0 e0) := by
  obtain ⟨h1, h2, h3, h4⟩ := fd_low (e := e) (e0 := e0) hn hkn0 hle
  obtain ⟨x, hx, hs, _⟩ := low_sm (p := (fdN k n e n0 e0 : Nat)) (q := (fdA k n n0 : Nat)) (b := 10) (by omega) (by omega) (by omega)
  rw [hx] at h4
  injection h4 with h4
  rw [h4] at hs
  exact hs
theorem sub_sm {a b : Int × Int} {M : Nat} (ha : Sm M a) (hb : Sm M b) (hM : M ≤ 1000) : ∃ x, Fr.subF a b = some x ∧ Sm (2 * (M * M)) x ∧ Fr.VP x ∧ (0 < x.1 ↔ b.1 * a.2 < a.1 * b.2) := by
  have h1 := mul_ab ha.1 (N := M) (b := b.2) (by have := hb.2; omega)
  have h2 := mul_ab hb.1 (N := M) (b := a.2) (by have := ha.2; omega)
  have h3 := mul_ab (a := a.2) (b := b.2) (M := M) (N := M) (by have := ha.2; omega) (by have := hb.2; omega)
  have h4 := Int.mul_pos (show 0 < a.2 by have := ha.2.1; omega) (show 0 < b.2 by have := hb.2.1; omega)
  have hMM : M * M ≤ 1000 * 1000 := Nat.mul_le_mul hM hM
  unfold Fr.subF
  obtain ⟨m1, e1⟩ : ∃ m, a.1 * b.2 = m := ⟨_, rfl⟩
  obtain ⟨m2, e2⟩ : ∃ m, b.1 * a.2 = m := ⟨_, rfl⟩
  obtain ⟨m3, e3⟩ : ∃ m, a.2 * b.2 = m := ⟨_, rfl⟩
  obtain ⟨m4, e4⟩ : ∃ m, M * M = m := ⟨_, rfl⟩
  rw [e1, e2, e3]
  rw [e1, e4] at h1
  rw [e2, e4] at h2
  rw [e3] at h4
  rw [e3, e4] at h3
  rw [e4] at hMM ⊢
  obtain ⟨x, hx, hs, hv, hp⟩ := low_sm (p := m1 - m2) (q := m3) (b := 2 * m4) (by omega) (by omega) (by omega)
  exact ⟨x, hx, hs, hv, by rw [hp]; omega⟩
/-- without the sign -/
def aF (x : Int × Int) : Int × Int := (if x.1 < 0 then -x.1 else x.1, x.2)
theorem aF_sm {x : Int × Int} {b : Nat} (h : Sm b x) : Sm b (aF x) := by
  unfold aF
  refine ⟨?_, h.2⟩
  have := h.1
  dsimp only
  split <;> omega
theorem aF_vp {x : Int × Int} (h : Fr.VP x) : Fr.VP (aF x) := by
  unfold aF
  split
  · exact Fr.opp_vp h
  · exact h
/-- the difference of the densities of two flags in a third one -/
def faD (k n0 e0 n1 e1 n e : Nat) : Int × Int := (Fr.subF (fdF k n e n0 e0) (fdF k n e n1 e1)).getD (0, 1)
theorem faD_at {k n0 n1 n : Nat} (e0 e1 e : Nat) (hn : n ≤ 5) (h0 : k ≤ n0 ∧ n0 ≤ n) (h1 : k ≤ n1 ∧ n1 ≤ n) : Fr.subF (fdF k n e n0 e0) (fdF k n e n1 e1) = some (faD k n0 e0 n1 e1 n e) ∧ Sm 200 (faD k n0 e0 n1 e1 n e) ∧ Fr.VP (faD k n0 e0 n1 e1 n e) := by
  obtain ⟨x, hx, hs, hv, _⟩ := sub_sm (fd_sm (e := e) (e0 := e0) hn h0.1 h0.2) (fd_sm (e := e) (e0 := e1) hn h1.1 h1.2) (by omega)
  unfold faD
  rw [hx]
  exact ⟨rfl, hs, hv⟩
/-- the greatest one of a list, or 0 -/
def faS (m d : Int × Int) : Int × Int := if m.1 * d.2 < d.1 * m.2 then d else m
def faM (D : Nat → Int × Int) (l : List Nat) : Int × Int := l.foldl (fun m E => faS m (aF (D E))) (0, 1)
theorem faM_snoc (D : Nat → Int × Int) (l : List Nat) (E : Nat) : faM D (l ++ [E]) = faS (faM D l) (aF (D E)) := by simp [faM]
theorem faM_sm {D : Nat → Int × Int} (hD : ∀ E, Sm 200 (D E) ∧ Fr.VP (D E)) : ∀ (l : List Nat) (m : Int × Int), Sm 200 m → Fr.VP m → Sm 200 (l.foldl (fun m E => faS m (aF (D E))) m) ∧ Fr.VP (l.foldl (fun m E => faS m (aF (D E))) m)
  | [], m, h1, h2 => ⟨h1, h2⟩
  | E :: r, m, h1, h2 => by
    have h : Sm 200 (faS m (aF (D E))) ∧ Fr.VP (faS m (aF (D E))) := by
      unfold faS
      split
      · exact ⟨aF_sm (hD E).1, aF_vp (hD E).2⟩
      · exact ⟨h1, h2⟩
    exact faM_sm hD r _ h.1 h.2
theorem faM_ok {D : Nat → Int × Int} (hD : ∀ E, Sm 200 (D E) ∧ Fr.VP (D E)) (l : List Nat) : Sm 200 (faM D l) ∧ Fr.VP (faM D l) := faM_sm hD l _ ⟨by decide, by decide, by decide⟩ ⟨by decide, by decide, by decide, by decide, by decide⟩
/-- the program's comparison: the sign of the difference -/
theorem faS_sub {m d : Int × Int} (hm : Sm 200 m) (hd : Sm 200 d) : ∃ x, Fr.subF d m = some x ∧ (0 < x.1 ↔ m.1 * d.2 < d.1 * m.2) := by
  obtain ⟨x, hx, _, _, hp⟩ := sub_sm hd hm (by omega)
  exact ⟨x, hx, hp⟩
def cmpI (x y : Int) : Int := if x < y then -1 else if y < x then 1 else 0
theorem cmpI_pos (x y : Int) : 0 < cmpI x y ↔ y < x := by unfold cmpI; split <;> (try split) <;> omega
namespace Fr
section
variable (w : World)
theorem ssub_any (a b : Int × Int) (ha : VP a) (hb : VP b) :
    Calls Tryd.prog 61 #[fv a, fv b] w fun r w' => r = .returned (lv (subF a b)) ∧ Below w.heap.size w w' := by
  have hO := Lib.hid (fun W => sopp_any W b.1 b.2 hb)
  have hA := Lib.hid (fun W => splus_any W a (oppF b) ha (opp_vp hb))
  rw [← sub_opp] at hA
  obtain ⟨R, hR⟩ : ∃ R, subF a b = R := ⟨_, rfl⟩
  rw [hR] at hA ⊢
  clear hR ha hb
  obtain ⟨r1, r2, c, hl⟩ := lv_form R
  rw [hl] at hA ⊢
  clear hl
  obtain ⟨a1, a2⟩ := a
  obtain ⟨b1, b2⟩ := b
  unfold fv oppF at hA
  unfold fv
  dsimp only at *
  go_enter Tryd.func61, Tryd.ntmps61
  go_wp2
  go_region_held3 (fun W => W.cell? ⟨w.heap.size, 0, none⟩ = some (.int .i64 a1) ∧ W.cell? ⟨w.heap.size, 1, none⟩ = some (.int .i64 a2) ∧ W.cell? ⟨w.heap.size + 1, 0, none⟩ = some (.int .i64 b1) ∧ W.cell? ⟨w.heap.size + 1, 1, none⟩ = some (.int .i64 b2)
      ∧ w.heap.size < W.heap.size ∧ w.heap.size + 1 < W.heap.size ∧ w.heap.size + 1 + 1 < W.heap.size)
    (first | (go_keep; done) | (simp [*, go_sem]; done) | (simp [*, go_sem]; omega))
    (first | (go_at_call 62; refine (hO.out _).mono ?_; rintro r w1 ⟨rfl, hb1⟩; have hk1 := keepAll hb1; have hf1 := keepFz hb1; have hz1 := keepLt hb1) | (go_at_call 42; refine (hA.out _).mono ?_; rintro r w2 ⟨rfl, hb2⟩; have hk2 := keepAll hb2; have hf2 := keepFz hb2; have hz2 := keepLt hb2))
  have g0 : w2.cell? ⟨w.heap.size + 1 + 1, 0, none⟩ = some (.int .i64 0) := by simp [hk2, hk1, hz1, go_sem]
  have g1 : w2.cell? ⟨w.heap.size + 1 + 1, 1, none⟩ = some (.int .i64 0) := by simp [hk2, hk1, hz1, go_sem]
  have h2 := twoCells g0 g1 (.int .i64 r1) (.int .i64 r2)
  go_wp2
  exact bodyPost_ret (v := .tuple #[.agg #[.int .i64 r1, .int .i64 r2], .int .i64 c]) (by simp [results, Tryd.results61, go_sem, h2.1, h2.2]) rfl ⟨rfl, by (repeat (first | exact Below.refl _ _ | assumption | refine bchain (by assumption) ?_ | refine balloc ?_ _ | apply Below.drew | apply below_drewN | (refine Below.alloc ?_ (by (try simp) <;> omega) _) | (refine Below.setCell ?_ (by (try simp) <;> omega) _)))⟩
end
end Fr
/-- the flags of size 4 of a type, by their edges -/
def faE (k t : Nat) : List Nat := (lfs 4 k t).map (kE t k)
theorem faE_flL (k t : Nat) : flL 4 k t [] (kM k 4) = (faE k t).map fun (E : Nat) => ((k : Int), ((4 : Nat) : Int), (E : Int)) := by
  have hc : (fun j => isF 4 k t [] j) = fun j => isL 4 k t j := by
    funext j
    have : freeB 4 (kE t k j) [] = true := rfl
    unfold isF
    rw [this, Bool.and_true]
  unfold flL faE lfs
  rw [List.map_map]
  show (List.filter (fun j => isF 4 k t [] j) _).map _ = _
  rw [hc]
  rfl
theorem faE_at {k t i : Nat} (hi : i < (faE k t).length) : kAt (flL 4 k t [] (kM k 4)) i = ((k : Int), ((4 : Nat) : Int), (((faE k t)[i]?.getD 0 : Nat) : Int)) := by
  rw [faE_flL]
  unfold kAt
  rw [List.getElem?_map, List.getElem?_eq_getElem hi]
  rfl
theorem faE_len (k t : Nat) : (flL 4 k t [] (kM k 4)).length = (faE k t).length := by rw [faE_flL, List.length_map]
theorem faE_take {k t i : Nat} (hi : i < (faE k t).length) : (faE k t).take (i + 1) = (faE k t).take i ++ [(faE k t)[i]?.getD 0] := by
  rw [List.take_add_one, List.getElem?_eq_getElem hi]; rfl
theorem faE_vk {k t E : Nat} (hk : k ≤ 3) (ht : t < eMax k) (h : E ∈ faE k t) : VK k ((4 : Nat) : Int) E := by
  obtain ⟨j, hj, rfl⟩ := List.mem_map.1 h
  have hjm := lfs_mem hj
  exact VK.mk' (by omega) hk (by omega) (kE_max (by omega) (by omega) (by rw [← eMax_pc k (by omega)]; exact ht) hjm)
theorem faE_le (k t : Nat) : (faE k t).length ≤ 2000 := by unfold faE; rw [List.length_map]; exact lfs_len (by omega)
theorem faE_split {k t : Nat} {pre rest : List Nat} {j : Nat} (h : lfs 4 k t = pre ++ j :: rest) : kE t k j ∈ faE k t := by
  unfold faE; rw [h]; simp
section
variable (w : World)
theorem scmp_any (a b : Int × Int) (ha : Fr.VF a.1 a.2) (hb : Fr.VF b.1 b.2) :
    Calls Tryd.prog 63 #[.agg #[.int .i64 a.1, .int .i64 a.2], .agg #[.int .i64 b.1, .int .i64 b.2]] w fun r w' => r = .returned (.int .i64 (cmpI (a.1 * b.2) (b.1 * a.2))) ∧ Below w.heap.size w w' := by
  obtain ⟨l1, u1⟩ := Fr.mul_b (Fr.VP.b1 ha) (Fr.VP.b2 hb)
  obtain ⟨l2, u2⟩ := Fr.mul_b (Fr.VP.b1 hb) (Fr.VP.b2 ha)
  obtain ⟨a1, a2⟩ := a
  obtain ⟨b1, b2⟩ := b
  dsimp only at l1 u1 l2 u2 ⊢
  have w1 : IntKind.i64.wrap (a1 * b2) = a1 * b2 := IntWalk.i64_in _ ⟨by omega, by omega⟩
  have w2 : IntKind.i64.wrap (b1 * a2) = b1 * a2 := IntWalk.i64_in _ ⟨by omega, by omega⟩
  obtain ⟨x, hx⟩ : ∃ x, a1 * b2 = x := ⟨_, rfl⟩
  obtain ⟨y, hy⟩ : ∃ y, b1 * a2 = y := ⟨_, rfl⟩
  rw [hx] at w1 ⊢
  rw [hy] at w2 ⊢
  clear ha hb l1 u1 l2 u2
  unfold cmpI
  by_cases h1 : x < y
  · rw [if_pos h1]
    go_enter Tryd.func63, Tryd.ntmps63
    go_wp2
    go_ret
    exact ⟨rfl, by (repeat (first | exact Below.refl _ _ | assumption | refine bchain (by assumption) ?_ | refine balloc ?_ _ | apply Below.drew | apply below_drewN | (refine Below.alloc ?_ (by (try simp) <;> omega) _) | (refine Below.setCell ?_ (by (try simp) <;> omega) _)))⟩
  · rw [if_neg h1]
    have hd := decide_eq_false h1
    by_cases h2 : y < x
    · rw [if_pos h2]
      go_enter Tryd.func63, Tryd.ntmps63
      go_wp2
      go_ret
      exact ⟨rfl, by (repeat (first | exact Below.refl _ _ | assumption | refine bchain (by assumption) ?_ | refine balloc ?_ _ | apply Below.drew | apply below_drewN | (refine Below.alloc ?_ (by (try simp) <;> omega) _) | (refine Below.setCell ?_ (by (try simp) <;> omega) _)))⟩
    · rw [if_neg h2]
      have hd2 := decide_eq_false h2
      go_enter Tryd.func63, Tryd.ntmps63
      go_wp2
      go_ret
      exact ⟨rfl, by (repeat (first | exact Below.refl _ _ | assumption | refine bchain (by assumption) ?_ | refine balloc ?_ _ | apply Below.drew | apply below_drewN | (refine Below.alloc ?_ (by (try simp) <;> omega) _) | (refine Below.setCell ?_ (by (try simp) <;> omega) _)))⟩
end
end Go.Proofs.YtncbimbbkealmaaDoor
/-
  FarthestFlags: the model.
-/
namespace Go.Proofs.YtncbimbbkealmaaDoor
open Go.RowKit Go.Shelf
set_option maxRecDepth 100000
attribute [local go_sem] Oper.semAt_some
/-- what the model's test of the types answers -/
def CtF (k0 n0 e0 k n e c : Int) : Prop := ∀ W, Calls Tryd.prog 59 #[.agg #[.int .i64 k0, .int .i64 n0, .int .u32 e0], .agg #[.int .i64 k, .int .i64 n, .int .u32 e]] W fun r w' => r = .returned (.int .i64 c) ∧ Below W.heap.size W w'
section
variable (w : World)
theorem sff_err (k0 n0 e0 k n e c : Int) (hc : c = 1 ∨ c = 4) (hC : CtF k0 n0 e0 k n e c) :
    Calls Tryd.prog 26 #[.agg #[.int .i64 k0, .int .i64 n0, .int .u32 e0], .agg #[.int .i64 k, .int .i64 n, .int .u32 e]] w fun r w' => r = .returned (.tuple #[.agg #[.int .i64 0, .int .i64 0], .int .i64 c]) ∧ Below w.heap.size w w' := by
  unfold CtF at hC
  replace hC := Lib.hid hC
  have kk0 := Lib.hid (fd0_made w k0 n0 e0 k n e)
  rcases hc with rfl | rfl
  all_goals
    go_enter Tryd.func26, Tryd.ntmps26
    go_wp2_with fail
    refine (hC.out _).mono ?_
    rintro r3 w3 ⟨rfl, hb3⟩
    have kk := kk0.out.below hb3
    obtain ⟨_, z0, z1, z2⟩ := id kk.r
    have z20 := z2 0
    have z21 := z2 1
    obtain ⟨_, F0, F1, _⟩ := kk.r.put 0 0
    go_wp2
    exact bodyPost_ret (v := .tuple #[.agg #[.int .i64 0, .int .i64 0], .int .i64 _]) (by simp [results, Tryd.results26, go_sem, F0, F1] <;> rfl) rfl ⟨rfl, by (repeat (first | exact Below.refl _ _ | assumption | refine bchain (by assumption) ?_ | refine balloc ?_ _ | apply Below.drew | apply below_drewN | (refine Below.alloc ?_ (by (try simp) <;> omega) _) | (refine Below.setCell ?_ (by (try simp) <;> omega) _)))⟩
theorem sff_rng (k0 n0 e0 k n e : Int) (hlt : 4 < n0 ∨ 4 < n) (hC : CtF k0 n0 e0 k n e 0) :
    Calls Tryd.prog 26 #[.agg #[.int .i64 k0, .int .i64 n0, .int .u32 e0], .agg #[.int .i64 k, .int .i64 n, .int .u32 e]] w fun r w' => r = .returned (.tuple #[.agg #[.int .i64 0, .int .i64 0], .int .i64 2]) ∧ Below w.heap.size w w' := by
  unfold CtF at hC
  replace hC := Lib.hid hC
  have kk0 := Lib.hid (fd0_made w k0 n0 e0 k n e)
  by_cases h0 : 4 < n0
  · have hd := decide_eq_true h0
    clear hlt h0
    go_enter Tryd.func26, Tryd.ntmps26
    go_wp2_with fail
    refine (hC.out _).mono ?_
    rintro r3 w3 ⟨rfl, hb3⟩
    have kk := kk0.out.below hb3
    obtain ⟨f0, f1, f2, f3⟩ := id kk.f
    obtain ⟨g0, g1, g2, g3⟩ := id kk.g
    obtain ⟨_, z0, z1, z2⟩ := id kk.r
    have z20 := z2 0
    have z21 := z2 1
    obtain ⟨_, F0, F1, _⟩ := kk.r.put 0 0
    replace kk := Lib.hid kk
    go_wp2
    exact bodyPost_ret (v := .tuple #[.agg #[.int .i64 0, .int .i64 0], .int .i64 _]) (by simp [results, Tryd.results26, go_sem, F0, F1] <;> rfl) rfl ⟨rfl, by (repeat (first | exact Below.refl _ _ | assumption | refine bchain (by assumption) ?_ | refine balloc ?_ _ | apply Below.drew | apply below_drewN | (refine Below.alloc ?_ (by (try simp) <;> omega) _) | (refine Below.setCell ?_ (by (try simp) <;> omega) _)))⟩
  · have hd := decide_eq_false h0
    have hd2 := decide_eq_true (show (4 : Int) < n by omega)
    clear hlt h0
    go_enter Tryd.func26, Tryd.ntmps26
    go_wp2_with fail
    refine (hC.out _).mono ?_
    rintro r3 w3 ⟨rfl, hb3⟩
    have kk := kk0.out.below hb3
    obtain ⟨f0, f1, f2, f3⟩ := id kk.f
    obtain ⟨g0, g1, g2, g3⟩ := id kk.g
    obtain ⟨_, z0, z1, z2⟩ := id kk.r
    have z20 := z2 0
    have z21 := z2 1
    obtain ⟨_, F0, F1, _⟩ := kk.r.put 0 0
    replace kk := Lib.hid kk
    go_wp2
    exact bodyPost_ret (v := .tuple #[.agg #[.int .i64 0, .int .i64 0], .int .i64 _]) (by simp [results, Tryd.results26, go_sem, F0, F1] <;> rfl) rfl ⟨rfl, by (repeat (first | exact Below.refl _ _ | assumption | refine bchain (by assumption) ?_ | refine balloc ?_ _ | apply Below.drew | apply below_drewN | (refine Below.alloc ?_ (by (try simp) <;> omega) _) | (refine Below.setCell ?_ (by (try simp) <;> omega) _)))⟩
set_option maxHeartbeats 8000000 in
theorem sff_ok (k n0 e0 n1 e1 : Nat) (hf : VK k n0 e0) (hg : VK k n1 e1) (hl : n0 ≤ 4) (hr : n1 ≤ 4) (hC : CtF k n0 e0 k n1 e1 0) :
    Calls Tryd.prog 26 #[.agg #[.int .i64 k, .int .i64 n0, .int .u32 e0], .agg #[.int .i64 k, .int .i64 n1, .int .u32 e1]] w fun r w' => r = .returned (.tuple #[.agg #[.int .i64 (faM (faD k n0 e0 n1 e1 4) (faE k (onL e0 (List.range k)))).1, .int .i64 (faM (faD k n0 e0 n1 e1 4) (faE k (onL e0 (List.range k)))).2], .int .i64 0]) ∧ Below w.heap.size w w' := by
  obtain ⟨_, _, hk3, hk0⟩ := hf.nums
  obtain ⟨_, _, _, hk1⟩ := hg.nums
  unfold CtF at hC
  replace hC := Lib.hid hC
  have kk0 := Lib.hid (fd0_made w k n0 e0 k n1 e1)
  have hTy := Lib.hid (fun W => sty_any W k n0 e0 hf)
  have htl : onL e0 (List.range k) < eMax k := onL_ltP e0 (range_ok (n := n0) hk0) (by omega)
  obtain ⟨t, ht⟩ : ∃ t, onL e0 (List.range k) = t := ⟨_, rfl⟩
  rw [ht] at hTy htl ⊢
  have hD1 := Lib.hid (fun W (E : Nat) (hE : VK k ((4 : Nat) : Int) E) => (show Calls Tryd.prog 43 #[.agg #[.int .i64 k, .int .i64 n0, .int .u32 e0], .agg #[.int .i64 k, .int .i64 4, .int .u32 E]] W fun r w' => r = .returned (.agg #[.int .i64 (fdF k 4 E n0 e0).1, .int .i64 (fdF k 4 E n0 e0).2]) ∧ Below W.heap.size W w' from sfd_any W k 4 E n0 e0 hE hf hl))
  have hD2 := Lib.hid (fun W (E : Nat) (hE : VK k ((4 : Nat) : Int) E) => (show Calls Tryd.prog 43 #[.agg #[.int .i64 k, .int .i64 n1, .int .u32 e1], .agg #[.int .i64 k, .int .i64 4, .int .u32 E]] W fun r w' => r = .returned (.agg #[.int .i64 (fdF k 4 E n1 e1).1, .int .i64 (fdF k 4 E n1 e1).2]) ∧ Below W.heap.size W w' from sfd_any W k 4 E n1 e1 hE hg hr))
  have hM := Lib.hid (fun W (E : Nat) => Fr.ssub_any W (fdF k 4 E n0 e0) (fdF k 4 E n1 e1) (fd_vf (by omega) hk0 hl) (fd_vf (by omega) hk1 hr))
  have hDv := fun E => faD_at (k := k) (n0 := n0) (n1 := n1) (n := 4) e0 e1 E (by omega) ⟨hk0, hl⟩ ⟨hk1, hr⟩
  have hMs := Lib.hid (fun E => (hDv E).1)
  have hDp := Lib.hid (fun E => (hDv E).2.2)
  obtain ⟨D, hDd⟩ : ∃ D, faD k n0 e0 n1 e1 4 = D := ⟨_, rfl⟩
  rw [hDd] at hDv hMs hDp ⊢
  have hMv := fun l => faM_ok (fun E => (hDv E).2) l
  replace hMv := Lib.hid hMv
  have hOp := Lib.hid (fun W (E : Nat) => Fr.sopp_any W (D E).1 (D E).2 (hDp.out E))
  have hCm := Lib.hid (fun W (E : Nat) (l : List Nat) => scmp_any W (aF (D E)) (faM D l) (aF_vp (hDp.out E)) (hMv.out l).2)
  have hA := Lib.hid (fun W a => (show Calls Tryd.prog 60 #[.agg #[.int .i64 k, .int .u32 t], .int .i64 4, .slice a 0 0] W fun r w' => (∃ u, r = .returned u ∧ OwnK W w' u (flL 4 k t [] (kM k 4))) ∧ Below W.heap.size W w' from sla_any W k 4 t (by omega) hk3 (by omega) htl a 0 [] (fun i hi => absurd hi (by simp)) (by simp) (fun i hi => absurd hi (by simp))))
  have hel := Lib.hid (fun i (hi : i < (faE k t).length) => (show kAt (flL 4 k t [] (kM k 4)) i = ((k : Int), ((4 : Nat) : Int), (((faE k t)[i]?.getD 0 : Nat) : Int)) ∧ VK k ((4 : Nat) : Int) ((faE k t)[i]?.getD 0 : Nat) from ⟨faE_at hi, faE_vk hk3 htl (by rw [List.getElem?_eq_getElem hi]; exact List.getElem_mem hi)⟩))
  have htk := Lib.hid (fun i (hi : i < (faE k t).length) => faE_take (k := k) (t := t) (i := i) hi)
  have hlen := faE_le k t
  have hfl := faE_len k t
  obtain ⟨L, hL⟩ : ∃ L, flL 4 k t [] (kM k 4) = L := ⟨_, rfl⟩
  obtain ⟨EL, hEL⟩ : ∃ L, faE k t = L := ⟨_, rfl⟩
  rw [hL] at hA hel hfl
  rw [hEL] at hel htk hlen hfl ⊢
  obtain ⟨N, hN⟩ : ∃ N, EL.length = N := ⟨_, rfl⟩
  rw [hN] at hlen hfl hel htk
  replace hfl := Lib.hid hfl
  have h40 := decide_eq_false (show ¬ ((4 : Int) < (n0 : Int)) by omega)
  have h41 := decide_eq_false (show ¬ ((4 : Int) < (n1 : Int)) by omega)
  have hWh := Lib.hid (fun W => Fr.zero_any W)
  have hfin : EL.take N = EL := by rw [← hN, List.take_length]
  replace hfin := Lib.hid hfin
  clear ht hDd hDv hL hEL hf hg hN htl hk3 hk0 hk1
  go_enter Tryd.func26, Tryd.ntmps26
  go_wp2_with fail
  refine (hC.out _).mono ?_
  rintro r3 w3 ⟨rfl, hb3⟩
  have kk := Lib.hid (kk0.out.below hb3)
  have hB3 : Below w.heap.size w w3 := by (repeat (first | exact Below.refl _ _ | assumption | refine bchain (by assumption) ?_ | refine balloc ?_ _ | apply Below.drew | apply below_drewN | (refine Below.alloc ?_ (by (try simp) <;> omega) _) | (refine Below.setCell ?_ (by (try simp) <;> omega) _)))
  obtain ⟨f0, f1, f2, f3⟩ := id kk.out.f
  obtain ⟨g0, g1, g2, g3⟩ := id kk.out.g
  clear hb3
  go_wp2_with fail
  refine (hTy.out _).mono ?_
  rintro r5 w5 ⟨rfl, hb5⟩
  have k5 := Lib.hid ((kk.out.below hb5).below (balloc (Below.refl _ _) (.cells #[] 31)))
  go_wp2_with fail
  refine (hA.out _ _).mono ?_
  rintro r7 w7 ⟨⟨u, rfl, hO⟩, hb7⟩
  have k7 := Lib.hid (k5.out.below hb7)
  have hB7 : Below w.heap.size w w7 := by (repeat (first | exact Below.refl _ _ | assumption | refine bchain (by assumption) ?_ | refine balloc ?_ _ | apply Below.drew | apply below_drewN | (refine Below.alloc ?_ (by (try simp) <;> omega) _) | (refine Below.setCell ?_ (by (try simp) <;> omega) _)))
  obtain ⟨a, cap, rfl, hl2⟩ := hO.sl.lies
  rw [hfl.out]
  replace hl2 := Lib.hid hl2
  clear kk0 kk k5 hB3 hb5 hb7 hO f0 f1 f2 f3 g0 g1 g2 g3 h40 h41
  go_wp2_with fail
  refine (hWh.out _).mono ?_
  rintro r8 w8 ⟨rfl, hb8⟩
  have k8 := k7.out.below hb8
  have hB8 : Below w.heap.size w w8 := hB7.trans (hb8.mono hB7.size)
  have hz8 := hB8.size
  have hl8 : Hid (LiesK w8 a L) := hl2.out.below hb8
  have hS0 := Lib.hid (FqB.made w8 0 1 28)
  clear hb8 hl2 hB7 k7
  replace k8 := Lib.hid k8
  go_wp2
  go_loopw [9] (fun i wr => ∃ j : Nat, j ≤ N ∧ i = .int .i64 j ∧ Hid (FqB wr w8.heap.size (faM D (EL.take j)).1 (faM D (EL.take j)).2) ∧ Below w8.heap.size w8 wr) (fun i _ => N - (intOf i).toNat)
  case atStart => exact ⟨0, by omega, rfl, by rw [List.take_zero]; exact hS0, by (repeat (first | exact Below.refl _ _ | assumption | refine bchain (by assumption) ?_ | refine balloc ?_ _ | apply Below.drew | apply below_drewN | (refine Below.alloc ?_ (by (try simp) <;> omega) _) | (refine Below.setCell ?_ (by (try simp) <;> omega) _)))⟩
  case round =>
    obtain ⟨j, hj, rfl, hS, hb⟩ := hrel
    by_cases hlt : j < N
    · have hjL : j < L.length := by rw [hfl.out]; exact hlt
      obtain ⟨b, off, rfl, hbl, hgk⟩ := hl8.out j hjL
      obtain ⟨hE, hVE⟩ := hel.out j hlt
      have ht1 := htk.out j hlt
      obtain ⟨E, hEd⟩ : ∃ E, EL[j]?.getD 0 = E := ⟨_, rfl⟩
      rw [hEd] at hE hVE ht1
      have hst := Lib.hid (show faM D (EL.take (j + 1)) = faS (faM D (EL.take j)) (aF (D E)) by rw [ht1, faM_snoc])
      have hm1 := hMs.out E
      have hMc := Lib.hid (fun W => hM.out W E)
      have hOc := Lib.hid (fun W => hOp.out W E)
      have hCc := Lib.hid (fun W => hCm.out W E (EL.take j))
      rw [hm1] at hMc
      rw [hE] at hgk
      have kA : Hid (∀ A, Below wr.heap.size wr A → (A.cell? ⟨b, off + j * 3, none⟩ = some (.int .i64 k) ∧ A.cell? ⟨b, off + j * 3 + 1, none⟩ = some (.int .i64 4) ∧ A.cell? ⟨b, off + j * 3 + 2, none⟩ = some (.int .u32 E) ∧ A.cell? ⟨w.heap.size, 0, none⟩ = some (.int .i64 k) ∧ A.cell? ⟨w.heap.size, 1, none⟩ = some (.int .i64 n0) ∧ A.cell? ⟨w.heap.size, 2, none⟩ = some (.int .u32 e0) ∧ A.cell? ⟨w.heap.size + 1, 0, none⟩ = some (.int .i64 k) ∧ A.cell? ⟨w.heap.size + 1, 1, none⟩ = some (.int .i64 n1) ∧ A.cell? ⟨w.heap.size + 1, 2, none⟩ = some (.int .u32 e1))) := fun A hA => by
        have hbA : Below w8.heap.size w8 A := hb.trans (hA.mono hb.size)
        have q := k8.out.below hbA
        exact ⟨(hbA.cell (p := ⟨b, off + j * 3, none⟩) hbl).trans hgk.1, (hbA.cell (p := ⟨b, off + j * 3 + 1, none⟩) hbl).trans hgk.2.1, (hbA.cell (p := ⟨b, off + j * 3 + 2, none⟩) hbl).trans hgk.2.2, q.f.c0, q.f.c1, q.f.c2, q.g.c0, q.g.c1, q.g.c2⟩
      have hC1 := Lib.hid (fun W => hD1.out W E hVE)
      have hC2 := Lib.hid (fun W => hD2.out W E hVE)
      have hjn : (j : Int) < (N : Int) := by omega
      have hDE := (hDp.out E)
      unfold Fr.VP Fr.VF at hDE
      unfold aF at hCc hst
      obtain ⟨x1, hx1⟩ : ∃ x, (fdF k 4 E n0 e0).1 = x := ⟨_, rfl⟩
      obtain ⟨y1, hy1⟩ : ∃ x, (fdF k 4 E n0 e0).2 = x := ⟨_, rfl⟩
      obtain ⟨x2, hx2⟩ : ∃ x, (fdF k 4 E n1 e1).1 = x := ⟨_, rfl⟩
      obtain ⟨y2, hy2⟩ : ∃ x, (fdF k 4 E n1 e1).2 = x := ⟨_, rfl⟩
      obtain ⟨x3, hx3⟩ : ∃ x, (D E).1 = x := ⟨_, rfl⟩
      obtain ⟨y3, hy3⟩ : ∃ x, (D E).2 = x := ⟨_, rfl⟩
      obtain ⟨M, hMd⟩ : ∃ x, faM D (EL.take j) = x := ⟨_, rfl⟩
      obtain ⟨x4, y4⟩ := M
      have hlm := (hMv.out (EL.take j)).2
      rw [hMd] at hS hCc hst hlm
      simp only [Fr.fv, Fr.lv] at hMc
      rw [hx1, hy1] at hC1 hMc
      rw [hx2, hy2] at hC2 hMc
      rw [hx3, hy3] at hMc hOc hCc hDE hst
      dsimp only at hS hCc hst
      obtain ⟨s0, s1, s2, s3, s4, s5, s6, s7, s8⟩ := kA.out wr (Below.refl _ _)
      have hA0 : ∀ (c : Array Value) (t : TypeId) (i : Nat), (wr.drew.alloc (.cells c t)).cell? ⟨wr.heap.size, i, none⟩ = c[i]? := fun c t i => World.cell?_alloc_new wr.drew c t i
      have hF0 : ∀ (c : Array Value) (t : TypeId) (i : Nat), (wr.drew.alloc (.cells c t)).frozen? ⟨wr.heap.size, i, none⟩ = false := fun c t i => by
        have := (show ∀ W : World, (W.alloc (.cells c t)).frozen? ⟨W.heap.size, i, none⟩ = false from fun W => by simp) wr.drew
        exact this
      have hzw := hb.size
      have hlt8 : w8.heap.size < wr.heap.size := hS.out.lt
      clear hM hMs hD1 hD2 hgk hE hVE hm1 hx1 hy1 hx2 hy2 hx3 hy3 hC hA hTy hWh hel hl8 hS0 hOp hCm hDp hMv hEd ht1 htk
      go_upto_region 11 with fail
      go_cut [10] from 35 to 66 (fun s13 wx => ∃ D : Nat, s13 = .pointer (some ⟨D, 0, none⟩) ∧ wr.heap.size ≤ D ∧ FqB wx D x3 y3 ∧ Below wr.heap.size wr wx)
      case first =>
        go_region_held3 (fun A => A.cell? ⟨b, off + j * 3, none⟩ = some (.int .i64 k) ∧ A.cell? ⟨b, off + j * 3 + 1, none⟩ = some (.int .i64 4) ∧ A.cell? ⟨b, off + j * 3 + 2, none⟩ = some (.int .u32 E) ∧ A.cell? ⟨w.heap.size, 0, none⟩ = some (.int .i64 k) ∧ A.cell? ⟨w.heap.size, 1, none⟩ = some (.int .i64 n0) ∧ A.cell? ⟨w.heap.size, 2, none⟩ = some (.int .u32 e0) ∧ A.cell? ⟨w.heap.size + 1, 0, none⟩ = some (.int .i64 k) ∧ A.cell? ⟨w.heap.size + 1, 1, none⟩ = some (.int .i64 n1) ∧ A.cell? ⟨w.heap.size + 1, 2, none⟩ = some (.int .u32 e1))
          (first | exact kA.out _ (by (repeat (first | exact Below.refl _ _ | assumption | refine bchain (by assumption) ?_ | refine balloc ?_ _ | apply Below.drew | apply below_drewN | (refine Below.alloc ?_ (by (try simp) <;> omega) _) | (refine Below.setCell ?_ (by (try simp) <;> omega) _)))))
          (first
            | (go_at_call 43; first | (with_reducible refine (hC1.out _).mono ?_; rintro r1 w1 ⟨rfl, hb1⟩; have hk1 := keepAll hb1; have hf1 := keepFz hb1; have hz1 := keepLt hb1; have hs1 := hb1.size; try (simp at hs1); try (rw [Nat.add_one_le_iff] at hs1)) | (with_reducible refine (hC2.out _).mono ?_; rintro r2 w2 ⟨rfl, hb2⟩; have hk2 := keepAll hb2; have hf2 := keepFz hb2; have hz2 := keepLt hb2; have hs2 := hb2.size; try (simp at hs2); try (rw [Nat.add_one_le_iff] at hs2)))
            | (go_at_call 61; refine (hMc.out _).mono ?_; rintro r3 w3 ⟨rfl, hb3⟩; have hk3 := keepAll hb3; have hf3 := keepFz hb3; have hz3 := keepLt hb3; have hs3 := hb3.size; try (simp at hs3); try (rw [Nat.add_one_le_iff] at hs3)))
        all_goals (go_wp2_with fail; go_meet; exact ⟨_, rfl, by (try simp) <;> omega, ⟨by (try simp) <;> omega, by first | (simp; done) | exact (Fr.twoCells (a := .int .i64 0) (b := .int .i64 0) (by simp [*]) (by simp [*]) _ _).1, by first | (simp; done) | exact (Fr.twoCells (a := .int .i64 0) (b := .int .i64 0) (by simp [*]) (by simp [*]) _ _).2, fun o => by simp [*]⟩, by (repeat (first | exact Below.refl _ _ | assumption | refine bchain (by assumption) ?_ | refine balloc ?_ _ | apply Below.drew | apply below_drewN | (refine Below.alloc ?_ (by (try simp) <;> omega) _) | (refine Below.setCell ?_ (by (try simp) <;> omega) _)))⟩)
      case rest =>
        obtain ⟨B, rfl, hD0, kB, hBr⟩ := hcut
        have kS := hS.out.below hBr
        clear hA0 hF0 s0 s1 s2 s3 s4 s5 s6 s7 s8
        have hne : w8.heap.size ≠ B := by omega
        have hne' : B ≠ w8.heap.size := by omega
        unfold faS at hst
        by_cases hneg : x3 < 0
        · have hd := decide_eq_true hneg
          rw [if_pos hneg] at hCc hst
          dsimp only at hCc hst
          obtain ⟨kl, u0, u1, u2⟩ := id kB
          go_wp2_with fail
          refine (hOc.out _).mono ?_
          rintro r4 w4 ⟨rfl, hb4⟩
          have kB4 := kB.below hb4
          have kS4 := kS.below hb4
          have hb04 : Below wr.heap.size wr w4 := hBr.trans (hb4.mono hBr.size)
          obtain ⟨_, u0, u1, u2⟩ := id kB4
          obtain ⟨_, y0, y1, y2⟩ := id kS4
          have u20 := u2 0
          have u21 := u2 1
          have kB5 := kB4.put (-x3) y3
          have hb05 : Below wr.heap.size wr ((w4.setCell ⟨B, 0, none⟩ (.int .i64 (-x3))).setCell ⟨B, 1, none⟩ (.int .i64 y3)) := (hb04.setCell (p := ⟨B, 0, none⟩) hD0 _).setCell (p := ⟨B, 1, none⟩) hD0 _
          have kS5 : FqB ((w4.setCell ⟨B, 0, none⟩ (.int .i64 (-x3))).setCell ⟨B, 1, none⟩ (.int .i64 y3)) w8.heap.size x4 y4 := hS.out.below hb05
          obtain ⟨W5, hW5⟩ : ∃ W5, W5 = (w4.setCell ⟨B, 0, none⟩ (.int .i64 (-x3))).setCell ⟨B, 1, none⟩ (.int .i64 y3) := ⟨_, rfl⟩
          rw [← hW5] at kB5 hb05 kS5
          replace kB5 := Lib.hid kB5
          replace kS5 := Lib.hid kS5
          replace hW5 := Lib.hid hW5
          replace hst := Lib.hid hst
          clear kB4 kS4 kB kS
          go_wp2_with fail
          rw [← hW5.out]
          replace kB5 := kB5.out
          replace kS5 := kS5.out
          replace hst := hst.out
          clear u0 u1 u2 y0 y1 y2 u20 u21
          refine (hCc.out _).mono ?_
          rintro r6 w6 ⟨rfl, hb6⟩
          have kB6 := kB5.below hb6
          have kS6 := kS5.below hb6
          have hb06 : Below wr.heap.size wr w6 := hb05.trans (hb6.mono hb05.size)
          obtain ⟨_, u0, u1, u2⟩ := id kB6
          obtain ⟨_, y0, y1, y2⟩ := id kS6
          have y20 := y2 0
          have y21 := y2 1
          have hB6 : Below w8.heap.size w8 w6 := hb.trans (hb06.mono hzw)
          by_cases hc : x4 * y3 < -x3 * y4
          · rw [if_pos hc] at hst
            have hcd := decide_eq_true ((cmpI_pos (-x3 * y4) (x4 * y3)).2 hc)
            have kS7 := Lib.hid (kS6.put (-x3) y3)
            have hB7 : Below w8.heap.size w8 ((w6.setCell ⟨w8.heap.size, 0, none⟩ (.int .i64 (-x3))).setCell ⟨w8.heap.size, 1, none⟩ (.int .i64 y3)) := (hB6.setCell (p := ⟨w8.heap.size, 0, none⟩) (Nat.le_refl _) _).setCell (p := ⟨w8.heap.size, 1, none⟩) (Nat.le_refl _) _
            obtain ⟨cm, hcm⟩ : ∃ z, cmpI (-x3 * y4) (x4 * y3) = z := ⟨_, rfl⟩
            rw [hcm] at hcd ⊢
            clear hc hcm kB6 kS6
            go_wp2
            go_roundw
            case rel => exact ⟨j + 1, by omega, by go_num, by rw [hst.out]; exact kS7.out, hB7⟩
            case measure => simp [intOf]; omega
          · rw [if_neg hc] at hst
            have hcd := decide_eq_false (fun h => hc ((cmpI_pos (-x3 * y4) (x4 * y3)).1 h))
            obtain ⟨cm, hcm⟩ : ∃ z, cmpI (-x3 * y4) (x4 * y3) = z := ⟨_, rfl⟩
            rw [hcm] at hcd ⊢
            replace kS6 := Lib.hid kS6
            clear hc hcm kB6
            go_wp2
            go_roundw
            case rel => exact ⟨j + 1, by omega, by go_num, by rw [hst.out]; exact kS6.out, hB6⟩
            case measure => simp [intOf]; omega
        · have hd := decide_eq_false hneg
          rw [if_neg hneg] at hCc hst
          dsimp only at hCc hst
          obtain ⟨kl, u0, u1, u2⟩ := id kB
          obtain ⟨_, y0, y1, y2⟩ := id kS
          replace hst := Lib.hid hst
          go_wp2_with fail
          replace hst := hst.out
          have kB5 := kB
          have kS5 := kS
          have hb05 := hBr
          clear u0 u1 u2 y0 y1 y2
          refine (hCc.out _).mono ?_
          rintro r6 w6 ⟨rfl, hb6⟩
          have kB6 := kB5.below hb6
          have kS6 := kS5.below hb6
          have hb06 : Below wr.heap.size wr w6 := hb05.trans (hb6.mono hb05.size)
          obtain ⟨_, u0, u1, u2⟩ := id kB6
          obtain ⟨_, y0, y1, y2⟩ := id kS6
          have y20 := y2 0
          have y21 := y2 1
          have hB6 : Below w8.heap.size w8 w6 := hb.trans (hb06.mono hzw)
          by_cases hc : x4 * y3 < x3 * y4
          · rw [if_pos hc] at hst
            have hcd := decide_eq_true ((cmpI_pos (x3 * y4) (x4 * y3)).2 hc)
            have kS7 := Lib.hid (kS6.put (x3) y3)
            have hB7 : Below w8.heap.size w8 ((w6.setCell ⟨w8.heap.size, 0, none⟩ (.int .i64 (x3))).setCell ⟨w8.heap.size, 1, none⟩ (.int .i64 y3)) := (hB6.setCell (p := ⟨w8.heap.size, 0, none⟩) (Nat.le_refl _) _).setCell (p := ⟨w8.heap.size, 1, none⟩) (Nat.le_refl _) _
            obtain ⟨cm, hcm⟩ : ∃ z, cmpI (x3 * y4) (x4 * y3) = z := ⟨_, rfl⟩
            rw [hcm] at hcd ⊢
            clear hc hcm kB6 kS6
            go_wp2
            go_roundw
            case rel => exact ⟨j + 1, by omega, by go_num, by rw [hst.out]; exact kS7.out, hB7⟩
            case measure => simp [intOf]; omega
          · rw [if_neg hc] at hst
            have hcd := decide_eq_false (fun h => hc ((cmpI_pos (x3 * y4) (x4 * y3)).1 h))
            obtain ⟨cm, hcm⟩ : ∃ z, cmpI (x3 * y4) (x4 * y3) = z := ⟨_, rfl⟩
            rw [hcm] at hcd ⊢
            replace kS6 := Lib.hid kS6
            clear hc hcm kB6
            go_wp2
            go_roundw
            case rel => exact ⟨j + 1, by omega, by go_num, by rw [hst.out]; exact kS6.out, hB6⟩
            case measure => simp [intOf]; omega
    · obtain rfl : j = N := by omega
      have hdd := decide_eq_false (show ¬ ((j : Int) < (j : Int)) by omega)
      have k9 := k8.out.below hb
      rw [hfin.out] at hS
      obtain ⟨_, y0, y1, y2⟩ := id hS.out
      obtain ⟨_, z0, z1, z2⟩ := id k9.r
      have z20 := z2 0
      have z21 := z2 1
      obtain ⟨_, F0, F1, _⟩ := k9.r.put (faM D EL).1 (faM D EL).2
      replace k9 := Lib.hid k9
      go_wp2
      exact bodyPost_ret (v := .tuple #[.agg #[.int .i64 (faM D EL).1, .int .i64 (faM D EL).2], .int .i64 0]) (by simp [results, Tryd.results26, go_sem, F0, F1]) rfl ⟨rfl, by (repeat (first | exact Below.refl _ _ | assumption | refine bchain (by assumption) ?_ | refine balloc ?_ _ | apply Below.drew | apply below_drewN | (refine Below.alloc ?_ (by (try simp) <;> omega) _) | (refine Below.setCell ?_ (by (try simp) <;> omega) _)))⟩
end
end Go.Proofs.YtncbimbbkealmaaDoor
/-
  ThroughSize: the program.
-/
namespace Go.Proofs.YtncbimbbkealmaaDoor
open Go.RowKit Go.Shelf
set_option maxRecDepth 100000
attribute [local go_sem] Oper.semAt_some
/-- what checkTypes answers, with the list of two flags that is made for it -/
def CtA (k0 n0 e0 k n e c : Int) : Prop := ∀ (W : World) (B : Nat), B = W.heap.size → ∀ O, O = Obj.cells #[.int .i64 k0, .int .i64 n0, .int .u32 e0, .int .i64 k, .int .i64 n, .int .u32 e] 33 → Calls Tryd.prog 32 #[.slice (some ⟨B, 0, none⟩) 2 2] (W.alloc O) fun r w' => r = .returned (.int .i64 c) ∧ Below (W.alloc O).heap.size (W.alloc O) w'
section
variable (w : World)
end
end Go.Proofs.YtncbimbbkealmaaDoor
namespace Go.Proofs.YtncbimbbkealmaaDoor
open Go.RowKit Go.Shelf
set_option maxRecDepth 100000
attribute [local go_sem] Oper.semAt_some
/-- what holds when the operations of the round's first region with the flags have come up -/
structure MJ (W0 : World) (FV HV GV V1 V2 : Value) (x y : Int) (f : Nat → Bool) (t9 t30 t31 t32 t33 t34 t35 t36 : Value) (W : World) : Prop where
  below : Below W0.heap.size W0 W
  h0 : f 0 = true → t30 = FV
  h1 : f 1 = true → t31 = GV
  h2 : f 2 = true → t32 = V1
  h3 : f 3 = true → t33 = HV
  h4 : f 4 = true → t34 = GV
  h5 : f 5 = true → t35 = V2
  h6 : f 6 = true → t36 = .agg #[.int .i64 x, .int .i64 y]
  h7 : f 7 = true → ∃ B, t9 = .pointer (some ⟨B, 0, none⟩) ∧ W0.heap.size ≤ B ∧ FqB W B (if f 8 then x else 0) (if f 8 then y else 0)
  d8 : f 8 = true → f 7 = true
section
variable {W0 : World} {FV HV GV V1 V2 : Value} {x y : Int} {f : Nat → Bool} {t9 t30 t31 t32 t33 t34 t35 t36 : Value} {W : World}
theorem MJ.world (h : MJ W0 FV HV GV V1 V2 x y f t9 t30 t31 t32 t33 t34 t35 t36 W) {W' : World} (hb : Below W.heap.size W W') : MJ W0 FV HV GV V1 V2 x y f t9 t30 t31 t32 t33 t34 t35 t36 W' :=
  ⟨bchain hb h.below, fun e => h.h0 e, fun e => h.h1 e, fun e => h.h2 e, fun e => h.h3 e, fun e => h.h4 e, fun e => h.h5 e, fun e => h.h6 e, fun e => let ⟨B, e1, e2, q⟩ := h.h7 e; ⟨B, e1, e2, q.below hb⟩, h.d8⟩
theorem MJ.p0 (h : MJ W0 FV HV GV V1 V2 x y f t9 t30 t31 t32 t33 t34 t35 t36 W) : MJ W0 FV HV GV V1 V2 x y (setf f 0) t9 (FV) t31 t32 t33 t34 t35 t36 W :=
  ⟨h.below, fun _ => rfl, fun e => h.h1 e, fun e => h.h2 e, fun e => h.h3 e, fun e => h.h4 e, fun e => h.h5 e, fun e => h.h6 e, fun e => h.h7 e, fun e => h.d8 e⟩
theorem MJ.p1 (h : MJ W0 FV HV GV V1 V2 x y f t9 t30 t31 t32 t33 t34 t35 t36 W) : MJ W0 FV HV GV V1 V2 x y (setf f 1) t9 t30 (GV) t32 t33 t34 t35 t36 W :=
  ⟨h.below, fun e => h.h0 e, fun _ => rfl, fun e => h.h2 e, fun e => h.h3 e, fun e => h.h4 e, fun e => h.h5 e, fun e => h.h6 e, fun e => h.h7 e, fun e => h.d8 e⟩
theorem MJ.p2 (h : MJ W0 FV HV GV V1 V2 x y f t9 t30 t31 t32 t33 t34 t35 t36 W) : MJ W0 FV HV GV V1 V2 x y (setf f 2) t9 t30 t31 (V1) t33 t34 t35 t36 W :=
  ⟨h.below, fun e => h.h0 e, fun e => h.h1 e, fun _ => rfl, fun e => h.h3 e, fun e => h.h4 e, fun e => h.h5 e, fun e => h.h6 e, fun e => h.h7 e, fun e => h.d8 e⟩
theorem MJ.p3 (h : MJ W0 FV HV GV V1 V2 x y f t9 t30 t31 t32 t33 t34 t35 t36 W) : MJ W0 FV HV GV V1 V2 x y (setf f 3) t9 t30 t31 t32 (HV) t34 t35 t36 W :=
  ⟨h.below, fun e => h.h0 e, fun e => h.h1 e, fun e => h.h2 e, fun _ => rfl, fun e => h.h4 e, fun e => h.h5 e, fun e => h.h6 e, fun e => h.h7 e, fun e => h.d8 e⟩
theorem MJ.p4 (h : MJ W0 FV HV GV V1 V2 x y f t9 t30 t31 t32 t33 t34 t35 t36 W) : MJ W0 FV HV GV V1 V2 x y (setf f 4) t9 t30 t31 t32 t33 (GV) t35 t36 W :=
  ⟨h.below, fun e => h.h0 e, fun e => h.h1 e, fun e => h.h2 e, fun e => h.h3 e, fun _ => rfl, fun e => h.h5 e, fun e => h.h6 e, fun e => h.h7 e, fun e => h.d8 e⟩
theorem MJ.p5 (h : MJ W0 FV HV GV V1 V2 x y f t9 t30 t31 t32 t33 t34 t35 t36 W) : MJ W0 FV HV GV V1 V2 x y (setf f 5) t9 t30 t31 t32 t33 t34 (V2) t36 W :=
  ⟨h.below, fun e => h.h0 e, fun e => h.h1 e, fun e => h.h2 e, fun e => h.h3 e, fun e => h.h4 e, fun _ => rfl, fun e => h.h6 e, fun e => h.h7 e, fun e => h.d8 e⟩
theorem MJ.p6 (h : MJ W0 FV HV GV V1 V2 x y f t9 t30 t31 t32 t33 t34 t35 t36 W) : MJ W0 FV HV GV V1 V2 x y (setf f 6) t9 t30 t31 t32 t33 t34 t35 (.agg #[.int .i64 x, .int .i64 y]) W :=
  ⟨h.below, fun e => h.h0 e, fun e => h.h1 e, fun e => h.h2 e, fun e => h.h3 e, fun e => h.h4 e, fun e => h.h5 e, fun _ => rfl, fun e => h.h7 e, fun e => h.d8 e⟩
theorem MJ.a7 (h : MJ W0 FV HV GV V1 V2 x y f t9 t30 t31 t32 t33 t34 t35 t36 W) (hf : f 7 = false) (t : TypeId) : MJ W0 FV HV GV V1 V2 x y (setf f 7) (.pointer (some ⟨W.heap.size, 0, none⟩)) t30 t31 t32 t33 t34 t35 t36 (W.alloc (.cells #[.int .i64 0, .int .i64 0] t)) := by
  have hb : Below W.heap.size W (W.alloc (.cells #[.int .i64 0, .int .i64 0] t)) := balloc (Below.refl _ _) _
  have h8 : ¬ f 8 = true := fun e => by have := h.d8 e; rw [hf] at this; cases this
  have k := h.world hb
  refine ⟨k.below, fun e => k.h0 e, fun e => k.h1 e, fun e => k.h2 e, fun e => k.h3 e, fun e => k.h4 e, fun e => k.h5 e, fun e => k.h6 e, fun _ => ⟨W.heap.size, rfl, h.below.size, ?_⟩, fun _ => rfl⟩
  show FqB _ _ (if f 8 then x else 0) (if f 8 then y else 0)
  rw [if_neg h8, if_neg h8]
  exact FqB.made W 0 0 t
theorem MJ.s8 (h : MJ W0 FV HV GV V1 V2 x y f t9 t30 t31 t32 t33 t34 t35 t36 W) (g7 : f 7 = true) {B : Nat} {x' y' : Int} (e0 : t9 = .pointer (some ⟨B, 0, none⟩)) (hB : W0.heap.size ≤ B) (k0 : FqB W B x' y') : MJ W0 FV HV GV V1 V2 x y (setf f 8) t9 t30 t31 t32 t33 t34 t35 t36 ((W.setCell ⟨B, 0, none⟩ (.int .i64 x)).setCell ⟨B, 1, none⟩ (.int .i64 y)) :=
  ⟨(h.below.setCell (p := ⟨B, 0, none⟩) hB _).setCell (p := ⟨B, 1, none⟩) hB _, fun e => h.h0 e, fun e => h.h1 e, fun e => h.h2 e, fun e => h.h3 e, fun e => h.h4 e, fun e => h.h5 e, fun e => h.h6 e, fun _ => ⟨B, e0, hB, k0.put x y⟩, fun _ => g7⟩
end
/-- boxes in old blocks -/
theorem FqB.block {W W' : World} {B : Nat} {p q : Int} (h : FqB W B p q) (hz : W.heap.size ≤ W'.heap.size) (hs : W'.heap[B]? = W.heap[B]?) : FqB W' B p q :=
  ⟨Nat.lt_of_lt_of_le h.lt hz, (World.cell?_of_block (a := ⟨B, 0, none⟩) hs).trans h.c0, (World.cell?_of_block (a := ⟨B, 1, none⟩) hs).trans h.c1, fun o => (World.frozen?_of_block (a := ⟨B, o, none⟩) hs).trans (h.fz o)⟩
theorem Fd0.block {W W' : World} {G : Nat} {k0 n0 e0 k n e : Int} (h : Fd0 W G k0 n0 e0 k n e) (hz : W.heap.size ≤ W'.heap.size) (h0 : W'.heap[G]? = W.heap[G]?) (h1 : W'.heap[G + 1]? = W.heap[G + 1]?) (h2 : W'.heap[G + 2]? = W.heap[G + 2]?) : Fd0 W' G k0 n0 e0 k n e :=
  ⟨h.f.block hz h0, h.g.block hz h1, h.r.block hz h2⟩
/-- what the loop keeps: all old blocks but the farthest one's -/
structure KI (w w8 : World) (Bf : Nat) (M : Int × Int) (A : World) : Prop where
  below : Below w.heap.size w A
  ge : w8.heap.size ≤ A.heap.size
  old : ∀ b, b < w8.heap.size → b ≠ Bf → A.heap[b]? = w8.heap[b]?
  far : FqB A Bf M.1 M.2
theorem KI.chg {w w8 A A' : World} {Bf : Nat} {M : Int × Int} {Own : Nat → Prop} (hw : w.heap.size ≤ w8.heap.size) (hB : Bf < w8.heap.size) (ho : ∀ b, Own b → w8.heap.size ≤ b) (h : KI w w8 Bf M A) (hc : Chg Own A A') : KI w w8 Bf M A' := by
  have hs : ∀ b, b < w8.heap.size → A'.heap[b]? = A.heap[b]? := fun b hb => hc.same b (Nat.lt_of_lt_of_le hb h.ge) (fun c => by have := ho b c; omega)
  exact ⟨⟨hc.os.trans h.below.os, hc.tape.trans h.below.tape, hc.output.trans h.below.output, Nat.le_trans h.below.size hc.size, fun q hq => (hs q (by omega)).trans (h.below.block q hq)⟩, Nat.le_trans h.ge hc.size, fun b hb hne => (hs b hb).trans (h.old b hb hne), h.far.block hc.size (hs Bf hB)⟩
theorem KI.after {w w8 A A' : World} {Bf : Nat} {M : Int × Int} (hw : w.heap.size ≤ w8.heap.size) (h : KI w w8 Bf M A) (hb : Below A.heap.size A A') : KI w w8 Bf M A' :=
  ⟨h.below.trans (hb.mono (by have := h.ge; omega)), Nat.le_trans h.ge hb.size, fun b h1 h2 => (hb.block b (by have := h.ge; omega)).trans (h.old b h1 h2), h.far.below hb⟩
theorem KI.oth {w w8 A : World} {Bf : Nat} {M : Int × Int} (h : KI w w8 Bf M A) (hw : w.heap.size ≤ w8.heap.size) (hB : Bf < w8.heap.size) {a : Addr} (hp : w8.heap.size ≤ a.block) (v : Value) : KI w w8 Bf M (A.setCell a v) := by
  have hs : ∀ b, b < w8.heap.size → (A.setCell a v).heap[b]? = A.heap[b]? := fun b hb => Below.heap_setCell _ _ _ _ (by omega)
  exact ⟨h.below.setCell (by omega) _, by simpa using h.ge, fun b h1 h2 => (hs b h1).trans (h.old b h1 h2), h.far.block (by simp) (hs Bf hB)⟩
theorem FqB.put0 {W : World} {B : Nat} {p q : Int} (h : FqB W B p q) (p' : Int) : FqB (W.setCell ⟨B, 0, none⟩ (.int .i64 p')) B p' q :=
  ⟨by simpa using h.lt, World.cell?_setCell_same _ _ _ h.c0, (World.cell?_setCell_other _ _ _ _ (by simp)).trans h.c1, fun o => by simp [h.fz o]⟩
theorem KI.put {w w8 A : World} {Bf : Nat} {M : Int × Int} (hw : w.heap.size ≤ Bf) (h : KI w w8 Bf M A) (p q : Int) : KI w w8 Bf (p, q) ((A.setCell ⟨Bf, 0, none⟩ (.int .i64 p)).setCell ⟨Bf, 1, none⟩ (.int .i64 q)) :=
  ⟨(h.below.setCell (p := ⟨Bf, 0, none⟩) hw _).setCell (p := ⟨Bf, 1, none⟩) hw _, by simpa using h.ge, fun b h1 h2 => (Below.heap_setCell _ _ _ _ (by show b ≠ Bf; omega)).trans ((Below.heap_setCell _ _ _ _ (by show b ≠ Bf; omega)).trans (h.old b h1 h2)), h.far.put p q⟩
section
variable (w : World)
theorem iff_err (k0 n0 e0 k n e c : Int) (hc : c = 1 ∨ c = 4) (hC : CtA k0 n0 e0 k n e c) :
    Calls Tryd.prog 27 #[.agg #[.int .i64 k0, .int .i64 n0, .int .u32 e0], .agg #[.int .i64 k, .int .i64 n, .int .u32 e]] w fun r w' => r = .returned (.tuple #[.agg #[.int .i64 0, .int .i64 0], .int .i64 c]) ∧ Below w.heap.size w w' := by
  unfold CtA at hC
  replace hC := Lib.hid hC
  have kk0 := Lib.hid (fd0_made w k0 n0 e0 k n e)
  rcases hc with rfl | rfl
  all_goals
    go_enter Tryd.func27, Tryd.ntmps27
    go_wp2_with fail
    refine (hC.out _ _ (by simp) _ rfl).mono ?_
    rintro r3 w3 ⟨rfl, hb3⟩
    have kk := (kk0.out.below (balloc (Below.refl _ _) _)).below hb3
    obtain ⟨_, z0, z1, z2⟩ := id kk.r
    have z20 := z2 0
    have z21 := z2 1
    obtain ⟨_, F0, F1, _⟩ := kk.r.put 0 0
    go_wp2
    exact bodyPost_ret (v := .tuple #[.agg #[.int .i64 0, .int .i64 0], .int .i64 _]) (by simp [results, Tryd.results27, go_sem, F0, F1] <;> rfl) rfl ⟨rfl, by (repeat (first | exact Below.refl _ _ | assumption | refine bchain (by assumption) ?_ | refine balloc ?_ _ | apply Below.drew | apply below_drewN | (refine Below.alloc ?_ (by (try simp) <;> omega) _) | (refine Below.setCell ?_ (by (try simp) <;> omega) _)))⟩
theorem iff_rng (k0 n0 e0 k n e : Int) (m : Int) (hm : m = max n0 n) (hlt : 4 < m) (hC : CtA k0 n0 e0 k n e 0) :
    Calls Tryd.prog 27 #[.agg #[.int .i64 k0, .int .i64 n0, .int .u32 e0], .agg #[.int .i64 k, .int .i64 n, .int .u32 e]] w fun r w' => r = .returned (.tuple #[.agg #[.int .i64 0, .int .i64 0], .int .i64 2]) ∧ Below w.heap.size w w' := by
  unfold CtA at hC
  replace hC := Lib.hid hC
  have kk0 := Lib.hid (fd0_made w k0 n0 e0 k n e)
  have hz1 := Lib.hid (fun W => siz_any W k0 n0 e0)
  have hz2 := Lib.hid (fun W => siz_any W k n e)
  have hd := decide_eq_true hlt
  go_enter Tryd.func27, Tryd.ntmps27
  go_wp2_with fail
  refine (hC.out _ _ (by simp) _ rfl).mono ?_
  rintro r3 w3 ⟨rfl, hb3⟩
  have kk := Lib.hid ((kk0.out.below (balloc (Below.refl _ _) _)).below hb3)
  obtain ⟨a0, a1, a2, a3⟩ := id kk.out.f
  obtain ⟨b0, b1, b2, b3⟩ := id kk.out.g
  have hB3 : Below w.heap.size w w3 := by (repeat (first | exact Below.refl _ _ | assumption | refine bchain (by assumption) ?_ | refine balloc ?_ _ | apply Below.drew | apply below_drewN | (refine Below.alloc ?_ (by (try simp) <;> omega) _) | (refine Below.setCell ?_ (by (try simp) <;> omega) _)))
  go_wp2
  go_region_held3 (fun A => A.cell? ⟨w.heap.size, 0, none⟩ = some (.int .i64 k0) ∧ A.cell? ⟨w.heap.size, 1, none⟩ = some (.int .i64 n0) ∧ A.cell? ⟨w.heap.size, 2, none⟩ = some (.int .u32 e0) ∧ A.cell? ⟨w.heap.size + 1, 0, none⟩ = some (.int .i64 k) ∧ A.cell? ⟨w.heap.size + 1, 1, none⟩ = some (.int .i64 n) ∧ A.cell? ⟨w.heap.size + 1, 2, none⟩ = some (.int .u32 e))
    (exact ⟨old_cell a0 a1 (by (repeat (first | exact Below.refl _ _ | assumption | refine bchain (by assumption) ?_ | refine balloc ?_ _ | apply Below.drew | apply below_drewN | (refine Below.alloc ?_ (by (try simp) <;> omega) _) | (refine Below.setCell ?_ (by (try simp) <;> omega) _)))), old_cell a0 a2 (by (repeat (first | exact Below.refl _ _ | assumption | refine bchain (by assumption) ?_ | refine balloc ?_ _ | apply Below.drew | apply below_drewN | (refine Below.alloc ?_ (by (try simp) <;> omega) _) | (refine Below.setCell ?_ (by (try simp) <;> omega) _)))), old_cell a0 a3 (by (repeat (first | exact Below.refl _ _ | assumption | refine bchain (by assumption) ?_ | refine balloc ?_ _ | apply Below.drew | apply below_drewN | (refine Below.alloc ?_ (by (try simp) <;> omega) _) | (refine Below.setCell ?_ (by (try simp) <;> omega) _)))), old_cell b0 b1 (by (repeat (first | exact Below.refl _ _ | assumption | refine bchain (by assumption) ?_ | refine balloc ?_ _ | apply Below.drew | apply below_drewN | (refine Below.alloc ?_ (by (try simp) <;> omega) _) | (refine Below.setCell ?_ (by (try simp) <;> omega) _)))), old_cell b0 b2 (by (repeat (first | exact Below.refl _ _ | assumption | refine bchain (by assumption) ?_ | refine balloc ?_ _ | apply Below.drew | apply below_drewN | (refine Below.alloc ?_ (by (try simp) <;> omega) _) | (refine Below.setCell ?_ (by (try simp) <;> omega) _)))), old_cell b0 b3 (by (repeat (first | exact Below.refl _ _ | assumption | refine bchain (by assumption) ?_ | refine balloc ?_ _ | apply Below.drew | apply below_drewN | (refine Below.alloc ?_ (by (try simp) <;> omega) _) | (refine Below.setCell ?_ (by (try simp) <;> omega) _))))⟩)
    (first
      | (go_at_call 47; first | (with_reducible refine (hz1.out _).mono ?_; rintro r4 w4 ⟨rfl, hb4⟩) | (with_reducible refine (hz2.out _).mono ?_; rintro r5 w5 ⟨rfl, hb5⟩)))
  all_goals
    have hmm : (if n0 < n then n else n0) = m := by rw [hm]; split <;> omega
    rw [hmm]
    have k5 := kk.out.below (show Below w3.heap.size w3 w5 by (repeat (first | exact Below.refl _ _ | assumption | refine bchain (by assumption) ?_ | refine balloc ?_ _ | apply Below.drew | apply below_drewN | (refine Below.alloc ?_ (by (try simp) <;> omega) _) | (refine Below.setCell ?_ (by (try simp) <;> omega) _))))
    obtain ⟨_, z0, z1, z2⟩ := id k5.r
    have z20 := z2 0
    have z21 := z2 1
    obtain ⟨_, F0, F1, _⟩ := k5.r.put 0 0
    replace k5 := Lib.hid k5
    go_wp2
    exact bodyPost_ret (v := .tuple #[.agg #[.int .i64 0, .int .i64 0], .int .i64 _]) (by simp [results, Tryd.results27, go_sem, F0, F1] <;> rfl) rfl ⟨rfl, by (repeat (first | exact Below.refl _ _ | assumption | refine bchain (by assumption) ?_ | refine balloc ?_ _ | apply Below.drew | apply below_drewN | (refine Below.alloc ?_ (by (try simp) <;> omega) _) | (refine Below.setCell ?_ (by (try simp) <;> omega) _)))⟩
set_option maxHeartbeats 4000000 in
theorem iff_ok (k n0 e0 n1 e1 : Nat) (hf : VK k n0 e0) (hg : VK k n1 e1) (hl : n0 ≤ 4) (hr : n1 ≤ 4) (hT : TabZ w) (hC : CtA k n0 e0 k n1 e1 0) :
    Calls Tryd.prog 27 #[.agg #[.int .i64 k, .int .i64 n0, .int .u32 e0], .agg #[.int .i64 k, .int .i64 n1, .int .u32 e1]] w fun r w' => r = .returned (.tuple #[.agg #[.int .i64 (faM (faD k n0 e0 n1 e1 4) (faE k (onL e0 (List.range k)))).1, .int .i64 (faM (faD k n0 e0 n1 e1 4) (faE k (onL e0 (List.range k)))).2], .int .i64 0]) ∧ Below w.heap.size w w' := by
  obtain ⟨_, _, hk3, hk0⟩ := hf.nums
  obtain ⟨_, _, _, hk1⟩ := hg.nums
  unfold CtA at hC
  replace hC := Lib.hid hC
  have kk0 := Lib.hid (fd0_made w k n0 e0 k n1 e1)
  have hz1 := Lib.hid (fun W => siz_any W k n0 e0)
  have hz2 := Lib.hid (fun W => siz_any W k n1 e1)
  have hTy := Lib.hid (fun W => ity_any W k n0 e0 hf)
  have htl : onL e0 (List.range k) < eMax k := onL_ltP e0 (range_ok (n := n0) hk0) (by omega)
  obtain ⟨t, ht⟩ : ∃ t, onL e0 (List.range k) = t := ⟨_, rfl⟩
  rw [ht] at hTy htl ⊢
  have hD1 := Lib.hid (fun W (hW : Below w.heap.size w W) (E : Nat) (hE : VK k ((4 : Nat) : Int) E) => (show Calls Tryd.prog 66 #[.agg #[.int .i64 k, .int .i64 n0, .int .u32 e0], .agg #[.int .i64 k, .int .i64 4, .int .u32 E]] W fun r w' => r = .returned (.agg #[.int .i64 (fdF k 4 E n0 e0).1, .int .i64 (fdF k 4 E n0 e0).2]) ∧ Below W.heap.size W w' from ifd_any W k 4 E n0 e0 hE hf hl (hT.below hW)))
  have hD2 := Lib.hid (fun W (hW : Below w.heap.size w W) (E : Nat) (hE : VK k ((4 : Nat) : Int) E) => (show Calls Tryd.prog 66 #[.agg #[.int .i64 k, .int .i64 n1, .int .u32 e1], .agg #[.int .i64 k, .int .i64 4, .int .u32 E]] W fun r w' => r = .returned (.agg #[.int .i64 (fdF k 4 E n1 e1).1, .int .i64 (fdF k 4 E n1 e1).2]) ∧ Below W.heap.size W w' from ifd_any W k 4 E n1 e1 hE hg hr (hT.below hW)))
  have hM := Lib.hid (fun W (E : Nat) => Fr.minus_any W (fdF k 4 E n0 e0) (fdF k 4 E n1 e1) (fd_vf (by omega) hk0 hl) (fd_vf (by omega) hk1 hr))
  have hDv := fun E => faD_at (k := k) (n0 := n0) (n1 := n1) (n := 4) e0 e1 E (by omega) ⟨hk0, hl⟩ ⟨hk1, hr⟩
  have hMs := Lib.hid (fun E => (hDv E).1)
  have hDp := Lib.hid (fun E => (hDv E).2)
  obtain ⟨D, hDd⟩ : ∃ D, faD k n0 e0 n1 e1 4 = D := ⟨_, rfl⟩
  rw [hDd] at hDv hMs hDp ⊢
  have hMv := Lib.hid (fun l => faM_ok (fun E => (hDv E).2) l)
  have hel := Lib.hid (fun E (hE : E ∈ faE k t) => faE_vk hk3 htl hE)
  have hWh := Lib.hid (fun W => Fr.whole_any W 0)
  have hLf := Lib.hid (fun W => lfo_any W (k : Int) (t : Int) 4)
  have hmx : ∃ m : Int, (if n0 < n1 then (n1 : Int) else (n0 : Int)) = m ∧ m ≤ 4 := ⟨_, rfl, by split <;> omega⟩
  clear ht hDd hDv hf hg
  refine (callsIn_wide (n := 7)).1 ?_
  refine callsIn_of_wp_marks Tryd.func27 rfl trivial ?_ rfl
  simp only [Tryd.ntmps27, List.size_toArray, List.length_cons, List.length_nil, Nat.reduceAdd, Nat.reduceSub, Array.replicate_succ, Array.replicate_zero, List.push_toArray, List.append_toArray, List.nil_append, List.cons_append]
  gi_wp2_with fail
  refine ⟨trivial, ?_⟩
  gi_at_call 32
  refine (callsIn_wide.2 (hC.out _ _ (by simp) _ rfl)).mono ?_
  rintro r3 w3 ⟨rfl, hb3⟩
  have kk := Lib.hid ((kk0.out.below (balloc (Below.refl _ _) _)).below hb3)
  obtain ⟨a0, a1, a2, a3⟩ := id kk.out.f
  obtain ⟨b0, b1, b2, b3⟩ := id kk.out.g
  have hB3 : Below w.heap.size w w3 := by (repeat (first | exact Below.refl _ _ | assumption | refine bchain (by assumption) ?_ | refine balloc ?_ _ | apply Below.drew | apply below_drewN | (refine Below.alloc ?_ (by (try simp) <;> omega) _) | (refine Below.setCell ?_ (by (try simp) <;> omega) _)))
  gi_wp2
  refine wpIn_wide.2 ?_
  go_region_held3 (fun A => A.cell? ⟨w.heap.size, 0, none⟩ = some (.int .i64 k) ∧ A.cell? ⟨w.heap.size, 1, none⟩ = some (.int .i64 n0) ∧ A.cell? ⟨w.heap.size, 2, none⟩ = some (.int .u32 e0) ∧ A.cell? ⟨w.heap.size + 1, 0, none⟩ = some (.int .i64 k) ∧ A.cell? ⟨w.heap.size + 1, 1, none⟩ = some (.int .i64 n1) ∧ A.cell? ⟨w.heap.size + 1, 2, none⟩ = some (.int .u32 e1))
    (exact ⟨old_cell a0 a1 (by (repeat (first | exact Below.refl _ _ | assumption | refine bchain (by assumption) ?_ | refine balloc ?_ _ | apply Below.drew | apply below_drewN | (refine Below.alloc ?_ (by (try simp) <;> omega) _) | (refine Below.setCell ?_ (by (try simp) <;> omega) _)))), old_cell a0 a2 (by (repeat (first | exact Below.refl _ _ | assumption | refine bchain (by assumption) ?_ | refine balloc ?_ _ | apply Below.drew | apply below_drewN | (refine Below.alloc ?_ (by (try simp) <;> omega) _) | (refine Below.setCell ?_ (by (try simp) <;> omega) _)))), old_cell a0 a3 (by (repeat (first | exact Below.refl _ _ | assumption | refine bchain (by assumption) ?_ | refine balloc ?_ _ | apply Below.drew | apply below_drewN | (refine Below.alloc ?_ (by (try simp) <;> omega) _) | (refine Below.setCell ?_ (by (try simp) <;> omega) _)))), old_cell b0 b1 (by (repeat (first | exact Below.refl _ _ | assumption | refine bchain (by assumption) ?_ | refine balloc ?_ _ | apply Below.drew | apply below_drewN | (refine Below.alloc ?_ (by (try simp) <;> omega) _) | (refine Below.setCell ?_ (by (try simp) <;> omega) _)))), old_cell b0 b2 (by (repeat (first | exact Below.refl _ _ | assumption | refine bchain (by assumption) ?_ | refine balloc ?_ _ | apply Below.drew | apply below_drewN | (refine Below.alloc ?_ (by (try simp) <;> omega) _) | (refine Below.setCell ?_ (by (try simp) <;> omega) _)))), old_cell b0 b3 (by (repeat (first | exact Below.refl _ _ | assumption | refine bchain (by assumption) ?_ | refine balloc ?_ _ | apply Below.drew | apply below_drewN | (refine Below.alloc ?_ (by (try simp) <;> omega) _) | (refine Below.setCell ?_ (by (try simp) <;> omega) _))))⟩)
    (first
      | (go_at_call 47; first | (with_reducible refine (hz1.out _).mono ?_; rintro r4 w4 ⟨rfl, hb4⟩) | (with_reducible refine (hz2.out _).mono ?_; rintro r5 w5 ⟨rfl, hb5⟩)))
  all_goals
    obtain ⟨mx, hmx1, hmx2⟩ := hmx
    rw [hmx1]
    have hd := decide_eq_false (show ¬ ((4 : Int) < mx) by omega)
    clear hmx1 a0 a1 a2 a3 b0 b1 b2 b3
    have hb5x : Below w3.heap.size w3 w5 := by (repeat (first | exact Below.refl _ _ | assumption | refine bchain (by assumption) ?_ | refine balloc ?_ _ | apply Below.drew | apply below_drewN | (refine Below.alloc ?_ (by (try simp) <;> omega) _) | (refine Below.setCell ?_ (by (try simp) <;> omega) _)))
    have k5 := Lib.hid (kk.out.below hb5x)
    have hB5 : Below w.heap.size w w5 := hB3.trans (hb5x.mono hB3.size)
    clear hb4 hb5 hb5x hB3 kk
    gi_wp2_with fail
    refine ⟨trivial, ?_⟩
    gi_at_call 64
    refine (callsIn_wide.2 (hWh.out _)).mono ?_
    rintro r6 w6 ⟨rfl, hb6⟩
    have k6 := k5.out.below hb6
    obtain ⟨a0, a1, a2, a3⟩ := id k6.f
    have hB6 : Below w.heap.size w w6 := hB5.trans (hb6.mono hB5.size)
    have hFr0 := FqB.made w6 0 1 28
    have hG2 : w.heap.size + 2 < w6.heap.size := k6.r.lt
    obtain ⟨Bf, hBf⟩ : ∃ Bf, w6.heap.size = Bf := ⟨_, rfl⟩
    have k6' := Lib.hid (k6.below (balloc (Below.refl _ _) (.cells #[.int .i64 0, .int .i64 1] 28)))
    have hB6' : Below w.heap.size w (w6.alloc (.cells #[.int .i64 0, .int .i64 1] 28)) := by (repeat (first | exact Below.refl _ _ | assumption | refine bchain (by assumption) ?_ | refine balloc ?_ _ | apply Below.drew | apply below_drewN | (refine Below.alloc ?_ (by (try simp) <;> omega) _) | (refine Below.setCell ?_ (by (try simp) <;> omega) _)))
    have hz6 : (w6.alloc (.cells #[.int .i64 0, .int .i64 1] 28)).heap.size = Bf + 1 := by simp [hBf]
    rw [hBf] at hFr0 a0 hG2
    replace hFr0 := Lib.hid hFr0
    clear k6 hb6
    gi_wp2_with fail
    refine ⟨trivial, ?_⟩
    gi_at_call 52
    refine (callsIn_wide.2 (hTy.out _)).mono ?_
    rintro r7 w7 ⟨rfl, hb7⟩
    gi_wp2_with fail
    refine ⟨trivial, ?_⟩
    gi_at_call 65
    refine (callsIn_wide.2 (hLf.out _)).mono ?_
    rintro r8 w8 ⟨B, rfl, hBge, hBlt, l0, l1, l2, hb8⟩
    have hb8' : Below (w6.alloc (.cells #[.int .i64 0, .int .i64 1] 28)).heap.size (w6.alloc (.cells #[.int .i64 0, .int .i64 1] 28)) w8 := by (repeat (first | exact Below.refl _ _ | assumption | refine bchain (by assumption) ?_ | refine balloc ?_ _ | apply Below.drew | apply below_drewN | (refine Below.alloc ?_ (by (try simp) <;> omega) _) | (refine Below.setCell ?_ (by (try simp) <;> omega) _)))
    have hz8 := hb8'.size
    have hz7 := hb7.size
    rw [hz6] at hz8 hz7
    have hBgt : Bf < B := by omega
    have hB8 : Below w.heap.size w w8 := hB6'.trans (hb8'.mono hB6'.size)
    have kd8 := Lib.hid (k6'.out.below hb8')
    have hI8 : KI w w8 Bf (0, 1) w8 := ⟨hB8, Nat.le_refl _, fun _ _ _ => rfl, hFr0.out.below hb8'⟩
    have hww : w.heap.size ≤ w8.heap.size := hB8.size
    have hLi : ∀ A : World, (∀ b, b < w8.heap.size → b ≠ Bf → A.heap[b]? = w8.heap[b]?) → LfInv B (B + 1) k 4 t A := fun A h =>
      ⟨(World.cell?_of_block (a := ⟨B, 0, none⟩) (h B (by omega) (by omega))).trans l0, (World.cell?_of_block (a := ⟨B, 1, none⟩) (h B (by omega) (by omega))).trans l1, (World.cell?_of_block (a := ⟨B + 1, 0, none⟩) (h (B + 1) hBlt (by omega))).trans l2⟩
    have kdA : ∀ A M, KI w w8 Bf M A → Fd0 A w.heap.size k n0 e0 k n1 e1 := fun A M h => kd8.out.block h.ge (h.old _ (by omega) (by omega)) (h.old _ (by omega) (by omega)) (h.old _ (by omega) (by omega))
    replace hI8 := Lib.hid hI8
    replace hLi := Lib.hid hLi
    replace kdA := Lib.hid kdA
    clear hb7 hb8 hb8' hB6' hB6 hB5 k5 k6' hFr0 hz6 hBf l0 l1 l2 a0 a1 a2 a3 hz7
    have hlen := faE_le k t
    gi_wp2_with fail
    refine wpIn_range_own2 rfl (by omega) (gf := 101) (lb := #[.pointer (some ⟨B, 0, none⟩), .pointer (some ⟨B + 1, 0, none⟩)]) rfl trivial (enters_of Tryd.func101 (by kernel_rfl) rfl)
      (L := lfs 4 k t) (lf_own k 4 t (by omega) hk3 (by omega) htl 6 B (B + 1) w8 (by omega) hBlt) (Below.refl _ _) rfl (fun _ _ _ _ h _ => h) (fun _ _ _ _ _ _ h _ _ => h)
      (fun _ pre A => KI w w8 Bf (faM D (pre.map (kE t k))) A)
      (fun _ s A hs => hLi.out A hs.old)
      (fun Own ho s A A' hs hc => hs.chg hww (by omega) ho hc)
      (fun _ _ s A _ _ hs => hs)
      (fun Own A ho hA => hI8.out.after hww hA)
      (fun v a' A => ∃ Gb y : Nat, v = .agg #[.int .i64 k, .int .i64 4, .int .u32 y] ∧ FC A Gb k 4 y ∧ a' = { tmps := #[.agg #[.int .i64 k, .int .i64 n0, .int .u32 e0], .agg #[.int .i64 k, .int .i64 n1, .int .u32 e1], .pointer (some ⟨w.heap.size, 0, none⟩), .pointer (some ⟨w.heap.size + 1, 0, none⟩), .pointer (some ⟨w.heap.size + 1 + 1, 0, none⟩), .int .i64 0, .int .i64 0, .pointer (some ⟨Bf, 0, none⟩), .pointer (some ⟨Gb, 0, none⟩), undef, .agg #[.int .i64 k, .int .i64 n0, .int .u32 e0], .agg #[.int .i64 k, .int .i64 n1, .int .u32 e1], .slice (some ⟨w.heap.size + 1 + 1 + 1, 0, none⟩) 2 2, .int .i64 0, .int .i64 0, .bool false, undef, undef, .agg #[.int .i64 k, .int .i64 n0, .int .u32 e0], .int .i64 n0, .agg #[.int .i64 k, .int .i64 n1, .int .u32 e1], .int .i64 n1, .int .i64 mx, .bool false, undef, .agg #[.int .i64 0, .int .i64 1], .agg #[.int .i64 k, .int .i64 n0, .int .u32 e0], .agg #[.int .i64 k, .int .u32 t], .func (.func 101) #[] #[.pointer (some ⟨B, 0, none⟩), .pointer (some ⟨B + 1, 0, none⟩)], v, undef, undef, undef, undef, undef, undef, undef, undef, undef, undef, undef, undef, undef, undef, undef, undef, undef, undef, undef, undef, undef], defers := [] })
      (fun v a' A l o o' h hl ho => by obtain ⟨Gb, y, h1, h2, h3⟩ := h; exact ⟨Gb, y, h1, FC.cellular Gb k 4 y A l o o' h2 hl ho, h3⟩) ?assign ?body ?done
    case assign =>
      intro l j v A K hv hK
      obtain rfl : v = _ := hv
      gi_wp2
      exact hK _ _ ((Below.refl _ _).alloc (Nat.le_refl _) _) ⟨A.heap.size, kE t k j, rfl, FC.made A k 4 _ _, rfl⟩
    case body =>
      rintro l Own pre j rest v a' A ho hL hI hS ⟨Gb, y, hv, kG, rfl⟩
      have hS' : v = .agg #[.int .i64 k, .int .i64 ((4 : Nat) : Int), .int .u32 (kE t k j : Nat)] := hS
      have hy : kE t k j = y := by
        rw [hv] at hS'
        simp at hS'
        omega
      have hVE := hel.out _ (faE_split hL)
      rw [hy] at hVE
      have hst := Lib.hid (show faM D ((pre ++ [j]).map (kE t k)) = faS (faM D (pre.map (kE t k))) (aF (D y)) by rw [List.map_append, List.map_cons, List.map_nil, faM_snoc, hy])
      have hmv := hMv.out (pre.map (kE t k))
      obtain ⟨M, hMd⟩ : ∃ M, faM D (pre.map (kE t k)) = M := ⟨_, rfl⟩
      rw [hMd] at hI hst hmv
      have hm1 := hMs.out y
      have hMc := Lib.hid (fun W => hM.out W y)
      rw [hm1] at hMc
      have hC1 := Lib.hid (fun W hW => hD1.out W hW y hVE)
      have hC2 := Lib.hid (fun W hW => hD2.out W hW y hVE)
      have hDy := hDp.out y
      obtain ⟨sx, hsx, hsp⟩ := faS_sub hmv.1 (aF_sm hDy.1)
      have hMm := Lib.hid (fun W => Fr.minus_any W (aF (D y)) M (aF_vp hDy.2) hmv.2)
      rw [hsx] at hMm
      obtain ⟨x1, hx1⟩ : ∃ x, (fdF k 4 y n0 e0).1 = x := ⟨_, rfl⟩
      obtain ⟨y1, hy1⟩ : ∃ x, (fdF k 4 y n0 e0).2 = x := ⟨_, rfl⟩
      obtain ⟨x2, hx2⟩ : ∃ x, (fdF k 4 y n1 e1).1 = x := ⟨_, rfl⟩
      obtain ⟨y2, hy2⟩ : ∃ x, (fdF k 4 y n1 e1).2 = x := ⟨_, rfl⟩
      obtain ⟨x3, hx3⟩ : ∃ x, (D y).1 = x := ⟨_, rfl⟩
      obtain ⟨y3, hy3⟩ : ∃ x, (D y).2 = x := ⟨_, rfl⟩
      obtain ⟨x4, y4⟩ := M
      obtain ⟨sp, sq⟩ := sx
      have hD3 := hDy.1.1
      rw [hx3] at hD3
      unfold aF at hMm hst hsp
      rw [hx3, hy3] at hMm hst hsp
      dsimp only at hMm hst hsp
      obtain ⟨m3, hm3⟩ : ∃ m, (if x3 < 0 then -x3 else x3) = m := ⟨_, rfl⟩
      rw [hm3] at hMm hst hsp
      have hm3' : (if x3 < -x3 then -x3 else x3) = m3 := by rw [← hm3]; split <;> split <;> omega
      have hneg : IntKind.i64.wrap (-x3) = -x3 := IntWalk.i64_in _ ⟨by omega, by omega⟩
      simp only [Fr.fv, Fr.qe] at hMc hMm
      rw [hx1, hy1] at hC1 hMc
      rw [hx2, hy2] at hC2 hMc
      rw [hx3, hy3] at hMc
      have kd := Lib.hid (kdA.out A _ hI)
      have hAw := hI.below
      have hG8 := hI.ge
      have hGl := kG.lt
      obtain rfl : v = .agg #[.int .i64 k, .int .i64 4, .int .u32 y] := hv
      replace kG := Lib.hid kG
      replace hI := Lib.hid hI
      replace hm3' := Lib.hid hm3'
      replace hsp := Lib.hid hsp
      replace ho := Lib.hid ho
      clear hMd hMs hDp hMv hel hM hD1 hD2 hx1 hy1 hx2 hy2 hx3 hy3 hm1 hVE hDy hsx hmv hm3 hL hS hS' hy kd8 hI8 hLi kdA hTy hLf hWh hz1 hz2 kk0 hC
      gi_wp2
      refine wpInR_region_inv (fun f ac W => ∃ t9 t30 t31 t32 t33 t34 t35 t36, ac = { tmps := #[.agg #[.int .i64 k, .int .i64 n0, .int .u32 e0], .agg #[.int .i64 k, .int .i64 n1, .int .u32 e1], .pointer (some ⟨w.heap.size, 0, none⟩), .pointer (some ⟨w.heap.size + 1, 0, none⟩), .pointer (some ⟨w.heap.size + 1 + 1, 0, none⟩), .int .i64 0, .int .i64 0, .pointer (some ⟨Bf, 0, none⟩), .pointer (some ⟨Gb, 0, none⟩), t9, .agg #[.int .i64 k, .int .i64 n0, .int .u32 e0], .agg #[.int .i64 k, .int .i64 n1, .int .u32 e1], .slice (some ⟨w.heap.size + 1 + 1 + 1, 0, none⟩) 2 2, .int .i64 0, .int .i64 0, .bool false, undef, undef, .agg #[.int .i64 k, .int .i64 n0, .int .u32 e0], .int .i64 n0, .agg #[.int .i64 k, .int .i64 n1, .int .u32 e1], .int .i64 n1, .int .i64 mx, .bool false, undef, .agg #[.int .i64 0, .int .i64 1], .agg #[.int .i64 k, .int .i64 n0, .int .u32 e0], .agg #[.int .i64 k, .int .u32 t], .func (.func 101) #[] #[.pointer (some ⟨B, 0, none⟩), .pointer (some ⟨B + 1, 0, none⟩)], .agg #[.int .i64 k, .int .i64 4, .int .u32 y], t30, t31, t32, t33, t34, t35, t36, undef, undef, undef, undef, undef, undef, undef, undef, undef, undef, undef, undef, undef, undef], defers := [] } ∧ MJ A (.agg #[.int .i64 k, .int .i64 n0, .int .u32 e0]) (.agg #[.int .i64 k, .int .i64 n1, .int .u32 e1]) (.agg #[.int .i64 k, .int .i64 4, .int .u32 y]) (.agg #[.int .i64 x1, .int .i64 y1]) (.agg #[.int .i64 x2, .int .i64 y2]) x3 y3 f t9 t30 t31 t32 t33 t34 t35 t36 W) (by kernel_rfl) (by kernel_rfl) (by kernel_rfl) ?start ?step ?last
      case start => exact ⟨_, _, _, _, _, _, _, _, rfl, (Below.refl _ A).drew, fun e => (by cases e), fun e => (by cases e), fun e => (by cases e), fun e => (by cases e), fun e => (by cases e), fun e => (by cases e), fun e => (by cases e), fun e => (by cases e), fun e => (by cases e)⟩
      case step =>
        intro i o f ac W ho hf hdep hI
        obtain ⟨t9, t30, t31, t32, t33, t34, t35, t36, rfl, hJ⟩ := hI
        have hi : i < 9 := (Array.getElem?_eq_some_iff.1 ho).1
        have hc : i = 0 ∨ i = 1 ∨ i = 2 ∨ i = 3 ∨ i = 4 ∨ i = 5 ∨ i = 6 ∨ i = 7 ∨ i = 8 := by omega
        clear hi
        rcases hc with rfl | rfl | rfl | rfl | rfl | rfl | rfl | rfl | rfl
        · obtain rfl := Option.some.inj ho
          obtain ⟨_, z0, z1, z2⟩ := (kd.out.below hJ.below).f
          refine wpOpS_step rfl (fun K hK => ?_)
          go_simp
          exact hK _ _ ⟨_, _, _, _, _, _, _, _, rfl, hJ.p0⟩
        · obtain rfl := Option.some.inj ho
          obtain ⟨_, z0, z1, z2⟩ := kG.out.below hJ.below
          refine wpOpS_step rfl (fun K hK => ?_)
          go_simp
          exact hK _ _ ⟨_, _, _, _, _, _, _, _, rfl, hJ.p1⟩
        · obtain rfl := Option.some.inj ho
          have d0 : f 0 = true := hdep ⟨0, .data⟩ (by simp) (by decide)
          have d1 : f 1 = true := hdep ⟨1, .data⟩ (by simp) (by decide)
          obtain rfl := hJ.h0 d0
          obtain rfl := hJ.h1 d1
          refine wpOpS_step rfl (fun K hK => ?_)
          go_simp
          go_wp2_with (go_at_call 66; refine (hC1.out _ (bchain hJ.below hAw)).mono ?_; rintro r3 w3 ⟨rfl, hb3⟩)
          exact ⟨_, _, _, _, _, _, _, _, rfl, (hJ.world hb3).p2⟩
        · obtain rfl := Option.some.inj ho
          obtain ⟨_, z0, z1, z2⟩ := (kd.out.below hJ.below).g
          refine wpOpS_step rfl (fun K hK => ?_)
          go_simp
          exact hK _ _ ⟨_, _, _, _, _, _, _, _, rfl, hJ.p3⟩
        · obtain rfl := Option.some.inj ho
          obtain ⟨_, z0, z1, z2⟩ := kG.out.below hJ.below
          refine wpOpS_step rfl (fun K hK => ?_)
          go_simp
          exact hK _ _ ⟨_, _, _, _, _, _, _, _, rfl, hJ.p4⟩
        · obtain rfl := Option.some.inj ho
          have d3 : f 3 = true := hdep ⟨3, .data⟩ (by simp) (by decide)
          have d4 : f 4 = true := hdep ⟨4, .data⟩ (by simp) (by decide)
          obtain rfl := hJ.h3 d3
          obtain rfl := hJ.h4 d4
          refine wpOpS_step rfl (fun K hK => ?_)
          go_simp
          go_wp2_with (go_at_call 66; refine (hC2.out _ (bchain hJ.below hAw)).mono ?_; rintro r3 w3 ⟨rfl, hb3⟩)
          exact ⟨_, _, _, _, _, _, _, _, rfl, (hJ.world hb3).p5⟩
        · obtain rfl := Option.some.inj ho
          have d2 : f 2 = true := hdep ⟨2, .data⟩ (by simp) (by decide)
          have d5 : f 5 = true := hdep ⟨5, .data⟩ (by simp) (by decide)
          obtain rfl := hJ.h2 d2
          obtain rfl := hJ.h5 d5
          refine wpOpS_step rfl (fun K hK => ?_)
          go_simp
          go_wp2_with (go_at_call 67; refine (hMc.out _).mono ?_; rintro r3 w3 ⟨rfl, hb3⟩)
          exact ⟨_, _, _, _, _, _, _, _, rfl, (hJ.world hb3).p6⟩
        · obtain rfl := Option.some.inj ho
          refine wpOpS_step rfl (fun K hK => ?_)
          go_simp
          exact hK _ _ ⟨_, _, _, _, _, _, _, _, rfl, hJ.a7 hf _⟩
        · obtain rfl := Option.some.inj ho
          have d7 : f 7 = true := hdep ⟨7, .data⟩ (by simp) (by decide)
          have d6 : f 6 = true := hdep ⟨6, .data⟩ (by simp) (by decide)
          obtain ⟨D0, rfl, hD0, k0⟩ := hJ.h7 d7
          obtain rfl := hJ.h6 d6
          obtain ⟨_, z0, z1, z2⟩ := id k0
          have z20 := z2 0
          have z21 := z2 1
          refine wpOpS_step rfl (fun K hK => ?_)
          go_simp
          exact hK _ _ ⟨_, _, _, _, _, _, _, _, rfl, hJ.s8 d7 rfl hD0 k0⟩
      case last =>
        intro f ac W hall hIx
        obtain ⟨t9, t30, t31, t32, t33, t34, t35, t36, rfl, hJ⟩ := hIx
        obtain rfl := hJ.h0 (hall 0 (show 0 < 9 by decide))
        obtain rfl := hJ.h1 (hall 1 (show 1 < 9 by decide))
        obtain rfl := hJ.h2 (hall 2 (show 2 < 9 by decide))
        obtain rfl := hJ.h3 (hall 3 (show 3 < 9 by decide))
        obtain rfl := hJ.h4 (hall 4 (show 4 < 9 by decide))
        obtain rfl := hJ.h5 (hall 5 (show 5 < 9 by decide))
        obtain rfl := hJ.h6 (hall 6 (show 6 < 9 by decide))
        obtain ⟨D0, rfl, hD0, kB⟩ := hJ.h7 (hall 7 (show 7 < 9 by decide))
        rw [if_pos (hall 8 (show 8 < 9 by decide)), if_pos (hall 8 (show 8 < 9 by decide))] at kB
        have hAW := hJ.below
        have hIW := Lib.hid (hI.out.after hww hAW)
        have hoW := Lib.hid (fun b (hb : Own b) => hAW.block b (ho.out b hb).2)
        clear hJ hall
        obtain ⟨_, u0, u1, u2⟩ := id kB
        have u20 := u2 0
        have u21 := u2 1
        obtain ⟨_, v0, v1, v2⟩ := id hIW.out.far
        have hne : Bf ≠ D0 := by omega
        have hne' : D0 ≠ Bf := by omega
        have hzA := hAW.size
        rcases Int.lt_or_le x3 (-x3) with hq | hq
        · obtain rfl : m3 = -x3 := by rw [← hm3'.out, if_pos hq]
          gi_wp2_with fail
          refine ⟨trivial, (CallsIn.inRound l (callsIn_wide.2 (hMm.out _))).mono ?_⟩
          rintro r5 w5 ⟨rfl, hb5⟩
          have hI5 := (hIW.out.oth hww (by omega) (a := ⟨D0, 0, none⟩) (by show w8.heap.size ≤ D0; omega) (.int .i64 (-x3))).after hww hb5
          have kB5 := (kB.put0 (-x3)).below hb5
          have ho5 := Lib.hid (fun b (hb : Own b) => (show w5.heap[b]? = A.heap[b]? from (hb5.block b (by have := (ho.out b hb).2; simp; omega)).trans ((Below.heap_setCell _ _ _ _ (by have := (ho.out b hb).2; show b ≠ D0; omega)).trans (hoW.out b hb))))
          have hz5 : A.heap.size ≤ w5.heap.size := by have := hb5.size; simp at this; omega
          obtain ⟨_, u0, u1, u2⟩ := id kB5
          obtain ⟨_, v0, v1, v2⟩ := id hI5.far
          have v20 := v2 0
          have v21 := v2 1
          have hfd : ∀ W : World, (Instr.field 28 (.agg #[.int .i64 sp, .int .i64 sq]) 0).run Tryd.prog W = .ok (.int .i64 sp) W := fun _ => by kernel_rfl
          by_cases hc : x4 * y3 < (-x3) * y4
          · have hcd := decide_eq_true (hsp.out.2 hc)
            have hfs : faS (x4, y4) ((-x3), y3) = ((-x3), y3) := if_pos hc
            rw [hfs] at hst
            have hI6 := Lib.hid (hI5.put (by omega) (-x3) y3)
            clear hI5 kB5 hc hfs
            gi_wp2
            refine ⟨by simpa using hz5, fun b hb => (Below.heap_setCell _ _ _ _ (by have := (ho.out b hb).1; show b ≠ Bf; omega)).trans ((Below.heap_setCell _ _ _ _ (by have := (ho.out b hb).1; show b ≠ Bf; omega)).trans (ho5.out b hb)), ?_⟩
            show KI w w8 Bf (faM D ((pre ++ [j]).map (kE t k))) _
            rw [hst.out]
            exact hI6.out
          · have hcd := decide_eq_false (fun h => hc (hsp.out.1 h))
            have hfs : faS (x4, y4) ((-x3), y3) = (x4, y4) := if_neg hc
            rw [hfs] at hst
            replace hI5 := Lib.hid hI5
            clear kB5 hc hfs
            gi_wp2
            refine ⟨hz5, fun b hb => ho5.out b hb, ?_⟩
            show KI w w8 Bf (faM D ((pre ++ [j]).map (kE t k))) _
            rw [hst.out]
            exact hI5.out
        · obtain rfl : x3 = m3 := by rw [← hm3'.out, if_neg (by omega)]
          gi_wp2_with fail
          refine ⟨trivial, (CallsIn.inRound l (callsIn_wide.2 (hMm.out _))).mono ?_⟩
          rintro r5 w5 ⟨rfl, hb5⟩
          have hI5 := (hIW.out.oth hww (by omega) (a := ⟨D0, 0, none⟩) (by show w8.heap.size ≤ D0; omega) (.int .i64 (x3))).after hww hb5
          have kB5 := (kB.put0 (x3)).below hb5
          have ho5 := Lib.hid (fun b (hb : Own b) => (show w5.heap[b]? = A.heap[b]? from (hb5.block b (by have := (ho.out b hb).2; simp; omega)).trans ((Below.heap_setCell _ _ _ _ (by have := (ho.out b hb).2; show b ≠ D0; omega)).trans (hoW.out b hb))))
          have hz5 : A.heap.size ≤ w5.heap.size := by have := hb5.size; simp at this; omega
          obtain ⟨_, u0, u1, u2⟩ := id kB5
          obtain ⟨_, v0, v1, v2⟩ := id hI5.far
          have v20 := v2 0
          have v21 := v2 1
          have hfd : ∀ W : World, (Instr.field 28 (.agg #[.int .i64 sp, .int .i64 sq]) 0).run Tryd.prog W = .ok (.int .i64 sp) W := fun _ => by kernel_rfl
          by_cases hc : x4 * y3 < (x3) * y4
          · have hcd := decide_eq_true (hsp.out.2 hc)
            have hfs : faS (x4, y4) ((x3), y3) = ((x3), y3) := if_pos hc
            rw [hfs] at hst
            have hI6 := Lib.hid (hI5.put (by omega) (x3) y3)
            clear hI5 kB5 hc hfs
            gi_wp2
            refine ⟨by simpa using hz5, fun b hb => (Below.heap_setCell _ _ _ _ (by have := (ho.out b hb).1; show b ≠ Bf; omega)).trans ((Below.heap_setCell _ _ _ _ (by have := (ho.out b hb).1; show b ≠ Bf; omega)).trans (ho5.out b hb)), ?_⟩
            show KI w w8 Bf (faM D ((pre ++ [j]).map (kE t k))) _
            rw [hst.out]
            exact hI6.out
          · have hcd := decide_eq_false (fun h => hc (hsp.out.1 h))
            have hfs : faS (x4, y4) ((x3), y3) = (x4, y4) := if_neg hc
            rw [hfs] at hst
            replace hI5 := Lib.hid hI5
            clear kB5 hc hfs
            gi_wp2
            refine ⟨hz5, fun b hb => ho5.out b hb, ?_⟩
            show KI w w8 Bf (faM D ((pre ++ [j]).map (kE t k))) _
            rw [hst.out]
            exact hI5.out
    case done =>
      rintro D1 Own A hD hI hK hOD
      obtain ⟨_, v0, v1, v2⟩ := id hI.far
      have kd := kdA.out A _ hI
      obtain ⟨_, z0, z1, z2⟩ := id kd.r
      have z20 := z2 0
      have z21 := z2 1
      have hkr := kd.r.put (faM D (faE k t)).1 (faM D (faE k t)).2
      have hbA := hI.below
      have hG8 := hI.ge
      have hfE : (lfs 4 k t).map (kE t k) = faE k t := rfl
      rw [hfE] at v0 v1
      have hK2 : ((A.setCell ⟨w.heap.size + 2, 0, none⟩ (.int .i64 (faM D (faE k t)).1)).setCell ⟨w.heap.size + 2, 1, none⟩ (.int .i64 (faM D (faE k t)).2)).heap[D1]? = some (.deferred (some [])) :=
        (Below.heap_setCell _ _ _ _ (by show D1 ≠ w.heap.size + 2; omega)).trans ((Below.heap_setCell _ _ _ _ (by show D1 ≠ w.heap.size + 2; omega)).trans hK)
      have hbW : Below w.heap.size w ((A.setCell ⟨w.heap.size + 2, 0, none⟩ (.int .i64 (faM D (faE k t)).1)).setCell ⟨w.heap.size + 2, 1, none⟩ (.int .i64 (faM D (faE k t)).2)) := (hbA.setCell (p := ⟨w.heap.size + 2, 0, none⟩) (by show w.heap.size ≤ w.heap.size + 2; omega) _).setCell (p := ⟨w.heap.size + 2, 1, none⟩) (by show w.heap.size ≤ w.heap.size + 2; omega) _
      obtain ⟨W2, hW2⟩ : ∃ W2, W2 = (A.setCell ⟨w.heap.size + 2, 0, none⟩ (.int .i64 (faM D (faE k t)).1)).setCell ⟨w.heap.size + 2, 1, none⟩ (.int .i64 (faM D (faE k t)).2) := ⟨_, rfl⟩
      rw [← hW2] at hK2 hbW hkr
      have r1 := cell_kept hkr.c0 (grownBy_putObj' _ D1 (.deferred none)) (fun r e => by cases e; exact ⟨_, hK2, rfl⟩)
      have r2 := cell_kept hkr.c1 (grownBy_putObj' _ D1 (.deferred none)) (fun r e => by cases e; exact ⟨_, hK2, rfl⟩)
      have hbe : Hid (Below w.heap.size w (W2.putObj D1 (.deferred none))) := hbW.trans (below_putObj _ _ _ (by omega))
      replace hkr := Lib.hid hkr
      replace hW2 := Lib.hid hW2
      clear hI kd hbA hbW kdA hLi hI8
      rw [show (w.heap.size + 1 + 1 : Nat) = w.heap.size + 2 by omega]
      gi_wp2
      rw [← hW2.out]
      refine ⟨by simp, .inl ⟨_, _, rfl, run_takeDeferred hK2, ?_⟩⟩
      exact ⟨.tuple #[.agg #[.int .i64 (faM D (faE k t)).1, .int .i64 (faM D (faE k t)).2], .int .i64 0], by simp [results, Tryd.results27, go_sem, r1, r2], rfl, hbe.out⟩
end
end Go.Proofs.YtncbimbbkealmaaDoor
/-
  FarthestFlags: both sides, whatever the arguments.
-/
namespace Go.Proofs.YtncbimbbkealmaaDoor
open Go.RowKit Go.Shelf
set_option maxRecDepth 100000
theorem ffn_both (k0 n0 e0 k n e : Int) (he0 : e0 < 4294967296) (h00 : 0 ≤ e0) (he : e < 4294967296) (h0 : 0 ≤ e) : ∃ x y c : Int,
    (∀ W, Calls Tryd.prog 26 #[.agg #[.int .i64 k0, .int .i64 n0, .int .u32 e0], .agg #[.int .i64 k, .int .i64 n, .int .u32 e]] W fun r w' => r = .returned (.tuple #[.agg #[.int .i64 x, .int .i64 y], .int .i64 c]) ∧ Below W.heap.size W w') ∧
    (∀ W, TabZ W → Calls Tryd.prog 27 #[.agg #[.int .i64 k0, .int .i64 n0, .int .u32 e0], .agg #[.int .i64 k, .int .i64 n, .int .u32 e]] W fun r w' => r = .returned (.tuple #[.agg #[.int .i64 x, .int .i64 y], .int .i64 c]) ∧ Below W.heap.size W w') := by
  by_cases hv : VK k0 n0 e0 ∧ VK k n e
  · by_cases ht : tyI (k, n, e) = tyI (k0, n0, e0)
    · have hI : CtA k0 n0 e0 k n e 0 := fun W B hB O hO => ict2 W k0 n0 e0 k n e 0 he0 h00 he h0 (fun h => absurd hv h) (fun _ _ h => absurd ht h) (fun _ _ _ => rfl) B hB O hO
      have hS : CtF k0 n0 e0 k n e 0 := fun W => slt_any W k0 n0 e0 k n e 0 he0 h00 he h0 (fun h => absurd hv h) (fun _ _ h => absurd ht h) (fun _ _ _ => rfl)
      by_cases h1 : 4 < n0 ∨ 4 < n
      · exact ⟨0, 0, 2, fun W => sff_rng W k0 n0 e0 k n e h1 hS, fun W _ => iff_rng W k0 n0 e0 k n e _ rfl (by omega) hI⟩
      · obtain ⟨K0, N0, E0, e1, hv'⟩ := kv_nat (gs := [(k0, n0, e0), (k, n, e)]) (i := 0) hv.1
        obtain ⟨K, N, E, e2, hw'⟩ := kv_nat (gs := [(k0, n0, e0), (k, n, e)]) (i := 1) hv.2
        have e1' : (k0, n0, e0) = ((K0 : Int), (N0 : Int), (E0 : Int)) := e1
        have e2' : (k, n, e) = ((K : Int), (N : Int), (E : Int)) := e2
        simp only [Prod.mk.injEq] at e1' e2'
        obtain ⟨rfl, rfl, rfl⟩ := e1'
        obtain ⟨rfl, rfl, rfl⟩ := e2'
        rw [tyI_nat, tyI_nat] at ht
        simp only [Prod.mk.injEq] at ht
        obtain rfl : K = K0 := by omega
        exact ⟨_, _, 0, fun W => sff_ok W K N0 E0 N E hv' hw' (by omega) (by omega) hS, fun W hT => iff_ok W K N0 E0 N E hv' hw' (by omega) (by omega) hT hI⟩
    · exact ⟨0, 0, 4, fun W => sff_err W k0 n0 e0 k n e 4 (.inr rfl) (fun W => slt_any W k0 n0 e0 k n e 4 he0 h00 he h0 (fun h => absurd hv h) (fun _ _ _ => rfl) (fun _ _ h => absurd h ht)), fun W _ => iff_err W k0 n0 e0 k n e 4 (.inr rfl) (fun W B hB O hO => ict2 W k0 n0 e0 k n e 4 he0 h00 he h0 (fun h => absurd hv h) (fun _ _ _ => rfl) (fun _ _ h => absurd h ht) B hB O hO)⟩
  · exact ⟨0, 0, 1, fun W => sff_err W k0 n0 e0 k n e 1 (.inl rfl) (fun W => slt_any W k0 n0 e0 k n e 1 he0 h00 he h0 (fun _ => rfl) (fun a b _ => absurd ⟨a, b⟩ hv) (fun a b _ => absurd ⟨a, b⟩ hv)), fun W _ => iff_err W k0 n0 e0 k n e 1 (.inl rfl) (fun W B hB O hO => ict2 W k0 n0 e0 k n e 1 he0 h00 he h0 (fun _ => rfl) (fun a b _ => absurd ⟨a, b⟩ hv) (fun a b _ => absurd ⟨a, b⟩ hv) B hB O hO)⟩
end Go.Proofs.YtncbimbbkealmaaDoor
