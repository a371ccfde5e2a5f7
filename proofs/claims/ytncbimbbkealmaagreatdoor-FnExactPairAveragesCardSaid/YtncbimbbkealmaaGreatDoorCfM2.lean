/-
  Sf, Cf, Cp, Ll, Ss, Sl4, Ul, Ck, Sc4, CfB, in one text.
-/
import Derived.Test.YtncbimbbkealmaaGreatDoorKAv
import Derived.Test.YtncbimbbkealmaaGreatDoorKSmall
import Derived.Test.YtncbimbbkealmaaGreatDoorKEq
import Derived.Test.YtncbimbbkealmaaGreatDoorBw
import Derived.Test.YtncbimbbkealmaaGreatDoorCc
import Derived.Test.YtncbimbbkealmaaGreatDoorCfM1
import Derived.Test.YtncbimbbkealmaaGreatDoorVs
import Derived.Lib.SmallJoins
import Derived.Deep.RegionHeld3
import Derived.OwnWalkIn
import Derived.TacticsInMore
import Derived.LoopNIn
import Derived.LoopIn
/-
  FLAGS OF ONE TYPE: isSameFor with typeOf, checkTypes (the program).
-/
namespace Go.Proofs.YtncbimbbkealmaaGreatDoor
open Go.RowKit Go.Shelf
set_option maxRecDepth 100000
attribute [local go_sem] Oper.semAt_some
/-- a valid flag's type -/
def tyI (g : Int × Int × Int) : Int × Int := (g.1, ((onL g.2.2.toNat (List.range g.1.toNat) : Nat) : Int))
theorem tyI_nat (x y z : Nat) : tyI ((x : Int), (y : Int), (z : Int)) = ((x : Int), ((onL z (List.range x) : Nat) : Int)) := by simp [tyI]
def SameK (gs : List (Int × Int × Int)) : Prop := ∀ i, i < gs.length → tyI (kAt gs i) = tyI (kAt gs 0)
section
variable (w : World)
set_option maxHeartbeats 2000000 in
theorem isf_any (a : Option Addr) (cap : Nat) (gs : List (Int × Int × Int)) (hm : gs.length ≤ 1048576) (hc : LiesK w a gs) (hV : AllK gs) (B : Bool) (hBt : SameK gs → B = true) (hBf : ¬ SameK gs → B = false) :
    Calls Tryz.prog 44 #[.slice a gs.length cap, .func (.func 45) #[] #[]] w fun r w' => r = .returned (.bool B) ∧ Below w.heap.size w w' := by
  obtain ⟨n, hn⟩ : ∃ n, n = gs.length := ⟨_, rfl⟩
  rw [← hn] at hm ⊢
  replace hc := Lib.hid hc
  replace hV := Lib.hid hV
  replace hn := Lib.hid hn
  replace hBt := Lib.hid hBt
  replace hBf := Lib.hid hBf
  go_enter Tryz.func44, Tryz.ntmps44
  go_wp2
  go_loopw [9] (fun i wr => ∃ k : Nat, k ≤ n ∧ i = .int .i64 k ∧ (∀ j, j < k → tyI (kAt gs j) = tyI (kAt gs 0)) ∧ Below w.heap.size w wr) (fun i _ => n - (intOf i).toNat)
  case atStart => exact ⟨0, by omega, rfl, fun j hj => absurd hj (by omega), by (repeat (first | exact Below.refl _ _ | assumption | refine bchain (by assumption) ?_ | refine balloc ?_ _ | apply Below.drew | apply below_drewN | (refine Below.alloc ?_ (by (try simp) <;> omega) _) | (refine Below.setCell ?_ (by (try simp) <;> omega) _)))⟩
  case round =>
    obtain ⟨k, hk, rfl, hj, hb⟩ := hrel
    by_cases hlt : k < n
    · obtain ⟨b, off, rfl, hbl, hg⟩ := hc.out k (by have := hn.out; omega)
      obtain ⟨b0, off0, e0, hbl0, hg0⟩ := hc.out 0 (by have := hn.out; omega)
      obtain ⟨x, y, z, hxy, hv⟩ := kv_nat (hV.out k (by have := hn.out; omega))
      obtain ⟨x0, y0, z0, hxy0, hv0⟩ := kv_nat (hV.out 0 (by have := hn.out; omega))
      injection e0 with e0
      injection e0 with e1 e2
      subst e1 e2
      have s0 : wr.cell? ⟨b, off + k * 3, none⟩ = some (.int .i64 x) := by rw [hb.cell (p := ⟨b, _, none⟩) hbl, hg.1, hxy]
      have s1 : wr.cell? ⟨b, off + k * 3 + 1, none⟩ = some (.int .i64 y) := by rw [hb.cell (p := ⟨b, _, none⟩) hbl, hg.2.1, hxy]
      have s2 : wr.cell? ⟨b, off + k * 3 + 2, none⟩ = some (.int .u32 z) := by rw [hb.cell (p := ⟨b, _, none⟩) hbl, hg.2.2, hxy]
      have t0 : wr.cell? ⟨b, off, none⟩ = some (.int .i64 x0) := by rw [hb.cell (p := ⟨b, _, none⟩) hbl]; have := hg0.1; rwa [hxy0] at this
      have t1 : wr.cell? ⟨b, off + 1, none⟩ = some (.int .i64 y0) := by rw [hb.cell (p := ⟨b, _, none⟩) hbl]; have := hg0.2.1; rwa [hxy0] at this
      have t2 : wr.cell? ⟨b, off + 2, none⟩ = some (.int .u32 z0) := by rw [hb.cell (p := ⟨b, _, none⟩) hbl]; have := hg0.2.2; rwa [hxy0] at this
      have hC := Lib.hid (fun W => ity_any W x y z hv)
      have hC0 := Lib.hid (fun W => ity_any W x0 y0 z0 hv0)
      have hty : tyI (kAt gs k) = ((x : Int), ((onL z (List.range x) : Nat) : Int)) := by rw [hxy, tyI_nat]
      have hty0 : tyI (kAt gs 0) = ((x0 : Int), ((onL z0 (List.range x0) : Nat) : Int)) := by rw [hxy0, tyI_nat]
      obtain ⟨t, ht⟩ : ∃ t, onL z (List.range x) = t := ⟨_, rfl⟩
      obtain ⟨u, hu⟩ : ∃ t, onL z0 (List.range x0) = t := ⟨_, rfl⟩
      rw [ht] at hC hty
      rw [hu] at hC0 hty0
      have hq0 := fun W => eqGrK W x x0 t u
      obtain ⟨c, hcd⟩ : ∃ c, ((x : Int) == (x0 : Int) && (t : Int) == (u : Int)) = c := ⟨_, rfl⟩
      rw [hcd] at hq0
      have hce : c = true ↔ tyI (kAt gs k) = tyI (kAt gs 0) := by
        rw [hty, hty0, ← hcd]
        simp
      have hkn : (k : Int) < (n : Int) := by omega
      have hn0 : 0 < n := by omega
      have hbr : b < wr.heap.size := Nat.lt_of_lt_of_le hbl hb.size
      obtain ⟨W1, hW1⟩ : ∃ W1, W1 = wr.alloc (.cells #[.int .i64 (x : Int), .int .i64 (y : Int), .int .u32 (z : Int)] 43) := ⟨_, rfl⟩
      have hF1 : FC W1 wr.heap.size x y z := by rw [hW1]; exact FC.made wr x y z _
      have hb1 : Below wr.heap.size wr W1 := by rw [hW1]; (repeat (first | exact Below.refl _ _ | assumption | refine bchain (by assumption) ?_ | refine balloc ?_ _ | apply Below.drew | apply below_drewN | (refine Below.alloc ?_ (by (try simp) <;> omega) _) | (refine Below.setCell ?_ (by (try simp) <;> omega) _)))
      have hz1 := hb1.size
      have hB1 : Below w.heap.size w W1 := hb.trans (hb1.mono hb.size)
      have q0 := bw_cell hF1.lt hF1.c0
      have q1 := bw_cell hF1.lt hF1.c1
      have q2 := bw_cell hF1.lt hF1.c2
      have q3 := bw_cell (show b < W1.heap.size by omega) ((hb1.cell (p := ⟨b, off, none⟩) hbr).trans t0)
      have q4 := bw_cell (show b < W1.heap.size by omega) ((hb1.cell (p := ⟨b, off + 1, none⟩) hbr).trans t1)
      have q5 := bw_cell (show b < W1.heap.size by omega) ((hb1.cell (p := ⟨b, off + 2, none⟩) hbr).trans t2)
      replace hW1 := Lib.hid hW1
      replace hce := Lib.hid hce
      replace hj := Lib.hid hj
      clear hg hg0 hxy hxy0 hv hv0 hty hty0 ht hu hcd t0 t1 t2 hF1 hb1 hz1
      go_wp2
      rw [← hW1.out]
      refine wp_region_below (by kernel_rfl) (by kernel_rfl) ?_
      iterate 2 (quiet_step (fail))
      refine wpQuiet_step (fun K hK => ?_)
      go_simp
      apply Exists.intro
      refine ⟨fun p => ?_, hK _ ?_⟩
      · exact bw_of (w := W1) (p := p) (hC.out p.W)
      clear hK K
      iterate 4 (quiet_step (fail))
      refine wpQuiet_step (fun K hK => ?_)
      go_simp
      apply Exists.intro
      refine ⟨fun p => ?_, hK _ ?_⟩
      · exact bw_of (w := W1) (p := p) (hC0.out p.W)
      clear hK K
      iterate 1 (quiet_step (fail))
      refine wpQuiet_nil ?_
      intro w5 hw'
      obtain ⟨⟨wx, hb_w5⟩, rfl⟩ := hw'
      have hB5 : Below w.heap.size w w5 := hB1.trans (hb_w5.mono hB1.size)
      clear q0 q1 q2 q3 q4 q5 hB1 hb_w5
      cases c
      · have hno : Hid (B = false) := hBf.out (fun h => by have := hce.out.2 (h k (by have := hn.out; omega)); cases this)
        go_wp2
        go_ret
        exact ⟨by rw [hno.out] <;> rfl, hB5⟩
      · have hj2 : Hid (∀ j, j < k + 1 → tyI (kAt gs j) = tyI (kAt gs 0)) := fun j hjk => by
          by_cases e : j = k
          · rw [e]; exact hce.out.1 rfl
          · exact hj.out j (by omega)
        go_wp2
        go_roundw
        case rel => exact ⟨k + 1, by omega, by go_num, hj2, hB5⟩
        case measure => simp [intOf]; omega
    · have hd := decide_eq_false (show ¬ ((k : Int) < (n : Int)) by omega)
      obtain rfl : k = n := by omega
      have hyes : Hid (B = true) := hBt.out (fun i hi => hj i (by have := hn.out; omega))
      clear hj
      go_wp2
      go_ret
      exact ⟨by rw [hyes.out] <;> rfl, hb⟩
end
end Go.Proofs.YtncbimbbkealmaaGreatDoor
namespace Go.Proofs.YtncbimbbkealmaaGreatDoor
open Go.RowKit Go.Shelf
set_option maxRecDepth 100000
attribute [local go_sem] Oper.semAt_some
/-- a set, moved behind the labels -/
def shN (k : Nat) (x : List Nat) : List Nat := x.map fun v => k + v
theorem shN_length (k : Nat) (x : List Nat) : (shN k x).length = x.length := by simp [shN]
theorem sh_ok : ∀ n, n ≤ 5 → ∀ k, k ≤ n → ∀ s, s < 2 ^ (n - k) → okList n (k + (bitsL s).length) (List.range k ++ shN k (bitsL s)) = true := by decide +kernel
theorem cf_mem {n k q : Nat} (hn : n ≤ 5) (hkn : k ≤ n) {x : List Nat} (hx : x ∈ setsL (n - k) q) : x.length = q ∧ okList n (k + q) (List.range k ++ shN k x) = true := by
  unfold setsL setsTo at hx
  obtain ⟨s, hs, rfl⟩ := List.mem_map.1 hx
  obtain ⟨h1, h2⟩ := List.mem_filter.1 hs
  have h3 := List.mem_range.1 h1
  have h4 := sh_ok n hn k hkn s h3
  unfold isS at h2
  have h5 : (bitsL s).length = q := by simpa using h2
  rw [h5] at h4
  exact ⟨h5, h4⟩
theorem cf_small {n k q : Nat} (hn : n ≤ 5) {x : List Nat} (hx : x ∈ setsL (n - k) q) : ∀ i, i < x.length → x[i]?.getD 0 < 5 := fun i hi => by
  have h := (sets_ok (show n - k ≤ 5 by omega) hx).1
  unfold setsL setsTo at hx
  obtain ⟨s, hs, rfl⟩ := List.mem_map.1 hx
  have h3 := List.mem_range.1 (List.mem_filter.1 hs).1
  have h6 : 2 ^ (n - k) ≤ 32 := two_pow_le (by omega)
  have key : ∀ s, s < 32 → ∀ v ∈ bitsL s, v < 5 := by decide +kernel
  refine key s (by omega) _ ?_
  rw [List.getElem?_eq_getElem hi]
  exact List.getElem_mem hi
/-- the program's value for such a list: never nil -/
def SeeS (x : List Nat) (v : Value) (W : World) : Prop := SlS W v (zl x)
theorem SeeS.below (x : List Nat) (v : Value) (A A' : World) (h : SeeS x v A) (hb : Below A.heap.size A A') : SeeS x v A' := SlS.below h hb
theorem SeeS.cellular (x : List Nat) (v : Value) : Cellular (SeeS x v) := fun A l o o' h hl ho => ⟨See.cellular x v A l o o' h.1 hl ho, h.2⟩
/-- .. and it lies from a block on -/
def SeeT (base : Nat) (x : List Nat) (v : Value) (W : World) : Prop := SlS W v (zl x) ∧ ∃ b off l c, v = .slice (some ⟨b, off, none⟩) l c ∧ base ≤ b
theorem SeeT.below (base : Nat) (x : List Nat) (v : Value) (A A' : World) (h : SeeT base x v A) (hb : Below A.heap.size A A') : SeeT base x v A' := ⟨SlS.below h.1 hb, h.2⟩
theorem SeeT.cellular (base : Nat) (x : List Nat) (v : Value) : Cellular (SeeT base x v) := fun A l o o' h hl ho => ⟨SeeS.cellular x v A l o o' h.1 hl ho, h.2⟩
theorem SeeT.setCell {base : Nat} {x : List Nat} {v : Value} {A : World} (h : SeeT base x v A) {p : Addr} (hp : p.block < base) (u : Value) : SeeT base x v (A.setCell p u) := by
  obtain ⟨⟨⟨a, cap, e, h1, h2, h3⟩, h4⟩, b, off, l, c, e2, hb⟩ := h
  refine ⟨⟨⟨a, cap, e, h1, h2, fun hz => ?_⟩, h4⟩, b, off, l, c, e2, hb⟩
  obtain ⟨b', off', e3, hl, hc⟩ := h3 hz
  refine ⟨b', off', e3, by simpa using hl, fun i hi => ?_⟩
  rw [World.cell?_setCell_other]
  · exact hc i hi
  · rw [e, e3] at e2
    injection e2 with e4
    injection e4 with e4
    injection e4 with e4
    intro e5
    rw [e5] at hp
    dsimp only at hp
    omega
/-- what the iterator reads of its caller's -/
structure UInv (Bg Bq : Nat) (k n e q : Nat) (A : World) : Prop where
  g : FC A Bg k n e
  q : A.cell? ⟨Bq, 0, none⟩ = some (.int .i64 q)
  t : TabZ A
section
variable (w : World)
theorem unl_any (k n e : Nat) (h : k ≤ n) (hn : n ≤ 1000) :
    Calls Tryz.prog 22 #[.agg #[.int .i64 k, .int .i64 n, .int .u32 e]] w fun r w' => r = .returned (.int .i64 ((n - k : Nat) : Int)) ∧ Below w.heap.size w w' := by
  have e1 : (n : Int) - (k : Int) = ((n - k : Nat) : Int) := by omega
  obtain ⟨d, hd⟩ : ∃ d, n - k = d := ⟨_, rfl⟩
  rw [hd] at e1 ⊢
  have hd1 : d ≤ 1000 := by omega
  go_enter Tryz.func22, Tryz.ntmps22
  go_wp2
  go_ret
  exact ⟨rfl, by (repeat (first | exact Below.refl _ _ | assumption | refine bchain (by assumption) ?_ | refine balloc ?_ _ | apply Below.drew | apply below_drewN | (refine Below.alloc ?_ (by (try simp) <;> omega) _) | (refine Below.setCell ?_ (by (try simp) <;> omega) _)))⟩
theorem siz_any (k n e : Int) :
    Calls Tryz.prog 47 #[.agg #[.int .i64 k, .int .i64 n, .int .u32 e]] w fun r w' => r = .returned (.int .i64 n) ∧ Below w.heap.size w w' := by
  go_enter Tryz.func47, Tryz.ntmps47
  go_wp2
  go_ret
  exact ⟨rfl, by (repeat (first | exact Below.refl _ _ | assumption | refine bchain (by assumption) ?_ | refine balloc ?_ _ | apply Below.drew | apply below_drewN | (refine Below.alloc ?_ (by (try simp) <;> omega) _) | (refine Below.setCell ?_ (by (try simp) <;> omega) _)))⟩
theorem us_any (k n e q : Nat) :
    Calls Tryz.prog 107 #[.agg #[.int .i64 k, .int .i64 n, .int .u32 e], .int .i64 q] w fun r w' => ∃ B, r = .returned (.func (.func 110) #[] #[.pointer (some ⟨B, 0, none⟩), .pointer (some ⟨B + 1, 0, none⟩)]) ∧ w.heap.size ≤ B ∧ B + 1 < w'.heap.size ∧
      FC w' B k n e ∧ w'.cell? ⟨B + 1, 0, none⟩ = some (.int .i64 q) ∧ Below w.heap.size w w' := by
  have s1 : ∀ (W : World) (o : Obj), (W.alloc o).heap.size = W.heap.size + 1 := fun W o => by simp
  have hF := FC.made w k n e 43
  have hF2 : FC ((w.alloc (.cells #[.int .i64 k, .int .i64 n, .int .u32 e] 43)).alloc (.cells #[.int .i64 q] 2)) w.heap.size k n e := hF.below (balloc (Below.refl _ _) _)
  replace hF2 := Lib.hid hF2
  replace s1 := Lib.hid s1
  clear hF
  go_enter Tryz.func107, Tryz.ntmps107
  go_wp2
  go_ret
  refine ⟨w.heap.size, rfl, Nat.le_refl _, by rw [s1.out, s1.out]; omega, hF2.out, ?_, by (repeat (first | exact Below.refl _ _ | assumption | refine bchain (by assumption) ?_ | refine balloc ?_ _ | apply Below.drew | apply below_drewN | (refine Below.alloc ?_ (by (try simp) <;> omega) _) | (refine Below.setCell ?_ (by (try simp) <;> omega) _)))⟩
  rw [cNew _ _ _ _ _ (by rw [s1.out])]; rfl
end
end Go.Proofs.YtncbimbbkealmaaGreatDoor
/-
  THE ERRORS OF A FLAG THAT IS LOOKED FOR IN ANOTHER ONE: checkPart and the model's l04Asked.
-/
namespace Go.Proofs.YtncbimbbkealmaaGreatDoor
open Go.RowKit Go.Shelf
set_option maxRecDepth 100000
attribute [local go_sem] Oper.semAt_some
theorem lies2 (W : World) (t : TypeId) (k0 n0 e0 k n e : Int) :
    LiesK (W.alloc (.cells #[.int .i64 k0, .int .i64 n0, .int .u32 e0, .int .i64 k, .int .i64 n, .int .u32 e] t)) (some ⟨W.heap.size, 0, none⟩) [(k0, n0, e0), (k, n, e)] := fun i hi => by
  refine ⟨W.heap.size, 0, rfl, by simp, ?_⟩
  have hi2 : i < 2 := hi
  match i, hi2 with
  | 0, _ => exact ⟨by rw [World.cell?_alloc_new]; rfl, by rw [World.cell?_alloc_new]; rfl, by rw [World.cell?_alloc_new]; rfl⟩
  | 1, _ => exact ⟨by rw [World.cell?_alloc_new]; rfl, by rw [World.cell?_alloc_new]; rfl, by rw [World.cell?_alloc_new]; rfl⟩
theorem allK2 {k0 n0 e0 k n e : Int} : AllK [(k0, n0, e0), (k, n, e)] ↔ VK k0 n0 e0 ∧ VK k n e := by
  constructor
  · exact fun h => ⟨h 0 (by simp), h 1 (by simp)⟩
  · rintro ⟨h1, h2⟩ i hi
    have hi2 : i < 2 := hi
    match i, hi2 with
    | 0, _ => exact h1
    | 1, _ => exact h2
theorem sameK2 {f g : Int × Int × Int} : SameK [f, g] ↔ tyI g = tyI f := by
  constructor
  · exact fun h => h 1 (by simp)
  · intro h i hi
    have hi2 : i < 2 := hi
    match i, hi2 with
    | 0, _ => rfl
    | 1, _ => exact h
section
variable (w : World)
end
end Go.Proofs.YtncbimbbkealmaaGreatDoor
namespace Go.Proofs.YtncbimbbkealmaaGreatDoor
open Go.RowKit Go.Shelf
set_option maxRecDepth 100000
theorem ll_ne {w : World} {base size n m s2 : Nat} {v u : Value} {xs ys : List Value} (h : w.ownsRow base 69 size v n xs) (h2 : w.ownsRow base 2 s2 u m ys) : u.ownBlock = none ∨ u.ownBlock ≠ v.ownBlock := by
  rcases h2.2 with ⟨rfl, _⟩ | ⟨g2, cap2, cur2, rfl, _, hh2, _⟩
  · exact .inl rfl
  · refine .inr ?_
    rcases h.2 with ⟨rfl, _⟩ | ⟨g', cap, cur', rfl, _, hh, _⟩
    · intro c; cases c
    · intro c
      injection c with c
      subst c
      rw [hh2] at hh
      injection hh with hh
      injection hh with _ c2
      exact absurd c2 (by decide)
/-- the rows: none is nil, each lies in a block of its own -/
def LsAt (base : Nat) (W : World) (us : List Value) (L : List (List Nat)) : Prop :=
  us.length = L.length ∧ (∀ i, i < L.length → ∃ g c, us[i]? = some (.slice (some ⟨g, 0, none⟩) (L[i]?.getD []).length c) ∧ W.ownsRow base 2 1 (.slice (some ⟨g, 0, none⟩) (L[i]?.getD []).length c) (L[i]?.getD []).length (rowV (L[i]?.getD []))) ∧
    (∀ (i j : Nat) (u u' : Value), i < j → us[i]? = some u → us[j]? = some u' → u.ownBlock = none ∨ u.ownBlock ≠ u'.ownBlock)
def OwnLs (base : Nat) (W : World) (v : Value) (L : List (List Nat)) : Prop := ∃ us : List Value, LsAt base W us L ∧ W.ownsRow base 69 1 v L.length us
theorem row_below {base size n : Nat} {e : TypeId} {W W' : World} {v : Value} {xs : List Value} (h : W.ownsRow base e size v n xs) (hb : Below W.heap.size W W') : W'.ownsRow base e size v n xs := by
  refine ⟨h.1, ?_⟩
  rcases h.2 with hn | ⟨g, cap, cur, rfl, a1, a2, a3⟩
  · exact .inl hn
  · exact .inr ⟨g, cap, cur, rfl, a1, (hb.block g (Array.getElem?_eq_some_iff.1 a2).1).trans a2, a3⟩
theorem ll_mono {w : World} {base base' size n : Nat} {e : TypeId} {v : Value} {xs : List Value} (h : w.ownsRow base e size v n xs) (hb : base' ≤ base) : w.ownsRow base' e size v n xs := by
  refine ⟨h.1, ?_⟩
  rcases h.2 with hn | ⟨g, cap, cur, rfl, a1, a2⟩
  · exact .inl hn
  · exact .inr ⟨g, cap, cur, rfl, by omega, a2⟩
theorem LsAt.below {base : Nat} {W W' : World} {us : List Value} {L : List (List Nat)} (h : LsAt base W us L) (hb : Below W.heap.size W W') : LsAt base W' us L :=
  ⟨h.1, fun i hi => by obtain ⟨g, c, e1, e2⟩ := h.2.1 i hi; exact ⟨g, c, e1, row_below e2 hb⟩, h.2.2⟩
theorem OwnLs.below {base : Nat} {W W' : World} {v : Value} {L : List (List Nat)} (h : OwnLs base W v L) (hb : Below W.heap.size W W') : OwnLs base W' v L := by
  obtain ⟨us, h1, h2⟩ := h
  exact ⟨us, h1.below hb, row_below h2 hb⟩
theorem LsAt.nil (base : Nat) (W : World) : LsAt base W [] [] := ⟨rfl, fun i hi => by simp at hi, fun i j u u' _ h => by simp at h⟩
theorem OwnLs.nil (base : Nat) (W : World) : OwnLs base W (.slice none 0 0) [] := ⟨[], LsAt.nil _ _, World.ownsRow_nil _ _ _ _⟩
theorem OwnLs.made (base : Nat) (W : World) (cap : Nat) (hb : base ≤ W.heap.size) (hm : cap = 0) : OwnLs base (W.alloc (.cells #[] 69)) (.slice (some ⟨W.heap.size, 0, none⟩) 0 cap) [] := by
  subst hm
  exact ⟨[], LsAt.nil _ _, World.ownsRow_made W #[] 0 hb (by omega) rfl⟩
theorem LsAt.lt {base : Nat} {W : World} {us : List Value} {L : List (List Nat)} (h : LsAt base W us L) : ∀ (i : Nat) (y : Value), us[i]? = some y → ∀ k, y.ownBlock = some k → k < W.heap.size := fun i y hy k hk => by
  have hi : i < us.length := (List.getElem?_eq_some_iff.1 hy).1
  rw [h.1] at hi
  obtain ⟨g, c, e1, e2⟩ := h.2.1 i hi
  rw [hy] at e1
  obtain rfl := Option.some.inj e1
  exact (e2.lt k hk).2
/-- behind an append of one list -/
theorem OwnLs.push {base b2 : Nat} {W W' : World} {v v' : Value} {g c : Nat} {L : List (List Nat)} {x : List Nat} {us : List Value} (h : LsAt base W us L) (h2 : W.ownsRow base 69 1 v L.length us)
    (hb2 : base ≤ b2) (h5 : ∀ (i : Nat) (y : Value), us[i]? = some y → ∀ k, y.ownBlock = some k → k < b2) (hu : W.ownsRow b2 2 1 (.slice (some ⟨g, 0, none⟩) x.length c) x.length (rowV x))
    (hown : W'.ownsRow base 69 1 v' (L.length + 1) (us ++ [.slice (some ⟨g, 0, none⟩) x.length c])) (hg : W.grownBy W' v.ownBlock) : OwnLs base W' v' (L ++ [x]) := by
  obtain ⟨h1, h3, h4⟩ := h
  refine ⟨us ++ [.slice (some ⟨g, 0, none⟩) x.length c], ⟨by simp [h1], fun i hi => ?_, fun i j y y' hij hy hy' => ?_⟩, by rw [List.length_append]; exact hown⟩
  · rw [List.length_append] at hi
    simp at hi
    by_cases cc : i < L.length
    · obtain ⟨gy, cy, e1, e2⟩ := h3 i cc
      refine ⟨gy, cy, ?_, ?_⟩
      · rw [List.getElem?_append_left (by omega), List.getElem?_append_left cc]; exact e1
      · rw [List.getElem?_append_left cc]
        exact e2.kept hg (ll_ne h2 e2)
    · obtain rfl : i = L.length := by omega
      refine ⟨g, c, ?_, ?_⟩
      · rw [List.getElem?_append_right (Nat.le_refl _), ← h1, List.getElem?_append_right (Nat.le_refl _)]; simp
      · rw [List.getElem?_append_right (Nat.le_refl _)]
        simp only [Nat.sub_self, List.getElem?_cons_zero, Option.getD_some]
        exact (ll_mono hu hb2).kept hg (ll_ne h2 (ll_mono hu hb2))
  · have hj : j < us.length + 1 := by have := (List.getElem?_eq_some_iff.1 hy').1; simpa using this
    rw [List.getElem?_append_left (by omega)] at hy
    by_cases cc : j < us.length
    · rw [List.getElem?_append_left cc] at hy'
      exact h4 i j y y' hij hy hy'
    · obtain rfl : j = us.length := by omega
      rw [List.getElem?_append_right (Nat.le_refl _)] at hy'
      simp at hy'
      subst hy'
      cases hob : y.ownBlock with
      | none => exact .inl rfl
      | some k =>
        refine .inr fun e => ?_
        have a := h5 i y hy k hob
        have b := (hu.lt k e.symm).1
        omega
/-- .. read -/
theorem OwnLs.read {base : Nat} {W : World} {v : Value} {L : List (List Nat)} (h : OwnLs base W v L) : ∃ a cap, v = .slice a L.length cap ∧ L.length ≤ cap ∧ cap ≤ maxLen ∧
    ∀ i, i < L.length → ∃ g u, a = some ⟨g, 0, none⟩ ∧ base ≤ g ∧ g < W.heap.size ∧ W.cell? ⟨g, i, none⟩ = some u ∧ See (L[i]?.getD []) u W := by
  obtain ⟨us, ⟨h1, h3, _⟩, h2⟩ := h
  rcases h2.2 with ⟨e0, e1⟩ | ⟨g, cap, cur, rfl, a1, a2, a3, a4, a5, a6⟩
  · exact ⟨none, 0, by rw [e0, e1], by omega, by unfold maxLen; omega, fun i hi => by omega⟩
  · refine ⟨some ⟨g, 0, none⟩, cap, rfl, a3, a4, fun i hi => ?_⟩
    obtain ⟨gu, cu, e1, e2⟩ := h3 i hi
    refine ⟨g, _, rfl, a1, (Array.getElem?_eq_some_iff.1 a2).1, ?_, rowV_see e2 rfl⟩
    have h1 : (cur.toList.take (L.length * 1))[i]? = some (.slice (some ⟨gu, 0, none⟩) (L[i]?.getD []).length cu) := by rw [a6]; exact e1
    rw [List.getElem?_take_of_lt (by omega)] at h1
    simpa [World.cell?, a2] using h1
theorem ll_info : (Tryz.prog.info? 69).map (fun i => (i.zero, i.size, i.bytes)) = some (some (.slice none 0 0), 1, 24) := by kernel_rfl
end Go.Proofs.YtncbimbbkealmaaGreatDoor
/-
  The model's list of all sets: spec.l01Sets.
-/
namespace Go.Proofs.YtncbimbbkealmaaGreatDoor
open Go.RowKit Go.Shelf
set_option maxRecDepth 100000
attribute [local go_sem] Oper.semAt_some
def bitsTo (s v : Nat) : List Nat := (List.range v).filter fun i => s.testBit i
theorem bitsTo_t {s v : Nat} (h : s.testBit v = true) : bitsTo s (v + 1) = bitsTo s v ++ [v] := by simp [bitsTo, List.range_succ, List.filter_append, h]
theorem bitsTo_f {s v : Nat} (h : s.testBit v = false) : bitsTo s (v + 1) = bitsTo s v := by simp [bitsTo, List.range_succ, List.filter_append, h]
theorem bitsTo_all : ∀ n, n ≤ 5 → ∀ s, s < 2 ^ n → bitsTo s n = bitsL s := by decide +kernel
theorem bitsTo_len (s v : Nat) : (bitsTo s v).length ≤ v := by
  have := List.length_filter_le (fun i => s.testBit i) (List.range v)
  rw [List.length_range] at this
  exact this
theorem bit_key : ∀ s : Nat, s < 32 → ∀ v : Nat, v < 5 → (bits .and .i64 ((s : Int) / 2 ^ v) 1 == 1) = s.testBit v := by decide +kernel
theorem shl_n : ∀ n : Nat, n ≤ 5 → wrap64 (2 ^ n) = ((2 ^ n : Nat) : Int) := by decide +kernel
theorem setsTo_le (k j : Nat) : (setsTo k j).length ≤ j := by
  unfold setsTo
  rw [List.length_map]
  have := List.length_filter_le (isS k) (List.range j)
  rw [List.length_range] at this
  exact this
theorem row_mono {w : World} {base base' size n : Nat} {e : TypeId} {v : Value} {xs : List Value} (h : w.ownsRow base e size v n xs) (hb : base' ≤ base) : w.ownsRow base' e size v n xs := by
  refine ⟨h.1, ?_⟩
  rcases h.2 with hn | ⟨g, cap, cur, rfl, a1, a2⟩
  · exact .inl hn
  · exact .inr ⟨g, cap, cur, rfl, Nat.le_trans hb a1, a2⟩
theorem row_form {w : World} {base size n : Nat} {e : TypeId} {v : Value} {xs : List Value} (h : w.ownsRow base e size v n xs) : ∃ a c, v = .slice a n c := by
  rcases h.2 with ⟨e0, e1⟩ | ⟨g, cap, cur, rfl, _⟩
  · exact ⟨none, 0, by rw [e0, e1]⟩
  · exact ⟨_, _, rfl⟩
section
variable (w : World)
set_option maxHeartbeats 4000000 in
theorem ssets_any (n k : Nat) (hn : n ≤ 5) :
    Calls Tryz.prog 102 #[.int .i64 k, .int .i64 n] w fun r w' => (∃ v, r = .returned v ∧ Hid (OwnLs w.heap.size w' v (setsL n k))) ∧ Below w.heap.size w w' := by
  obtain ⟨i0, hi, hz0, hz1, hz2⟩ := info_parts info_i64
  obtain ⟨i1, ji, jz0, jz1, jz2⟩ := info_parts ll_info
  replace hi := Lib.hid hi
  replace hz0 := Lib.hid hz0
  replace hz1 := Lib.hid hz1
  replace hz2 := Lib.hid hz2
  replace ji := Lib.hid ji
  replace jz0 := Lib.hid jz0
  replace jz1 := Lib.hid jz1
  replace jz2 := Lib.hid jz2
  have hN := two_pow_le hn
  have hp := shl_n n hn
  obtain ⟨N, hN2⟩ : ∃ N, 2 ^ n = N := ⟨_, rfl⟩
  have hLN : setsL n k = setsTo k N := by rw [setsL, hN2]
  have hall := Lib.hid (fun s (hs : s < N) => bitsTo_all n hn s (by rw [hN2]; exact hs))
  rw [hN2] at hN hp
  rw [hLN]
  clear hN2 hLN
  have hw0 : (n : Int) % 18446744073709551616 = (n : Int) := by omega
  go_enter Tryz.func102, Tryz.ntmps102
  go_wp2
  go_loopw [5, 6] (fun v c wr => ∃ s : Nat, s ≤ N ∧ c = .int .i64 s ∧ Hid (OwnLs w.heap.size wr v (setsTo k s)) ∧ Below w.heap.size w wr) (fun _ c _ => N - (intOf c).toNat)
  case atStart => exact ⟨0, by omega, rfl, OwnLs.made _ _ 0 (Nat.le_refl _) rfl, by (repeat (first | exact Below.refl _ _ | assumption | refine bchain (by assumption) ?_ | refine balloc ?_ _ | apply Below.drew | apply below_drewN | (refine Below.alloc ?_ (by (try simp) <;> omega) _) | (refine Below.setCell ?_ (by (try simp) <;> omega) _)))⟩
  case round =>
    obtain ⟨s, hs, rfl, hO, hb⟩ := hrel
    by_cases hlt : s < N
    · have hlt2 : (s : Int) < (N : Int) := by omega
      have hs0 : (0 : Int) ≤ (s : Int) := by omega
      have hge := hb.size
      rename World => V
      go_wp2
      rw [hp]
      have hst0 : Hid ((V.alloc (.cells #[] 2)).ownsRow V.heap.size 2 1 (.slice (some ⟨V.heap.size, 0, none⟩) 0 0) 0 []) := World.ownsRow_made V #[] 0 (Nat.le_refl _) (by omega) rfl
      have hbb0 : Below V.heap.size V (V.alloc (.cells #[] 2)) := (Below.refl _ _).alloc (Nat.le_refl _) _
      go_loopw [7, 8] (fun u c wr => ∃ (v : Nat) (ug uc : Nat), v ≤ n ∧ c = .int .i64 v ∧ u = .slice (some ⟨ug, 0, none⟩) (bitsTo s v).length uc ∧ Hid (wr.ownsRow V.heap.size 2 1 u (bitsTo s v).length (rowV (bitsTo s v))) ∧ Below V.heap.size V wr) (fun _ c _ => n - (intOf c).toNat)
      case atStart => exact ⟨0, _, _, by omega, rfl, rfl, hst0.out, hbb0⟩
      case round =>
        clear hst0 hbb0
        obtain ⟨v, ug, uc, hv, rfl, rfl, hown, hb2⟩ := hrel
        by_cases hlv : v < n
        · have hlv2 : (v : Int) < (n : Int) := by omega
          have hv0 : (0 : Int) ≤ (v : Int) := by omega
          have hwv : (v : Int) % 18446744073709551616 = (v : Int) := by omega
          have hbit := bit_key s (by omega) v (by omega)
          have hge2 := hb2.size
          have hbl := bitsTo_len s v
          cases hc : s.testBit v
          · rw [hc] at hbit
            have hst := Lib.hid (bitsTo_f hc)
            clear hc
            go_wp2
            go_roundw
            case rel => exact ⟨v + 1, ug, uc, by omega, by go_num, by rw [hst.out], by rw [hst.out]; exact hown, hb2⟩
            case measure => simp [intOf]; omega
          · rw [hc] at hbit
            have hst := Lib.hid (bitsTo_t hc)
            clear hc
            obtain ⟨m, hm⟩ : ∃ m, (bitsTo s v).length = m := ⟨_, rfl⟩
            rw [hm] at hown hbl ⊢
            go_wp2_with (at_builtin; refine wpList_append_own _ rfl _ _ 69 rfl V.heap.size 2 i0 (.int .i64 0) 1 8 Tryz.underlying69 hi.out hz0.out hz1.out hz2.out rfl (by decide) _ _ _ rfl (hown.out.alloc _) ⟨wr.heap.size, 0, none⟩ 1 1 [.int .i64 v] rfl rfl (fun q u hq => by cases q with | zero => simp at hq; subst hq; rw [show (⟨wr.heap.size, 0, none⟩ : Addr).add 0 = ⟨wr.heap.size, 0, none⟩ from rfl, World.cell?_alloc_new]; rfl | succ q => simp at hq) (fun u hu => by simp at hu; subst hu; rfl) (by unfold maxLen; omega) (by omega) (by simp; omega) ?_; intro v' w1 hown' hgrow _; obtain ⟨vg, vc, rfl⟩ := Go.Joins.ownsRow_form hown' (by omega))
            have hlen1 : (bitsTo s (v + 1)).length = m + 1 := by rw [hst.out, List.length_append, hm]; rfl
            have hown2 : Hid (w1.ownsRow V.heap.size 2 1 (.slice (some ⟨vg, 0, none⟩) (m + 1) vc) (m + 1) (rowV (bitsTo s (v + 1)))) := by
              show w1.ownsRow _ _ _ _ _ _
              rw [hst.out, rowV_snoc]
              exact hown'
            replace hlen1 := Lib.hid hlen1
            have hb3 : Below V.heap.size V w1 := (hb2.alloc hge2 _).grown hgrow (by simp; omega) (fun k hk => (hown.out.lt k hk).1)
            clear hown' hgrow hown hm
            go_wp2
            go_roundw
            case rel => exact ⟨v + 1, vg, vc, by omega, by go_num, by rw [hlen1.out], by rw [hlen1.out]; exact hown2, hb3⟩
            case measure => simp [intOf]; omega
        · obtain rfl : v = n := by omega
          have hdd := decide_eq_false (show ¬ ((v : Int) < (v : Int)) by omega)
          have hal := hall.out s hlt
          rw [hal] at hown ⊢
          clear hal
          have hO2 := Lib.hid (hO.out.below hb2)
          have hge2 := hb2.size
          have hbb := Lib.hid (hb.trans (hb2.mono hge))
          have hlen := bitsL_len s (by omega)
          have hsl := setsTo_le k s
          obtain ⟨q, hq⟩ : ∃ q, (bitsL s).length = q := ⟨_, rfl⟩
          rw [hq] at hlen hown ⊢
          cases hc : isS k s
          · have hst := Lib.hid (setsTo_f hc)
            have heq : ((q : Int) == (k : Int)) = false := by
              unfold isS at hc
              rw [hq] at hc
              simp at hc ⊢
              omega
            clear hc hown hO hb2
            go_wp2
            go_roundw
            case rel => exact ⟨s + 1, by omega, by go_num, by rw [hst.out]; exact hO2.out, hbb.out⟩
            case measure => simp [intOf]; omega
          · have hst := Lib.hid (setsTo_t hc)
            have heq : ((q : Int) == (k : Int)) = true := by
              unfold isS at hc
              rw [hq] at hc
              simp at hc ⊢
              omega
            obtain ⟨us, z1, z2⟩ := hO.out
            have z5 := Lib.hid z1.lt
            replace z1 := z1.below hb2
            replace z2 := row_below z2 hb2
            have hge3 := hbb.out.size
            have hown5 := Lib.hid hown.out
            replace z1 := Lib.hid z1
            replace z2 := Lib.hid z2
            obtain ⟨m, hm⟩ : ∃ m, (setsTo k s).length = m := ⟨_, rfl⟩
            rw [hm] at hsl z2
            clear hc hown hO hb2
            go_wp2_with (at_builtin; refine wpList_append_own _ rfl _ _ 65 rfl w.heap.size 69 i1 (.slice none 0 0) 1 24 Tryz.underlying65 ji.out jz0.out jz1.out jz2.out rfl (by decide) _ _ _ rfl (z2.out.alloc _) ⟨wr.heap.size, 0, none⟩ 1 1 [.slice (some ⟨ug, 0, none⟩) q uc] rfl rfl (fun q u hq => by cases q with | zero => simp at hq; subst hq; rw [show (⟨wr.heap.size, 0, none⟩ : Addr).add 0 = ⟨wr.heap.size, 0, none⟩ from rfl, World.cell?_alloc_new]; rfl | succ q => simp at hq) (fun u hu => by simp at hu; subst hu; rfl) (by unfold maxLen; omega) (by omega) (by simp; omega) ?_; intro v' w1 hown' hgrow _)
            have hO6 : Hid (OwnLs w.heap.size w1 v' (setsTo k (s + 1))) := by
              rw [hst.out]
              exact OwnLs.push (b2 := V.heap.size) (z1.out.below (balloc (Below.refl _ _) _)) (by rw [hm]; exact z2.out.alloc _) hge z5.out (by rw [hq]; exact hown5.out.alloc _) (by rw [hm, hq]; exact hown') hgrow
            have hb6 : Below w.heap.size w w1 := (hbb.out.alloc hge3 _).grown hgrow (by simp; omega) (fun k hk => (z2.out.lt k hk).1)
            clear hown' hgrow z1 z2 z5 hm hown5
            go_wp2
            go_roundw
            case rel => exact ⟨s + 1, by omega, by go_num, hO6, hb6⟩
            case measure => simp [intOf]; omega
    · obtain rfl : s = N := by omega
      have hdd := decide_eq_false (show ¬ ((s : Int) < (s : Int)) by omega)
      go_wp2
      go_ret
      exact ⟨⟨_, rfl, hO⟩, hb⟩
end
end Go.Proofs.YtncbimbbkealmaaGreatDoor
/-
  The model's sets of unlabelled vertices (spec.l04Sets): made, then each moved behind the labels in place.
-/
namespace Go.Proofs.YtncbimbbkealmaaGreatDoor
open Go.RowKit Go.Shelf
set_option maxRecDepth 100000
attribute [local go_sem] Oper.semAt_some
/-- a list of lists, none nil, as it is read -/
def SeeLs (W : World) (v : Value) (L : List (List Nat)) : Prop :=
  ∃ a cap, v = .slice a L.length cap ∧ L.length ≤ cap ∧ cap ≤ maxLen ∧ ∀ i, i < L.length → ∃ g u, a = some ⟨g, 0, none⟩ ∧ g < W.heap.size ∧ W.cell? ⟨g, i, none⟩ = some u ∧ SlS W u (zl (L[i]?.getD []))
theorem SeeLs.below {W W' : World} {v : Value} {L : List (List Nat)} (h : SeeLs W v L) (hb : Below W.heap.size W W') : SeeLs W' v L := by
  obtain ⟨a, cap, e, h1, h2, h3⟩ := h
  refine ⟨a, cap, e, h1, h2, fun i hi => ?_⟩
  obtain ⟨g, u, e1, e2, e3, e4⟩ := h3 i hi
  exact ⟨g, u, e1, Nat.lt_of_lt_of_le e2 hb.size, (hb.cell (p := ⟨g, i, none⟩) e2).trans e3, SlS.below e4 hb⟩
/-- the rows' blocks, with what they hold -/
structure RowsS (W : World) (A : Nat) (L : List (List Nat)) (R C : Nat → Nat) (f : Nat → Nat → Int) : Prop where
  ltA : A < W.heap.size
  lt : ∀ i, i < L.length → R i < W.heap.size
  hd : ∀ i, i < L.length → W.cell? ⟨A, i, none⟩ = some (.slice (some ⟨R i, 0, none⟩) (L[i]?.getD []).length (C i))
  cf : ∀ i, i < L.length → ∀ p, p < (L[i]?.getD []).length → W.cell? ⟨R i, p, none⟩ = some (.int .i64 (f i p))
  fz : ∀ i, i < L.length → ∀ c, W.frozen? ⟨R i, c, none⟩ = false
structure BlS (base A : Nat) (L : List (List Nat)) (R C : Nat → Nat) : Prop where
  ge : ∀ i, i < L.length → base ≤ R i
  ne : ∀ i, i < L.length → A ≠ R i
  inj : ∀ i j, i < L.length → j < L.length → i ≠ j → R i ≠ R j
  le : ∀ i, i < L.length → (L[i]?.getD []).length ≤ C i
  cm : ∀ i, i < L.length → C i ≤ maxLen
def xAt (L : List (List Nat)) (i p : Nat) : Nat := (L[i]?.getD [])[p]?.getD 0
theorem OwnLs.rows {base : Nat} {W : World} {v : Value} {L : List (List Nat)} (h : OwnLs base W v L) :
    (L.length = 0 ∧ ∃ a cap, v = .slice a 0 cap ∧ cap ≤ maxLen) ∨ ∃ A cap R C, v = .slice (some ⟨A, 0, none⟩) L.length cap ∧ L.length ≤ cap ∧ cap ≤ maxLen ∧ base ≤ A ∧ BlS base A L R C ∧ RowsS W A L R C (fun i p => (xAt L i p : Nat)) := by
  obtain ⟨us, ⟨h1, h3, h4⟩, h2⟩ := h
  rcases h2.2 with ⟨e0, e1⟩ | ⟨A, cap, cur, rfl, a1, a2, a3, a4, a5, a6⟩
  · exact .inl ⟨e1, none, 0, by rw [e0], by unfold maxLen; omega⟩
  · have hall : ∀ i, ∃ p : Nat × Nat, i < L.length → us[i]? = some (.slice (some ⟨p.1, 0, none⟩) (L[i]?.getD []).length p.2) ∧ W.ownsRow base 2 1 (.slice (some ⟨p.1, 0, none⟩) (L[i]?.getD []).length p.2) (L[i]?.getD []).length (rowV (L[i]?.getD [])) := fun i => by
      by_cases hi : i < L.length
      · obtain ⟨g, c, e1, e2⟩ := h3 i hi
        exact ⟨(g, c), fun _ => ⟨e1, e2⟩⟩
      · exact ⟨(0, 0), fun c => absurd c hi⟩
    obtain ⟨P, hP⟩ := Classical.axiomOfChoice hall
    have key : ∀ i, i < L.length → base ≤ (P i).1 ∧ (P i).1 < W.heap.size ∧ (L[i]?.getD []).length ≤ (P i).2 ∧ (P i).2 ≤ maxLen ∧ (∃ c2, W.heap[(P i).1]? = some (.cells c2 2 (0, 0))) ∧ ∀ p, p < (L[i]?.getD []).length → W.cell? ⟨(P i).1, p, none⟩ = some (.int .i64 (xAt L i p : Nat)) := fun i hi => by
      rcases (hP i hi).2.2 with ⟨e0, _⟩ | ⟨g, c, cu, e, b1, b2, b3, b4, b5, b6⟩
      · cases e0
      · injection e with e1 e2 e3
        injection e1 with e1
        injection e1 with e1
        rw [e1, e3]
        refine ⟨b1, (Array.getElem?_eq_some_iff.1 b2).1, b3, b4, ⟨cu, b2⟩, fun p hp => ?_⟩
        have h1 : (cu.toList.take ((L[i]?.getD []).length * 1))[p]? = some (.int .i64 (xAt L i p : Nat)) := by
          rw [b6]
          unfold rowV xAt
          rw [List.getElem?_map, List.getElem?_eq_getElem hp]
          rfl
        rw [List.getElem?_take_of_lt (by omega)] at h1
        simpa [World.cell?, b2] using h1
    refine .inr ⟨A, cap, fun i => (P i).1, fun i => (P i).2, rfl, a3, a4, a1, ⟨fun i hi => (key i hi).1, fun i hi e => ?_, fun i j hi hj hij => ?_, fun i hi => (key i hi).2.2.1, fun i hi => (key i hi).2.2.2.1⟩, ⟨(Array.getElem?_eq_some_iff.1 a2).1, fun i hi => (key i hi).2.1, fun i hi => ?_, fun i hi p hp => (key i hi).2.2.2.2.2 p hp, fun i hi c => ?_⟩⟩
    · obtain ⟨c2, hc⟩ := (key i hi).2.2.2.2.1
      have e' : A = (P i).1 := e
      rw [← e', a2] at hc
      injection hc with hc
      injection hc with _ c3
      exact absurd c3 (by decide)
    · have kk : ∀ i j, i < L.length → j < L.length → i < j → (P i).1 ≠ (P j).1 := fun i j hi hj hij e => by
        rcases h4 i j _ _ hij (hP i hi).1 (hP j hj).1 with h | h
        · cases h
        · exact h (by show some (P i).1 = some (P j).1; rw [e])
      rcases Nat.lt_or_gt_of_ne hij with c | c
      · exact kk i j hi hj c
      · exact fun e => kk j i hj hi c e.symm
    · have h1 : (cur.toList.take (L.length * 1))[i]? = some (.slice (some ⟨(P i).1, 0, none⟩) (L[i]?.getD []).length (P i).2) := by rw [a6]; exact (hP i hi).1
      rw [List.getElem?_take_of_lt (by omega)] at h1
      simpa [World.cell?, a2] using h1
    · obtain ⟨c2, hc⟩ := (key i hi).2.2.2.2.1
      simp [World.frozen?, hc]
/-- one number written -/
theorem RowsS.set {W : World} {base A : Nat} {L : List (List Nat)} {R C : Nat → Nat} {f : Nat → Nat → Int} (h : RowsS W A L R C f) (hB : BlS base A L R C) {i j : Nat} (hi : i < L.length) (hj : j < (L[i]?.getD []).length) (z : Int) :
    RowsS (W.setCell ⟨R i, j, none⟩ (.int .i64 z)) A L R C (fun a b => if a = i ∧ b = j then z else f a b) := by
  refine ⟨by simpa using h.ltA, fun a ha => by simpa using h.lt a ha, fun a ha => ?_, fun a ha p hp => ?_, fun a ha c => by rw [World.frozen?_setCell]; exact h.fz a ha c⟩
  · rw [World.cell?_setCell_other _ _ _ _ (by intro e; injection e with e; exact hB.ne i hi e.symm)]
    exact h.hd a ha
  · by_cases e : a = i ∧ p = j
    · obtain ⟨rfl, rfl⟩ := e
      rw [World.cell?_setCell_same _ _ _ (h.cf a ha p hp), if_pos ⟨rfl, rfl⟩]
    · rw [if_neg e, World.cell?_setCell_other]
      · exact h.cf a ha p hp
      · intro e2
        injection e2 with e3 e4
        by_cases e5 : a = i
        · subst e5
          exact e ⟨rfl, e4.symm⟩
        · exact hB.inj a i ha hi e5 e3.symm
theorem RowsS.congr {W : World} {A : Nat} {L : List (List Nat)} {R C : Nat → Nat} {f g : Nat → Nat → Int} (h : RowsS W A L R C f) (e : ∀ i, i < L.length → ∀ p, p < (L[i]?.getD []).length → g i p = f i p) : RowsS W A L R C g :=
  ⟨h.ltA, h.lt, h.hd, fun i hi p hp => by rw [e i hi p hp]; exact h.cf i hi p hp, h.fz⟩
theorem RowsS.drew {W : World} {A : Nat} {L : List (List Nat)} {R C : Nat → Nat} {f : Nat → Nat → Int} (h : RowsS W A L R C f) : RowsS W.drew A L R C f := ⟨h.ltA, h.lt, h.hd, h.cf, h.fz⟩
/-- up to a place the numbers are moved -/
def mvF (L : List (List Nat)) (k i j : Nat) (a b : Nat) : Int := if a < i ∨ (a = i ∧ b < j) then ((xAt L a b : Nat) : Int) + (k : Int) else ((xAt L a b : Nat) : Int)
theorem RowsS.done {W : World} {base A cap k : Nat} {L : List (List Nat)} {R C : Nat → Nat} (h : RowsS W A L R C (mvF L k L.length 0)) (hB : BlS base A L R C) (h1 : L.length ≤ cap) (h2 : cap ≤ maxLen) :
    SeeLs W (.slice (some ⟨A, 0, none⟩) L.length cap) (L.map (shN k)) := by
  refine ⟨_, cap, by rw [List.length_map], by rw [List.length_map]; exact h1, h2, fun i hi => ?_⟩
  rw [List.length_map] at hi
  have e : (L.map (shN k))[i]?.getD [] = shN k (L[i]?.getD []) := by
    rw [List.getElem?_map, List.getElem?_eq_getElem hi]; rfl
  refine ⟨A, _, rfl, h.ltA, h.hd i hi, ?_⟩
  rw [e]
  have hl : (zl (shN k (L[i]?.getD []))).length = (L[i]?.getD []).length := by rw [zl_length, shN_length]
  have hm : maxLen ≤ 9223372036854775807 := by unfold maxLen; omega
  refine ⟨⟨_, C i, by rw [hl], by rw [hl]; exact hB.le i hi, Nat.le_trans (hB.cm i hi) hm, fun _ => ⟨R i, 0, rfl, h.lt i hi, fun p hp => ?_⟩⟩, ⟨_, C i, by rw [hl]⟩⟩
  rw [hl] at hp
  rw [Nat.zero_add, h.cf i hi p hp, zl_get]
  unfold mvF shN xAt
  rw [if_pos (.inl hi), List.getElem?_map, List.getElem?_eq_getElem hp]
  simp
  omega
section
variable (w : World)
set_option maxHeartbeats 4000000 in
theorem sl4_any (k n e q : Nat) (hn : n ≤ 5) (hkn : k ≤ n) :
    Calls Tryz.prog 80 #[.int .i64 q, .agg #[.int .i64 k, .int .i64 n, .int .u32 e]] w fun r w' => (∃ v, r = .returned v ∧ Hid (SeeLs w' v ((setsL (n - k) q).map (shN k)))) ∧ Below w.heap.size w w' := by
  have hS := Lib.hid (fun W => ssets_any W (n - k) q (by omega))
  have e1 : (n : Int) - (k : Int) = ((n - k : Nat) : Int) := by omega
  have hsm : ∀ i, i < (setsL (n - k) q).length → ∀ p, p < ((setsL (n - k) q)[i]?.getD []).length → xAt (setsL (n - k) q) i p < 5 := fun i hi p hp => by
    have hmem : (setsL (n - k) q)[i]?.getD [] ∈ setsL (n - k) q := by rw [List.getElem?_eq_getElem hi]; exact List.getElem_mem hi
    exact cf_small hn hmem p hp
  have hln : ∀ i, i < (setsL (n - k) q).length → ((setsL (n - k) q)[i]?.getD []).length ≤ 5 := fun i hi => by
    have hmem : (setsL (n - k) q)[i]?.getD [] ∈ setsL (n - k) q := by rw [List.getElem?_eq_getElem hi]; exact List.getElem_mem hi
    have h1 := cf_mem hn hkn hmem
    have h2 := (sets_ok (show n - k ≤ 5 by omega) hmem).2
    omega
  have hcl := sets_len (k := q) (show n - k ≤ 5 by omega)
  obtain ⟨d, hd⟩ : ∃ d, n - k = d := ⟨_, rfl⟩
  rw [hd] at hS e1 hsm hln hcl ⊢
  have hd5 : d ≤ 5 := by omega
  obtain ⟨L, hL⟩ : ∃ L, setsL d q = L := ⟨_, rfl⟩
  rw [hL] at hS hsm hln hcl ⊢
  have hF0 := FC.made w k n e 43
  clear hd hL
  replace hsm := Lib.hid hsm
  replace hln := Lib.hid hln
  go_enter Tryz.func80, Tryz.ntmps80
  go_wp2_with fail
  refine (hS.out _).mono ?_
  rintro r1 w1 ⟨⟨v, rfl, hO⟩, hb1⟩
  have hF1 := hF0.below hb1
  have hB1 : Below w.heap.size w w1 := by (repeat (first | exact Below.refl _ _ | assumption | refine bchain (by assumption) ?_ | refine balloc ?_ _ | apply Below.drew | apply below_drewN | (refine Below.alloc ?_ (by (try simp) <;> omega) _) | (refine Below.setCell ?_ (by (try simp) <;> omega) _)))
  have hz1 := hb1.size
  simp only [World.size_alloc] at hz1
  rcases hO.out.rows with ⟨h0, a, cap, rfl, hcm⟩ | ⟨A, cap, R, C, rfl, h1, h2, h3, hB, hR⟩
  · have hz : L = [] := List.length_eq_zero_iff.1 h0
    subst hz
    have hfin : Hid (SeeLs w1 (.slice a 0 cap) (List.map (shN k) [])) := ⟨a, cap, rfl, by simp, hcm, fun i hi => absurd hi (by simp)⟩
    go_wp2
    go_loopw [6] (fun i wr => i = .int .i64 0 ∧ wr = w1) (fun _ _ => 0)
    case atStart => exact ⟨rfl, rfl⟩
    case round =>
      obtain ⟨rfl, rfl⟩ := hrel
      go_wp2
      go_ret
      exact ⟨⟨_, rfl, hfin⟩, hB1⟩
  · obtain ⟨N, hN⟩ : ∃ N, L.length = N := ⟨_, rfl⟩
    have hG : w.heap.size + 1 ≤ A := by simpa using h3
    rw [hN] at h1 hcl ⊢
    replace hN := Lib.hid hN
    replace hB := Lib.hid hB
    replace hR := Lib.hid hR
    clear hS hO
    go_wp2
    go_loopw [6] (fun i wr => ∃ a : Nat, a ≤ N ∧ i = .int .i64 a ∧ Hid (RowsS wr A L R C (mvF L k a 0)) ∧ FC wr w.heap.size k n e ∧ Below w.heap.size w wr) (fun i _ => N - (intOf i).toNat)
    case atStart =>
      exact ⟨0, by omega, rfl, hR.out.congr (fun i _ p _ => by unfold mvF; rw [if_neg (by omega)]), hF1, hB1⟩
    case round =>
      obtain ⟨a, ha, rfl, hM, hF, hb⟩ := hrel
      by_cases hlt : a < N
      · have han : (a : Int) < (N : Int) := by omega
        have haL : a < L.length := by rw [hN.out]; exact hlt
        have hla := hln.out a haL
        obtain ⟨m, hm⟩ : ∃ m, (L[a]?.getD []).length = m := ⟨_, rfl⟩
        rw [hm] at hla
        have hbr := Lib.hid hb
        rename World => V
        go_wp2
        go_loopw [7] (fun i wr => ∃ b : Nat, b ≤ m ∧ i = .int .i64 b ∧ Hid (RowsS wr A L R C (mvF L k a b)) ∧ FC wr w.heap.size k n e ∧ Below w.heap.size w wr) (fun i _ => m - (intOf i).toNat)
        case atStart => exact ⟨0, by omega, rfl, hM, hF, hb⟩
        case round =>
          obtain ⟨b, hb2, rfl, hM2, hF2, hb3⟩ := hrel
          have s0 := hM2.out.hd a haL
          rw [hm] at s0
          by_cases hlt2 : b < m
          · have hbm : (b : Int) < (m : Int) := by omega
            have c0 := hM2.out.cf a haL b (by rw [hm]; exact hlt2)
            have f0 := hM2.out.fz a haL b
            have hx5 := hsm.out a haL b (by rw [hm]; exact hlt2)
            have ec : mvF L k a b a b = ((xAt L a b : Nat) : Int) := by unfold mvF; rw [if_neg (by omega)]
            rw [ec] at c0
            obtain ⟨g0, g1, g2, g3⟩ := id hF2
            have hnx := Lib.hid ((hM2.out.set hB.out haL (show b < (L[a]?.getD []).length by rw [hm]; exact hlt2) (((xAt L a b : Nat) : Int) + (k : Int))).congr (g := mvF L k a (b + 1)) (fun i _ p _ => by
              show mvF L k a (b + 1) i p = if i = a ∧ p = b then ((xAt L a b : Nat) : Int) + (k : Int) else mvF L k a b i p
              by_cases e1 : i = a ∧ p = b
              · rw [if_pos e1]
                obtain ⟨rfl, rfl⟩ := e1
                unfold mvF
                rw [if_pos (by omega)]
              · rw [if_neg e1]
                unfold mvF
                by_cases e2 : i < a ∨ (i = a ∧ p < b)
                · rw [if_pos e2, if_pos (by omega)]
                · rw [if_neg e2, if_neg (by omega)]))
            have hRa := hB.out.ge a haL
            simp only [World.size_alloc] at hRa
            have hne : w.heap.size ≠ R a := by omega
            have hlR := hM2.out.lt a haL
            have hlA := hM2.out.ltA
            have hneA := hB.out.ne a haL
            have hFn := Lib.hid (hF2.other (p := ⟨R a, b, none⟩) (.int .i64 (((xAt L a b : Nat) : Int) + (k : Int))) (fun e => hne e.symm))
            have hbn : Below w.heap.size w (wr.setCell ⟨R a, b, none⟩ (.int .i64 (((xAt L a b : Nat) : Int) + (k : Int)))) := hb3.setCell (p := ⟨R a, b, none⟩) (by show _ ≤ R a; omega) _
            obtain ⟨x, hx⟩ : ∃ x : Nat, xAt L a b = x := ⟨_, rfl⟩
            obtain ⟨r, hr⟩ : ∃ r : Nat, R a = r := ⟨_, rfl⟩
            rw [hx] at c0 hnx hFn hbn hx5
            rw [hr] at c0 f0 s0 hnx hFn hbn hne hlR hneA
            have hk5 : k ≤ 5 := by omega
            clear hx hr hM2 hF2 hb3 ec hRa hM
            go_wp2
            go_region
            go_wp2
            go_roundw
            case rel => exact ⟨b + 1, by omega, by go_num, hnx.out.drew, hFn.out.below (Below.refl _ _).drew, hbn.drew⟩
            case measure => simp [intOf]; omega
          · obtain rfl : b = m := by omega
            have hdd := decide_eq_false (show ¬ ((b : Int) < (b : Int)) by omega)
            have hM3 := Lib.hid (hM2.out.congr (g := mvF L k (a + 1) 0) (fun i _ p hp => by
              unfold mvF
              by_cases e2 : i < a + 1
              · have hq : i < a ∨ (i = a ∧ p < b) := by
                  by_cases e3 : i = a
                  · subst e3
                    rw [hm] at hp
                    exact .inr ⟨rfl, hp⟩
                  · exact .inl (by omega)
                rw [if_pos (.inl e2), if_pos hq]
              · rw [if_neg (by omega), if_neg (by omega)]))
            clear hM2 hM
            go_wp2
            go_roundw
            case rel => exact ⟨a + 1, by omega, by go_num, hM3.out, hF2, hb3⟩
            case measure => simp [intOf]; omega
      · obtain rfl : a = N := by omega
        have hdd := decide_eq_false (show ¬ ((a : Int) < (a : Int)) by omega)
        have hM3 := hM.out
        rw [← hN.out] at hM3 h1
        have hfin := Lib.hid (hM3.done hB.out h1 h2)
        rw [hN.out] at hfin
        clear hM hM3
        go_wp2
        go_ret
        exact ⟨⟨_, rfl, hfin⟩, hb⟩
end
end Go.Proofs.YtncbimbbkealmaaGreatDoor
/-
  SETS OF UNLABELLED VERTICES: what the program's iterator yields.
-/
namespace Go.Proofs.YtncbimbbkealmaaGreatDoor
open Go.RowKit Go.Shelf
set_option maxRecDepth 100000
attribute [local go_sem] Oper.semAt_some
set_option maxHeartbeats 4000000 in
theorem unl_seesT (k n e q : Nat) (hn : n ≤ 5) (hkn : k ≤ n) (nn Bg Bq : Nat) (w : World) (hBq : Bq < w.heap.size) :
    SeqSeesT Fence.wide nn Tryz.prog 110 #[.pointer (some ⟨Bg, 0, none⟩), .pointer (some ⟨Bq, 0, none⟩)] (UInv Bg Bq k n e q) (SeeT w.heap.size) ((setsL (n - k) q).map (shN k)) w := fun l J W hW hJ hJi hY h0 => by
  obtain ⟨⟨_, c0, c1, c2⟩, cq, _⟩ := hJi _ _ h0
  have hU := Lib.hid (fun W => unl_any W k n e hkn (by omega))
  have hSo := Lib.hid (fun W => so_any W ((n - k : Nat) : Int) q)
  have hzW := hW.size
  obtain ⟨W1, hW1⟩ : ∃ W1, W1 = W.alloc (.cells #[.func (.yield l) #[] #[]] 125) := ⟨_, rfl⟩
  have hb1 : Below W.heap.size W W1 := by rw [hW1]; (repeat (first | exact Below.refl _ _ | assumption | refine bchain (by assumption) ?_ | refine balloc ?_ _ | apply Below.drew | apply below_drewN | (refine Below.alloc ?_ (by (try simp) <;> omega) _) | (refine Below.setCell ?_ (by (try simp) <;> omega) _)))
  have hz1 : W1.heap.size = W.heap.size + 1 := by rw [hW1]; simp
  have hy1 : W1.cell? ⟨W.heap.size, 0, none⟩ = some (.func (.yield l) #[] #[]) := by rw [hW1, cNew _ _ _ _ _ rfl]; rfl
  have d0 := (hb1.cell (p := ⟨Bg, 0, none⟩) (by show Bg < _; omega)).trans c0
  have d1 := (hb1.cell (p := ⟨Bg, 1, none⟩) (by show Bg < _; omega)).trans c1
  have d2 := (hb1.cell (p := ⟨Bg, 2, none⟩) (by show Bg < _; omega)).trans c2
  have dq := (hb1.cell (p := ⟨Bq, 0, none⟩) (by show Bq < _; omega)).trans cq
  have hlg : Bg < W1.heap.size := by omega
  have hlq : Bq < W1.heap.size := by omega
  replace hJ := Lib.hid hJ
  replace hJi := Lib.hid hJi
  replace hY := Lib.hid hY
  replace h0 := Lib.hid h0
  replace hy1 := Lib.hid hy1
  clear c0 c1 c2 cq
  refine callsIn_wide.2 ((callsIn_wide (n := 6)).1 ?_)
  refine callsIn_of_wp_marks Tryz.func110 rfl trivial ?_ rfl
  simp only [Tryz.ntmps110, List.size_toArray, List.length_cons, List.length_nil, Nat.reduceAdd, Nat.reduceSub, Array.replicate_succ, Array.replicate_zero, List.push_toArray, List.append_toArray, List.nil_append, List.cons_append]
  gi_wp2
  rw [← hW1]
  replace hW1 := Lib.hid hW1
  refine wpIn_wide.2 ?_
  go_region_held3 (fun B => B.cell? ⟨Bg, 0, none⟩ = some (.int .i64 k) ∧ B.cell? ⟨Bg, 1, none⟩ = some (.int .i64 n) ∧ B.cell? ⟨Bg, 2, none⟩ = some (.int .u32 e) ∧ B.cell? ⟨Bq, 0, none⟩ = some (.int .i64 q))
    (exact ⟨old_cell hlg d0 (by (repeat (first | exact Below.refl _ _ | assumption | refine bchain (by assumption) ?_ | refine balloc ?_ _ | apply Below.drew | apply below_drewN | (refine Below.alloc ?_ (by (try simp) <;> omega) _) | (refine Below.setCell ?_ (by (try simp) <;> omega) _)))), old_cell hlg d1 (by (repeat (first | exact Below.refl _ _ | assumption | refine bchain (by assumption) ?_ | refine balloc ?_ _ | apply Below.drew | apply below_drewN | (refine Below.alloc ?_ (by (try simp) <;> omega) _) | (refine Below.setCell ?_ (by (try simp) <;> omega) _)))), old_cell hlg d2 (by (repeat (first | exact Below.refl _ _ | assumption | refine bchain (by assumption) ?_ | refine balloc ?_ _ | apply Below.drew | apply below_drewN | (refine Below.alloc ?_ (by (try simp) <;> omega) _) | (refine Below.setCell ?_ (by (try simp) <;> omega) _)))), old_cell hlq dq (by (repeat (first | exact Below.refl _ _ | assumption | refine bchain (by assumption) ?_ | refine balloc ?_ _ | apply Below.drew | apply below_drewN | (refine Below.alloc ?_ (by (try simp) <;> omega) _) | (refine Below.setCell ?_ (by (try simp) <;> omega) _))))⟩)
    (first
      | (go_at_call 22; refine (hU.out _).mono ?_; rintro r3 w3 ⟨rfl, hb3⟩)
      | (go_at_call 111; refine (hSo.out _).mono ?_; rintro r4 w4 ⟨B, rfl, hM⟩; have hb4 := hM.below))
  have hb14 : Below W1.heap.size W1 w4 := by (repeat (first | exact Below.refl _ _ | assumption | refine bchain (by assumption) ?_ | refine balloc ?_ _ | apply Below.drew | apply below_drewN | (refine Below.alloc ?_ (by (try simp) <;> omega) _) | (refine Below.setCell ?_ (by (try simp) <;> omega) _)))
  have hb04 : Below W.heap.size W w4 := hb1.trans (hb14.mono (by omega))
  obtain ⟨mB, mge, mlt, mn, mk⟩ := hM
  have hz3 := hb3.size
  have hz3' : W1.heap.size ≤ w3.heap.size := hz3
  have hj4 := Lib.hid (hJ.out _ _ _ h0.out hb04)
  have hy4 : w4.cell? ⟨W.heap.size, 0, none⟩ = some (.func (.yield l) #[] #[]) := (hb14.cell (p := ⟨W.heap.size, 0, none⟩) (by show W.heap.size < _; omega)).trans hy1.out
  have hT4 := (hJi.out _ _ hj4.out).t
  have hSI : SInv B (B + 1) (n - k) q w4 := ⟨mn, mk, hT4⟩
  have htl := hT4.lt
  obtain ⟨Y, hYd⟩ : ∃ Y, W.heap.size = Y := ⟨_, rfl⟩
  have hgl : 0 < w4.heap.size := htl
  have hY4 : Y < w4.heap.size := by omega
  rw [hYd] at hy4 hb04 ⊢
  clear hy1 hb14 hb3 hb4 mB mn mk hT4 htl d0 d1 d2 dq hb1 h0
  have hmk0 := @run_make Tryz.prog
  obtain ⟨i0, hi0, hz0, hs0, hbb0⟩ := info_parts info_i64
  have hmk : ∀ (m : Nat) (A : World), m ≤ 1000 → (Instr.makeSlice 69 (.int .i64 (m : Int)) (.int .i64 (m : Int))).run Tryz.prog A = .ok (.slice (some ⟨A.heap.size, 0, none⟩) m m) (A.alloc (.cells (madeCells #[.int .i64 0] (m * 1)) 2)) := fun m A hm => by
    have hr := run_make (P := Tryz.prog) A 69 2 i0 (.int .i64 0) Tryz.underlying69 hi0 hz0 .i64 .i64 (m : Int) (m : Int) (by omega) (by omega) (by rw [hbb0]; omega) (by omega)
    simp only [Int.toNat_natCast, hs0] at hr
    exact hr
  replace hmk := Lib.hid hmk
  clear hmk0 hi0 hz0 hs0 hbb0
  gi_wp2_with fail
  refine wpIn_range_seesC rfl (by omega) (gf := 112) (lb := #[.pointer (some ⟨B, 0, none⟩), .pointer (some ⟨B + 1, 0, none⟩)]) rfl trivial (enters_of Tryz.func112 (by kernel_rfl) rfl)
    (sets_sees (n - k) q (by omega) 5 B (B + 1) w4) (Below.refl _ _) rfl See.below See.cellular
    (fun pre A => J (pre.map (shN k)) A ∧ A.cell? ⟨Y, 0, none⟩ = some (.func (.yield l) #[] #[]) ∧ SInv B (B + 1) (n - k) q A ∧ w4.heap.size ≤ A.heap.size)
    (fun _ _ _ => False)
    (fun s A hs => hs.2.2.1)
    (fun s A A' hs hb => ⟨hJ.out _ _ _ hs.1 (hb.mono (by have := hb04.size; omega)), (hb.cell (p := ⟨Y, 0, none⟩) (by show Y < _; omega)).trans hs.2.1, hs.2.2.1.under hb (by omega) (by omega) hgl, Nat.le_trans hs.2.2.2 hb.size⟩)
    (fun _ _ _ _ _ _ _ hs _ _ => hs)
    ⟨hj4.out, hy4, hSI, Nat.le_refl _⟩
    (fun v a' _ => a' = { tmps := #[.func (.yield l) #[] #[], .pointer (some ⟨Bg, 0, none⟩), .pointer (some ⟨Bq, 0, none⟩), .pointer (some ⟨Y, 0, none⟩), v, undef, undef, undef, .agg #[.int .i64 k, .int .i64 n, .int .u32 e], .int .i64 ((n - k : Nat) : Int), .int .i64 q, .func (.func 112) #[] #[.pointer (some ⟨B, 0, none⟩), .pointer (some ⟨B + 1, 0, none⟩)], v, undef, undef, undef, undef, undef, undef, undef, undef, undef, undef, undef, undef, undef, undef, undef, undef, undef, undef, undef, undef, undef, undef], defers := [] })
    (fun _ _ _ _ _ _ h _ _ => h) ?assign ?body ?done ?stop
  case assign =>
    intro l' x v A K hS hK
    gi_wp2
    exact hK _ _ (Below.refl _ _) rfl
  case body =>
    rintro l' pre x rest v a' A hl' hlr hL ⟨hj, hy, hS, hz⟩ hSee rfl
    have hxm : x ∈ setsL (n - k) q := by rw [hL]; simp
    have hxs := cf_small hn hxm
    have hxl5 := (sets_ok (show n - k ≤ 5 by omega) hxm)
    have hxl := (cf_mem hn hkn hxm).1
    obtain ⟨va, vc, rfl, hv1, hv2, hvc⟩ := hSee
    rw [zl_length] at hv1 hvc ⊢
    have hg := (hJi.out _ _ hj).g
    have hL' : (setsL (n - k) q).map (shN k) = pre.map (shN k) ++ shN k x :: rest.map (shN k) := by rw [hL]; simp
    have hYv := Lib.hid (fun v2 W2 (h1 : J (pre.map (shN k)) W2) (h2 : SeeT w.heap.size (shN k x) v2 W2) => hY.out _ _ _ v2 W2 hL' h1 h2)
    have hshl := shN_length k x
    have hshg : ∀ i, i < x.length → (zl (shN k x))[i]?.getD 0 = ((k + x[i]?.getD 0 : Nat) : Int) := fun i hi => by
      rw [zl_get]
      unfold shN
      rw [List.getElem?_map, List.getElem?_eq_getElem hi]
      rfl
    have hmap : (pre ++ [x]).map (shN k) = pre.map (shN k) ++ [shN k x] := by simp
    replace hmap := Lib.hid hmap
    have hvc' : Hid (∀ i, i < x.length → ∃ b off, va = some ⟨b, off, none⟩ ∧ b < A.heap.size ∧ A.cell? ⟨b, off + i, none⟩ = some (.int .i64 ((x[i]?.getD 0 : Nat) : Int))) := fun i hi => by
      obtain ⟨b, off, e1, e2, e3⟩ := hvc (by intro c; have := zl_length x; rw [c] at this; simp at this; omega)
      exact ⟨b, off, e1, e2, by rw [e3 i hi, zl_get]⟩
    obtain ⟨m, hm⟩ : ∃ m, x.length = m := ⟨_, rfl⟩
    rw [hm] at hxs hshl hshg hvc' hv1 ⊢
    have hm5 : m ≤ 5 := by omega
    have hmkA := hmk.out m A (by omega)
    have hA0 := World.alloc_heap_new A (.cells (madeCells #[.int .i64 0] (m * 1)) 2)
    have hcel0 : Hid (∀ i, i < m → (A.alloc (.cells (madeCells #[.int .i64 0] (m * 1)) 2)).cell? ⟨A.heap.size, i, none⟩ = some (.int .i64 0)) := fun i hi => by
      rw [World.cell?_alloc_new]
      simp [madeCells, hi, Nat.mod_one]
    replace hshg := Lib.hid hshg
    replace hxs := Lib.hid hxs
    replace hj := Lib.hid hj
    replace hS := Lib.hid hS
    obtain ⟨O, hO⟩ : ∃ O, O = Obj.cells (madeCells #[.int .i64 0] (m * 1)) 2 := ⟨_, rfl⟩
    rw [← hO] at hmkA hcel0
    have hfr0 : ∀ i, (A.alloc O).frozen? ⟨A.heap.size, i, none⟩ = false := fun i => by rw [hO]; simp
    replace hfr0 := Lib.hid hfr0
    replace hm := Lib.hid hm
    clear hO hA0 hvc hL hL' hxm hxl5
    have hzA : (A.alloc O).heap.size = A.heap.size + 1 := by simp
    have hbA : Below A.heap.size A (A.alloc O) := balloc (Below.refl _ _) O
    gi_wp2
    gi_loopw [18] (fun i wr => ∃ j : Nat, j ≤ m ∧ i = .int .i64 j ∧ Hid (∀ i, i < m → wr.cell? ⟨A.heap.size, i, none⟩ = some (.int .i64 (if i < j then ((k : Int) + ((x[i]?.getD 0 : Nat) : Int)) else 0))) ∧ Hid (∀ i, wr.frozen? ⟨A.heap.size, i, none⟩ = false) ∧ A.heap.size < wr.heap.size ∧ Below A.heap.size A wr) (fun i _ => m - (intOf i).toNat)
    case atStart => exact ⟨0, by omega, rfl, (fun i hi => by rw [if_neg (by omega)]; exact hcel0.out i hi), hfr0.out, by omega, hbA⟩
    case round =>
      obtain ⟨j, hj2, rfl, hC, hF, hzr, hbr⟩ := hrel
      by_cases hlt : j < m
      · obtain ⟨b, off, rfl, hb1, hb2⟩ := hvc'.out j hlt
        have hxj := hxs.out j hlt
        have s0 := (hbr.cell (p := ⟨b, off + j, none⟩) hb1).trans hb2
        have hjm : (j : Int) < (m : Int) := by omega
        have g0 := (hbr.cell (p := ⟨Bg, 0, none⟩) hg.lt).trans hg.c0
        have c0 := hC.out j hlt
        rw [if_neg (by omega)] at c0
        have f0 := hF.out j
        have hC2 : Hid (∀ i, i < m → (wr.setCell ⟨A.heap.size, j, none⟩ (.int .i64 ((k : Int) + ((x[j]?.getD 0 : Nat) : Int)))).cell? ⟨A.heap.size, i, none⟩ = some (.int .i64 (if i < j + 1 then ((k : Int) + ((x[i]?.getD 0 : Nat) : Int)) else 0))) := fun i hi => by
          by_cases e1 : i = j
          · subst e1
            rw [World.cell?_setCell_same _ _ _ c0, if_pos (by omega)]
          · rw [World.cell?_setCell_other _ _ _ _ (by (try simp) <;> omega), hC.out i hi]
            by_cases e2 : i < j
            · rw [if_pos e2, if_pos (by omega)]
            · rw [if_neg e2, if_neg (by omega)]
        have hF2 : Hid (∀ i, (wr.setCell ⟨A.heap.size, j, none⟩ (.int .i64 ((k : Int) + ((x[j]?.getD 0 : Nat) : Int)))).frozen? ⟨A.heap.size, i, none⟩ = false) := fun i => by
          rw [World.frozen?_setCell]; exact hF.out i
        have hb3 : Below A.heap.size A (wr.setCell ⟨A.heap.size, j, none⟩ (.int .i64 ((k : Int) + ((x[j]?.getD 0 : Nat) : Int)))) := hbr.setCell (p := ⟨A.heap.size, j, none⟩) (Nat.le_refl _) _
        have hk5 : k ≤ 5 := by omega
        obtain ⟨z, hz⟩ : ∃ z : Nat, x[j]?.getD 0 = z := ⟨_, rfl⟩
        rw [hz] at hxj s0 hC2 hF2 hb3
        clear hC hF hz hb2
        gi_wp2
        go_roundw
        case rel => exact ⟨j + 1, by omega, by go_num, hC2, hF2, by (try simp) <;> omega, hb3⟩
        case measure => simp [intOf]; omega
      · obtain rfl : j = m := by omega
        have hdd := decide_eq_false (show ¬ ((j : Int) < (j : Int)) by omega)
        have hzr2 : Y < A.heap.size := by omega
        have hjr := Lib.hid (hJ.out _ _ _ hj.out (hbr.mono (by have := hb04.size; omega)))
        have hyr : wr.cell? ⟨Y, 0, none⟩ = some (.func (.yield l) #[] #[]) := (hbr.cell (p := ⟨Y, 0, none⟩) hzr2).trans hy
        have hsee : SeeT w.heap.size (shN k x) (.slice (some ⟨A.heap.size, 0, none⟩) j j) wr := by
          refine ⟨⟨⟨_, j, by rw [zl_length, hshl], by rw [zl_length, hshl]; exact Nat.le_refl _, by omega, fun _ => ⟨A.heap.size, 0, rfl, hzr, fun i hi => ?_⟩⟩, ⟨_, j, by rw [zl_length, hshl]⟩⟩, A.heap.size, 0, j, j, rfl, by omega⟩
          rw [zl_length, hshl] at hi
          rw [Nat.zero_add, hC.out i hi, if_pos hi, hshg.out i hi]
          simp
        obtain ⟨fn, ytm, yas, ybo, hyy, hRd⟩ := anyDepth (m' := 3) (hYv.out _ wr hjr.out hsee)
        have hfin := Lib.hid (fun (A5 : World) (h1 : J (pre.map (shN k) ++ [shN k x]) A5) (h2 : Upper W.heap.size wr A5) => (show Upper w4.heap.size A A5 ∧ (J ((pre ++ [x]).map (shN k)) A5 ∧ A5.cell? ⟨Y, 0, none⟩ = some (.func (.yield l) #[] #[]) ∧ SInv B (B + 1) (n - k) q A5 ∧ w4.heap.size ≤ A5.heap.size) from
          ⟨(Upper.of_below hbr).trans (h2.mono (by have := hb04.size; omega)), by rw [hmap.out]; exact h1,
            (World.cell?_of_block (a := ⟨Y, 0, none⟩) (h2.same Y (by omega) (by omega))).trans hyr,
            ⟨(World.cell?_of_block (a := ⟨B, 0, none⟩) (h2.same B (by omega) (by have := hbr.size; omega))).trans ((hbr.cell (p := ⟨B, 0, none⟩) (by show B < _; omega)).trans hS.out.n), (World.cell?_of_block (a := ⟨B + 1, 0, none⟩) (h2.same (B + 1) (by omega) (by have := hbr.size; omega))).trans ((hbr.cell (p := ⟨B + 1, 0, none⟩) (by show B + 1 < _; omega)).trans hS.out.k), (hJi.out _ _ h1).t⟩,
            by have := hbr.size; have := h2.size; omega⟩))
        replace hRd := Lib.hid hRd
        replace hsee := Lib.hid hsee
        clear hC hF hshg hxs hYv hvc' hcel0 hfr0
        gi_wp2
        refine (show RoundIn (Fence.wide.inRound l') 3 Tryz.prog l fn ytm yas ybo wr _ from hRd.out).mono ?_
        rintro e5 A5 ⟨rfl, h1, h2⟩
        have hf := Lib.hid (hfin.out A5 h1 h2)
        clear h1 h2 hfin
        gi_wp2
        exact hf.out
  case done =>
    rintro D A hD ⟨hj, hy, hS, hz⟩ hK
    have hj5 := Lib.hid (hJ.out _ _ _ hj (below_putObj A D (.deferred none) (by have := hb04.size; omega)))
    clear hj
    gi_wp2
    refine ⟨by simp, .inl ⟨_, _, rfl, run_takeDeferred hK, ?_⟩⟩
    exact ⟨.tuple #[], by simp [results, Tryz.results110, go_sem], ⟨_, rfl⟩, hj5.out⟩
  case stop =>
    rintro D c pre A _ h _
    exact h.elim
end Go.Proofs.YtncbimbbkealmaaGreatDoor
/-
  countFlag: for how many sets of unlabelled vertices the flag on them is alike another one (the program).
-/
namespace Go.Proofs.YtncbimbbkealmaaGreatDoor
open Go.RowKit Go.Shelf
set_option maxRecDepth 100000
attribute [local go_sem] Oper.semAt_some
/-- the flag on such a set is in S -/
def inB (k e n0 : Nat) (S : List Nat) (x : List Nat) : Bool := inS k n0 S k n0 (onL e (List.range k ++ x))
/-- how many of the lists -/
def cntP (p : List Nat → Bool) (pre : List (List Nat)) : Nat := pre.countP p
theorem cntP_t {p : List Nat → Bool} {pre : List (List Nat)} {x : List Nat} (h : p x = true) : cntP p (pre ++ [x]) = cntP p pre + 1 := by simp [cntP, h]
theorem cntP_f {p : List Nat → Bool} {pre : List (List Nat)} {x : List Nat} (h : p x = false) : cntP p (pre ++ [x]) = cntP p pre := by simp [cntP, h]
theorem cntP_le (p : List Nat → Bool) (pre : List (List Nat)) : cntP p pre ≤ pre.length := List.countP_le_length
section
variable (w : World)
set_option maxHeartbeats 1000000 in
theorem cf1_any (k n e q M : Nat) (S : List Nat) (x : List Nat) (v : Value) (Bw Bf : Nat) (h : VK k n e) (hF : FC w Bf k n e) (hc : w.cell? ⟨Bw, 0, none⟩ = some (.map (some M))) (hM : FSet w M k (k + q) S)
    (hS : SeeS x v w) (hm : x.length = q) (hx : okList n (k + q) (List.range k ++ x) = true) :
    Calls Tryz.prog 108 #[v, .pointer (some ⟨Bw, 0, none⟩), .pointer (some ⟨Bf, 0, none⟩)] w fun r w' => r = .returned (.bool (inB k e (k + q) S x)) ∧ Below w.heap.size w w' := by
  obtain ⟨he, hn5, hk3, hkn⟩ := h.nums
  have hroom := ok_len hx
  have hP := Lib.hid (fun W (hb : Below w.heap.size w W) => kpart_any W k n e q x v h (SeeS.below x v w W hS hb) hm hx)
  have hy : onL e (List.range k ++ x) < 4294967296 := by
    have h1 := onL_ltP e hx (by omega)
    have h2 := eMax_le (k + q)
    omega
  have hb : inS k (k + q) S k (k + q) (onL e (List.range k ++ x)) = inB k e (k + q) S x := rfl
  obtain ⟨b, hb2⟩ : ∃ b, inB k e (k + q) S x = b := ⟨_, rfl⟩
  rw [hb2] at hb ⊢
  obtain ⟨y, hy2⟩ : ∃ y, onL e (List.range k ++ x) = y := ⟨_, rfl⟩
  rw [hy2] at hP hy hb
  obtain ⟨_, va, vc, rfl⟩ := hS
  have hMl := hM.lt
  have hcl := World.block_lt_of_cell? w _ hc
  obtain ⟨f0, f1, f2, f3⟩ := hF
  obtain ⟨n0, hn0⟩ : ∃ n0, k + q = n0 := ⟨_, rfl⟩
  rw [hn0] at hP hM hb hroom
  have hlk : ∀ W, Below w.heap.size w W → (Instr.lookup 116 (.map (some M)) (.agg #[.int .i64 k, .int .i64 n0, .int .u32 y]) false).run Tryz.prog W = .ok (.bool b) W := fun W hW => by
    have h1 := (hM.below hW).look k n0 y (by omega) (by omega) hy
    unfold flagV at h1
    rw [hb] at h1
    exact h1
  replace hlk := Lib.hid hlk
  obtain ⟨m, hmm⟩ : ∃ m, (zl x).length = m := ⟨_, rfl⟩
  rw [hmm] at hP ⊢
  clear hM hx hb hb2 hy2 hmm hn0
  go_enter Tryz.func108, Tryz.ntmps108
  go_wp2
  go_region_held3 (fun A => A.cell? ⟨Bw, 0, none⟩ = some (.map (some M)) ∧ A.cell? ⟨Bf, 0, none⟩ = some (.int .i64 k) ∧ A.cell? ⟨Bf, 1, none⟩ = some (.int .i64 n) ∧ A.cell? ⟨Bf, 2, none⟩ = some (.int .u32 e))
    (exact ⟨old_cell hcl hc (by (repeat (first | exact Below.refl _ _ | assumption | refine bchain (by assumption) ?_ | refine balloc ?_ _ | apply Below.drew | apply below_drewN | (refine Below.alloc ?_ (by (try simp) <;> omega) _) | (refine Below.setCell ?_ (by (try simp) <;> omega) _)))), old_cell f0 f1 (by (repeat (first | exact Below.refl _ _ | assumption | refine bchain (by assumption) ?_ | refine balloc ?_ _ | apply Below.drew | apply below_drewN | (refine Below.alloc ?_ (by (try simp) <;> omega) _) | (refine Below.setCell ?_ (by (try simp) <;> omega) _)))), old_cell f0 f2 (by (repeat (first | exact Below.refl _ _ | assumption | refine bchain (by assumption) ?_ | refine balloc ?_ _ | apply Below.drew | apply below_drewN | (refine Below.alloc ?_ (by (try simp) <;> omega) _) | (refine Below.setCell ?_ (by (try simp) <;> omega) _)))), old_cell f0 f3 (by (repeat (first | exact Below.refl _ _ | assumption | refine bchain (by assumption) ?_ | refine balloc ?_ _ | apply Below.drew | apply below_drewN | (refine Below.alloc ?_ (by (try simp) <;> omega) _) | (refine Below.setCell ?_ (by (try simp) <;> omega) _))))⟩)
    (first
      | (go_at_call 92; refine (hP.out _ (by (repeat (first | exact Below.refl _ _ | assumption | refine bchain (by assumption) ?_ | refine balloc ?_ _ | apply Below.drew | apply below_drewN | (refine Below.alloc ?_ (by (try simp) <;> omega) _) | (refine Below.setCell ?_ (by (try simp) <;> omega) _))))).mono ?_; rintro r3 w3 ⟨rfl, hb3⟩; have hx3 : Below w.heap.size w w3 := (by (repeat (first | exact Below.refl _ _ | assumption | refine bchain (by assumption) ?_ | refine balloc ?_ _ | apply Below.drew | apply below_drewN | (refine Below.alloc ?_ (by (try simp) <;> omega) _) | (refine Below.setCell ?_ (by (try simp) <;> omega) _)))); have hl3 := hlk.out w3 hx3)
      | fail)
  go_wp2
  go_ret
  exact ⟨rfl, by (repeat (first | exact Below.refl _ _ | assumption | refine bchain (by assumption) ?_ | refine balloc ?_ _ | apply Below.drew | apply below_drewN | (refine Below.alloc ?_ (by (try simp) <;> omega) _) | (refine Below.setCell ?_ (by (try simp) <;> omega) _)))⟩
end
/-- what the counting loop keeps: the closure's box, both counters -/
structure CdI (w : World) (F : Value) (p : List Nat → Bool) (pre : List (List Nat)) (A : World) : Prop where
  below : Below w.heap.size w A
  lt : w.heap.size + 2 < A.heap.size
  f : A.cell? ⟨w.heap.size, 0, none⟩ = some F
  c1 : A.cell? ⟨w.heap.size + 1, 0, none⟩ = some (.int .i64 (cntP p pre : Nat))
  z1 : A.frozen? ⟨w.heap.size + 1, 0, none⟩ = false
  c2 : A.cell? ⟨w.heap.size + 2, 0, none⟩ = some (.int .i64 (pre.length : Nat))
  z2 : A.frozen? ⟨w.heap.size + 2, 0, none⟩ = false
theorem CdI.under {w : World} {F : Value} {p : List Nat → Bool} {pre : List (List Nat)} {A A' : World} {C : Nat} (h : CdI w F p pre A) (hb : Below C A A') (hC : w.heap.size + 2 < C) : CdI w F p pre A' :=
  ⟨h.below.trans (hb.mono (by omega)), Nat.lt_of_lt_of_le h.lt hb.size, (hb.cell (p := ⟨w.heap.size, 0, none⟩) (by show w.heap.size < _; omega)).trans h.f, (hb.cell (p := ⟨w.heap.size + 1, 0, none⟩) (by show w.heap.size + 1 < _; omega)).trans h.c1,
    (hb.frozen (p := ⟨w.heap.size + 1, 0, none⟩) (by show w.heap.size + 1 < _; omega)).trans h.z1, (hb.cell (p := ⟨w.heap.size + 2, 0, none⟩) (by show w.heap.size + 2 < _; omega)).trans h.c2, (hb.frozen (p := ⟨w.heap.size + 2, 0, none⟩) (by show w.heap.size + 2 < _; omega)).trans h.z2⟩
/-- behind a round -/
theorem CdI.next {w : World} {F : Value} {p : List Nat → Bool} {pre : List (List Nat)} {x : List Nat} {A A3 : World} (h : CdI w F p pre A) (hb : Below A.heap.size (A.setCell ⟨w.heap.size + 2, 0, none⟩ (.int .i64 ((pre.length : Nat) + 1 : Int))) A3) (b : Bool) (hpx : p x = b) :
    CdI w F p (pre ++ [x]) (if b then A3.setCell ⟨w.heap.size + 1, 0, none⟩ (.int .i64 ((cntP p pre : Nat) + 1 : Int)) else A3) ∧ Upper (w.heap.size + 3) A (if b then A3.setCell ⟨w.heap.size + 1, 0, none⟩ (.int .i64 ((cntP p pre : Nat) + 1 : Int)) else A3) := by
  have hl := h.lt
  have e0 : (A.setCell ⟨w.heap.size + 2, 0, none⟩ (.int .i64 ((pre.length : Nat) + 1 : Int))).heap.size = A.heap.size := by simp
  have hA : Below w.heap.size w (A.setCell ⟨w.heap.size + 2, 0, none⟩ (.int .i64 ((pre.length : Nat) + 1 : Int))) := h.below.setCell (p := ⟨w.heap.size + 2, 0, none⟩) (by show _ ≤ w.heap.size + 2; omega) _
  have q0 : A3.cell? ⟨w.heap.size, 0, none⟩ = some F := (hb.cell (p := ⟨w.heap.size, 0, none⟩) (by show w.heap.size < _; omega)).trans ((World.cell?_setCell_other _ _ _ _ (by simp)).trans h.f)
  have q1 : A3.cell? ⟨w.heap.size + 1, 0, none⟩ = some (.int .i64 (cntP p pre : Nat)) := (hb.cell (p := ⟨w.heap.size + 1, 0, none⟩) (by show w.heap.size + 1 < _; omega)).trans ((World.cell?_setCell_other _ _ _ _ (by simp)).trans h.c1)
  have q2 : A3.cell? ⟨w.heap.size + 2, 0, none⟩ = some (.int .i64 (((pre ++ [x]).length : Nat) : Int)) := by
    rw [hb.cell (p := ⟨w.heap.size + 2, 0, none⟩) (by show w.heap.size + 2 < _; omega), World.cell?_setCell_same _ _ _ h.c2]
    simp
  have z1 : A3.frozen? ⟨w.heap.size + 1, 0, none⟩ = false := (hb.frozen (p := ⟨w.heap.size + 1, 0, none⟩) (by show w.heap.size + 1 < _; omega)).trans (by rw [World.frozen?_setCell]; exact h.z1)
  have z2 : A3.frozen? ⟨w.heap.size + 2, 0, none⟩ = false := (hb.frozen (p := ⟨w.heap.size + 2, 0, none⟩) (by show w.heap.size + 2 < _; omega)).trans (by rw [World.frozen?_setCell]; exact h.z2)
  have hz3 := hb.size
  have hbw : Below w.heap.size w A3 := hA.trans (hb.mono (by omega))
  have hu : Upper (w.heap.size + 3) A A3 := by
    have hu1 : Upper (w.heap.size + 3) A (A.setCell ⟨w.heap.size + 2, 0, none⟩ (.int .i64 ((pre.length : Nat) + 1 : Int))) := Upper.setCell A ⟨w.heap.size + 2, 0, none⟩ _ (by show w.heap.size + 2 < _; omega)
    exact hu1.trans (Upper.of_below (by rw [e0]; exact hb))
  cases b
  · refine ⟨⟨hbw, by simp only [Bool.false_eq_true, if_false]; omega, q0, by rw [cntP_f hpx]; exact q1, z1, q2, z2⟩, hu⟩
  · refine ⟨⟨hbw.setCell (p := ⟨w.heap.size + 1, 0, none⟩) (by show _ ≤ w.heap.size + 1; omega) _, by simp; omega, (World.cell?_setCell_other _ _ _ _ (by simp)).trans q0, ?_, (by simp only [if_true]; rw [World.frozen?_setCell]; exact z1), (World.cell?_setCell_other _ _ _ _ (by simp)).trans q2, (by simp only [if_true]; rw [World.frozen?_setCell]; exact z2)⟩, hu.trans (Upper.setCell _ _ _ (by show w.heap.size + 1 < _; omega))⟩
    rw [cntP_t hpx]
    simp only [if_true]
    rw [World.cell?_setCell_same _ _ _ q1]
    simp
section
variable (w : World)
set_option maxHeartbeats 4000000 in
theorem cnd_any (k n e q M B Bw Bf : Nat) (S : List Nat) (h : VK k n e) (hB : FC w B k n e) (hBq : w.cell? ⟨B + 1, 0, none⟩ = some (.int .i64 q)) (hT : TabZ w)
    (hF : FC w Bf k n e) (hc : w.cell? ⟨Bw, 0, none⟩ = some (.map (some M))) (hM : FSet w M k (k + q) S) :
    Calls Tryz.prog 106 #[.func (.func 110) #[] #[.pointer (some ⟨B, 0, none⟩), .pointer (some ⟨B + 1, 0, none⟩)], .func (.func 108) #[] #[.pointer (some ⟨Bw, 0, none⟩), .pointer (some ⟨Bf, 0, none⟩)]] w
      fun r w' => r = .returned (.tuple #[.int .i64 (cntP (inB k e (k + q) S) ((setsL (n - k) q).map (shN k)) : Nat), .int .i64 (((setsL (n - k) q).map (shN k)).length : Nat)]) ∧ Below w.heap.size w w' := by
  obtain ⟨he, hn5, hk3, hkn⟩ := h.nums
  have hzB := World.block_lt_of_cell? w _ hBq
  have hBl : B + 1 < w.heap.size := hzB
  obtain ⟨p, hp⟩ : ∃ p, inB k e (k + q) S = p := ⟨_, rfl⟩
  have hcl : Bw < w.heap.size := World.block_lt_of_cell? w _ hc
  have hTk := Lib.hid (fun (A : World) (x : List Nat) (v : Value) (hA : Below w.heap.size w A) (hs : SeeS x v A) (hm : x.length = q) (hx : okList n (k + q) (List.range k ++ x) = true) => (show Calls Tryz.prog 108 #[v, .pointer (some ⟨Bw, 0, none⟩), .pointer (some ⟨Bf, 0, none⟩)] A fun r w' => r = .returned (.bool (p x)) ∧ Below A.heap.size A w' from by
    rw [← hp]
    exact cf1_any A k n e q M S x v Bw Bf h (hF.below hA) ((hA.cell (p := ⟨Bw, 0, none⟩) hcl).trans hc) (hM.below hA) hs hm hx))
  have hUI := Lib.hid (fun (A : World) (hA : Below w.heap.size w A) => (show UInv B (B + 1) k n e q A from ⟨hB.below hA, (hA.cell (p := ⟨B + 1, 0, none⟩) hBl).trans hBq, hT.below hA⟩))
  rw [hp]
  obtain ⟨F, hFd⟩ : ∃ F, F = Value.func (.func 108) #[] #[.pointer (some ⟨Bw, 0, none⟩), .pointer (some ⟨Bf, 0, none⟩)] := ⟨_, rfl⟩
  obtain ⟨W0, hW0⟩ : ∃ W0, W0 = ((w.alloc (.cells #[F] 125)).alloc (.cells #[.int .i64 0] 2)).alloc (.cells #[.int .i64 0] 2) := ⟨_, rfl⟩
  have hb0 : Below w.heap.size w W0 := by rw [hW0]; (repeat (first | exact Below.refl _ _ | assumption | refine bchain (by assumption) ?_ | refine balloc ?_ _ | apply Below.drew | apply below_drewN | (refine Below.alloc ?_ (by (try simp) <;> omega) _) | (refine Below.setCell ?_ (by (try simp) <;> omega) _)))
  have hz0 : W0.heap.size = w.heap.size + 3 := by rw [hW0]; simp
  have hI0 : CdI w F p [] W0 := by
    refine ⟨hb0, by omega, ?_, ?_, ?_, ?_, ?_⟩
    · rw [hW0, cOld _ _ _ _ (by simp; omega), cOld _ _ _ _ (by simp), cNew _ _ _ _ _ rfl]; rfl
    · rw [hW0, cOld _ _ _ _ (by simp), cNew _ _ _ _ _ (by simp)]; rfl
    · rw [hW0, fOld _ _ _ _ (by simp), fNew _ _ _ _ _ (by simp)]
    · rw [hW0, cNew _ _ _ _ _ (by simp)]; rfl
    · rw [hW0, fNew _ _ _ _ _ (by simp)]
  have hseq := unl_seesT k n e q hn5 hkn 6 B (B + 1) W0 (by omega)
  have hlen : ((setsL (n - k) q).map (shN k)).length ≤ 32 := by rw [List.length_map]; exact sets_len (by omega)
  clear hB hBq hT hF hc hM hp hcl
  obtain ⟨zz, hzz⟩ : ∃ z : Nat, cntP p ((setsL (n - k) q).map (shN k)) = z := ⟨_, rfl⟩
  obtain ⟨tt, htt⟩ : ∃ t : Nat, ((setsL (n - k) q).map (shN k)).length = t := ⟨_, rfl⟩
  rw [hzz, htt]
  replace hzz := Lib.hid hzz
  replace htt := Lib.hid htt
  refine (callsIn_wide (n := 7)).1 ?_
  refine callsIn_of_wp_marks Tryz.func106 rfl trivial ?_ rfl
  simp only [Tryz.ntmps106, List.size_toArray, List.length_cons, List.length_nil, Nat.reduceAdd, Nat.reduceSub, Array.replicate_succ, Array.replicate_zero, List.push_toArray, List.append_toArray, List.nil_append, List.cons_append]
  gi_wp2
  rw [← hFd, ← hW0]
  rw [show (w.heap.size + 1 + 1 : Nat) = w.heap.size + 2 by omega]
  replace hW0 := Lib.hid hW0
  replace hFd := Lib.hid hFd
  obtain ⟨GF, hGF⟩ : ∃ GF, GF = Value.func (.func 110) #[] #[.pointer (some ⟨B, 0, none⟩), .pointer (some ⟨B + 1, 0, none⟩)] := ⟨_, rfl⟩
  have hTab := (hUI.out W0 hb0).t.lt
  refine wpIn_range_seesT rfl (by omega) (gf := 110) (lb := #[.pointer (some ⟨B, 0, none⟩), .pointer (some ⟨B + 1, 0, none⟩)]) rfl trivial (enters_of Tryz.func110 (by kernel_rfl) rfl)
    hseq (Below.refl _ _) rfl (SeeT.below _) (SeeT.cellular _)
    (fun pre A => CdI w F p pre A)
    (fun s A hs => hUI.out A hs.below)
    (fun s A A' hs hb => hs.under hb (by omega))
    hI0
    (fun v a' _ => a' = { tmps := #[.func (.func 110) #[] #[.pointer (some ⟨B, 0, none⟩), .pointer (some ⟨B + 1, 0, none⟩)], F, undef, .pointer (some ⟨w.heap.size, 0, none⟩), .pointer (some ⟨w.heap.size + 1, 0, none⟩), .pointer (some ⟨w.heap.size + 2, 0, none⟩), v, .func (.func 110) #[] #[.pointer (some ⟨B, 0, none⟩), .pointer (some ⟨B + 1, 0, none⟩)], v, undef, undef, undef, undef, undef, undef, undef, undef, undef], defers := [] })
    (fun _ _ _ _ _ _ h _ _ => h) ?assign ?body ?done
  case assign =>
    intro l' x v A K hS hK
    gi_wp2
    exact hK _ _ (Below.refl _ _) rfl
  case body =>
    rintro l' pre x rest v a' A hl' hlr hL hI hSee rfl
    have hxm : x ∈ (setsL (n - k) q).map (shN k) := by rw [hL]; simp
    obtain ⟨x0, hx0, rfl⟩ := List.mem_map.1 hxm
    obtain ⟨hxl, hxo⟩ := cf_mem hn5 hkn hx0
    obtain ⟨x, hxd⟩ : ∃ x, shN k x0 = x := ⟨_, rfl⟩
    have hxl2 : x.length = q := by rw [← hxd, shN_length]; exact hxl
    rw [hxd] at hxo hSee hL ⊢
    have hkl : pre.length < 1000 := by
      have h2 := hlen
      rw [hL] at h2
      simp at h2
      omega
    have hcl := cntP_le p pre
    have hIl := hI.lt
    have hcall := Lib.hid (fun A2 (hb : Below w.heap.size w A2) (hs : SeeS x v A2) => hTk.out A2 x v hb hs hxl2 hxo)
    have hAw : Below w.heap.size w (A.setCell ⟨w.heap.size + 2, 0, none⟩ (.int .i64 ((pre.length : Nat) + 1 : Int))) := hI.below.setCell (p := ⟨w.heap.size + 2, 0, none⟩) (by show _ ≤ w.heap.size + 2; omega) _
    have hSee2 : SeeS x v (A.setCell ⟨w.heap.size + 2, 0, none⟩ (.int .i64 ((pre.length : Nat) + 1 : Int))) := (hSee.setCell (p := ⟨w.heap.size + 2, 0, none⟩) (by show w.heap.size + 2 < _; omega) _).1
    have c0 : (A.setCell ⟨w.heap.size + 2, 0, none⟩ (.int .i64 ((pre.length : Nat) + 1 : Int))).cell? ⟨w.heap.size, 0, none⟩ = some F := (World.cell?_setCell_other _ _ _ _ (by simp)).trans hI.f
    have hC := Lib.hid (hcall.out _ hAw hSee2)
    obtain ⟨b, hb⟩ : ∃ b, p x = b := ⟨_, rfl⟩
    have hnx := Lib.hid (fun A3 (h3 : Below A.heap.size (A.setCell ⟨w.heap.size + 2, 0, none⟩ (.int .i64 ((pre.length : Nat) + 1 : Int))) A3) => hI.next h3 b hb)
    have e0 : (A.setCell ⟨w.heap.size + 2, 0, none⟩ (.int .i64 ((pre.length : Nat) + 1 : Int))).heap.size = A.heap.size := by simp
    rw [hb] at hC
    obtain ⟨z, hz⟩ : ∃ z : Nat, cntP p pre = z := ⟨_, rfl⟩
    obtain ⟨t, ht⟩ : ∃ t : Nat, pre.length = t := ⟨_, rfl⟩
    obtain ⟨_, _, i1, i2, i3, i4, i5⟩ := id hI
    have q1 : ∀ A3, Below A.heap.size (A.setCell ⟨w.heap.size + 2, 0, none⟩ (.int .i64 ((pre.length : Nat) + 1 : Int))) A3 → A3.cell? ⟨w.heap.size + 1, 0, none⟩ = some (.int .i64 (cntP p pre : Nat)) ∧ A3.frozen? ⟨w.heap.size + 1, 0, none⟩ = false := fun A3 h3 =>
      ⟨(h3.cell (p := ⟨w.heap.size + 1, 0, none⟩) (by show w.heap.size + 1 < _; omega)).trans ((World.cell?_setCell_other _ _ _ _ (by simp)).trans i2), (h3.frozen (p := ⟨w.heap.size + 1, 0, none⟩) (by show w.heap.size + 1 < _; omega)).trans (by rw [World.frozen?_setCell]; exact i3)⟩
    rw [hz] at hnx q1 i2 hcl
    rw [ht] at hC hnx q1 i4 hcl hkl c0 e0
    replace q1 := Lib.hid q1
    obtain ⟨_, va, vc, rfl⟩ := hSee.1
    obtain ⟨m, hmm⟩ : ∃ m, (zl x).length = m := ⟨_, rfl⟩
    rw [hmm] at hC ⊢
    rw [hFd.out] at i1 c0 ⊢
    clear hSee2 hSee hAw hI hL hcall hz ht hb hxm hlr
    gi_wp2_with fail
    refine ⟨trivial, ?_⟩
    gi_at_call 108
    refine (CallsIn.inRound l' (callsIn_wide.2 hC.out)).mono ?_
    rintro r5 w5 ⟨rfl, hb5⟩
    rw [e0] at hb5
    obtain ⟨k1, k2⟩ := q1.out w5 hb5
    obtain ⟨n1, n2⟩ := hnx.out w5 hb5
    have n3 := Lib.hid (show Upper W0.heap.size A (if b then w5.setCell ⟨w.heap.size + 1, 0, none⟩ (.int .i64 ((z : Nat) + 1 : Int)) else w5) from n2.mono (by omega))
    replace n1 := Lib.hid n1
    clear n2 hnx q1 hC
    cases b
    · gi_wp2
      exact ⟨n3.out, by rw [← hFd.out]; exact n1.out⟩
    · gi_wp2
      exact ⟨n3.out, by rw [← hFd.out]; exact n1.out⟩
  case done =>
    rintro D A hD hI hK
    have hDz : w.heap.size + 3 ≤ D := by omega
    obtain ⟨i0, il, i1, i2, i3, i4, i5⟩ := id hI
    rw [hzz.out] at i2
    rw [htt.out] at i4
    clear hI hlen hseq
    gi_wp2
    refine wpIn_wide.2 ?_
    go_region_held3 (fun A => A.cell? ⟨w.heap.size + 1, 0, none⟩ = some (.int .i64 zz) ∧ A.cell? ⟨w.heap.size + 2, 0, none⟩ = some (.int .i64 tt))
      (first
        | exact ⟨i2, i4⟩
        | exact ⟨World.cell?_setCell_same _ _ _ i2, (World.cell?_setCell_other _ _ _ _ (by simp)).trans i4⟩
        | exact ⟨(World.cell?_setCell_other _ _ _ _ (by simp)).trans (World.cell?_setCell_same _ _ _ i2), World.cell?_setCell_same _ _ _ ((World.cell?_setCell_other _ _ _ _ (by simp)).trans i4)⟩)
      (fail)
    have hbW : Below w.heap.size w ((A.setCell ⟨w.heap.size + 1, 0, none⟩ (.int .i64 (zz : Int))).setCell ⟨w.heap.size + 2, 0, none⟩ (.int .i64 (tt : Int))).drew := ((i0.setCell (p := ⟨w.heap.size + 1, 0, none⟩) (by show _ ≤ w.heap.size + 1; omega) _).setCell (p := ⟨w.heap.size + 2, 0, none⟩) (by show _ ≤ w.heap.size + 2; omega) _).drew
    have hK2 : ((A.setCell ⟨w.heap.size + 1, 0, none⟩ (.int .i64 (zz : Int))).setCell ⟨w.heap.size + 2, 0, none⟩ (.int .i64 (tt : Int))).drew.heap[D]? = some (.deferred (some [])) :=
      (Below.heap_setCell _ _ _ _ (by show D ≠ w.heap.size + 2; omega)).trans ((Below.heap_setCell _ _ _ _ (by show D ≠ w.heap.size + 1; omega)).trans hK)
    have s1 : ((A.setCell ⟨w.heap.size + 1, 0, none⟩ (.int .i64 (zz : Int))).setCell ⟨w.heap.size + 2, 0, none⟩ (.int .i64 (tt : Int))).drew.cell? ⟨w.heap.size + 1, 0, none⟩ = some (.int .i64 zz) := (World.cell?_setCell_other _ _ _ _ (by simp)).trans (World.cell?_setCell_same _ _ _ i2)
    have s2 : ((A.setCell ⟨w.heap.size + 1, 0, none⟩ (.int .i64 (zz : Int))).setCell ⟨w.heap.size + 2, 0, none⟩ (.int .i64 (tt : Int))).drew.cell? ⟨w.heap.size + 2, 0, none⟩ = some (.int .i64 tt) := World.cell?_setCell_same _ _ _ ((World.cell?_setCell_other _ _ _ _ (by simp)).trans i4)
    obtain ⟨W2, hW2⟩ : ∃ W2, W2 = ((A.setCell ⟨w.heap.size + 1, 0, none⟩ (.int .i64 (zz : Int))).setCell ⟨w.heap.size + 2, 0, none⟩ (.int .i64 (tt : Int))).drew := ⟨_, rfl⟩
    rw [← hW2] at hbW hK2 s1 s2 ⊢
    have r1 := cell_kept s1 (grownBy_putObj' _ D (.deferred none)) (fun r e => by cases e; exact ⟨_, hK2, rfl⟩)
    have r2 := cell_kept s2 (grownBy_putObj' _ D (.deferred none)) (fun r e => by cases e; exact ⟨_, hK2, rfl⟩)
    have hbe : Hid (Below w.heap.size w (W2.putObj D (.deferred none))) := hbW.trans (below_putObj _ _ _ (by omega))
    clear hW2 i0 il i1 i2 i3 i4 i5 s1 s2 hbW hK
    gi_wp2
    refine ⟨by simp, .inl ⟨_, _, rfl, run_takeDeferred hK2, ?_⟩⟩
    exact ⟨.tuple #[.int .i64 zz, .int .i64 tt], by simp [results, Tryz.results106, go_sem, r1, r2], rfl, hbe.out⟩
set_option maxHeartbeats 4000000 in
/-- the program's countFlag -/
theorem icf_any (k n e n0 e0 : Nat) (h : VK k n e) (h0 : VK k n0 e0) (hT : TabZ w) :
    Calls Tryz.prog 87 #[.agg #[.int .i64 k, .int .i64 n0, .int .u32 e0], .agg #[.int .i64 k, .int .i64 n, .int .u32 e]] w
      fun r w' => r = .returned (.tuple #[.int .i64 (cntP (inB k e n0 (tE n0 k e0)) ((setsL (n - k) (n0 - k)).map (shN k)) : Nat), .int .i64 (((setsL (n - k) (n0 - k)).map (shN k)).length : Nat)]) ∧ Below w.heap.size w w' := by
  obtain ⟨he, hn5, hk3, hkn⟩ := h.nums
  obtain ⟨he0, hn05, _, hkn0⟩ := h0.nums
  have hFa := Lib.hid (fun W => fa_any W k n0 e0 h0)
  obtain ⟨q, hqd⟩ : ∃ q, n0 - k = q := ⟨_, rfl⟩
  have hn0q : n0 = k + q := by omega
  have hU := Lib.hid (fun W => (show Calls Tryz.prog 22 #[.agg #[.int .i64 k, .int .i64 n0, .int .u32 e0]] W fun r w' => r = .returned (.int .i64 (q : Int)) ∧ Below W.heap.size W w' from by
    have := unl_any W k n0 e0 hkn0 (by omega)
    rwa [hqd] at this))
  have hUs := Lib.hid (fun W => us_any W k n e q)
  rw [hqd]
  have hCn := Lib.hid (fun (W : World) (M B Bw Bf : Nat) (hB : FC W B k n e) (hBq : W.cell? ⟨B + 1, 0, none⟩ = some (.int .i64 q)) (hT : TabZ W) (hF : FC W Bf k n e) (hc : W.cell? ⟨Bw, 0, none⟩ = some (.map (some M))) (hM : FSet W M k n0 (tE n0 k e0)) =>
    (show Calls Tryz.prog 106 #[.func (.func 110) #[] #[.pointer (some ⟨B, 0, none⟩), .pointer (some ⟨B + 1, 0, none⟩)], .func (.func 108) #[] #[.pointer (some ⟨Bw, 0, none⟩), .pointer (some ⟨Bf, 0, none⟩)]] W
      fun r w' => r = .returned (.tuple #[.int .i64 (cntP (inB k e n0 (tE n0 k e0)) ((setsL (n - k) q).map (shN k)) : Nat), .int .i64 (((setsL (n - k) q).map (shN k)).length : Nat)]) ∧ Below W.heap.size W w' from by
      have := cnd_any W k n e q M B Bw Bf (tE n0 k e0) h hB hBq hT hF hc (by rw [← hn0q]; exact hM)
      rwa [← hn0q] at this))
  obtain ⟨zz, hzz⟩ : ∃ z : Nat, cntP (inB k e n0 (tE n0 k e0)) ((setsL (n - k) q).map (shN k)) = z := ⟨_, rfl⟩
  obtain ⟨tt, htt⟩ : ∃ t : Nat, ((setsL (n - k) q).map (shN k)).length = t := ⟨_, rfl⟩
  rw [hzz, htt] at hCn ⊢
  have hF0 := FC.made w k n0 e0 43
  clear hzz htt hn0q hqd
  go_enter Tryz.func87, Tryz.ntmps87
  go_wp2_with fail
  refine (hFa.out _).mono ?_
  rintro r1 w1 ⟨⟨M, rfl, hMg, hM⟩, hb1⟩
  obtain ⟨W3, hW3⟩ : ∃ W3, W3 = w1.alloc (.cells #[.map (some M)] 116) := ⟨_, rfl⟩
  have hz1 := hb1.size
  simp only [World.size_alloc] at hz1
  have hbW : Below w1.heap.size w1 W3 := by rw [hW3]; (repeat (first | exact Below.refl _ _ | assumption | refine bchain (by assumption) ?_ | refine balloc ?_ _ | apply Below.drew | apply below_drewN | (refine Below.alloc ?_ (by (try simp) <;> omega) _) | (refine Below.setCell ?_ (by (try simp) <;> omega) _)))
  have hz3 : W3.heap.size = w1.heap.size + 1 := by rw [hW3]; simp
  have hb03 : Below w.heap.size w W3 := by rw [hW3]; (repeat (first | exact Below.refl _ _ | assumption | refine bchain (by assumption) ?_ | refine balloc ?_ _ | apply Below.drew | apply below_drewN | (refine Below.alloc ?_ (by (try simp) <;> omega) _) | (refine Below.setCell ?_ (by (try simp) <;> omega) _)))
  have hFf : FC W3 w.heap.size k n0 e0 := by
    refine FC.below ?_ hbW
    refine FC.below ?_ hb1
    exact hF0.below (balloc (Below.refl _ _) _)
  have hFg : FC W3 (w.heap.size + 1) k n e := by
    refine FC.below ?_ hbW
    refine FC.below ?_ hb1
    have := FC.made (w.alloc (.cells #[.int .i64 (k : Int), .int .i64 (n0 : Int), .int .u32 (e0 : Int)] 43)) k n e 43
    rw [World.size_alloc] at this
    exact this
  have hc3 : W3.cell? ⟨w1.heap.size, 0, none⟩ = some (.map (some M)) := by rw [hW3, cNew _ _ _ _ _ rfl]; rfl
  have hM3 := hM.below hbW
  have kG := Lib.hid (fun A (hA : Below W3.heap.size W3 A) => hFg.below hA)
  have kc := Lib.hid (fun A (hA : Below W3.heap.size W3 A) => (hA.cell (p := ⟨w1.heap.size, 0, none⟩) (by show w1.heap.size < _; omega)).trans hc3)
  have kM := Lib.hid (fun A (hA : Below W3.heap.size W3 A) => hM3.below hA)
  have kT := Lib.hid (fun A (hA : Below w.heap.size w A) => hT.below hA)
  obtain ⟨a0, a1, a2, a3⟩ := hFf
  obtain ⟨b0, b1, b2, b3⟩ := hFg
  replace hW3 := Lib.hid hW3
  clear hF0 hM hM3 hc3 hb1 hMg
  go_wp2
  rw [← hW3.out]
  go_region_held3 (fun A => A.cell? ⟨w.heap.size, 0, none⟩ = some (.int .i64 k) ∧ A.cell? ⟨w.heap.size, 1, none⟩ = some (.int .i64 n0) ∧ A.cell? ⟨w.heap.size, 2, none⟩ = some (.int .u32 e0) ∧ A.cell? ⟨w.heap.size + 1, 0, none⟩ = some (.int .i64 k) ∧ A.cell? ⟨w.heap.size + 1, 1, none⟩ = some (.int .i64 n) ∧ A.cell? ⟨w.heap.size + 1, 2, none⟩ = some (.int .u32 e))
    (exact ⟨old_cell a0 a1 (by (repeat (first | exact Below.refl _ _ | assumption | refine bchain (by assumption) ?_ | refine balloc ?_ _ | apply Below.drew | apply below_drewN | (refine Below.alloc ?_ (by (try simp) <;> omega) _) | (refine Below.setCell ?_ (by (try simp) <;> omega) _)))), old_cell a0 a2 (by (repeat (first | exact Below.refl _ _ | assumption | refine bchain (by assumption) ?_ | refine balloc ?_ _ | apply Below.drew | apply below_drewN | (refine Below.alloc ?_ (by (try simp) <;> omega) _) | (refine Below.setCell ?_ (by (try simp) <;> omega) _)))), old_cell a0 a3 (by (repeat (first | exact Below.refl _ _ | assumption | refine bchain (by assumption) ?_ | refine balloc ?_ _ | apply Below.drew | apply below_drewN | (refine Below.alloc ?_ (by (try simp) <;> omega) _) | (refine Below.setCell ?_ (by (try simp) <;> omega) _)))), old_cell b0 b1 (by (repeat (first | exact Below.refl _ _ | assumption | refine bchain (by assumption) ?_ | refine balloc ?_ _ | apply Below.drew | apply below_drewN | (refine Below.alloc ?_ (by (try simp) <;> omega) _) | (refine Below.setCell ?_ (by (try simp) <;> omega) _)))), old_cell b0 b2 (by (repeat (first | exact Below.refl _ _ | assumption | refine bchain (by assumption) ?_ | refine balloc ?_ _ | apply Below.drew | apply below_drewN | (refine Below.alloc ?_ (by (try simp) <;> omega) _) | (refine Below.setCell ?_ (by (try simp) <;> omega) _)))), old_cell b0 b3 (by (repeat (first | exact Below.refl _ _ | assumption | refine bchain (by assumption) ?_ | refine balloc ?_ _ | apply Below.drew | apply below_drewN | (refine Below.alloc ?_ (by (try simp) <;> omega) _) | (refine Below.setCell ?_ (by (try simp) <;> omega) _))))⟩)
    (first
      | (go_at_call 22; refine (hU.out _).mono ?_; rintro r3 w3 ⟨rfl, hb3⟩)
      | (go_at_call 107; refine (hUs.out _).mono ?_; rintro r4 w4 ⟨B, rfl, hBge, hBlt, hFB, hqB, hb4⟩; have hx4 : Below W3.heap.size W3 w4 := (by (repeat (first | exact Below.refl _ _ | assumption | refine bchain (by assumption) ?_ | refine balloc ?_ _ | apply Below.drew | apply below_drewN | (refine Below.alloc ?_ (by (try simp) <;> omega) _) | (refine Below.setCell ?_ (by (try simp) <;> omega) _)))))
      | (go_at_call 106; refine (hCn.out w4 M B w1.heap.size (w.heap.size + 1) hFB hqB (kT.out _ (by (repeat (first | exact Below.refl _ _ | assumption | refine bchain (by assumption) ?_ | refine balloc ?_ _ | apply Below.drew | apply below_drewN | (refine Below.alloc ?_ (by (try simp) <;> omega) _) | (refine Below.setCell ?_ (by (try simp) <;> omega) _))))) (kG.out _ hx4) (kc.out _ hx4) (kM.out _ hx4)).mono ?_; rintro r5 w5 ⟨rfl, hb5⟩))
  all_goals go_wp2
  all_goals go_ret2
  all_goals exact ⟨rfl, by (repeat (first | exact Below.refl _ _ | assumption | refine bchain (by assumption) ?_ | refine balloc ?_ _ | apply Below.drew | apply below_drewN | (refine Below.alloc ?_ (by (try simp) <;> omega) _) | (refine Below.setCell ?_ (by (try simp) <;> omega) _)))⟩
end
end Go.Proofs.YtncbimbbkealmaaGreatDoor
/-
  How often a flag occurs in another one: the model's count (spec.l04Count).
-/
namespace Go.Proofs.YtncbimbbkealmaaGreatDoor
open Go.RowKit Go.Shelf
set_option maxRecDepth 100000
attribute [local go_sem] Oper.semAt_some
/-- in the orbit just if the least ones are equal -/
theorem inB_least {k n e n0 e0 : Nat} (h : VK k n e) (h0 : VK k n0 e0) (hle : n0 ≤ n) {x : List Nat} (hx : okList n n0 (List.range k ++ x) = true) : inB k e n0 (tE n0 k e0) x = (leastK n0 k (onL e (List.range k ++ x)) == leastK n0 k e0) := by
  obtain ⟨he, hn5, hk3, hkn⟩ := h.nums
  have hkn0 := h0.nums.2.2.2
  have hv : VK k n0 (onL e (List.range k ++ x)) := VK.mk' (by omega) hk3 hkn0 (onL_ltP e hx (by omega))
  have ho := orb h0 hv
  unfold inB inS
  rw [Bool.eq_iff_iff]
  simp
  exact ho
section
variable (w : World)
end
end Go.Proofs.YtncbimbbkealmaaGreatDoor
namespace Go.Proofs.YtncbimbbkealmaaGreatDoor
open Go.RowKit Go.Shelf
set_option maxRecDepth 100000
attribute [local go_sem] Oper.semAt_some
section
variable (w : World)
theorem two_boxes (k0 n0 e0 k n e : Int) (t : TypeId) : FC ((w.alloc (.cells #[.int .i64 k0, .int .i64 n0, .int .u32 e0] t)).alloc (.cells #[.int .i64 k, .int .i64 n, .int .u32 e] t)) w.heap.size k0 n0 e0 ∧ FC ((w.alloc (.cells #[.int .i64 k0, .int .i64 n0, .int .u32 e0] t)).alloc (.cells #[.int .i64 k, .int .i64 n, .int .u32 e] t)) (w.heap.size + 1) k n e := by
  have hG0 := FC.made (w.alloc (.cells #[.int .i64 k0, .int .i64 n0, .int .u32 e0] t)) k n e t
  rw [World.size_alloc] at hG0
  exact ⟨(FC.made w k0 n0 e0 t).below (balloc (Below.refl _ _) _), hG0⟩
end
end Go.Proofs.YtncbimbbkealmaaGreatDoor
