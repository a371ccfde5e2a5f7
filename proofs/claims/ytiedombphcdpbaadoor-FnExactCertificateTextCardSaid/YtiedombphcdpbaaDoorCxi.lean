/-
  THE TEXT OF A CERTIFICATE: the program's contracts.
-/
import Derived.Test.YtiedombphcdpbaaDoorCx
import Derived.Test.YtiedombphcdpbaaDoorMxi
import Derived.Test.YtiedombphcdpbaaDoorWr
namespace Go.Proofs.YtiedombphcdpbaaDoor
open Go.RowKit
set_option maxRecDepth 100000
attribute [local go_sem] Oper.semAt_some
/-- what holds when the operations with the flags have come up: a box, a builder that the last operation writes -/
structure W12 (n0 : Nat) (W3 : World) (b B : Nat) (O : Obj) (l l2 : List UInt8) (V0 V1 V2 V3 V4 V5 V6 V7 V8 V9 V10 V11 : Value) (f : Nat → Bool) (t0 t1 t2 t3 t4 t5 t6 t7 t8 t9 t10 t11 : Value) (W : World) : Prop where
  below : Below n0 W3 W
  box : W.heap[B]? = some O
  bd : ∃ t, BdAt W b t ∧ (f 11 = false → t = l) ∧ (f 11 = true → t = l2)
  h0 : f 0 = true → t0 = V0
  h1 : f 1 = true → t1 = V1
  h2 : f 2 = true → t2 = V2
  h3 : f 3 = true → t3 = V3
  h4 : f 4 = true → t4 = V4
  h5 : f 5 = true → t5 = V5
  h6 : f 6 = true → t6 = V6
  h7 : f 7 = true → t7 = V7
  h8 : f 8 = true → t8 = V8
  h9 : f 9 = true → t9 = V9
  h10 : f 10 = true → t10 = V10
  h11 : f 11 = true → t11 = V11
section
variable {n0 : Nat} {W3 : World} {b B : Nat} {O : Obj} {l l2 : List UInt8} {V0 V1 V2 V3 V4 V5 V6 V7 V8 V9 V10 V11 : Value} {f : Nat → Bool} {t0 t1 t2 t3 t4 t5 t6 t7 t8 t9 t10 t11 : Value} {W : World}
theorem W12.p0 (h : W12 n0 W3 b B O l l2 V0 V1 V2 V3 V4 V5 V6 V7 V8 V9 V10 V11 f t0 t1 t2 t3 t4 t5 t6 t7 t8 t9 t10 t11 W) : W12 n0 W3 b B O l l2 V0 V1 V2 V3 V4 V5 V6 V7 V8 V9 V10 V11 (setf f 0) V0 t1 t2 t3 t4 t5 t6 t7 t8 t9 t10 t11 W :=
  ⟨h.below, h.box, h.bd, fun _ => rfl, fun c => h.h1 c, fun c => h.h2 c, fun c => h.h3 c, fun c => h.h4 c, fun c => h.h5 c, fun c => h.h6 c, fun c => h.h7 c, fun c => h.h8 c, fun c => h.h9 c, fun c => h.h10 c, fun c => h.h11 c⟩
theorem W12.p1 (h : W12 n0 W3 b B O l l2 V0 V1 V2 V3 V4 V5 V6 V7 V8 V9 V10 V11 f t0 t1 t2 t3 t4 t5 t6 t7 t8 t9 t10 t11 W) : W12 n0 W3 b B O l l2 V0 V1 V2 V3 V4 V5 V6 V7 V8 V9 V10 V11 (setf f 1) t0 V1 t2 t3 t4 t5 t6 t7 t8 t9 t10 t11 W :=
  ⟨h.below, h.box, h.bd, fun c => h.h0 c, fun _ => rfl, fun c => h.h2 c, fun c => h.h3 c, fun c => h.h4 c, fun c => h.h5 c, fun c => h.h6 c, fun c => h.h7 c, fun c => h.h8 c, fun c => h.h9 c, fun c => h.h10 c, fun c => h.h11 c⟩
theorem W12.p2 (h : W12 n0 W3 b B O l l2 V0 V1 V2 V3 V4 V5 V6 V7 V8 V9 V10 V11 f t0 t1 t2 t3 t4 t5 t6 t7 t8 t9 t10 t11 W) : W12 n0 W3 b B O l l2 V0 V1 V2 V3 V4 V5 V6 V7 V8 V9 V10 V11 (setf f 2) t0 t1 V2 t3 t4 t5 t6 t7 t8 t9 t10 t11 W :=
  ⟨h.below, h.box, h.bd, fun c => h.h0 c, fun c => h.h1 c, fun _ => rfl, fun c => h.h3 c, fun c => h.h4 c, fun c => h.h5 c, fun c => h.h6 c, fun c => h.h7 c, fun c => h.h8 c, fun c => h.h9 c, fun c => h.h10 c, fun c => h.h11 c⟩
theorem W12.p3 (h : W12 n0 W3 b B O l l2 V0 V1 V2 V3 V4 V5 V6 V7 V8 V9 V10 V11 f t0 t1 t2 t3 t4 t5 t6 t7 t8 t9 t10 t11 W) : W12 n0 W3 b B O l l2 V0 V1 V2 V3 V4 V5 V6 V7 V8 V9 V10 V11 (setf f 3) t0 t1 t2 V3 t4 t5 t6 t7 t8 t9 t10 t11 W :=
  ⟨h.below, h.box, h.bd, fun c => h.h0 c, fun c => h.h1 c, fun c => h.h2 c, fun _ => rfl, fun c => h.h4 c, fun c => h.h5 c, fun c => h.h6 c, fun c => h.h7 c, fun c => h.h8 c, fun c => h.h9 c, fun c => h.h10 c, fun c => h.h11 c⟩
theorem W12.p4 (h : W12 n0 W3 b B O l l2 V0 V1 V2 V3 V4 V5 V6 V7 V8 V9 V10 V11 f t0 t1 t2 t3 t4 t5 t6 t7 t8 t9 t10 t11 W) : W12 n0 W3 b B O l l2 V0 V1 V2 V3 V4 V5 V6 V7 V8 V9 V10 V11 (setf f 4) t0 t1 t2 t3 V4 t5 t6 t7 t8 t9 t10 t11 W :=
  ⟨h.below, h.box, h.bd, fun c => h.h0 c, fun c => h.h1 c, fun c => h.h2 c, fun c => h.h3 c, fun _ => rfl, fun c => h.h5 c, fun c => h.h6 c, fun c => h.h7 c, fun c => h.h8 c, fun c => h.h9 c, fun c => h.h10 c, fun c => h.h11 c⟩
theorem W12.p5 (h : W12 n0 W3 b B O l l2 V0 V1 V2 V3 V4 V5 V6 V7 V8 V9 V10 V11 f t0 t1 t2 t3 t4 t5 t6 t7 t8 t9 t10 t11 W) : W12 n0 W3 b B O l l2 V0 V1 V2 V3 V4 V5 V6 V7 V8 V9 V10 V11 (setf f 5) t0 t1 t2 t3 t4 V5 t6 t7 t8 t9 t10 t11 W :=
  ⟨h.below, h.box, h.bd, fun c => h.h0 c, fun c => h.h1 c, fun c => h.h2 c, fun c => h.h3 c, fun c => h.h4 c, fun _ => rfl, fun c => h.h6 c, fun c => h.h7 c, fun c => h.h8 c, fun c => h.h9 c, fun c => h.h10 c, fun c => h.h11 c⟩
theorem W12.p6 (h : W12 n0 W3 b B O l l2 V0 V1 V2 V3 V4 V5 V6 V7 V8 V9 V10 V11 f t0 t1 t2 t3 t4 t5 t6 t7 t8 t9 t10 t11 W) : W12 n0 W3 b B O l l2 V0 V1 V2 V3 V4 V5 V6 V7 V8 V9 V10 V11 (setf f 6) t0 t1 t2 t3 t4 t5 V6 t7 t8 t9 t10 t11 W :=
  ⟨h.below, h.box, h.bd, fun c => h.h0 c, fun c => h.h1 c, fun c => h.h2 c, fun c => h.h3 c, fun c => h.h4 c, fun c => h.h5 c, fun _ => rfl, fun c => h.h7 c, fun c => h.h8 c, fun c => h.h9 c, fun c => h.h10 c, fun c => h.h11 c⟩
theorem W12.p7 (h : W12 n0 W3 b B O l l2 V0 V1 V2 V3 V4 V5 V6 V7 V8 V9 V10 V11 f t0 t1 t2 t3 t4 t5 t6 t7 t8 t9 t10 t11 W) : W12 n0 W3 b B O l l2 V0 V1 V2 V3 V4 V5 V6 V7 V8 V9 V10 V11 (setf f 7) t0 t1 t2 t3 t4 t5 t6 V7 t8 t9 t10 t11 W :=
  ⟨h.below, h.box, h.bd, fun c => h.h0 c, fun c => h.h1 c, fun c => h.h2 c, fun c => h.h3 c, fun c => h.h4 c, fun c => h.h5 c, fun c => h.h6 c, fun _ => rfl, fun c => h.h8 c, fun c => h.h9 c, fun c => h.h10 c, fun c => h.h11 c⟩
theorem W12.p8 (h : W12 n0 W3 b B O l l2 V0 V1 V2 V3 V4 V5 V6 V7 V8 V9 V10 V11 f t0 t1 t2 t3 t4 t5 t6 t7 t8 t9 t10 t11 W) : W12 n0 W3 b B O l l2 V0 V1 V2 V3 V4 V5 V6 V7 V8 V9 V10 V11 (setf f 8) t0 t1 t2 t3 t4 t5 t6 t7 V8 t9 t10 t11 W :=
  ⟨h.below, h.box, h.bd, fun c => h.h0 c, fun c => h.h1 c, fun c => h.h2 c, fun c => h.h3 c, fun c => h.h4 c, fun c => h.h5 c, fun c => h.h6 c, fun c => h.h7 c, fun _ => rfl, fun c => h.h9 c, fun c => h.h10 c, fun c => h.h11 c⟩
theorem W12.p9 (h : W12 n0 W3 b B O l l2 V0 V1 V2 V3 V4 V5 V6 V7 V8 V9 V10 V11 f t0 t1 t2 t3 t4 t5 t6 t7 t8 t9 t10 t11 W) : W12 n0 W3 b B O l l2 V0 V1 V2 V3 V4 V5 V6 V7 V8 V9 V10 V11 (setf f 9) t0 t1 t2 t3 t4 t5 t6 t7 t8 V9 t10 t11 W :=
  ⟨h.below, h.box, h.bd, fun c => h.h0 c, fun c => h.h1 c, fun c => h.h2 c, fun c => h.h3 c, fun c => h.h4 c, fun c => h.h5 c, fun c => h.h6 c, fun c => h.h7 c, fun c => h.h8 c, fun _ => rfl, fun c => h.h10 c, fun c => h.h11 c⟩
theorem W12.p10 (h : W12 n0 W3 b B O l l2 V0 V1 V2 V3 V4 V5 V6 V7 V8 V9 V10 V11 f t0 t1 t2 t3 t4 t5 t6 t7 t8 t9 t10 t11 W) : W12 n0 W3 b B O l l2 V0 V1 V2 V3 V4 V5 V6 V7 V8 V9 V10 V11 (setf f 10) t0 t1 t2 t3 t4 t5 t6 t7 t8 t9 V10 t11 W :=
  ⟨h.below, h.box, h.bd, fun c => h.h0 c, fun c => h.h1 c, fun c => h.h2 c, fun c => h.h3 c, fun c => h.h4 c, fun c => h.h5 c, fun c => h.h6 c, fun c => h.h7 c, fun c => h.h8 c, fun c => h.h9 c, fun _ => rfl, fun c => h.h11 c⟩
theorem W12.world (h : W12 n0 W3 b B O l l2 V0 V1 V2 V3 V4 V5 V6 V7 V8 V9 V10 V11 f t0 t1 t2 t3 t4 t5 t6 t7 t8 t9 t10 t11 W) (h3 : n0 ≤ W3.heap.size) {W' : World} (hb : Below W.heap.size W W') : W12 n0 W3 b B O l l2 V0 V1 V2 V3 V4 V5 V6 V7 V8 V9 V10 V11 f t0 t1 t2 t3 t4 t5 t6 t7 t8 t9 t10 t11 W' :=
  ⟨h.below.trans (hb.mono (Nat.le_trans h3 h.below.size)), (hb.block _ (Array.getElem?_eq_some_iff.1 h.box).1).trans h.box, let ⟨t, k, k1, k2⟩ := h.bd; ⟨t, k.below hb, k1, k2⟩, fun c => h.h0 c, fun c => h.h1 c, fun c => h.h2 c, fun c => h.h3 c, fun c => h.h4 c, fun c => h.h5 c, fun c => h.h6 c, fun c => h.h7 c, fun c => h.h8 c, fun c => h.h9 c, fun c => h.h10 c, fun c => h.h11 c⟩
theorem W12.write (h : W12 n0 W3 b B O l l2 V0 V1 V2 V3 V4 V5 V6 V7 V8 V9 V10 V11 f t0 t1 t2 t3 t4 t5 t6 t7 t8 t9 t10 t11 W) (hbn : n0 ≤ b) {W' : World} (hd : BdAt W' b l2) (hb : Below b W W') (hk : W'.heap[B]? = W.heap[B]?) : W12 n0 W3 b B O l l2 V0 V1 V2 V3 V4 V5 V6 V7 V8 V9 V10 V11 (setf f 11) t0 t1 t2 t3 t4 t5 t6 t7 t8 t9 t10 V11 W' :=
  ⟨h.below.trans (hb.mono hbn), hk.trans h.box, ⟨l2, hd, fun c => (by cases c), fun _ => rfl⟩, fun c => h.h0 c, fun c => h.h1 c, fun c => h.h2 c, fun c => h.h3 c, fun c => h.h4 c, fun c => h.h5 c, fun c => h.h6 c, fun c => h.h7 c, fun c => h.h8 c, fun c => h.h9 c, fun c => h.h10 c, fun _ => rfl⟩
theorem W12.start (hd : BdAt W3 b l) (hB : W3.heap[B]? = some O) : W12 n0 W3 b B O l l2 V0 V1 V2 V3 V4 V5 V6 V7 V8 V9 V10 V11 (fun _ => false) t0 t1 t2 t3 t4 t5 t6 t7 t8 t9 t10 t11 W3.drew :=
  ⟨(Below.refl n0 W3).drew, hB, ⟨l, hd.below (Below.refl _ W3).drew, fun _ => rfl, fun c => (by cases c)⟩, fun c => (by cases c), fun c => (by cases c), fun c => (by cases c), fun c => (by cases c), fun c => (by cases c), fun c => (by cases c), fun c => (by cases c), fun c => (by cases c), fun c => (by cases c), fun c => (by cases c), fun c => (by cases c), fun c => (by cases c)⟩
theorem W12.at (h : W12 n0 W3 b B O l l2 V0 V1 V2 V3 V4 V5 V6 V7 V8 V9 V10 V11 f t0 t1 t2 t3 t4 t5 t6 t7 t8 t9 t10 t11 W) (hf : f 11 = false) : BdAt W b l := by
  obtain ⟨t, k, k1, _⟩ := h.bd
  rw [← k1 hf]; exact k
theorem W12.fin (h : W12 n0 W3 b B O l l2 V0 V1 V2 V3 V4 V5 V6 V7 V8 V9 V10 V11 f t0 t1 t2 t3 t4 t5 t6 t7 t8 t9 t10 t11 W) (hf : f 11 = true) : BdAt W b l2 := by
  obtain ⟨t, k, _, k2⟩ := h.bd
  rw [← k2 hf]; exact k
end
theorem ita_any (w : World) (n : Nat) (h : n < 1000000000000000000) (hTp : TabP w) :
    Calls Tryd.prog 52 #[.int .i64 n] w fun r w' => r = .returned (.string (tx (Lib.decDigits n))) ∧ Below w.heap.size w w' := by
  refine (Tryd.strconv_Itoa (n : Int) (by omega) (by omega) w hTp).mono ?_
  rintro e w' ⟨rfl, k, os, rfl⟩
  rw [Lib.itoa_nonneg]
  exact ⟨rfl, below_grow w k os⟩
section
variable (w : World)
set_option maxHeartbeats 2000000 in
theorem ict_f (C : CM) (u : Value) (hu : SlB w u C.bs) (hbd : BdB C.bs) (hm : tC C ≤ 1048576) (h : ¬ CO C.s C.bs) :
    Calls Tryd.prog 20 #[.agg #[.int .i64 C.s, u]] w fun r w' => r = .returned (.string ⟨#[]⟩) ∧ Below w.heap.size w w' := by
  obtain ⟨B1, hB1⟩ : ∃ B1 : Bool, (B1 = true ↔ (C.bs.length ≤ 6 ∧ AllB C.bs)) := ⟨@decide (C.bs.length ≤ 6 ∧ AllB C.bs) (Classical.propDecidable _), by simp⟩
  have hA := Lib.hid (fun W (hb : Below w.heap.size w W) => iab_any W u C.bs (hu.below hb) hbd hm B1 hB1)
  obtain ⟨sz, bs⟩ := C
  dsimp only at *
  obtain ⟨a, cap, rfl, _⟩ := hu
  obtain ⟨l, hl⟩ : ∃ l, bs.length = l := ⟨_, rfl⟩
  rw [hl] at hA ⊢
  have hB0 : Below w.heap.size w (w.alloc (.cells #[.int .i64 sz, .slice a l cap] 51)) := by (repeat (first | exact Below.refl _ _ | assumption | refine bchain (by assumption) ?_ | refine balloc ?_ _ | apply Below.drew | apply below_drewN | (refine Below.alloc ?_ (by (try simp) <;> omega) _) | (refine Below.setCell ?_ (by (try simp) <;> omega) _)))
  by_cases c : 0 ≤ sz ∧ sz ≤ 5
  · obtain rfl : B1 = false := by
      rw [Bool.eq_false_iff]
      intro c1
      exact h ⟨c, hB1.1 c1⟩
    have hV := Lib.hid (fun W => vc_t W sz c.1 c.2)
    clear h hbd hm hB1 hl
    go_enter Tryd.func20, Tryd.ntmps20
    go_wp2_with fail
    refine (hV.out _).mono ?_
    rintro r1 w1 ⟨rfl, rfl⟩
    go_wp2_with fail
    refine (hA.out _ hB0).mono ?_
    rintro r1 w1 ⟨rfl, hb1⟩
    go_wp2
    go_ret
    exact ⟨rfl, bchain hb1 hB0⟩
  · have hV := Lib.hid (fun W => vc_f W sz (by omega))
    clear h hbd hm hB1 hl hA
    go_enter Tryd.func20, Tryd.ntmps20
    go_wp2_with fail
    refine (hV.out _).mono ?_
    rintro r1 w1 ⟨rfl, rfl⟩
    go_wp2
    go_ret
    exact ⟨rfl, hB0⟩
set_option maxHeartbeats 8000000 in
theorem ict_t (C : CM) (u : Value) (s : Nat) (hs : C.s = s) (hu : SlB w u C.bs) (hbd : BdB C.bs) (hm : tC C ≤ 1048576) (hO : CO C.s C.bs) (hTp : TabP w) :
    Calls Tryd.prog 20 #[.agg #[.int .i64 C.s, u]] w fun r w' => r = .returned (.string (tx (cT s C.bs C.bs.length))) ∧ Below w.heap.size w w' := by
  have hVa := Lib.hid (fun W (hb : Below w.heap.size w W) => iab_any W u C.bs (hu.below hb) hbd hm true ⟨fun _ => hO.2, fun _ => rfl⟩)
  obtain ⟨sz, bs⟩ := C
  dsimp only at *
  subst hs
  obtain ⟨⟨hs0, hs5⟩, h6, hA⟩ := hO
  have hV := Lib.hid (fun W => vc_t W s hs0 hs5)
  replace hs5 : s ≤ 5 := by omega
  obtain ⟨a, cap, rfl, h1, h2, h3⟩ := hu.rows
  clear hu hbd hm hs0
  have hct := Lib.hid (fun k (hk : k ≤ bs.length) => cT_len hs5 h6 hA k hk)
  have hmt := Lib.hid (fun k j (hk : k < bs.length) (hj : j ≤ (bAt bs k).ks.length) => mT_len hs5 h6 hA hk hj)
  have hz : cT s bs 0 = hT s bs.length := rfl
  obtain ⟨l, hl⟩ : ∃ l, bs.length = l := ⟨_, rfl⟩
  rw [hl] at h6 h1 h3 hz hct hmt hVa ⊢
  have hAl := Lib.hid (fun k (hk : k < l) => hA k (by omega))
  clear hl hA
  have hT' := Lib.hid (fun W (hb : Below w.heap.size w W) => hTp.below hb)
  have hFm := Lib.hid (fun W (hb : Below w.heap.size w W) => fmt_any W s (by omega) (hTp.below hb))
  have hIt := Lib.hid (fun W (hb : Below w.heap.size w W) => ita_any W l (by omega) (hTp.below hb))
  have l1 := dd_len (n := s) (by omega)
  have l2 := dd_len (n := l) (by omega)
  have x1 := run_cat cHd (Lib.decDigits s) (by simp [cHd]) (by omega)
  have x2 := run_cat (cHd ++ Lib.decDigits s) [32] (by simp [cHd]; omega) (by simp)
  have x3 := run_cat (cHd ++ Lib.decDigits s ++ [32]) (Lib.decDigits l) (by simp [cHd]; omega) (by omega)
  have x4 := run_cat (cHd ++ Lib.decDigits s ++ [32] ++ Lib.decDigits l) [10] (by simp [cHd]; omega) (by simp)
  rw [show cHd ++ Lib.decDigits s ++ [32] ++ Lib.decDigits l ++ [10] = cT s bs 0 by rw [hz]; rfl] at x4
  have eC : ({ data := #[99, 101, 114, 116, 105, 102, 105, 99, 97, 116, 101, 32] } : ByteArray) = tx cHd := rfl
  have eB : ({ data := #[98, 108, 111, 99, 107, 32] } : ByteArray) = tx bkHd := rfl
  have e32 : ({ data := #[32] } : ByteArray) = tx [32] := rfl
  have e10 : ({ data := #[10] } : ByteArray) = tx [10] := rfl
  obtain ⟨W0, hW0⟩ : ∃ W0, W0 = w.alloc (.cells #[.int .i64 (s : Int), .slice a l cap] 51) := ⟨_, rfl⟩
  have hB0 : Below w.heap.size w W0 := by rw [hW0]; (repeat (first | exact Below.refl _ _ | assumption | refine bchain (by assumption) ?_ | refine balloc ?_ _ | apply Below.drew | apply below_drewN | (refine Below.alloc ?_ (by (try simp) <;> omega) _) | (refine Below.setCell ?_ (by (try simp) <;> omega) _)))
  have k0 : W0.heap[w.heap.size]? = some (.cells #[.int .i64 (s : Int), .slice a l cap] 51) := by rw [hW0]; exact World.alloc_heap_new _ _
  replace hW0 := Lib.hid hW0
  clear hTp
  go_enter Tryd.func20, Tryd.ntmps20
  rw [eC, eB, e32, e10]
  obtain ⟨t32, ht32⟩ : ∃ t, tx [32] = t := ⟨_, rfl⟩
  obtain ⟨t10, ht10⟩ : ∃ t, tx [10] = t := ⟨_, rfl⟩
  obtain ⟨tC, htC⟩ : ∃ t, tx cHd = t := ⟨_, rfl⟩
  obtain ⟨tB, htB⟩ : ∃ t, tx bkHd = t := ⟨_, rfl⟩
  obtain ⟨tD, htD⟩ : ∃ t, tx (Lib.decDigits s) = t := ⟨_, rfl⟩
  obtain ⟨tL, htL⟩ : ∃ t, tx (Lib.decDigits l) = t := ⟨_, rfl⟩
  obtain ⟨y1, hy1⟩ : ∃ t, tx (cHd ++ Lib.decDigits s) = t := ⟨_, rfl⟩
  obtain ⟨y2, hy2⟩ : ∃ t, tx (cHd ++ Lib.decDigits s ++ [32]) = t := ⟨_, rfl⟩
  obtain ⟨y3, hy3⟩ : ∃ t, tx (cHd ++ Lib.decDigits s ++ [32] ++ Lib.decDigits l) = t := ⟨_, rfl⟩
  obtain ⟨y4, hy4⟩ : ∃ t, tx (cT s bs 0) = t := ⟨_, rfl⟩
  rw [htC, htD, hy1] at x1
  rw [hy1, ht32, hy2] at x2
  rw [hy2, htL, hy3] at x3
  rw [hy3, ht10, hy4] at x4
  rw [htD] at hFm
  rw [htL] at hIt
  rw [ht32, ht10, htC, htB]
  replace ht10 := Lib.hid ht10
  replace htB := Lib.hid htB
  replace hy4 := Lib.hid hy4
  clear htC htD htL hy1 hy2 hy3 l1 l2 hz ht32
  go_wp2_with fail
  rw [← hW0.out]
  have c0 : W0.cell? ⟨w.heap.size, 0, none⟩ = some (.int .i64 (s : Int)) := by rw [Lib.cell_of_heap k0]; rfl
  have c1 : W0.cell? ⟨w.heap.size, 1, none⟩ = some (.slice a l cap) := by rw [Lib.cell_of_heap k0]; rfl
  refine (hV.out _).mono ?_
  rintro r1 w1 ⟨rfl, rfl⟩
  go_wp2_with fail
  refine (hVa.out _ hB0).mono ?_
  rintro r1 w1 ⟨rfl, hb1⟩
  have k1 := (hb1.block _ (Array.getElem?_eq_some_iff.1 k0).1).trans k0
  clear c0 c1 k0
  have hbd1 := BdAt.fresh w1
  have hzb := (bchain hb1 hB0).size
  obtain ⟨W3, hW3⟩ : ∃ W3, W3 = w1.alloc (.cells #[.pointer none, .slice none 0 0] 75) := ⟨_, rfl⟩
  have hB3 : Below w.heap.size w W3 := by rw [hW3]; exact balloc (bchain hb1 hB0) _
  have k3 : W3.heap[w.heap.size]? = some (.cells #[.int .i64 (s : Int), .slice a l cap] 51) := by rw [hW3, Below.heap_alloc _ _ _ (Array.getElem?_eq_some_iff.1 k1).1]; exact k1
  rw [← hW3] at hbd1
  obtain ⟨b, hb⟩ : ∃ b, w1.heap.size = b := ⟨_, rfl⟩
  rw [hb] at hbd1 hzb
  have hbB : w.heap.size ≠ b := by have := (Array.getElem?_eq_some_iff.1 k1).1; omega
  replace hb := Lib.hid hb
  replace hW3 := Lib.hid hW3
  replace hbd1 := Lib.hid hbd1
  go_wp2_with fail
  rw [← hW3.out, hb.out]
  have hWt := Lib.hid (fun W (hd : BdAt W b []) => bd_put W b [] (cT s bs 0) hd (by have := hct.out 0 (by omega); simp only [List.length_nil]; omega))
  rw [hy4.out] at hWt
  have hw3 : w.heap.size ≤ W3.heap.size := hB3.size
  refine wp_region_inv (fun f ac W => ∃ t18 t19 t20 t21 t22 t23 t24 t25 t26 t27 t28 t29, ac = { tmps := #[.agg #[.int .i64 (s : Int), .slice a l cap], .pointer (some ⟨w.heap.size, 0, none⟩), .string { data := #[] }, .pointer (some ⟨b, 0, none⟩), undef, undef, undef, undef, .pointer (some ⟨w.heap.size, 0, none⟩), .int .i64 (s : Int), .bool true, .bool false, .bool false, .pointer (some ⟨w.heap.size, 1, none⟩), .slice a l cap, .bool true, .bool false, .bool false, t18, t19, t20, t21, t22, t23, t24, t25, t26, t27, t28, t29, undef, undef, undef, undef, undef, undef, undef, undef, undef, undef, undef, undef, undef, undef, undef, undef, undef, undef, undef, undef, undef, undef, undef, undef, undef, undef, undef, undef, undef, undef, undef, undef], defers := [] } ∧ W12 (w.heap.size) W3 b (w.heap.size) (.cells #[.int .i64 (s : Int), .slice a l cap] 51) ([]) (cT s bs 0) (.pointer (some ⟨w.heap.size, 0, none⟩)) (.int .i64 (s : Int)) (.string tD) (.string y1) (.string y2) (.pointer (some ⟨w.heap.size, 1, none⟩)) (.slice a l cap) (.int .i64 (l : Int)) (.string tL) (.string y3) (.string y4) (.tuple #[.int .i64 (cT s bs 0).length, .nilIface]) f t18 t19 t20 t21 t22 t23 t24 t25 t26 t27 t28 t29 W) (by kernel_rfl) (by kernel_rfl) ?start ?step ?last
  case start => exact ⟨_, _, _, _, _, _, _, _, _, _, _, _, rfl, W12.start hbd1.out k3⟩
  case step =>
    intro i o f ac W ho hf hdep hI
    obtain ⟨t18, t19, t20, t21, t22, t23, t24, t25, t26, t27, t28, t29, rfl, hJ⟩ := hI
    have hi : i < 12 := (Array.getElem?_eq_some_iff.1 ho).1
    have hc : i = 0 ∨ i = 1 ∨ i = 2 ∨ i = 3 ∨ i = 4 ∨ i = 5 ∨ i = 6 ∨ i = 7 ∨ i = 8 ∨ i = 9 ∨ i = 10 ∨ i = 11 := by omega
    clear hi
    rcases hc with rfl | rfl | rfl | rfl | rfl | rfl | rfl | rfl | rfl | rfl | rfl | rfl
    · obtain rfl := Option.some.inj ho
      refine wpOp_step rfl (fun K hK => ?_)
      go_simp
      exact hK _ _ ⟨_, _, _, _, _, _, _, _, _, _, _, _, rfl, hJ.p0⟩
    · obtain rfl := Option.some.inj ho
      have e0 : f 0 = true := hdep ⟨0, .data⟩ (by simp) (by decide)
      have x0 : W.cell? ⟨w.heap.size, 0, none⟩ = some (.int .i64 (s : Int)) := by rw [Lib.cell_of_heap hJ.box]; rfl
      obtain rfl := hJ.h0 e0
      refine wpOp_step rfl (fun K hK => ?_)
      go_simp
      exact hK _ _ ⟨_, _, _, _, _, _, _, _, _, _, _, _, rfl, hJ.p1⟩
    · obtain rfl := Option.some.inj ho
      have e1 : f 1 = true := hdep ⟨1, .data⟩ (by simp) (by decide)
      obtain rfl := hJ.h1 e1
      refine wpOp_step rfl (fun K hK => ?_)
      go_simp
      go_wp2_with (go_at_call 42; refine (hFm.out W (hB3.trans hJ.below)).mono ?_; rintro r3 w3 ⟨rfl, hb3⟩)
      exact ⟨_, _, _, _, _, _, _, _, _, _, _, _, rfl, (hJ.world (by omega) hb3).p2⟩
    · obtain rfl := Option.some.inj ho
      have e2 : f 2 = true := hdep ⟨2, .data⟩ (by simp) (by decide)
      obtain rfl := hJ.h2 e2
      refine wpOp_step rfl (fun K hK => ?_)
      go_simp
      exact hK _ _ ⟨_, _, _, _, _, _, _, _, _, _, _, _, rfl, hJ.p3⟩
    · obtain rfl := Option.some.inj ho
      have e3 : f 3 = true := hdep ⟨3, .data⟩ (by simp) (by decide)
      obtain rfl := hJ.h3 e3
      refine wpOp_step rfl (fun K hK => ?_)
      go_simp
      exact hK _ _ ⟨_, _, _, _, _, _, _, _, _, _, _, _, rfl, hJ.p4⟩
    · obtain rfl := Option.some.inj ho
      refine wpOp_step rfl (fun K hK => ?_)
      go_simp
      exact hK _ _ ⟨_, _, _, _, _, _, _, _, _, _, _, _, rfl, hJ.p5⟩
    · obtain rfl := Option.some.inj ho
      have e5 : f 5 = true := hdep ⟨5, .data⟩ (by simp) (by decide)
      have x1 : W.cell? ⟨w.heap.size, 1, none⟩ = some (.slice a l cap) := by rw [Lib.cell_of_heap hJ.box]; rfl
      obtain rfl := hJ.h5 e5
      refine wpOp_step rfl (fun K hK => ?_)
      go_simp
      exact hK _ _ ⟨_, _, _, _, _, _, _, _, _, _, _, _, rfl, hJ.p6⟩
    · obtain rfl := Option.some.inj ho
      have e6 : f 6 = true := hdep ⟨6, .data⟩ (by simp) (by decide)
      obtain rfl := hJ.h6 e6
      refine wpOp_step rfl (fun K hK => ?_)
      go_simp
      exact hK _ _ ⟨_, _, _, _, _, _, _, _, _, _, _, _, rfl, hJ.p7⟩
    · obtain rfl := Option.some.inj ho
      have e7 : f 7 = true := hdep ⟨7, .data⟩ (by simp) (by decide)
      obtain rfl := hJ.h7 e7
      refine wpOp_step rfl (fun K hK => ?_)
      go_simp
      go_wp2_with (go_at_call 52; refine (hIt.out W (hB3.trans hJ.below)).mono ?_; rintro r3 w3 ⟨rfl, hb3⟩)
      exact ⟨_, _, _, _, _, _, _, _, _, _, _, _, rfl, (hJ.world (by omega) hb3).p8⟩
    · obtain rfl := Option.some.inj ho
      have e4 : f 4 = true := hdep ⟨4, .data⟩ (by simp) (by decide)
      have e8 : f 8 = true := hdep ⟨8, .data⟩ (by simp) (by decide)
      obtain rfl := hJ.h4 e4
      obtain rfl := hJ.h8 e8
      refine wpOp_step rfl (fun K hK => ?_)
      go_simp
      exact hK _ _ ⟨_, _, _, _, _, _, _, _, _, _, _, _, rfl, hJ.p9⟩
    · obtain rfl := Option.some.inj ho
      have e9 : f 9 = true := hdep ⟨9, .data⟩ (by simp) (by decide)
      obtain rfl := hJ.h9 e9
      refine wpOp_step rfl (fun K hK => ?_)
      go_simp
      exact hK _ _ ⟨_, _, _, _, _, _, _, _, _, _, _, _, rfl, hJ.p10⟩
    · obtain rfl := Option.some.inj ho
      have e10 : f 10 = true := hdep ⟨10, .data⟩ (by simp) (by decide)
      obtain rfl := hJ.h10 e10
      refine wpOp_step rfl (fun K hK => ?_)
      go_simp
      go_wp2_with (go_at_call 32; refine (hWt.out W (hJ.at hf)).mono ?_; rintro r3 w3 ⟨rfl, hd3, hb3, hk3⟩)
      exact ⟨_, _, _, _, _, _, _, _, _, _, _, _, rfl, hJ.write (by omega) hd3 hb3 ((hk3 _ _ hJ.box (fun c => hbB (Option.some.inj c)) (fun _ _ e => absurd (Obj.cells.inj e).2.1 (by decide))).trans hJ.box.symm)⟩
  case last =>
    intro f ac W hall hI
    obtain ⟨t18, t19, t20, t21, t22, t23, t24, t25, t26, t27, t28, t29, rfl, hJ⟩ := hI
    obtain rfl := hJ.h0 (hall 0 (show 0 < 12 by decide))
    obtain rfl := hJ.h1 (hall 1 (show 1 < 12 by decide))
    obtain rfl := hJ.h2 (hall 2 (show 2 < 12 by decide))
    obtain rfl := hJ.h3 (hall 3 (show 3 < 12 by decide))
    obtain rfl := hJ.h4 (hall 4 (show 4 < 12 by decide))
    obtain rfl := hJ.h5 (hall 5 (show 5 < 12 by decide))
    obtain rfl := hJ.h6 (hall 6 (show 6 < 12 by decide))
    obtain rfl := hJ.h7 (hall 7 (show 7 < 12 by decide))
    obtain rfl := hJ.h8 (hall 8 (show 8 < 12 by decide))
    obtain rfl := hJ.h9 (hall 9 (show 9 < 12 by decide))
    obtain rfl := hJ.h10 (hall 10 (show 10 < 12 by decide))
    obtain rfl := hJ.h11 (hall 11 (show 11 < 12 by decide))
    have hbd4 := hJ.fin (hall 11 (show 11 < 12 by decide))
    have k4 := hJ.box
    have hB4 : Below w.heap.size w W := hB3.trans hJ.below
    have c1 : W.cell? ⟨w.heap.size, 1, none⟩ = some (.slice a l cap) := by rw [Lib.cell_of_heap k4]; rfl
    clear hJ hall k3 hW3 x1 x2 x3 x4 hWt hFm hIt hV hVa hW0 k1 hb1 hB0
    replace hbd4 := Lib.hid hbd4
    go_wp2_with fail
    go_loopw [33] (fun i wr => ∃ k : Nat, k ≤ l ∧ i = .int .i64 k ∧ BdAt wr b (cT s bs k) ∧ Below w.heap.size w wr) (fun i _ => l - (intOf i).toNat)
    case atStart => exact ⟨0, by omega, rfl, hbd4.out, hB4⟩
    case round =>
      clear hbd4 hB4 k4 c1
      obtain ⟨k, hk, rfl, hbd, hB⟩ := hrel
      by_cases hlt : k < l
      · have hd := decide_eq_true (show ((k : Int) < (l : Int)) by omega)
        obtain ⟨Bb, off, rfl, hBb, hg⟩ := h3.out (by omega)
        obtain ⟨z, u, hzc, huc, hSz, hSu⟩ := hg k hlt
        have hv := hAl.out k hlt
        have hms := Lib.hid (fun W (hb : Below w.heap.size w W) => imx_t W u _ (hSu.below hb) hv.2.1 (hT'.out W hb))
        have hml := matT_len hv.2.1 _ (Nat.le_refl _)
        have hm8 := hv.2.1.1
        have hmt2 := Lib.hid (fun j hj => hmt.out k j hlt hj)
        have hnx := Lib.hid (fun j => mT_next s bs k j)
        have hze := mT_zero s bs k
        have hla := Lib.hid (mT_last s bs k)
        have hck := hct.out k hk
        obtain ⟨Y, hY⟩ : ∃ Y, bAt bs k = Y := ⟨_, rfl⟩
        rw [hY] at hSz hSu hv hms hml hm8 hmt2 hnx hze hla
        have hK := Lib.hid hv.1.1
        have hk8 := hv.1.2.1
        have hk0l := hv.1.2.2.1
        obtain ⟨a2, c2, rfl, g1, g2, g3⟩ := hSz
        obtain ⟨m, hmm⟩ : ∃ m, Y.ks.length = m := ⟨_, rfl⟩
        obtain ⟨b2, off2, rfl, hb2, hgk⟩ := g3 (List.length_pos_iff.1 hk0l)
        rw [hmm] at hmt2 hze hla hk8 hk0l g1 hzc
        have hgk2 := Lib.hid (fun j (hj : j < m) => hgk j (by omega))
        have hK2 := Lib.hid (fun j (hj : j < m) => hK.out j (by omega))
        have hzl := bHd_len hk8
        have hdl := dd_len (n := m) (by omega)
        have x1 := run_cat bkHd (Lib.decDigits m) (by simp [bkHd]) (by omega)
        have x2 := run_cat (bkHd ++ Lib.decDigits m) [10] (by simp [bkHd]; omega) (by simp)
        rw [show bkHd ++ Lib.decDigits m ++ [10] = bHd m from rfl] at x2
        have hIm := Lib.hid (fun W (hb : Below w.heap.size w W) => ita_any W m (by omega) (hT'.out W hb))
        have hWb := Lib.hid (fun W (hd : BdAt W b (cT s bs k)) => bd_put W b _ (bHd m) hd (by omega))
        have hWm := Lib.hid (fun W (hd : BdAt W b (mT s bs k m)) => bd_put W b _ (matT Y.m Y.m.length) hd (by have := hmt2.out m (Nat.le_refl _); omega))
        obtain ⟨z3, hz3⟩ : ∃ t, tx (Lib.decDigits m) = t := ⟨_, rfl⟩
        obtain ⟨z4, hz4⟩ : ∃ t, tx (bkHd ++ Lib.decDigits m) = t := ⟨_, rfl⟩
        obtain ⟨z5, hz5⟩ : ∃ t, tx (bHd m) = t := ⟨_, rfl⟩
        obtain ⟨z7, hz7⟩ : ∃ t, tx (matT Y.m Y.m.length) = t := ⟨_, rfl⟩
        rw [htB.out, hz3, hz4] at x1
        rw [hz4, ht10.out, hz5] at x2
        rw [hz7] at hms hWm
        rw [hz3] at hIm
        rw [hz5, ← hze] at hWb
        have p0 := (hB.cell (p := ⟨Bb, off + k * 2, none⟩) hBb).trans hzc
        have p1 := (hB.cell (p := ⟨Bb, off + k * 2 + 1, none⟩) hBb).trans huc
        have hkn0 : (0 : Int) ≤ (k : Int) := by omega
        obtain ⟨au, cu, rfl, _⟩ := id hSu
        obtain ⟨mu, hmu⟩ : ∃ mu, Y.m.length = mu := ⟨_, rfl⟩
        rw [hmu] at p1 hms
        replace hmu := Lib.hid hmu
        clear hz3 hz4 hz5 hz7 hck hdl hzl hze g3 hgk hK hg hSu hml hm8 huc hzc
        have hbA := hbd.alloc (.cells #[.slice (some ⟨b2, off2, none⟩) m c2, .slice au mu cu] 107)
        have hkA : (wr.alloc (.cells #[.slice (some ⟨b2, off2, none⟩) m c2, .slice au mu cu] 107)).heap[wr.heap.size]? = some (.cells #[.slice (some ⟨b2, off2, none⟩) m c2, .slice au mu cu] 107) := World.alloc_heap_new _ _
        have hBA : Below w.heap.size w (wr.alloc (.cells #[.slice (some ⟨b2, off2, none⟩) m c2, .slice au mu cu] 107)) := balloc hB _
        have hAb : wr.heap.size ≠ b := by have := hbd.lt; omega
        obtain ⟨A, hA⟩ : ∃ A, wr.heap.size = A := ⟨_, rfl⟩
        obtain ⟨W5, hW5⟩ : ∃ W5, wr.alloc (.cells #[.slice (some ⟨b2, off2, none⟩) m c2, .slice au mu cu] 107) = W5 := ⟨_, rfl⟩
        rw [hA, hW5] at hkA
        rw [hA] at hAb
        rw [hW5] at hbA hBA
        replace hA := Lib.hid hA
        replace hW5 := Lib.hid hW5
        replace hbA := Lib.hid hbA
        replace hbd := Lib.hid hbd
        have q0 : W5.cell? ⟨A, 0, none⟩ = some (.slice (some ⟨b2, off2, none⟩) m c2) := by rw [Lib.cell_of_heap hkA]; rfl
        go_wp2_with fail
        rw [hW5.out, hA.out]
        go_wp2_with fail
        refine (hIm.out _ hBA).mono ?_
        rintro r6 w6 ⟨rfl, hb6⟩
        have k6 := (hb6.block _ (Array.getElem?_eq_some_iff.1 hkA).1).trans hkA
        have hbd6 := hbA.out.below hb6
        have hB6 := bchain hb6 hBA
        have hW6 := Lib.hid (hWb.out w6 hbd6)
        replace hbd6 := Lib.hid hbd6
        clear hb6 hkA q0 p0 p1
        go_wp2_with fail
        refine hW6.out.mono ?_
        rintro r7 w7 ⟨rfl, hbd7, hb7, hk7⟩
        have k7 := (hk7 _ _ k6 (fun c => hAb (Option.some.inj c)) (fun _ _ e => absurd (Obj.cells.inj e).2.1 (by decide)))
        have hB7 := hB6.trans (hb7.mono hzb)
        have q0 : w7.cell? ⟨A, 0, none⟩ = some (.slice (some ⟨b2, off2, none⟩) m c2) := by rw [Lib.cell_of_heap k7]; rfl
        replace hbd7 := Lib.hid hbd7
        clear hk7 hb7 k6 hW6
        go_wp2_with fail
        go_loopw [47] (fun i wr2 => ∃ j : Nat, j ≤ m ∧ i = .int .i64 j ∧ BdAt wr2 b (mT s bs k j) ∧ Below w.heap.size w wr2 ∧ wr2.heap[A]? = some (.cells #[.slice (some ⟨b2, off2, none⟩) m c2, .slice au mu cu] 107)) (fun i _ => m - (intOf i).toNat)
        case atStart => exact ⟨0, by omega, rfl, hbd7.out, hB7, k7⟩
        case round =>
          clear hB7 k7 hbd7 q0 hbd6 hB6 hbA hBA hW5 hA hbd hB x1 x2 hWb hIm
          obtain ⟨j, hj, rfl, hbd, hB, kA⟩ := hrel
          by_cases hjl : j < m
          · have hdj := decide_eq_true (show ((j : Int) < (m : Int)) by omega)
            have hgj := hgk2.out j hjl
            have hKj := hK2.out j hjl
            have hnj := hnx.out j
            have hlj := hmt2.out j hj
            unfold KCell at hgj
            unfold KV at hKj
            obtain ⟨x, y, e, hq⟩ : ∃ x y e, kAt Y.ks j = (x, y, e) := ⟨_, _, _, rfl⟩
            rw [hq] at hgj hKj hnj
            obtain ⟨d0, d1, d2⟩ := hgj
            dsimp only at d0 d1 d2 hKj
            have hFx := Lib.hid (fun W (hb : Below w.heap.size w W) => ikT_any W hKj (hT'.out W hb))
            have hfl := kT_len hKj
            have x1 := run_cat (kT (x, y, e)) [10] (by omega) (by simp)
            have hWk := Lib.hid (fun W (hd : BdAt W b (mT s bs k j)) => bd_put W b _ (kT (x, y, e) ++ [10]) hd (by simp only [List.length_append, List.length_cons, List.length_nil]; omega))
            obtain ⟨u2, hu2⟩ : ∃ t, tx (kT (x, y, e)) = t := ⟨_, rfl⟩
            obtain ⟨u3, hu3⟩ : ∃ t, tx (kT (x, y, e) ++ [10]) = t := ⟨_, rfl⟩
            rw [hu2, ht10.out, hu3] at x1
            rw [hu2] at hFx
            rw [hu3, ← hnj] at hWk
            have p2 := (hB.cell (p := ⟨b2, off2 + j * 3, none⟩) hb2).trans d0
            have p3 := (hB.cell (p := ⟨b2, off2 + j * 3 + 1, none⟩) hb2).trans d1
            have p4 := (hB.cell (p := ⟨b2, off2 + j * 3 + 2, none⟩) hb2).trans d2
            have hj0 : (0 : Int) ≤ (j : Int) := by omega
            have hAz := (Array.getElem?_eq_some_iff.1 kA).1
            have hbd' := Lib.hid hbd
            clear hu2 hu3 d0 d1 d2 hKj hnj hfl hlj hq hbd
            go_wp2_with fail
            refine (hFx.out _ (balloc hB _)).mono ?_
            rintro r6 w6 ⟨rfl, hb6⟩
            have hb6' : Below wr.heap.size wr w6 := bchain hb6 (balloc (Below.refl _ _) _)
            have hbd6 := hbd'.out.below hb6'
            have hB6 := bchain hb6' hB
            have k6 := (hb6'.block _ hAz).trans kA
            have hW6 := Lib.hid (hWk.out w6 hbd6)
            replace hbd6 := Lib.hid hbd6
            clear hb6 hb6'
            go_wp2_with fail
            refine hW6.out.mono ?_
            rintro r7 w7 ⟨rfl, hbd7, hb7, hk7⟩
            have k7 := (hk7 _ _ k6 (fun c => hAb (Option.some.inj c)) (fun _ _ e => absurd (Obj.cells.inj e).2.1 (by decide)))
            have hB7 := hB6.trans (hb7.mono hzb)
            replace hbd7 := Lib.hid hbd7
            clear hb7 hk7
            go_wp2
            go_roundw
            case rel => exact ⟨j + 1, by omega, by go_num, hbd7.out, hB7, k7⟩
            case measure => simp [intOf]; omega
          · have hdj := decide_eq_false (show ¬ ((j : Int) < (m : Int)) by omega)
            obtain rfl : j = m := by omega
            have q1 : wr.cell? ⟨A, 1, none⟩ = some (.slice au mu cu) := by rw [Lib.cell_of_heap kA]; rfl
            replace hbd := Lib.hid hbd
            go_wp2_with fail
            refine (hms.out _ hB).mono ?_
            rintro r6 w6 ⟨rfl, hb6⟩
            have hbd6 := hbd.out.below hb6
            have hB6 := bchain hb6 hB
            have hW6 := Lib.hid (hWm.out w6 hbd6)
            replace hbd6 := Lib.hid hbd6
            clear hb6 q1
            go_wp2_with fail
            refine hW6.out.mono ?_
            rintro r7 w7 ⟨rfl, hbd7, hb7, _⟩
            have hB7 := hB6.trans (hb7.mono hzb)
            replace hbd7 := Lib.hid hbd7
            clear hb7
            go_wp2
            go_roundw
            case rel => exact ⟨k + 1, by omega, by go_num, by rw [hla.out]; exact hbd7.out, hB7⟩
            case measure => simp [intOf]; omega
      · have hd := decide_eq_false (show ¬ ((k : Int) < (l : Int)) by omega)
        obtain rfl : k = l := by omega
        have hS := Lib.hid (bd_string wr b _ hbd)
        obtain ⟨t, ht⟩ : ∃ t, tx (cT s bs k) = t := ⟨_, rfl⟩
        rw [ht] at hS
        replace hbd := Lib.hid hbd
        go_wp2_with fail
        refine hS.out.mono ?_
        rintro r2 w2 ⟨rfl, hb4, _⟩
        have hB4 := hB.trans (hb4.mono hzb)
        go_wp2
        go_ret
        exact ⟨congrArg (fun t => Ending.returned (Value.string t)) ht.symm, hB4⟩
end
end Go.Proofs.YtiedombphcdpbaaDoor
