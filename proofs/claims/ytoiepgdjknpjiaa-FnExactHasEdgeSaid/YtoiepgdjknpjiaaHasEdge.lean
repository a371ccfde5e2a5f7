/-
  PROVED: for every graph, valid or not, and every two numbers, HasEdge of the program answers as the model's does. Conditions: none.
-/
import Derived.Test.YtoiepgdjknpjiaaOpen
import Derived.Test.YtoiepgdjknpjiaaPair
namespace Go.Proofs.Ytoiepgdjknpjiaa
open Go.ChangeShapes Go.WideShapes Go.ChangeAt Go.RowKit
set_option maxRecDepth 100000

namespace HasEdgeLaw
theorem impl_inv (n e i j : Int) (hn : e < 4294967296) (he0 : 0 ≤ e) (h : ¬ VG n e) (w : World) :
    Calls Try.prog 40 #[.agg #[.int .i64 n, .int .u32 e], .int .i64 i, .int .i64 j] w fun r w' => r = .returned (.tuple #[.bool false, .int .i64 1]) ∧ Below w.heap.size w w' := by
  go_enter Try.func40, Try.ntmps40
  go_wp2_with (go_at_call 38; refine (valid_f _ n e hn he0 h).mono ?_; rintro r w1 ⟨rfl, hb1⟩)
  go_ret2
  exact ⟨rfl, by (repeat (first | exact Below.refl _ _ | assumption | refine bchain (by assumption) ?_ | apply Below.drew | apply below_drewN | (refine Below.alloc ?_ (by (try simp) <;> omega) _) | (refine Below.setCell ?_ (by (try simp) <;> omega) _)))⟩
theorem spec_inv (n e i j : Int) (hn : e < 4294967296) (he0 : 0 ≤ e) (h : ¬ VG n e) (w : World) :
    Calls Try.prog 39 #[.agg #[.int .i64 n, .int .u32 e], .int .i64 i, .int .i64 j] w fun r w' => r = .returned (.tuple #[.bool false, .int .i64 1]) ∧ Below w.heap.size w w' := by
  go_enter Try.func39, Try.ntmps39
  go_wp2_with (go_at_call 57; refine (ok_f _ n e hn he0 h).mono ?_; rintro r w1 ⟨rfl, hb1⟩)
  go_ret2
  exact ⟨rfl, by (repeat (first | exact Below.refl _ _ | assumption | refine bchain (by assumption) ?_ | apply Below.drew | apply below_drewN | (refine Below.alloc ?_ (by (try simp) <;> omega) _) | (refine Below.setCell ?_ (by (try simp) <;> omega) _)))⟩
theorem impl_rng (n e i j : Int) (h : VG n e) (hp : ¬ IsP n i j) (w : World) :
    Calls Try.prog 40 #[.agg #[.int .i64 n, .int .u32 e], .int .i64 i, .int .i64 j] w fun r w' => r = .returned (.tuple #[.bool false, .int .i64 2]) ∧ Below w.heap.size w w' := by
  go_enter Try.func40, Try.ntmps40
  go_wp2_with (first
    | (go_at_call 38; refine (valid_t _ n e h).mono ?_; rintro r w1 ⟨rfl, hb1⟩; obtain ⟨hc1, hz1⟩ := bkeep hb1 w.heap.size (by (try simp) <;> omega))
    | (go_at_call 73; refine (ip_f _ n i j hp).mono ?_; rintro r w2 ⟨rfl, rfl⟩))
  go_ret2
  exact ⟨rfl, by (repeat (first | exact Below.refl _ _ | assumption | refine bchain (by assumption) ?_ | apply Below.drew | apply below_drewN | (refine Below.alloc ?_ (by (try simp) <;> omega) _) | (refine Below.setCell ?_ (by (try simp) <;> omega) _)))⟩
theorem spec_rng (n e i j : Int) (h : VG n e) (hp : ¬ IsP n i j) (w : World) :
    Calls Try.prog 39 #[.agg #[.int .i64 n, .int .u32 e], .int .i64 i, .int .i64 j] w fun r w' => r = .returned (.tuple #[.bool false, .int .i64 2]) ∧ Below w.heap.size w w' := by
  have h5 := h.2.1
  have h0 := h.1
  go_enter Try.func39, Try.ntmps39
  go_wp2_with (first
    | (go_at_call 57; refine (ok_t _ n e h).mono ?_; rintro r w1 ⟨rfl, hb1⟩; obtain ⟨hc1, hz1⟩ := bkeep hb1 w.heap.size (by (try simp) <;> omega))
    | (go_at_call 71; refine (sp_f _ n i j hp h5 h0).mono ?_; rintro r w2 ⟨rfl, rfl⟩))
  go_ret2
  exact ⟨rfl, by (repeat (first | exact Below.refl _ _ | assumption | refine bchain (by assumption) ?_ | apply Below.drew | apply below_drewN | (refine Below.alloc ?_ (by (try simp) <;> omega) _) | (refine Below.setCell ?_ (by (try simp) <;> omega) _)))⟩
theorem impl_ok (n e i j : Nat) (h : VG n e) (hp : IsP n i j) (w : World) :
    Calls Try.prog 40 #[.agg #[.int .i64 n, .int .u32 e], .int .i64 i, .int .i64 j] w fun r w' => r = .returned (.tuple #[.bool (jn e i j), .int .i64 0]) ∧ Below w.heap.size w w' := by
  have he : e < 4294967296 := by have := h.2.2.2; have := eMax_le n; simp at *; omega
  have hi : i ≤ 4 := by have := h.2.1; have := hp.2.1; omega
  have hj : j ≤ 4 := by have := h.2.1; have := hp.2.2.2.1; omega
  have hJ := Lib.hid (fun W => joined_any W n e i j he hi hj)
  obtain ⟨b, hb⟩ : ∃ b, jn e i j = b := ⟨_, rfl⟩
  rw [hb] at hJ ⊢
  clear hb he hi hj
  go_enter Try.func40, Try.ntmps40
  go_wp2_with (first
    | (go_at_call 38; refine (valid_t _ n e h).mono ?_; rintro r w1 ⟨rfl, hb1⟩; obtain ⟨hc1, hz1⟩ := bkeep hb1 w.heap.size (by (try simp) <;> omega))
    | (go_at_call 73; refine (ip_t _ n i j hp).mono ?_; rintro r w2 ⟨rfl, rfl⟩)
    | (go_at_call 74; refine (hJ.out _).mono ?_; rintro r w3 ⟨rfl, hb3⟩))
  go_ret2
  exact ⟨rfl, by (repeat (first | exact Below.refl _ _ | assumption | refine bchain (by assumption) ?_ | apply Below.drew | apply below_drewN | (refine Below.alloc ?_ (by (try simp) <;> omega) _) | (refine Below.setCell ?_ (by (try simp) <;> omega) _)))⟩
theorem spec_ok (n e i j : Nat) (h : VG n e) (hp : IsP n i j) (w : World) :
    Calls Try.prog 39 #[.agg #[.int .i64 n, .int .u32 e], .int .i64 i, .int .i64 j] w fun r w' => r = .returned (.tuple #[.bool (jn e i j), .int .i64 0]) ∧ Below w.heap.size w w' := by
  have he : e < 4294967296 := by have := h.2.2.2; have := eMax_le n; simp at *; omega
  have hi : i ≤ 4 := by have := h.2.1; have := hp.2.1; omega
  have hj : j ≤ 4 := by have := h.2.1; have := hp.2.2.2.1; omega
  have hne : i ≠ j := by have := hp.2.2.2.2; omega
  have h5 := h.2.1
  have hJ := Lib.hid (fun W => sjoined_any W n e i j he hi hj hne)
  obtain ⟨b, hb⟩ : ∃ b, jn e i j = b := ⟨_, rfl⟩
  rw [hb] at hJ ⊢
  clear hb he hi hj hne
  go_enter Try.func39, Try.ntmps39
  go_wp2_with (first
    | (go_at_call 57; refine (ok_t _ n e h).mono ?_; rintro r w1 ⟨rfl, hb1⟩; obtain ⟨hc1, hz1⟩ := bkeep hb1 w.heap.size (by (try simp) <;> omega))
    | (go_at_call 71; refine (sp_t _ n i j hp h5).mono ?_; rintro r w2 ⟨rfl, rfl⟩)
    | (go_at_call 72; refine (hJ.out _).mono ?_; rintro r w3 ⟨rfl, hb3⟩))
  go_ret2
  exact ⟨rfl, by (repeat (first | exact Below.refl _ _ | assumption | refine bchain (by assumption) ?_ | apply Below.drew | apply below_drewN | (refine Below.alloc ?_ (by (try simp) <;> omega) _) | (refine Below.setCell ?_ (by (try simp) <;> omega) _)))⟩

theorem both (n e i j : Int) (hn : e < 4294967296) (he0 : 0 ≤ e) : ∃ (b : Bool) (c : Int),
    (∀ W, Calls Try.prog 39 #[.agg #[.int .i64 n, .int .u32 e], .int .i64 i, .int .i64 j] W fun r w' => r = .returned (.tuple #[.bool b, .int .i64 c]) ∧ Below W.heap.size W w') ∧
    (∀ W, Calls Try.prog 40 #[.agg #[.int .i64 n, .int .u32 e], .int .i64 i, .int .i64 j] W fun r w' => r = .returned (.tuple #[.bool b, .int .i64 c]) ∧ Below W.heap.size W w') := by
  by_cases h : VG n e
  · by_cases hp : IsP n i j
    · obtain ⟨n', rfl⟩ : ∃ k : Nat, n = k := ⟨n.toNat, by have := h.1; omega⟩
      obtain ⟨e', rfl⟩ : ∃ k : Nat, e = k := ⟨e.toNat, by omega⟩
      obtain ⟨i', rfl⟩ : ∃ k : Nat, i = k := ⟨i.toNat, by have := hp.1; omega⟩
      obtain ⟨j', rfl⟩ : ∃ k : Nat, j = k := ⟨j.toNat, by have := hp.2.2.1; omega⟩
      exact ⟨_, _, spec_ok n' e' i' j' h hp, impl_ok n' e' i' j' h hp⟩
    · exact ⟨_, _, spec_rng n e i j h hp, impl_rng n e i j h hp⟩
  · exact ⟨_, _, spec_inv n e i j hn he0 h, impl_inv n e i j hn he0 h⟩

theorem walk (n e : Int) (_hn : (Lit.int .i64 n).wf = true) (he : (Lit.int .u32 e).wf = true) (i : Int) (_hi : (Lit.int .i64 i).wf = true) (j : Int) (_hj : (Lit.int .i64 j).wf = true) (w : World) :
    Calls Try.prog 8 #[.agg #[.int .i64 n, .int .u32 e], .int .i64 i, .int .i64 j] w fun r w' => r = .returned (.bool true) ∧ Below w.heap.size w w' := by
  have bd := bounds_u32 he
  obtain ⟨b, c, hs, hi⟩ := both n e i j (by omega) bd.1
  have hs := Lib.hid hs
  have hi := Lib.hid hi
  clear he _hn bd _hi _hj
  go_enter Try.func8, Try.ntmps8
  go_wp2_with (first
    | (go_at_call 37; refine (toGraph_any _ n e).mono ?_; rintro r w1 ⟨rfl, hb1⟩; obtain ⟨hc1, hz1⟩ := bkeep hb1 w.heap.size (by (try simp) <;> omega))
    | (go_at_call 39; refine (hs.out _).mono ?_; rintro r w2 ⟨rfl, hb2⟩; obtain ⟨hc2, hz2⟩ := bkeep hb2 w.heap.size (by (try simp) <;> omega))
    | (go_at_call 40; refine (hi.out _).mono ?_; rintro r w3 ⟨rfl, hb3⟩))
  go_ret
  exact ⟨rfl, by (repeat (first | exact Below.refl _ _ | assumption | refine bchain (by assumption) ?_ | apply Below.drew | apply below_drewN | (refine Below.alloc ?_ (by (try simp) <;> omega) _) | (refine Below.setCell ?_ (by (try simp) <;> omega) _)))⟩
end HasEdgeLaw
theorem HasEdgeLaw.lifted (os : Os) (started : os.Started) (H : Type) (enc : TypeId × Value → H) :
    ReturnsInHanded {} Try.checked os 8 .any (Rows.fnExactHasEdgeSpec.pre6 enc Try.prog Try.f8 Rows.fnExactHasEdgeRow.domain false)
      (Rows.fnExactHasEdgeSpec.post enc Try.prog Try.f8 false true false false) := by
  refine fr_lift (C := Try.checked) own started (by kernel_rfl) Try.func8 laid_out rfl (by kernel_rfl) (tb := 4) rfl Try.underlying4 ?hs
    (ChangeSpec.witness6 (enc := enc) (C := Try.checked) false ⟨#[], #[.agg #[.int .i64 0, .int .u32 0], .int .i64 0, .int .i64 0], []⟩ 8 (by kernel_rfl) (by kernel_rfl) (by kernel_rfl) (by kernel_rfl)) ?_
  case hs =>
    intro ds h
    match ds, h with
    | [d0, d1, d2], _ => rfl
  intro W base args ds p hval0 hA0 hlt hsz
  have hval : ∀ (j : Nat) t v, Try.f8.params[j]? = some t → args[j]? = some v → Value.okWide Try.prog W .any base t v := hval0
  have hA : DataW.TrodAll enc Try.prog W 0 (fun _ => true) true Try.f8.params.toList args.toList ds p := hA0
  rw [Try.params8] at hA hval
  obtain ⟨v0, vs0, d0, ds0, p0, q0, hargs, rfl, rfl, h0, r0⟩ := trodAll_cons hA
  obtain ⟨v1, vs1, d1, ds1, p1, q1, rfl, rfl, rfl, h1, r1⟩ := trodAll_cons r0
  obtain ⟨v2, vs2, d2, ds2, p2, q2, rfl, rfl, rfl, h2, r2⟩ := trodAll_cons r1
  obtain ⟨rfl, rfl, rfl⟩ := trodAll_nil r2
  obtain rfl : args = #[v0, v1, v2] := by cases args; simp_all
  obtain ⟨a0, b0, rfl, w0, u0⟩ := open_lgraph (hval 0 52 v0 rfl rfl) h0
  obtain ⟨a1, rfl, w1⟩ := open_i64 (hval 1 2 v1 rfl rfl) h1
  obtain ⟨a2, rfl, w2⟩ := open_i64 (hval 2 2 v2 rfl rfl) h2
  exact HasEdgeLaw.walk a0 b0 w0 u0 a1 w1 a2 w2 W

theorem hasEdge_holds : Rows.FnExactHasEdgeSaid :=
  OpenClaim.holds_of_wide 8 Try.f8 rfl rfl rfl rfl rfl rfl rfl ⟨rfl, rfl, rfl, rfl, rfl⟩ rfl rfl rfl rfl rfl (by kernel_rfl) Try.func8 (by kernel_rfl)
    (of_decide_eq_true (by kernel_rfl)) (by unfold Func.isWrapper; rw [if_neg (of_decide_eq_false (by kernel_rfl))]; exact ⟨rfl, rfl⟩)
    (fun os started H enc _ => HasEdgeLaw.lifted os started H enc)
#print axioms hasEdge_holds
end Go.Proofs.Ytoiepgdjknpjiaa
