/-
  The model's list of all sets: spec.l01Sets.
-/
import Derived.Test.YtmgolgmfnljkeaaDoorLl
import Derived.Test.YtmgolgmfnljkeaaDoorCc
namespace Go.Proofs.YtmgolgmfnljkeaaDoor
open Go.RowKit Go.Shelf
set_option maxRecDepth 100000
attribute [local go_sem] Oper.semAt_some
def bitsTo (s v : Nat) : List Nat := (List.range v).filter fun i => s.testBit i
theorem bitsTo_t {s v : Nat} (h : s.testBit v = true) : bitsTo s (v + 1) = bitsTo s v ++ [v] := by simp [bitsTo, List.range_succ, List.filter_append, h]
theorem bitsTo_f {s v : Nat} (h : s.testBit v = false) : bitsTo s (v + 1) = bitsTo s v := by simp [bitsTo, List.range_succ, List.filter_append, h]
theorem bitsTo_all : ∀ n, n ≤ 5 → ∀ s, s < 2 ^ n → bitsTo s n = bitsL s := by decide +kernel
theorem bitsTo_len (s v : Nat) : (bitsTo s v).length ≤ v := by
  have := List.length_filter_le (fun i => s.testBit i) (List.range v)
  rw [List.length_range] at this
  exact this
theorem bit_key : ∀ s : Nat, s < 32 → ∀ v : Nat, v < 5 → (bits .and .i64 ((s : Int) / 2 ^ v) 1 == 1) = s.testBit v := by decide +kernel
theorem shl_n : ∀ n : Nat, n ≤ 5 → wrap64 (2 ^ n) = ((2 ^ n : Nat) : Int) := by decide +kernel
theorem setsTo_le (k j : Nat) : (setsTo k j).length ≤ j := by
  unfold setsTo
  rw [List.length_map]
  have := List.length_filter_le (isS k) (List.range j)
  rw [List.length_range] at this
  exact this
theorem row_mono {w : World} {base base' size n : Nat} {e : TypeId} {v : Value} {xs : List Value} (h : w.ownsRow base e size v n xs) (hb : base' ≤ base) : w.ownsRow base' e size v n xs := by
  refine ⟨h.1, ?_⟩
  rcases h.2 with hn | ⟨g, cap, cur, rfl, a1, a2⟩
  · exact .inl hn
  · exact .inr ⟨g, cap, cur, rfl, Nat.le_trans hb a1, a2⟩
theorem row_form {w : World} {base size n : Nat} {e : TypeId} {v : Value} {xs : List Value} (h : w.ownsRow base e size v n xs) : ∃ a c, v = .slice a n c := by
  rcases h.2 with ⟨e0, e1⟩ | ⟨g, cap, cur, rfl, _⟩
  · exact ⟨none, 0, by rw [e0, e1]⟩
  · exact ⟨_, _, rfl⟩
section
variable (w : World)
set_option maxHeartbeats 4000000 in
theorem ssets_any (n k : Nat) (hn : n ≤ 5) :
    Calls Tryd.prog 41 #[.int .i64 k, .int .i64 n] w fun r w' => (∃ v, r = .returned v ∧ Hid (OwnLs w.heap.size w' v (setsL n k))) ∧ Below w.heap.size w w' := by
  obtain ⟨i0, hi, hz0, hz1, hz2⟩ := info_parts info_i64
  obtain ⟨i1, ji, jz0, jz1, jz2⟩ := info_parts ll_info
  replace hi := Lib.hid hi
  replace hz0 := Lib.hid hz0
  replace hz1 := Lib.hid hz1
  replace hz2 := Lib.hid hz2
  replace ji := Lib.hid ji
  replace jz0 := Lib.hid jz0
  replace jz1 := Lib.hid jz1
  replace jz2 := Lib.hid jz2
  have hN := two_pow_le hn
  have hp := shl_n n hn
  obtain ⟨N, hN2⟩ : ∃ N, 2 ^ n = N := ⟨_, rfl⟩
  have hLN : setsL n k = setsTo k N := by rw [setsL, hN2]
  have hall := Lib.hid (fun s (hs : s < N) => bitsTo_all n hn s (by rw [hN2]; exact hs))
  rw [hN2] at hN hp
  rw [hLN]
  clear hN2 hLN
  have hw0 : (n : Int) % 18446744073709551616 = (n : Int) := by omega
  go_enter Tryd.func41, Tryd.ntmps41
  go_wp2
  go_loopw [5, 6] (fun v c wr => ∃ s : Nat, s ≤ N ∧ c = .int .i64 s ∧ Hid (OwnLs w.heap.size wr v (setsTo k s)) ∧ Below w.heap.size w wr) (fun _ c _ => N - (intOf c).toNat)
  case atStart => exact ⟨0, by omega, rfl, OwnLs.made _ _ 0 (Nat.le_refl _) rfl, by (repeat (first | exact Below.refl _ _ | assumption | refine bchain (by assumption) ?_ | refine balloc ?_ _ | apply Below.drew | apply below_drewN | (refine Below.alloc ?_ (by (try simp) <;> omega) _) | (refine Below.setCell ?_ (by (try simp) <;> omega) _)))⟩
  case round =>
    obtain ⟨s, hs, rfl, hO, hb⟩ := hrel
    by_cases hlt : s < N
    · have hlt2 : (s : Int) < (N : Int) := by omega
      have hs0 : (0 : Int) ≤ (s : Int) := by omega
      have hge := hb.size
      rename World => V
      go_wp2
      rw [hp]
      have hst0 : Hid ((V.alloc (.cells #[] 2)).ownsRow V.heap.size 2 1 (.slice (some ⟨V.heap.size, 0, none⟩) 0 0) 0 []) := World.ownsRow_made V #[] 0 (Nat.le_refl _) (by omega) rfl
      have hbb0 : Below V.heap.size V (V.alloc (.cells #[] 2)) := (Below.refl _ _).alloc (Nat.le_refl _) _
      go_loopw [7, 8] (fun u c wr => ∃ v : Nat, v ≤ n ∧ c = .int .i64 v ∧ Hid (wr.ownsRow V.heap.size 2 1 u (bitsTo s v).length (rowN (bitsTo s v))) ∧ Below V.heap.size V wr) (fun _ c _ => n - (intOf c).toNat)
      case atStart => exact ⟨0, by omega, rfl, hst0.out, hbb0⟩
      case round =>
        clear hst0 hbb0
        obtain ⟨v, hv, rfl, hown, hb2⟩ := hrel
        by_cases hlv : v < n
        · have hlv2 : (v : Int) < (n : Int) := by omega
          have hv0 : (0 : Int) ≤ (v : Int) := by omega
          have hwv : (v : Int) % 18446744073709551616 = (v : Int) := by omega
          have hbit := bit_key s (by omega) v (by omega)
          have hge2 := hb2.size
          have hbl := bitsTo_len s v
          cases hc : s.testBit v
          · rw [hc] at hbit
            have hst := Lib.hid (bitsTo_f hc)
            clear hc
            go_wp2
            go_roundw
            case rel => exact ⟨v + 1, by omega, by go_num, by rw [hst.out]; exact hown, hb2⟩
            case measure => simp [intOf]; omega
          · rw [hc] at hbit
            have hst := Lib.hid (bitsTo_t hc)
            clear hc
            obtain ⟨m, hm⟩ : ∃ m, (bitsTo s v).length = m := ⟨_, rfl⟩
            rw [hm] at hown hbl
            go_wp2_with (at_builtin; refine wpList_append_own _ rfl _ _ 64 rfl V.heap.size 2 i0 (.int .i64 0) 1 8 Tryd.underlying64 hi.out hz0.out hz1.out hz2.out rfl (by decide) _ _ _ rfl (hown.out.alloc _) ⟨wr.heap.size, 0, none⟩ 1 1 [.int .i64 v] rfl rfl (fun q u hq => by cases q with | zero => simp at hq; subst hq; rw [show (⟨wr.heap.size, 0, none⟩ : Addr).add 0 = ⟨wr.heap.size, 0, none⟩ from rfl, World.cell?_alloc_new]; rfl | succ q => simp at hq) (fun u hu => by simp at hu; subst hu; rfl) (by unfold maxLen; omega) (by omega) (by simp; omega) ?_; intro v' w1 hown' hgrow _)
            have hown2 : Hid (w1.ownsRow V.heap.size 2 1 v' (bitsTo s (v + 1)).length (rowN (bitsTo s (v + 1)))) := by
              show w1.ownsRow _ _ _ _ _ _
              rw [hst.out, rowN_snoc, List.length_append, hm]
              exact hown'
            have hb3 : Below V.heap.size V w1 := (hb2.alloc hge2 _).grown hgrow (by simp; omega) (fun k hk => (hown.out.lt k hk).1)
            clear hown' hgrow hown hm
            go_wp2
            go_roundw
            case rel => exact ⟨v + 1, by omega, by go_num, hown2, hb3⟩
            case measure => simp [intOf]; omega
        · obtain rfl : v = n := by omega
          have hdd := decide_eq_false (show ¬ ((v : Int) < (v : Int)) by omega)
          have hal := hall.out s hlt
          rw [hal] at hown
          clear hal
          have hO2 := Lib.hid (hO.out.below hb2)
          have hge2 := hb2.size
          have hbb := Lib.hid (hb.trans (hb2.mono hge))
          have hlen := bitsL_len s (by omega)
          have hsl := setsTo_le k s
          obtain ⟨q, hq⟩ : ∃ q, (bitsL s).length = q := ⟨_, rfl⟩
          rw [hq] at hlen
          cases hc : isS k s
          · have hst := Lib.hid (setsTo_f hc)
            have heq : ((q : Int) == (k : Int)) = false := by
              unfold isS at hc
              rw [hq] at hc
              simp at hc ⊢
              omega
            obtain ⟨ua, uc, hue⟩ : ∃ ua uc, u7 = .slice ua q uc := row_form (by rw [← hq]; exact hown.out)
            subst hue
            clear hc hown hO hb2
            go_wp2
            go_roundw
            case rel => exact ⟨s + 1, by omega, by go_num, by rw [hst.out]; exact hO2.out, hbb.out⟩
            case measure => simp [intOf]; omega
          · have hst := Lib.hid (setsTo_t hc)
            have heq : ((q : Int) == (k : Int)) = true := by
              unfold isS at hc
              rw [hq] at hc
              simp at hc ⊢
              omega
            obtain ⟨ua, uc, hue⟩ : ∃ ua uc, u7 = .slice ua q uc := row_form (by rw [← hq]; exact hown.out)
            subst hue
            obtain ⟨us, z1, z2, z3⟩ := hO2.out
            have hge3 := hbb.out.size
            have hown5 := Lib.hid (row_mono hown.out hge)
            rw [hq] at hown5
            replace z1 := Lib.hid z1
            replace z2 := Lib.hid z2
            replace z3 := Lib.hid z3
            obtain ⟨m, hm⟩ : ∃ m, (setsTo k s).length = m := ⟨_, rfl⟩
            rw [hm] at hsl z2
            clear hc hown hO hb2
            go_wp2_with (at_builtin; refine wpList_append_own _ rfl _ _ 61 rfl w.heap.size 64 i1 (.slice none 0 0) 1 24 Tryd.underlying61 ji.out jz0.out jz1.out jz2.out rfl (by decide) _ _ _ rfl (z2.out.alloc _) ⟨wr.heap.size, 0, none⟩ 1 1 [.slice ua q uc] rfl rfl (fun q u hq => by cases q with | zero => simp at hq; subst hq; rw [show (⟨wr.heap.size, 0, none⟩ : Addr).add 0 = ⟨wr.heap.size, 0, none⟩ from rfl, World.cell?_alloc_new]; rfl | succ q => simp at hq) (fun u hu => by simp at hu; subst hu; rfl) (by unfold maxLen; omega) (by omega) (by simp; omega) ?_; intro v' w1 hown' hgrow _)
            have hO6 : Hid (OwnLs w.heap.size w1 v' (setsTo k (s + 1))) := by
              rw [hst.out]
              refine OwnLs.push (W := wr.alloc (.cells #[.slice ua q uc] 64)) (us := us) z1.out (by rw [hm]; exact z2.out.alloc _) (fun i hi => ?_) (by rw [hq]; exact hown5.out.alloc _) (by rw [hm]; exact hown') hgrow
              obtain ⟨y, e1, e2⟩ := z3.out i hi
              exact ⟨y, e1, e2.alloc _⟩
            have hb6 : Below w.heap.size w w1 := (hbb.out.alloc hge3 _).grown hgrow (by simp; omega) (fun k hk => (z2.out.lt k hk).1)
            clear hown' hgrow z1 z2 z3 hm hown5
            go_wp2
            go_roundw
            case rel => exact ⟨s + 1, by omega, by go_num, hO6, hb6⟩
            case measure => simp [intOf]; omega
    · obtain rfl : s = N := by omega
      have hdd := decide_eq_false (show ¬ ((s : Int) < (s : Int)) by omega)
      go_wp2
      go_ret
      exact ⟨⟨_, rfl, hO⟩, hb⟩
end
end Go.Proofs.YtmgolgmfnljkeaaDoor
