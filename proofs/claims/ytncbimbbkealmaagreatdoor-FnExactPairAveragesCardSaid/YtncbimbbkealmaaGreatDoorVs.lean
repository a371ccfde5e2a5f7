/-
  SETS OF VERTICES: verticesOf; the iterator setsOf.
-/
import Derived.Test.YtncbimbbkealmaaGreatDoorTz
import Derived.Test.YtncbimbbkealmaaGreatDoorKOrder
import Derived.Test.YtncbimbbkealmaaGreatDoorKSeesC
import Derived.Test.YtncbimbbkealmaaGreatDoorBw
import Derived.BigQuiet
namespace Go.Proofs.YtncbimbbkealmaaGreatDoor
open Go.RowKit Go.Shelf
set_option maxRecDepth 100000
attribute [local go_sem] Oper.semAt_some
/-- numbers, as cells -/
def rowV (x : List Nat) : List Value := x.map fun i => .int .i64 ((i : Nat) : Int)
theorem rowV_snoc (x : List Nat) (v : Nat) : rowV (x ++ [v]) = rowV x ++ [.int .i64 (v : Int)] := by simp [rowV]
theorem rowV_see {w : World} {base : Nat} {v : Value} {n : Nat} {x : List Nat} (h : w.ownsRow base 2 1 v n (rowV x)) (hn : x.length = n) : SlI w v (zl x) := by
  have hm : maxLen ≤ 9223372036854775807 := by unfold maxLen; omega
  rcases h.2 with ⟨rfl, rfl⟩ | ⟨g, cap, cur, rfl, hg, hh, hnc, hc, hs, hx⟩
  · rw [List.length_eq_zero_iff] at hn
    subst hn
    exact ⟨none, 0, rfl, Nat.zero_le _, by omega, fun c => absurd rfl c⟩
  · refine ⟨some ⟨g, 0, none⟩, cap, by rw [zl_length, hn], by rw [zl_length]; omega, by omega, fun _ => ⟨g, 0, rfl, (Array.getElem?_eq_some_iff.1 hh).1, fun i hi => ?_⟩⟩
    rw [zl_length] at hi
    have h1 : (cur.toList.take (n * 1))[i]? = some (.int .i64 ((x[i]?.getD 0 : Nat) : Int)) := by
      rw [hx]
      simp [rowV, hi]
    rw [List.getElem?_take_of_lt (by omega)] at h1
    rw [Nat.zero_add, zl_get]
    simpa [World.cell?, hh] using h1
section
variable (w : World)
set_option maxHeartbeats 1000000 in
theorem verts_any (s : Nat) (hs : s < 32) (hT : TabZ w) :
    Calls Tryz.prog 114 #[.int .u32 s] w fun r w' => (∃ v, r = .returned v ∧ Hid (See (bitsL s) v w')) ∧ Below w.heap.size w w' := by
  obtain ⟨i0, hi, hz0, hz1, hz2⟩ := info_parts info_i64
  replace hi := Lib.hid hi
  replace hz0 := Lib.hid hz0
  replace hz1 := Lib.hid hz1
  replace hz2 := Lib.hid hz2
  replace hT := Lib.hid hT
  go_enter Tryz.func114, Tryz.ntmps114
  go_wp2
  go_loopw [0, 3] (fun c v wr => ∃ (k : Nat) (pre : List Nat), c = .int .u32 k ∧ k < 32 ∧ Hid (pre ++ bitsL k = bitsL s) ∧ Hid (wr.ownsRow w.heap.size 2 1 v pre.length (rowV pre)) ∧ Below w.heap.size w wr) (fun c _ _ => (intOf c).toNat)
  case atStart => exact ⟨s, [], rfl, hs, rfl, World.ownsRow_nil _ _ _ _, Below.refl _ _⟩
  case round =>
    obtain ⟨k, pre, rfl, hk, hpre, hown, hb⟩ := hrel
    by_cases h0 : k = 0
    · subst h0
      have hpre2 : pre = bitsL s := by have := hpre.out; rw [show bitsL 0 = [] from by decide, List.append_nil] at this; exact this
      have hsee := Lib.hid (rowV_see hown.out rfl)
      rw [hpre2] at hsee
      clear hpre hown hpre2
      go_wp2
      go_ret
      exact ⟨⟨_, rfl, hsee⟩, hb⟩
    · have hge := hb.size
      obtain ⟨hst, hlt, h5⟩ := bitsL_step k hk h0
      have hC := Lib.hid (fun W (h : Below wr.heap.size wr W) => tz_any W k hk h0 ((hT.out.below hb).below h))
      have hne : ((k : Int) == 0) = false := by simp; omega
      have hne2 : ((k : Int) != 0) = true := by simp; omega
      have hak := and_key k hk h0
      have hk1 : (1 : Int) ≤ (k : Int) := by omega
      have hpl : pre.length ≤ 5 := by
        have h1 := bitsL_len s hs
        rw [← hpre.out, List.length_append] at h1
        omega
      have hpre2 : Hid ((pre ++ [tzN k]) ++ bitsL (k &&& (k - 1)) = bitsL s) := by
        show _ = _
        rw [← hpre.out, hst, List.append_assoc]
        rfl
      obtain ⟨t, ht⟩ : ∃ t, tzN k = t := ⟨_, rfl⟩
      obtain ⟨k2, hk2⟩ : ∃ k2, k &&& (k - 1) = k2 := ⟨_, rfl⟩
      rw [ht] at hC h5 hpre2
      rw [hk2] at hpre2 hlt hak
      clear hst ht hk2 hpre h0
      have hpl2 : Hid (pre.length ≤ 5) := hpl
      obtain ⟨m, hm⟩ : ∃ m, pre.length = m := ⟨_, rfl⟩
      rw [hm] at hown hpl
      go_wp2_with (first
        | (go_at_call 115; refine (hC.out _ (Below.refl _ _)).mono ?_; rintro r3 w3 ⟨rfl, rfl⟩)
        | (at_builtin; refine wpList_append_own _ rfl _ _ 69 rfl w.heap.size 2 i0 (.int .i64 0) 1 8 Tryz.underlying69 hi.out hz0.out hz1.out hz2.out rfl (by decide) _ _ _ rfl (hown.out.alloc _) ⟨wr.heap.size, 0, none⟩ 1 1 [.int .i64 t] rfl rfl (fun q u hq => by cases q with | zero => simp at hq; subst hq; rw [show (⟨wr.heap.size, 0, none⟩ : Addr).add 0 = ⟨wr.heap.size, 0, none⟩ from rfl, World.cell?_alloc_new]; rfl | succ q => simp at hq) (fun u hu => by simp at hu; subst hu; rfl) (by unfold maxLen; omega) (by omega) (by simp; omega) ?_; intro v' w1 hown' hgrow _))
      have hown2 : Hid (w1.ownsRow w.heap.size 2 1 v' (pre ++ [t]).length (rowV (pre ++ [t]))) := by
        show w1.ownsRow w.heap.size 2 1 v' (pre ++ [t]).length (rowV (pre ++ [t]))
        rw [rowV_snoc, List.length_append, hm]
        exact hown'
      have hb2 : Below w.heap.size w w1 := (hb.alloc hge _).grown hgrow (by simp; omega) (fun k hk => (hown.out.lt k hk).1)
      clear hown' hgrow hown hm
      go_wp2
      go_roundw
      case rel => exact ⟨k2, pre ++ [t], by rfl, by omega, hpre2, hown2, hb2⟩
      case measure => simp [intOf]; omega
end
/-- the sets of k of n vertices -/
def isS (k s : Nat) : Bool := (bitsL s).length == k
def setsTo (k j : Nat) : List (List Nat) := ((List.range j).filter (isS k)).map bitsL
def setsL (n k : Nat) : List (List Nat) := setsTo k (2 ^ n)
theorem setsTo_t {k j : Nat} (h : isS k j = true) : setsTo k (j + 1) = setsTo k j ++ [bitsL j] := by simp [setsTo, List.range_succ, List.filter_append, h]
theorem setsTo_f {k j : Nat} (h : isS k j = false) : setsTo k (j + 1) = setsTo k j := by simp [setsTo, List.range_succ, List.filter_append, h]
theorem setsTo_pre {k N : Nat} : ∀ {j : Nat}, j < N → isS k j = true → ∃ t, setsTo k N = setsTo k j ++ bitsL j :: t := by
  induction N with
  | zero => intro j h; omega
  | succ N ih =>
    intro j h hs
    by_cases e : j = N
    · subst e
      exact ⟨[], setsTo_t hs⟩
    · obtain ⟨t, ht⟩ := ih (by omega) hs
      cases hb : isS k N
      · exact ⟨t, by rw [setsTo_f hb, ht]⟩
      · exact ⟨t ++ [bitsL N], by rw [setsTo_t hb, ht]; simp⟩
theorem two_pow_le {n : Nat} (h : n ≤ 5) : 2 ^ n ≤ 32 := Nat.pow_le_pow_right (n := 2) (by omega) h
theorem yield_bool {e : Ending} {P Q : Prop} (h : (e = .returned (.bool true) ∧ P) ∨ (e = .returned (.bool false) ∧ Q)) : ∃ b, e = .returned (.bool b) ∧ Hid ((b = true → P) ∧ (b = false → Q)) := by
  rcases h with ⟨rfl, h⟩ | ⟨rfl, h⟩
  · exact ⟨true, rfl, fun _ => h, fun c => by cases c⟩
  · exact ⟨false, rfl, (fun c => by cases c), fun _ => h⟩
/-- what the iterator reads of its caller's -/
structure SInv (Bn Bk n k : Nat) (W : World) : Prop where
  n : W.cell? ⟨Bn, 0, none⟩ = some (.int .i64 n)
  k : W.cell? ⟨Bk, 0, none⟩ = some (.int .i64 k)
  t : TabZ W
set_option maxHeartbeats 2000000 in
theorem sets_sees (n k : Nat) (hn : n ≤ 5) (nn Bn Bk : Nat) (w : World) :
    SeqSeesC Fence.wide nn Tryz.prog 112 #[.pointer (some ⟨Bn, 0, none⟩), .pointer (some ⟨Bk, 0, none⟩)] (SInv Bn Bk n k) See (setsL n k) w := fun l J Jx W hW hJ hJi hY h0 => by
  have hN := two_pow_le hn
  obtain ⟨N, hN2⟩ : ∃ N, 2 ^ n = N := ⟨_, rfl⟩
  have hLN : setsL n k = setsTo k N := by rw [setsL, hN2]
  rw [hN2] at hN
  have hp : (2 : Int) ^ n % 4294967296 = (N : Int) := by
    rw [show (2 : Int) ^ n = ((2 ^ n : Nat) : Int) by simp, hN2]
    omega
  have c1 := (hJi _ _ h0).n
  have hJu := Lib.hid (fun s A A' (h : J s A) (hb : Below W.heap.size A A') => hJ s A A' h hb)
  have hYs := Lib.hid (fun pre x rest v W1 (hL : setsTo k N = pre ++ x :: rest) (hj : J pre W1) (hs : See x v W1) m => anyDepth (m' := m) (hY pre x rest v W1 (hLN.trans hL) hj hs))
  rw [hLN]
  clear hN2 hLN hY hJ
  replace hJi := Lib.hid hJi
  replace h0 := Lib.hid h0
  refine callsIn_of_wp Tryz.func112 rfl trivial ?_ rfl
  simp only [Tryz.ntmps112, List.size_toArray, List.length_cons, List.length_nil, Nat.reduceAdd, Nat.reduceSub, Array.replicate_succ, Array.replicate_zero, List.push_toArray, List.append_toArray, List.nil_append, List.cons_append]
  gi_wp2
  rw [hp]
  gi_loopw [7] (fun c wr => ∃ j : Nat, j ≤ N ∧ c = .int .u32 j ∧ Hid (J (setsTo k j) wr) ∧ W.heap.size ≤ wr.heap.size) (fun c _ => N - (intOf c).toNat)
  case atStart => exact ⟨0, by omega, rfl, h0.out, Nat.le_refl _⟩
  case round =>
    obtain ⟨j, hj, rfl, hJj, hge⟩ := hrel
    by_cases hlt : j < N
    · have hI := hJi.out _ _ hJj.out
      obtain ⟨_, ck, hT⟩ := id hI
      have hlt2 : (j : Int) < (N : Int) := by omega
      have hO := Lib.hid (fun W => oc_any W j (by omega))
      have hV := Lib.hid (fun W (h : Below wr.heap.size wr W) => verts_any W j (by omega) (hT.below h))
      have hck := Lib.hid (fun W (h : Below wr.heap.size wr W) => (h.cell (p := ⟨Bk, 0, none⟩) (World.block_lt_of_cell? wr _ ck)).trans ck)
      have hJb := Lib.hid (fun W (h : Below wr.heap.size wr W) => hJu.out _ _ _ hJj.out (h.mono hge))
      have hj0 : (0 : Int) ≤ (j : Int) := by omega
      cases hb : isS k j
      · have hst := Lib.hid (setsTo_f hb)
        have heq : ((((bitsL j).length : Nat) : Int) == (k : Int)) = false := by
          unfold isS at hb
          simp at hb ⊢
          omega
        obtain ⟨q, hq⟩ : ∃ q, (bitsL j).length = q := ⟨_, rfl⟩
        rw [hq] at hO heq
        clear hb hq hT hJj hI
        have q0 := bw_cell (World.block_lt_of_cell? wr _ ck) ck
        gi_wp2
        refine wpIn_wide.2 ?_
        refine wp_region_below (by kernel_rfl) (by kernel_rfl) ?_
        iterate 1 (quiet_step (fail))
        refine wpQuiet_step (fun K hK => ?_)
        go_simp
        apply Exists.intro
        refine ⟨fun p => ?_, hK _ ?_⟩
        · exact bw_of (w := wr) (p := p) (hO.out p.W)
        clear hK K
        iterate 3 (quiet_step (fail))
        iterate 5 go_big_quiet_skip
        iterate 1 (quiet_step (fail))
        refine wpQuiet_nil ?_
        intro w3 hw'
        obtain ⟨⟨wx, hb_w3⟩, rfl⟩ := hw'
        have hJ3 := hJb.out w3 hb_w3
        gi_wp2
        go_roundw
        case rel => exact ⟨j + 1, by omega, by go_num, by rw [hst.out]; exact hJ3, by have := hb_w3.size; omega⟩
        case measure => simp [intOf]; omega
      · have hst := Lib.hid (setsTo_t hb)
        obtain ⟨rest, hL⟩ := setsTo_pre hlt hb
        have heq : ((((bitsL j).length : Nat) : Int) == (k : Int)) = true := by
          unfold isS at hb
          simp at hb ⊢
          omega
        obtain ⟨q, hq⟩ : ∃ q, (bitsL j).length = q := ⟨_, rfl⟩
        rw [hq] at hO heq
        have hR0 := Lib.hid (fun W v (h : Below wr.heap.size wr W) (hs : See (bitsL j) v W) => hYs.out _ _ _ v W hL (hJb.out W h) hs (nn - 1))
        clear hb hq hT hJj hI hL
        gi_wp2
        gi_region_with (first
          | (refine ⟨trivial, fun h => (by cases h), ?_⟩; gi_at_call 113; refine (callsIn_wide.2 (hO.out _)).mono ?_; rintro r3 w3 ⟨rfl, hb3⟩; have hx3 : Below wr.heap.size wr w3 := (by (repeat (first | exact Below.refl _ _ | assumption | refine bchain (by assumption) ?_ | refine balloc ?_ _ | apply Below.drew | apply below_drewN | (refine Below.alloc ?_ (by (try simp) <;> omega) _) | (refine Below.setCell ?_ (by (try simp) <;> omega) _)))); have d3 := hck.out w3 hx3)
          | (refine ⟨trivial, fun h => (by cases h), ?_⟩; gi_at_call 114; refine (callsIn_wide.2 (hV.out _ (by (repeat (first | exact Below.refl _ _ | assumption | refine bchain (by assumption) ?_ | refine balloc ?_ _ | apply Below.drew | apply below_drewN | (refine Below.alloc ?_ (by (try simp) <;> omega) _) | (refine Below.setCell ?_ (by (try simp) <;> omega) _)))))).mono ?_; rintro r4 w4 ⟨⟨v, rfl, hsee⟩, hb4⟩; have hx4 : Below wr.heap.size wr w4 := (by (repeat (first | exact Below.refl _ _ | assumption | refine bchain (by assumption) ?_ | refine balloc ?_ _ | apply Below.drew | apply below_drewN | (refine Below.alloc ?_ (by (try simp) <;> omega) _) | (refine Below.setCell ?_ (by (try simp) <;> omega) _)))); obtain ⟨fn, tmps, assign, body, hy, hR⟩ := hR0.out w4 v hx4 hsee.out; replace hR := Lib.hid hR)
          | (refine ⟨fun h => (by cases h), hR.out.mono ?_⟩; rintro e5 w5 h5; obtain ⟨b5, rfl, hbb⟩ := yield_bool h5))
        all_goals
          have hs4 := hx4.size
          cases b5
          · have hx5 := hbb.out.2 rfl
            clear hbb
            replace hx5 := Lib.hid hx5
            gi_wp2
            exact bodyPost_ret (results_none (h := rfl) _ _ _) rfl ⟨⟨_, rfl⟩, .inr ⟨_, hx5.out⟩⟩
          · obtain ⟨hJ5, hu5⟩ := hbb.out.1 rfl
            clear hbb
            have hs5 := hu5.size
            replace hJ5 := Lib.hid hJ5
            replace hu5 := Lib.hid hu5
            gi_wp2
            go_roundw
            case rel => exact ⟨j + 1, by omega, by go_num, by rw [hst.out]; exact hJ5.out, by omega⟩
            case measure => simp [intOf]; omega
    · obtain rfl : j = N := by omega
      have hdd := decide_eq_false (show ¬ ((j : Int) < (j : Int)) by omega)
      gi_wp2
      go_end0
      exact ⟨⟨_, rfl⟩, .inl hJj.out⟩
end Go.Proofs.YtncbimbbkealmaaGreatDoor
