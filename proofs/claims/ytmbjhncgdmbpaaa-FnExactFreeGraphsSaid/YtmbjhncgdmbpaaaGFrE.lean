/-
  FreeGraphs: the codes, and both.
-/
import Derived.Test.YtmbjhncgdmbpaaaGFr
namespace Go.Proofs.Ytmbjhncgdmbpaaa
open Go.RowKit Go.Shelf
set_option maxRecDepth 100000

section
variable (w : World)
theorem ifr_code (k c : Int) (hc : c ≠ 0) (a : Option Addr) (l cap : Nat) (hF : ∀ W, Below w.heap.size w W → Calls Try.prog 37 #[.slice a l cap] W fun r w' => r = .returned (.int .i64 c) ∧ Below W.heap.size W w') :
    Calls Try.prog 11 #[.int .i64 k, .slice a l cap] w (RetG w [] c) := by
  have hne : (c == 0) = false := by simpa using hc
  replace hF := Lib.hid hF
  clear hc
  go_enter Try.func11, Try.ntmps11
  go_wp2_with fail
  refine (hF.out _ (by (repeat (first | exact Below.refl _ _ | assumption | refine bchain (by assumption) ?_ | refine balloc ?_ _ | apply Below.drew | apply below_drewN | (refine Below.alloc ?_ (by (try simp) <;> omega) _) | (refine Below.setCell ?_ (by (try simp) <;> omega) _))))).mono ?_
  rintro r1 w1 ⟨rfl, hb1⟩
  go_wp2
  go_ret2
  exact ⟨⟨_, rfl, ownG_zero _ _ _⟩, by (repeat (first | exact Below.refl _ _ | assumption | refine bchain (by assumption) ?_ | refine balloc ?_ _ | apply Below.drew | apply below_drewN | (refine Below.alloc ?_ (by (try simp) <;> omega) _) | (refine Below.setCell ?_ (by (try simp) <;> omega) _)))⟩
theorem sfr_code (k c : Int) (hc : c ≠ 0) (v : Value) (hF : ∀ W, Below w.heap.size w W → Calls Try.prog 34 #[v] W fun r w' => r = .returned (.int .i64 c) ∧ Below W.heap.size W w') :
    Calls Try.prog 9 #[.int .i64 k, v] w (RetG w [] c) := by
  have hne : (c == 0) = false := by simpa using hc
  replace hF := Lib.hid hF
  clear hc
  go_enter Try.func9, Try.ntmps9
  go_wp2_with fail
  refine (hF.out _ (by (repeat (first | exact Below.refl _ _ | assumption | refine bchain (by assumption) ?_ | refine balloc ?_ _ | apply Below.drew | apply below_drewN | (refine Below.alloc ?_ (by (try simp) <;> omega) _) | (refine Below.setCell ?_ (by (try simp) <;> omega) _))))).mono ?_
  rintro r1 w1 ⟨rfl, hb1⟩
  go_wp2
  go_ret2
  exact ⟨⟨_, rfl, ownG_zero _ _ _⟩, by (repeat (first | exact Below.refl _ _ | assumption | refine bchain (by assumption) ?_ | refine balloc ?_ _ | apply Below.drew | apply below_drewN | (refine Below.alloc ?_ (by (try simp) <;> omega) _) | (refine Below.setCell ?_ (by (try simp) <;> omega) _)))⟩
theorem ifr_rng (k : Int) (hk : k < 0 ∨ 5 < k) (a : Option Addr) (l cap : Nat) (hF : ∀ W, Below w.heap.size w W → Calls Try.prog 37 #[.slice a l cap] W fun r w' => r = .returned (.int .i64 0) ∧ Below W.heap.size W w') :
    Calls Try.prog 11 #[.int .i64 k, .slice a l cap] w (RetG w [] 2) := by
  replace hF := Lib.hid hF
  have hA := Lib.hid (fun W => iag_rng W k hk)
  clear hk
  go_enter Try.func11, Try.ntmps11
  go_wp2_with (first
    | (go_at_call 37; refine (hF.out _ (by (repeat (first | exact Below.refl _ _ | assumption | refine bchain (by assumption) ?_ | refine balloc ?_ _ | apply Below.drew | apply below_drewN | (refine Below.alloc ?_ (by (try simp) <;> omega) _) | (refine Below.setCell ?_ (by (try simp) <;> omega) _))))).mono ?_; rintro r1 w1 ⟨rfl, hb1⟩)
    | (go_at_call 19; refine (hA.out _).mono ?_; rintro r4 w2 ⟨⟨u0, rfl, hU⟩, hb2⟩))
  go_ret2
  exact ⟨⟨_, rfl, ownG_zero _ _ _⟩, by (repeat (first | exact Below.refl _ _ | assumption | refine bchain (by assumption) ?_ | refine balloc ?_ _ | apply Below.drew | apply below_drewN | (refine Below.alloc ?_ (by (try simp) <;> omega) _) | (refine Below.setCell ?_ (by (try simp) <;> omega) _)))⟩
theorem sfr_rng (k : Int) (hk : k < 0 ∨ 5 < k) (v : Value) (hF : ∀ W, Below w.heap.size w W → Calls Try.prog 34 #[v] W fun r w' => r = .returned (.int .i64 0) ∧ Below W.heap.size W w') :
    Calls Try.prog 9 #[.int .i64 k, v] w (RetG w [] 2) := by
  replace hF := Lib.hid hF
  replace hk := Lib.hid hk
  go_enter Try.func9, Try.ntmps9
  go_wp2_with (first
    | (go_at_call 34; refine (hF.out _ (by (repeat (first | exact Below.refl _ _ | assumption | refine bchain (by assumption) ?_ | refine balloc ?_ _ | apply Below.drew | apply below_drewN | (refine Below.alloc ?_ (by (try simp) <;> omega) _) | (refine Below.setCell ?_ (by (try simp) <;> omega) _))))).mono ?_; rintro r1 w1 ⟨rfl, hb1⟩)
    | (go_at_call 35; refine (in_f _ k 0 5 hk.out).mono ?_; rintro r2 w2 ⟨rfl, rfl⟩))
  go_ret2
  exact ⟨⟨_, rfl, ownG_zero _ _ _⟩, by (repeat (first | exact Below.refl _ _ | assumption | refine bchain (by assumption) ?_ | refine balloc ?_ _ | apply Below.drew | apply below_drewN | (refine Below.alloc ?_ (by (try simp) <;> omega) _) | (refine Below.setCell ?_ (by (try simp) <;> omega) _)))⟩
theorem sfr_ok (n : Nat) (hn5 : n ≤ 5) (a : Option Addr) (cap : Nat) (gs : List (Int × Int)) (hm : gs.length ≤ 1048576) (hc : Lies w a gs) (hbd : Bd gs) (hV : AllV gs) (h6 : gs.length ≤ 6) :
    Calls Try.prog 9 #[.int .i64 n, .slice a gs.length cap] w (RetG w (fG n gs (gN n).length) 0) := by
  have hF := Lib.hid (fun W (hW : Below w.heap.size w W) => sf_ok W a cap gs hm (hc.below hW) hbd hV h6)
  have hR := Lib.hid (fun W (hW : Below w.heap.size w W) => sfr_any W n hn5 a cap gs hm (hc.below hW) hV)
  obtain ⟨l, hl⟩ : ∃ l, gs.length = l := ⟨_, rfl⟩
  rw [hl] at hF hR ⊢
  clear hl hm hbd hV h6 hc
  go_enter Try.func9, Try.ntmps9
  go_wp2_with (first
    | (go_at_call 34; refine (hF.out _ (by (repeat (first | exact Below.refl _ _ | assumption | refine bchain (by assumption) ?_ | refine balloc ?_ _ | apply Below.drew | apply below_drewN | (refine Below.alloc ?_ (by (try simp) <;> omega) _) | (refine Below.setCell ?_ (by (try simp) <;> omega) _))))).mono ?_; rintro r1 w1 ⟨rfl, hb1⟩)
    | (go_at_call 35; refine (in_t _ n 0 5 (by omega) (by omega)).mono ?_; rintro r2 w2 ⟨rfl, rfl⟩)
    | (go_at_call 36; refine (hR.out _ (by (repeat (first | exact Below.refl _ _ | assumption | refine bchain (by assumption) ?_ | refine balloc ?_ _ | apply Below.drew | apply below_drewN | (refine Below.alloc ?_ (by (try simp) <;> omega) _) | (refine Below.setCell ?_ (by (try simp) <;> omega) _))))).mono ?_; rintro r3 w3 ⟨⟨u, rfl, hO⟩, hb3⟩))
  have hz : w.heap.size ≤ w1.heap.size := hb1.size
  go_ret2
  exact ⟨⟨_, rfl, hO.mono hz⟩, by (repeat (first | exact Below.refl _ _ | assumption | refine bchain (by assumption) ?_ | refine balloc ?_ _ | apply Below.drew | apply below_drewN | (refine Below.alloc ?_ (by (try simp) <;> omega) _) | (refine Below.setCell ?_ (by (try simp) <;> omega) _)))⟩
end
theorem fr_both (k : Int) (gs : List (Int × Int)) (hm : gs.length ≤ 1048576) (hbd : Bd gs) : ∃ (L : List (Int × Int)) (c : Int), L.length ≤ 1024 ∧
    (∀ W v, SlG W v gs → Calls Try.prog 9 #[.int .i64 k, v] W (RetG W L c)) ∧
    (∀ W v, SlG W v gs → Calls Try.prog 11 #[.int .i64 k, v] W (RetG W L c)) := by
  obtain ⟨c, h0, _, _, hi, hs⟩ := forb_both gs hm hbd
  by_cases hc : c = 0
  · obtain ⟨hV, h6⟩ := h0 hc
    subst hc
    by_cases hk : k < 0 ∨ 5 < k
    · refine ⟨[], 2, by simp, fun W v hS => ?_, fun W v hS => ?_⟩
      · obtain ⟨a, cap, rfl, hl⟩ := hS.lies
        exact sfr_rng W k hk _ (fun W' hW => hs W' a cap (hl.below hW))
      · obtain ⟨a, cap, rfl, hl⟩ := hS.lies
        exact ifr_rng W k hk a _ cap (fun W' hW => hi W' a cap (hl.below hW))
    · obtain ⟨k, rfl⟩ : ∃ x : Nat, k = x := ⟨k.toNat, by omega⟩
      refine ⟨fG k gs (gN k).length, 0, Nat.le_trans (fG_len _ _ _) (gN_len k), fun W v hS => ?_, fun W v hS => ?_⟩
      · obtain ⟨a, cap, rfl, hl⟩ := hS.lies
        exact sfr_ok W k (by omega) a cap gs hm hl hbd hV h6
      · obtain ⟨a, cap, rfl, hl⟩ := hS.lies
        exact ifr_ok W k (by omega) a cap gs hm hl hbd hV h6
  · refine ⟨[], c, by simp, fun W v hS => ?_, fun W v hS => ?_⟩
    · obtain ⟨a, cap, rfl, hl⟩ := hS.lies
      exact sfr_code W k c hc _ (fun W' hW => hs W' a cap (hl.below hW))
    · obtain ⟨a, cap, rfl, hl⟩ := hS.lies
      exact ifr_code W k c hc a _ cap (fun W' hW => hi W' a cap (hl.below hW))
end Go.Proofs.Ytmbjhncgdmbpaaa
