/-
  AllTypes: the codes, and the model's contract.
-/
import Derived.Test.YtmbjhncgdmbpaabKAt
namespace Go.Proofs.Ytmbjhncgdmbpaab
open Go.RowKit Go.Shelf
set_option maxRecDepth 100000

section
variable (w : World)
theorem iat_code (k c : Int) (hc : c ≠ 0) (a : Option Addr) (l cap : Nat) (hF : ∀ W, Below w.heap.size w W → Calls Try.prog 34 #[.slice a l cap] W fun r w' => r = .returned (.int .i64 c) ∧ Below W.heap.size W w') :
    Calls Try.prog 11 #[.int .i64 k, .slice a l cap] w (RetG w [] c) := by
  have hne : (c == 0) = false := by simpa using hc
  replace hF := Lib.hid hF
  clear hc
  go_enter Try.func11, Try.ntmps11
  go_wp2_with fail
  refine (hF.out _ (by (repeat (first | exact Below.refl _ _ | assumption | refine bchain (by assumption) ?_ | refine balloc ?_ _ | apply Below.drew | apply below_drewN | (refine Below.alloc ?_ (by (try simp) <;> omega) _) | (refine Below.setCell ?_ (by (try simp) <;> omega) _))))).mono ?_
  rintro r1 w1 ⟨rfl, hb1⟩
  go_wp2
  go_ret2
  exact ⟨⟨_, rfl, ownG_zero _ _ _⟩, by (repeat (first | exact Below.refl _ _ | assumption | refine bchain (by assumption) ?_ | refine balloc ?_ _ | apply Below.drew | apply below_drewN | (refine Below.alloc ?_ (by (try simp) <;> omega) _) | (refine Below.setCell ?_ (by (try simp) <;> omega) _)))⟩
theorem sat_code (k c : Int) (hc : c ≠ 0) (v : Value) (hF : ∀ W, Below w.heap.size w W → Calls Try.prog 30 #[v] W fun r w' => r = .returned (.int .i64 c) ∧ Below W.heap.size W w') :
    Calls Try.prog 9 #[.int .i64 k, v] w (RetG w [] c) := by
  have hne : (c == 0) = false := by simpa using hc
  replace hF := Lib.hid hF
  clear hc
  go_enter Try.func9, Try.ntmps9
  go_wp2_with fail
  refine (hF.out _ (by (repeat (first | exact Below.refl _ _ | assumption | refine bchain (by assumption) ?_ | refine balloc ?_ _ | apply Below.drew | apply below_drewN | (refine Below.alloc ?_ (by (try simp) <;> omega) _) | (refine Below.setCell ?_ (by (try simp) <;> omega) _))))).mono ?_
  rintro r1 w1 ⟨rfl, hb1⟩
  go_wp2
  go_ret2
  exact ⟨⟨_, rfl, ownG_zero _ _ _⟩, by (repeat (first | exact Below.refl _ _ | assumption | refine bchain (by assumption) ?_ | refine balloc ?_ _ | apply Below.drew | apply below_drewN | (refine Below.alloc ?_ (by (try simp) <;> omega) _) | (refine Below.setCell ?_ (by (try simp) <;> omega) _)))⟩
theorem iat_rng (k : Int) (hk : k < 0 ∨ 3 < k) (a : Option Addr) (l cap : Nat) (hF : ∀ W, Below w.heap.size w W → Calls Try.prog 34 #[.slice a l cap] W fun r w' => r = .returned (.int .i64 0) ∧ Below W.heap.size W w') :
    Calls Try.prog 11 #[.int .i64 k, .slice a l cap] w (RetG w [] 2) := by
  replace hF := Lib.hid hF
  by_cases h : k < 0
  · have hd : decide (k < 0) = true := decide_eq_true h
    clear hk
    go_enter Try.func11, Try.ntmps11
    go_wp2_with fail
    refine (hF.out _ (by (repeat (first | exact Below.refl _ _ | assumption | refine bchain (by assumption) ?_ | refine balloc ?_ _ | apply Below.drew | apply below_drewN | (refine Below.alloc ?_ (by (try simp) <;> omega) _) | (refine Below.setCell ?_ (by (try simp) <;> omega) _))))).mono ?_
    rintro r1 w1 ⟨rfl, hb1⟩
    go_wp2
    go_ret2
    exact ⟨⟨_, rfl, ownG_zero _ _ _⟩, by (repeat (first | exact Below.refl _ _ | assumption | refine bchain (by assumption) ?_ | refine balloc ?_ _ | apply Below.drew | apply below_drewN | (refine Below.alloc ?_ (by (try simp) <;> omega) _) | (refine Below.setCell ?_ (by (try simp) <;> omega) _)))⟩
  · have hd : decide (k < 0) = false := decide_eq_false h
    have hd2 : decide (3 < k) = true := decide_eq_true (by omega)
    clear hk
    go_enter Try.func11, Try.ntmps11
    go_wp2_with fail
    refine (hF.out _ (by (repeat (first | exact Below.refl _ _ | assumption | refine bchain (by assumption) ?_ | refine balloc ?_ _ | apply Below.drew | apply below_drewN | (refine Below.alloc ?_ (by (try simp) <;> omega) _) | (refine Below.setCell ?_ (by (try simp) <;> omega) _))))).mono ?_
    rintro r1 w1 ⟨rfl, hb1⟩
    go_wp2
    go_ret2
    exact ⟨⟨_, rfl, ownG_zero _ _ _⟩, by (repeat (first | exact Below.refl _ _ | assumption | refine bchain (by assumption) ?_ | refine balloc ?_ _ | apply Below.drew | apply below_drewN | (refine Below.alloc ?_ (by (try simp) <;> omega) _) | (refine Below.setCell ?_ (by (try simp) <;> omega) _)))⟩
theorem sat_rng (k : Int) (hk : k < 0 ∨ 3 < k) (v : Value) (hF : ∀ W, Below w.heap.size w W → Calls Try.prog 30 #[v] W fun r w' => r = .returned (.int .i64 0) ∧ Below W.heap.size W w') :
    Calls Try.prog 9 #[.int .i64 k, v] w (RetG w [] 2) := by
  replace hF := Lib.hid hF
  replace hk := Lib.hid hk
  go_enter Try.func9, Try.ntmps9
  go_wp2_with (first
    | (go_at_call 30; refine (hF.out _ (by (repeat (first | exact Below.refl _ _ | assumption | refine bchain (by assumption) ?_ | refine balloc ?_ _ | apply Below.drew | apply below_drewN | (refine Below.alloc ?_ (by (try simp) <;> omega) _) | (refine Below.setCell ?_ (by (try simp) <;> omega) _))))).mono ?_; rintro r1 w1 ⟨rfl, hb1⟩)
    | (go_at_call 31; refine (in_f _ k 0 3 hk.out).mono ?_; rintro r2 w2 ⟨rfl, rfl⟩))
  go_ret2
  exact ⟨⟨_, rfl, ownG_zero _ _ _⟩, by (repeat (first | exact Below.refl _ _ | assumption | refine bchain (by assumption) ?_ | refine balloc ?_ _ | apply Below.drew | apply below_drewN | (refine Below.alloc ?_ (by (try simp) <;> omega) _) | (refine Below.setCell ?_ (by (try simp) <;> omega) _)))⟩
set_option maxHeartbeats 2000000 in
theorem sat_ok (k : Nat) (hk : k ≤ 3) (v : Value) (gs : List (Int × Int)) (hS : SlG w v gs) (hm : gs.length ≤ 1048576) (hbd : Bd gs) (hV : AllV gs) (h6 : gs.length ≤ 6) :
    Calls Try.prog 9 #[.int .i64 k, v] w (RetG w (freeG k gs (eMax k)) 0) := by
  obtain ⟨a, cap, rfl, hc⟩ := hS.lies
  have hF := Lib.hid (fun W (hW : Below w.heap.size w W) => sf_ok W a cap gs hm (hc.below hW) hbd hV h6)
  have hFr := Lib.hid (fun W (hW : Below w.heap.size w W) (e : Nat) (he : e < eMax k) => sfree_any W k e ⟨by omega, by omega, by omega, by simpa using he⟩ a cap gs hm (hc.below hW) hV)
  have hle : eMax k ≤ 8 := by
    have hc : k = 0 ∨ k = 1 ∨ k = 2 ∨ k = 3 := by omega
    rcases hc with rfl | rfl | rfl | rfl <;> decide
  have hsh := shl_pc k (by omega)
  have hsh2 : wrap64 ((2 : Int) ^ pc k) = (eMax k : Int) := by
    have hc : k = 0 ∨ k = 1 ∨ k = 2 ∨ k = 3 := by omega
    rcases hc with rfl | rfl | rfl | rfl <;> first | rfl | decide +kernel
  have hpc := pc_le k
  obtain ⟨M, hM⟩ : ∃ M, eMax k = M := ⟨_, rfl⟩
  rw [hM] at hsh hsh2 hFr hle ⊢
  obtain ⟨l, hl⟩ : ∃ l, gs.length = l := ⟨_, rfl⟩
  rw [hl] at hF hFr ⊢
  have hlen : ∀ m, (freeG k gs m).length ≤ m := freeG_len k gs
  replace hlen := Lib.hid hlen
  obtain ⟨i0, hi, hz0, hz1, hz2⟩ := info_parts info_graph
  replace hi := Lib.hid hi
  replace hz0 := Lib.hid hz0
  replace hz1 := Lib.hid hz1
  replace hz2 := Lib.hid hz2
  have hpk := Lib.hid (fun W => bits_any W k (by omega))
  have hft := Lib.hid (fun m => freeG_t (k := k) (gs := gs) (m := m))
  have hff := Lib.hid (fun m => freeG_f (k := k) (gs := gs) (m := m))
  obtain ⟨q, hq⟩ : ∃ q, pc k = q := ⟨_, rfl⟩
  rw [hq] at hsh hsh2 hpc hpk
  clear hq hM hl hm hbd hV h6 hc hS
  go_enter Try.func9, Try.ntmps9
  go_wp2_with (first
    | (go_at_call 30; refine (hF.out _ (by (repeat (first | exact Below.refl _ _ | assumption | refine bchain (by assumption) ?_ | refine balloc ?_ _ | apply Below.drew | apply below_drewN | (refine Below.alloc ?_ (by (try simp) <;> omega) _) | (refine Below.setCell ?_ (by (try simp) <;> omega) _))))).mono ?_; rintro r1 w1 ⟨rfl, hb1⟩)
    | (go_at_call 31; refine (in_t _ k 0 3 (by omega) (by omega)).mono ?_; rintro r2 w2 ⟨rfl, rfl⟩))
  have hown0 : Hid ((w1.alloc (.cells #[] 37)).ownsRow w1.heap.size 37 2 (.slice (some ⟨w1.heap.size, 0, none⟩) 0 0) (freeG k gs 0).length (gsC (freeG k gs 0))) := World.ownsRow_made w1 #[] 0 (Nat.le_refl _) (by omega) rfl
  have hB1 : Below w.heap.size w (w1.alloc (.cells #[] 37)) := by (repeat (first | exact Below.refl _ _ | assumption | refine bchain (by assumption) ?_ | refine balloc ?_ _ | apply Below.drew | apply below_drewN | (refine Below.alloc ?_ (by (try simp) <;> omega) _) | (refine Below.setCell ?_ (by (try simp) <;> omega) _)))
  have hz : w.heap.size ≤ w1.heap.size := hb1.size
  obtain ⟨b0, hb0⟩ : ∃ b0, w1.heap.size = b0 := ⟨_, rfl⟩
  have hb00 : b0 ≤ (w1.alloc (.cells #[] 37)).heap.size := by simp; omega
  rw [hb0] at hown0 hz ⊢
  replace hb0 := Lib.hid hb0
  clear hb1
  go_loopw [7, 8, 9] (fun u i _ wr => ∃ j : Nat, j ≤ M ∧ i = .int .i64 j ∧ Hid (wr.ownsRow b0 37 2 u (freeG k gs j).length (gsC (freeG k gs j))) ∧ b0 ≤ wr.heap.size ∧ Below w.heap.size w wr) (fun _ i _ _ => M - (intOf i).toNat)
  case atStart => exact ⟨0, by omega, rfl, hown0, hb00, hB1⟩
  case round =>
    clear hown0 hb00 hB1
    obtain ⟨j, hj, rfl, hown, hbz, hB⟩ := hrel
    have hsz := hB.size
    by_cases hlt : j < M
    · have hC := Lib.hid (fun W (hW : Below wr.heap.size wr W) => hFr.out W (hB.trans (hW.mono hsz)) j hlt)
      have hbd : ∀ W : World, (Instr.build 37 #[(0, .int .i64 (k : Int)), (1, .int .u32 (j : Int))]).run Try.prog W = .ok (.agg #[.int .i64 (k : Int), .int .u32 (j : Int)]) W := fun W => run_build W 37 _ _ (by kernel_rfl)
      have hjl := hlen.out j
      cases hbb : freeB k j gs
      · rw [hbb] at hC
        have hnx := Lib.hid (hff.out j hbb)
        clear hbb
        go_wp2_with (first
          | (go_at_call 32; refine (hpk.out _).mono ?_; rintro r3 w3 ⟨rfl, rfl⟩)
          | (go_at_call 33; refine (hC.out _ (by (repeat (first | exact Below.refl _ _ | assumption | refine bchain (by assumption) ?_ | refine balloc ?_ _ | apply Below.drew | apply below_drewN | (refine Below.alloc ?_ (by (try simp) <;> omega) _) | (refine Below.setCell ?_ (by (try simp) <;> omega) _))))).mono ?_; rintro r4 w4 ⟨rfl, hb4⟩))
        have hb34 : Below wr.heap.size wr w4 := by (repeat (first | exact Below.refl _ _ | assumption | refine bchain (by assumption) ?_ | refine balloc ?_ _ | apply Below.drew | apply below_drewN | (refine Below.alloc ?_ (by (try simp) <;> omega) _) | (refine Below.setCell ?_ (by (try simp) <;> omega) _)))
        have hown4 := hown.out.kept (row := none) (w' := w4) ⟨hb34.os, hb34.tape, hb34.output, hb34.size, fun k hk _ => hb34.block k hk⟩ (by cases (Value.ownBlock _) <;> simp)
        rw [← hnx.out] at hown4
        replace hown4 := Lib.hid hown4
        have hz4 := hb34.size
        clear hown
        go_roundw
        case rel => exact ⟨j + 1, by omega, by go_num, hown4, by omega, by (repeat (first | exact Below.refl _ _ | assumption | refine bchain (by assumption) ?_ | refine balloc ?_ _ | apply Below.drew | apply below_drewN | (refine Below.alloc ?_ (by (try simp) <;> omega) _) | (refine Below.setCell ?_ (by (try simp) <;> omega) _)))⟩
        case measure => simp [intOf]; omega
      · rw [hbb] at hC
        have hnx := Lib.hid (hft.out j hbb)
        clear hbb
        go_wp2_with (first
          | (go_at_call 32; refine (hpk.out _).mono ?_; rintro r3 w3 ⟨rfl, rfl⟩)
          | (go_at_call 33; refine (hC.out _ (by (repeat (first | exact Below.refl _ _ | assumption | refine bchain (by assumption) ?_ | refine balloc ?_ _ | apply Below.drew | apply below_drewN | (refine Below.alloc ?_ (by (try simp) <;> omega) _) | (refine Below.setCell ?_ (by (try simp) <;> omega) _))))).mono ?_; rintro r4 w4 ⟨rfl, hb4⟩; have hb34 : Below wr.heap.size wr w4 := (by (repeat (first | exact Below.refl _ _ | assumption | refine bchain (by assumption) ?_ | refine balloc ?_ _ | apply Below.drew | apply below_drewN | (refine Below.alloc ?_ (by (try simp) <;> omega) _) | (refine Below.setCell ?_ (by (try simp) <;> omega) _)))); have hownk := Lib.hid (hown.out.kept (row := none) (w' := w4) ⟨hb34.os, hb34.tape, hb34.output, hb34.size, fun k hk _ => hb34.block k hk⟩ (by cases (Value.ownBlock _) <;> simp)); have hz4 := hb34.size; have hc4 := (show w4.cell? ⟨wr.heap.size, 0, none⟩ = some (.int .i64 (k : Int)) from (hb4.cell (p := ⟨wr.heap.size, 0, none⟩) (by simp)).trans (by rw [cNew _ _ _ _ _ rfl]; rfl)); have hc5 := (show w4.cell? ⟨wr.heap.size, 1, none⟩ = some (.int .u32 (j : Int)) from (hb4.cell (p := ⟨wr.heap.size, 1, none⟩) (by simp)).trans (by rw [cNew _ _ _ _ _ rfl]; rfl)))
          | (at_builtin; refine wpList_append_own _ rfl _ _ 24 rfl b0 37 i0 (.agg #[.int .i64 0, .int .u32 0]) 2 16 Try.underlying24 hi.out hz0.out hz1.out hz2.out rfl (by decide) _ _ _ rfl (hownk.out.alloc _) ⟨w4.heap.size, 0, none⟩ 1 1 [.int .i64 k, .int .u32 j] rfl rfl (fun q u hq => by match q, hq with
              | 0, hq => simp at hq; subst hq; rw [show (⟨w4.heap.size, 0, none⟩ : Addr).add 0 = ⟨w4.heap.size, 0, none⟩ from rfl, World.cell?_alloc_new]; rfl
              | 1, hq => simp at hq; subst hq; rw [show (⟨w4.heap.size, 0, none⟩ : Addr).add 1 = ⟨w4.heap.size, 1, none⟩ from rfl, World.cell?_alloc_new]; rfl
              | q + 2, hq => simp at hq) (fun u hu => by simp at hu; rcases hu with rfl | rfl <;> rfl) (by unfold maxLen; omega) (by omega) (by simp; omega) ?_; intro v' w5 hown' hgrow _))
        have hB5 : Below w.heap.size w w5 := (balloc (hB.trans (hb34.mono hsz)) _).grown hgrow (by simp; omega) (fun k hk => by have := (hownk.out.lt k hk).1; omega)
        have hz5 : b0 ≤ w5.heap.size := by have := hgrow.size; simp at this; omega
        have hown5 : Hid (w5.ownsRow b0 37 2 v' (freeG k gs (j + 1)).length (gsC (freeG k gs (j + 1)))) := by
          show World.ownsRow _ _ _ _ _ _ _
          rw [hnx.out, gsC_snoc, List.length_append]
          exact hown'
        clear hown' hgrow hownk hown
        go_roundw
        case rel => exact ⟨j + 1, by omega, by go_num, hown5, hz5, hB5⟩
        case measure => simp [intOf]; omega
    · obtain rfl : j = M := by omega
      have hdd := decide_eq_false (show ¬ ((j : Int) < (j : Int)) by omega)
      have hO := Lib.hid (ownG_of_row (w0 := w) hown.out hz)
      clear hown
      go_wp2_with (go_at_call 32; refine (hpk.out _).mono ?_; rintro r3 w3 ⟨rfl, rfl⟩)
      go_ret2
      exact ⟨⟨_, rfl, hO.out⟩, hB⟩
end
theorem at_both (k : Int) (gs : List (Int × Int)) (hm : gs.length ≤ 1048576) (hbd : Bd gs) : ∃ (L : List (Int × Int)) (c : Int), L.length ≤ 1024 ∧
    (∀ W v, SlG W v gs → Calls Try.prog 9 #[.int .i64 k, v] W (RetG W L c)) ∧
    (∀ W v, SlG W v gs → Calls Try.prog 11 #[.int .i64 k, v] W (RetG W L c)) := by
  obtain ⟨c, h0, _, _, hi, hs⟩ := forb_both gs hm hbd
  by_cases hc : c = 0
  · obtain ⟨hV, h6⟩ := h0 hc
    subst hc
    by_cases hk : k < 0 ∨ 3 < k
    · refine ⟨[], 2, by simp, fun W v hS => ?_, fun W v hS => ?_⟩
      · obtain ⟨a, cap, rfl, hl⟩ := hS.lies
        exact sat_rng W k hk _ (fun W' hW => hs W' a cap (hl.below hW))
      · obtain ⟨a, cap, rfl, hl⟩ := hS.lies
        exact iat_rng W k hk a _ cap (fun W' hW => hi W' a cap (hl.below hW))
    · obtain ⟨k, rfl⟩ : ∃ x : Nat, k = x := ⟨k.toNat, by omega⟩
      refine ⟨freeG k gs (eMax k), 0, Nat.le_trans (freeG_len _ _ _) (eMax_le k), fun W v hS => sat_ok W k (by omega) v gs hS hm hbd hV h6, fun W v hS => iat_ok W k (by omega) v gs hS hm hbd hV h6⟩
  · refine ⟨[], c, by simp, fun W v hS => ?_, fun W v hS => ?_⟩
    · obtain ⟨a, cap, rfl, hl⟩ := hS.lies
      exact sat_code W k c hc _ (fun W' hW => hs W' a cap (hl.below hW))
    · obtain ⟨a, cap, rfl, hl⟩ := hS.lies
      exact iat_code W k c hc a _ cap (fun W' hW => hi W' a cap (hl.below hW))
end Go.Proofs.Ytmbjhncgdmbpaab
