/-
  THE TEXT OF A MATRIX: the program's contract.
-/
import Derived.Test.YtiedombphcdpbaaDoorMx
import Derived.Test.YtiedombphcdpbaaDoorBd
import Derived.Test.YtiedombphcdpbaaDoorGtI
namespace Go.Proofs.YtiedombphcdpbaaDoor
open Go.RowKit
set_option maxRecDepth 100000
attribute [local go_sem] Oper.semAt_some
/-- a box that is no bytes keeps its cells while a builder is written -/
theorem others_cell {W W' : World} {b B : Nat} {cs : Array Value} {t : TypeId} {fz : Nat × Nat} (hk : Lib.OthersKept 5 (some b) W W') (h : W.heap[B]? = some (.cells cs t fz)) (hB : B ≠ b) (ht : t ≠ 5) (o : Nat) : W'.cell? ⟨B, o, none⟩ = W.cell? ⟨B, o, none⟩ :=
  World.cell?_of_block (a := ⟨B, o, none⟩) ((hk _ _ h (fun c => hB (Option.some.inj c)) (fun _ _ e => ht (Obj.cells.inj e).2.1)).trans h.symm)
section
variable (w : World)
theorem imx_f (v : Value) (m : List (List (Int × Int))) (hS : Fr.SlM w v m) (hm : m.length ≤ 1048576) (hr : ∀ i, i < m.length → (Fr.rAt m i).length ≤ 1048576) (h : ¬ Fr.VM m) :
    Calls Tryd.prog 10 #[v] w fun r w' => r = .returned (.string ⟨#[]⟩) ∧ Below w.heap.size w w' := by
  have hV := Lib.hid (Fr.ivm_any w v m hS hm hr false (fun c => absurd c h) (fun _ => rfl))
  clear hS h
  go_enter Tryd.func10, Tryd.ntmps10
  go_wp2_with fail
  refine hV.out.mono ?_
  rintro r1 w1 ⟨rfl, hb1⟩
  go_wp2
  go_ret
  exact ⟨rfl, by (repeat (first | exact Below.refl _ _ | assumption | refine bchain (by assumption) ?_ | refine balloc ?_ _ | apply Below.drew | apply below_drewN | (refine Below.alloc ?_ (by (try simp) <;> omega) _) | (refine Below.setCell ?_ (by (try simp) <;> omega) _)))⟩
set_option maxHeartbeats 2000000 in
theorem imx_t (v : Value) (m : List (List (Int × Int))) (hS : Fr.SlM w v m) (h : Fr.VM m) (hT : TabP w) :
    Calls Tryd.prog 10 #[v] w fun r w' => r = .returned (.string (tx (matT m m.length))) ∧ Below w.heap.size w w' := by
  have h8 := h.1
  have hsq := Lib.hid (fun i (hi : i < m.length) => (h.2.1 i hi).1)
  have hV := Lib.hid (Fr.ivm_any w v m hS (by omega) (fun i hi => by rw [hsq.out i hi]; omega) true (fun _ => rfl) (fun c => absurd h c))
  obtain ⟨a, cap, rfl, hR⟩ := hS.rows
  replace hR := Lib.hid hR
  have hF := Lib.hid (fun W (hb : Below w.heap.size w W) p (q : Nat) (hv : Fr.VF p q) => ift_t W p q (hT.below hb) hv)
  obtain ⟨l, hl⟩ : ∃ l, m.length = l := ⟨_, rfl⟩
  have hE := Lib.hid (fun i j (hi : i < l) (hj : j < l) => show ∃ (p : Int) (q : Nat), Fr.gAt (Fr.rAt m i) j = (p, (q : Int)) ∧ Fr.VF p q from vm_nat h (by omega) (by omega))
  have hLn := Lib.hid (fun i j (hi : i < l) (hj : j ≤ l) => show (matT m i ++ rowT m i j).length ≤ 5000 by
    have l1 := matT_len h i (by omega)
    have l2 := rowT_len h (show i < m.length by omega) j (by omega)
    rw [List.length_append]
    omega)
  have hX := Lib.hid (fun i j p (q : Nat) (e : Fr.gAt (Fr.rAt m i) j = (p, (q : Int))) => show matT m i ++ rowT m i (j + 1) = (matT m i ++ rowT m i j ++ (if 0 < j then [32] else [])) ++ frL p q by rw [rowT, eT, e]; simp)
  have hY := Lib.hid (fun i => show matT m (i + 1) = (matT m i ++ rowT m i l) ++ [10] by rw [matT, List.append_assoc, hl])
  simp only [hl] at h8 hsq hV hR ⊢
  replace hl := Lib.hid hl
  clear hS h hT
  have e32 : ({ data := #[32] } : ByteArray) = tx [32] := rfl
  have e10 : ({ data := #[10] } : ByteArray) = tx [10] := rfl
  go_enter Tryd.func10, Tryd.ntmps10
  rw [e32, e10]
  obtain ⟨t32, ht32⟩ : ∃ t, tx [32] = t := ⟨_, rfl⟩
  obtain ⟨t10, ht10⟩ : ∃ t, tx [10] = t := ⟨_, rfl⟩
  rw [ht32, ht10]
  replace ht32 := Lib.hid ht32
  replace ht10 := Lib.hid ht10
  go_wp2_with fail
  refine hV.out.mono ?_
  rintro r1 w1 ⟨rfl, hb1⟩
  have hbd0 := BdAt.fresh w1
  have hzb := hb1.size
  obtain ⟨b, hb⟩ : ∃ b, w1.heap.size = b := ⟨_, rfl⟩
  have hB1 : Below w.heap.size w (w1.alloc (.cells #[.pointer none, .slice none 0 0] 75)) := balloc hb1 _
  rw [hb] at hbd0 hzb
  replace hb := Lib.hid hb
  go_wp2_with fail
  rw [hb.out]
  go_loopw [13] (fun i wr => ∃ k : Nat, k ≤ l ∧ i = .int .i64 k ∧ BdAt wr b (matT m k) ∧ Below w.heap.size w wr) (fun i _ => l - (intOf i).toNat)
  case atStart => exact ⟨0, by omega, rfl, hbd0, hB1⟩
  case round =>
    obtain ⟨k, hk, rfl, hbd, hB⟩ := hrel
    by_cases hlt : k < l
    · have hd := decide_eq_true (show ((k : Int) < (l : Int)) by omega)
      obtain ⟨B, off, rfl, hBz, u, hu, hSu⟩ := hR.out k (by have := hl.out; omega)
      have hlk : (Fr.rAt m k).length = l := hsq.out k hlt
      obtain ⟨a2, c2, rfl, hu1, hu2, hu3⟩ := hSu
      obtain ⟨b2, off2, rfl, hb2, hg⟩ := hu3 (by intro c; rw [c] at hlk; simp at hlk; omega)
      rw [hlk] at hu1 hu
      have hg2 := Lib.hid (fun i (hi : i < l) => hg i (by rw [hlk]; exact hi))
      have hkn0 : (0 : Int) ≤ (k : Int) := by omega
      have hu' := (hB.cell (p := ⟨B, off + k, none⟩) hBz).trans hu
      clear hg hu3
      replace hu := Lib.hid hu
      replace hlk := Lib.hid hlk
      go_wp2
      go_loopw [19] (fun i wr2 => ∃ j : Nat, j ≤ l ∧ i = .int .i64 j ∧ BdAt wr2 b (matT m k ++ rowT m k j) ∧ Below w.heap.size w wr2) (fun i _ => l - (intOf i).toNat)
      case atStart => exact ⟨0, by omega, rfl, by rw [show matT m k ++ rowT m k 0 = matT m k by simp [rowT]]; exact hbd, hB⟩
      case round =>
        obtain ⟨j, hj, rfl, hbd2, hB2⟩ := hrel
        by_cases hjl : j < l
        · have hdj := decide_eq_true (show ((j : Int) < (l : Int)) by omega)
          obtain ⟨p, q, e, hv⟩ := hE.out k j hlt hjl
          have hgj := hg2.out j hjl
          rw [e] at hgj
          have e0 := (hB2.cell (p := ⟨b2, off2 + j * 2, none⟩) hb2).trans hgj.1
          have e1 := (hB2.cell (p := ⟨b2, off2 + j * 2 + 1, none⟩) hb2).trans hgj.2
          have hF2 := Lib.hid (fun W h => hF.out W h p q hv)
          have hx := hX.out k j p q e
          have hln := hLn.out k j hlt hj
          have hl3 := frL_len hv
          rw [fText_frL] at hF2
          obtain ⟨tf, htf⟩ : ∃ t, tx (frL p q) = t := ⟨_, rfl⟩
          rw [htf] at hF2
          replace htf := Lib.hid htf
          have hj0 : (0 : Int) ≤ (j : Int) := by omega
          have hbx : (wr.alloc (.cells #[.int .i64 p, .int .i64 (q : Int)] 70)).heap[wr.heap.size]? = some (.cells #[.int .i64 p, .int .i64 (q : Int)] 70) := World.alloc_heap_new _ _
          have hbd3 := hbd2.alloc (.cells #[.int .i64 p, .int .i64 (q : Int)] 70)
          have hB3 : Below w.heap.size w (wr.alloc (.cells #[.int .i64 p, .int .i64 (q : Int)] 70)) := balloc hB2 _
          have hbw := hbd2.lt
          replace hbd2 := Lib.hid hbd2
          clear hgj e hv
          obtain ⟨A, hA⟩ : ∃ A, wr.heap.size = A := ⟨_, rfl⟩
          obtain ⟨W, hW⟩ : ∃ W, wr.alloc (.cells #[.int .i64 p, .int .i64 (q : Int)] 70) = W := ⟨_, rfl⟩
          rw [hA, hW] at hbx
          rw [hW] at hbd3 hB3
          rw [hA] at hbw
          replace hA := Lib.hid hA
          replace hW := Lib.hid hW
          have a0 : W.cell? ⟨A, 0, none⟩ = some (.int .i64 p) := by rw [Lib.cell_of_heap hbx]; rfl
          have a1 : W.cell? ⟨A, 1, none⟩ = some (.int .i64 (q : Int)) := by rw [Lib.cell_of_heap hbx]; rfl
          by_cases hj1 : 0 < j
          · have d0 := decide_eq_true (show ((0 : Int) < (j : Int)) by omega)
            rw [if_pos hj1] at hx
            have hW1 := Lib.hid (bd_put W b _ [32] hbd3 (by simp only [List.length_cons, List.length_nil]; omega))
            rw [ht32.out] at hW1
            replace hbd3 := Lib.hid hbd3
            go_wp2_with fail
            rw [hW.out, hA.out]
            refine hW1.out.mono ?_
            rintro r2 w2 ⟨rfl, hbd4, hb4, hk4⟩
            have c0 := (others_cell hk4 hbx (by omega) (by decide) 0).trans a0
            have c1 := (others_cell hk4 hbx (by omega) (by decide) 1).trans a1
            have hB4 := hB3.trans (hb4.mono hzb)
            clear a0 a1 hbx hk4
            go_wp2_with fail
            refine (hF2.out _ hB4).mono ?_
            rintro r3 w3 ⟨rfl, hb5⟩
            have hbd5 := hbd4.below hb5
            have hB5 := bchain hb5 hB4
            have hW2 := Lib.hid (bd_put w3 b _ (frL p q) hbd5 (by simp only [List.length_append, List.length_cons, List.length_nil] at hln ⊢; omega))
            rw [htf.out] at hW2
            replace hbd5 := Lib.hid hbd5
            go_wp2_with fail
            refine hW2.out.mono ?_
            rintro r4 w4 ⟨rfl, hbd6, hb6, _⟩
            have hB6 := hB5.trans (hb6.mono hzb)
            replace hbd6 := Lib.hid hbd6
            go_wp2
            go_roundw
            case rel => exact ⟨j + 1, by omega, by go_num, by rw [hx]; exact hbd6.out, hB6⟩
            case measure => simp [intOf]; omega
          · have d0 := decide_eq_false (show ¬ ((0 : Int) < (j : Int)) by omega)
            rw [if_neg hj1] at hx
            go_wp2_with fail
            rw [hW.out]
            refine (hF2.out _ hB3).mono ?_
            rintro r3 w3 ⟨rfl, hb5⟩
            have hbd5 := hbd3.below hb5
            have hB5 := bchain hb5 hB3
            have hW2 := Lib.hid (bd_put w3 b _ (frL p q) hbd5 (by simp only [List.length_append] at hln ⊢; omega))
            rw [htf.out] at hW2
            replace hbd5 := Lib.hid hbd5
            go_wp2_with fail
            refine hW2.out.mono ?_
            rintro r4 w4 ⟨rfl, hbd6, hb6, _⟩
            have hB6 := hB5.trans (hb6.mono hzb)
            replace hbd6 := Lib.hid hbd6
            go_wp2
            go_roundw
            case rel => exact ⟨j + 1, by omega, by go_num, by rw [hx]; rw [List.append_nil]; exact hbd6.out, hB6⟩
            case measure => simp [intOf]; omega
        · have hd2 := decide_eq_false (show ¬ ((j : Int) < (l : Int)) by omega)
          obtain rfl : j = l := by omega
          have hln := hLn.out k j hlt (Nat.le_refl _)
          have hW1 := Lib.hid (bd_put wr b _ [10] hbd2 (by simp only [List.length_cons, List.length_nil]; omega))
          rw [ht10.out] at hW1
          replace hbd2 := Lib.hid hbd2
          go_wp2_with fail
          refine hW1.out.mono ?_
          rintro r2 w2 ⟨rfl, hbd4, hb4, _⟩
          have hB4 := hB2.trans (hb4.mono hzb)
          replace hbd4 := Lib.hid hbd4
          go_wp2
          go_roundw
          case rel => exact ⟨k + 1, by omega, by go_num, by rw [hY.out k]; exact hbd4.out, hB4⟩
          case measure => simp [intOf]; omega
    · have hd := decide_eq_false (show ¬ ((k : Int) < (l : Int)) by omega)
      obtain rfl : k = l := by omega
      have hS := Lib.hid (bd_string wr b _ hbd)
      obtain ⟨t, ht⟩ : ∃ t, tx (matT m k) = t := ⟨_, rfl⟩
      rw [ht] at hS
      replace hbd := Lib.hid hbd
      go_wp2_with fail
      refine hS.out.mono ?_
      rintro r2 w2 ⟨rfl, hb4, _⟩
      have hB4 := hB.trans (hb4.mono hzb)
      go_wp2
      go_ret
      exact ⟨congrArg (fun t => Ending.returned (Value.string t)) ht.symm, hB4⟩
end
end Go.Proofs.YtiedombphcdpbaaDoor
