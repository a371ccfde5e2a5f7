/-
  TEXTS SPLIT INTO WORDS: the model's l01Split; l02Whole.
-/
import Derived.Test.YtdbidlnkaplekaaDoorNm
import Derived.OwnWalk
import Derived.RangeFuncBox
import Derived.Lib.FrozenHead
import Derived.Laws.Strings2
namespace Go.Proofs.YtdbidlnkaplekaaDoor
open Go.RowKit
set_option maxRecDepth 100000
attribute [local go_sem] Oper.semAt_some
attribute [-go_sem] run_index_string run_slice_string run_slice_string_l
theorem info_str : (Tryd.prog.info? 9).map (fun i => (i.zero, i.size, i.bytes)) = some (some (.string ⟨#[]⟩), 1, 16) := by kernel_rfl
/-- a list of words that lies in a block of its own -/
def WordsAt (w0 w : World) (v : Value) (ws : List (List UInt8)) : Prop :=
  ∃ B cap, v = .slice (some ⟨B, 0, none⟩) ws.length cap ∧ w0.heap.size ≤ B ∧ B < w.heap.size ∧ ∀ i (h : i < ws.length), w.cell? ⟨B, i, none⟩ = some (.string (tx ws[i]))
theorem WordsAt.below {w0 w w' : World} {v : Value} {ws : List (List UInt8)} (h : WordsAt w0 w v ws) (hb : Below w.heap.size w w') : WordsAt w0 w' v ws := by
  obtain ⟨B, cap, e, h1, h2, h3⟩ := h
  exact ⟨B, cap, e, h1, Nat.lt_of_lt_of_le h2 hb.size, fun i hi => (hb.cell (p := ⟨B, i, none⟩) h2).trans (h3 i hi)⟩
theorem words_of_row {w0 w : World} {v : Value} {ws : List (List UInt8)} (h : w.ownsRow w0.heap.size 9 1 v ws.length (ws.map fun a => .string (tx a))) (hne : ws ≠ []) : WordsAt w0 w v ws := by
  obtain ⟨k, hk⟩ : ∃ k, ws.length = k + 1 := ⟨ws.length - 1, by have := List.length_pos_iff.2 hne; omega⟩
  have h' := h
  rw [hk] at h'
  obtain ⟨g, cap, rfl⟩ := ownsRow_succ h'
  obtain ⟨h1, h2⟩ := h.lt g rfl
  refine ⟨g, cap, by rw [hk], h1, h2, fun i hi => ?_⟩
  have := (World.ownsRowF_of h).cells (g := g) rfl i (.string (tx ws[i])) (by rw [List.getElem?_map, List.getElem?_eq_getElem hi]; rfl)
  have e : (⟨g, 0, none⟩ : Addr).add i = ⟨g, i, none⟩ := by unfold Addr.add; split <;> simp_all
  rwa [e] at this
def bil : List UInt8 := [49, 48, 48, 48, 48, 48, 48, 48, 48, 48]
theorem dec_bil : Lib.decDigits 1000000000 = bil := by
  iterate 9 rw [dd_ge (by omega)]
  rw [dd_lt (by omega)]
  rfl
section
variable (w : World)
theorem swh_any (l : List UInt8) (hl : l.length ≤ 2000000) :
    Calls Tryd.prog 34 #[.string (tx l)] w fun r w' => (∃ (n : Nat) (b : Bool), r = .returned (.tuple #[.int .i64 n, .bool b]) ∧ NumR 1000000000 l n b) ∧ Below w.heap.size w w' := by
  by_cases h : l = bil
  · subst h
    have hR : NumR 1000000000 bil 1000000000 true := ⟨Nat.le_refl _, fun m _ e => ⟨by
      have h1 := dvL_dec m
      rw [← e, ← dec_bil, dvL_dec] at h1
      exact Option.some.inj h1, rfl⟩⟩
    replace hR := Lib.hid hR
    have hs : tx bil = { data := #[49, 48, 48, 48, 48, 48, 48, 48, 48, 48] } := rfl
    rw [hs]
    go_enter Tryd.func34, Tryd.ntmps34
    go_wp2
    go_ret2
    exact ⟨⟨1000000000, true, rfl, hR.out⟩, by (repeat (first | exact Below.refl _ _ | assumption | refine bchain (by assumption) ?_ | refine balloc ?_ _ | apply Below.drew | apply below_drewN | (refine Below.alloc ?_ (by (try simp) <;> omega) _) | (refine Below.setCell ?_ (by (try simp) <;> omega) _)))⟩
  · have hN := Lib.hid (fun W => snum_any W l hl)
    have hw : ∀ n b, NumR 999999999 l n b → NumR 1000000000 l n b := fun n b hn => ⟨by have := hn.1; omega, fun m hm e => by
      by_cases c : m = 1000000000
      · subst c
        rw [dec_bil] at e
        exact absurd e h
      · exact hn.2 m (by omega) e⟩
    replace hw := Lib.hid hw
    have hq : ((tx l).toList == [49, 48, 48, 48, 48, 48, 48, 48, 48, 48]) = false := by
      have e : (tx l).toList = l := ByteArray.toList_mk l
      rw [e]
      exact beq_false_of_ne h
    have hsz := tx_size l
    obtain ⟨s, hs⟩ : ∃ s, tx l = s := ⟨_, rfl⟩
    rw [hs] at hN hq hsz ⊢
    clear hs h
    by_cases c : l.length = 10
    · have d1 : ((l.length : Int) == 10) = true := by simp; omega
      go_enter Tryd.func34, Tryd.ntmps34
      go_wp2_with fail
      refine (hN.out _).mono ?_
      rintro r1 w1 ⟨⟨n, b, rfl, hR⟩, hb1⟩
      replace hR := Lib.hid hR
      go_wp2
      go_ret2
      exact ⟨⟨n, b, rfl, hw.out n b hR.out⟩, by (repeat (first | exact Below.refl _ _ | assumption | refine bchain (by assumption) ?_ | refine balloc ?_ _ | apply Below.drew | apply below_drewN | (refine Below.alloc ?_ (by (try simp) <;> omega) _) | (refine Below.setCell ?_ (by (try simp) <;> omega) _)))⟩
    · have d1 : ((l.length : Int) == 10) = false := by simp; omega
      go_enter Tryd.func34, Tryd.ntmps34
      go_wp2_with fail
      refine (hN.out _).mono ?_
      rintro r1 w1 ⟨⟨n, b, rfl, hR⟩, hb1⟩
      replace hR := Lib.hid hR
      go_wp2
      go_ret2
      exact ⟨⟨n, b, rfl, hw.out n b hR.out⟩, by (repeat (first | exact Below.refl _ _ | assumption | refine bchain (by assumption) ?_ | refine balloc ?_ _ | apply Below.drew | apply below_drewN | (refine Below.alloc ?_ (by (try simp) <;> omega) _) | (refine Below.setCell ?_ (by (try simp) <;> omega) _)))⟩
set_option maxHeartbeats 2000000 in
theorem sspl_any (l : List UInt8) (x : UInt8) (hl : l.length ≤ 2000000) :
    Calls Tryd.prog 13 #[.string (tx l), .int .u8 x.toNat] w fun r w' => (∃ v, r = .returned v ∧ WordsAt w w' v (splA x [] l)) ∧ Below w.heap.size w w' := by
  obtain ⟨i0, hi, hz0, hz1, hz2⟩ := info_parts info_str
  replace hi := Lib.hid hi
  replace hz0 := Lib.hid hz0
  replace hz1 := Lib.hid hz1
  replace hz2 := Lib.hid hz2
  have hix : ∀ k (hk : k < l.length), ∀ W : World, (Instr.index 9 (.string (tx l)) (.int .i64 (k : Int))).run Tryd.prog W = .ok (.int .u8 (l[k].toNat : Int)) W := fun k hk W => by
    rw [run_index_string _ _ _ _ _ Tryd.underlying9, dif_pos ⟨by omega, by rw [tx_size]; omega⟩]
    rfl
  have hsz := tx_size l
  have hsl : ∀ f k, f ≤ k → k ≤ l.length → ∀ W : World, (Instr.slice 9 (.string (tx l)) (some (.int .i64 (f : Int))) (some (.int .i64 (k : Int))) none).run Tryd.prog W = .ok (.string (tx ((l.take k).drop f))) W := fun f k h1 h2 W => by
    rw [run_slice_string W _ _ _ _ _ _ Tryd.underlying9 (by omega) (by omega) (by omega)]
    show Result.ok (Value.string ((ByteArray.mk l.toArray).extract _ _)) W = _
    rw [ByteArray.extract_mk, List.drop_take]
    rfl
  have hse : ∀ f, f ≤ l.length → ∀ W : World, (Instr.slice 9 (.string (tx l)) (some (.int .i64 (f : Int))) none none).run Tryd.prog W = .ok (.string (tx (l.drop f))) W := fun f h1 W => by
    rw [run_slice_string_l W _ _ Tryd.underlying9 _ _ (by omega) (by omega)]
    show Result.ok (Value.string ((ByteArray.mk l.toArray).extract _ _)) W = _
    rw [ByteArray.extract_mk, tx_size, List.take_of_length_le (by simp)]
    rfl
  replace hix := Lib.hid hix
  replace hsl := Lib.hid hsl
  replace hse := Lib.hid hse
  obtain ⟨s, hs⟩ : ∃ s, tx l = s := ⟨_, rfl⟩
  rw [hs] at hix hsl hse hsz ⊢
  clear hs
  have hx256 : x.toNat < 256 := UInt8.toNat_lt x
  have hEQ : ∀ c : UInt8, (((c.toNat : Nat) : Int) == ((x.toNat : Nat) : Int)) = decide (c = x) := fun c => by
    rw [Bool.eq_iff_iff]
    simp
    exact ⟨fun h => UInt8.toNat_inj.1 (by omega), fun h => by rw [h]⟩
  replace hEQ := Lib.hid hEQ
  have hst : ∀ k (hk : k < l.length) f, f ≤ k → splA x ((l.take k).drop f) (l.drop k) = if l[k] = x then ((l.take k).drop f) :: splA x ((l.take (k + 1)).drop (k + 1)) (l.drop (k + 1)) else splA x ((l.take (k + 1)).drop f) (l.drop (k + 1)) := fun k hk f hf => by
    rw [List.drop_eq_getElem_cons hk, splA]
    split
    · rw [show (l.take (k + 1)).drop (k + 1) = [] from List.drop_eq_nil_of_le (by rw [List.length_take]; omega)]
    · rw [List.take_add_one, List.getElem?_eq_getElem hk, List.drop_append_of_le_length (by rw [List.length_take]; omega)]
      rfl
  replace hst := Lib.hid hst
  have hlast : ∀ f, splA x ((l.take l.length).drop f) (l.drop l.length) = [l.drop f] := fun f => by
    rw [List.take_length, List.drop_length]; rfl
  replace hlast := Lib.hid hlast
  have hne := Lib.hid (splA_ne x l [])
  go_enter Tryd.func13, Tryd.ntmps13
  go_wp2
  go_loopw [5, 6, 7] (fun v f i wr => ∃ (k g : Nat) (ws : List (List UInt8)), k ≤ l.length ∧ g ≤ k ∧ i = .int .i64 k ∧ f = .int .i64 g ∧ ws.length ≤ k ∧ Hid (ws ++ splA x ((l.take k).drop g) (l.drop k) = splA x [] l) ∧ Hid (wr.ownsRow w.heap.size 9 1 v ws.length (ws.map fun a => .string (tx a))) ∧ Below w.heap.size w wr) (fun _ _ i _ => l.length - (intOf i).toNat)
  case atStart =>
    refine ⟨0, 0, [], by omega, by omega, rfl, rfl, by simp, (show _ = _ from by simp), ?_, by (repeat (first | exact Below.refl _ _ | assumption | refine bchain (by assumption) ?_ | refine balloc ?_ _ | apply Below.drew | apply below_drewN | (refine Below.alloc ?_ (by (try simp) <;> omega) _) | (refine Below.setCell ?_ (by (try simp) <;> omega) _)))⟩
    exact World.ownsRow_made w (base := w.heap.size) (e := 9) (size := 1) #[] 0 (by omega) (by omega) rfl
  case round =>
    obtain ⟨k, g, ws, hk, hg, rfl, rfl, hws, hsp, hown, hb⟩ := hrel
    have hsb := hb.size
    by_cases hlt : k < l.length
    · have hdd := decide_eq_true (show ((k : Int) < (l.length : Int)) by omega)
      have hx := hix.out k hlt
      have hs2 := hst.out k hlt g hg
      have he := hEQ.out l[k]
      by_cases hc : l[k] = x
      · rw [decide_eq_true hc] at he
        rw [if_pos hc] at hs2
        have hsp2 := hsp.out
        rw [hs2] at hsp2
        have hsn := hsl.out g k hg hk
        obtain ⟨cur, hcur⟩ : ∃ cur, (l.take k).drop g = cur := ⟨_, rfl⟩
        rw [hcur] at hsp2 hsn
        obtain ⟨z, hz⟩ : ∃ z : Nat, l[k].toNat = z := ⟨_, rfl⟩
        rw [hz] at hx he
        have hsp3 : Hid ((ws ++ [cur]) ++ splA x ((l.take (k + 1)).drop (k + 1)) (l.drop (k + 1)) = splA x [] l) := by
          show _ = _
          rw [List.append_assoc]; exact hsp2
        clear hs2 hsp2 hsp hcur hz hc
        go_wp2_with (at_builtin; refine wpList_append_own _ rfl _ _ 33 rfl w.heap.size 9 i0 (.string ⟨#[]⟩) 1 16 Tryd.underlying33 hi.out hz0.out hz1.out hz2.out rfl (by decide) _ _ _ rfl (hown.out.alloc _) ⟨wr.heap.size, 0, none⟩ 1 1 [.string (tx cur)] rfl rfl (fun q u hq => by match q, hq with
          | 0, hq => simp at hq; subst hq; rw [show (⟨wr.heap.size, 0, none⟩ : Addr).add 0 = ⟨wr.heap.size, 0, none⟩ from rfl, World.cell?_alloc_new]; rfl
          | q + 1, hq => simp at hq) (fun u hu => by simp at hu; subst hu; rfl) (by unfold maxLen; omega) (by omega) (by simp; omega) ?_; intro v' w4 hown' hgrow _)
        have hB4 : Below w.heap.size w w4 := (balloc hb _).grown hgrow (by simp; omega) (fun k hk => by have := (hown.out.lt k hk).1; omega)
        have hown4 : Hid (w4.ownsRow w.heap.size 9 1 v' (ws ++ [cur]).length ((ws ++ [cur]).map fun a => .string (tx a))) := by
          show World.ownsRow _ _ _ _ _ _ _
          rw [List.length_append, List.map_append]
          exact hown'
        clear hown' hgrow hown hsb hb
        go_wp2
        go_roundw
        case rel => exact ⟨k + 1, k + 1, ws ++ [cur], by omega, by omega, by go_num, by go_num, by simp; omega, hsp3, hown4, hB4⟩
        case measure => simp [intOf]; omega
      · rw [decide_eq_false hc] at he
        rw [if_neg hc] at hs2
        have hsp2 := hsp.out
        rw [hs2] at hsp2
        obtain ⟨z, hz⟩ : ∃ z : Nat, l[k].toNat = z := ⟨_, rfl⟩
        rw [hz] at hx he
        replace hsp2 := Lib.hid hsp2
        clear hs2 hsp hz hc
        go_wp2
        go_roundw
        case rel => exact ⟨k + 1, g, ws, by omega, by omega, by go_num, rfl, by omega, hsp2, hown, by (repeat (first | exact Below.refl _ _ | assumption | refine bchain (by assumption) ?_ | refine balloc ?_ _ | apply Below.drew | apply below_drewN | (refine Below.alloc ?_ (by (try simp) <;> omega) _) | (refine Below.setCell ?_ (by (try simp) <;> omega) _)))⟩
        case measure => simp [intOf]; omega
    · have hdd := decide_eq_false (show ¬ ((k : Int) < (l.length : Int)) by omega)
      obtain rfl : k = l.length := by omega
      have hsp2 := hsp.out
      rw [hlast.out g] at hsp2
      have hsn := hse.out g hg
      obtain ⟨cur, hcur⟩ : ∃ cur, l.drop g = cur := ⟨_, rfl⟩
      rw [hcur] at hsp2 hsn
      replace hsp2 := Lib.hid hsp2
      clear hsp hcur
      go_wp2_with (at_builtin; refine wpList_append_own _ rfl _ _ 33 rfl w.heap.size 9 i0 (.string ⟨#[]⟩) 1 16 Tryd.underlying33 hi.out hz0.out hz1.out hz2.out rfl (by decide) _ _ _ rfl (hown.out.alloc _) ⟨wr.heap.size, 0, none⟩ 1 1 [.string (tx cur)] rfl rfl (fun q u hq => by match q, hq with
        | 0, hq => simp at hq; subst hq; rw [show (⟨wr.heap.size, 0, none⟩ : Addr).add 0 = ⟨wr.heap.size, 0, none⟩ from rfl, World.cell?_alloc_new]; rfl
        | q + 1, hq => simp at hq) (fun u hu => by simp at hu; subst hu; rfl) (by unfold maxLen; omega) (by omega) (by simp; omega) ?_; intro v' w4 hown' hgrow _)
      have hB4 : Below w.heap.size w w4 := (balloc hb _).grown hgrow (by simp; omega) (fun k hk => by have := (hown.out.lt k hk).1; omega)
      have hown4 : Hid (w4.ownsRow w.heap.size 9 1 v' (ws ++ [cur]).length ((ws ++ [cur]).map fun a => .string (tx a))) := by
        show World.ownsRow _ _ _ _ _ _ _
        rw [List.length_append, List.map_append]
        exact hown'
      clear hown' hgrow hown hsb hb
      go_wp2
      go_ret
      refine ⟨⟨_, rfl, ?_⟩, hB4⟩
      rw [← hsp2.out]
      exact words_of_row hown4.out (by simp)
end
end Go.Proofs.YtdbidlnkaplekaaDoor
