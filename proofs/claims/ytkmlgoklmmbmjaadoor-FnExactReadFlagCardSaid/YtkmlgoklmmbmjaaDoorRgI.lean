/-
  ReadGraph: the program's contract.
-/
import Derived.Test.YtkmlgoklmmbmjaaDoorRgW
import Derived.Test.YtkmlgoklmmbmjaaDoorGtI
import Derived.Test.YtkmlgoklmmbmjaaDoorSp
import Derived.Test.YtkmlgoklmmbmjaaDoorShb
namespace Go.Proofs.YtkmlgoklmmbmjaaDoor
open Go.RowKit
set_option maxRecDepth 100000
attribute [local go_sem] Oper.semAt_some
section
variable (w : World)
theorem split_any (l : List UInt8) (x : UInt8) (hl : l.length ≤ 2000000) (hL : LibW w) :
    Calls Tryd.prog 46 #[.string (tx l), .string (tx [x])] w fun r w' => (∃ B, r = .returned (.slice (some ⟨B, 0, none⟩) (splA x [] l).length (splA x [] l).length) ∧ B < w'.heap.size ∧ ∀ i (h : i < (splA x [] l).length), w'.cell? ⟨B, i, none⟩ = some (.string (tx (splA x [] l)[i]))) ∧ Below w.heap.size w w' := by
  obtain ⟨m, hm⟩ := hL.mx
  have hlen := Lib.splitB_all (tx [x]) (Nat.le_refl 1) 0 _ (tx l) rfl
  rw [spl_eq x l.length l (Nat.le_refl _), List.length_map] at hlen
  refine (Tryd.strings_Split (tx l) (tx [x]) m w (by rw [tx_size]; omega) hm (Nat.le_refl 1)).mono ?_
  rintro r w' ⟨rfl, rfl⟩
  rw [spl_eq x l.length l (Nat.le_refl _), ← hlen]
  refine ⟨⟨w.heap.size, rfl, by simp, fun i h => ?_⟩, balloc (Below.refl _ _) _⟩
  rw [World.cell?_alloc_new]
  simp [h]
theorem igt_any (n e : Nat) (he : e < 4294967296) (hT : TabP w) : Calls Tryd.prog 17 #[.agg #[.int .i64 n, .int .u32 e]] w fun r w' => r = .returned (.string (tx (if VG n e then gText n (prE n e) else []))) ∧ Below w.heap.size w w' := by
  by_cases h : VG n e
  · rw [if_pos h]; exact igt_t w n e h hT
  · rw [if_neg h]; exact igt_f w n e (by omega) (by omega) h
set_option maxHeartbeats 4000000 in
theorem irg_any (l : List UInt8) (hl : l.length ≤ 1048576) (hL : LibW w) :
    Calls Tryd.prog 19 #[.string (tx l)] w fun r w' => RgP l r ∧ Below w.heap.size w w' := by
  have hS := Lib.hid (fun W (h : Below w.heap.size w W) => split_any W l 32 (by omega) (hL.below h))
  have hwl : ∀ u ∈ splA 32 [] l, u.length ≤ 2000000 := splA_len (by omega)
  have hct := splA_count 32 l []
  have hWW := Lib.hid (fun W (h : Below w.heap.size w W) B (h1 : B < W.heap.size) h2 => irw_any W (splA 32 [] l) B _ (splA 32 [] l).length rfl hct.1 (by omega) (Nat.le_refl _) (by omega) h1 h2 hwl (hL.below h))
  have hK := Lib.hid (fun (n e : Nat) (he : l = gText n (prE n e)) => show splA 32 [] l = gWord :: Lib.decDigits n :: (prE n e).map pWord by rw [he, words_g])
  have hT := Lib.hid (fun W (h : Below w.heap.size w W) (n e : Nat) (he : e < 4294967296) => igt_any W n e he (hL.tb.below h))
  obtain ⟨ws, hws⟩ : ∃ ws, splA 32 [] l = ws := ⟨_, rfl⟩
  rw [hws] at hS hWW hK
  have hl0 := Lib.hid (fun (c : l = []) => show ws = [[]] by rw [← hws, c]; rfl)
  clear hws hct hwl hL
  obtain ⟨L, hLL⟩ : ∃ L, ws.length = L := ⟨_, rfl⟩
  have htl := Lib.hid (show (tx l).toList = l from ByteArray.toList_mk l)
  obtain ⟨s, hs⟩ : ∃ s, tx l = s := ⟨_, rfl⟩
  rw [hs] at hS htl ⊢
  clear hs
  have hfR := Lib.hid (GxB.made w 0 0 36)
  have hB0 : Below w.heap.size w (w.alloc (.cells #[.int .i64 0, .int .u32 0] 36)) := by (repeat (first | exact Below.refl _ _ | assumption | refine bchain (by assumption) ?_ | refine balloc ?_ _ | apply Below.drew | apply below_drewN | (refine Below.alloc ?_ (by (try simp) <;> omega) _) | (refine Below.setCell ?_ (by (try simp) <;> omega) _)))
  obtain ⟨W0, hW0⟩ : ∃ W0, W0 = w.alloc (.cells #[.int .i64 0, .int .u32 0] 36) := ⟨_, rfl⟩
  rw [← hW0] at hfR hB0
  replace hW0 := Lib.hid hW0
  have e32 : ({ data := #[32] } : ByteArray) = tx [32] := rfl
  go_enter Tryd.func19, Tryd.ntmps19
  rw [e32]
  go_wp2_with fail
  rw [← hW0.out]
  go_wp2_with fail
  refine (hS.out _ hB0).mono ?_
  rintro r1 w1 ⟨⟨B, rfl, hB1, hcell⟩, hb1⟩
  have hBl1 := bchain hb1 hB0
  have hW1 := hWW.out w1 hBl1 B hB1 hcell
  have hfR1 := Lib.hid (hfR.out.below hb1)
  rw [hLL] at hW1 ⊢
  replace hLL := Lib.hid hLL
  clear hcell hb1
  go_wp2_with fail
  refine hW1.mono ?_
  rintro r2 w2 ⟨⟨n, e, b, rfl, he, hNe, hg⟩, hb2⟩
  have hBl2 := bchain hb2 hBl1
  have hfR2 := hfR1.out.below hb2
  have hfR2' := Lib.hid hfR2
  clear hb2 hW1
  replace hg := Lib.hid hg
  replace hNe := Lib.hid hNe
  cases b
  · have hbad := Lib.hid (rgP_bad (l := l) (fun n e hv hw => by
      have := (hg.out n e hv (hK.out n e hw)).2.2
      cases this))
    obtain ⟨_, r0, r1, rz⟩ := hfR2
    have rz0 := rz 0
    have rz1 := rz 1
    clear rz he
    go_wp2
    have hG := ((hfR2'.out).put (0) (0)).below (balloc (Below.refl _ _) (.cells #[.int .i64 (n : Int), .int .u32 (e : Int)] 36))
    have hBB := balloc (((hBl2).setCell (p := ⟨w.heap.size, 0, none⟩) (by show w.heap.size ≤ w.heap.size; omega) (.int .i64 (0))).setCell (p := ⟨w.heap.size, 1, none⟩) (by show w.heap.size ≤ w.heap.size; omega) (.int .u32 (0))) (.cells #[.int .i64 (n : Int), .int .u32 (e : Int)] 36)
    obtain ⟨WW, hWW⟩ : ∃ WW, WW = (((w2).setCell ⟨w.heap.size, 0, none⟩ (.int .i64 (0))).setCell ⟨w.heap.size, 1, none⟩ (.int .u32 (0))).alloc (.cells #[.int .i64 (n : Int), .int .u32 (e : Int)] 36) := ⟨_, rfl⟩
    rw [← hWW] at hG hBB ⊢
    clear hWW
    obtain ⟨_, F0, F1, _⟩ := hG
    exact bodyPost_ret (v := .tuple #[.agg #[.int .i64 (0), .int .u32 (0)], .int .i64 5]) (by simp [results, Tryd.results19, go_sem, F0, F1]) rfl ⟨hbad.out, hBB⟩
  have hG := Lib.hid (fun W (h : Below w.heap.size w W) => hT.out W h n e he)
  obtain ⟨g, hgt⟩ : ∃ g, (if VG n e then gText n (prE n e) else []) = g := ⟨_, rfl⟩
  rw [hgt] at hG
  have hq : ((tx g).toList == s.toList) = decide (g = l) := by
    rw [htl.out, show (tx g).toList = g from ByteArray.toList_mk g]
    by_cases h : g = l
    · subst h; simp
    · rw [decide_eq_false h]; exact beq_false_of_ne h
  replace hgt := Lib.hid hgt
  obtain ⟨t3, ht3⟩ : ∃ t, tx g = t := ⟨_, rfl⟩
  rw [ht3] at hq hG
  have hfA := Lib.hid (GxB.made w2 n e 36)
  clear ht3 hfR2
  go_wp2_with fail
  refine (hG.out _ (balloc hBl2 _)).mono ?_
  rintro r3 w3 ⟨rfl, hb3⟩
  have hfR3 := hfR2'.out.below (bchain hb3 (balloc (Below.refl _ _) _))
  have hfR3' := Lib.hid hfR3
  have hfA3 := hfA.out.below hb3
  have hBl3 := bchain hb3 (balloc hBl2 _)
  obtain ⟨_, q0, q1, _⟩ := hfA3
  obtain ⟨_, r0, r1, rz⟩ := hfR3
  have rz0 := rz 0
  have rz1 := rz 1
  clear rz hb3
  by_cases h : g = l
  · have hok : Hid (RgP l (.returned (.tuple #[.agg #[.int .i64 (n : Int), .int .u32 (e : Int)], .int .i64 0]))) := by
      have h1 := hgt.out
      by_cases c : VG n e
      · rw [if_pos c] at h1
        exact rgP_ok c (h.symm.trans h1.symm)
      · rw [if_neg c] at h1
        have h2 := hl0.out (h.symm.trans h1.symm)
        have h3 := hNe.out (by first | trivial | rfl)
        rw [h2] at h3
        simp at h3
    rw [decide_eq_true h] at hq
    clear h
    go_wp2
    have hG := (hfR3'.out).put (n) (e)
    have hBB := ((hBl3).setCell (p := ⟨w.heap.size, 0, none⟩) (by show w.heap.size ≤ w.heap.size; omega) (.int .i64 (n))).setCell (p := ⟨w.heap.size, 1, none⟩) (by show w.heap.size ≤ w.heap.size; omega) (.int .u32 (e))
    obtain ⟨WW, hWW⟩ : ∃ WW, WW = ((w3).setCell ⟨w.heap.size, 0, none⟩ (.int .i64 (n))).setCell ⟨w.heap.size, 1, none⟩ (.int .u32 (e)) := ⟨_, rfl⟩
    rw [← hWW] at hG hBB ⊢
    clear hWW
    obtain ⟨_, F0, F1, _⟩ := hG
    exact bodyPost_ret (v := .tuple #[.agg #[.int .i64 (n), .int .u32 (e)], .int .i64 0]) (by simp [results, Tryd.results19, go_sem, F0, F1]) rfl ⟨hok.out, hBB⟩
  · have hbad := Lib.hid (rgP_bad (l := l) (fun n' e' hv hw => by
      obtain ⟨rfl, rfl, _⟩ := hg.out n' e' hv (hK.out n' e' hw)
      apply h
      rw [← hgt.out, if_pos hv, hw]))
    rw [decide_eq_false h] at hq
    clear h
    go_wp2
    have hG := (hfR3'.out).put (0) (0)
    have hBB := ((hBl3).setCell (p := ⟨w.heap.size, 0, none⟩) (by show w.heap.size ≤ w.heap.size; omega) (.int .i64 (0))).setCell (p := ⟨w.heap.size, 1, none⟩) (by show w.heap.size ≤ w.heap.size; omega) (.int .u32 (0))
    obtain ⟨WW, hWW⟩ : ∃ WW, WW = ((w3).setCell ⟨w.heap.size, 0, none⟩ (.int .i64 (0))).setCell ⟨w.heap.size, 1, none⟩ (.int .u32 (0)) := ⟨_, rfl⟩
    rw [← hWW] at hG hBB ⊢
    clear hWW
    obtain ⟨_, F0, F1, _⟩ := hG
    exact bodyPost_ret (v := .tuple #[.agg #[.int .i64 (0), .int .u32 (0)], .int .i64 5]) (by simp [results, Tryd.results19, go_sem, F0, F1]) rfl ⟨hbad.out, hBB⟩
end
end Go.Proofs.YtkmlgoklmmbmjaaDoor
