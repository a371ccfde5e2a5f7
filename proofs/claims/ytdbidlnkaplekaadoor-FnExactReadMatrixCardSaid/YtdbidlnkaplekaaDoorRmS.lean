/-
  ReadMatrix: the model's contract.
-/
import Derived.Test.YtdbidlnkaplekaaDoorRfS
import Derived.Test.YtdbidlnkaplekaaDoorLt
import Derived.Test.YtdbidlnkaplekaaDoorOm
import Derived.Test.YtdbidlnkaplekaaDoorPw
namespace Go.Proofs.YtdbidlnkaplekaaDoor
open Go.RowKit Go.Shelf
set_option maxRecDepth 100000
attribute [local go_sem] Oper.semAt_some
attribute [-go_sem] run_index_string run_slice_string run_slice_string_l
theorem wAt_mem {ws : List (List UInt8)} {i : Nat} (h : i < ws.length) : wAt ws i ∈ ws := by
  unfold wAt
  rw [List.getElem?_eq_getElem h]
  exact List.getElem_mem h
theorem wordsAt_form {w0 w : World} {v : Value} {ws : List (List UInt8)} (h : WordsAt w0 w v ws) : ∃ B cap, v = .slice (some ⟨B, 0, none⟩) ws.length cap ∧ w0.heap.size ≤ B ∧ B < w.heap.size ∧ ∀ i, i < ws.length → w.cell? ⟨B, i, none⟩ = some (.string (tx (wAt ws i))) := by
  obtain ⟨B, cap, e, h1, h2, h3⟩ := h
  refine ⟨B, cap, e, h1, h2, fun i hi => ?_⟩
  rw [h3 i hi]
  unfold wAt
  rw [List.getElem?_eq_getElem hi]
  rfl
theorem info_fr2 : (Tryd.prog.info? 53).map (fun i => (i.zero, i.size, i.bytes)) = some (some (.agg #[.int .i64 0, .int .i64 0]), 2, 16) := by kernel_rfl
theorem flF_snoc2 (fs : List (Int × Int)) (p q : Int) : flF (fs ++ [(p, q)]) = flF fs ++ [.int .i64 p, .int .i64 q] := by simp [flF]
theorem take_snoc {ws : List (List UInt8)} {fs : List (Int × Int)} {j : Nat} (hj : j < ws.length) (h : ws.take j = fs.map fW) {f : Int × Int} (e : wAt ws j = fW f) : ws.take (j + 1) = (fs ++ [f]).map fW := by
  rw [List.take_add_one, List.getElem?_eq_getElem hj, h, List.map_append]
  unfold wAt at e
  rw [List.getElem?_eq_getElem hj] at e
  have e2 : ws[j] = fW f := e
  rw [e2]
  rfl
theorem mAt_snoc {m : List (List (Int × Int))} {x : List (Int × Int)} {j : Nat} (h : j < m.length) : mAt (m ++ [x]) j = mAt m j := by unfold mAt; rw [List.getElem?_append_left h]
theorem mAt_new {m : List (List (Int × Int))} {x : List (Int × Int)} : mAt (m ++ [x]) m.length = x := by unfold mAt; rw [List.getElem?_append_right (Nat.le_refl _)]; simp
theorem OwnRs.form {base : Nat} {W : World} {v : Value} {m : List (List (Int × Int))} (h : OwnRs base W v m) : ∃ a n c, v = .slice a n c := by
  obtain ⟨us, _, h⟩ := h
  rcases h.2 with ⟨rfl, _⟩ | ⟨g, cap, cur, rfl, _⟩ <;> exact ⟨_, _, _, rfl⟩
section
variable (w : World)
set_option maxHeartbeats 4000000 in
theorem srm_any (l : List UInt8) (hl : l.length ≤ 1048576) :
    Calls Tryd.prog 8 #[.string (tx l)] w fun r w' => (∃ v m c, r = .returned (.tuple #[v, .int .i64 c]) ∧ RmP l m c ∧ Fr.SlM w' v m) ∧ Below w.heap.size w w' := by
  obtain ⟨i0, hi, hz0, hz1, hz2⟩ := info_parts info_fr2
  obtain ⟨i1, ki, kz0, kz1, kz2⟩ := info_parts Fr.info_row
  replace hi := Lib.hid hi
  replace hz0 := Lib.hid hz0
  replace hz1 := Lib.hid hz1
  replace hz2 := Lib.hid hz2
  replace ki := Lib.hid ki
  replace kz0 := Lib.hid kz0
  replace kz1 := Lib.hid kz1
  replace kz2 := Lib.hid kz2
  have hS : ∀ W, Calls Tryd.prog 13 #[.string (tx l), .int .u8 10] W fun r w' => (∃ v, r = .returned v ∧ WordsAt W w' v (splA 10 [] l)) ∧ Below W.heap.size W w' := fun W => sspl_any W l 10 (by omega)
  replace hS := Lib.hid hS
  have hwl : ∀ u ∈ splA 10 [] l, u.length ≤ 1048576 := splA_len hl
  have hne := splA_ne 10 l []
  have hcnt := splA_cnt2 10 l []
  have hok := Lib.hid (fun m (hv : Fr.VM m) (h : LnI (splA 10 [] l) m) => (show RmP l m 0 from .inl ⟨rfl, hv, (ln_iff l m).2 h⟩))
  have hno := Lib.hid (fun (h : ∀ m, Fr.VM m → ¬ LnI (splA 10 [] l) m) => (show RmP l [] 5 from .inr ⟨rfl, rfl, fun m' hv hm => h m' hv ((ln_iff l m').1 hm)⟩))
  have hback := Lib.hid (fun m (h : LnI (splA 10 [] l) m) => ln_small hl ((ln_iff l m).2 h))
  have hone := Lib.hid (fun m m' (h : LnI (splA 10 [] l) m) (h' : LnI (splA 10 [] l) m') => ((ln_iff l m).2 h).one ((ln_iff l m').2 h'))
  obtain ⟨ws, hws⟩ : ∃ ws, splA 10 [] l = ws := ⟨_, rfl⟩
  rw [hws] at hS hwl hne hcnt hok hno hback hone
  obtain ⟨tl, htl⟩ : ∃ s, tx l = s := ⟨_, rfl⟩
  rw [htl] at hS ⊢
  have hpos := List.length_pos_iff.2 hne
  clear hws htl hne
  replace hwl := Lib.hid hwl
  go_enter Tryd.func8, Tryd.ntmps8
  go_wp2_with fail
  refine (hS.out _).mono ?_
  rintro r1 w1 ⟨⟨v1, rfl, hW1⟩, hb1⟩
  obtain ⟨B1, cap1, rfl, hB1a, hB1b, hc1⟩ := wordsAt_form hW1
  obtain ⟨n, hn⟩ : ∃ n, ws.length = n := ⟨_, rfl⟩
  rw [hn] at hc1 hpos hcnt ⊢
  have hn2 : n ≤ 1048577 := by omega
  replace hc1 := Lib.hid hc1
  replace hn := Lib.hid hn
  clear hW1 hcnt hS
  go_wp2
  go_loopw [2, 3, 5, 6] (fun z0 z1 v i wr => ∃ (k : Nat) (m : List (List (Int × Int))), k + 1 ≤ n ∧ z0 = .slice none 0 0 ∧ z1 = .int .i64 0 ∧ i = .int .i64 k ∧ Hid (m.length = k) ∧ Hid (∀ j, j < k → RowS (wAt ws j) (mAt m j)) ∧ Hid (OwnRs w1.heap.size wr v m) ∧ Below w1.heap.size w1 wr) (fun _ _ _ i _ => n - (intOf i).toNat)
  case atStart => exact ⟨0, [], by omega, rfl, rfl, rfl, rfl, (fun j hj => absurd hj (by omega)), OwnRs.made _ _ (Nat.le_refl _), by (repeat (first | exact Below.refl _ _ | assumption | refine bchain (by assumption) ?_ | refine balloc ?_ _ | apply Below.drew | apply below_drewN | (refine Below.alloc ?_ (by (try simp) <;> omega) _) | (refine Below.setCell ?_ (by (try simp) <;> omega) _)))⟩
  case round =>
    obtain ⟨k, m, hk, rfl, rfl, rfl, hm, hR, hE, hb⟩ := hrel
    by_cases hlt : k + 1 < n
    · obtain ⟨wo, rfl⟩ : ∃ wo : World, wo = wr := ⟨_, rfl⟩
      have hd := decide_eq_true (show (k : Int) < (n : Int) - 1 by omega)
      have hkn : (k : Int) < (n : Int) := by omega
      have s0 : wo.cell? ⟨B1, k, none⟩ = some (.string (tx (wAt ws k))) := (hb.cell (p := ⟨B1, k, none⟩) hB1b).trans (hc1.out k (by omega))
      have hyl := hwl.out _ (wAt_mem (ws := ws) (i := k) (by rw [hn.out]; omega))
      have hrk := Lib.hid (fun fs (h1 : AllF fs) (h2 : splA 32 [] (wAt ws k) = fs.map fW) => (show RowS (wAt ws k) fs from ⟨h1, h2⟩))
      have hbad := Lib.hid (fun (h : ∀ fs, AllF fs → splA 32 [] (wAt ws k) ≠ fs.map fW) => hno.out (fun m' _ hm' => by
        have h1 := hm'.1
        rw [hn.out] at h1
        have h2 := hm'.2.2 k (by omega)
        exact h _ h2.1 h2.2))
      obtain ⟨y, hy⟩ : ∃ y, wAt ws k = y := ⟨_, rfl⟩
      rw [hy] at s0 hyl hrk hbad
      have hS2 : ∀ W, Calls Tryd.prog 13 #[.string (tx y), .int .u8 32] W fun r w' => (∃ v, r = .returned v ∧ WordsAt W w' v (splA 32 [] y)) ∧ Below W.heap.size W w' := fun W => sspl_any W y 32 (by omega)
      replace hS2 := Lib.hid hS2
      have hyl2 : ∀ u ∈ splA 32 [] y, u.length ≤ 1048576 := splA_len hyl
      have hpos2 := List.length_pos_iff.2 (splA_ne 32 y [])
      have hcnt2 := splA_cnt2 32 y []
      obtain ⟨ws2, hws2⟩ : ∃ ws, splA 32 [] y = ws := ⟨_, rfl⟩
      obtain ⟨ty, hty⟩ : ∃ s, tx y = s := ⟨_, rfl⟩
      rw [hty] at s0 hS2
      rw [hws2] at hS2 hyl2 hpos2 hcnt2 hrk hbad
      replace hyl2 := Lib.hid hyl2
      replace hy := Lib.hid hy
      clear hty hws2
      go_wp2_with fail
      refine (hS2.out _).mono ?_
      rintro r3 w3 ⟨⟨v3, rfl, hW3⟩, hb3⟩
      obtain ⟨B3, cap3, rfl, hB3a, hB3b, hc3⟩ := wordsAt_form hW3
      obtain ⟨n2, hn2'⟩ : ∃ n, ws2.length = n := ⟨_, rfl⟩
      rw [hn2'] at hc3 hpos2 hcnt2 ⊢
      have hn22 : n2 ≤ 1048577 := by omega
      replace hc3 := Lib.hid hc3
      replace hn2' := Lib.hid hn2'
      clear hW3 hcnt2 hS2 s0 hd
      go_wp2
      go_loopw [2, 3, 8, 9] (fun z0 z1 v s wr => ∃ (j : Nat) (fs : List (Int × Int)), j ≤ n2 ∧ z0 = .slice none 0 0 ∧ z1 = .int .i64 0 ∧ s = .int .i64 j ∧ Hid (fs.length = j) ∧ Hid (AllF fs ∧ ws2.take j = fs.map fW) ∧ Hid (wr.ownsRow w3.heap.size 53 2 v j (flF fs)) ∧ Below w3.heap.size w3 wr) (fun _ _ _ s _ => n2 - (intOf s).toNat)
      case atStart => exact ⟨0, [], by omega, rfl, rfl, rfl, rfl, ⟨(fun f hf => by cases hf), rfl⟩, World.ownsRow_made w3 #[] 0 (Nat.le_refl _) (by omega) rfl, by (repeat (first | exact Below.refl _ _ | assumption | refine bchain (by assumption) ?_ | refine balloc ?_ _ | apply Below.drew | apply below_drewN | (refine Below.alloc ?_ (by (try simp) <;> omega) _) | (refine Below.setCell ?_ (by (try simp) <;> omega) _)))⟩
      case round =>
        obtain ⟨j, fs, hj, rfl, rfl, rfl, hfl, hF, hown, hb2⟩ := hrel
        have hge := hb2.size
        by_cases hjn : j < n2
        · have hjd : (j : Int) < (n2 : Int) := by omega
          have s1 : wr.cell? ⟨B3, j, none⟩ = some (.string (tx (wAt ws2 j))) := (hb2.cell (p := ⟨B3, j, none⟩) hB3b).trans (hc3.out j hjn)
          have hul := hyl2.out _ (wAt_mem (ws := ws2) (i := j) (by rw [hn2'.out]; omega))
          have hRd := Lib.hid (fun W => sread_any W (wAt ws2 j) (by omega))
          have hnxt := Lib.hid (fun (p : Int) (q : Nat) (hv : Fr.VF p q) (e : wAt ws2 j = fTL p q) => (show AllF (fs ++ [(p, (q : Int))]) ∧ ws2.take (j + 1) = (fs ++ [(p, (q : Int))]).map fW from
            ⟨fun f hf => by
              rcases List.mem_append.1 hf with hf | hf
              · exact hF.out.1 f hf
              · obtain rfl := List.mem_singleton.1 hf
                exact hv, take_snoc (by rw [hn2'.out]; omega) hF.out.2 (f := (p, (q : Int))) e⟩))
          have hbad2 := Lib.hid (fun (h : ∀ (p : Int) (q : Nat), Fr.VF p q → wAt ws2 j ≠ fTL p q) => hbad.out (fun gs hA e => by
            have hm2 := wAt_mem (ws := ws2) (i := j) (by rw [hn2'.out]; omega)
            rw [e] at hm2
            obtain ⟨f, hf, hfx⟩ := List.mem_map.1 hm2
            have hvf := hA f hf
            have hq0 : f.2 = (f.2.toNat : Int) := by have := hvf.1; omega
            rw [← e] at hfx
            exact h f.1 f.2.toNat (by rw [← hq0]; exact hvf) hfx.symm))
          obtain ⟨u, hu⟩ : ∃ u, wAt ws2 j = u := ⟨_, rfl⟩
          rw [hu] at s1 hRd hnxt hbad2
          obtain ⟨tu, htu⟩ : ∃ s, tx u = s := ⟨_, rfl⟩
          rw [htu] at s1 hRd
          clear hu htu hul
          go_wp2_with fail
          refine (hRd.out _).mono ?_
          rintro r5 w5 ⟨⟨p, q, b, rfl, h1, h2⟩, hb5⟩
          have hown5 := Lib.hid (rr_below hown.out hb5)
          have hb25 : Below w3.heap.size w3 w5 := hb2.trans (hb5.mono hge)
          have hge5 := hb25.size
          cases b
          · have hPn := Lib.hid (hbad2.out (fun p' q' hv e => by have := (h2 p' q' hv e).2.2; cases this))
            clear h1 h2 s1
            go_wp2
            go_ret2
            exact ⟨⟨_, [], 5, rfl, hPn.out, _, _, rfl, by simp, by simp, fun c => absurd rfl c⟩, by (repeat (first | exact Below.refl _ _ | assumption | refine bchain (by assumption) ?_ | refine balloc ?_ _ | apply Below.drew | apply below_drewN | (refine Below.alloc ?_ (by (try simp) <;> omega) _) | (refine Below.setCell ?_ (by (try simp) <;> omega) _)))⟩
          · obtain ⟨hv, q', rfl, he⟩ := h1 rfl
            have hnx := Lib.hid (hnxt.out p q' hv he)
            have hnw := World.alloc_heap_new (w5.alloc (.cells #[.int .i64 p, .int .i64 (q' : Int)] 53)) (.cells #[.int .i64 p, .int .i64 (q' : Int)] 53)
            rw [World.size_alloc] at hnw
            replace hnw := Lib.hid hnw
            clear h1 h2 hv he hb2 hown s1
            go_wp2_with (at_builtin; refine wpList_append_own _ rfl _ _ 51 rfl w3.heap.size 53 i0 (.agg #[.int .i64 0, .int .i64 0]) 2 16 Tryd.underlying51 hi.out hz0.out hz1.out hz2.out rfl (by decide) _ _ _ rfl ((hown5.out.alloc _).alloc _) ⟨w5.heap.size + 1, 0, none⟩ 1 1 [.int .i64 p, .int .i64 (q' : Int)] rfl rfl (fun q u hq => by match q, hq with
              | 0, hq => simp at hq; subst hq; rw [show (⟨w5.heap.size + 1, 0, none⟩ : Addr).add 0 = ⟨w5.heap.size + 1, 0, none⟩ from rfl, Lib.cell_of_heap hnw.out]; rfl
              | 1, hq => simp at hq; subst hq; rw [show (⟨w5.heap.size + 1, 0, none⟩ : Addr).add 1 = ⟨w5.heap.size + 1, 1, none⟩ from rfl, Lib.cell_of_heap hnw.out]; rfl
              | q + 2, hq => simp at hq) (fun u hu => by simp at hu; rcases hu with rfl | rfl <;> rfl) (by unfold maxLen; omega) (by omega) (by simp; omega) ?_; intro v' w6 hown' hgrow _)
            have hB6 : Below w3.heap.size w3 w6 := (balloc (balloc hb25 _) _).grown hgrow (by simp; omega) (fun k hk => (hown5.out.lt k hk).1)
            have hown6 : Hid (w6.ownsRow w3.heap.size 53 2 v' (j + 1) (flF (fs ++ [(p, (q' : Int))]))) := by
              show World.ownsRow _ _ _ _ _ _ _
              rw [flF_snoc2]
              exact hown'
            have hfl2 : Hid ((fs ++ [(p, (q' : Int))]).length = j + 1) := by
              show _ = _
              rw [List.length_append, hfl.out]; rfl
            clear hown' hgrow hown5 hb5 hb25 hF hfl
            go_wp2
            go_roundw
            case rel => exact ⟨j + 1, fs ++ [(p, (q' : Int))], by omega, rfl, rfl, by go_num, hfl2, hnx.out, hown6, hB6⟩
            case measure => simp [intOf]; omega
        · obtain rfl : j = n2 := by omega
          have hdd := decide_eq_false (show ¬ ((j : Int) < (j : Int)) by omega)
          obtain ⟨g, c, hv⟩ := row_form2 hown.out (by omega)
          subst hv
          obtain ⟨us, hus, hO⟩ := hE.out
          have hzo := hb3.size
          have hbo : Below wo.heap.size wo wr := hb3.trans (hb2.mono hzo)
          obtain ⟨O, hOd⟩ : ∃ O, O = Obj.cells #[.slice (some ⟨g, 0, none⟩) j c] 51 := ⟨_, rfl⟩
          have hkept := Lib.hid (fun O => (rr_below hO hbo).alloc O)
          have h5 := Lib.hid (fun i y hy k hk => Nat.lt_of_lt_of_le (hus.lt i y hy k hk) hzo)
          have hus2 := Lib.hid (hus.below (balloc hbo O))
          have hu2 := Lib.hid (rr_below hown.out (balloc (Below.refl wr.heap.size wr) O))
          have hrow := Lib.hid (hrk.out fs hF.out.1 (by have := hF.out.2; rwa [List.take_of_length_le (by rw [hn2'.out]; exact Nat.le_refl _)] at this))
          have hlk := Lib.hid (fun q hq => (hO.lt q hq).1)
          have hmk := hm.out
          have hbz := hb.size
          replace hOd := Lib.hid hOd
          clear hus hO hE hown hF hrk hbad
          rw [hmk] at hkept
          go_wp2_with (at_builtin; refine wpList_append_own _ rfl _ _ 28 rfl w1.heap.size 51 i1 (.slice none 0 0) 1 24 Tryd.underlying28 ki.out kz0.out kz1.out kz2.out rfl (by decide) _ _ _ rfl (hkept.out _) ⟨wr.heap.size, 0, none⟩ 1 1 [.slice (some ⟨g, 0, none⟩) j c] rfl rfl (fun q u hq => by cases q with | zero => simp at hq; subst hq; rw [show (⟨wr.heap.size, 0, none⟩ : Addr).add 0 = ⟨wr.heap.size, 0, none⟩ from rfl, World.cell?_alloc_new]; rfl | succ q => simp at hq) (fun u hu => by simp at hu; subst hu; rfl) (by unfold maxLen; omega) (by omega) (by simp; omega) ?_; intro v' w4 hown' hgrow _)
          have hgr := hgrow
          rw [← hOd.out] at hgr
          have hE4 : Hid (OwnRs w1.heap.size w4 v' (m ++ [fs])) := OwnRs.push (b2 := w3.heap.size) hus2.out (by rw [hmk]; exact hkept.out O) (by omega) h5.out (by rw [hfl.out]; exact hu2.out) (by rw [hmk]; exact hown') hgr
          have hB4 : Below w1.heap.size w1 w4 := (balloc (hb.trans (hbo.mono hbz)) O).grown hgr (by simp; omega) (fun k hk => hlk.out k hk)
          have hm4 : Hid ((m ++ [fs]).length = k + 1) := by
            show _ = _
            rw [List.length_append, hmk]; rfl
          have hR4 : Hid (∀ q, q < k + 1 → RowS (wAt ws q) (mAt (m ++ [fs]) q)) := fun q hq => by
            by_cases e : q < k
            · rw [mAt_snoc (by rw [hmk]; exact e)]
              exact hR.out q e
            · obtain rfl : q = m.length := by omega
              rw [mAt_new, hmk, hy.out]
              exact hrow.out
          clear hown' hgrow hgr hkept hus2 hu2 hb hb2 hb3 hbo hR hm hmk hfl
          go_wp2
          go_roundw
          case rel => exact ⟨k + 1, m ++ [fs], by omega, rfl, rfl, by go_num, hm4, hR4, hE4, hB4⟩
          case measure => simp [intOf]; omega
    · have hnk : (n : Int) - 1 = (k : Int) := by omega
      have hd := decide_eq_false (show ¬ ((k : Int) < (k : Int)) by omega)
      have hkn : (k : Int) < (n : Int) := by omega
      have hzw := hb.size
      have hBl : B1 < wr.heap.size := by omega
      have s0 : wr.cell? ⟨B1, k, none⟩ = some (.string (tx (wAt ws k))) := (hb.cell (p := ⟨B1, k, none⟩) hB1b).trans (hc1.out k (by omega))
      have hLI : LnI ws m ↔ wAt ws k = [] := by
        unfold LnI
        rw [hn.out, hm.out, show n - 1 = k by omega]
        exact ⟨fun h => h.2.1, fun h => ⟨by omega, h, hR.out⟩⟩
      obtain ⟨ua, un, uc, hu⟩ := hE.out.form
      subst hu
      have hE1 := hE.out.slm
      by_cases hlast : wAt ws k = []
      · have hsm := hback.out m (hLI.2 hlast)
        have q0 : wr.cell? ⟨B1, k, none⟩ = some (.string ⟨#[]⟩) := by rw [s0, hlast]; rfl
        by_cases hv : Fr.VM m
        · have hV := Lib.hid (fun W (h : Below wr.heap.size wr W) => Fr.svm_any W _ m (hE1.below h) hsm.1 hsm.2 true (fun _ => rfl) (fun h => absurd hv h))
          have hP := Lib.hid (hok.out m hv (hLI.2 hlast))
          replace hE1 := Lib.hid hE1
          clear hE hR hsm hv hlast hLI s0 hm hnk
          have hnk : (n : Int) - 1 = (k : Int) := by omega
          go_wp2_with fail
          refine (hV.out _ (Below.refl _ _)).mono ?_
          rintro r4 w4 ⟨rfl, hb_w4⟩
          have hE4 := Lib.hid (hE1.out.below hb_w4)
          go_wp2
          go_ret2
          exact ⟨⟨_, m, 0, rfl, hP.out, hE4.out⟩, by (repeat (first | exact Below.refl _ _ | assumption | refine bchain (by assumption) ?_ | refine balloc ?_ _ | apply Below.drew | apply below_drewN | (refine Below.alloc ?_ (by (try simp) <;> omega) _) | (refine Below.setCell ?_ (by (try simp) <;> omega) _)))⟩
        · have hV := Lib.hid (fun W (h : Below wr.heap.size wr W) => Fr.svm_any W _ m (hE1.below h) hsm.1 hsm.2 false (fun h => absurd h hv) (fun _ => rfl))
          have hP := Lib.hid (hno.out (fun m' hv' h' => hv (by rw [(hone.out m m' (hLI.2 hlast) h')]; exact hv')))
          clear hE hR hsm hv hlast hLI s0 hm hnk hE1
          have hnk : (n : Int) - 1 = (k : Int) := by omega
          go_wp2_with fail
          refine (hV.out _ (Below.refl _ _)).mono ?_
          rintro r4 w4 ⟨rfl, hb_w4⟩
          go_wp2
          go_ret2
          exact ⟨⟨_, [], 5, rfl, hP.out, _, _, rfl, by simp, by simp, fun c => absurd rfl c⟩, by (repeat (first | exact Below.refl _ _ | assumption | refine bchain (by assumption) ?_ | refine balloc ?_ _ | apply Below.drew | apply below_drewN | (refine Below.alloc ?_ (by (try simp) <;> omega) _) | (refine Below.setCell ?_ (by (try simp) <;> omega) _)))⟩
      · have hP := Lib.hid (hno.out (fun m' _ h' => hlast (by have := h'.2.1; rwa [hn.out, show n - 1 = k by omega] at this)))
        obtain ⟨T, hT⟩ : ∃ T, tx (wAt ws k) = T := ⟨_, rfl⟩
        have hq : (T.toList == []) = false := by
          rw [← hT, show (tx (wAt ws k)).toList = wAt ws k from ByteArray.toList_mk _]
          exact beq_false_of_ne hlast
        rw [hT] at s0
        clear hE hR hlast hLI hm hnk hE1 hT
        have hnk : (n : Int) - 1 = (k : Int) := by omega
        go_wp2
        go_ret2
        exact ⟨⟨_, [], 5, rfl, hP.out, _, _, rfl, by simp, by simp, fun c => absurd rfl c⟩, by (repeat (first | exact Below.refl _ _ | assumption | refine bchain (by assumption) ?_ | refine balloc ?_ _ | apply Below.drew | apply below_drewN | (refine Below.alloc ?_ (by (try simp) <;> omega) _) | (refine Below.setCell ?_ (by (try simp) <;> omega) _)))⟩
end
end Go.Proofs.YtdbidlnkaplekaaDoor
