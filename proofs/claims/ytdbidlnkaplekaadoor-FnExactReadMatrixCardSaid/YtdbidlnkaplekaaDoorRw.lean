/-
  readRow: the fractions of a line (the program's contract).
-/
import Derived.Test.YtdbidlnkaplekaaDoorRwI
import Derived.Maps.OwnIn
import Derived.Lib.SmallJoins
import Derived.OwnWalk
namespace Go.Proofs.YtdbidlnkaplekaaDoor
open Go.RowKit Go.Shelf
set_option maxRecDepth 100000
attribute [local go_sem] Oper.semAt_some
attribute [-go_sem] run_slice_string run_slice_string_l run_slice_string_h
/-- what a round leaves that ends the call -/
structure RwX (w : World) (G : Nat) (l : List UInt8) (W : World) : Prop where
  below : Below G w W
  r0 : W.cell? ⟨G, 0, none⟩ = some (.slice none 0 0)
  r1 : W.cell? ⟨G + 1, 0, none⟩ = some (.bool false)
  no : ∀ fs, ¬ RowTx l fs
theorem RwX.own (w : World) (G : Nat) (l : List UInt8) : OwnFrom (G + 6) (fun (_ : List (List UInt8)) W => RwX w G l W) := fun pre W W' row h hg hr => by
  have z0 := World.block_lt_of_cell? W _ h.r0
  have z1 := World.block_lt_of_cell? W _ h.r1
  have hb : Below G w W' := h.below.grown hg (Nat.le_of_lt z0) (fun k e => by have := (hr k e).1; omega)
  exact ⟨hb, (World.cell?_of_block (a := ⟨G, 0, none⟩) (hg.block G z0 (fun e => by have := (hr G e.symm).1; omega))).trans h.r0, (World.cell?_of_block (a := ⟨G + 1, 0, none⟩) (hg.block (G + 1) z1 (fun e => by have := (hr (G + 1) e.symm).1; omega))).trans h.r1, h.no⟩
theorem splA_cnt (x : UInt8) : ∀ (a acc : List UInt8), (splA x acc a).length ≤ a.length + 1 := by
  intro a
  induction a with
  | nil => intro acc; simp [splA]
  | cons c r ih =>
    intro acc
    rw [splA]
    split
    · have := ih []
      simp
      omega
    · have := ih (acc ++ [c])
      simp
      omega
theorem info_frac : (Tryd.prog.info? 53).map (fun i => (i.zero, i.size, i.bytes)) = some (some (.agg #[.int .i64 0, .int .i64 0]), 2, 16) := by kernel_rfl
section
variable (w : World)
set_option maxHeartbeats 4000000 in
theorem irr_any (l : List UInt8) (hl : l.length ≤ 1048577) (hL : LibW w) :
    Calls Tryd.prog 24 #[.string (tx l)] w fun r w' => ((∃ fs v, r = .returned (.tuple #[v, .bool true]) ∧ RowTx l fs ∧ Hid (w'.ownsRow w.heap.size 53 2 v fs.length (flF fs))) ∨ (r = .returned (.tuple #[.slice none 0 0, .bool false]) ∧ ∀ fs, ¬ RowTx l fs)) ∧ Below w.heap.size w w' := by
  have hCu := Lib.hid (fun W => cutnl_any W l (by omega))
  have hSp := Lib.hid (fun W t s => split_call W t s)
  have hRf := Lib.hid (fun W (h : Below w.heap.size w W) y (hy : y.length ≤ 2000000) => ird_any W y hy (hL.below h))
  have e32 : ({ data := #[32] } : ByteArray) = tx [32] := rfl
  have e10 : ({ data := #[10] } : ByteArray) = tx [10] := rfl
  obtain ⟨tl, htl⟩ : ∃ s, tx l = s := ⟨_, rfl⟩
  rw [htl] at hCu ⊢
  clear htl hL
  refine (callsIn_wide (n := 6)).1 ?_
  refine callsIn_of_wp_marks Tryd.func24 rfl trivial ?_ rfl
  simp only [Tryd.ntmps24, List.size_toArray, List.length_cons, List.length_nil, Nat.reduceAdd, Nat.reduceSub, Array.replicate_succ, Array.replicate_zero, List.push_toArray, List.append_toArray, List.nil_append, List.cons_append]
  gi_wp2_with fail
  try rw [e10]
  refine ⟨trivial, ?_⟩
  gi_at_call 39
  refine (callsIn_wide.2 (hCu.out _)).mono ?_
  rintro r1 w1 ⟨⟨y, b, rfl, hy1, hy2, hyl⟩, rfl⟩
  have hyl' : y.length ≤ 2000000 := by omega
  replace hy1 := Lib.hid hy1
  replace hy2 := Lib.hid hy2
  have hc0 : ((w.alloc (.cells #[.slice none 0 0] 51)).alloc (.cells #[.bool false] 4)).cell? ⟨w.heap.size, 0, none⟩ = some (.slice none 0 0) := by
    rw [World.cell?_alloc_lt _ _ _ (by simp), World.cell?_alloc_new]; rfl
  have hc1 : ((w.alloc (.cells #[.slice none 0 0] 51)).alloc (.cells #[.bool false] 4)).cell? ⟨w.heap.size + 1, 0, none⟩ = some (.bool false) := by
    have h1 := World.alloc_heap_new (w.alloc (.cells #[.slice none 0 0] 51)) (.cells #[.bool false] 4)
    rw [World.size_alloc] at h1
    rw [Lib.cell_of_heap h1]; rfl
  cases b
  · have hno := Lib.hid (fun fs (h : RowTx l fs) => by obtain ⟨_, z, hz, _⟩ := h; exact hy2.out rfl z hz)
    gi_wp2
    exact ⟨.tuple #[.slice none 0 0, .bool false], by simp [results, Tryd.results24, go_sem, hc0, hc1], .inr ⟨rfl, hno.out⟩, by (repeat (first | exact Below.refl _ _ | assumption | refine bchain (by assumption) ?_ | refine balloc ?_ _ | apply Below.drew | apply below_drewN | (refine Below.alloc ?_ (by (try simp) <;> omega) _) | (refine Below.setCell ?_ (by (try simp) <;> omega) _)))⟩
  · clear hc0 hc1
    gi_wp2_with fail
    try rw [e32]
    refine ⟨trivial, ?_⟩
    gi_at_call 40
    refine (callsIn_wide.2 (hSp.out _ _ _)).mono ?_
    rintro r2 w2 ⟨rfl, rfl⟩
    gi_wp2_with fail
    obtain ⟨G, hG⟩ : ∃ G, w.heap.size = G := ⟨_, rfl⟩
    obtain ⟨W0, hW0⟩ : ∃ W0, W0 = (((((w.alloc (.cells #[.slice none 0 0] 51)).alloc (.cells #[.bool false] 4)).alloc (.cells #[.slice none 0 0] 51)).alloc (.cells #[.string (tx y)] 9)).alloc (.cells #[.string (tx [32])] 9)).alloc (.cells #[.int .i64 0] 3) := ⟨_, rfl⟩
    have sz : ∀ (W : World) (o : Obj), (W.alloc o).heap.size = W.heap.size + 1 := fun W o => by simp
    have old : ∀ (W : World) (o : Obj) (k : Nat), k < W.heap.size → (W.alloc o).heap[k]? = W.heap[k]? := fun W o k hk => Below.heap_alloc _ _ _ hk
    have new : ∀ (W : World) (o : Obj), (W.alloc o).heap[W.heap.size]? = some o := fun W o => World.alloc_heap_new _ _
    have h0 : RwI w G [] W0 := by
      subst hG
      have b0 : W0.heap[w.heap.size]? = some (.cells #[.slice none 0 0] 51) := by
        rw [hW0, old _ _ _ (by simp only [sz]; omega), old _ _ _ (by simp only [sz]; omega), old _ _ _ (by simp only [sz]; omega), old _ _ _ (by simp only [sz]; omega), old _ _ _ (by simp only [sz]; omega), new]
      have b1 : W0.heap[w.heap.size + 1]? = some (.cells #[.bool false] 4) := by
        rw [hW0, old _ _ _ (by simp only [sz]; omega), old _ _ _ (by simp only [sz]; omega), old _ _ _ (by simp only [sz]; omega), old _ _ _ (by simp only [sz]; omega), ← sz w (.cells #[.slice none 0 0] 51), new]
      have b2 : W0.heap[w.heap.size + 2]? = some (.cells #[.slice none 0 0] 51) := by
        have := new ((w.alloc (.cells #[.slice none 0 0] 51)).alloc (.cells #[.bool false] 4)) (.cells #[.slice none 0 0] 51)
        simp only [sz] at this
        rw [hW0, old _ _ _ (by simp only [sz]; omega), old _ _ _ (by simp only [sz]; omega), old _ _ _ (by simp only [sz]; omega)]
        exact this
      have b4 : W0.heap[w.heap.size + 4]? = some (.cells #[.string (tx [32])] 9) := by
        have := new ((((w.alloc (.cells #[.slice none 0 0] 51)).alloc (.cells #[.bool false] 4)).alloc (.cells #[.slice none 0 0] 51)).alloc (.cells #[.string (tx y)] 9)) (.cells #[.string (tx [32])] 9)
        simp only [sz] at this
        rw [hW0, old _ _ _ (by simp only [sz]; omega)]
        exact this
      have b5 : W0.heap[w.heap.size + 5]? = some (.cells #[.int .i64 0] 3) := by
        have := new (((((w.alloc (.cells #[.slice none 0 0] 51)).alloc (.cells #[.bool false] 4)).alloc (.cells #[.slice none 0 0] 51)).alloc (.cells #[.string (tx y)] 9)).alloc (.cells #[.string (tx [32])] 9)) (.cells #[.int .i64 0] 3)
        simp only [sz] at this
        rw [hW0]
        exact this
      refine ⟨by rw [hW0]; (repeat (first | exact Below.refl _ _ | assumption | refine bchain (by assumption) ?_ | refine balloc ?_ _ | apply Below.drew | apply below_drewN | (refine Below.alloc ?_ (by (try simp) <;> omega) _) | (refine Below.setCell ?_ (by (try simp) <;> omega) _))), (Array.getElem?_eq_some_iff.1 b5).1, by rw [Lib.cell_of_heap b0]; rfl, ?_, by rw [Lib.cell_of_heap b1]; rfl, ?_, ?_, ⟨by rw [Lib.cell_of_heap b4]; rfl, by rw [Lib.cell_of_heap b5]; rfl⟩, [], .slice none 0 0, rfl, fun _ h => by simp at h, by rw [Lib.cell_of_heap b2]; rfl, by simp [flF], .inl ⟨rfl, rfl⟩⟩
      · unfold World.frozen?; rw [b0]; rfl
      · unfold World.frozen?; rw [b1]; rfl
      · unfold World.frozen?; rw [b2]; rfl
    have hY : ∀ x ∈ splA 32 [] y, x.length ≤ 2000000 := fun x hx => splA_len hyl' x hx
    have hc3 : W0.cell? ⟨G + 3, 0, none⟩ = some (.string (tx y)) := by
      subst hG
      have := new (((w.alloc (.cells #[.slice none 0 0] 51)).alloc (.cells #[.bool false] 4)).alloc (.cells #[.slice none 0 0] 51)) (.cells #[.string (tx y)] 9)
      simp only [sz] at this
      rw [Lib.cell_of_heap (show W0.heap[w.heap.size + 3]? = some (.cells #[.string (tx y)] 9) by rw [hW0, old _ _ _ (by simp only [sz]; omega), old _ _ _ (by simp only [sz]; omega)]; exact this)]
      rfl
    have hf3 : W0.frozen? ⟨G + 3, 0, none⟩ = false := by
      subst hG
      have := new (((w.alloc (.cells #[.slice none 0 0] 51)).alloc (.cells #[.bool false] 4)).alloc (.cells #[.slice none 0 0] 51)) (.cells #[.string (tx y)] 9)
      simp only [sz] at this
      have h3 : W0.heap[w.heap.size + 3]? = some (.cells #[.string (tx y)] 9) := by rw [hW0, old _ _ _ (by simp only [sz]; omega), old _ _ _ (by simp only [sz]; omega)]; exact this
      unfold World.frozen?; rw [h3]; rfl
    have hz6 : W0.heap.size = G + 6 := by rw [hW0, ← hG]; simp only [sz]
    have hseq := split_seq (G + 4) (G + 3) (G + 5) 5 y W0 hyl' hc3 hf3
    rw [← hW0]
    rw [show (w.heap.size + 1 + 1 + 1 + 1 : Nat) = w.heap.size + 4 by omega, show (w.heap.size + 1 + 1 + 1 + 2 : Nat) = w.heap.size + 5 by omega, show (w.heap.size + 1 + 1 + 1 : Nat) = w.heap.size + 3 by omega, show (w.heap.size + 1 + 1 : Nat) = w.heap.size + 2 by omega, hG]
    obtain ⟨ty, hty⟩ : ∃ t, tx y = t := ⟨_, rfl⟩
    rw [hty]
    clear hW0 old new sz hc3 hf3
    refine wpIn_range_line rfl (by omega) (gf := 73) (lb := #[.pointer (some ⟨G + 4, 0, none⟩), .pointer (some ⟨G + 3, 0, none⟩), .pointer (some ⟨G + 5, 0, none⟩)]) rfl trivial (enters_of Tryd.func73 (by kernel_rfl) rfl)
      hseq (Below.refl _ _) (by omega) rfl
      (fun pre W => RwI w G pre W) (fun c _ W => c = .ret ∧ RwX w G l W) (by rw [hz6]; exact RwI.own w G) (RwI.set w G) (fun s A h => h.sp)
      (fun c pre W W' row h hg hr => ⟨h.1, RwX.own w G l pre W W' row h.2 hg (by rw [hz6] at hr; exact hr)⟩) h0
      (fun x => { tmps := #[.string tl, undef, .pointer (some ⟨G, 0, none⟩), .pointer (some ⟨G + 1, 0, none⟩), .string ty, .bool true, .pointer (some ⟨G + 2, 0, none⟩), .string (tx x), undef, undef, .tuple #[.string ty, .bool true], .string tl, .tuple #[.string ty, .bool true], .string ty, .bool true, .bool true, .bool false, .string ty, .func (.func 73) #[] #[.pointer (some ⟨G + 4, 0, none⟩), .pointer (some ⟨G + 3, 0, none⟩), .pointer (some ⟨G + 5, 0, none⟩)], .string (tx x), undef, undef, undef, undef, undef, undef, undef, undef, undef, undef, undef, undef], defers := [] }) ?assign ?body ?done ?stop
    case assign =>
      intro l' x W K hK
      gi_wp2
      exact hK
    case body =>
      rintro l' pre x rest W hl ⟨rr, hrr⟩ hL hI
      have hxm : x ∈ splA 32 [] y := by rw [hL]; simp
      have hC := Lib.hid (hRf.out W (by rw [hG]; exact hI.below) x (hY x hxm))
      have hI' := Lib.hid hI
      obtain ⟨tx', htx'⟩ : ∃ t, tx x = t := ⟨_, rfl⟩
      rw [htx'] at hC ⊢
      gi_wp2_with fail
      refine ⟨trivial, ?_⟩
      gi_at_call 41
      refine (CallsIn.inRound l' (callsIn_wide.2 hC.out)).mono ?_
      rintro r3 w3 ⟨⟨p, q, c, rfl, hrd⟩, hb3⟩
      have hI3 := hI'.out.below_of hb3
      rcases hrd with ⟨rfl, hv, q', rfl, hxt⟩ | ⟨rfl, rfl, rfl, hno⟩
      · obtain ⟨fs, u, a1, a2, a3, a4⟩ := hI3.l
        obtain ⟨i0, hi, hz0, hz1, hz2⟩ := info_parts info_frac
        have hfl : fs.length ≤ 1048577 := by
          have h1 := congrArg List.length hL
          have h2 := splA_cnt 32 y []
          rw [a1] at h1
          simp only [List.length_append, List.length_map, List.length_cons] at h1
          omega
        obtain ⟨W4, hW4⟩ : ∃ W4, W4 = w3.alloc (.cells #[.int .i64 p, .int .i64 (q' : Int)] 53) := ⟨_, rfl⟩
        have hI4 : RwI w G pre W4 := by rw [hW4]; exact hI3.below_of (balloc (Below.refl _ _) _)
        have hb4 : Below W.heap.size W W4 := by rw [hW4]; exact balloc hb3 _
        have k4 : W4.heap[w3.heap.size]? = some (.cells #[.int .i64 p, .int .i64 (q' : Int)] 53) := by rw [hW4]; exact World.alloc_heap_new _ _
        have hrow4 : W4.ownsRow (G + 6) 53 2 u fs.length (flF fs) := by rw [hW4]; exact a4.alloc _
        have hmO : ∀ O, (w3.alloc O).cell? ⟨G + 2, 0, none⟩ = some u := fun O => ((balloc (Below.refl w3.heap.size w3) O).cell (p := ⟨G + 2, 0, none⟩) (by show G + 2 < _; have := hI3.lt; omega)).trans a3
        have hfO : ∀ O O', ((w3.alloc O).alloc O').frozen? ⟨G + 2, 0, none⟩ = false := fun O O' => (((hI3.below_of (balloc (Below.refl w3.heap.size w3) O)).below_of (balloc (Below.refl _ _) O'))).fM
        have hlt3 := hI3.lt
        have hmO' := hmO
        have hz4 : W4.heap.size = w3.heap.size + 1 := by rw [hW4]; simp
        have hnb : ∀ q, q < G + 6 → some q ≠ Value.ownBlock u := fun q hq c => by
          have := (a4.lt q c.symm).1
          omega
        have hbg : ∀ q, Value.ownBlock u = some q → G + 6 ≤ q := fun q hq => (a4.lt q hq).1
        have hob : ∀ q, Value.ownBlock u = some q → ∃ cur, W4.heap[q]? = some (.cells cur 53 (0, 0)) := fun q hq => by
          rcases hrow4.2 with ⟨e, _⟩ | ⟨g, cap, cur, e, _, b2, _⟩
          · rw [e] at hq; cases hq
          · rw [e] at hq
            obtain rfl : g = q := by simpa [Value.ownBlock] using hq
            exact ⟨cur, b2⟩
        have hI4' := Lib.hid hI4
        have hb4' := Lib.hid hb4
        have hrow4' := Lib.hid hrow4
        have hW4' := Lib.hid hW4
        replace hfO := Lib.hid hfO
        have hmO2 := Lib.hid hmO'
        clear hmO'
        replace hnb := Lib.hid hnb
        replace hbg := Lib.hid hbg
        replace hob := Lib.hid hob
        have ha1 := Lib.hid a1
        have ha2 := Lib.hid a2
        have hrow3' := a4
        have hnw := World.alloc_heap_new (w3.alloc (.cells #[.int .i64 p, .int .i64 (q' : Int)] 53)) (.cells #[.int .i64 p, .int .i64 (q' : Int)] 53)
        rw [World.size_alloc] at hnw
        replace hnw := Lib.hid hnw
        replace hi := Lib.hid hi
        replace hz0 := Lib.hid hz0
        replace hz1 := Lib.hid hz1
        replace hz2 := Lib.hid hz2
        clear hI hI3 a1 a2 a3 a4 hxm hrr hrow4 hI4 hb4 hW4 k4 hL
        have hrow3 := Lib.hid (fun O => hrow3'.alloc O)
        gi_wp2_with (gi_at_builtin; refine wpListIn_append_own_at _ rfl _ _ 51 rfl (G + 6) 53 i0 (.agg #[.int .i64 0, .int .i64 0]) 2 16 Tryd.underlying51 hi.out hz0.out hz1.out hz2.out rfl (by decide) _ _ _ rfl ((hrow3.out _).alloc _) ⟨w3.heap.size + 1, 0, none⟩ 1 1 [.int .i64 p, .int .i64 (q' : Int)] rfl rfl (fun q u hq => by match q, hq with
          | 0, hq => simp at hq; subst hq; rw [show (⟨w3.heap.size + 1, 0, none⟩ : Addr).add 0 = ⟨w3.heap.size + 1, 0, none⟩ from rfl, Lib.cell_of_heap hnw.out]; rfl
          | 1, hq => simp at hq; subst hq; rw [show (⟨w3.heap.size + 1, 0, none⟩ : Addr).add 1 = ⟨w3.heap.size + 1, 1, none⟩ from rfl, Lib.cell_of_heap hnw.out]; rfl
          | q + 2, hq => simp at hq) (fun u hu => by simp at hu; rcases hu with rfl | rfl <;> rfl) (by unfold maxLen; omega) (by omega) (by simp; omega) ?_; intro v' w5 hown' hgrow _ hat; obtain ⟨g, cap, rfl⟩ := Go.Joins.ownsRow_form hown' (by omega); have c1 := hgrow.cell (a := ⟨G + 2, 0, none⟩) ((World.cell?_alloc_lt _ _ _ (by simp; omega)).trans (hmO2.out _)) (hnb.out (G + 2) (by omega)); have c2 : w5.frozen? ⟨G + 2, 0, none⟩ = false := (World.frozen?_of_block (a := ⟨G + 2, 0, none⟩) (hgrow.block (G + 2) (by simp; omega) (hnb.out (G + 2) (by omega)))).trans (hfO.out _ _))
        have hgr : World.grownBy _ w5 (Value.ownBlock u) := hgrow
        rw [← hW4'.out] at hgr
        have hIX := hI4'.out.below_of (balloc (Below.refl W4.heap.size W4) (.cells #[.int .i64 p, .int .i64 (q' : Int)] 53))
        have hz5 := hgr.size
        rw [World.size_alloc] at hz5
        have h5 : ∀ k, k < W4.heap.size → some k ≠ Value.ownBlock u → w5.heap[k]? = W4.heap[k]? := fun k hk hne => (hgr.block k (by rw [World.size_alloc]; omega) hne).trans (Below.heap_alloc _ _ _ hk)
        have h6 : ∀ k, k < G + 6 → k ≠ G + 2 → (w5.setCell ⟨G + 2, 0, none⟩ (.slice (some ⟨g, 0, none⟩) (fs.length + 1) cap)).heap[k]? = W4.heap[k]? := fun k hk hne => (Below.heap_setCell _ _ _ _ hne).trans (h5 k (by omega) (hnb.out k hk))
        have hI4 := hI4'.out
        have hWz := hb4'.out.size
        refine ⟨⟨by show _ ≤ (World.setCell _ _ _).heap.size; simp; omega, fun k o hk ho hn => ?_⟩, ?_, ⟨?_, by show _ < (World.setCell _ _ _).heap.size; simp; omega, ?_, ?_, ?_, ?_, ?_, ⟨?_, ?_⟩, fs ++ [(p, (q' : Int))], _, ?_, ?_, World.cell?_setCell_same _ _ _ c1, ?_⟩⟩
        · have hkl := (Array.getElem?_eq_some_iff.1 ho).1
          have ho4 := (hb4'.out.block k hkl).trans ho
          refine (Below.heap_setCell _ _ _ _ (by show k ≠ G + 2; omega)).trans ((h5 k (by omega) (fun c => ?_)).trans ho4)
          obtain ⟨cur, hc⟩ := hob.out k c.symm
          rw [ho4] at hc
          obtain rfl := Option.some.inj hc
          cases hn
        · exact (h6 (G + 3) (by omega) (by omega)).trans (hb4'.out.block _ (by have := hI'.out.lt; omega))
        · exact (hIX.below.grown hgr (by rw [World.size_alloc]; omega) (fun q hq => by have := hbg.out q hq; omega)).setCell (p := ⟨G + 2, 0, none⟩) (by show G ≤ G + 2; omega) _
        · exact (World.cell?_of_block (a := ⟨G, 0, none⟩) (h6 G (by omega) (by omega))).trans hI4.r0
        · exact (World.frozen?_of_block (a := ⟨G, 0, none⟩) (h6 G (by omega) (by omega))).trans hI4.f0
        · exact (World.cell?_of_block (a := ⟨G + 1, 0, none⟩) (h6 (G + 1) (by omega) (by omega))).trans hI4.r1
        · exact (World.frozen?_of_block (a := ⟨G + 1, 0, none⟩) (h6 (G + 1) (by omega) (by omega))).trans hI4.f1
        · rw [World.frozen?_setCell]; exact c2
        · exact (World.cell?_of_block (a := ⟨G + 4, 0, none⟩) (h6 (G + 4) (by omega) (by omega))).trans hI4.sp.1
        · exact (World.cell?_of_block (a := ⟨G + 5, 0, none⟩) (h6 (G + 5) (by omega) (by omega))).trans hI4.sp.2
        · rw [ha1.out, hxt]; simp [fW]
        · intro f hf
          rcases List.mem_append.1 hf with hf | hf
          · exact ha2.out f hf
          · obtain rfl := List.mem_singleton.1 hf
            exact hv
        · rw [flF_snoc, List.length_append]
          exact ownsRow_setCell_below hown' (by show G + 2 < G + 6; omega) _
      · have hbad : ∀ fs, ¬ RowTx l fs := fun fs h => by
          obtain ⟨hA, z, hz, hsp⟩ := h
          have hzy : z = y := by
            have h1 : y ++ [10] = z ++ [10] := (hy1.out (by first | trivial | rfl)).symm.trans hz
            exact (List.append_cancel_right h1).symm
          rw [hzy] at hsp
          rw [hsp] at hxm
          obtain ⟨f, hf, hfx⟩ := List.mem_map.1 hxm
          have hvf := hA f hf
          have hq0 : f.2 = (f.2.toNat : Int) := by have := hvf.1; omega
          exact hno f.1 f.2.toNat (by rw [← hq0]; exact hvf) hfx.symm
        replace hbad := Lib.hid hbad
        have hI3' := Lib.hid hI3
        have hal := fun O => hI3.below_of (balloc (Below.refl w3.heap.size w3) O)
        have r0 := fun O => (hal O).r0
        have f0 := fun O => (hal O).f0
        have r1 := fun O => (hal O).r1
        have f1 := fun O => (hal O).f1
        have hal' := Lib.hid hal
        have hb3' := Lib.hid hb3
        clear hI hI3 hxm hno hrr hal
        gi_wp2
        have hA := hal'.out (.cells #[.int .i64 0, .int .i64 0] 53)
        refine ⟨⟨?_, fun k o hk ho hn => ?_⟩, rfl, ⟨?_, ?_, ?_, hbad.out⟩⟩
        · have h3 := hb3'.out.size
          have h4 : (w3.alloc (.cells #[.int .i64 0, .int .i64 0] 53)).heap.size = w3.heap.size + 1 := by simp
          show _ ≤ (World.setCell _ _ _).heap.size
          simp
          omega
        · have hkl := (Array.getElem?_eq_some_iff.1 ho).1
          have h3 := hb3'.out.size
          exact (Below.heap_setCell _ _ _ _ (by show k ≠ G + 1; omega)).trans ((Below.heap_setCell _ _ _ _ (by show k ≠ G; omega)).trans ((Below.heap_alloc _ _ _ (by omega)).trans ((hb3'.out.block k hkl).trans ho)))
        · exact (hA.below.setCell (p := ⟨G, 0, none⟩) (Nat.le_refl _) _).setCell (p := ⟨G + 1, 0, none⟩) (by show G ≤ G + 1; omega) _
        · exact (World.cell?_setCell_other _ _ _ _ (by simp)).trans (World.cell?_setCell_same _ _ _ hA.r0)
        · exact World.cell?_setCell_same _ _ _ ((World.cell?_setCell_other _ _ _ _ (by simp)).trans hA.r1)
    case done =>
      rintro D W hD hI hK
      obtain ⟨fs, u, a1, a2, a3, a4⟩ := hI.l
      obtain ⟨ua, un, uc, rfl⟩ : ∃ a n c, u = .slice a n c := by rcases a4.2 with ⟨rfl, _⟩ | ⟨g, cap, cur, rfl, _⟩ <;> exact ⟨_, _, _, rfl⟩
      have r0 := hI.r0
      have f0 := hI.f0
      have r1 := hI.r1
      have f1 := hI.f1
      have hDz : G + 6 ≤ D := by omega
      have hK2 : ((W.setCell ⟨G, 0, none⟩ (.slice ua un uc)).setCell ⟨G + 1, 0, none⟩ (.bool true)).heap[D]? = some (.deferred (some [])) :=
        (Below.heap_setCell _ _ _ _ (by show D ≠ G + 1; omega)).trans ((Below.heap_setCell _ _ _ _ (by show D ≠ G; omega)).trans hK)
      have hb2 : Below G w ((W.setCell ⟨G, 0, none⟩ (.slice ua un uc)).setCell ⟨G + 1, 0, none⟩ (.bool true)) := (hI.below.setCell (p := ⟨G, 0, none⟩) (Nat.le_refl _) _).setCell (p := ⟨G + 1, 0, none⟩) (by show G ≤ G + 1; omega) _
      have s0 : ((W.setCell ⟨G, 0, none⟩ (.slice ua un uc)).setCell ⟨G + 1, 0, none⟩ (.bool true)).cell? ⟨G, 0, none⟩ = some (.slice ua un uc) := (World.cell?_setCell_other _ _ _ _ (by simp)).trans (World.cell?_setCell_same _ _ _ r0)
      have s1 : ((W.setCell ⟨G, 0, none⟩ (.slice ua un uc)).setCell ⟨G + 1, 0, none⟩ (.bool true)).cell? ⟨G + 1, 0, none⟩ = some (.bool true) := World.cell?_setCell_same _ _ _ ((World.cell?_setCell_other _ _ _ _ (by simp)).trans r1)
      have c0 := cell_kept s0 (grownBy_putObj' _ D (.deferred none)) (fun r e => by cases e; exact ⟨_, hK2, rfl⟩)
      have c1 := cell_kept s1 (grownBy_putObj' _ D (.deferred none)) (fun r e => by cases e; exact ⟨_, hK2, rfl⟩)
      have hbe : Hid (Below G w (((W.setCell ⟨G, 0, none⟩ (.slice ua un uc)).setCell ⟨G + 1, 0, none⟩ (.bool true)).putObj D (.deferred none))) := hb2.trans (below_putObj _ _ _ (by omega))
      have hrow : Hid ((((W.setCell ⟨G, 0, none⟩ (.slice ua un uc)).setCell ⟨G + 1, 0, none⟩ (.bool true)).putObj D (.deferred none)).ownsRow G 53 2 (.slice ua un uc) fs.length (flF fs)) := by
        refine ⟨a4.1, ?_⟩
        rcases a4.2 with hn | ⟨g, cap, cur, e, b1, b2, b3⟩
        · exact .inl hn
        · refine .inr ⟨g, cap, cur, e, by omega, ?_, b3⟩
          have hgD : g ≠ D := fun c => by rw [c, hK] at b2; cases b2
          rw [World.putObj_heap_other hgD]
          exact (Below.heap_setCell _ _ _ _ (by show g ≠ G + 1; omega)).trans ((Below.heap_setCell _ _ _ _ (by show g ≠ G; omega)).trans b2)
      have htx : Hid (RowTx l fs) := ⟨a2, y, hy1.out (by first | trivial | rfl), a1⟩
      clear a1 a2 a4 hI hb2 s0 s1 hK
      gi_wp2
      refine ⟨by simp, .inl ⟨_, _, rfl, run_takeDeferred hK2, ?_⟩⟩
      exact ⟨.tuple #[.slice ua un uc, .bool true], by simp [results, Tryd.results24, go_sem, c0, c1], .inl ⟨fs, .slice ua un uc, rfl, htx.out, by rw [hG]; exact hrow⟩, by rw [hG]; exact hbe.out⟩
    case stop =>
      rintro D c pre W hD ⟨rfl, hX⟩ hK
      have c0 := cell_kept hX.r0 (grownBy_putObj' _ D (.deferred none)) (fun r e => by cases e; exact ⟨_, hK, rfl⟩)
      have c1 := cell_kept hX.r1 (grownBy_putObj' _ D (.deferred none)) (fun r e => by cases e; exact ⟨_, hK, rfl⟩)
      have hbe : Hid (Below G w (W.putObj D (.deferred none))) := hX.below.trans (below_putObj _ _ _ (by omega))
      gi_wp2
      refine ⟨by simp, .inl ⟨_, _, rfl, run_takeDeferred hK, ?_⟩⟩
      exact ⟨.tuple #[.slice none 0 0, .bool false], by simp [results, Tryd.results24, go_sem, c0, c1], .inr ⟨rfl, hX.no⟩, by rw [hG]; exact hbe.out⟩
end
end Go.Proofs.YtdbidlnkaplekaaDoor
