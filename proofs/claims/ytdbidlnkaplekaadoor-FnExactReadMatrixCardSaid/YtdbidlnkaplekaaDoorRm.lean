/-
  ReadMatrix: the program's contract.
-/
import Derived.Test.YtdbidlnkaplekaaDoorRw
import Derived.Test.YtdbidlnkaplekaaDoorLt
import Derived.Test.YtdbidlnkaplekaaDoorOm
namespace Go.Proofs.YtdbidlnkaplekaaDoor
open Go.RowKit Go.Shelf
set_option maxRecDepth 100000
attribute [local go_sem] Oper.semAt_some
attribute [-go_sem] run_slice_string run_slice_string_l run_slice_string_h
/-- what the loop over the lines keeps: two boxes of results, the list's box, the iterator's (G+3 its text), the list's own memory from G+4 on -/
structure RmI (w : World) (G : Nat) (pre : List (List UInt8)) (W : World) : Prop where
  below : Below G w W
  lt : G + 3 < W.heap.size
  r0 : W.cell? ⟨G, 0, none⟩ = some (.slice none 0 0)
  f0 : W.frozen? ⟨G, 0, none⟩ = false
  r1 : W.cell? ⟨G + 1, 0, none⟩ = some (.int .i64 0)
  f1 : W.frozen? ⟨G + 1, 0, none⟩ = false
  fM : W.frozen? ⟨G + 2, 0, none⟩ = false
  l : ∃ (m : List (List (Int × Int))) (u : Value), LnTx pre m ∧ W.cell? ⟨G + 2, 0, none⟩ = some u ∧ OwnRs (G + 4) W u m
theorem RmI.keep {w : World} {G : Nat} {pre : List (List UInt8)} {W W' : World} (h : RmI w G pre W) (hb : Below G w W') (hz : W.heap.size ≤ W'.heap.size)
    (h1 : ∀ k, k < G + 4 → k ≠ G + 3 → W'.heap[k]? = W.heap[k]?) (h2 : ∀ g cur t, G + 4 ≤ g → W.heap[g]? = some (.cells cur t (0, 0)) → W'.heap[g]? = W.heap[g]?) : RmI w G pre W' := by
  have e0 := h1 G (by omega) (by omega)
  have e1 := h1 (G + 1) (by omega) (by omega)
  have e2 := h1 (G + 2) (by omega) (by omega)
  refine ⟨hb, Nat.lt_of_lt_of_le h.lt hz, (World.cell?_of_block (a := ⟨G, 0, none⟩) e0).trans h.r0, (World.frozen?_of_block (a := ⟨G, 0, none⟩) e0).trans h.f0, (World.cell?_of_block (a := ⟨G + 1, 0, none⟩) e1).trans h.r1, (World.frozen?_of_block (a := ⟨G + 1, 0, none⟩) e1).trans h.f1,
    (World.frozen?_of_block (a := ⟨G + 2, 0, none⟩) e2).trans h.fM, ?_⟩
  obtain ⟨m, u, a1, a3, a4⟩ := h.l
  exact ⟨m, u, a1, (World.cell?_of_block (a := ⟨G + 2, 0, none⟩) e2).trans a3, a4.same h2⟩
theorem RmI.own (w : World) (G : Nat) : OwnFrom (G + 4) (RmI w G) := fun pre W W' row h hg hr =>
  h.keep (h.below.grown hg (by have := h.lt; omega) (fun k e => by have := (hr k e).1; omega)) hg.size
    (fun k hk _ => hg.block k (by have := h.lt; omega) (fun e => by have := (hr k e.symm).1; omega))
    (fun g cur t _ hc => hg.block g (Array.getElem?_eq_some_iff.1 hc).1 (fun e => by
      obtain ⟨_, o, ho, hn⟩ := hr g e.symm
      rw [hc] at ho
      obtain rfl := Option.some.inj ho
      cases hn))
theorem RmI.set (w : World) (G : Nat) : ∀ s A x, RmI w G s A → RmI w G s (A.setCell ⟨G + 3, 0, none⟩ x) := fun s A x h =>
  h.keep (h.below.setCell (p := ⟨G + 3, 0, none⟩) (by show G ≤ G + 3; omega) _) (by simp)
    (fun k _ hk => Below.heap_setCell _ _ _ _ hk) (fun g cur t hg _ => Below.heap_setCell _ _ _ _ (by show g ≠ G + 3; omega))
theorem RmI.below_of {w : World} {G : Nat} {pre : List (List UInt8)} {W W' : World} (h : RmI w G pre W) (hb : Below W.heap.size W W') : RmI w G pre W' :=
  h.keep (h.below.trans (hb.mono (by have := h.lt; omega))) hb.size (fun k hk _ => hb.block k (by have := h.lt; omega)) (fun g cur t _ hc => hb.block g (Array.getElem?_eq_some_iff.1 hc).1)
/-- what a round leaves that ends the call -/
structure RmX (w : World) (G : Nat) (l : List UInt8) (W : World) : Prop where
  below : Below G w W
  r0 : W.cell? ⟨G, 0, none⟩ = some (.slice none 0 0)
  r1 : W.cell? ⟨G + 1, 0, none⟩ = some (.int .i64 5)
  no : ∀ m, ¬ LnTx (lnA 10 [] l) m
theorem RmX.own (w : World) (G : Nat) (l : List UInt8) : OwnFrom (G + 4) (fun (_ : List (List UInt8)) W => RmX w G l W) := fun pre W W' row h hg hr => by
  have z0 := World.block_lt_of_cell? W _ h.r0
  have z1 := World.block_lt_of_cell? W _ h.r1
  have hb : Below G w W' := h.below.grown hg (Nat.le_of_lt z0) (fun k e => by have := (hr k e).1; omega)
  exact ⟨hb, (World.cell?_of_block (a := ⟨G, 0, none⟩) (hg.block G z0 (fun e => by have := (hr G e.symm).1; omega))).trans h.r0, (World.cell?_of_block (a := ⟨G + 1, 0, none⟩) (hg.block (G + 1) z1 (fun e => by have := (hr (G + 1) e.symm).1; omega))).trans h.r1, h.no⟩
section
variable (w : World)
set_option maxHeartbeats 4000000 in
theorem irm_any (l : List UInt8) (hl : l.length ≤ 1048576) (hL : LibW w) :
    Calls Tryd.prog 9 #[.string (tx l)] w fun r w' => (∃ v m c, r = .returned (.tuple #[v, .int .i64 c]) ∧ RmP l m c ∧ Hid (OwnRs w.heap.size w' v m)) ∧ Below w.heap.size w w' := by
  have hRr := Lib.hid (fun W (h : Below w.heap.size w W) y (hy : y.length ≤ 1048577) => irr_any W y hy (hL.below h))
  obtain ⟨tl, htl⟩ : ∃ s, tx l = s := ⟨_, rfl⟩
  rw [htl]
  replace htl := Lib.hid htl
  clear hL
  refine (callsIn_wide (n := 6)).1 ?_
  refine callsIn_of_wp_marks Tryd.func9 rfl trivial ?_ rfl
  simp only [Tryd.ntmps9, List.size_toArray, List.length_cons, List.length_nil, Nat.reduceAdd, Nat.reduceSub, Array.replicate_succ, Array.replicate_zero, List.push_toArray, List.append_toArray, List.nil_append, List.cons_append]
  gi_wp2_with fail
  refine ⟨trivial, ?_⟩
  gi_at_call 23
  refine (callsIn_wide.2 (lines_call _ _)).mono ?_
  rintro r2 w2 ⟨rfl, rfl⟩
  gi_wp2_with fail
  obtain ⟨G, hG⟩ : ∃ G, w.heap.size = G := ⟨_, rfl⟩
  obtain ⟨W0, hW0⟩ : ∃ W0, W0 = ((((w.alloc (.cells #[.slice none 0 0] 28)).alloc (.cells #[.int .i64 0] 2)).alloc (.cells #[.slice none 0 0] 28)).alloc (.cells #[.string tl] 9)) := ⟨_, rfl⟩
  have sz : ∀ (W : World) (o : Obj), (W.alloc o).heap.size = W.heap.size + 1 := fun W o => by simp
  have old : ∀ (W : World) (o : Obj) (k : Nat), k < W.heap.size → (W.alloc o).heap[k]? = W.heap[k]? := fun W o k hk => Below.heap_alloc _ _ _ hk
  have new : ∀ (W : World) (o : Obj), (W.alloc o).heap[W.heap.size]? = some o := fun W o => World.alloc_heap_new _ _
  have b0 : W0.heap[G]? = some (.cells #[.slice none 0 0] 28) := by
    subst hG
    rw [hW0, old _ _ _ (by simp only [sz]; omega), old _ _ _ (by simp only [sz]; omega), old _ _ _ (by simp only [sz]; omega), new]
  have b1 : W0.heap[G + 1]? = some (.cells #[.int .i64 0] 2) := by
    subst hG
    rw [hW0, old _ _ _ (by simp only [sz]; omega), old _ _ _ (by simp only [sz]; omega), ← sz w (.cells #[.slice none 0 0] 28), new]
  have b2 : W0.heap[G + 2]? = some (.cells #[.slice none 0 0] 28) := by
    subst hG
    have := new ((w.alloc (.cells #[.slice none 0 0] 28)).alloc (.cells #[.int .i64 0] 2)) (.cells #[.slice none 0 0] 28)
    simp only [sz] at this
    rw [hW0, old _ _ _ (by simp only [sz]; omega)]
    exact this
  have b3 : W0.heap[G + 3]? = some (.cells #[.string tl] 9) := by
    subst hG
    have := new (((w.alloc (.cells #[.slice none 0 0] 28)).alloc (.cells #[.int .i64 0] 2)).alloc (.cells #[.slice none 0 0] 28)) (.cells #[.string tl] 9)
    simp only [sz] at this
    rw [hW0]
    exact this
  have hz4 : W0.heap.size = G + 4 := by rw [hW0, ← hG]; simp only [sz]
  have hbW : Below G w W0 := by subst hG; rw [hW0]; (repeat (first | exact Below.refl _ _ | assumption | refine bchain (by assumption) ?_ | refine balloc ?_ _ | apply Below.drew | apply below_drewN | (refine Below.alloc ?_ (by (try simp) <;> omega) _) | (refine Below.setCell ?_ (by (try simp) <;> omega) _)))
  have h0 : RmI w G [] W0 := by
    refine ⟨hbW, by omega, by rw [Lib.cell_of_heap b0]; rfl, ?_, by rw [Lib.cell_of_heap b1]; rfl, ?_, ?_, [], .slice none 0 0, trivial, by rw [Lib.cell_of_heap b2]; rfl, OwnRs.nil _ _⟩
    · unfold World.frozen?; rw [b0]; rfl
    · unfold World.frozen?; rw [b1]; rfl
    · unfold World.frozen?; rw [b2]; rfl
  have hc3 : W0.cell? ⟨G + 3, 0, none⟩ = some (.string (tx l)) := by rw [Lib.cell_of_heap b3, htl.out]; rfl
  have hf3 : W0.frozen? ⟨G + 3, 0, none⟩ = false := by unfold World.frozen?; rw [b3]; rfl
  have hY : ∀ x ∈ lnA 10 [] l, x.length ≤ 1048577 := fun x hx => by have := lnA_len0 l.length l [] (by simp) x hx; omega
  have hseq := lines_seq (G + 3) 5 l W0 (by omega) hc3 hf3
  rw [← hW0]
  rw [show (w.heap.size + 1 + 1 + 1 : Nat) = w.heap.size + 3 by omega, show (w.heap.size + 1 + 1 : Nat) = w.heap.size + 2 by omega, hG]
  clear hW0 old new sz hc3 hf3 b0 b1 b2 b3 htl hbW
  refine wpIn_range_line rfl (by omega) (gf := 37) (lb := #[.pointer (some ⟨G + 3, 0, none⟩)]) rfl trivial (enters_of Tryd.func37 (by kernel_rfl) rfl)
    hseq (Below.refl _ _) (by omega) rfl
    (fun pre W => RmI w G pre W) (fun c _ W => c = .ret ∧ RmX w G l W) (by rw [hz4]; exact RmI.own w G) (RmI.set w G) (fun s A h => trivial)
    (fun c pre W W' row h hg hr => ⟨h.1, RmX.own w G l pre W W' row h.2 hg (by rw [hz4] at hr; exact hr)⟩) h0
    (fun x => { tmps := #[.string tl, undef, .pointer (some ⟨G, 0, none⟩), .pointer (some ⟨G + 1, 0, none⟩), .pointer (some ⟨G + 2, 0, none⟩), .string (tx x), undef, undef, .string tl, .func (.func 37) #[] #[.pointer (some ⟨G + 3, 0, none⟩)], .string (tx x), undef, undef, undef, undef, undef, undef, undef, undef, undef, undef, undef, undef, undef, undef, undef], defers := [] }) ?assign ?body ?done ?stop
  case assign =>
    intro l' x W K hK
    gi_wp2
    exact hK
  case body =>
    rintro l' pre x rest W hl' ⟨rr, hrr⟩ hL hI
    have hxm : x ∈ lnA 10 [] l := by rw [hL]; simp
    have hC := Lib.hid (hRr.out W (by rw [hG]; exact hI.below) x (hY x hxm))
    have hml : ∀ m, LnTx pre m → m.length ≤ 1048577 := fun m hm => by
      have h1 := congrArg List.length hL
      have h2 := lnA_cnt l []
      have h3 := hm.len
      simp at h1 h2
      omega
    have hI' := Lib.hid hI
    have hbd := Lib.hid (fun m (h : LnTx (lnA 10 [] l) m) => show ∃ r, RowTx x r by rw [hL] at h; exact h.mid)
    obtain ⟨tx', htx'⟩ : ∃ t, tx x = t := ⟨_, rfl⟩
    rw [htx'] at hC ⊢
    clear hI hL hxm hrr
    gi_wp2_with fail
    refine ⟨trivial, ?_⟩
    gi_at_call 24
    refine (CallsIn.inRound l' (callsIn_wide.2 hC.out)).mono ?_
    rintro r3 w3 ⟨hrd, hb3⟩
    have hI3 := hI'.out.below_of hb3
    rcases hrd with ⟨fs, v, rfl, hxt, hrow⟩ | ⟨rfl, hno⟩
    · obtain ⟨m, u, a1, a3, us, a4, a5⟩ := hI'.out.l
      obtain ⟨i0, hi, hz0, hz1, hz2⟩ := info_parts Fr.info_row
      have hml2 := hml m a1
      have hlW := hI'.out.lt
      have hbs := hb3.size
      obtain ⟨gv, cv, rfl⟩ := row_form2 hrow.out (List.length_pos_iff.2 (rowTx_len hxt).2)
      have h5 := Lib.hid a4.lt
      have a4' := Lib.hid (a4.below hb3)
      have a5' := rr_below a5 hb3
      have hmO : ∀ O, (w3.alloc O).cell? ⟨G + 2, 0, none⟩ = some u := fun O => ((balloc (Below.refl w3.heap.size w3) O).cell (p := ⟨G + 2, 0, none⟩) (by show G + 2 < _; omega)).trans ((hb3.cell (p := ⟨G + 2, 0, none⟩) (by show G + 2 < _; omega)).trans a3)
      have m3 : w3.cell? ⟨G + 2, 0, none⟩ = some u := (hb3.cell (p := ⟨G + 2, 0, none⟩) (by show G + 2 < _; omega)).trans a3
      have hfO : ∀ O, (w3.alloc O).frozen? ⟨G + 2, 0, none⟩ = false := fun O => (hI3.below_of (balloc (Below.refl w3.heap.size w3) O)).fM
      have hnb : ∀ q, q < G + 4 → some q ≠ Value.ownBlock u := fun q hq c => by
        have := (a5.lt q c.symm).1
        omega
      have hbg : ∀ q, Value.ownBlock u = some q → G + 4 ≤ q := fun q hq => (a5.lt q hq).1
      obtain ⟨O, hO⟩ : ∃ O, O = Obj.cells #[.slice (some ⟨gv, 0, none⟩) fs.length cv] 51 := ⟨_, rfl⟩
      have hob : ∀ q, Value.ownBlock u = some q → ∃ cur, (w3.alloc O).heap[q]? = some (.cells cur 51 (0, 0)) := fun q hq => by
        rcases (a5'.alloc O).2 with ⟨e, _⟩ | ⟨g, cap, cur, e, _, b2, _⟩
        · rw [e] at hq; cases hq
        · rw [e] at hq
          obtain rfl : g = q := by simpa [Value.ownBlock] using hq
          exact ⟨cur, b2⟩
      have hrow4 := Lib.hid (rr_below hrow.out (balloc (Below.refl w3.heap.size w3) O))
      have hus := Lib.hid (a4'.out.below (balloc (Below.refl w3.heap.size w3) O))
      have hI4 := Lib.hid (hI3.below_of (balloc (Below.refl w3.heap.size w3) O))
      have hrow3 := Lib.hid (fun O => a5'.alloc O)
      have hb4 := Lib.hid (balloc hb3 O)
      replace hmO := Lib.hid hmO
      replace hfO := Lib.hid hfO
      replace hnb := Lib.hid hnb
      replace hbg := Lib.hid hbg
      replace hob := Lib.hid hob
      replace hi := Lib.hid hi
      replace hz0 := Lib.hid hz0
      replace hz1 := Lib.hid hz1
      replace hz2 := Lib.hid hz2
      replace hO := Lib.hid hO
      replace a1 := Lib.hid a1
      replace hxt := Lib.hid hxt
      replace a5' := Lib.hid a5'
      clear hI3 a3 a4 a4' a5 hrow hml hbd
      gi_wp2_with (gi_at_builtin; refine wpListIn_append_own_at _ rfl _ _ 28 rfl (G + 4) 51 i0 (.slice none 0 0) 1 24 Tryd.underlying28 hi.out hz0.out hz1.out hz2.out rfl (by decide) _ _ _ rfl (hrow3.out _) ⟨w3.heap.size, 0, none⟩ 1 1 [.slice (some ⟨gv, 0, none⟩) fs.length cv] rfl rfl (fun q u hq => by cases q with
        | zero => simp at hq; subst hq; rw [show (⟨w3.heap.size, 0, none⟩ : Addr).add 0 = ⟨w3.heap.size, 0, none⟩ from rfl, World.cell?_alloc_new]; rfl
        | succ q => simp at hq) (fun u hu => by simp at hu; subst hu; rfl) (by unfold maxLen; omega) (by omega) (by simp; omega) ?_; intro v' w5 hown' hgrow _ hat; obtain ⟨g, cap, rfl⟩ := Go.Joins.ownsRow_form hown' (by omega); have c1 := hgrow.cell (a := ⟨G + 2, 0, none⟩) (hmO.out _) (hnb.out (G + 2) (by omega)); have c2 : w5.frozen? ⟨G + 2, 0, none⟩ = false := (World.frozen?_of_block (a := ⟨G + 2, 0, none⟩) (hgrow.block (G + 2) (by simp; omega) (hnb.out (G + 2) (by omega)))).trans (hfO.out _))
      have hgr : World.grownBy _ w5 (Value.ownBlock u) := hgrow
      rw [← hO.out] at hgr
      have hz5 := hgr.size
      rw [World.size_alloc] at hz5
      have h5w : ∀ k, k < w3.heap.size + 1 → some k ≠ Value.ownBlock u → w5.heap[k]? = (w3.alloc O).heap[k]? := fun k hk hne => hgr.block k (by rw [World.size_alloc]; omega) hne
      have h6 : ∀ k, k < G + 4 → k ≠ G + 2 → (w5.setCell ⟨G + 2, 0, none⟩ (.slice (some ⟨g, 0, none⟩) (m.length + 1) cap)).heap[k]? = (w3.alloc O).heap[k]? := fun k hk hne => (Below.heap_setCell _ _ _ _ hne).trans (h5w k (by omega) (hnb.out k hk))
      have hIX := hI4.out
      refine ⟨⟨by show _ ≤ (World.setCell _ _ _).heap.size; simp; omega, fun k o hk ho hn => ?_⟩, ?_, ⟨?_, by show _ < (World.setCell _ _ _).heap.size; simp; omega, ?_, ?_, ?_, ?_, ?_, m ++ [fs], _, a1.out.snoc hxt.out, World.cell?_setCell_same _ _ _ c1, ?_⟩⟩
      · have hkl := (Array.getElem?_eq_some_iff.1 ho).1
        have ho4 := (hb4.out.block k hkl).trans ho
        refine (Below.heap_setCell _ _ _ _ (by show k ≠ G + 2; omega)).trans ((h5w k (by omega) (fun c => ?_)).trans ho4)
        obtain ⟨cur, hc⟩ := hob.out k c.symm
        rw [ho4] at hc
        obtain rfl := Option.some.inj hc
        cases hn
      · exact (h6 (G + 3) (by omega) (by omega)).trans (hb4.out.block _ (by omega))
      · exact (hIX.below.grown hgr (by rw [World.size_alloc]; omega) (fun q hq => by have := hbg.out q hq; omega)).setCell (p := ⟨G + 2, 0, none⟩) (by show G ≤ G + 2; omega) _
      · exact (World.cell?_of_block (a := ⟨G, 0, none⟩) (h6 G (by omega) (by omega))).trans hIX.r0
      · exact (World.frozen?_of_block (a := ⟨G, 0, none⟩) (h6 G (by omega) (by omega))).trans hIX.f0
      · exact (World.cell?_of_block (a := ⟨G + 1, 0, none⟩) (h6 (G + 1) (by omega) (by omega))).trans hIX.r1
      · exact (World.frozen?_of_block (a := ⟨G + 1, 0, none⟩) (h6 (G + 1) (by omega) (by omega))).trans hIX.f1
      · rw [World.frozen?_setCell]; exact c2
      · exact (OwnRs.push hus.out (a5'.out.alloc O) (by omega) h5.out hrow4.out hown' hgr).same (fun g cur t hg _ => Below.heap_setCell _ _ _ _ (by show g ≠ G + 2; omega))
    · have hbad := Lib.hid (fun m (h : LnTx (lnA 10 [] l) m) => by obtain ⟨r, hr⟩ := hbd.out m h; exact hno r hr)
      have r0 := hI3.r0
      have f0 := hI3.f0
      have r1 := hI3.r1
      have f1 := hI3.f1
      have hI3' := Lib.hid hI3
      have hb3' := Lib.hid hb3
      clear hI3 hno hbd hml
      gi_wp2
      refine ⟨⟨?_, fun k o hk ho hn => ?_⟩, rfl, ⟨?_, ?_, ?_, hbad.out⟩⟩
      · have h3 := hb3'.out.size
        show _ ≤ (World.setCell _ _ _).heap.size
        simp
        omega
      · have hkl := (Array.getElem?_eq_some_iff.1 ho).1
        exact (Below.heap_setCell _ _ _ _ (by show k ≠ G + 1; omega)).trans ((Below.heap_setCell _ _ _ _ (by show k ≠ G; omega)).trans ((hb3'.out.block k hkl).trans ho))
      · exact (hI3'.out.below.setCell (p := ⟨G, 0, none⟩) (Nat.le_refl _) _).setCell (p := ⟨G + 1, 0, none⟩) (by show G ≤ G + 1; omega) _
      · exact (World.cell?_setCell_other _ _ _ _ (by simp)).trans (World.cell?_setCell_same _ _ _ hI3'.out.r0)
      · exact World.cell?_setCell_same _ _ _ ((World.cell?_setCell_other _ _ _ _ (by simp)).trans hI3'.out.r1)
  case done =>
    rintro D W hD hI hK
    obtain ⟨m, u, a1, a3, a4⟩ := hI.l
    obtain ⟨ua, un, uc, rfl⟩ : ∃ a n c, u = .slice a n c := by obtain ⟨us, _, h⟩ := a4; rcases h.2 with ⟨rfl, _⟩ | ⟨g, cap, cur, rfl, _⟩ <;> exact ⟨_, _, _, rfl⟩
    obtain ⟨hs1, hs2⟩ := ln_small hl a1
    have hDz : G + 4 ≤ D := by omega
    have hDl : D < W.heap.size := (Array.getElem?_eq_some_iff.1 hK).1
    have r0 := hI.r0
    have f0 := hI.f0
    have r1 := hI.r1
    have f1 := hI.f1
    have hbI := Lib.hid hI.below
    have hlI := hI.lt
    -- the end, for either answer
    have fin := Lib.hid (fun (W3 : World) (x : Value) (c : Int) (mm : List (List (Int × Int))) (hb3 : Below W.heap.size W W3) (hP : RmP l mm c) (hx : OwnRs (G + 4) W3 x mm) =>
      (show ∃ c0 : (((W3.setCell ⟨G, 0, none⟩ x).setCell ⟨G + 1, 0, none⟩ (.int .i64 c)).putObj D (.deferred none)).cell? ⟨G, 0, none⟩ = some x, ∃ c1 : (((W3.setCell ⟨G, 0, none⟩ x).setCell ⟨G + 1, 0, none⟩ (.int .i64 c)).putObj D (.deferred none)).cell? ⟨G + 1, 0, none⟩ = some (.int .i64 c),
          ((W3.setCell ⟨G, 0, none⟩ x).setCell ⟨G + 1, 0, none⟩ (.int .i64 c)).heap[D]? = some (.deferred (some [])) ∧ Below G w (((W3.setCell ⟨G, 0, none⟩ x).setCell ⟨G + 1, 0, none⟩ (.int .i64 c)).putObj D (.deferred none)) ∧ Hid (OwnRs G (((W3.setCell ⟨G, 0, none⟩ x).setCell ⟨G + 1, 0, none⟩ (.int .i64 c)).putObj D (.deferred none)) x mm) from by
        have hK2 : ((W3.setCell ⟨G, 0, none⟩ x).setCell ⟨G + 1, 0, none⟩ (.int .i64 c)).heap[D]? = some (.deferred (some [])) :=
          (Below.heap_setCell _ _ _ _ (by show D ≠ G + 1; omega)).trans ((Below.heap_setCell _ _ _ _ (by show D ≠ G; omega)).trans ((hb3.block D hDl).trans hK))
        have q0 : W3.cell? ⟨G, 0, none⟩ = some (.slice none 0 0) := (hb3.cell (p := ⟨G, 0, none⟩) (by show G < _; omega)).trans r0
        have q1 : W3.cell? ⟨G + 1, 0, none⟩ = some (.int .i64 0) := (hb3.cell (p := ⟨G + 1, 0, none⟩) (by show G + 1 < _; omega)).trans r1
        have s0 : ((W3.setCell ⟨G, 0, none⟩ x).setCell ⟨G + 1, 0, none⟩ (.int .i64 c)).cell? ⟨G, 0, none⟩ = some x := (World.cell?_setCell_other _ _ _ _ (by simp)).trans (World.cell?_setCell_same _ _ _ q0)
        have s1 : ((W3.setCell ⟨G, 0, none⟩ x).setCell ⟨G + 1, 0, none⟩ (.int .i64 c)).cell? ⟨G + 1, 0, none⟩ = some (.int .i64 c) := World.cell?_setCell_same _ _ _ ((World.cell?_setCell_other _ _ _ _ (by simp)).trans q1)
        refine ⟨cell_kept s0 (grownBy_putObj' _ D (.deferred none)) (fun r e => by cases e; exact ⟨_, hK2, rfl⟩), cell_kept s1 (grownBy_putObj' _ D (.deferred none)) (fun r e => by cases e; exact ⟨_, hK2, rfl⟩), hK2,
          (((hbI.out.trans (hb3.mono (by omega))).setCell (p := ⟨G, 0, none⟩) (Nat.le_refl _) _).setCell (p := ⟨G + 1, 0, none⟩) (by show G ≤ G + 1; omega) _).trans (below_putObj _ _ _ (by omega)), ?_⟩
        obtain ⟨us, ⟨h1, h3, h4⟩, h2⟩ := hx.same (W' := ((W3.setCell ⟨G, 0, none⟩ x).setCell ⟨G + 1, 0, none⟩ (.int .i64 c)).putObj D (.deferred none)) (fun g cur t hg hh => by
          have hgD : g ≠ D := fun e => by rw [e, (hb3.block D hDl).trans hK] at hh; cases hh
          rw [World.putObj_heap_other hgD]
          exact (Below.heap_setCell _ _ _ _ (by show g ≠ G + 1; omega)).trans (Below.heap_setCell _ _ _ _ (by show g ≠ G; omega)))
        exact ⟨us, ⟨h1, fun i hi => by obtain ⟨y, e1, e2⟩ := h3 i hi; exact ⟨y, e1, rr_mono e2 (by omega)⟩, h4⟩, rr_mono h2 (by omega)⟩))
    by_cases hv : Fr.VM m
    · have hV := Lib.hid (Fr.ivm_any W _ m a4.slm hs1 hs2 true (fun _ => rfl) (fun h => absurd hv h))
      have hP := Lib.hid (show RmP l m 0 from .inl ⟨rfl, hv, a1⟩)
      replace a4 := Lib.hid a4
      clear hI a1 hv hs1 hs2
      gi_wp2_with fail
      refine ⟨trivial, ?_⟩
      gi_at_call 25
      refine (callsIn_wide.2 hV.out).mono ?_
      rintro r3 w3 ⟨rfl, hb3⟩
      obtain ⟨p0, p1, p2, p3, p4⟩ := fin.out w3 (.slice ua un uc) 0 m hb3 hP.out (a4.out.below hb3)
      have k0 := (hb3.cell (p := ⟨G, 0, none⟩) (by show G < _; omega)).trans r0
      have k1 := (hb3.cell (p := ⟨G + 1, 0, none⟩) (by show G + 1 < _; omega)).trans r1
      have k2 := (hb3.cell (p := ⟨G + 2, 0, none⟩) (by show G + 2 < _; omega)).trans a3
      have k3 := (hb3.frozen (p := ⟨G, 0, none⟩) (by show G < _; omega)).trans f0
      have k4 := (hb3.frozen (p := ⟨G + 1, 0, none⟩) (by show G + 1 < _; omega)).trans f1
      replace p3 := Lib.hid p3
      replace p2 := Lib.hid p2
      clear r0 f0 r1 f1 a3 hK
      gi_wp2
      refine ⟨by simp, .inl ⟨_, _, rfl, run_takeDeferred p2.out, ?_⟩⟩
      exact ⟨.tuple #[.slice ua un uc, .int .i64 0], by simp [results, Tryd.results9, go_sem, p0, p1], ⟨_, m, 0, rfl, hP.out, by rw [hG]; exact p4⟩, by rw [hG]; exact p3.out⟩
    · have hV := Lib.hid (Fr.ivm_any W _ m a4.slm hs1 hs2 false (fun h => absurd h hv) (fun _ => rfl))
      have hP := Lib.hid (show RmP l [] 5 from .inr ⟨rfl, rfl, fun m' hm' h => hv (by rw [a1.one h]; exact hm')⟩)
      replace a4 := Lib.hid a4
      clear hI a1 hv hs1 hs2
      gi_wp2_with fail
      refine ⟨trivial, ?_⟩
      gi_at_call 25
      refine (callsIn_wide.2 hV.out).mono ?_
      rintro r3 w3 ⟨rfl, hb3⟩
      obtain ⟨p0, p1, p2, p3, p4⟩ := fin.out w3 (.slice none 0 0) 5 [] hb3 hP.out (OwnRs.nil _ _)
      have k0 := (hb3.cell (p := ⟨G, 0, none⟩) (by show G < _; omega)).trans r0
      have k1 := (hb3.cell (p := ⟨G + 1, 0, none⟩) (by show G + 1 < _; omega)).trans r1
      have k3 := (hb3.frozen (p := ⟨G, 0, none⟩) (by show G < _; omega)).trans f0
      have k4 := (hb3.frozen (p := ⟨G + 1, 0, none⟩) (by show G + 1 < _; omega)).trans f1
      replace p3 := Lib.hid p3
      replace p2 := Lib.hid p2
      clear r0 f0 r1 f1 a3 hK
      gi_wp2
      refine ⟨by simp, .inl ⟨_, _, rfl, run_takeDeferred p2.out, ?_⟩⟩
      exact ⟨.tuple #[.slice none 0 0, .int .i64 5], by simp [results, Tryd.results9, go_sem, p0, p1], ⟨_, [], 5, rfl, hP.out, by rw [hG]; exact p4⟩, by rw [hG]; exact p3.out⟩
  case stop =>
    rintro D c pre W hD ⟨rfl, hX⟩ hK
    have c0 := cell_kept hX.r0 (grownBy_putObj' _ D (.deferred none)) (fun r e => by cases e; exact ⟨_, hK, rfl⟩)
    have c1 := cell_kept hX.r1 (grownBy_putObj' _ D (.deferred none)) (fun r e => by cases e; exact ⟨_, hK, rfl⟩)
    have hbe : Hid (Below G w (W.putObj D (.deferred none))) := hX.below.trans (below_putObj _ _ _ (by omega))
    gi_wp2
    refine ⟨by simp, .inl ⟨_, _, rfl, run_takeDeferred hK, ?_⟩⟩
    exact ⟨.tuple #[.slice none 0 0, .int .i64 5], by simp [results, Tryd.results9, go_sem, c0, c1], ⟨_, [], 5, rfl, .inr ⟨rfl, rfl, fun m' _ => hX.no m'⟩, OwnRs.nil _ _⟩, by rw [hG]; exact hbe.out⟩
end
end Go.Proofs.YtdbidlnkaplekaaDoor
