/-
  THE GRAPHS THAT A FUNCTION TAKES, out of those that an iterator yields: the program's 'kept'.
-/
import Derived.Test.YtmbjhncgdmbpaabKOwn
import Derived.Test.YtmbjhncgdmbpaabKVal
import Derived.Test.YtmbjhncgdmbpaabIter
import Derived.Maps.OwnIn
import Derived.Lib.SmallJoins
import Derived.OwnWalk
namespace Go.Proofs.Ytmbjhncgdmbpaab
open Go.RowKit Go.Shelf
set_option maxRecDepth 100000
attribute [local go_sem] Oper.semAt_some

/-- what the values are -/
structure KeptGE (α : Type) where
  a : α → Int
  b : α → Int
def KeptGE.val {α : Type} (E : KeptGE α) (x : α) : Value := .agg #[.int .i64 (E.a x), .int .u32 (E.b x)]
/-- .. in a block -/
structure KeptGM (W : World) (B : Nat) (a b : Int) : Prop where
  lt : B < W.heap.size
  c0 : W.cell? ⟨B, 0, none⟩ = some (.int .i64 a)
  c1 : W.cell? ⟨B, 1, none⟩ = some (.int .u32 b)
theorem KeptGM.block {W W' : World} {B : Nat} {a b : Int} (h : KeptGM W B a b) (hz : W.heap.size ≤ W'.heap.size) (hs : W'.heap[B]? = W.heap[B]?) : KeptGM W' B a b :=
  ⟨Nat.lt_of_lt_of_le h.lt hz, (World.cell?_of_block (a := ⟨B, 0, none⟩) hs).trans h.c0, (World.cell?_of_block (a := ⟨B, 1, none⟩) hs).trans h.c1⟩
theorem KeptGM.below {W W' : World} {B : Nat} {a b : Int} (h : KeptGM W B a b) (hb : Below W.heap.size W W') : KeptGM W' B a b := h.block hb.size (hb.block _ h.lt)
theorem KeptGM.made (W : World) (a b : Int) (t : TypeId) : KeptGM (W.alloc (.cells #[.int .i64 (a), .int .u32 (b)] t)) W.heap.size a b :=
  ⟨by simp, by rw [World.cell?_alloc_new]; rfl, by rw [World.cell?_alloc_new]; rfl⟩
theorem KeptGM.cellular (B : Nat) (a b : Int) : Cellular (fun W => KeptGM W B a b) := fun A l o o' h hl ho =>
  ⟨by have := h.lt; simpa [World.putObj] using this, cellular_cell _ _ A l o o' h.c0 hl ho, cellular_cell _ _ A l o o' h.c1 hl ho⟩
/-- the values that p takes, as cells -/
def KeptGC {α : Type} (E : KeptGE α) (p : α → Bool) (pre : List α) : List Value := (pre.filter p).flatMap fun x => [.int .i64 (E.a x), .int .u32 (E.b x)]
theorem KeptGC_t {α : Type} {E : KeptGE α} {p : α → Bool} {pre : List α} {x : α} (h : p x = true) : KeptGC E p (pre ++ [x]) = KeptGC E p pre ++ [.int .i64 (E.a x), .int .u32 (E.b x)] := by
  simp [KeptGC, List.filter_append, h]
theorem KeptGC_f {α : Type} {E : KeptGE α} {p : α → Bool} {pre : List α} {x : α} (h : p x = false) : KeptGC E p (pre ++ [x]) = KeptGC E p pre := by
  simp [KeptGC, List.filter_append, h]
theorem KeptG_t {α : Type} {p : α → Bool} {pre : List α} {x : α} (h : p x = true) : ((pre ++ [x]).filter p).length = (pre.filter p).length + 1 := by simp [List.filter_append, h]
theorem KeptG_f {α : Type} {p : α → Bool} {pre : List α} {x : α} (h : p x = false) : ((pre ++ [x]).filter p).length = (pre.filter p).length := by simp [List.filter_append, h]
theorem KeptG_len {α : Type} {L pre rest : List α} {x : α} (h : L = pre ++ x :: rest) (hl : L.length ≤ 2000) (p : α → Bool) : (pre.filter p).length ≤ 2000 := by
  rw [h] at hl
  have h2 := List.length_filter_le p pre
  simp at hl
  omega
/-- what the loop of 'kept' keeps -/
structure KeptGI {α : Type} (w : World) (G : Nat) (E : KeptGE α) (p : α → Bool) (fv : Value) (Own : Nat → Prop) (pre : List α) (W : World) : Prop where
  below : Below G w W
  lt : G + 1 < W.heap.size
  f : W.cell? ⟨G, 0, none⟩ = some fv
  fz : W.frozen? ⟨G + 1, 0, none⟩ = false
  l : ∃ u, W.cell? ⟨G + 1, 0, none⟩ = some u ∧ W.ownsRow (G + 2) 37 2 u (pre.filter p).length (KeptGC E p pre) ∧ ∀ b, Value.ownBlock u = some b → ¬ Own b
theorem KeptGI.chg {α : Type} {w : World} {G : Nat} {E : KeptGE α} {p : α → Bool} {fv : Value} {Own : Nat → Prop} (ho : ∀ b, Own b → G + 2 ≤ b) {pre : List α} {A A' : World} (h : KeptGI w G E p fv Own pre A) (hc : Chg Own A A') : KeptGI w G E p fv Own pre A' := by
  have hlt := h.lt
  have h0 := hc.same G (by omega) (fun c => by have := ho _ c; omega)
  have h1 := hc.same (G + 1) hlt (fun c => by have := ho _ c; omega)
  refine ⟨?_, Nat.lt_of_lt_of_le h.lt hc.size, (World.cell?_of_block (a := ⟨G, 0, none⟩) h0).trans h.f, (World.frozen?_of_block (a := ⟨G + 1, 0, none⟩) h1).trans h.fz, ?_⟩
  · exact ⟨hc.os.trans h.below.os, hc.tape.trans h.below.tape, hc.output.trans h.below.output, Nat.le_trans h.below.size hc.size, fun q hq => (hc.same q (by omega) (fun c => by have := ho _ c; omega)).trans (h.below.block q hq)⟩
  · obtain ⟨u, e1, e2, e3⟩ := h.l
    refine ⟨u, (World.cell?_of_block (a := ⟨G + 1, 0, none⟩) h1).trans e1, ⟨e2.1, ?_⟩, e3⟩
    rcases e2.2 with hn | ⟨g, cap, cur, rfl, a1, a2, a3⟩
    · exact .inl hn
    · exact .inr ⟨g, cap, cur, rfl, a1, (hc.same g (Array.getElem?_eq_some_iff.1 a2).1 (e3 g rfl)).trans a2, a3⟩
theorem KeptG_info : (Try.prog.info? 37).map (fun i => (i.zero, i.size, i.bytes)) = some (some (.agg #[.int .i64 0, .int .u32 0]), 2, 16) := by kernel_rfl
section
variable (w : World)
set_option maxHeartbeats 4000000 in
theorem KeptG_any {α : Type} (E : KeptGE α) (gf : FuncId) (lb : Array Value) (Inv : World → Prop) (L : List α) (hlen : L.length ≤ 2000) (egf : ∀ args w, (callFunc gf args).run Try.prog w = .ok (.enter gf args) w)
    (hseq : ∀ n W, Below w.heap.size w W → SeqOwn Fence.wide n Try.prog gf lb Inv (fun x v _ => v = .agg #[.int .i64 (E.a x), .int .u32 (E.b x)]) L W) (hInv : ∀ A, Below w.heap.size w A → Inv A)
    (PF : FuncId) (caps : Array Value) (eg : ∀ args w, (callFunc PF args).run Try.prog w = .ok (.enter PF args) w) (p : α → Bool)
    (hPF : ∀ W x, x ∈ L → Below w.heap.size w W → Calls Try.prog PF (#[.agg #[.int .i64 (E.a x), .int .u32 (E.b x)]] ++ caps) W fun r w' => r = .returned (.bool (p x)) ∧ Below W.heap.size W w') :
    Calls Try.prog 35 #[.func (.func gf) #[] lb, .func (.func PF) #[] caps] w fun r w' =>
      (∃ u, r = .returned u ∧ w'.ownsRow w.heap.size 37 2 u (L.filter p).length (KeptGC E p L)) ∧ Below w.heap.size w w' := by
  obtain ⟨i0, hi, hz0, hz1, hz2⟩ := info_parts KeptG_info
  replace hi := Lib.hid hi
  replace hz0 := Lib.hid hz0
  replace hz1 := Lib.hid hz1
  replace hz2 := Lib.hid hz2
  replace hInv := Lib.hid hInv
  replace hseq := Lib.hid hseq
  replace hPF := Lib.hid hPF
  replace hlen := Lib.hid hlen
  refine (callsIn_wide (n := 5)).1 ?_
  refine callsIn_of_wp_marks Try.func35 rfl trivial ?_ rfl
  simp only [Try.ntmps35, List.size_toArray, List.length_cons, List.length_nil, Nat.reduceAdd, Nat.reduceSub, Array.replicate_succ, Array.replicate_zero, List.push_toArray, List.append_toArray, List.nil_append, List.cons_append]
  gi_wp2
  obtain ⟨wL, hwL⟩ : ∃ wL, wL = (w.alloc (.cells #[.func (.func PF) #[] caps] 66)).alloc (.cells #[.slice none 0 0] 24) := ⟨_, rfl⟩
  have s1 : ∀ (W : World) (o : Obj), (W.alloc o).heap.size = W.heap.size + 1 := fun W o => by simp
  have hLz : wL.heap.size = w.heap.size + 2 := by rw [hwL, s1, s1]
  have hBL : Below w.heap.size w wL := by rw [hwL]; (repeat (first | exact Below.refl _ _ | assumption | refine bchain (by assumption) ?_ | refine balloc ?_ _ | apply Below.drew | apply below_drewN | (refine Below.alloc ?_ (by (try simp) <;> omega) _) | (refine Below.setCell ?_ (by (try simp) <;> omega) _)))
  have hKI : ∀ Own : Nat → Prop, KeptGI w w.heap.size E p (.func (.func PF) #[] caps) Own [] wL := fun Own => by
    refine ⟨hBL, by omega, ?_, ?_, .slice none 0 0, ?_, ⟨by simp [KeptGC], .inl ⟨rfl, rfl⟩⟩, fun b hb => by cases hb⟩
    · rw [hwL, cOld _ _ _ _ (by rw [s1]; omega), cNew _ _ _ _ _ rfl]; rfl
    · rw [hwL, fNew _ _ _ _ _ (by rw [s1])]
    · rw [hwL, cNew _ _ _ _ _ (by rw [s1])]; rfl
  have hseqL := Lib.hid (hseq.out 4 wL hBL)
  rw [← hwL]
  obtain ⟨G, hG⟩ : ∃ G, w.heap.size = G := ⟨_, rfl⟩
  rw [hG] at hKI hLz hBL ⊢
  clear hwL s1
  refine wpIn_range_own rfl (by omega) (gf := gf) (lb := lb) rfl trivial egf
    hseqL.out (Below.refl _ _) rfl (fun _ _ _ _ h _ => h) (fun _ _ _ _ _ _ h _ _ => h)
    (fun Own pre W => KeptGI w G E p (.func (.func PF) #[] caps) Own pre W)
    (fun Own s A hs => hInv.out A (by rw [hG]; exact hs.below))
    (fun Own ho s A A' hs hc => hs.chg (fun b hb => by have := ho b hb; omega) hc)
    (fun Own A ho hA => (hKI Own).chg (fun b hb => by have := ho b hb; omega) (Chg.of_below hA))
    (fun v a' W => ∃ (Gb : Nat) (a b : Int), v = .agg #[.int .i64 (a), .int .u32 (b)] ∧ KeptGM W Gb a b ∧ a' = { tmps := #[.func (.func gf) #[] lb, .func (.func PF) #[] caps, undef, .pointer (some ⟨G, 0, none⟩), .slice none 0 0, .pointer (some ⟨G + 1, 0, none⟩), .pointer (some ⟨Gb, 0, none⟩), .func (.func gf) #[] lb, v, undef, undef, undef, undef, undef, undef, undef, undef], defers := [] })
    (fun v a' A l o o' h hl ho => by obtain ⟨Gb, a, b, h1, h2, h3⟩ := h; exact ⟨Gb, a, b, h1, KeptGM.cellular Gb a b A l o o' h2 hl ho, h3⟩) ?assign ?body ?done
  case assign =>
    intro l x v W K hv hK
    obtain rfl : v = _ := hv
    gi_wp2
    exact hK _ _ ((Below.refl _ _).alloc (Nat.le_refl _) _) ⟨W.heap.size, E.a x, E.b x, rfl, KeptGM.made W _ _ _, rfl⟩
  case body =>
    clear hKI
    rintro l Own pre x rest v a' W ho hL hI hS ⟨Gb, a, b, hv, hFG, rfl⟩
    have hy : E.a x = a ∧ E.b x = b := by
      have hS' : v = _ := hS
      rw [hv] at hS'
      simp at hS'
      omega
    have hP := Lib.hid (fun W' (hb : Below W.heap.size W W') => hPF.out W' x (by rw [hL]; simp) (by rw [hG]; exact hI.below.trans (hb.mono (by have := hI.lt; omega))))
    have hpl := KeptG_len hL hlen.out p
    obtain ⟨i1, i2, i3, i4, _⟩ := id hI
    obtain ⟨g0, g1, g2⟩ := id hFG
    have hL2 : 2 ≤ wL.heap.size := by omega
    obtain ⟨y0, y1⟩ := hy
    rw [y0, y1] at hP
    cases hb : p x
    · rw [hb] at hP
      have e1 := KeptG_f (pre := pre) hb
      have e2 := KeptGC_f (E := E) (pre := pre) hb
      have hfin : ∀ W3, Below W.heap.size W W3 → W.heap.size ≤ W3.heap.size ∧ (∀ b, Own b → W3.heap[b]? = W.heap[b]?) ∧ KeptGI w G E p (.func (.func PF) #[] caps) Own (pre ++ [x]) W3 := fun W3 h3 => by
        refine ⟨h3.size, fun b hb => h3.block b (ho b hb).2, ?_⟩
        have hc := hI.chg (fun b hb => by have := (ho b hb).1; omega) (Chg.of_below h3)
        obtain ⟨j1, j2, j3, j4, j5⟩ := hc
        exact ⟨j1, j2, j3, j4, by rw [e1, e2]; exact j5⟩
      replace hfin := Lib.hid hfin
      clear hI hFG hL hS hv e1 e2 hb hpl y0 y1
      gi_wp2
      refine ⟨trivial, (CallsIn.inRound l (callsIn_wide.2 (hP.out W (Below.refl _ _)))).mono ?_⟩
      rintro r3 w3 ⟨rfl, hb3⟩
      gi_wp2
      exact hfin.out w3 hb3
    · rw [hb] at hP
      have e1 := KeptG_t (pre := pre) hb
      have e2 := KeptGC_t (E := E) (pre := pre) hb
      rw [y0, y1] at e2
      have hog : ∀ b, Own b → G + 2 ≤ b := fun b hb => by have := (ho b hb).1; omega
      have hnx := fun W3 (h3 : Below W.heap.size W W3) => hI.chg hog (Chg.of_below h3)
      replace hnx := Lib.hid hnx
      replace e1 := Lib.hid e1
      replace e2 := Lib.hid e2
      clear hI hL hS hv hb y0 y1
      gi_wp2
      refine ⟨trivial, (CallsIn.inRound l (callsIn_wide.2 (hP.out W (Below.refl _ _)))).mono ?_⟩
      rintro r3 w3 ⟨rfl, hb3⟩
      obtain ⟨_, k0, k1⟩ := hFG.below hb3
      obtain ⟨j1, j2, j3, j4, u, j5, j6, j7⟩ := hnx.out w3 hb3
      replace j6 := Lib.hid j6
      have hsz3 := hb3.size
      have hnb : ∀ q, q < G + 2 → some q ≠ Value.ownBlock u := fun q hq c => by
        have := (j6.out.lt q c.symm).1
        omega
      replace hnb := Lib.hid hnb
      replace j7 := Lib.hid j7
      clear i1 i3 i4 g0 g1 g2 hFG
      gi_wp2_with (gi_at_builtin; refine wpListIn_append_own_at _ rfl _ _ 24 rfl (G + 2) 37 i0 (.agg #[.int .i64 0, .int .u32 0]) 2 16 Try.underlying24 hi.out hz0.out hz1.out hz2.out rfl (by decide) _ _ _ rfl (j6.out.alloc _) ⟨w3.heap.size, 0, none⟩ 1 1 [.int .i64 (a), .int .u32 (b)] rfl rfl (fun q u hq => by match q, hq with
        | 0, hq => simp at hq; subst hq; rw [show (⟨w3.heap.size, 0, none⟩ : Addr).add 0 = ⟨w3.heap.size, 0, none⟩ from rfl, World.cell?_alloc_new]; rfl
        | 1, hq => simp at hq; subst hq; rw [show (⟨w3.heap.size, 0, none⟩ : Addr).add 1 = ⟨w3.heap.size, 1, none⟩ from rfl, World.cell?_alloc_new]; rfl
        | q + 2, hq => simp at hq) (fun u hu => by simp at hu; rcases hu with rfl | rfl <;> rfl) (by unfold maxLen; omega) (by omega) (by simp; omega) ?_; intro v' w4 hown' hgrow _ hat; obtain ⟨g, cap, rfl⟩ := Go.Joins.ownsRow_form hown' (by omega); have c1 := hgrow.cell (a := ⟨G + 1, 0, none⟩) ((cOld _ _ _ _ j2).trans j5) (hnb.out (G + 1) (by omega)); have c2 : w4.frozen? ⟨G + 1, 0, none⟩ = false := (World.frozen?_of_block (a := ⟨G + 1, 0, none⟩) (hgrow.block (G + 1) (by rw [World.size_alloc]; omega) (hnb.out (G + 1) (by omega)))).trans ((fOld _ _ _ _ j2).trans j4))
      have hbg : ∀ q, Value.ownBlock u = some q → G + 2 ≤ q := fun q hq => (j6.out.lt q hq).1
      have hz4 := hgrow.size
      rw [World.size_alloc] at hz4
      refine ⟨by show W.heap.size ≤ (World.setCell _ _ _).heap.size; simp; omega, fun b hb => ?_, ?_⟩
      · obtain ⟨b1, b2⟩ := ho b hb
        refine (Below.heap_setCell _ _ _ _ (by show b ≠ G + 1; omega)).trans ((hgrow.block b (by rw [World.size_alloc]; omega) (fun c => j7.out b c.symm hb)).trans ((Below.heap_alloc _ _ _ (by omega)).trans (hb3.block b b2)))
      · refine ⟨?_, by simp; omega, ?_, by rw [World.frozen?_setCell]; exact c2, _, World.cell?_setCell_same _ _ _ c1, ?_, fun b hb => ?_⟩
        · exact ((j1.alloc (by omega) _).grown hgrow (by rw [World.size_alloc]; omega) (fun q hq => by have := hbg q hq; omega)).setCell (p := ⟨G + 1, 0, none⟩) (by show G ≤ G + 1; omega) _
        · rw [World.cell?_setCell_other _ _ _ _ (by simp)]
          exact hgrow.cell (a := ⟨G, 0, none⟩) ((cOld _ _ _ _ (by omega)).trans j3) (hnb.out G (by omega))
        · rw [e1.out, e2.out]
          exact ownsRow_setCell_below hown' (by show G + 1 < G + 2; omega) _
        · intro hO
          obtain ⟨b1, b2⟩ := ho b hO
          rcases hat with hat | hat
          · exact j7.out b (hat.symm.trans hb) hO
          · rw [hat] at hb
            injection hb with hb
            rw [World.size_alloc] at hb
            omega
  case done =>
    rintro D Own W hD hI hK hOD
    obtain ⟨i1, i2, i3, i4, u, i5, i6, i7⟩ := hI
    have hne : Value.ownBlock u ≠ some D := fun c => i7 D c hOD
    obtain ⟨W5, hW5⟩ : ∃ W5, W5 = W.putObj D (.deferred none) := ⟨_, rfl⟩
    have hrow' : W5.ownsRow (G + 2) 37 2 u (L.filter p).length (KeptGC E p L) := by
      refine ⟨i6.1, ?_⟩
      rcases i6.2 with hn | ⟨g, cap, cur, rfl, a1, a2, a3⟩
      · exact .inl hn
      · refine .inr ⟨g, cap, cur, rfl, a1, ?_, a3⟩
        rw [hW5, World.putObj_heap_other (fun c => hne (by rw [← c]; rfl))]
        exact a2
    have hbe : Below G w W5 := by rw [hW5]; exact i1.trans (below_putObj _ _ _ (by omega))
    replace hrow' := Lib.hid hrow'
    replace hbe := Lib.hid hbe
    clear i6 i7 hne
    gi_wp2
    refine ⟨by simp, .inl ⟨_, _, rfl, run_takeDeferred hK, ?_⟩⟩
    rw [← hW5]
    refine ⟨u, by simp [results, Try.results35, go_sem], ⟨u, rfl, ?_⟩, by rw [hG]; exact hbe.out⟩
    rw [hG]
    exact Go.Joins.ownsRow_le hrow'.out (by omega)
end
end Go.Proofs.Ytmbjhncgdmbpaab
