/-
  THE TEXT OF A GRAPH: the program's contract.
-/
import Derived.Test.YtiedombphcdpbaaDoorGtS
import Derived.Test.YtiedombphcdpbaaDoorBd
import Derived.Test.YtiedombphcdpbaaDoorFmt
namespace Go.Proofs.YtiedombphcdpbaaDoor
open Go.RowKit
set_option maxRecDepth 100000
attribute [local go_sem] Oper.semAt_some
/-- the two boxes that edgesOf lays -/
def EB (W : World) (B : Nat) (n e : Int) : Prop := W.heap[B]? = some (.cells #[.int .i64 n, .int .u32 e] 37) ∧ ∃ T : TypeId, T ≠ 5 ∧ W.heap[B + 1]? = some (.cells #[.func (.func 120) #[] #[]] T)
theorem EB.kept {w w' : World} {B : Nat} {n e : Int} {row : Option Nat} (h : EB w B n e) (hg : w.grownBy w' row) (hr : ∀ r, row = some r → ∃ o : Obj, w.heap[r]? = some o ∧ o.isCells = false) : EB w' B n e := by
  obtain ⟨h1, T, hT, h2⟩ := h
  have k1 : B < w.heap.size := (Array.getElem?_eq_some_iff.1 h1).1
  have k2 : B + 1 < w.heap.size := (Array.getElem?_eq_some_iff.1 h2).1
  refine ⟨(hg.block _ k1 fun c => ?_).trans h1, T, hT, (hg.block _ k2 fun c => ?_).trans h2⟩
  · obtain ⟨o, ho, hk⟩ := hr _ c.symm
    rw [h1] at ho
    obtain rfl := Option.some.inj ho
    cases hk
  · obtain ⟨o, ho, hk⟩ := hr _ c.symm
    rw [h2] at ho
    obtain rfl := Option.some.inj ho
    cases hk
theorem EB.below {w w' : World} {B : Nat} {n e : Int} (h : EB w B n e) (hb : Below w.heap.size w w') : EB w' B n e :=
  h.kept (row := none) (below_grown hb) (fun _ c => by cases c)
theorem EB.others {w w' : World} {B b : Nat} {n e : Int} (h : EB w B n e) (hk : Lib.OthersKept 5 (some b) w w') (h1 : B ≠ b) (h2 : B + 1 ≠ b) : EB w' B n e := by
  obtain ⟨k1, T, hT, k2⟩ := h
  exact ⟨hk _ _ k1 (fun c => h1 (Option.some.inj c)) (fun c fz e => by have := (Obj.cells.inj e).2.1; exact absurd this (by decide)), T, hT, hk _ _ k2 (fun c => h2 (Option.some.inj c)) (fun c fz e => by have := (Obj.cells.inj e).2.1; exact absurd this hT)⟩
theorem EB.kp {w w' : World} {B : Nat} {n e : Int} (h : EB w B n e) (h' : EB w' B n e) (hs : w.heap.size ≤ w'.heap.size) : False ∨ (w.heap.size ≤ w'.heap.size ∧ w'.heap[B]? = w.heap[B]?) := .inr ⟨hs, by rw [h.1, h'.1]⟩
theorem keepsFrom_others {W W' : World} {B b : Nat} {l : List UInt8} (hk : Lib.OthersKept 5 (some b) W W') (hb : BdAt W b l) (hs : W.heap.size ≤ W'.heap.size) : KeepsFrom B W W' := by
  refine ⟨hs, fun k o _ hk' ho => hk k o hk' (fun c => ?_) (fun c fz e => by subst e; cases ho)⟩
  obtain rfl := Option.some.inj c
  rcases hb with ⟨_, v, h2, _⟩ | ⟨_, v, h2, _⟩ <;> (rw [h2] at hk'; obtain rfl := Option.some.inj hk'; cases ho)
theorem keepsFrom_below {W W' : World} {B : Nat} (h : Below W.heap.size W W') : KeepsFrom B W W' := .of_grownBy (below_grown h) (fun _ c => by cases c)
section
variable (w : World)
theorem bd_put (b : Nat) (l s : List UInt8) (h : BdAt w b l) (hl : l.length + s.length ≤ 1000000) :
    Calls Tryd.prog 32 #[.pointer (some ⟨b, 0, none⟩), .string (tx s)] w fun e w' => e = .returned (.tuple #[.int .i64 s.length, .nilIface]) ∧ BdAt w' b (l ++ s) ∧ Below b w w' ∧ Lib.OthersKept 5 (some b) w w' := bd_write w b l s h hl
theorem bd_string (b : Nat) (l : List UInt8) (h : BdAt w b l) :
    Calls Tryd.prog 34 #[.pointer (some ⟨b, 0, none⟩)] w fun e w' => e = .returned (.string (tx l)) ∧ Below b w w' ∧ Lib.OthersKept 5 (some b) w w' :=
  (Tryd.Builder_String_any_k b b l w h (Nat.le_of_lt h.lt)).mono fun _ _ ⟨h1, _, h2, h3⟩ => ⟨h1, h2, h3⟩
theorem eo_obj (n e : Int) :
    Calls Tryd.prog 81 #[.agg #[.int .i64 n, .int .u32 e]] w fun r w' => ∃ Bg, r = .returned (.func (.func 145) #[] #[.pointer (some ⟨Bg, 0, none⟩), .pointer (some ⟨Bg + 1, 0, none⟩)]) ∧
      w.heap.size ≤ Bg ∧ Below w.heap.size w w' ∧ Bg + 2 ≤ w'.heap.size ∧ EB w' Bg n e := by
  have hp : ∀ W, Calls Tryd.prog 119 #[.agg #[.int .i64 n, .int .u32 e], .func (.func 120) #[] #[]] W fun r w' => r = .returned (.func (.func 145) #[] #[.pointer (some ⟨W.heap.size, 0, none⟩), .pointer (some ⟨W.heap.size + 1, 0, none⟩)]) ∧ Below W.heap.size W w' ∧ W.heap.size + 2 ≤ w'.heap.size ∧ EB w' W.heap.size n e := fun w => by
    go_enter Tryd.func119, Tryd.ntmps119
    go_wp2
    go_ret
    have hh : ∀ T : TypeId, ((w.alloc (.cells #[.int .i64 n, .int .u32 e] 37)).alloc (.cells #[.func (.func 120) #[] #[]] T)).heap[w.heap.size + 1]? = some (.cells #[.func (.func 120) #[] #[]] T) := fun T => by
      have := World.alloc_heap_new (w.alloc (.cells #[.int .i64 n, .int .u32 e] 37)) (.cells #[.func (.func 120) #[] #[]] T)
      rwa [World.size_alloc] at this
    refine ⟨rfl, by (repeat (first | exact Below.refl _ _ | assumption | refine bchain (by assumption) ?_ | refine balloc ?_ _ | apply Below.drew | apply below_drewN | (refine Below.alloc ?_ (by (try simp) <;> omega) _) | (refine Below.setCell ?_ (by (try simp) <;> omega) _))), by simp, ?_, ?_⟩
    · rw [Below.heap_alloc _ _ _ (by simp)]; exact World.alloc_heap_new w _
    · exact ⟨_, by decide, hh _⟩
  replace hp := Lib.hid hp
  go_enter Tryd.func81, Tryd.ntmps81
  go_wp2_with fail
  refine (hp.out _).mono ?_
  rintro r1 w1 ⟨rfl, hb1, hz, hE⟩
  have e1 : (w.alloc (.cells #[.int .i64 n, .int .u32 e] 37)).heap.size = w.heap.size + 1 := by simp
  rw [e1] at hE hz
  go_wp2
  go_ret
  exact ⟨w.heap.size + 1, rfl, by omega, by (repeat (first | exact Below.refl _ _ | assumption | refine bchain (by assumption) ?_ | refine balloc ?_ _ | apply Below.drew | apply below_drewN | (refine Below.alloc ?_ (by (try simp) <;> omega) _) | (refine Below.setCell ?_ (by (try simp) <;> omega) _))), by omega, hE⟩
theorem igt_f (n e : Int) (hn : e < 4294967296) (he0 : 0 ≤ e) (h : ¬ VG n e) :
    Calls Tryd.prog 43 #[.agg #[.int .i64 n, .int .u32 e]] w fun r w' => r = .returned (.string ⟨#[]⟩) ∧ Below w.heap.size w w' := by
  go_enter Tryd.func43, Tryd.ntmps43
  go_wp2_with fail
  refine (valid_f _ n e hn he0 h).mono ?_
  rintro r1 w1 ⟨rfl, hb1⟩
  go_wp2
  go_ret
  exact ⟨rfl, by (repeat (first | exact Below.refl _ _ | assumption | refine bchain (by assumption) ?_ | refine balloc ?_ _ | apply Below.drew | apply below_drewN | (refine Below.alloc ?_ (by (try simp) <;> omega) _) | (refine Below.setCell ?_ (by (try simp) <;> omega) _)))⟩
set_option maxHeartbeats 2000000 in
theorem igt_t (n e : Nat) (h : VG n e) (hT : TabP w) :
    Calls Tryd.prog 43 #[.agg #[.int .i64 n, .int .u32 e]] w fun r w' => r = .returned (.string (tx (gText n (prE n e)))) ∧ Below w.heap.size w w' := by
  have he : e < 4294967296 := by have := h.2.2.2; have := eMax_le n; simp at *; omega
  have hn5 : n ≤ 5 := by have := h.2.1; omega
  have hL := prE_len n e hn5
  have hV := Lib.hid (fun W => valid_t W n e h)
  have hF := Lib.hid (fun W (h2 : Below w.heap.size w W) a (ha : a < 1000000) => fmt_any W a (by omega) (hT.below h2))
  have hN := Lib.hid (fun W (h2 : Below w.heap.size w W) => hF.out W h2 n (by omega))
  have hH := run_head n (by omega)
  have hO := Lib.hid (fun W => eo_obj W n e)
  obtain ⟨W0, hW0⟩ : ∃ W0, W0 = w.alloc (.cells #[.int .i64 (n : Int), .int .u32 (e : Int)] 37) := ⟨_, rfl⟩
  have hB0 : Below w.heap.size w W0 := by rw [hW0]; (repeat (first | exact Below.refl _ _ | assumption | refine bchain (by assumption) ?_ | refine balloc ?_ _ | apply Below.drew | apply below_drewN | (refine Below.alloc ?_ (by (try simp) <;> omega) _) | (refine Below.setCell ?_ (by (try simp) <;> omega) _)))
  have hz0 : w.heap.size < W0.heap.size := by rw [hW0]; simp
  have hbx : Hid (∀ W, Below W0.heap.size W0 W → W.cell? ⟨w.heap.size, 0, none⟩ = some (.int .i64 n) ∧ W.cell? ⟨w.heap.size, 1, none⟩ = some (.int .u32 e)) := fun W h => by
    refine ⟨(h.cell (p := ⟨w.heap.size, 0, none⟩) hz0).trans ?_, (h.cell (p := ⟨w.heap.size, 1, none⟩) hz0).trans ?_⟩ <;> (rw [hW0, World.cell?_alloc_new]; rfl)
  replace hW0 := Lib.hid hW0
  obtain ⟨y0, y1⟩ := hbx.out W0 (Below.refl _ _)
  obtain ⟨DN, hDN⟩ : ∃ DN, tx (Lib.decDigits n) = DN := ⟨_, rfl⟩
  rw [hDN] at hH hN
  clear hDN
  replace hT := Lib.hid hT
  refine (callsIn_wide (n := 5)).1 ?_
  refine callsIn_of_wp_marks Tryd.func43 rfl trivial ?_ rfl
  simp only [Tryd.ntmps43, List.size_toArray, List.length_cons, List.length_nil, Nat.reduceAdd, Nat.reduceSub, Array.replicate_succ, Array.replicate_zero, List.push_toArray, List.append_toArray, List.nil_append, List.cons_append]
  gi_wp2_with fail
  rw [← hW0.out]
  gi_wp2_with fail
  refine ⟨trivial, ?_⟩
  gi_at_call 74
  refine (callsIn_wide.2 (hV.out _)).mono ?_
  rintro r1 w1 ⟨rfl, hb1⟩
  clear y0 y1
  obtain ⟨y0, y1⟩ := hbx.out (w1.alloc (.cells #[.pointer none, .slice none 0 0] 75)) (balloc hb1 _)
  gi_wp2_with fail
  refine ⟨trivial, ?_⟩
  gi_at_call 42
  refine (callsIn_wide.2 (hN.out _ (bchain (balloc hb1 _) hB0))).mono ?_
  rintro r2 w2 ⟨rfl, hb2⟩
  have hbd2 := (BdAt.fresh w1).below hb2
  have hb3 : Below W0.heap.size W0 w2 := bchain hb2 (balloc hb1 _)
  have hzb := hb1.size
  have hzc := hb2.size
  rw [World.size_alloc] at hzc
  clear y0 y1 hb1 hb2
  obtain ⟨y0, y1⟩ := hbx.out w2 hb3
  obtain ⟨b, hb⟩ : ∃ b, w1.heap.size = b := ⟨_, rfl⟩
  rw [hb] at hbd2 hzb hzc ⊢
  clear hb
  have hbd2' := Lib.hid hbd2
  clear hbd2
  gi_wp2_with fail
  refine ⟨trivial, ?_⟩
  gi_at_call 32
  refine (callsIn_wide.2 (bd_put _ b [] (gText n []) hbd2'.out (by rw [gText_nil]; have := dd_len (n := n) (by omega); simp [gHead]; omega))).mono ?_
  rintro r3 w3 ⟨rfl, hbd3, hbb3, _⟩
  have hb4 : Below W0.heap.size W0 w3 := hb3.trans (hbb3.mono hzb)
  have hzd := hbb3.size
  clear y0 y1 hb3
  obtain ⟨y0, y1⟩ := hbx.out w3 hb4
  replace hbd3 := Lib.hid (show BdAt w3 b (gText n []) from hbd3)
  gi_wp2_with fail
  refine ⟨trivial, ?_⟩
  gi_at_call 81
  refine (callsIn_wide.2 (hO.out _)).mono ?_
  rintro r4 w4 ⟨Bg, rfl, hBg, hb5, hz4, hE⟩
  have hb6 : Below W0.heap.size W0 w4 := bchain hb5 hb4
  have hbd4 := Lib.hid (hbd3.out.below hb5)
  have hze := hb5.size
  have g0 : w4.cell? ⟨Bg, 0, none⟩ = some (.int .i64 n) := by rw [Lib.cell_of_heap hE.1]; rfl
  have g1 : w4.cell? ⟨Bg, 1, none⟩ = some (.int .u32 e) := by rw [Lib.cell_of_heap hE.1]; rfl
  have ga : w4.cell? ⟨Bg + 1, 0, none⟩ = some (.func (.func 120) #[] #[]) := by
    obtain ⟨_, T, _, h2⟩ := hE
    rw [Lib.cell_of_heap h2]; rfl
  have hbBg : b < Bg := by omega
  clear y0 y1 hb5 hb4 hbd3
  have hPS := pj_stops 4 (by omega) n e hn5 (fun i j => jn e i j) Bg (Bg + 1) w4 (by omega) (by omega) g0 g1 ga (fun W i j hij hj => joined_any W n e i j he (by omega) hj)
  clear g0 g1 ga
  gi_wp2_with fail
  refine wpIn_rangeFunc_ownG rfl (by omega) (gf := 145) (lb := #[.pointer (some ⟨Bg, 0, none⟩), .pointer (some ⟨Bg + 1, 0, none⟩)]) rfl trivial (enters_of Tryd.func145 (by kernel_rfl) rfl)
    hPS
    Kp2.trans (Kp2.put (by omega) (by omega)) (Below.refl _ _) (fun _ => rfl)
    (fun pre W => (BdAt W b (gText n (vals pre)) ∧ EB W Bg n e) ∧ (w4.heap.size ≤ W.heap.size ∧ Below W0.heap.size W0 W))
    (fun _ _ _ => False)
    (OwnFrom.and (fun s W W' row hs hg hr => ⟨hs.1.kept hg (fun r e => (hr r e).2), hs.2.kept hg (fun r e => (hr r e).2)⟩) (OwnFrom.and (fun _ _ _ _ hs hg _ => Nat.le_trans hs hg.size) (ownFrom_below (Nat.le_refl _) hb6.size)))
    (fun _ _ _ _ _ hs _ _ => hs)
    ⟨⟨hbd4.out, hE⟩, Nat.le_refl _, hb6⟩
    (fun x => { tmps := #[.agg #[.int .i64 n, .int .u32 e], .pointer (some ⟨w.heap.size, 0, none⟩), .string { data := #[] }, .pointer (some ⟨b, 0, none⟩), .int .i64 (x.1.1 : Nat), .int .i64 (x.1.2 : Nat), .agg #[.int .i64 n, .int .u32 e], .bool true, .bool false, .pointer (some ⟨w.heap.size, 0, none⟩), .int .i64 n, .string DN, .string (tx (gText n [])), .tuple #[.int .i64 (gText n []).length, .nilIface], .agg #[.int .i64 n, .int .u32 e],
      .func (.func 145) #[] #[.pointer (some ⟨Bg, 0, none⟩), .pointer (some ⟨Bg + 1, 0, none⟩)], .int .i64 (x.1.1 : Nat), .int .i64 (x.1.2 : Nat), undef, undef, undef, undef, undef, undef, undef, undef, undef], defers := [] }) ?assign ?body ?done ?stop
  case assign =>
    intro l x W K hK
    gi_wp2
    exact hK
  case body =>
    rintro l pre ⟨⟨i, j⟩, hij, hj⟩ W ⟨⟨hbd, hEW⟩, hWz, hB⟩ hlen
    dsimp only at hij hj ⊢
    obtain ⟨x1, x2, x3, _⟩ := run_pair i j (by omega) (by omega) [] (by simp)
    have hgl := gText_len (n := n) (by omega) (ps := vals pre) (fun p hp => by
      obtain ⟨q, _, rfl⟩ := List.mem_map.1 hp
      have := q.2
      omega)
    rw [vals_length] at hgl
    have hgp := gPair_len (p := (i, j)) (by show i < _; omega) (by show j < _; omega)
    have hnx : gText n (vals (pre ++ [⟨(i, j), hij, hj⟩])) = gText n (vals pre) ++ gPair (i, j) := by rw [vals_snoc, gText_snoc]
    have hFi := Lib.hid (fun W h => hF.out W h i (by omega))
    have hFj := Lib.hid (fun W h => hF.out W h j (by omega))
    have hnx' := Lib.hid hnx
    have hgl' := Lib.hid (show (gText n (vals pre)).length + (gPair (i, j)).length ≤ 1000000 by omega)
    have hbd' := Lib.hid hbd
    have hEW' := Lib.hid hEW
    have hWz' := Lib.hid hWz
    clear hnx hgl hgp hbd hEW hWz
    gi_wp2_with fail
    refine ⟨trivial, ?_⟩
    gi_at_call 42
    refine (CallsIn.inRound l (callsIn_wide.2 (hFi.out _ (bchain hB hB0)))).mono ?_
    rintro r5 w5 ⟨rfl, hb5⟩
    gi_wp2_with fail
    refine ⟨trivial, ?_⟩
    gi_at_call 42
    refine (CallsIn.inRound l (callsIn_wide.2 (hFj.out _ (bchain (bchain hb5 hB) hB0)))).mono ?_
    rintro r6 w6 ⟨rfl, hb6'⟩
    have hx6 : Below W.heap.size W w6 := bchain hb6' hb5
    gi_wp2_with fail
    refine ⟨trivial, ?_⟩
    gi_at_call 32
    have hbd6 := hbd'.out.below hx6
    have hE6 := hEW'.out.below hx6
    refine (CallsIn.inRound l (callsIn_wide.2 (bd_put _ b _ (gPair (i, j)) hbd6 hgl'.out))).mono ?_
    rintro r7 w7 ⟨rfl, hbd7, hb7, hk7⟩
    have hE7 := hE6.others hk7 (by omega) (by omega)
    gi_wp2
    refine ⟨(keepsFrom_below hx6).trans (keepsFrom_others hk7 hbd6 hb7.size), ⟨Nat.le_trans hx6.size hb7.size, by rw [hE7.1, hEW'.out.1], ?_⟩, ⟨by rw [hnx'.out]; exact hbd7, hE7⟩, Nat.le_trans hWz'.out (Nat.le_trans hx6.size hb7.size), (bchain hx6 hB).trans (hb7.mono hzb)⟩
    have m1 : w6.heap[Bg + 1]? = W.heap[Bg + 1]? := hx6.block _ (by have := hWz'.out; omega)
    obtain ⟨_, T, hT2, h2⟩ := hE6
    rw [← m1, h2]
    exact hk7 _ _ h2 (fun c => by have := Option.some.inj c; omega) (fun c fz e => by have := (Obj.cells.inj e).2.1; exact absurd this hT2)
  case done =>
    rintro D xs W hD hS ⟨⟨hbd, hEW⟩, hWz, hB⟩ hK
    have hx : vals xs = prE n e := hS
    rw [hx] at hbd
    have hDb : D ≠ b := by omega
    have hbd' := Lib.hid hbd
    have hbS := Lib.hid (bd_string W b _ hbd)
    clear hbd hEW
    gi_wp2_with fail
    refine ⟨trivial, ?_⟩
    gi_at_call 34
    refine (callsIn_wide.2 hbS.out).mono ?_
    rintro r8 w8 ⟨rfl, hb8, hk8⟩
    have hK8 : w8.heap[D]? = some (.deferred (some [])) := hk8 _ _ hK (fun c => hDb (Option.some.inj c)) (fun _ _ c => by cases c)
    have hbe := Lib.hid (bchain (hB.trans (hb8.mono hzb)) hB0 |>.trans (below_putObj' w8 D (.deferred none) (B := w.heap.size) (by omega)))
    gi_wp2
    refine ⟨by simp, .inl ⟨_, _, rfl, run_takeDeferred hK8, ?_⟩⟩
    exact ⟨_, results_tmp rfl _ _ _, rfl, hbe.out⟩
  case stop =>
    rintro D c pre W _ _ h _
    exact h.elim
end
end Go.Proofs.YtiedombphcdpbaaDoor
