/-
  PARTS OF GRAPHS: the program's contract.
-/
import Derived.Test.YtfnjgdocmfmfgabPartPlain
import Derived.Test.YtfnjgdocmfmfgabStillIn
import Derived.Test.YtfnjgdocmfmfgabSeesA
import Derived.Test.YtfnjgdocmfmfgabLeast
import Derived.Test.YtfnjgdocmfmfgabDeg
import Derived.Scope
import Derived.WalkMore
namespace Go.Proofs.Ytfnjgdocmfmfgab
open Go.RowKit Go.Shelf
set_option maxRecDepth 100000
attribute [local go_sem] Oper.semAt_some

/-- the boxes of two graphs, and of the result -/
structure HB (wr : World) (G : Nat) (n e k f : Int) (b : Bool) : Prop where
  size : G + 2 < wr.heap.size
  g0 : wr.cell? ⟨G, 0, none⟩ = some (.int .i64 n)
  g1 : wr.cell? ⟨G, 1, none⟩ = some (.int .u32 e)
  h0 : wr.cell? ⟨G + 1, 0, none⟩ = some (.int .i64 k)
  h1 : wr.cell? ⟨G + 1, 1, none⟩ = some (.int .u32 f)
  r0 : wr.cell? ⟨G + 2, 0, none⟩ = some (.bool b)
  fr : wr.frozen? ⟨G + 2, 0, none⟩ = false
theorem HB.under {wr w' : World} {G B : Nat} {n e k f : Int} {b : Bool} (h : HB wr G n e k f b) (hb : Below B wr w') (hB : G + 2 < B) : HB w' G n e k f b where
  size := Nat.lt_of_lt_of_le h.size hb.size
  g0 := (hb.cell (p := ⟨G, 0, none⟩) (by show G < B; omega)).trans h.g0
  g1 := (hb.cell (p := ⟨G, 1, none⟩) (by show G < B; omega)).trans h.g1
  h0 := (hb.cell (p := ⟨G + 1, 0, none⟩) (by show G + 1 < B; omega)).trans h.h0
  h1 := (hb.cell (p := ⟨G + 1, 1, none⟩) (by show G + 1 < B; omega)).trans h.h1
  r0 := (hb.cell (p := ⟨G + 2, 0, none⟩) hB).trans h.r0
  fr := (hb.frozen (p := ⟨G + 2, 0, none⟩) hB).trans h.fr
theorem HB.set {wr : World} {G : Nat} {n e k f : Int} {b : Bool} (h : HB wr G n e k f b) (c : Bool) : HB (wr.setCell ⟨G + 2, 0, none⟩ (.bool c)) G n e k f c where
  size := by have := h.size; simpa using this
  g0 := (World.cell?_setCell_other _ _ _ _ (by simp)).trans h.g0
  g1 := (World.cell?_setCell_other _ _ _ _ (by simp)).trans h.g1
  h0 := (World.cell?_setCell_other _ _ _ _ (by simp)).trans h.h0
  h1 := (World.cell?_setCell_other _ _ _ _ (by simp)).trans h.h1
  r0 := World.cell?_setCell_same _ _ _ h.r0
  fr := by rw [World.frozen?_setCell]; exact h.fr
theorem HB.begin (w : World) (n e k f : Int) (t u : TypeId) : HB (((w.alloc (.cells #[.int .i64 n, .int .u32 e] t)).alloc (.cells #[.int .i64 k, .int .u32 f] t)).alloc (.cells #[.bool false] u)) w.heap.size n e k f false := by
  have s1 : ∀ (W : World) (o : Obj), (W.alloc o).heap.size = W.heap.size + 1 := fun W o => by simp
  constructor
  · rw [s1, s1, s1]; omega
  · rw [cOld _ _ _ _ (by rw [s1, s1]; omega), cOld _ _ _ _ (by rw [s1]; omega), cNew _ _ _ _ _ rfl]; rfl
  · rw [cOld _ _ _ _ (by rw [s1, s1]; omega), cOld _ _ _ _ (by rw [s1]; omega), cNew _ _ _ _ _ rfl]; rfl
  · rw [cOld _ _ _ _ (by rw [s1, s1]; omega), cNew _ _ _ _ _ (by rw [s1])]; rfl
  · rw [cOld _ _ _ _ (by rw [s1, s1]; omega), cNew _ _ _ _ _ (by rw [s1])]; rfl
  · rw [cNew _ _ _ _ _ (by rw [s1, s1])]; rfl
  · rw [fNew _ _ _ _ _ (by rw [s1, s1])]

def partAct (n e k f : Nat) (G B : Nat) (v : Value) (Lb : Nat) : Act := { tmps := #[.agg #[.int .i64 n, .int .u32 e], .agg #[.int .i64 k, .int .u32 f], .pointer (some ⟨G, 0, none⟩), .pointer (some ⟨G + 1, 0, none⟩), .pointer (some ⟨G + 1 + 1, 0, none⟩), .pointer (some ⟨Lb, 0, none⟩),
  undef, undef, .pointer (some ⟨G, 0, none⟩), .int .i64 n, .pointer (some ⟨G + 1, 0, none⟩), .int .i64 k,
  .func (.func 91) #[] #[.pointer (some ⟨B, 0, none⟩), .pointer (some ⟨B + 1, 0, none⟩)], v, undef, undef, undef, undef, undef, undef, undef, undef, undef, undef, undef, undef, undef, undef], defers := [] }
def PartAx (n e k f : Nat) (G B : Nat) (v : Value) (a' : Act) (W : World) : Prop := ∃ Lb, a' = partAct n e k f G B v Lb ∧ W.cell? ⟨Lb, 0, none⟩ = some v
theorem PartAx.cellular (n e k f : Nat) (G B : Nat) (v : Value) (a' : Act) : Cellular (PartAx n e k f G B v a') := fun A l o o' h hl ho => by
  obtain ⟨Lb, h1, h2⟩ := h
  exact ⟨Lb, h1, cellular_cell _ _ A l o o' h2 hl ho⟩
def PartI (w : World) (n e k f : Nat) (G : Nat) (pre : List (List Nat)) (W : World) : Prop := HB W G n e k f false ∧ (∀ x ∈ pre, fits e f k x = false) ∧ Below G w W
def PartIx (w : World) (n e k f : Nat) (G : Nat) (c : Code) (_pre : List (List Nat)) (W : World) : Prop := c = .ret ∧ (∃ x, x ∈ lists n k ∧ fits e f k x = true) ∧ HB W G n e k f true ∧ Below G w W

set_option maxHeartbeats 4000000 in
theorem part_any (w : World) (n e k f : Nat) (h : VG n e) (h2 : VG k f) :
    Calls Try.prog 75 #[.agg #[.int .i64 n, .int .u32 e], .agg #[.int .i64 k, .int .u32 f]] w fun r w' => r = .returned (.bool (partB n e k f)) ∧ Below w.heap.size w w' := by
  have he : e < 4294967296 := by have := h.2.2.2; have := eMax_le n; simp at *; omega
  have hf : f < 4294967296 := by have := h2.2.2.2; have := eMax_le k; simp at *; omega
  have hn5 : n ≤ 5 := by have := h.2.1; omega
  have hk5 : k ≤ 5 := by have := h2.2.1; omega
  refine (callsIn_wide (n := 5)).1 ?_
  refine callsIn_of_wp_marks Try.func75 rfl trivial ?_ rfl
  simp only [Try.ntmps75, List.size_toArray, List.length_cons, List.length_nil, Nat.reduceAdd, Nat.reduceSub, Array.replicate_succ, Array.replicate_zero, List.push_toArray, List.append_toArray, List.nil_append, List.cons_append]
  gi_wp2
  refine wpIn_wide.2 (wp_scope_straight ((wpIn_wide (n := 5)).1 ?_))
  gi_wp2
  refine wpIn_label ?_
  gi_wp2_with (refine ⟨trivial, ?_⟩; gi_at_call 85; refine (callsIn_wide.2 (lo_any _ n k)).mono ?_; rintro r1 w1 ⟨B, rfl, hM⟩)
  have hP := (HB.begin w n e k f 33 4).under hM.below (by simp)
  have hB1 : Below w.heap.size w w1 := by have hb := hM.below; (repeat (first | exact Below.refl _ _ | assumption | refine bchain (by assumption) ?_ | refine balloc ?_ _ | apply Below.drew | apply below_drewN | (refine Below.alloc ?_ (by (try simp) <;> omega) _) | (refine Below.setCell ?_ (by (try simp) <;> omega) _)))
  have hge := hM.ge
  have e3 : (((w.alloc (.cells #[.int .i64 (n : Int), .int .u32 (e : Int)] 33)).alloc (.cells #[.int .i64 (k : Int), .int .u32 (f : Int)] 33)).alloc (.cells #[.bool false] 4)).heap.size = w.heap.size + 3 := by simp
  rw [e3] at hge
  have hBlt := hM.lt
  have gn := hM.gn
  have gk := hM.gk
  clear hM e3
  obtain ⟨G, hG⟩ : ∃ G, w.heap.size = G := ⟨_, rfl⟩
  rw [hG] at hP hB1 hge ⊢
  refine wpIn_range_seesA rfl (by omega) (gf := 91) (lb := #[.pointer (some ⟨B, 0, none⟩), .pointer (some ⟨B + 1, 0, none⟩)]) rfl trivial (enters_of Try.func91 (by kernel_rfl) rfl)
    (lists_sees n k hn5 hk5 4 B (B + 1) w1 (by omega) hBlt gn gk) (Below.refl _ _) rfl See.below See.cellular
    (PartI w n e k f G) (PartIx w n e k f G)
    (fun s A A' hs hb => ⟨hs.1.under hb (by omega), hs.2.1, hs.2.2.trans (hb.mono (by omega))⟩)
    (fun c s A A' hs hb => ⟨hs.1, hs.2.1, hs.2.2.1.under hb (by omega), hs.2.2.2.trans (hb.mono (by omega))⟩)
    ⟨hP, fun x hx => (by cases hx), hB1⟩
    (PartAx n e k f G B) (PartAx.cellular n e k f G B) ?assign ?body ?done ?stop
  case assign =>
    intro l x v W K hS hK
    obtain ⟨a, cap, rfl, h1, h2, h3⟩ := hS
    gi_wp2
    exact hK _ _ ((Below.refl _ W).alloc (Nat.le_refl _) _) ⟨W.heap.size, rfl, by rw [cNew _ _ _ _ _ rfl]; rfl⟩
  case body =>
    clear hP gn gk
    rintro l pre x rest v a' W hl hrec hL ⟨hP, hno, hB⟩ hS ⟨Lb, rfl, hLb⟩
    have hok := lists_ok hn5 hk5 (x := x) (by rw [hL]; simp)
    have hE := Lib.hid (fun W => eo_any W k f)
    obtain ⟨q0, q1, q2, q3, q4, q5, q6⟩ := id hP
    dsimp only [partAct]
    gi_wp2_with (refine ⟨trivial, ?_⟩; gi_at_call 86; refine (CallsIn.inRound l (callsIn_wide.2 (hE.out _))).mono ?_; rintro r2 w2 ⟨Bg, rfl, hBg, hb2, hz2, g0, g1, ga⟩)
    obtain ⟨aS, cap, rfl, s1, s2, s3⟩ := id hS
    rw [zl_length, ok_length hok] at s1 ⊢
    obtain ⟨rl, hrl⟩ := hrec
    have hl2 : w2.heap[l]? = some (.loop rl) := (hb2.block _ (Array.getElem?_eq_some_iff.1 hrl).1).trans hrl
    have hWz := q0
    have c0 : w2.cell? ⟨G, 0, none⟩ = some (.int .i64 n) := (hb2.cell (p := ⟨G, 0, none⟩) (by show G < _; omega)).trans q1
    have c1 : w2.cell? ⟨G, 1, none⟩ = some (.int .u32 e) := (hb2.cell (p := ⟨G, 1, none⟩) (by show G < _; omega)).trans q2
    have cL : w2.cell? ⟨Lb, 0, none⟩ = some (.slice aS k cap) := (hb2.cell (p := ⟨Lb, 0, none⟩) (cell_lt hLb)).trans (by rw [hLb, zl_length, ok_length hok])
    have hB2 : Below G w w2 := hB.trans (hb2.mono (by omega))
    have hP2 := hP.under (w' := w2) hb2 (by omega)
    have hUp : Upper w1.heap.size W w2 := Upper.of_below hb2
    have hl3 : w.heap.size ≤ l := by have := hB1.size; omega
    have hGl : G + 2 < w2.heap.size := by have := hb2.size; omega
    clear q0 q1 q2 q3 q4 q5 q6 hLb hrl
    refine wpIn_rangeFunc_ownN (F := Fence.wide.inRound l) rfl hl2 (by omega) (gf := 94) (lb := #[.pointer (some ⟨Bg, 0, none⟩), .pointer (some ⟨Bg + 1, 0, none⟩)]) rfl trivial (enters_of Try.func94 (by kernel_rfl) rfl)
      (SeqStopsK.inRound l (pj_stops 2 (by omega) k f hk5 (fun i j => jn f i j) Bg (Bg + 1) w2 (by omega) (by omega) g0 g1 ga (fun W i j hij hj => joined_any W k f i j hf (by omega) hj)))
      Kp2.trans (Kp2.put (by omega) (by omega)) (Below.refl _ _) (fun _ => rfl)
      (fun pr W' => (∀ p ∈ vals pr, jn e (x[p.1]?.getD 0) (x[p.2]?.getD 0) = true) ∧ Below w2.heap.size w2 W')
      (fun c pr W' => (c = .exit 1 ∧ ∃ p ∈ vals pr, jn e (x[p.1]?.getD 0) (x[p.2]?.getD 0) = false) ∧ Below w2.heap.size w2 W')
      (OwnFrom.and (ownFrom_pure _ _) (ownFrom_below (Nat.le_refl _) (Nat.le_refl _)))
      (fun c => OwnFrom.and (ownFrom_pure _ _) (ownFrom_below (Nat.le_refl _) (Nat.le_refl _)))
      ⟨fun p hp => (by cases hp), Below.refl _ _⟩
      (fun p a' _ => a' = { tmps := #[.agg #[.int .i64 n, .int .u32 e], .agg #[.int .i64 k, .int .u32 f], .pointer (some ⟨G, 0, none⟩), .pointer (some ⟨G + 1, 0, none⟩), .pointer (some ⟨G + 1 + 1, 0, none⟩), .pointer (some ⟨Lb, 0, none⟩),
        .int .i64 (p.1.1 : Nat), .int .i64 (p.1.2 : Nat), .pointer (some ⟨G, 0, none⟩), .int .i64 n, .pointer (some ⟨G + 1, 0, none⟩), .int .i64 k,
        .func (.func 91) #[] #[.pointer (some ⟨B, 0, none⟩), .pointer (some ⟨B + 1, 0, none⟩)], .slice aS k cap, .agg #[.int .i64 k, .int .u32 f],
        .func (.func 94) #[] #[.pointer (some ⟨Bg, 0, none⟩), .pointer (some ⟨Bg + 1, 0, none⟩)], .int .i64 (p.1.1 : Nat), .int .i64 (p.1.2 : Nat), undef, undef, undef, undef, undef, undef, undef, undef, undef, undef], defers := [] })
      (fun p a' => fun _ _ _ _ h _ _ => h) ?assign2 ?body2 ?done2 ?stop2
    case assign2 =>
      intro l' pr p W' K hI hK
      gi_wp2
      exact hK _ _ (KeepsFrom.refl _ _) (Kp2.refl _ _ _) hI rfl
    case body2 =>
      rintro l' pr ⟨⟨i, j⟩, hij, hj⟩ a' W' hl' hrec' ⟨hall, hbW⟩ rfl hlen
      dsimp only at hij hj ⊢
      have hzl : zl x ≠ [] := fun c => by
        have := zl_length x
        rw [c, ok_length hok] at this
        simp at this
        omega
      obtain ⟨b, off, rfl, hbl, hcs⟩ := s3 hzl
      have xi := ok_lt hok (show i < k by omega)
      have xj := ok_lt hok hj
      have ci : W'.cell? ⟨b, off + i, none⟩ = some (.int .i64 ((x[i]?.getD 0 : Nat) : Int)) := by
        rw [hbW.cell (p := ⟨b, off + i, none⟩) (Nat.lt_of_lt_of_le hbl hb2.size), hb2.cell (p := ⟨b, off + i, none⟩) hbl, hcs i (by rw [zl_length, ok_length hok]; omega), zl_get]
      have cj : W'.cell? ⟨b, off + j, none⟩ = some (.int .i64 ((x[j]?.getD 0 : Nat) : Int)) := by
        rw [hbW.cell (p := ⟨b, off + j, none⟩) (Nat.lt_of_lt_of_le hbl hb2.size), hb2.cell (p := ⟨b, off + j, none⟩) hbl, hcs j (by rw [zl_length, ok_length hok]; omega), zl_get]
      have d0 := (hbW.cell (p := ⟨G, 0, none⟩) (by show G < _; omega)).trans c0
      have d1 := (hbW.cell (p := ⟨G, 1, none⟩) (by show G < _; omega)).trans c1
      have dL := (hbW.cell (p := ⟨Lb, 0, none⟩) (cell_lt cL)).trans cL
      have hA := Lib.hid (apart_any W'.drew n e (x[i]?.getD 0) (x[j]?.getD 0) he (by omega) (by omega))
      have hi1 : (i : Int) < (k : Int) := by omega
      have hj1 : (j : Int) < (k : Int) := by omega
      have hnx : ∀ bb, jn e (x[i]?.getD 0) (x[j]?.getD 0) = bb → ∀ W4 a4, Below W'.drew.heap.size W'.drew W4 → ownPostG w2.heap.size (Kp2 Bg (Bg + 1))
          (fun pr W' => (∀ p ∈ vals pr, jn e (x[p.1]?.getD 0) (x[p.2]?.getD 0) = true) ∧ Below w2.heap.size w2 W')
          (fun c pr W' => (c = .exit 1 ∧ ∃ p ∈ vals pr, jn e (x[p.1]?.getD 0) (x[p.2]?.getD 0) = false) ∧ Below w2.heap.size w2 W')
          (pr ++ [⟨(i, j), hij, hj⟩]) W' (if bb then .normal else .exit 1) a4 W4 := fun bb hbb W4 a4 hb4 => by
        have hb4' : Below W'.heap.size W' W4 := (Below.refl _ W').drew.trans hb4
        have hkf : KeepsFrom w2.heap.size W' W4 := ⟨hb4'.size, fun q o _ ho _ => (hb4'.block q (Array.getElem?_eq_some_iff.1 ho).1).trans ho⟩
        have hb5 : Below w2.heap.size w2 W4 := hbW.trans (hb4'.mono hbW.size)
        cases bb
        · exact ⟨hkf, ⟨rfl, (i, j), by rw [vals_snoc]; simp, hbb⟩, hb5⟩
        · refine ⟨hkf, Kp2.of_below hb4' (by have := hbW.size; omega) (by have := hbW.size; omega), fun p hp => ?_, hb5⟩
          rw [vals_snoc, List.mem_append] at hp
          rcases hp with hp | hp
          · exact hall p hp
          · simp only [List.mem_singleton] at hp; subst hp; exact hbb
      replace hnx := Lib.hid hnx
      obtain ⟨bb, hbb⟩ : ∃ bb, jn e (x[i]?.getD 0) (x[j]?.getD 0) = bb := ⟨_, rfl⟩
      rw [hbb] at hA
      have hfin := Lib.hid (hnx.out bb hbb)
      obtain ⟨y, hy⟩ : ∃ y : Nat, x[i]?.getD 0 = y := ⟨_, rfl⟩
      obtain ⟨z, hz⟩ : ∃ z : Nat, x[j]?.getD 0 = z := ⟨_, rfl⟩
      rw [hy] at ci hA
      rw [hz] at cj hA
      clear hbb hy hz hall hnx xi xj
      cases bb
      all_goals
        gi_wp2
        refine wpInR_region_still_tail (r := l') 9 (by kernel_rfl) (by kernel_rfl) (by kernel_rfl) ?_
        simp only [List.take_succ_cons, List.take_zero, List.drop_succ_cons, List.drop_zero]
        repeat still_step
        try refine wpStill_nil ?_
        gi_wp2_with (refine ⟨trivial, ?_⟩; gi_at_call 87; refine (CallsIn.inRound l' (callsIn_wide.2 hA.out)).mono ?_; rintro r4 w4 ⟨rfl, hb4⟩)
        exact hfin.out w4 _ hb4
    case done2 =>
      rintro pr W' hS2 ⟨hall, hbW⟩
      have hPW := hP2.under hbW hGl
      obtain ⟨q0, q1, q2, q3, q4, q5, q6⟩ := id hPW
      have hft : fits e f k x = true := by
        unfold fits
        rw [← hS2, List.all_eq_true]
        exact hall
      have hmem : x ∈ lists n k := by rw [hL]; simp
      have hres : Hid (Upper w1.heap.size W (W'.setCell ⟨G + 1 + 1, 0, none⟩ (.bool true)) ∧ PartIx w n e k f G .ret (pre ++ [x]) (W'.setCell ⟨G + 1 + 1, 0, none⟩ (.bool true))) :=
        ⟨(hUp.trans (Upper.of_below hbW)).trans (Upper.setCell _ _ _ (by show G + 2 < _; omega)), rfl, ⟨x, hmem, hft⟩, hPW.set true, (hB2.trans (hbW.mono (by omega))).setCell (p := ⟨G + 2, 0, none⟩) (by show G ≤ G + 2; omega) _⟩
      clear hall hS2 hft hmem hPW
      gi_wp2
      exact hres.out
    case stop2 =>
      rintro c pr W' hSp ⟨⟨rfl, p, hp, hpf⟩, hbW⟩
      have hft : fits e f k x = false := by
        obtain ⟨i, j, hij, hj, hjf, hv⟩ := hSp
        have hpk : p ∈ prs k := by
          obtain ⟨q, _, rfl⟩ := List.mem_map.1 hp
          exact mem_prs k hk5 q.1.2 q.2.2 q.1.1 q.2.1
        have hpj : jn f p.1 p.2 = true := by
          rw [hv, List.mem_append] at hp
          rcases hp with hp | hp
          · exact (List.mem_filter.1 hp).2
          · simp only [List.mem_singleton] at hp; subst hp; exact hjf
        rw [Bool.eq_false_iff]
        intro hc
        unfold fits at hc
        have := List.all_eq_true.1 hc p (List.mem_filter.2 ⟨hpk, hpj⟩)
        rw [hpf] at this
        cases this
      have hres : Hid (Upper w1.heap.size W W' ∧ PartI w n e k f G (pre ++ [x]) W') :=
        ⟨hUp.trans (Upper.of_below hbW), hP2.under hbW hGl, fun y hy => by
          rw [List.mem_append] at hy
          rcases hy with hy | hy
          · exact hno y hy
          · simp only [List.mem_singleton] at hy; subst hy; exact hft, hB2.trans (hbW.mono (by omega))⟩
      clear hft hSp hp hpf
      gi_wp2
      exact hres.out
  case done =>
    rintro D W hD ⟨hP, hno, hB⟩ hK
    have hpb : Hid (partB n e k f = false) := by
      show partB n e k f = false
      unfold partB
      rw [List.any_eq_false]
      intro x hx
      rw [hno x hx]
      simp
    obtain ⟨q0, q1, q2, q3, q4, q5, q6⟩ := id hP
    have hP2 := hP.set false
    clear hP hno
    gi_wp2
    rw [Exit.noGoto_ret]
    have hK' := (KeepsOthers.setCell W ⟨G + 1 + 1, 0, none⟩ (.bool false)).same D _ hK rfl
    refine ⟨by simp, .inl ⟨_, _, rfl, run_takeDeferred hK', ?_⟩⟩
    have c0 := cell_kept hP2.r0 (grownBy_putObj' _ D (.deferred none)) (fun r e => by cases e; exact ⟨_, hK', rfl⟩)
    refine ⟨.bool false, by simp [results, Try.results75, go_sem, c0], by rw [hpb.out], ?_⟩
    rw [hG]
    exact (hB.setCell (p := ⟨G + 2, 0, none⟩) (by show G ≤ G + 2; omega) _).trans (below_putObj _ _ _ (by omega))
  case stop =>
    rintro D c pre W hD ⟨rfl, hyes, hP, hB⟩ hK
    have hpb : Hid (partB n e k f = true) := by
      show partB n e k f = true
      unfold partB
      rw [List.any_eq_true]
      exact hyes
    obtain ⟨q0, q1, q2, q3, q4, q5, q6⟩ := id hP
    clear hyes
    gi_wp2
    rw [Exit.noGoto_ret]
    refine ⟨by simp, .inl ⟨_, _, rfl, run_takeDeferred hK, ?_⟩⟩
    have c0 := cell_kept hP.r0 (grownBy_putObj' _ D (.deferred none)) (fun r e => by cases e; exact ⟨_, hK, rfl⟩)
    refine ⟨.bool true, by simp [results, Try.results75, go_sem, c0], by rw [hpb.out], ?_⟩
    rw [hG]
    exact hB.trans (below_putObj _ _ _ (by omega))
end Go.Proofs.Ytfnjgdocmfmfgab
