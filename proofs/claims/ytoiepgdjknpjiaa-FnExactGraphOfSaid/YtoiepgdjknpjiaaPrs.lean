/-
  LISTS OF PAIRS OF int64 THAT A CALL MADE: 'OwnA w0 w v ps'; PairsOf: the program's and the model's contracts.
-/
import Derived.Test.YtoiepgdjknpjiaaDeg
import Derived.RangeFuncBox
import Derived.OwnWalk
import Derived.OwnWalkIn
import Derived.StillTailTactics
namespace Go.Proofs.Ytoiepgdjknpjiaa
open Go.RowKit Go.Shelf
set_option maxRecDepth 100000
attribute [local go_sem] Oper.semAt_some

/-- n cells of a block in pairs, by a function -/
def CA (w : World) (B n : Nat) (f : Nat → Int × Int) : Prop := ∀ i, i < n → w.cell? ⟨B, i * 2, none⟩ = some (.int .i64 (f i).1) ∧ w.cell? ⟨B, i * 2 + 1, none⟩ = some (.int .i64 (f i).2)
theorem CA.below {w w' : World} {B n : Nat} {f : Nat → Int × Int} (h : CA w B n f) (hb : Below w.heap.size w w') (hB : B < w.heap.size) : CA w' B n f :=
  fun i hi => ⟨(hb.cell (p := ⟨B, _, none⟩) hB).trans (h i hi).1, (hb.cell (p := ⟨B, _, none⟩) hB).trans (h i hi).2⟩
theorem CA.congr {w : World} {B n : Nat} {f g : Nat → Int × Int} (h : CA w B n f) (hg : ∀ i, i < n → g i = f i) : CA w B n g := fun i hi => by rw [hg i hi]; exact h i hi
def OwnA (w0 w : World) (v : Value) (n : Nat) (f : Nat → Int × Int) : Prop :=
  ∃ (a : Option Addr) (cap : Nat), v = .slice a n cap ∧ (0 < n → ∃ B, a = some ⟨B, 0, none⟩ ∧ w0.heap.size ≤ B ∧ B < w.heap.size ∧ CA w B n f ∧ ∀ o, w.frozen? ⟨B, o, none⟩ = false)
theorem OwnA.below {w0 w w' : World} {v : Value} {n : Nat} {f : Nat → Int × Int} (h : OwnA w0 w v n f) (hb : Below w.heap.size w w') : OwnA w0 w' v n f := by
  obtain ⟨a, cap, e, h3⟩ := h
  refine ⟨a, cap, e, fun hz => ?_⟩
  obtain ⟨B, e2, h4, h5, h6, h7⟩ := h3 hz
  exact ⟨B, e2, h4, Nat.lt_of_lt_of_le h5 hb.size, h6.below hb h5, fun o => (hb.frozen (p := ⟨B, o, none⟩) h5).trans (h7 o)⟩
def flat (ps : List (Nat × Nat)) : List Value := ps.flatMap fun p => [.int .i64 (p.1 : Int), .int .i64 (p.2 : Int)]
theorem flat_snoc (ps : List (Nat × Nat)) (p : Nat × Nat) : flat (ps ++ [p]) = flat ps ++ [.int .i64 (p.1 : Int), .int .i64 (p.2 : Int)] := by simp [flat]
theorem flat_length (ps : List (Nat × Nat)) : (flat ps).length = ps.length * 2 := by
  induction ps with
  | nil => rfl
  | cons p ps ih => rw [show flat (p :: ps) = [.int .i64 (p.1 : Int), .int .i64 (p.2 : Int)] ++ flat ps from rfl, List.length_append, ih]; simp; omega
def pAt (ps : List (Nat × Nat)) (i : Nat) : Int × Int := (((ps[i]?.getD (0, 0)).1 : Nat), ((ps[i]?.getD (0, 0)).2 : Nat))
theorem flat_get (ps : List (Nat × Nat)) : ∀ i, i < ps.length → (flat ps)[i * 2]? = some (.int .i64 (pAt ps i).1) ∧ (flat ps)[i * 2 + 1]? = some (.int .i64 (pAt ps i).2) := by
  induction ps with
  | nil => intro i hi; simp at hi
  | cons p ps ih =>
    intro i hi
    rw [show flat (p :: ps) = .int .i64 (p.1 : Int) :: .int .i64 (p.2 : Int) :: flat ps from rfl]
    cases i with
    | zero => exact ⟨rfl, rfl⟩
    | succ i =>
      have := ih i (by simpa using hi)
      rw [show (i + 1) * 2 = i * 2 + 1 + 1 by omega]
      simpa [pAt] using this
theorem row_mono {w : World} {base base' : Nat} {e : TypeId} {size : Nat} {v : Value} {n : Nat} {xs : List Value} (h : w.ownsRow base e size v n xs) (hb : base' ≤ base) : w.ownsRow base' e size v n xs := by
  obtain ⟨hl, (h | ⟨g, cap, cur, e1, h1, h2⟩)⟩ := h
  · exact ⟨hl, .inl h⟩
  · exact ⟨hl, .inr ⟨g, cap, cur, e1, Nat.le_trans hb h1, h2⟩⟩
theorem ownA_of_row {w0 w : World} {base : Nat} {e : TypeId} {v : Value} {ps : List (Nat × Nat)} (h : w.ownsRow base e 2 v ps.length (flat ps)) (hb : w0.heap.size ≤ base) : OwnA w0 w v ps.length (pAt ps) := by
  obtain ⟨hl, (⟨rfl, h0⟩ | ⟨g, cap, cur, rfl, hg, hh, hn, hc, hs, hx⟩)⟩ := h
  · exact ⟨none, 0, by rw [h0], fun c => absurd c (by omega)⟩
  · have hcell : ∀ i, w.cell? ⟨g, i, none⟩ = cur[i]? := fun i => by simp [World.cell?, hh]
    have hat : ∀ j u, j < ps.length * 2 → (flat ps)[j]? = some u → cur[j]? = some u := fun j u hj hu => by
      have h1 : (cur.toList.take (ps.length * 2))[j]? = some u := by rw [hx]; exact hu
      rw [List.getElem?_take_of_lt hj] at h1
      simpa using h1
    refine ⟨some ⟨g, 0, none⟩, cap, rfl, fun _ => ⟨g, rfl, Nat.le_trans hb hg, (Array.getElem?_eq_some_iff.1 hh).1, fun i hi => ?_, fun o => by simp [World.frozen?, hh]⟩⟩
    obtain ⟨f0, f1⟩ := flat_get ps i hi
    exact ⟨(hcell _).trans (hat _ _ (by omega) f0), (hcell _).trans (hat _ _ (by omega) f1)⟩

/-- the pairs of all edges -/
def prE (n e : Nat) : List (Nat × Nat) := (prs n).filter fun p => jn e p.1 p.2
theorem prE_len (n e : Nat) (hn : n ≤ 5) : (prE n e).length ≤ 25 := by
  have h1 := List.length_filter_le (fun p : Nat × Nat => jn e p.1 p.2) (prs n)
  have h2 := prs_length n
  have h3 : n * n ≤ 5 * 5 := Nat.mul_le_mul hn hn
  unfold prE
  omega
theorem info_a2 : (Try.prog.info? 90).map (fun i => (i.zero, i.size, i.bytes)) = some (some (.agg #[.int .i64 0, .int .i64 0]), 2, 16) := by kernel_rfl

theorem below_putObj' {B : Nat} (A : World) (l : Nat) (o : Obj) (hl : B ≤ l) : Below B A (A.putObj l o) :=
  ⟨rfl, rfl, rfl, by simp [World.putObj], fun k hk => World.putObj_heap_other (by omega)⟩
section
variable (w : World)
theorem ipo_inv (n e : Int) (hn : e < 4294967296) (he0 : 0 ≤ e) (h : ¬ VG n e) :
    Calls Try.prog 33 #[.agg #[.int .i64 n, .int .u32 e]] w fun r w' => (∃ v, r = .returned (.tuple #[v, .int .i64 1]) ∧ OwnA w w' v 0 (pAt [])) ∧ Below w.heap.size w w' := by
  go_enter Try.func33, Try.ntmps33
  go_wp2_with fail
  refine (valid_f _ n e hn he0 h).mono ?_
  rintro r1 w1 ⟨rfl, hb1⟩
  go_wp2
  go_ret2
  exact ⟨⟨_, rfl, _, 0, rfl, fun c => absurd c (Nat.lt_irrefl _)⟩, by (repeat (first | exact Below.refl _ _ | assumption | refine bchain (by assumption) ?_ | refine balloc ?_ _ | apply Below.drew | apply below_drewN | (refine Below.alloc ?_ (by (try simp) <;> omega) _) | (refine Below.setCell ?_ (by (try simp) <;> omega) _)))⟩
set_option maxHeartbeats 2000000 in
theorem ipo_ok (n e : Nat) (h : VG n e) :
    Calls Try.prog 33 #[.agg #[.int .i64 n, .int .u32 e]] w fun r w' => (∃ v, r = .returned (.tuple #[v, .int .i64 0]) ∧ OwnA w w' v (prE n e).length (pAt (prE n e))) ∧ Below w.heap.size w w' := by
  have he : e < 4294967296 := by have := h.2.2.2; have := eMax_le n; simp at *; omega
  have hn5 : n ≤ 5 := by have := h.2.1; omega
  obtain ⟨i0, hi, hz0, hz1, hz2⟩ := info_parts info_a2
  replace hi := Lib.hid hi
  replace hz0 := Lib.hid hz0
  replace hz1 := Lib.hid hz1
  replace hz2 := Lib.hid hz2
  refine (callsIn_wide (n := 5)).1 ?_
  refine callsIn_of_wp_marks Try.func33 rfl trivial ?_ rfl
  simp only [Try.ntmps33, List.size_toArray, List.length_cons, List.length_nil, Nat.reduceAdd, Nat.reduceSub, Array.replicate_succ, Array.replicate_zero, List.push_toArray, List.append_toArray, List.nil_append, List.cons_append]
  gi_wp2_with (first
    | (refine ⟨trivial, ?_⟩; gi_at_call 38; refine (callsIn_wide.2 (valid_t _ n e h)).mono ?_; rintro r1 w1 ⟨rfl, hb1⟩; obtain ⟨hc1, hz1'⟩ := bkeep hb1 w.heap.size (by (try simp) <;> omega))
    | (refine ⟨trivial, ?_⟩; gi_at_call 70; refine (callsIn_wide.2 (eo_any _ n e)).mono ?_; rintro r2 w2 ⟨Bg, rfl, hBg, hb2, hz2', g0, g1, ga⟩))
  have hB1 : Below w.heap.size w w1 := by (repeat (first | exact Below.refl _ _ | assumption | refine bchain (by assumption) ?_ | refine balloc ?_ _ | apply Below.drew | apply below_drewN | (refine Below.alloc ?_ (by (try simp) <;> omega) _) | (refine Below.setCell ?_ (by (try simp) <;> omega) _)))
  have hB2 : Below w.heap.size w w2 := by (repeat (first | exact Below.refl _ _ | assumption | refine bchain (by assumption) ?_ | refine balloc ?_ _ | apply Below.drew | apply below_drewN | (refine Below.alloc ?_ (by (try simp) <;> omega) _) | (refine Below.setCell ?_ (by (try simp) <;> omega) _)))
  have hBge := hB1.size
  have es : (w1.alloc (.cells #[.slice none 0 0] 46)).heap.size = w1.heap.size + 1 := by simp
  rw [es] at hBg
  have qP : Boxed w2 w1.heap.size 46 (.slice none 0 0) := (hb2.block _ (by rw [es]; omega)).trans (Boxed.new w1 46 (.slice none 0 0))
  obtain ⟨B, hB⟩ : ∃ B, w1.heap.size = B := ⟨_, rfl⟩
  rw [hB] at qP hBg hBge ⊢
  have hsz := hB2.size
  clear hc1 hb1 hb2 hB1 hz1' es
  refine wpIn_rangeFunc_ownG rfl (by omega) (gf := 94) (lb := #[.pointer (some ⟨Bg, 0, none⟩), .pointer (some ⟨Bg + 1, 0, none⟩)]) rfl trivial (enters_of Try.func94 (by kernel_rfl) rfl)
    (pj_stops 4 (by omega) n e hn5 (fun i j => jn e i j) Bg (Bg + 1) w2 (by omega) (by omega) g0 g1 ga (fun W i j hij hj => joined_any W n e i j he (by omega) hj))
    Kp2.trans (Kp2.put (by omega) (by omega)) (Below.refl _ _) (fun _ => rfl)
    (fun pre W => (∃ v, Boxed W B 46 v ∧ W.ownsRow w2.heap.size 90 2 v pre.length (flat (vals pre)) ∧ True) ∧ (w2.heap.size ≤ W.heap.size ∧ Below w.heap.size w W))
    (fun _ _ _ => False)
    (OwnFrom.and (Own.from (holdsRow_own w2.heap.size B _ _ 2 (fun pre : List (Pr n) => pre.length) (fun pre => flat (vals pre)) (fun _ _ => True)) _) (OwnFrom.and (fun _ _ _ _ hs hg _ => Nat.le_trans hs hg.size) (ownFrom_below (Nat.le_refl _) hsz)))
    (fun _ _ _ _ _ hs _ _ => hs)
    ⟨⟨_, qP, World.ownsRow_nil _ _ _ _, trivial⟩, Nat.le_refl _, hB2⟩
    (fun x => { tmps := #[.agg #[.int .i64 n, .int .u32 e], .pointer (some ⟨w.heap.size, 0, none⟩), .slice none 0 0, .int .i64 0, .pointer (some ⟨B, 0, none⟩), .int .i64 (x.1.1 : Nat), .int .i64 (x.1.2 : Nat), .agg #[.int .i64 n, .int .u32 e], .bool true, .bool false, .agg #[.int .i64 n, .int .u32 e],
      .func (.func 94) #[] #[.pointer (some ⟨Bg, 0, none⟩), .pointer (some ⟨Bg + 1, 0, none⟩)], .int .i64 (x.1.1 : Nat), .int .i64 (x.1.2 : Nat), undef, undef, undef, undef, undef, undef, undef], defers := [] }) ?assign ?body ?done ?stop
  case assign =>
    intro l x W K hK
    gi_wp2
    exact hK
  case body =>
    rintro l pre ⟨⟨i, j⟩, hij, hj⟩ W ⟨⟨v, hv, hrow, _⟩, hWz, hb⟩ hlen
    dsimp only at hij hj ⊢
    have hcv := hv.cell
    have hge := hb.size
    have hbd : ∀ W : World, (Instr.build 90 #[(0, .int .i64 (i : Int)), (1, .int .i64 (j : Int))]).run Try.prog W = .ok (.agg #[.int .i64 (i : Int), .int .i64 (j : Int)]) W := fun W => run_build W 90 _ _ (by kernel_rfl)
    have hvl := vals_length pre
    have hnb : ∀ q, q < w2.heap.size → some q ≠ v.ownBlock := fun q hq c => by
      have := (hrow.lt q c.symm).1
      omega
    have hnx : flat (vals (pre ++ [⟨(i, j), hij, hj⟩])) = flat (vals pre) ++ [.int .i64 (i : Int), .int .i64 (j : Int)] := by rw [vals_snoc, flat_snoc]
    replace hnx := Lib.hid hnx
    replace hrow := Lib.hid hrow
    replace hnb := Lib.hid hnb
    replace hv := Lib.hid hv
    gi_wp2_with (gi_at_builtin; refine wpListIn_append_own _ rfl _ _ 46 rfl w2.heap.size 90 i0 (.agg #[.int .i64 0, .int .i64 0]) 2 16 Try.underlying46 hi.out hz0.out hz1.out hz2.out rfl (by decide) _ _ _ rfl (hrow.out.alloc _) ⟨W.heap.size, 0, none⟩ 1 1 [.int .i64 i, .int .i64 j] rfl rfl (fun q u hq => by match q, hq with
      | 0, hq => simp at hq; subst hq; rw [show (⟨W.heap.size, 0, none⟩ : Addr).add 0 = ⟨W.heap.size, 0, none⟩ from rfl, World.cell?_alloc_new]; rfl
      | 1, hq => simp at hq; subst hq; rw [show (⟨W.heap.size, 0, none⟩ : Addr).add 1 = ⟨W.heap.size, 1, none⟩ from rfl, World.cell?_alloc_new]; rfl
      | q + 2, hq => simp at hq) (fun u hu => by simp at hu; rcases hu with rfl | rfl <;> rfl) (by unfold maxLen; omega) (by omega) (by simp; omega) ?_; intro v' w3 hown' hgrow _; obtain ⟨g, cap, rfl⟩ := ownsRow_succ hown'; obtain ⟨k1, k2, k3, k4, k5⟩ := Boxed.appended hv.out (by decide) (row_mono hrow.out hsz) hge hBge (row_mono hown' hsz) hgrow; have c1 := k1.cell; have c2 := k1.frozen)
    refine ⟨k4.from _, ⟨k4.size, ?_, ?_⟩, ⟨_, k2, ?_, trivial⟩, Nat.le_trans hWz k4.size, hb.trans k5⟩
    · rw [Below.heap_setCell _ _ _ _ (by show Bg ≠ B; omega), hgrow.block Bg (by simp; omega) (hnb.out Bg (by omega)), Below.heap_alloc _ _ _ (by omega)]
    · rw [Below.heap_setCell _ _ _ _ (by show Bg + 1 ≠ B; omega), hgrow.block (Bg + 1) (by simp; omega) (hnb.out (Bg + 1) (by omega)), Below.heap_alloc _ _ _ (by omega)]
    · rw [hnx.out, List.length_append]
      exact ownsRow_setCell_below hown' (by show B < _; omega) _
  case done =>
    rintro D xs W hD hS ⟨⟨v, hv, hrow, _⟩, hWz, hb⟩ hK
    have hx : vals xs = prE n e := hS
    have hxl : xs.length = (prE n e).length := by rw [← hx, vals_length]
    rw [hx, hxl] at hrow
    have hcv := hv.cell
    have hrow' := Lib.hid (ownsRow_putObj hrow (.deferred none) hK rfl)
    have hbe := Lib.hid (hb.trans (below_putObj' W D (.deferred none) (B := w.heap.size) (by omega)))
    replace hrow := Lib.hid hrow
    replace hv := Lib.hid hv
    clear hx hxl hS
    gi_wp2
    refine ⟨by simp, .inl ⟨_, _, rfl, run_takeDeferred hK, ?_⟩⟩
    exact ⟨_, results_tmp2 rfl _ _ _, ⟨_, rfl, ownA_of_row hrow'.out hsz⟩, hbe.out⟩
  case stop =>
    rintro D c pre W _ _ h _
    exact h.elim
end
end Go.Proofs.Ytoiepgdjknpjiaa
