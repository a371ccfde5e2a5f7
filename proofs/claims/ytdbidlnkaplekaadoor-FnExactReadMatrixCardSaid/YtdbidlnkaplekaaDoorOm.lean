/-
  A MATRIX THAT IS GROWN ROW BY ROW, each row in a block of its own: OwnRs; how it is read, marked, and found marked again (SqR).
-/
import Derived.Test.YtdbidlnkaplekaaDoorRwI
import Derived.Test.YtdbidlnkaplekaaDoorFrM
namespace Go.Proofs.YtdbidlnkaplekaaDoor
open Go.RowKit Go.Shelf
set_option maxRecDepth 100000
theorem rr_ne {w : World} {base base2 size n m s2 : Nat} {v u : Value} {xs ys : List Value} (h : w.ownsRow base 51 size v n xs) (h2 : w.ownsRow base2 53 s2 u m ys) : u.ownBlock = none ∨ u.ownBlock ≠ v.ownBlock := by
  rcases h2.2 with ⟨rfl, _⟩ | ⟨g2, cap2, cur2, rfl, _, hh2, _⟩
  · exact .inl rfl
  · refine .inr ?_
    rcases h.2 with ⟨rfl, _⟩ | ⟨g', cap, cur', rfl, _, hh, _⟩
    · intro c; cases c
    · intro c
      injection c with c
      subst c
      rw [hh2] at hh
      injection hh with hh
      injection hh with _ c2
      exact absurd c2 (by decide)
theorem rr_below {base size n : Nat} {e : TypeId} {W W' : World} {v : Value} {xs : List Value} (h : W.ownsRow base e size v n xs) (hb : Below W.heap.size W W') : W'.ownsRow base e size v n xs := by
  refine ⟨h.1, ?_⟩
  rcases h.2 with hn | ⟨g, cap, cur, rfl, a1, a2, a3⟩
  · exact .inl hn
  · exact .inr ⟨g, cap, cur, rfl, a1, (hb.block g (Array.getElem?_eq_some_iff.1 a2).1).trans a2, a3⟩
theorem rr_mono {w : World} {base base' size n : Nat} {e : TypeId} {v : Value} {xs : List Value} (h : w.ownsRow base e size v n xs) (hb : base' ≤ base) : w.ownsRow base' e size v n xs := by
  refine ⟨h.1, ?_⟩
  rcases h.2 with hn | ⟨g, cap, cur, rfl, a1, a2⟩
  · exact .inl hn
  · exact .inr ⟨g, cap, cur, rfl, by omega, a2⟩
def RowsAt (base : Nat) (W : World) (us : List Value) (m : List (List (Int × Int))) : Prop :=
  us.length = m.length ∧ (∀ i, i < m.length → ∃ u, us[i]? = some u ∧ W.ownsRow base 53 2 u (Fr.rAt m i).length (flF (Fr.rAt m i))) ∧
    (∀ (i j : Nat) (u u' : Value), i < j → us[i]? = some u → us[j]? = some u' → u.ownBlock = none ∨ u.ownBlock ≠ u'.ownBlock)
def OwnRs (base : Nat) (W : World) (v : Value) (m : List (List (Int × Int))) : Prop := ∃ us : List Value, RowsAt base W us m ∧ W.ownsRow base 51 1 v m.length us
theorem RowsAt.below {base : Nat} {W W' : World} {us : List Value} {m : List (List (Int × Int))} (h : RowsAt base W us m) (hb : Below W.heap.size W W') : RowsAt base W' us m :=
  ⟨h.1, fun i hi => by obtain ⟨u, e1, e2⟩ := h.2.1 i hi; exact ⟨u, e1, rr_below e2 hb⟩, h.2.2⟩
theorem OwnRs.below {base : Nat} {W W' : World} {v : Value} {m : List (List (Int × Int))} (h : OwnRs base W v m) (hb : Below W.heap.size W W') : OwnRs base W' v m := by
  obtain ⟨us, h1, h2⟩ := h
  exact ⟨us, h1.below hb, rr_below h2 hb⟩
theorem RowsAt.nil (base : Nat) (W : World) : RowsAt base W [] [] := ⟨rfl, fun i hi => by simp at hi, fun i j u u' _ h => by simp at h⟩
theorem OwnRs.nil (base : Nat) (W : World) : OwnRs base W (.slice none 0 0) [] := ⟨[], RowsAt.nil _ _, World.ownsRow_nil _ _ _ _⟩
theorem OwnRs.made (base : Nat) (W : World) (hb : base ≤ W.heap.size) : OwnRs base (W.alloc (.cells #[] 51)) (.slice (some ⟨W.heap.size, 0, none⟩) 0 0) [] :=
  ⟨[], RowsAt.nil _ _, World.ownsRow_made W #[] 0 hb (by omega) rfl⟩
theorem RowsAt.lt {base : Nat} {W : World} {us : List Value} {m : List (List (Int × Int))} (h : RowsAt base W us m) : ∀ (i : Nat) (y : Value), us[i]? = some y → ∀ k, y.ownBlock = some k → k < W.heap.size := fun i y hy k hk => by
  have hi : i < us.length := (List.getElem?_eq_some_iff.1 hy).1
  rw [h.1] at hi
  obtain ⟨u, e1, e2⟩ := h.2.1 i hi
  rw [hy] at e1
  obtain rfl := Option.some.inj e1
  exact (e2.lt k hk).2
theorem rr_same {base size n : Nat} {e : TypeId} {W W' : World} {v : Value} {xs : List Value} (h : W.ownsRow base e size v n xs) (hs : ∀ g cur t, base ≤ g → W.heap[g]? = some (.cells cur t (0, 0)) → W'.heap[g]? = W.heap[g]?) : W'.ownsRow base e size v n xs := by
  refine ⟨h.1, ?_⟩
  rcases h.2 with hn | ⟨g, cap, cur, rfl, a1, a2, a3⟩
  · exact .inl hn
  · exact .inr ⟨g, cap, cur, rfl, a1, (hs g cur _ a1 a2).trans a2, a3⟩
theorem OwnRs.same {base : Nat} {W W' : World} {v : Value} {m : List (List (Int × Int))} (h : OwnRs base W v m) (hs : ∀ g cur t, base ≤ g → W.heap[g]? = some (.cells cur t (0, 0)) → W'.heap[g]? = W.heap[g]?) : OwnRs base W' v m := by
  obtain ⟨us, ⟨h1, h3, h4⟩, h2⟩ := h
  exact ⟨us, ⟨h1, fun i hi => by obtain ⟨u, e1, e2⟩ := h3 i hi; exact ⟨u, e1, rr_same e2 hs⟩, h4⟩, rr_same h2 hs⟩
/-- behind an append of one row -/
theorem OwnRs.push {base b2 : Nat} {W W' : World} {v v' u : Value} {m : List (List (Int × Int))} {x : List (Int × Int)} {us : List Value} (h : RowsAt base W us m) (h2 : W.ownsRow base 51 1 v m.length us)
    (hb2 : base ≤ b2) (h5 : ∀ (i : Nat) (y : Value), us[i]? = some y → ∀ k, y.ownBlock = some k → k < b2) (hu : W.ownsRow b2 53 2 u x.length (flF x))
    (hown : W'.ownsRow base 51 1 v' (m.length + 1) (us ++ [u])) (hg : W.grownBy W' v.ownBlock) : OwnRs base W' v' (m ++ [x]) := by
  obtain ⟨h1, h3, h4⟩ := h
  refine ⟨us ++ [u], ⟨by simp [h1], fun i hi => ?_, fun i j y y' hij hy hy' => ?_⟩, by rw [List.length_append]; exact hown⟩
  · rw [List.length_append] at hi
    simp at hi
    by_cases c : i < m.length
    · obtain ⟨y, e1, e2⟩ := h3 i c
      refine ⟨y, by rw [List.getElem?_append_left (by omega)]; exact e1, ?_⟩
      have e : Fr.rAt (m ++ [x]) i = Fr.rAt m i := by unfold Fr.rAt; rw [List.getElem?_append_left c]
      rw [e]
      exact e2.kept hg (rr_ne h2 e2)
    · obtain rfl : i = m.length := by omega
      refine ⟨u, by rw [← h1, List.getElem?_append_right (Nat.le_refl _)]; simp, ?_⟩
      have e : Fr.rAt (m ++ [x]) m.length = x := by unfold Fr.rAt; rw [List.getElem?_append_right (Nat.le_refl _)]; simp
      rw [e]
      exact (rr_mono hu hb2).kept hg (rr_ne h2 (rr_mono hu hb2))
  · have hj : j < us.length + 1 := by have := (List.getElem?_eq_some_iff.1 hy').1; simpa using this
    rw [List.getElem?_append_left (by omega)] at hy
    by_cases c : j < us.length
    · rw [List.getElem?_append_left c] at hy'
      exact h4 i j y y' hij hy hy'
    · obtain rfl : j = us.length := by omega
      rw [List.getElem?_append_right (Nat.le_refl _)] at hy'
      simp at hy'
      subst hy'
      cases hob : y.ownBlock with
      | none => exact .inl rfl
      | some k =>
        refine .inr fun e => ?_
        have a := h5 i y hy k hob
        have b := (hu.lt k e.symm).1
        omega
theorem flF_get : ∀ (gs : List (Int × Int)) (i : Nat), i < gs.length → (flF gs)[i * 2]? = some (.int .i64 (Fr.gAt gs i).1) ∧ (flF gs)[i * 2 + 1]? = some (.int .i64 (Fr.gAt gs i).2)
  | [], i, h => absurd h (by simp)
  | f :: r, 0, _ => ⟨rfl, rfl⟩
  | f :: r, i + 1, h => by
    have h2 := flF_get r i (by simpa using h)
    have e : Fr.gAt (f :: r) (i + 1) = Fr.gAt r i := by simp [Fr.gAt]
    have e2 : flF (f :: r) = .int .i64 f.1 :: .int .i64 f.2 :: flF r := by simp [flF]
    rw [e, e2, show (i + 1) * 2 = i * 2 + 1 + 1 by omega]
    simpa using h2
/-- the cells of an own row of fractions -/
theorem row_cells {W : World} {base : Nat} {gs : List (Int × Int)} {g c : Nat} (h : W.ownsRow base 53 2 (.slice (some ⟨g, 0, none⟩) gs.length c) gs.length (flF gs)) :
    base ≤ g ∧ g < W.heap.size ∧ gs.length ≤ c ∧ c ≤ maxLen ∧ (∀ o, W.frozen? ⟨g, o, none⟩ = false) ∧ (∃ cur, W.heap[g]? = some (.cells cur 53 (0, 0))) ∧
      ∀ i, i < gs.length → W.cell? ⟨g, i * 2, none⟩ = some (.int .i64 (Fr.gAt gs i).1) ∧ W.cell? ⟨g, i * 2 + 1, none⟩ = some (.int .i64 (Fr.gAt gs i).2) := by
  rcases h.2 with ⟨e0, _⟩ | ⟨g', cap, cur, e, a1, a2, a3, a4, a5, a6⟩
  · cases e0
  · injection e with e1 e2 e3
    injection e1 with e1
    injection e1 with e1
    subst e1 e3
    refine ⟨a1, (Array.getElem?_eq_some_iff.1 a2).1, a3, a4, fun o => by simp [World.frozen?, a2], ⟨cur, a2⟩, fun i hi => ?_⟩
    obtain ⟨f1, f2⟩ := flF_get gs i hi
    rw [← a6, List.getElem?_take_of_lt (by omega)] at f1 f2
    exact ⟨by simpa [World.cell?, a2] using f1, by simpa [World.cell?, a2] using f2⟩
theorem row_form2 {w : World} {base size n : Nat} {e : TypeId} {v : Value} {xs : List Value} (h : w.ownsRow base e size v n xs) (hn : 0 < n) : ∃ g c, v = .slice (some ⟨g, 0, none⟩) n c := by
  rcases h.2 with ⟨_, e1⟩ | ⟨g, cap, cur, rfl, _⟩
  · omega
  · exact ⟨g, cap, rfl⟩
theorem row_slg {W : World} {base : Nat} {u : Value} {gs : List (Int × Int)} (h : W.ownsRow base 53 2 u gs.length (flF gs)) : Fr.SlG W u gs := by
  have hm : maxLen ≤ 9223372036854775807 := by unfold maxLen; omega
  cases hg : gs with
  | nil =>
    rcases h.2 with ⟨e0, e1⟩ | ⟨g, cap, cur, e, a1, a2, a3, a4, a5, a6⟩
    · exact ⟨none, 0, e0, by simp, by omega, fun c => absurd rfl c⟩
    · exact ⟨some ⟨g, 0, none⟩, cap, by rw [e, hg], by simp, by omega, fun c => absurd rfl c⟩
  | cons f r =>
    rw [← hg]
    obtain ⟨g, c, e⟩ := row_form2 h (by rw [hg]; simp)
    subst e
    obtain ⟨h1, h2, h3, h4, h5, _, h6⟩ := row_cells h
    exact ⟨_, c, rfl, h3, by omega, fun _ => ⟨g, 0, rfl, h2, fun i hi => by
      have := h6 i hi
      exact ⟨by rw [Nat.zero_add]; exact this.1, by rw [Nat.zero_add]; exact this.2⟩⟩⟩
/-- the cells of the list of rows -/
theorem rows_cells {W : World} {base : Nat} {v : Value} {n : Nat} {us : List Value} (h : W.ownsRow base 51 1 v n us) : (v = .slice none 0 0 ∧ n = 0) ∨ ∃ A cap, v = .slice (some ⟨A, 0, none⟩) n cap ∧ n ≤ cap ∧ cap ≤ maxLen ∧ base ≤ A ∧ A < W.heap.size ∧ (∃ cur, W.heap[A]? = some (.cells cur 51 (0, 0))) ∧
    ∀ i u, us[i]? = some u → W.cell? ⟨A, i, none⟩ = some u := by
  rcases h.2 with h | ⟨g, cap, cur, rfl, a1, a2, a3, a4, a5, a6⟩
  · exact .inl h
  · refine .inr ⟨g, cap, rfl, a3, a4, a1, (Array.getElem?_eq_some_iff.1 a2).1, ⟨cur, a2⟩, fun i u hu => ?_⟩
    have hi : i < n * 1 := by
      have := (List.getElem?_eq_some_iff.1 hu).1
      rw [← a6, List.length_take] at this
      omega
    rw [← a6, List.getElem?_take_of_lt hi] at hu
    simpa [World.cell?, a2] using hu
theorem OwnRs.slm {base : Nat} {W : World} {v : Value} {m : List (List (Int × Int))} (h : OwnRs base W v m) : Fr.SlM W v m := by
  have hm : maxLen ≤ 9223372036854775807 := by unfold maxLen; omega
  obtain ⟨us, ⟨h1, h3, _⟩, h2⟩ := h
  rcases rows_cells h2 with ⟨e0, e1⟩ | ⟨A, cap, rfl, a1, a2, a3, a4, _, a6⟩
  · exact ⟨none, 0, by rw [e0, e1], by omega, by omega, fun c => absurd (List.length_eq_zero_iff.1 e1) c⟩
  · refine ⟨_, cap, rfl, a1, by omega, fun _ => ⟨A, 0, rfl, a4, fun i hi => ?_⟩⟩
    obtain ⟨u, e1, e2⟩ := h3 i hi
    exact ⟨u, by rw [Nat.zero_add]; exact a6 i u e1, row_slg e2⟩
/-- what each cell of a block holds -/
def CFq (w : World) (B N : Nat) (f : Nat → Int) : Prop := ∀ i, i < N → w.cell? ⟨B, i, none⟩ = some (.int .i64 (f i))
/-- n rows of n fractions in blocks of their own -/
structure SqR (W : World) (A n : Nat) (R C : Nat → Nat) (f : Nat → Nat → Int) : Prop where
  ltA : A < W.heap.size
  lt : ∀ i, i < n → R i < W.heap.size
  hd : ∀ i, i < n → W.cell? ⟨A, i, none⟩ = some (.slice (some ⟨R i, 0, none⟩) n (C i))
  cf : ∀ i, i < n → CFq W (R i) (n * 2) (f i)
  fz : ∀ i, i < n → ∀ c, W.frozen? ⟨R i, c, none⟩ = false
theorem SqR.below {W W' : World} {A n : Nat} {R C : Nat → Nat} {f : Nat → Nat → Int} (h : SqR W A n R C f) (hb : Below W.heap.size W W') : SqR W' A n R C f :=
  ⟨Nat.lt_of_lt_of_le h.ltA hb.size, fun i hi => Nat.lt_of_lt_of_le (h.lt i hi) hb.size, fun i hi => (hb.cell (p := ⟨A, i, none⟩) h.ltA).trans (h.hd i hi), fun i hi c hc => (hb.cell (p := ⟨R i, c, none⟩) (h.lt i hi)).trans (h.cf i hi c hc), fun i hi c => (hb.frozen (p := ⟨R i, c, none⟩) (h.lt i hi)).trans (h.fz i hi c)⟩
theorem SqR.congr {W : World} {A n : Nat} {R C : Nat → Nat} {f g : Nat → Nat → Int} (h : SqR W A n R C f) (e : ∀ i, i < n → ∀ c, c < n * 2 → g i c = f i c) : SqR W A n R C g :=
  ⟨h.ltA, h.lt, h.hd, fun i hi c hc => by rw [e i hi c hc]; exact h.cf i hi c hc, h.fz⟩
/-- the blocks of a matrix -/
structure BlR (base A n : Nat) (R : Nat → Nat) : Prop where
  ge : ∀ i, i < n → base ≤ R i
  ne : ∀ i, i < n → A ≠ R i
  inj : ∀ i j, i < n → j < n → i ≠ j → R i ≠ R j
theorem OwnRs.sq {base : Nat} {W : World} {v : Value} {m : List (List (Int × Int))} (h : OwnRs base W v m) (hn : ∀ i, i < m.length → (Fr.rAt m i).length = m.length) :
    (m.length = 0 ∧ ∃ a cap, v = .slice a 0 cap) ∨ ∃ A cap R C f, v = .slice (some ⟨A, 0, none⟩) m.length cap ∧ BlR base A m.length R ∧ SqR W A m.length R C f := by
  obtain ⟨us, ⟨h1, h3, h4⟩, h2⟩ := h
  rcases rows_cells h2 with ⟨e0, e1⟩ | ⟨A, cap, rfl, a1, a2, a3, a4, ⟨cA, a5⟩, a6⟩
  · exact .inl ⟨e1, none, 0, e0⟩
  · have hall : ∀ i, ∃ p : Nat × Nat, i < m.length → us[i]? = some (.slice (some ⟨p.1, 0, none⟩) m.length p.2) ∧ W.ownsRow base 53 2 (.slice (some ⟨p.1, 0, none⟩) (Fr.rAt m i).length p.2) (Fr.rAt m i).length (flF (Fr.rAt m i)) := fun i => by
      by_cases hi : i < m.length
      · obtain ⟨u, e1, e2⟩ := h3 i hi
        obtain ⟨g, c, rfl⟩ := row_form2 e2 (by rw [hn i hi]; omega)
        exact ⟨(g, c), fun _ => ⟨by rw [e1, hn i hi], e2⟩⟩
      · exact ⟨(0, 0), fun c => absurd c hi⟩
    obtain ⟨P, hP⟩ := Classical.axiomOfChoice hall
    refine .inr ⟨A, cap, fun i => (P i).1, fun i => (P i).2, fun i c => if c % 2 = 0 then (Fr.gAt (Fr.rAt m i) (c / 2)).1 else (Fr.gAt (Fr.rAt m i) (c / 2)).2, rfl, ⟨fun i hi => ?_, fun i hi e => ?_, fun i j hi hj hij => ?_⟩, ⟨a4, fun i hi => ?_, fun i hi => a6 i _ (hP i hi).1, fun i hi c hc => ?_, fun i hi => ?_⟩⟩
    · exact (row_cells (hP i hi).2).1
    · obtain ⟨cur, hc⟩ := (row_cells (hP i hi).2).2.2.2.2.2.1
      have e' : A = (P i).1 := e
      rw [← e', a5] at hc
      injection hc with hc
      injection hc with _ c2
      exact absurd c2 (by decide)
    · have key : ∀ i j, i < m.length → j < m.length → i < j → (P i).1 ≠ (P j).1 := fun i j hi hj hij e => by
        rcases h4 i j _ _ hij (hP i hi).1 (hP j hj).1 with h | h
        · cases h
        · exact h (by show some (P i).1 = some (P j).1; rw [e])
      rcases Nat.lt_or_gt_of_ne hij with c | c
      · exact key i j hi hj c
      · exact fun e => key j i hj hi c e.symm
    · exact (row_cells (hP i hi).2).2.1
    · have hcs := (row_cells (hP i hi).2).2.2.2.2.2.2 (c / 2) (by rw [hn i hi]; omega)
      by_cases h0 : c % 2 = 0
      · rw [if_pos h0]
        have := hcs.1
        rwa [show c / 2 * 2 = c by omega] at this
      · rw [if_neg h0]
        have := hcs.2
        rwa [show c / 2 * 2 + 1 = c by omega] at this
    · exact (row_cells (hP i hi).2).2.2.2.2.1
section
variable (w : World)
set_option maxHeartbeats 1000000 in
theorem markG_row (b0 : Nat) (B cap l k : Nat) (f : Nat → Int) (hl : l ≤ 1000) (hk : k ≤ 1048576) (h0 : b0 ≤ B) (hc : CFq w B (l * 2) f) (hf : ∀ c, w.frozen? ⟨B, c, none⟩ = false) :
    Calls Tryd.prog 27 #[.slice (some ⟨B, 0, none⟩) l cap, .int .i64 k] w fun r w' => r = .returned (.int .i64 ((k + l * 2 : Nat) : Int)) ∧ Below b0 w w' ∧ CFq w' B (l * 2) (fun c => ((k + c : Nat) : Int)) ∧ (∀ C c, w'.frozen? ⟨C, c, none⟩ = w.frozen? ⟨C, c, none⟩) ∧ (∀ C i, C ≠ B → w'.cell? ⟨C, i, none⟩ = w.cell? ⟨C, i, none⟩) := by
  replace hc := Lib.hid hc
  replace hf := Lib.hid hf
  go_enter Tryd.func27, Tryd.ntmps27
  go_wp2
  go_loopw [1, 5] (fun q i wr => ∃ j : Nat, j ≤ l ∧ q = .int .i64 ((k : Int) + j * 2) ∧ i = .int .i64 j ∧ Hid (∀ c, c < l * 2 → wr.cell? ⟨B, c, none⟩ = some (.int .i64 (if c < j * 2 then ((k + c : Nat) : Int) else f c))) ∧ Hid (∀ C c, wr.frozen? ⟨C, c, none⟩ = w.frozen? ⟨C, c, none⟩) ∧ Hid (∀ C i, C ≠ B → wr.cell? ⟨C, i, none⟩ = w.cell? ⟨C, i, none⟩) ∧ Below b0 w wr) (fun _ i _ => l - (intOf i).toNat)
  case atStart => exact ⟨0, by omega, by simp, rfl, (fun c h => by rw [if_neg (by omega)]; exact hc.out c h), fun _ _ => rfl, fun _ _ _ => rfl, Below.refl _ _⟩
  case round =>
    obtain ⟨j, hj, rfl, rfl, hC, hF, hO, hb⟩ := hrel
    by_cases hlt : j < l
    · have c0 := hC.out (j * 2) (by omega)
      have c1 := hC.out (j * 2 + 1) (by omega)
      have f0 := (hF.out B (j * 2)).trans (hf.out _)
      have f1 := (hF.out B (j * 2 + 1)).trans (hf.out _)
      rw [if_neg (by omega)] at c0 c1
      have hn : Hid (∀ c, c < l * 2 → ((wr.setCell ⟨B, j * 2, none⟩ (.int .i64 ((k : Int) + j * 2))).setCell ⟨B, j * 2 + 1, none⟩ (.int .i64 ((k : Int) + j * 2 + 1))).cell? ⟨B, c, none⟩ = some (.int .i64 (if c < (j + 1) * 2 then ((k + c : Nat) : Int) else f c))) := fun c h => by
        by_cases e1 : c = j * 2 + 1
        · subst e1
          rw [World.cell?_setCell_same _ _ _ ((World.cell?_setCell_other _ _ _ _ (by simp)).trans c1), if_pos (by omega)]
          congr 2
        · rw [World.cell?_setCell_other _ _ _ _ (by (try simp) <;> omega)]
          by_cases e0 : c = j * 2
          · subst e0
            rw [World.cell?_setCell_same _ _ _ c0, if_pos (by omega)]
            congr 2
          · rw [World.cell?_setCell_other _ _ _ _ (by (try simp) <;> omega), hC.out c h]
            by_cases e2 : c < j * 2
            · rw [if_pos e2, if_pos (by omega)]
            · rw [if_neg e2, if_neg (by omega)]
      have hF2 : Hid (∀ C c, ((wr.setCell ⟨B, j * 2, none⟩ (.int .i64 ((k : Int) + j * 2))).setCell ⟨B, j * 2 + 1, none⟩ (.int .i64 ((k : Int) + j * 2 + 1))).frozen? ⟨C, c, none⟩ = w.frozen? ⟨C, c, none⟩) := fun C c => by
        rw [World.frozen?_setCell, World.frozen?_setCell]; exact hF.out C c
      have hB2 := Lib.hid ((hb.setCell (p := ⟨B, j * 2, none⟩) h0 (.int .i64 ((k : Int) + j * 2))).setCell (p := ⟨B, j * 2 + 1, none⟩) h0 (.int .i64 ((k : Int) + j * 2 + 1)))
      have hO2 : Hid (∀ C i, C ≠ B → ((wr.setCell ⟨B, j * 2, none⟩ (.int .i64 ((k : Int) + j * 2))).setCell ⟨B, j * 2 + 1, none⟩ (.int .i64 ((k : Int) + j * 2 + 1))).cell? ⟨C, i, none⟩ = w.cell? ⟨C, i, none⟩) := fun C i h => by
        rw [World.cell?_setCell_other _ _ _ _ (by intro e; injection e with e; exact h e.symm), World.cell?_setCell_other _ _ _ _ (by intro e; injection e with e; exact h e.symm)]
        exact hO.out C i h
      clear hC hF hO
      obtain ⟨z0, hz0⟩ : ∃ z, f (j * 2) = z := ⟨_, rfl⟩
      obtain ⟨z1, hz1⟩ : ∃ z, f (j * 2 + 1) = z := ⟨_, rfl⟩
      rw [hz0] at c0
      rw [hz1] at c1
      clear hz0 hz1
      have hkj : (k : Int) + j * 2 + 1 ≤ 4194304 := by omega
      go_wp2
      go_roundw
      case rel => exact ⟨j + 1, by omega, by go_num, by go_num, hn, hF2, hO2, hB2.out⟩
      case measure => simp [intOf]; omega
    · obtain rfl : j = l := by omega
      have hdd := decide_eq_false (show ¬ ((j : Int) < (j : Int)) by omega)
      go_wp2
      go_ret
      exact ⟨by go_num, hb, fun c h => by have := hC.out c h; rwa [if_pos h] at this, hF.out, hO.out⟩
set_option maxHeartbeats 1000000 in
theorem heldG_row (B cap l k : Nat) (hl : l ≤ 1000) (hk : k ≤ 1048576) (hB : B < w.heap.size) (hc : CFq w B (l * 2) (fun c => ((k + c : Nat) : Int))) :
    Calls Tryd.prog 28 #[.slice (some ⟨B, 0, none⟩) l cap, .int .i64 k] w fun r w' => r = .returned (.int .i64 ((k + l * 2 : Nat) : Int)) ∧ Below w.heap.size w w' := by
  replace hc := Lib.hid hc
  go_enter Tryd.func28, Tryd.ntmps28
  go_wp2
  go_loopw [1, 5] (fun q i wr => ∃ j : Nat, j ≤ l ∧ q = .int .i64 ((k : Int) + j * 2) ∧ i = .int .i64 j ∧ Below w.heap.size w wr) (fun _ i _ => l - (intOf i).toNat)
  case atStart => exact ⟨0, by omega, by simp, rfl, Below.refl _ _⟩
  case round =>
    obtain ⟨j, hj, rfl, rfl, hb⟩ := hrel
    by_cases hlt : j < l
    · have c0 : wr.cell? ⟨B, j * 2, none⟩ = some (.int .i64 ((k : Int) + j * 2)) := by
        rw [hb.cell (p := ⟨B, j * 2, none⟩) hB, hc.out _ (by omega)]
        congr 2
      have c1 : wr.cell? ⟨B, j * 2 + 1, none⟩ = some (.int .i64 ((k : Int) + j * 2 + 1)) := by
        rw [hb.cell (p := ⟨B, j * 2 + 1, none⟩) hB, hc.out _ (by omega)]
        congr 2
      have hkj : (k : Int) + j * 2 + 1 ≤ 4194304 := by omega
      go_wp2
      go_roundw
      case rel => exact ⟨j + 1, by omega, by go_num, by go_num, by (repeat (first | exact Below.refl _ _ | assumption | refine bchain (by assumption) ?_ | refine balloc ?_ _ | apply Below.drew | apply below_drewN | (refine Below.alloc ?_ (by (try simp) <;> omega) _) | (refine Below.setCell ?_ (by (try simp) <;> omega) _)))⟩
      case measure => simp [intOf]; omega
    · obtain rfl : j = l := by omega
      have hdd := decide_eq_false (show ¬ ((j : Int) < (j : Int)) by omega)
      go_wp2
      go_ret
      exact ⟨by go_num, hb⟩
theorem markQ_zero (a : Option Addr) (cap : Nat) (k : Nat) :
    Calls Tryd.prog 11 #[.slice a 0 cap, .int .i64 k] w fun r w' => r = .returned (.int .i64 (k : Nat)) ∧ Below w.heap.size w w' := by
  go_enter Tryd.func11, Tryd.ntmps11
  go_wp2
  go_loopw [1, 5] (fun q i wr => q = .int .i64 k ∧ i = .int .i64 0 ∧ Below w.heap.size w wr) (fun _ _ _ => 0)
  case atStart => exact ⟨rfl, rfl, by (repeat (first | exact Below.refl _ _ | assumption | refine bchain (by assumption) ?_ | refine balloc ?_ _ | apply Below.drew | apply below_drewN | (refine Below.alloc ?_ (by (try simp) <;> omega) _) | (refine Below.setCell ?_ (by (try simp) <;> omega) _)))⟩
  case round =>
    obtain ⟨rfl, rfl, hb⟩ := hrel
    go_wp2
    go_ret
    exact ⟨rfl, hb⟩
theorem heldQ_zero (a : Option Addr) (cap : Nat) (k : Nat) :
    Calls Tryd.prog 12 #[.slice a 0 cap, .int .i64 k] w fun r w' => r = .returned (.int .i64 (k : Nat)) ∧ Below w.heap.size w w' := by
  go_enter Tryd.func12, Tryd.ntmps12
  go_wp2
  go_loopw [1, 5] (fun q i wr => q = .int .i64 k ∧ i = .int .i64 0 ∧ Below w.heap.size w wr) (fun _ _ _ => 0)
  case atStart => exact ⟨rfl, rfl, by (repeat (first | exact Below.refl _ _ | assumption | refine bchain (by assumption) ?_ | refine balloc ?_ _ | apply Below.drew | apply below_drewN | (refine Below.alloc ?_ (by (try simp) <;> omega) _) | (refine Below.setCell ?_ (by (try simp) <;> omega) _)))⟩
  case round =>
    obtain ⟨rfl, rfl, hb⟩ := hrel
    go_wp2
    go_ret
    exact ⟨rfl, hb⟩
theorem sqn8 {j n : Nat} (hn : n ≤ 8) (hj : j ≤ n) : j * n * 2 ≤ 128 := by
  have h2 : j * n ≤ 8 * 8 := Nat.mul_le_mul (by omega) hn
  omega
set_option maxHeartbeats 1000000 in
theorem markQ_any (b0 A n k cap : Nat) (R C : Nat → Nat) (f : Nat → Nat → Int) (hn : n ≤ 8) (hk : k ≤ 1000) (hB : BlR b0 A n R) (h : SqR w A n R C f) :
    Calls Tryd.prog 11 #[.slice (some ⟨A, 0, none⟩) n cap, .int .i64 k] w fun r w' => r = .returned (.int .i64 ((k + n * n * 2 : Nat) : Int)) ∧ Below b0 w w' ∧ SqR w' A n R C (fun i c => ((k + i * n * 2 + c : Nat) : Int)) := by
  replace h := Lib.hid h
  replace hB := Lib.hid hB
  go_enter Tryd.func11, Tryd.ntmps11
  go_wp2
  go_loopw [1, 5] (fun q i wr => ∃ j : Nat, j ≤ n ∧ q = .int .i64 ((k + j * n * 2 : Nat) : Int) ∧ i = .int .i64 j ∧ Hid (SqR wr A n R C (fun i c => if i < j then ((k + i * n * 2 + c : Nat) : Int) else f i c)) ∧ Below b0 w wr) (fun _ i _ => n - (intOf i).toNat)
  case atStart => exact ⟨0, by omega, by simp, rfl, h.out.congr (fun i _ c _ => if_neg (by omega)), Below.refl _ _⟩
  case round =>
    obtain ⟨j, hj, rfl, rfl, hS, hb⟩ := hrel
    by_cases hlt : j < n
    · have c0 := hS.out.hd j hlt
      have hcf : CFq wr (R j) (n * 2) (f j) := fun c hc => by have := hS.out.cf j hlt c hc; dsimp only at this; rwa [if_neg (by omega)] at this
      have e1 : (j + 1) * n * 2 = j * n * 2 + n * 2 := by rw [Nat.add_mul, Nat.one_mul, Nat.add_mul]
      have e2 := sqn8 hn hj
      have hM := Lib.hid (markG_row wr b0 (R j) (C j) n (k + j * n * 2) (f j) (by omega) (by omega) (hB.out.ge j hlt) hcf (hS.out.fz j hlt))
      obtain ⟨t, ht⟩ : ∃ t, j * n * 2 = t := ⟨_, rfl⟩
      obtain ⟨Rj, hRj⟩ : ∃ r, R j = r := ⟨_, rfl⟩
      obtain ⟨Cj, hCj⟩ : ∃ r, C j = r := ⟨_, rfl⟩
      rw [hRj, hCj] at hM c0
      rw [ht] at hM e2 e1 ⊢
      replace e1 := Lib.hid e1
      replace ht := Lib.hid ht
      replace hRj := Lib.hid hRj
      clear hcf hCj
      go_wp2_with fail
      refine hM.out.mono ?_
      rintro r1 w1 ⟨rfl, hb1, hC1, hF1, hO1⟩
      have hb2 : Below b0 w w1 := hb.trans hb1
      have hS2 : Hid (SqR w1 A n R C (fun i c => if i < j + 1 then ((k + i * n * 2 + c : Nat) : Int) else f i c)) := by
        have hRj' := hRj.out
        have hz := hb1.size
        refine ⟨Nat.lt_of_lt_of_le hS.out.ltA hz, fun i hi => Nat.lt_of_lt_of_le (hS.out.lt i hi) hz, fun i hi => (hO1 A i (by rw [← hRj']; exact hB.out.ne j hlt)).trans (hS.out.hd i hi), fun i hi c hc => ?_, fun i hi c => (hF1 _ _).trans (hS.out.fz i hi c)⟩
        by_cases e : i = j
        · subst e
          rw [hRj', hC1 c hc, if_pos (by omega), ht.out]
        · rw [hO1 _ _ (by rw [← hRj']; exact hB.out.inj i j hi hlt e), hS.out.cf i hi c hc]
          dsimp only
          by_cases e3 : i < j
          · rw [if_pos e3, if_pos (by omega)]
          · rw [if_neg e3, if_neg (by omega)]
      clear hC1 hF1 hO1 hM hS hb1 c0
      go_wp2
      go_roundw
      case rel => exact ⟨j + 1, by omega, by rw [e1.out]; congr 1; omega, by go_num, hS2, hb2⟩
      case measure => simp [intOf]; omega
    · obtain rfl : j = n := by omega
      have hdd := decide_eq_false (show ¬ ((j : Int) < (j : Int)) by omega)
      go_wp2
      go_ret
      exact ⟨rfl, hb, hS.out.congr (fun i hi c _ => (if_pos hi).symm)⟩
set_option maxHeartbeats 1000000 in
theorem heldQ_any (A n k cap : Nat) (R C : Nat → Nat) (hn : n ≤ 8) (hk : k ≤ 1000) (h : SqR w A n R C (fun i c => ((k + i * n * 2 + c : Nat) : Int))) :
    Calls Tryd.prog 12 #[.slice (some ⟨A, 0, none⟩) n cap, .int .i64 k] w fun r w' => r = .returned (.int .i64 ((k + n * n * 2 : Nat) : Int)) ∧ Below w.heap.size w w' := by
  replace h := Lib.hid h
  go_enter Tryd.func12, Tryd.ntmps12
  go_wp2
  go_loopw [1, 5] (fun q i wr => ∃ j : Nat, j ≤ n ∧ q = .int .i64 ((k + j * n * 2 : Nat) : Int) ∧ i = .int .i64 j ∧ Below w.heap.size w wr) (fun _ i _ => n - (intOf i).toNat)
  case atStart => exact ⟨0, by omega, by simp, rfl, Below.refl _ _⟩
  case round =>
    obtain ⟨j, hj, rfl, rfl, hb⟩ := hrel
    by_cases hlt : j < n
    · have hS := h.out.below hb
      have c0 := hS.hd j hlt
      have e1 : (j + 1) * n * 2 = j * n * 2 + n * 2 := by rw [Nat.add_mul, Nat.one_mul, Nat.add_mul]
      have e2 := sqn8 hn hj
      have hM := Lib.hid (heldG_row wr (R j) (C j) n (k + j * n * 2) (by omega) (by omega) (hS.lt j hlt) (hS.cf j hlt))
      obtain ⟨t, ht⟩ : ∃ t, j * n * 2 = t := ⟨_, rfl⟩
      obtain ⟨Rj, hRj⟩ : ∃ r, R j = r := ⟨_, rfl⟩
      obtain ⟨Cj, hCj⟩ : ∃ r, C j = r := ⟨_, rfl⟩
      rw [hRj, hCj] at hM c0
      rw [ht] at hM e2 e1 ⊢
      replace e1 := Lib.hid e1
      clear hS ht hRj hCj
      go_wp2_with fail
      refine hM.out.mono ?_
      rintro r1 w1 ⟨rfl, hb1⟩
      go_wp2
      go_roundw
      case rel => exact ⟨j + 1, by omega, by rw [e1.out]; congr 1; omega, by go_num, by (repeat (first | exact Below.refl _ _ | assumption | refine bchain (by assumption) ?_ | refine balloc ?_ _ | apply Below.drew | apply below_drewN | (refine Below.alloc ?_ (by (try simp) <;> omega) _) | (refine Below.setCell ?_ (by (try simp) <;> omega) _)))⟩
      case measure => simp [intOf]; omega
    · obtain rfl : j = n := by omega
      have hdd := decide_eq_false (show ¬ ((j : Int) < (j : Int)) by omega)
      go_wp2
      go_ret
      exact ⟨rfl, hb⟩
end
end Go.Proofs.YtdbidlnkaplekaaDoor
