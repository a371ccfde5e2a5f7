/-
  ReadDeed: what is read (over bytes alone).
-/
import Derived.Test.YtdbidlnkaplekaaDoorDt
import Derived.Test.YtdbidlnkaplekaaDoorNms
namespace Go.Proofs.YtdbidlnkaplekaaDoor
open Go.RowKit
set_option maxRecDepth 100000
theorem dd_inj {a b : Nat} (h : Lib.decDigits a = Lib.decDigits b) : a = b := by
  have h1 := dvL_dec a
  rw [h, dvL_dec] at h1
  exact (Option.some.inj h1).symm
theorem dd_no (n : Nat) : ∀ c ∈ Lib.decDigits n, c ≠ 32 := fun c hc e => by
  have := dec_dig n c hc
  rw [e] at this
  revert this
  decide
/-- a word of the table -/
def wdW (k : Nat) : List UInt8 := (wdAt k).1
theorem wdB_tx (k : Nat) : wdB k = tx (wdW k) := rfl
theorem wdW_no : ∀ k, k < 8 → ∀ c ∈ wdW k, c ≠ 32 := by decide
theorem wdW_inj : ∀ k, k < 8 → ∀ j, j < 8 → wdW k = wdW j → k = j := by decide
/-- the numbers behind the word -/
def nmL (k a b : Nat) : List (List UInt8) := (if 0 < wdN k then [Lib.decDigits a] else []) ++ (if 1 < wdN k then [Lib.decDigits b] else [])
def dL (k a b : Nat) : List UInt8 := wdW k ++ (nmL k a b).flatMap fun x => 32 :: x
theorem dText_tx (k a b : Nat) : dText k a b = tx (dL k a b) := by
  unfold dText dL nmL dNum spB
  rw [wdB_tx]
  have e : ({ data := #[32] } : ByteArray) = tx [32] := rfl
  rw [e]
  by_cases h0 : 0 < wdN k <;> by_cases h1 : 1 < wdN k <;> simp [h0, h1, tx_app]
theorem splA_nm : ∀ (ns : List (List UInt8)), (∀ x ∈ ns, ∀ c ∈ x, c ≠ 32) → ∀ (a : List UInt8), (∀ c ∈ a, c ≠ 32) → splA 32 [] (a ++ ns.flatMap fun x => 32 :: x) = a :: ns := by
  intro ns
  induction ns with
  | nil => intro _ a h; simp [splA_not 32 a [] h]
  | cons x r ih =>
    intro hn a h
    rw [List.flatMap_cons, List.cons_append, splA_at 32 _ a [] h, List.nil_append, ih (fun y hy => hn y (by simp [hy])) x (hn x (by simp))]
theorem nmL_no (k a b : Nat) : ∀ x ∈ nmL k a b, ∀ c ∈ x, c ≠ 32 := by
  intro x hx
  unfold nmL at hx
  by_cases h0 : 0 < wdN k <;> by_cases h1 : 1 < wdN k <;> simp [h0, h1] at hx
  · rcases hx with rfl | rfl <;> exact dd_no _
  · subst hx; exact dd_no _
  · subst hx; exact dd_no _
theorem spl_dL (k a b : Nat) (hk : k < 8) : splA 32 [] (dL k a b) = wdW k :: nmL k a b := splA_nm _ (nmL_no k a b) _ (wdW_no k hk)
/-- the text spelt by its words -/
def joinW (ws : List (List UInt8)) : List UInt8 := ws.headD [] ++ (ws.drop 1).flatMap fun x => 32 :: x
theorem joinW_splA0 : ∀ (l acc : List UInt8), joinW (splA 32 acc l) = acc ++ l := by
  intro l
  induction l with
  | nil => intro acc; simp [splA, joinW]
  | cons c r ih =>
    intro acc
    rw [splA]
    split
    · rename_i h
      subst h
      have h1 := ih []
      cases hs : splA 32 [] r with
      | nil => exact absurd hs (splA_ne 32 r [])
      | cons x xs =>
        rw [hs] at h1
        simp [joinW] at h1 ⊢
        exact h1
    · rw [ih]; simp
theorem joinW_splA (l : List UInt8) : joinW (splA 32 [] l) = l := by rw [joinW_splA0]; simp
theorem dL_of {l : List UInt8} {k a b : Nat} (h : splA 32 [] l = wdW k :: nmL k a b) : l = dL k a b := by
  rw [← joinW_splA l, h]
  rfl
theorem vd_nat {k a b : Nat} (h : VD k a b) : k < 8 ∧ 1 ≤ k ∧ a ≤ 999 ∧ b ≤ 999 ∧ (a = 0 ∨ 0 < wdN k) ∧ (b = 0 ∨ 1 < wdN k) := by
  obtain ⟨h1, h2, h3, h4, h5, h6, h7, h8⟩ := h
  rw [Int.toNat_natCast] at h7 h8
  exact ⟨by omega, by omega, by omega, by omega, by omega, by omega⟩
theorem dL_inj {k a b k' a' b' : Nat} (h : VD k a b) (h' : VD k' a' b') (e : dL k a b = dL k' a' b') : k = k' ∧ a = a' ∧ b = b' := by
  obtain ⟨h1, _, _, _, h5, h6⟩ := vd_nat h
  obtain ⟨h1', _, _, _, h5', h6'⟩ := vd_nat h'
  have e2 := spl_dL k a b h1
  rw [e, spl_dL k' a' b' h1'] at e2
  injection e2 with e3 e4
  obtain rfl := wdW_inj _ h1' _ h1 e3
  unfold nmL at e4
  by_cases c0 : 0 < wdN k' <;> by_cases c1 : 1 < wdN k' <;> simp [c0, c1] at e4
  · exact ⟨rfl, (dd_inj e4.1).symm, (dd_inj e4.2).symm⟩
  · exact ⟨rfl, (dd_inj e4).symm, by omega⟩
  · omega
  · exact ⟨rfl, by omega, by omega⟩
/-- what is read off a text: either it is a valid deed's, or it is no valid deed's -/
def RdR (l : List UInt8) (k a b c : Int) : Prop :=
  (c = 0 ∧ VD k a b ∧ ∃ k' a' b' : Nat, k = k' ∧ a = a' ∧ b = b' ∧ l = dL k' a' b') ∨ (c = 5 ∧ k = 0 ∧ a = 0 ∧ b = 0 ∧ ∀ k' a' b' : Nat, VD k' a' b' → l ≠ dL k' a' b')
def RdP (l : List UInt8) (r : Ending) : Prop := ∃ k a b c, r = .returned (.tuple #[.agg #[.int .i64 k, .int .i64 a, .int .i64 b], .int .i64 c]) ∧ RdR l k a b c
theorem rdP_bad {l : List UInt8} (h : ∀ k a b : Nat, VD k a b → l ≠ dL k a b) : RdP l (.returned (.tuple #[.agg #[.int .i64 0, .int .i64 0, .int .i64 0], .int .i64 5])) := ⟨0, 0, 0, 5, rfl, .inr ⟨rfl, rfl, rfl, rfl, h⟩⟩
theorem rdP_ok {l : List UInt8} {k a b : Nat} (h : VD k a b) (hl : l = dL k a b) : RdP l (.returned (.tuple #[.agg #[.int .i64 k, .int .i64 a, .int .i64 b], .int .i64 0])) := ⟨k, a, b, 0, rfl, .inl ⟨rfl, h, k, a, b, rfl, rfl, rfl, hl⟩⟩
theorem rdR_one {l : List UInt8} {k a b c k' a' b' c' : Int} (h : RdR l k a b c) (h' : RdR l k' a' b' c') : k = k' ∧ a = a' ∧ b = b' ∧ c = c' := by
  rcases h with ⟨rfl, hv, x, y, z, rfl, rfl, rfl, e⟩ | ⟨rfl, rfl, rfl, rfl, hn⟩ <;> rcases h' with ⟨rfl, hv', x', y', z', rfl, rfl, rfl, e'⟩ | ⟨rfl, rfl, rfl, rfl, hn'⟩
  · obtain ⟨rfl, rfl, rfl⟩ := dL_inj hv hv' (e.symm.trans e')
    exact ⟨rfl, rfl, rfl, rfl⟩
  · exact absurd e (hn' _ _ _ hv)
  · exact absurd e' (hn _ _ _ hv')
  · exact ⟨rfl, rfl, rfl, rfl⟩
/-- the kind whose word is x, 0 if there is none -/
def kdOf (x : List UInt8) (K m : Nat) : Prop := (K = 0 ∧ ∀ j, 1 ≤ j → j < m → wdW j ≠ x) ∨ (1 ≤ K ∧ K < m ∧ K < 8 ∧ wdW K = x)
theorem kdOf_zero (x : List UInt8) : kdOf x 0 1 := .inl ⟨rfl, fun j h1 h2 => by omega⟩
theorem kdOf_no {x : List UInt8} {K m : Nat} (h : kdOf x K m) (hx : wdW m ≠ x) : kdOf x K (m + 1) := by
  rcases h with ⟨h1, h2⟩ | ⟨h1, h2, h3, h4⟩
  · exact .inl ⟨h1, fun j a b => by
      by_cases e : j = m
      · rw [e]; exact hx
      · exact h2 j a (by omega)⟩
  · exact .inr ⟨h1, by omega, h3, h4⟩
theorem kdOf_yes {x : List UInt8} {m : Nat} (h1 : 1 ≤ m) (h8 : m < 8) (hx : wdW m = x) : kdOf x m (m + 1) := .inr ⟨h1, by omega, h8, hx⟩
theorem kdOf_at {x : List UInt8} {K k : Nat} (h : kdOf x K 8) (h1 : 1 ≤ k) (h8 : k < 8) (hx : wdW k = x) : K = k := by
  rcases h with ⟨h1', h2⟩ | ⟨_, _, h3, h4⟩
  · exact absurd hx (h2 k h1 h8)
  · exact wdW_inj _ h3 _ h8 (h4.trans hx.symm)
theorem wdN_nat (k : Nat) (hk : k < 8) : ∃ m : Nat, wdN k = m ∧ m ≤ 2 := by
  obtain ⟨h1, h2⟩ := wdN_b k hk
  exact ⟨(wdN k).toNat, by omega, by omega⟩
theorem nmL_len (k a b : Nat) (hk : k < 8) : ((nmL k a b).length : Int) = wdN k := by
  obtain ⟨h1, h2⟩ := wdN_b k hk
  unfold nmL
  by_cases h0 : 0 < wdN k <;> by_cases h1 : 1 < wdN k <;> simp [h0, h1] <;> omega
def wA (ws : List (List UInt8)) (i : Nat) : List UInt8 := ws[i]?.getD []
theorem nmL_dec {k a b : Nat} (h : VD k a b) (i : Nat) (h1 : 1 ≤ i) (hi : i < (wdW k :: nmL k a b).length) : ∃ m, m ≤ 999 ∧ wA (wdW k :: nmL k a b) i = Lib.decDigits m := by
  obtain ⟨_, _, ha, hb, _, _⟩ := vd_nat h
  obtain ⟨j, rfl⟩ : ∃ j, i = j + 1 := ⟨i - 1, by omega⟩
  have hj : j < (nmL k a b).length := by simpa using hi
  have hm : wA (wdW k :: nmL k a b) (j + 1) ∈ nmL k a b := by
    unfold wA
    rw [List.getElem?_cons_succ, List.getElem?_eq_getElem hj]
    exact List.getElem_mem hj
  generalize wA (wdW k :: nmL k a b) (j + 1) = x at hm
  unfold nmL at hm
  by_cases h0 : 0 < wdN k <;> by_cases h1 : 1 < wdN k <;> simp [h0, h1] at hm
  · rcases hm with rfl | rfl
    · exact ⟨a, ha, rfl⟩
    · exact ⟨b, hb, rfl⟩
  · subst hm; exact ⟨a, ha, rfl⟩
  · subst hm; exact ⟨b, hb, rfl⟩
/-- what the numbers are when those ahead of the i-th word have been read -/
def NmSt (ws : List (List UInt8)) (i A B : Nat) : Prop := (if 1 < i then wA ws 1 = Lib.decDigits A else A = 0) ∧ (if 2 < i then wA ws 2 = Lib.decDigits B else B = 0)
theorem nmSt_start (ws : List (List UInt8)) : NmSt ws 1 0 0 := ⟨by rw [if_neg (by omega)], by rw [if_neg (by omega)]⟩
theorem nmSt_one {ws : List (List UInt8)} {A B n : Nat} (h : NmSt ws 1 A B) (hn : wA ws 1 = Lib.decDigits n) : NmSt ws 2 n B := by
  obtain ⟨_, h2⟩ := h
  rw [if_neg (by omega)] at h2
  exact ⟨by rw [if_pos (by omega)]; exact hn, by rw [if_neg (by omega)]; exact h2⟩
theorem nmSt_two {ws : List (List UInt8)} {A B n : Nat} (h : NmSt ws 2 A B) (hn : wA ws 2 = Lib.decDigits n) : NmSt ws 3 A n := by
  obtain ⟨h1, _⟩ := h
  rw [if_pos (by omega)] at h1
  exact ⟨by rw [if_pos (by omega)]; exact h1, by rw [if_pos (by omega)]; exact hn⟩
theorem nmSt_ok {ws : List (List UInt8)} {K A B : Nat} (hK : K < 8) (hl : (ws.length : Int) = wdN K + 1) (h0 : wdW K = wA ws 0) (h : NmSt ws ws.length A B) : ws = wdW K :: nmL K A B := by
  obtain ⟨m, hm, hm2⟩ := wdN_nat K hK
  obtain ⟨h1, h2⟩ := h
  unfold nmL
  rw [hm] at hl ⊢
  rw [h0]
  obtain _ | ⟨x, _ | ⟨y, _ | ⟨z, _ | ⟨t, r⟩⟩⟩⟩ := ws
  · simp at hl; omega
  · obtain rfl : m = 0 := by simp at hl; omega
    simp [wA]
  · obtain rfl : m = 1 := by simp at hl; omega
    simp [wA] at h1 ⊢
    exact h1
  · obtain rfl : m = 2 := by simp at hl; omega
    simp [wA] at h1 h2 ⊢
    exact ⟨h1, h2⟩
  · simp at hl; omega
theorem nmSt_bad {K A B k a b : Nat} (hv : VD k a b) (hK : K = k) (h : NmSt (wdW k :: nmL k a b) (wdW k :: nmL k a b).length A B) : VD K A B := by
  subst hK
  obtain ⟨h8, _, _, _, h5, h6⟩ := vd_nat hv
  have hlen := nmL_len K a b h8
  obtain ⟨m, hm, hm2⟩ := wdN_nat K h8
  obtain ⟨h1, h2⟩ := h
  rw [List.length_cons] at h1 h2
  rw [hm] at h5 h6 hlen
  have key : A = a ∧ B = b := by
    unfold nmL wA at h1 h2
    rw [hm] at h1 h2
    have hc : m = 0 ∨ m = 1 ∨ m = 2 := by omega
    rcases hc with rfl | rfl | rfl
    · simp at h1 h2
      omega
    · simp at h1 h2
      exact ⟨(dd_inj h1).symm, by omega⟩
    · simp at h1 h2
      exact ⟨(dd_inj h1).symm, (dd_inj h2).symm⟩
  rw [key.1, key.2]
  exact hv
/-- what Cut gives of a deed's text -/
theorem cut_dL {k a b : Nat} (hv : VD k a b) : (Lib.cut (dL k a b) [32]).1 = wdW k ∧
    ((Lib.cut (Lib.cut (dL k a b) [32]).2.1 [32]).1 = Lib.decDigits a ∨ ((Lib.cut (Lib.cut (dL k a b) [32]).2.1 [32]).1 = [] ∧ a = 0)) ∧
    ((Lib.cut (Lib.cut (dL k a b) [32]).2.1 [32]).2.1 = Lib.decDigits b ∨ ((Lib.cut (Lib.cut (dL k a b) [32]).2.1 [32]).2.1 = [] ∧ b = 0)) := by
  obtain ⟨h8, _, _, _, h5, h6⟩ := vd_nat hv
  obtain ⟨m, hm, hm2⟩ := wdN_nat k h8
  have hw := wdW_no k h8
  have hc : m = 0 ∨ m = 1 ∨ m = 2 := by omega
  have h00 : Lib.cut ([] : List UInt8) [32] = ([], [], false) := cut_not [] 32 (by simp)
  unfold dL nmL
  rw [hm] at h5 h6 ⊢
  rcases hc with rfl | rfl | rfl
  · simp only [show ¬ (0 : Int) < ((0 : Nat) : Int) by omega, show ¬ (1 : Int) < ((0 : Nat) : Int) by omega, if_false, List.append_nil, List.flatMap_nil]
    rw [cut_not _ 32 hw]
    simp only [h00]
    exact ⟨trivial, .inr ⟨trivial, by omega⟩, .inr ⟨trivial, by omega⟩⟩
  · simp only [show (0 : Int) < ((1 : Nat) : Int) by omega, show ¬ (1 : Int) < ((1 : Nat) : Int) by omega, if_true, if_false, List.append_nil, List.flatMap_cons, List.flatMap_nil]
    rw [cut_at _ _ 32 hw]
    simp only
    rw [cut_not _ 32 (dd_no a)]
    exact ⟨trivial, .inl rfl, .inr ⟨rfl, by omega⟩⟩
  · simp only [show (0 : Int) < ((2 : Nat) : Int) by omega, show (1 : Int) < ((2 : Nat) : Int) by omega, if_true, List.flatMap_cons, List.flatMap_nil, List.cons_append, List.nil_append, List.append_nil]
    rw [cut_at _ _ 32 hw]
    simp only
    rw [cut_at _ _ 32 (dd_no a)]
    exact ⟨trivial, .inl rfl, .inl rfl⟩
theorem cut_len (l : List UInt8) (x : UInt8) : (Lib.cut l [x]).1.length ≤ l.length ∧ (Lib.cut l [x]).2.1.length ≤ l.length := by
  unfold Lib.cut
  split
  · simp; omega
  · simp
end Go.Proofs.YtdbidlnkaplekaaDoor
