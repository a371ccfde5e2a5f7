/-
  THE TEXT OF A CERTIFICATE: what it is, and the model's contracts.
-/
import Derived.Test.YtiedombphcdpbaaDoorFtx
import Derived.Test.YtiedombphcdpbaaDoorMx
import Derived.Test.YtiedombphcdpbaaDoorTg
import Derived.Test.YtiedombphcdpbaaDoorVbM
namespace Go.Proofs.YtiedombphcdpbaaDoor
open Go.RowKit
set_option maxRecDepth 100000
attribute [local go_sem] Oper.semAt_some
def cHd : List UInt8 := [99, 101, 114, 116, 105, 102, 105, 99, 97, 116, 101, 32]
def bkHd : List UInt8 := [98, 108, 111, 99, 107, 32]
def hT (s n : Nat) : List UInt8 := (((cHd ++ Lib.decDigits s) ++ [32]) ++ Lib.decDigits n) ++ [10]
def bHd (l : Nat) : List UInt8 := (bkHd ++ Lib.decDigits l) ++ [10]
def kT (k : Int × Int × Int) : List UInt8 := kText k.1.toNat k.2.1.toNat (prE k.2.1.toNat k.2.2.toNat)
def flT (ks : List (Int × Int × Int)) : Nat → List UInt8 | 0 => [] | j + 1 => flT ks j ++ (kT (kAt ks j) ++ [10])
def bT (Y : BM) : List UInt8 := (bHd Y.ks.length ++ flT Y.ks Y.ks.length) ++ matT Y.m Y.m.length
def cT (s : Nat) (bs : List BM) : Nat → List UInt8 | 0 => hT s bs.length | k + 1 => cT s bs k ++ bT (bAt bs k)
/-- the text up to the j-th flag of the k-th block -/
def mT (s : Nat) (bs : List BM) (k j : Nat) : List UInt8 := cT s bs k ++ (bHd (bAt bs k).ks.length ++ flT (bAt bs k).ks j)
theorem mT_next (s : Nat) (bs : List BM) (k j : Nat) : mT s bs k (j + 1) = mT s bs k j ++ (kT (kAt (bAt bs k).ks j) ++ [10]) := by
  unfold mT
  rw [flT]
  simp only [List.append_assoc]
theorem mT_zero (s : Nat) (bs : List BM) (k : Nat) : mT s bs k 0 = cT s bs k ++ bHd (bAt bs k).ks.length := by
  unfold mT
  rw [flT, List.append_nil]
theorem mT_last (s : Nat) (bs : List BM) (k : Nat) : cT s bs (k + 1) = mT s bs k (bAt bs k).ks.length ++ matT (bAt bs k).m (bAt bs k).m.length := by
  unfold mT
  rw [cT, bT]
  simp only [List.append_assoc]
theorem kT_len {a b c : Int} (h : VK a b c) : (kT (a, b, c)).length ≤ 2100 := by
  have h1 := gT_len h.1
  have h2 := dd_len (n := a.toNat) (by have := h.2.2.1; omega)
  unfold gT at h1
  unfold kT kText
  simp only [List.length_append, List.length_cons, List.length_nil, fHead]
  omega
theorem flT_len {ks : List (Int × Int × Int)} (h : AllK ks) : ∀ j, j ≤ ks.length → (flT ks j).length ≤ 2101 * j := by
  intro j
  induction j with
  | zero => intro _; simp [flT]
  | succ j ih =>
    intro hj
    have h1 := ih (by omega)
    have h2 := h j (by omega)
    unfold KV at h2
    have h3 := kT_len h2
    rw [flT]
    simp only [List.length_append, List.length_cons, List.length_nil]
    have h4 : kT (kAt ks j) = kT ((kAt ks j).1, (kAt ks j).2.1, (kAt ks j).2.2) := rfl
    rw [h4]
    omega
theorem hT_len {s n : Nat} (hs : s ≤ 5) (hn : n ≤ 6) : (hT s n).length ≤ 100 := by
  have h1 := dd_len (n := s) (by omega)
  have h2 := dd_len (n := n) (by omega)
  unfold hT
  simp only [List.length_append, List.length_cons, List.length_nil, cHd]
  omega
theorem bHd_len {l : Nat} (hl : l ≤ 8) : (bHd l).length ≤ 40 := by
  have h1 := dd_len (n := l) (by omega)
  unfold bHd
  simp only [List.length_append, List.length_cons, List.length_nil, bkHd]
  omega
theorem bT_len {Y : BM} (h : VB Y) : (bT Y).length ≤ 20000 := by
  have h1 := flT_len h.1.1 Y.ks.length (Nat.le_refl _)
  have h8 := h.1.2.1
  have h2 := bHd_len h8
  have h3 := matT_len h.2.1 Y.m.length (Nat.le_refl _)
  have h4 := h.2.2
  unfold bT
  simp only [List.length_append]
  omega
theorem cT_len {s : Nat} {bs : List BM} (hs : s ≤ 5) (h6 : bs.length ≤ 6) (h : AllB bs) : ∀ k, k ≤ bs.length → (cT s bs k).length ≤ 100 + 20000 * k := by
  intro k
  induction k with
  | zero => intro _; have := hT_len hs h6; show (hT s bs.length).length ≤ _; omega
  | succ k ih =>
    intro hk
    have h1 := ih (by omega)
    have h2 := bT_len (h k (by omega))
    rw [cT, List.length_append]
    omega
theorem mT_len {s : Nat} {bs : List BM} (hs : s ≤ 5) (h6 : bs.length ≤ 6) (h : AllB bs) {k j : Nat} (hk : k < bs.length) (hj : j ≤ (bAt bs k).ks.length) : (mT s bs k j).length ≤ 200000 := by
  have h1 := cT_len hs h6 h k (by omega)
  have hb := h k hk
  have h2 := flT_len hb.1.1 j hj
  have h8 := hb.1.2.1
  have h3 := bHd_len h8
  unfold mT
  simp only [List.length_append]
  omega
def CO (s : Int) (bs : List BM) : Prop := (0 ≤ s ∧ s ≤ 5) ∧ bs.length ≤ 6 ∧ AllB bs
theorem skT_any (W : World) {a b c : Int} (h : VK a b c) : Calls Tryd.prog 86 #[.agg #[.int .i64 a, .int .i64 b, .int .u32 c]] W fun r w' => r = .returned (.string (tx (kT (a, b, c)))) ∧ Below W.heap.size W w' := by
  obtain ⟨n', rfl⟩ : ∃ k : Nat, a = k := ⟨a.toNat, by have := h.2.1; omega⟩
  obtain ⟨e', rfl⟩ : ∃ k : Nat, b = k := ⟨b.toNat, by have := h.1.1; omega⟩
  obtain ⟨d', rfl⟩ : ∃ k : Nat, c = k := ⟨c.toNat, by have := h.1.2.2.1; omega⟩
  exact skt_t W n' e' d' h
theorem ikT_any (W : World) {a b c : Int} (h : VK a b c) (hT : TabP W) : Calls Tryd.prog 53 #[.agg #[.int .i64 a, .int .i64 b, .int .u32 c]] W fun r w' => r = .returned (.string (tx (kT (a, b, c)))) ∧ Below W.heap.size W w' := by
  obtain ⟨n', rfl⟩ : ∃ k : Nat, a = k := ⟨a.toNat, by have := h.2.1; omega⟩
  obtain ⟨e', rfl⟩ : ∃ k : Nat, b = k := ⟨b.toNat, by have := h.1.1; omega⟩
  obtain ⟨d', rfl⟩ : ∃ k : Nat, c = k := ⟨c.toNat, by have := h.1.2.2.1; omega⟩
  exact ikt_t W n' e' d' h hT
section
variable (w : World)
theorem in_both (n lo hi : Int) (B : Bool) (hB : B = decide (lo ≤ n ∧ n ≤ hi)) : Calls Tryd.prog 85 #[.int .i64 n, .int .i64 lo, .int .i64 hi] w fun r w' => r = .returned (.bool B) ∧ Below w.heap.size w w' := by
  by_cases h : lo ≤ n ∧ n ≤ hi
  · obtain rfl : B = true := by rw [hB]; simp [h]
    exact (Fr.in_t w n lo hi h.1 h.2).mono (fun _ _ h => by obtain ⟨h1, h2⟩ := h; subst h2; exact ⟨h1, Below.refl _ _⟩)
  · obtain rfl : B = false := by rw [hB]; simpa using h
    exact (Fr.in_f w n lo hi (by omega)).mono (fun _ _ h => by obtain ⟨h1, h2⟩ := h; subst h2; exact ⟨h1, Below.refl _ _⟩)
set_option maxHeartbeats 2000000 in
theorem ssh_any (C : CM) (u : Value) (G : Nat) (k0 : CB w G C.s u) (hu : SlB w u C.bs) (hbd : BdB C.bs) (hm : tC C ≤ 1048576) (B : Bool) (hB : B = true ↔ CO C.s C.bs) :
    Calls Tryd.prog 47 #[.pointer (some ⟨G, 0, none⟩)] w fun r w' => r = .returned (.bool B) ∧ Below w.heap.size w w' := by
  obtain ⟨B1, hB1⟩ : ∃ B1 : Bool, (B1 = true ↔ (C.bs.length ≤ 6 ∧ AllB C.bs)) := ⟨@decide (C.bs.length ≤ 6 ∧ AllB C.bs) (Classical.propDecidable _), by simp⟩
  have hA := Lib.hid (sab_any w u C.bs hu hbd hm B1 hB1)
  obtain ⟨B2, hB2⟩ : ∃ B2 : Bool, B2 = decide (0 ≤ C.s ∧ C.s ≤ 5) := ⟨_, rfl⟩
  have hI := Lib.hid (fun W => in_both W C.s 0 5 B2 hB2)
  obtain ⟨sz, bs⟩ := C
  dsimp only at *
  have hk1 := Lib.hid (fun W (hb : Below w.heap.size w W) => k0.below hb)
  obtain ⟨a, cap, rfl, _⟩ := hu
  obtain ⟨l, hl⟩ : ∃ l, bs.length = l := ⟨_, rfl⟩
  rw [hl] at hA k0 hk1
  obtain ⟨_, x0, x1, _⟩ := k0
  clear hbd hm
  unfold CO at hB
  cases B1 with
  | true =>
    obtain rfl : B = B2 := by
      rw [Bool.eq_iff_iff, hB, hB2, decide_eq_true_iff]
      exact ⟨fun h => h.1, fun h => ⟨h, hB1.1 rfl⟩⟩
    clear hB hB1 hB2 hl
    go_enter Tryd.func47, Tryd.ntmps47
    go_wp2_with fail
    refine hA.out.mono ?_
    rintro r1 w1 ⟨rfl, hb1⟩
    obtain ⟨_, y0, y1, _⟩ := hk1.out w1 hb1
    clear x0 x1
    go_wp2_with fail
    refine (hI.out _).mono ?_
    rintro r2 w2 ⟨rfl, hb2⟩
    go_wp2
    go_ret
    exact ⟨rfl, bchain hb2 hb1⟩
  | false =>
    obtain rfl : B = false := by
      rw [Bool.eq_false_iff]
      intro c
      have := hB1.2 (hB.1 c).2
      cases this
    clear hB hB1 hB2 hl
    go_enter Tryd.func47, Tryd.ntmps47
    go_wp2_with fail
    refine hA.out.mono ?_
    rintro r1 w1 ⟨rfl, hb1⟩
    go_wp2
    go_ret
    exact ⟨rfl, hb1⟩
set_option maxHeartbeats 8000000 in
theorem slc_any (C : CM) (u : Value) (G s : Nat) (hs : C.s = s) (k0 : CB w G C.s u) (hu : SlB w u C.bs) (hO : CO C.s C.bs) :
    Calls Tryd.prog 48 #[.pointer (some ⟨G, 0, none⟩)] w fun r w' => r = .returned (.string (tx (cT s C.bs C.bs.length))) ∧ Below w.heap.size w w' := by
  obtain ⟨sz, bs⟩ := C
  dsimp only at *
  subst hs
  obtain ⟨⟨_, hs5⟩, h6, hA⟩ := hO
  replace hs5 : s ≤ 5 := by omega
  obtain ⟨a, cap, rfl, h1, h2, h3⟩ := hu.rows
  clear hu
  have hct := Lib.hid (fun k (hk : k ≤ bs.length) => cT_len hs5 h6 hA k hk)
  have hmt := Lib.hid (fun k j (hk : k < bs.length) (hj : j ≤ (bAt bs k).ks.length) => mT_len hs5 h6 hA hk hj)
  have hz : cT s bs 0 = hT s bs.length := rfl
  obtain ⟨l, hl⟩ : ∃ l, bs.length = l := ⟨_, rfl⟩
  rw [hl] at h6 h1 h3 k0 hz hct hmt ⊢
  have hAl := Lib.hid (fun k (hk : k < l) => hA k (by omega))
  clear hl hA
  have hD := Lib.hid (fun W => dec_any 5 W s (by omega) (by omega))
  have hD2 := Lib.hid (fun W => dec_any 5 W l (by omega) (by omega))
  have hD8 := Lib.hid (fun W m (hm : m ≤ 8) => dec_any 5 W m (by omega) (by omega))
  have l1 := dd_len (n := s) (by omega)
  have l2 := dd_len (n := l) (by omega)
  have x1 := run_cat cHd (Lib.decDigits s) (by simp [cHd]) (by omega)
  have x2 := run_cat (cHd ++ Lib.decDigits s) [32] (by simp [cHd]; omega) (by simp)
  have x3 := run_cat (cHd ++ Lib.decDigits s ++ [32]) (Lib.decDigits l) (by simp [cHd]; omega) (by omega)
  have x4 := run_cat (cHd ++ Lib.decDigits s ++ [32] ++ Lib.decDigits l) [10] (by simp [cHd]; omega) (by simp)
  rw [show cHd ++ Lib.decDigits s ++ [32] ++ Lib.decDigits l ++ [10] = cT s bs 0 by rw [hz]; rfl] at x4
  have eC : ({ data := #[99, 101, 114, 116, 105, 102, 105, 99, 97, 116, 101, 32] } : ByteArray) = tx cHd := rfl
  have eB : ({ data := #[98, 108, 111, 99, 107, 32] } : ByteArray) = tx bkHd := rfl
  have e32 : ({ data := #[32] } : ByteArray) = tx [32] := rfl
  have e10 : ({ data := #[10] } : ByteArray) = tx [10] := rfl
  go_enter Tryd.func48, Tryd.ntmps48
  rw [eC, eB, e32, e10]
  obtain ⟨t32, ht32⟩ : ∃ t, tx [32] = t := ⟨_, rfl⟩
  obtain ⟨t10, ht10⟩ : ∃ t, tx [10] = t := ⟨_, rfl⟩
  obtain ⟨tC, htC⟩ : ∃ t, tx cHd = t := ⟨_, rfl⟩
  obtain ⟨tB, htB⟩ : ∃ t, tx bkHd = t := ⟨_, rfl⟩
  obtain ⟨tD, htD⟩ : ∃ t, tx (Lib.decDigits s) = t := ⟨_, rfl⟩
  obtain ⟨tL, htL⟩ : ∃ t, tx (Lib.decDigits l) = t := ⟨_, rfl⟩
  obtain ⟨y1, hy1⟩ : ∃ t, tx (cHd ++ Lib.decDigits s) = t := ⟨_, rfl⟩
  obtain ⟨y2, hy2⟩ : ∃ t, tx (cHd ++ Lib.decDigits s ++ [32]) = t := ⟨_, rfl⟩
  obtain ⟨y3, hy3⟩ : ∃ t, tx (cHd ++ Lib.decDigits s ++ [32] ++ Lib.decDigits l) = t := ⟨_, rfl⟩
  obtain ⟨y4, hy4⟩ : ∃ t, tx (cT s bs 0) = t := ⟨_, rfl⟩
  rw [htC, htD, hy1] at x1
  rw [hy1, ht32, hy2] at x2
  rw [hy2, htL, hy3] at x3
  rw [hy3, ht10, hy4] at x4
  rw [htD] at hD
  rw [htL] at hD2
  rw [ht32, ht10, htC, htB]
  replace ht10 := Lib.hid ht10
  replace htB := Lib.hid htB
  clear htC htD htL hy1 hy2 hy3 l1 l2 hz ht32
  have q0 := bw_cell k0.lt k0.c0
  have q1 := bw_cell k0.lt k0.c1
  go_wp2_with fail
  refine wp_region_below (by kernel_rfl) (by kernel_rfl) ?_
  iterate 4 (quiet_step (fail))
  refine wpQuiet_step (fun K hK => ?_)
  go_simp
  apply Exists.intro
  refine ⟨fun p => ?_, hK _ ?_⟩
  · exact bw_of (w := w) (p := p) (hD.out p.W)
  clear hK K
  iterate 7 (quiet_step (fail))
  refine wpQuiet_step (fun K hK => ?_)
  go_simp
  apply Exists.intro
  refine ⟨fun p => ?_, hK _ ?_⟩
  · exact bw_of (w := w) (p := p) (hD2.out p.W)
  clear hK K
  iterate 3 (quiet_step (fail))
  refine wpQuiet_nil ?_
  intro w1 hw'
  obtain ⟨⟨wx, hb_w1⟩, rfl⟩ := hw'
  clear x1 x2 x3 x4 q0 q1
  go_wp2
  go_loopw [3, 4, 5] (fun s' i _ wr => ∃ k : Nat, k ≤ l ∧ i = .int .i64 k ∧ s' = .string (tx (cT s bs k)) ∧ Below w.heap.size w wr) (fun _ i _ _ => l - (intOf i).toNat)
  case atStart => exact ⟨0, by omega, rfl, by rw [hy4], hb_w1⟩
  case round =>
    clear hb_w1
    obtain ⟨k, hk, rfl, rfl, hB⟩ := hrel
    obtain ⟨_, c0, c1, _⟩ := k0.below hB
    by_cases hlt : k < l
    · have hd := decide_eq_true (show ((k : Int) < (l : Int)) by omega)
      obtain ⟨b, off, rfl, hb, hg⟩ := h3.out (by omega)
      obtain ⟨z, u, hzc, huc, hSz, hSu⟩ := hg k hlt
      have hv := hAl.out k hlt
      have hms := Lib.hid (fun W (hb : Below w.heap.size w W) => smx_t W u _ (hSu.below hb) hv.2.1)
      have hml := matT_len hv.2.1 _ (Nat.le_refl _)
      have hm8 := hv.2.1.1
      have hmt2 := Lib.hid (fun j hj => hmt.out k j hlt hj)
      have hnx := Lib.hid (fun j => mT_next s bs k j)
      have hze := mT_zero s bs k
      have hla := mT_last s bs k
      have hck := hct.out k hk
      obtain ⟨Y, hY⟩ : ∃ Y, bAt bs k = Y := ⟨_, rfl⟩
      rw [hY] at hSz hSu hv hms hml hm8 hmt2 hnx hze hla
      have hK := Lib.hid hv.1.1
      have hk8 := hv.1.2.1
      have hk0l := hv.1.2.2.1
      obtain ⟨a2, c2, rfl, g1, g2, g3⟩ := hSz
      obtain ⟨m, hmm⟩ : ∃ m, Y.ks.length = m := ⟨_, rfl⟩
      obtain ⟨b2, off2, rfl, hb2, hgk⟩ := g3 (List.length_pos_iff.1 hk0l)
      rw [hmm] at hmt2 hze hla hk8 hk0l g1 hzc
      have hgk2 := Lib.hid (fun j (hj : j < m) => hgk j (by omega))
      have hK2 := Lib.hid (fun j (hj : j < m) => hK.out j (by omega))
      have hzl := bHd_len hk8
      have hdl := dd_len (n := m) (by omega)
      have x1 := run_cat bkHd (Lib.decDigits m) (by simp [bkHd]) (by omega)
      have x2 := run_cat (bkHd ++ Lib.decDigits m) [10] (by simp [bkHd]; omega) (by simp)
      rw [show bkHd ++ Lib.decDigits m ++ [10] = bHd m from rfl] at x2
      have x3 := run_cat (cT s bs k) (bHd m) (by omega) (by omega)
      rw [← hze] at x3
      have x4 := Lib.hid (run_cat (mT s bs k m) (matT Y.m Y.m.length) (by have := hmt2.out m (Nat.le_refl _); omega) (by omega))
      rw [← hla] at x4
      have hDm := Lib.hid (fun W => hD8.out W m hk8)
      obtain ⟨z1, hz1⟩ : ∃ t, tx (cT s bs k) = t := ⟨_, rfl⟩
      obtain ⟨z3, hz3⟩ : ∃ t, tx (Lib.decDigits m) = t := ⟨_, rfl⟩
      obtain ⟨z4, hz4⟩ : ∃ t, tx (bkHd ++ Lib.decDigits m) = t := ⟨_, rfl⟩
      obtain ⟨z5, hz5⟩ : ∃ t, tx (bHd m) = t := ⟨_, rfl⟩
      obtain ⟨z6, hz6⟩ : ∃ t, tx (mT s bs k 0) = t := ⟨_, rfl⟩
      obtain ⟨z7, hz7⟩ : ∃ t, tx (matT Y.m Y.m.length) = t := ⟨_, rfl⟩
      obtain ⟨z8, hz8⟩ : ∃ t, tx (cT s bs (k + 1)) = t := ⟨_, rfl⟩
      rw [htB.out, hz3, hz4] at x1
      rw [hz4, ht10.out, hz5] at x2
      rw [hz1, hz5, hz6] at x3
      rw [hz7, hz8] at x4
      rw [hz7] at hms
      rw [hz3] at hDm
      rw [hz1]
      have p0 := (hB.cell (p := ⟨b, off + k * 2, none⟩) hb).trans hzc
      have hkn0 : (0 : Int) ≤ (k : Int) := by omega
      replace huc := Lib.hid huc
      replace hzc := Lib.hid hzc
      replace hz6 := Lib.hid hz6
      replace hz8 := Lib.hid hz8
      clear hz1 hz3 hz4 hz5 hz7 hck hdl hzl hze hla g3 hgk hK hg hSu hml hm8
      go_wp2_with fail
      refine (hDm.out _).mono ?_
      rintro r2 w2 ⟨rfl, hb3⟩
      have hB2 := bchain hb3 hB
      clear hb3 c0 c1 p0
      go_wp2
      go_loopw [3, 5] (fun s' i wr2 => ∃ j : Nat, j ≤ m ∧ i = .int .i64 j ∧ s' = .string (tx (mT s bs k j)) ∧ Below w.heap.size w wr2) (fun _ i _ => m - (intOf i).toNat)
      case atStart => exact ⟨0, by omega, rfl, by rw [hz6.out], hB2⟩
      case round =>
        clear hB hB2 x1 x2 x3
        obtain ⟨j, hj, rfl, rfl, hB⟩ := hrel
        obtain ⟨_, c0, c1, _⟩ := k0.below hB
        have p0 := (hB.cell (p := ⟨b, off + k * 2, none⟩) hb).trans hzc.out
        by_cases hjl : j < m
        · have hdj := decide_eq_true (show ((j : Int) < (m : Int)) by omega)
          have hgj := hgk2.out j hjl
          have hKj := hK2.out j hjl
          have hnj := hnx.out j
          have hlj := hmt2.out j hj
          unfold KCell at hgj
          unfold KV at hKj
          obtain ⟨x, y, e, hq⟩ : ∃ x y e, kAt Y.ks j = (x, y, e) := ⟨_, _, _, rfl⟩
          rw [hq] at hgj hKj hnj
          obtain ⟨d0, d1, d2⟩ := hgj
          dsimp only at d0 d1 d2 hKj
          have hFx := Lib.hid (fun W => skT_any W hKj)
          have hfl := kT_len hKj
          have x1 := run_cat (kT (x, y, e)) [10] (by omega) (by simp)
          have x2 := run_cat (mT s bs k j) (kT (x, y, e) ++ [10]) (by omega) (by simp; omega)
          rw [← hnj] at x2
          obtain ⟨u1, hu1⟩ : ∃ t, tx (mT s bs k j) = t := ⟨_, rfl⟩
          obtain ⟨u2, hu2⟩ : ∃ t, tx (kT (x, y, e)) = t := ⟨_, rfl⟩
          obtain ⟨u3, hu3⟩ : ∃ t, tx (kT (x, y, e) ++ [10]) = t := ⟨_, rfl⟩
          obtain ⟨u4, hu4⟩ : ∃ t, tx (mT s bs k (j + 1)) = t := ⟨_, rfl⟩
          rw [hu2, ht10.out, hu3] at x1
          rw [hu1, hu3, hu4] at x2
          rw [hu2] at hFx
          rw [hu1]
          have p2 := (hB.cell (p := ⟨b2, off2 + j * 3, none⟩) hb2).trans d0
          have p3 := (hB.cell (p := ⟨b2, off2 + j * 3 + 1, none⟩) hb2).trans d1
          have p4 := (hB.cell (p := ⟨b2, off2 + j * 3 + 2, none⟩) hb2).trans d2
          have hj0 : (0 : Int) ≤ (j : Int) := by omega
          clear hu1 hu2 hu3 d0 d1 d2 hKj hnj hfl hlj hq
          replace hu4 := Lib.hid hu4
          go_wp2_with fail
          refine (hFx.out _).mono ?_
          rintro r3 w3 ⟨rfl, hb3⟩
          go_wp2
          go_roundw
          case rel => exact ⟨j + 1, by omega, by go_num, by rw [hu4.out], bchain hb3 hB⟩
          case measure => simp [intOf]; omega
        · have hdj := decide_eq_false (show ¬ ((j : Int) < (m : Int)) by omega)
          obtain rfl : j = m := by omega
          have p1 := (hB.cell (p := ⟨b, off + k * 2 + 1, none⟩) hb).trans huc.out
          have x5 := x4.out
          obtain ⟨u1, hu1⟩ : ∃ t, tx (mT s bs k j) = t := ⟨_, rfl⟩
          rw [hu1] at x5 ⊢
          clear hu1
          go_wp2_with fail
          refine (hms.out _ hB).mono ?_
          rintro r3 w3 ⟨rfl, hb3⟩
          go_wp2
          go_roundw
          case rel => exact ⟨k + 1, by omega, by go_num, by rw [hz8.out], bchain hb3 hB⟩
          case measure => simp [intOf]; omega
    · have hd := decide_eq_false (show ¬ ((k : Int) < (l : Int)) by omega)
      obtain rfl : k = l := by omega
      obtain ⟨t, ht⟩ : ∃ t, tx (cT s bs k) = t := ⟨_, rfl⟩
      rw [ht]
      go_wp2
      go_ret
      exact ⟨congrArg (fun t => Ending.returned (Value.string t)) ht.symm, hB⟩
theorem sct_any (C : CM) (u : Value) (hu : SlB w u C.bs) (hbd : BdB C.bs) (hm : tC C ≤ 1048576) :
    (¬ CO C.s C.bs → Calls Tryd.prog 18 #[.agg #[.int .i64 C.s, u]] w fun r w' => r = .returned (.string ⟨#[]⟩) ∧ Below w.heap.size w w') ∧
    (CO C.s C.bs → Calls Tryd.prog 18 #[.agg #[.int .i64 C.s, u]] w fun r w' => r = .returned (.string (tx (cT C.s.toNat C.bs C.bs.length))) ∧ Below w.heap.size w w') := by
  obtain ⟨W0, hW0⟩ : ∃ W0, W0 = w.alloc (.cells #[.int .i64 C.s, u] 51) := ⟨_, rfl⟩
  have hb0 : Below w.heap.size w W0 := by rw [hW0]; (repeat (first | exact Below.refl _ _ | assumption | refine bchain (by assumption) ?_ | refine balloc ?_ _ | apply Below.drew | apply below_drewN | (refine Below.alloc ?_ (by (try simp) <;> omega) _) | (refine Below.setCell ?_ (by (try simp) <;> omega) _)))
  have k0 : CB W0 w.heap.size C.s u := by rw [hW0]; exact CB.made _ _ _ _
  have hu0 := hu.below hb0
  replace hW0 := Lib.hid hW0
  have hS := fun B hB => Lib.hid (ssh_any W0 C u w.heap.size k0 hu0 hbd hm B hB)
  have hL := fun (hO : CO C.s C.bs) => Lib.hid (fun W (hb : Below W0.heap.size W0 W) => slc_any W C u w.heap.size C.s.toNat (by have := hO.1.1; omega) (k0.below hb) (hu0.below hb) hO)
  obtain ⟨t, ht⟩ : ∃ t, tx (cT C.s.toNat C.bs C.bs.length) = t := ⟨_, rfl⟩
  rw [ht] at hL ⊢
  clear ht
  obtain ⟨sz, bs⟩ := C
  dsimp only at *
  obtain ⟨a, cap, rfl, _⟩ := hu
  obtain ⟨l, hl⟩ : ∃ l, bs.length = l := ⟨_, rfl⟩
  rw [hl] at hW0 ⊢
  clear hl hbd hm hu0 k0
  refine ⟨fun hO => ?_, fun hO => ?_⟩
  · have h1 := hS false ⟨fun c => (by cases c), fun c => absurd c hO⟩
    clear hS hL hO
    go_enter Tryd.func18, Tryd.ntmps18
    go_wp2_with fail
    rw [← hW0.out]
    refine h1.out.mono ?_
    rintro r1 w1 ⟨rfl, hb1⟩
    go_wp2
    go_ret
    exact ⟨rfl, bchain hb1 hb0⟩
  · have h1 := hS true ⟨fun _ => hO, fun _ => rfl⟩
    have h2 := hL hO
    clear hS hL hO
    go_enter Tryd.func18, Tryd.ntmps18
    go_wp2_with fail
    rw [← hW0.out]
    refine h1.out.mono ?_
    rintro r1 w1 ⟨rfl, hb1⟩
    go_wp2_with fail
    refine (h2.out _ hb1).mono ?_
    rintro r2 w2 ⟨rfl, hb2⟩
    go_wp2
    go_ret
    exact ⟨rfl, bchain hb2 (bchain hb1 hb0)⟩
end
end Go.Proofs.YtiedombphcdpbaaDoor
