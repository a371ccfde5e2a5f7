/-
  strings.Lines AND strings.SplitSeq AS THE PROGRAM RANGES OVER THEM: their iterators' contracts (SeqLine).
-/
import Derived.Test.YtdbidlnkaplekaaDoorKLine
import Derived.Test.YtdbidlnkaplekaaDoorPd
import Derived.Test.YtdbidlnkaplekaaDoorShb
import Derived.Test.YtdbidlnkaplekaaDoorVs0
import Derived.Test.YtdbidlnkaplekaaDoorRi
import Derived.Shelf.Abstract
import Derived.Shelf.RegionOpen
import Derived.OwnWalkIn
import Derived.TacticsInMore
import Derived.LoopNIn
import Derived.LoopIn
import Derived.Deep.RegionWith
import Derived.StillTailTactics
import Derived.Lib.Hide
namespace Go.Proofs.YtdbidlnkaplekaaDoor
open Go.RowKit Go.Shelf
set_option maxRecDepth 100000
attribute [local go_sem] Oper.semAt_some
attribute [-go_sem] run_slice_string run_slice_string_l run_slice_string_h
/-- the lines of a text, each with its newline -/
def lnA (x : UInt8) : List UInt8 → List UInt8 → List (List UInt8)
  | acc, [] => if acc = [] then [] else [acc]
  | acc, c :: r => if c = x then (acc ++ [x]) :: lnA x [] r else lnA x (acc ++ [c]) r
theorem lnA_not (x : UInt8) : ∀ (a acc : List UInt8), (∀ c ∈ a, c ≠ x) → lnA x acc a = if acc ++ a = [] then [] else [acc ++ a] := by
  intro a
  induction a with
  | nil => intro acc _; simp [lnA]
  | cons c r ih =>
    intro acc h
    rw [lnA, if_neg (h c (by simp)), ih _ (fun d hd => h d (by simp [hd]))]
    simp
theorem lnA_at (x : UInt8) (b : List UInt8) : ∀ (a acc : List UInt8), (∀ c ∈ a, c ≠ x) → lnA x acc (a ++ x :: b) = (acc ++ a ++ [x]) :: lnA x [] b := by
  intro a
  induction a with
  | nil => intro acc _; simp [lnA]
  | cons c r ih =>
    intro acc h
    rw [List.cons_append, lnA, if_neg (h c (by simp)), ih _ (fun d hd => h d (by simp [hd]))]
    simp
theorem split_at (x : UInt8) : ∀ l : List UInt8, (∀ c ∈ l, c ≠ x) ∨ ∃ a b, l = a ++ x :: b ∧ ∀ c ∈ a, c ≠ x := by
  intro l
  induction l with
  | nil => exact .inl (by simp)
  | cons c r ih =>
    by_cases h : c = x
    · exact .inr ⟨[], r, by simp [h], by simp⟩
    · rcases ih with h2 | ⟨a, b, h2, h3⟩
      · exact .inl (fun d hd => by rcases List.mem_cons.1 hd with rfl | hd; exact h; exact h2 d hd)
      · exact .inr ⟨c :: a, b, by rw [h2]; rfl, fun d hd => by rcases List.mem_cons.1 hd with rfl | hd; exact h; exact h3 d hd⟩
theorem ib_not (x : UInt8) : ∀ l : List UInt8, (∀ c ∈ l, c ≠ x) → Lib.indexByte l x = -1 := by
  intro l
  induction l with
  | nil => intro _; rfl
  | cons c r ih =>
    intro h
    have e1 : (c == x) = false := by simpa using h c (by simp)
    rw [Lib.indexByte, ih (fun d hd => h d (by simp [hd])), e1]
    simp
theorem ib_at (x : UInt8) (b : List UInt8) : ∀ a : List UInt8, (∀ c ∈ a, c ≠ x) → Lib.indexByte (a ++ x :: b) x = a.length := by
  intro a
  induction a with
  | nil => intro _; simp [Lib.indexByte]
  | cons c r ih =>
    intro h
    have e1 : (c == x) = false := by simpa using h c (by simp)
    have e2 : (((r.length : Nat) : Int) == -1) = false := by simp
    rw [List.cons_append, Lib.indexByte, ih (fun d hd => h d (by simp [hd])), e1]
    simp [e2]
/-- how long the text in a box is -/
def szAt (W : World) (b : Nat) : Nat := match W.cell? ⟨b, 0, none⟩ with | some (.string s) => s.size | _ => 0
theorem szAt_of {W : World} {b : Nat} {s : ByteArray} (h : W.cell? ⟨b, 0, none⟩ = some (.string s)) : szAt W b = s.size := by unfold szAt; rw [h]
theorem run_head_to (l a b : List UInt8) (h : l = a ++ b) : ∀ W : World, (Instr.slice 9 (.string (tx l)) none (some (.int .i64 (a.length : Int))) none).run Tryd.prog W = .ok (.string (tx a)) W := fun W => by
  rw [run_slice_string_h W _ _ Tryd.underlying9 _ _ (by omega) (by rw [tx_size, h, List.length_append]; omega)]
  show Result.ok (Value.string ((ByteArray.mk l.toArray).extract _ _)) W = _
  rw [ByteArray.extract_mk, h]
  simp
  rfl
theorem run_tail_to (l a b : List UInt8) (h : l = a ++ b) : ∀ W : World, (Instr.slice 9 (.string (tx l)) (some (.int .i64 (a.length : Int))) none none).run Tryd.prog W = .ok (.string (tx b)) W := fun W => by
  rw [run_slice_string_l W _ _ Tryd.underlying9 _ _ (by omega) (by rw [tx_size, h, List.length_append]; omega)]
  show Result.ok (Value.string ((ByteArray.mk l.toArray).extract _ _)) W = _
  rw [ByteArray.extract_mk, tx_size, List.take_of_length_le (by simp), h]
  simp
  rfl
theorem anyDepthL {m m' : Nat} {P : Program} {l : Nat} {args : Array Value} {W : World} {R : Ending → World → Prop} (h : YieldAt Fence.wide m P l args W R) : YieldAt Fence.wide m' P l args W R := by
  obtain ⟨fn, tmps, assign, body, hy, hR⟩ := h
  exact ⟨fn, tmps, assign, body, hy, hR.1, fun c cs _ => hR.2 c cs (fun d h => by cases h)⟩
set_option maxHeartbeats 4000000 in
theorem lines_seq (b0 nn : Nat) (l : List UInt8) (w : World) (hl : l.length ≤ 2000000) (hc : w.cell? ⟨b0, 0, none⟩ = some (.string (tx l))) (hf : w.frozen? ⟨b0, 0, none⟩ = false) :
    SeqLine Fence.wide nn Tryd.prog 37 #[.pointer (some ⟨b0, 0, none⟩)] b0 (fun _ => True) (fun x => .string (tx x)) (lnA 10 [] l) w := fun l' J Jx W hW hJ hJs _ hY h0 => by
  have hb0 : b0 < w.heap.size := World.block_lt_of_cell? w _ hc
  have c0 := (hW.cell (p := ⟨b0, 0, none⟩) hb0).trans hc
  have f0 := (hW.frozen (p := ⟨b0, 0, none⟩) hb0).trans hf
  have hYs := Lib.hid (fun pre x rest W1 (hL : lnA 10 [] l = pre ++ x :: rest) (hj : J pre W1) m => anyDepthL (m' := m) (hY pre x rest W1 hL hj))
  have hJ1 := Lib.hid hJ
  have hJs1 := Lib.hid hJs
  replace h0 := Lib.hid h0
  clear hY hJ hJs hc hf
  refine callsIn_of_wp Tryd.func37 rfl trivial ?_ rfl
  simp only [Tryd.ntmps37, List.size_toArray, List.length_cons, List.length_nil, Nat.reduceAdd, Nat.reduceSub, Array.replicate_succ, Array.replicate_zero, List.push_toArray, List.append_toArray, List.nil_append, List.cons_append]
  gi_wp2
  gi_loopw [3, 4] (fun _ _ wr => ∃ (t : List UInt8) (pre : List (List UInt8)), t.length ≤ l.length ∧ Hid (lnA 10 [] l = pre ++ lnA 10 [] t) ∧ Hid (J pre wr) ∧ wr.cell? ⟨b0, 0, none⟩ = some (.string (tx t)) ∧ wr.frozen? ⟨b0, 0, none⟩ = false ∧ W.heap.size ≤ wr.heap.size) (fun _ _ wr => szAt wr b0)
  case atStart => exact ⟨l, [], Nat.le_refl _, rfl, h0.out, c0, f0, Nat.le_refl _⟩
  case round =>
    obtain ⟨t, pre, ht, hp, hj, c1, f1, hz⟩ := hrel
    have hsz := tx_size t
    by_cases hne : t = []
    · subst hne
      have hJl : Hid (J (lnA 10 [] l) wr) := by rw [hp.out]; rw [show lnA 10 [] [] = [] from rfl, List.append_nil]; exact hj
      obtain ⟨tt, htt⟩ : ∃ s, tx [] = s := ⟨_, rfl⟩
      rw [htt] at c1 hsz
      gi_wp2
      exact bodyPost_end (results_none (h := rfl) _ _ _) rfl ⟨⟨_, rfl⟩, .inl hJl.out⟩
    · have hlt : 0 < t.length := List.length_pos_iff.2 hne
      have hd : decide ((0 : Int) < (t.length : Int)) = true := decide_eq_true (by omega)
      have hIx : ∀ W, Calls Tryd.prog 38 #[.string (tx t), .int .u8 10] W fun e w' => e = .returned (.int .i64 (Lib.indexByte t 10)) ∧ w' = W := fun W => by
        have := Tryd.strings_IndexByte (tx t) 10 W
        rw [show (tx t).data.toList = t by simp [tx]] at this
        exact this
      replace hIx := Lib.hid hIx
      have hlw := szAt_of c1
      rcases split_at 10 t with hno | ⟨a, b, hte, hno⟩
      · have hi : Lib.indexByte t 10 = -1 := ib_not 10 t hno
        rw [hi] at hIx
        have hL : lnA 10 [] l = pre ++ t :: [] := by rw [hp.out, lnA_not 10 t [] hno]; simp [hne]
        have hj2 := hJs1.out pre wr (.string ⟨#[]⟩) hj
        obtain ⟨fn, ytm, yas, ybo, hy, hR⟩ := hYs.out pre t [] _ hL hj2 (nn - 1)
        have hLe := Lib.hid (show lnA 10 [] l = (pre ++ [t]) ++ lnA 10 [] [] by rw [hL]; simp [lnA])
        have cs : (wr.setCell ⟨b0, 0, none⟩ (.string ⟨#[]⟩)).cell? ⟨b0, 0, none⟩ = some (.string ⟨#[]⟩) := World.cell?_setCell_same _ _ _ c1
        have fs : (wr.setCell ⟨b0, 0, none⟩ (.string ⟨#[]⟩)).frozen? ⟨b0, 0, none⟩ = false := by rw [World.frozen?_setCell]; exact f1
        have hzs : wr.heap.size ≤ (wr.setCell ⟨b0, 0, none⟩ (.string ⟨#[]⟩)).heap.size := by simp
        obtain ⟨tt, htt⟩ : ∃ s, tx t = s := ⟨_, rfl⟩
        rw [htt] at c1 hsz hIx hy hlw
        replace hR := Lib.hid hR
        replace hno := Lib.hid hno
        replace hj := Lib.hid hj
        replace hL := Lib.hid hL
        replace hj2 := Lib.hid hj2
        replace htt := Lib.hid htt
        replace cs := Lib.hid cs
        replace fs := Lib.hid fs
        gi_wp2_with fail
        refine ⟨trivial, fun h => (by cases h), ?_⟩
        gi_at_call 38
        refine (callsIn_wide.2 (hIx.out _)).mono ?_
        rintro r3 w3 ⟨rfl, rfl⟩
        gi_wp2_with fail
        refine ⟨fun h => (by cases h), hR.out.mono ?_⟩
        rintro e5 w5 h5
        obtain ⟨b5, rfl, hbb⟩ := yield_bool' h5
        cases b5
        · have hx5 := hbb.out.2 rfl
          clear hbb
          replace hx5 := Lib.hid hx5
          gi_wp2
          exact bodyPost_ret (results_none (h := rfl) _ _ _) rfl ⟨⟨_, rfl⟩, .inr ⟨_, hx5.out⟩⟩
        · obtain ⟨hJ5, hs5, hb5⟩ := hbb.out.1 rfl
          clear hbb
          have c5 : w5.cell? ⟨b0, 0, none⟩ = some (.string (tx [])) := (World.cell?_of_block (a := ⟨b0, 0, none⟩) hb5).trans cs.out
          have f5 : w5.frozen? ⟨b0, 0, none⟩ = false := (World.frozen?_of_block (a := ⟨b0, 0, none⟩) hb5).trans fs.out
          have hw5 := szAt_of c5
          replace hJ5 := Lib.hid hJ5
          replace c5 := Lib.hid c5
          replace f5 := Lib.hid f5
          clear hb5
          gi_wp2
          go_roundw
          case rel => exact ⟨[], pre ++ [t], by simp, hLe, hJ5, c5.out, f5.out, by omega⟩
          case measure => rw [hw5, hlw, tx_size]; simp; omega
      · have hi : Lib.indexByte t 10 = a.length := by rw [hte]; exact ib_at 10 b a hno
        rw [hi] at hIx
        have hL : lnA 10 [] l = pre ++ (a ++ [10]) :: lnA 10 [] b := by rw [hp.out, hte, lnA_at 10 b a [] hno]; simp
        have hLe := Lib.hid (show lnA 10 [] l = (pre ++ [a ++ [10]]) ++ lnA 10 [] b by rw [hL]; simp)
        have el : ((a ++ [10]).length : Int) = (a.length : Int) + 1 := by simp
        have hs1 := run_head_to t (a ++ [10]) b (by rw [hte]; simp)
        have hs2 := run_tail_to t (a ++ [10]) b (by rw [hte]; simp)
        rw [el] at hs1 hs2
        have hal : a.length ≤ 2000000 ∧ b.length < t.length := by
          have := congrArg List.length hte
          simp only [List.length_append, List.length_cons] at this
          omega
        have ew : IntKind.i64.wrap ((a.length : Int) + 1) = (a.length : Int) + 1 := IntWalk.i64_in _ ⟨by omega, by omega⟩
        have da : decide ((0 : Int) ≤ (a.length : Int)) = true := decide_eq_true (by omega)
        obtain ⟨al, hal2⟩ : ∃ n, a.length = n := ⟨_, rfl⟩
        rw [hal2] at hIx hs1 hs2 ew da hal
        obtain ⟨tt, htt⟩ : ∃ s, tx t = s := ⟨_, rfl⟩
        obtain ⟨tb, htb⟩ : ∃ s, tx b = s := ⟨_, rfl⟩
        obtain ⟨ta, hta⟩ : ∃ s, tx (a ++ [10]) = s := ⟨_, rfl⟩
        rw [htt] at c1 hsz hIx hlw hs1 hs2
        rw [htb] at hs2
        rw [hta] at hs1
        have cs : ∀ A : World, A.cell? ⟨b0, 0, none⟩ = some (.string tt) → (A.setCell ⟨b0, 0, none⟩ (.string tb)).cell? ⟨b0, 0, none⟩ = some (.string tb) := fun A h => World.cell?_setCell_same _ _ _ h
        have ha0 : (0 : Int) ≤ (al : Int) := by omega
        clear hi hno el hal2 hte
        replace hj := Lib.hid hj
        replace hL := Lib.hid hL
        gi_wp2_with fail
        refine ⟨trivial, fun h => (by cases h), ?_⟩
        gi_at_call 38
        refine (callsIn_wide.2 (hIx.out _)).mono ?_
        rintro r3 w3 ⟨rfl, rfl⟩
        gi_wp2_with fail
        gi_region
        have hj2 := hJ1.out pre _ (w3.setCell ⟨b0, 0, none⟩ (.string tb)).drew none (hJs1.out pre w3 (.string tb) hj.out) ⟨rfl, rfl, rfl, Nat.le_refl _, fun _ _ _ => rfl⟩ (fun r c => by cases c)
        obtain ⟨fn, ytm, yas, ybo, hy, hR⟩ := hYs.out pre (a ++ [10]) (lnA 10 [] b) _ hL.out hj2 (nn - 1)
        rw [hta] at hy
        have cd : (w3.setCell ⟨b0, 0, none⟩ (.string tb)).drew.cell? ⟨b0, 0, none⟩ = some (.string tb) := cs w3 c1
        have fd : (w3.setCell ⟨b0, 0, none⟩ (.string tb)).drew.frozen? ⟨b0, 0, none⟩ = false := by
          show (w3.setCell ⟨b0, 0, none⟩ (.string tb)).frozen? ⟨b0, 0, none⟩ = false
          rw [World.frozen?_setCell]; exact f1
        have hzd : w3.heap.size ≤ (w3.setCell ⟨b0, 0, none⟩ (.string tb)).drew.heap.size := by show _ ≤ (w3.setCell ⟨b0, 0, none⟩ (.string tb)).heap.size; simp
        obtain ⟨Wd, hWd⟩ : ∃ Wd, Wd = (w3.setCell ⟨b0, 0, none⟩ (.string tb)).drew := ⟨_, rfl⟩
        rw [← hWd] at hy hR cd fd hzd ⊢
        replace hR := Lib.hid hR
        replace cd := Lib.hid cd
        replace fd := Lib.hid fd
        clear hWd hs1 hs2 hj2 cs hj
        gi_wp2_with fail
        refine ⟨fun h => (by cases h), hR.out.mono ?_⟩
        rintro e5 w5 h5
        obtain ⟨b5, rfl, hbb⟩ := yield_bool' h5
        cases b5
        · have hx5 := hbb.out.2 rfl
          clear hbb
          replace hx5 := Lib.hid hx5
          gi_wp2
          exact bodyPost_ret (results_none (h := rfl) _ _ _) rfl ⟨⟨_, rfl⟩, .inr ⟨_, hx5.out⟩⟩
        · obtain ⟨hJ5, hs5, hb5⟩ := hbb.out.1 rfl
          clear hbb
          have c5 : w5.cell? ⟨b0, 0, none⟩ = some (.string tb) := (World.cell?_of_block (a := ⟨b0, 0, none⟩) hb5).trans cd.out
          have f5 : w5.frozen? ⟨b0, 0, none⟩ = false := (World.frozen?_of_block (a := ⟨b0, 0, none⟩) hb5).trans fd.out
          have hw5 := szAt_of c5
          rw [← htb, tx_size] at hw5
          rw [← htb] at c5
          replace hJ5 := Lib.hid hJ5
          replace c5 := Lib.hid c5
          replace f5 := Lib.hid f5
          clear hb5
          gi_wp2
          go_roundw
          case rel => exact ⟨b, pre ++ [a ++ [10]], by omega, hLe, hJ5, c5.out, f5.out, by omega⟩
          case measure => rw [hw5, hlw, hsz]; omega
/-- what the split reads besides its text -/
def SpInv (bs bz : Nat) (W : World) : Prop := W.cell? ⟨bs, 0, none⟩ = some (.string (tx [32])) ∧ W.cell? ⟨bz, 0, none⟩ = some (.int .i64 0)
set_option maxHeartbeats 4000000 in
theorem split_seq (bs b0 bz nn : Nat) (l : List UInt8) (w : World) (hl : l.length ≤ 2000000) (hc : w.cell? ⟨b0, 0, none⟩ = some (.string (tx l))) (hf : w.frozen? ⟨b0, 0, none⟩ = false) :
    SeqLine Fence.wide nn Tryd.prog 73 #[.pointer (some ⟨bs, 0, none⟩), .pointer (some ⟨b0, 0, none⟩), .pointer (some ⟨bz, 0, none⟩)] b0 (SpInv bs bz) (fun x => .string (tx x)) (splA 32 [] l) w := fun l' J Jx W hW hJ hJs hJi hY h0 => by
  have hb0 : b0 < w.heap.size := World.block_lt_of_cell? w _ hc
  have c0 := (hW.cell (p := ⟨b0, 0, none⟩) hb0).trans hc
  have f0 := (hW.frozen (p := ⟨b0, 0, none⟩) hb0).trans hf
  have hYs := Lib.hid (fun pre x rest W1 (hL : splA 32 [] l = pre ++ x :: rest) (hj : J pre W1) m => anyDepthL (m' := m) (hY pre x rest W1 hL hj))
  have hJs1 := Lib.hid hJs
  obtain ⟨s0, s1⟩ := hJi _ _ h0
  have hJi1 := Lib.hid hJi
  replace h0 := Lib.hid h0
  have h32 := tx_size [32]
  have hIx := Lib.hid (fun t (W : World) => show Calls Tryd.prog 75 #[.string (tx t), .string (tx [32])] W fun e w' => e = .returned (.int .i64 (Lib.indexByte t 32)) ∧ w' = W by
    have := Tryd.strings_Index_one (tx t) 32 W
    rw [show (tx t).data.toList = t by simp [tx]] at this
    exact this)
  obtain ⟨t32, ht32⟩ : ∃ s, tx [32] = s := ⟨_, rfl⟩
  have hSI := Lib.hid (show ∀ A, SpInv bs bz A → A.cell? ⟨bs, 0, none⟩ = some (.string t32) ∧ A.cell? ⟨bz, 0, none⟩ = some (.int .i64 0) from fun A h => by rw [← ht32]; exact h)
  rw [ht32] at s0 h32 hIx
  simp only [List.length_cons, List.length_nil] at h32
  clear hY hJ hJs hJi hc hf ht32
  refine callsIn_of_wp Tryd.func73 rfl trivial ?_ rfl
  simp only [Tryd.ntmps73, List.size_toArray, List.length_cons, List.length_nil, Nat.reduceAdd, Nat.reduceSub, Array.replicate_succ, Array.replicate_zero, List.push_toArray, List.append_toArray, List.nil_append, List.cons_append]
  gi_wp2
  gi_loopw [7, 8] (fun _ _ wr => ∃ (t : List UInt8) (pre : List (List UInt8)), t.length ≤ l.length ∧ Hid (splA 32 [] l = pre ++ splA 32 [] t) ∧ Hid (J pre wr) ∧ wr.cell? ⟨b0, 0, none⟩ = some (.string (tx t)) ∧ wr.frozen? ⟨b0, 0, none⟩ = false) (fun _ _ wr => szAt wr b0)
  case atStart => exact ⟨l, [], Nat.le_refl _, rfl, h0.out, c0, f0⟩
  case round =>
    clear s0 s1 c0 f0
    obtain ⟨t, pre, ht, hp, hj, c1, f1⟩ := hrel
    have hsz := tx_size t
    obtain ⟨s0, s1⟩ := hSI.out wr (hJi1.out _ _ hj.out)
    have hIt := Lib.hid (hIx.out t)
    have hlw := szAt_of c1
    rcases split_at 32 t with hno | ⟨a, b, hte, hno⟩
    · rw [ib_not 32 t hno] at hIt
      have hL : splA 32 [] l = pre ++ t :: [] := by rw [hp.out, splA_not 32 t [] hno]; simp
      have hLe := Lib.hid (show splA 32 [] l = pre ++ [t] from hL)
      obtain ⟨fn, ytm, yas, ybo, hy, hR⟩ := hYs.out pre t [] _ hL hj.out (nn - 1)
      obtain ⟨tt, htt⟩ : ∃ s, tx t = s := ⟨_, rfl⟩
      rw [htt] at c1 hsz hIt hy hlw
      replace hR := Lib.hid hR
      replace hno := Lib.hid hno
      replace hL := Lib.hid hL
      replace htt := Lib.hid htt
      gi_wp2_with fail
      refine ⟨trivial, fun h => (by cases h), ?_⟩
      gi_at_call 75
      refine (callsIn_wide.2 (hIt.out _)).mono ?_
      rintro r3 w3 ⟨rfl, rfl⟩
      gi_wp2_with fail
      refine ⟨fun h => (by cases h), hR.out.mono ?_⟩
      rintro e5 w5 h5
      obtain ⟨b5, rfl, hbb⟩ := yield_bool' h5
      have hend : Hid (J (splA 32 [] l) w5 ∨ ∃ pre, Jx pre w5) := by
        cases b5
        · exact .inr ⟨_, hbb.out.2 rfl⟩
        · exact .inl (by rw [hLe.out]; exact (hbb.out.1 rfl).1)
      clear hbb
      gi_wp2
      exact bodyPost_end (results_none (h := rfl) _ _ _) rfl ⟨⟨_, rfl⟩, hend.out⟩
    · have hi : Lib.indexByte t 32 = a.length := by rw [hte]; exact ib_at 32 b a hno
      rw [hi] at hIt
      have hL : splA 32 [] l = pre ++ a :: splA 32 [] b := by rw [hp.out, hte, splA_at 32 b a [] hno]; simp
      have hLe := Lib.hid (show splA 32 [] l = (pre ++ [a]) ++ splA 32 [] b by rw [hL]; simp)
      have el : ((a ++ [32]).length : Int) = (a.length : Int) + 1 := by simp
      have hs1 := run_head_to t a (32 :: b) hte
      have hs2 := run_tail_to t (a ++ [32]) b (by rw [hte]; simp)
      rw [el] at hs2
      have hal : a.length ≤ 2000000 ∧ b.length < t.length := by
        have := congrArg List.length hte
        simp only [List.length_append, List.length_cons] at this
        omega
      have ew : IntKind.i64.wrap ((a.length : Int) + 1) = (a.length : Int) + 1 := IntWalk.i64_in _ ⟨by omega, by omega⟩
      have ew0 : IntKind.i64.wrap ((a.length : Int) + 0) = (a.length : Int) := by rw [Int.add_zero]; exact IntWalk.i64_in _ ⟨by omega, by omega⟩
      have ew1 : IntKind.i64.wrap (a.length : Int) = (a.length : Int) := IntWalk.i64_in _ ⟨by omega, by omega⟩
      have da : decide ((a.length : Int) < 0) = false := decide_eq_false (by omega)
      obtain ⟨fn, ytm, yas, ybo, hy, hR⟩ := hYs.out pre a (splA 32 [] b) _ hL hj.out (nn - 1)
      obtain ⟨al, hal2⟩ : ∃ n, a.length = n := ⟨_, rfl⟩
      rw [hal2] at hIt hs1 hs2 ew ew0 ew1 da hal
      obtain ⟨tt, htt⟩ : ∃ s, tx t = s := ⟨_, rfl⟩
      obtain ⟨tb, htb⟩ : ∃ s, tx b = s := ⟨_, rfl⟩
      obtain ⟨ta, hta⟩ : ∃ s, tx a = s := ⟨_, rfl⟩
      rw [htt] at c1 hsz hIt hlw hs1 hs2
      rw [htb] at hs2
      rw [hta] at hs1 hy
      have ha0 : (0 : Int) ≤ (al : Int) := by omega
      replace hR := Lib.hid hR
      have c1' := Lib.hid c1
      have f1' := Lib.hid f1
      clear hi hno el hal2 hte
      replace hj := Lib.hid hj
      replace hL := Lib.hid hL
      gi_wp2_with fail
      refine ⟨trivial, fun h => (by cases h), ?_⟩
      gi_at_call 75
      refine (callsIn_wide.2 (hIt.out _)).mono ?_
      rintro r3 w3 ⟨rfl, rfl⟩
      gi_wp2_with fail
      refine ⟨fun h => (by cases h), hR.out.mono ?_⟩
      rintro e5 w5 h5
      obtain ⟨b5, rfl, hbb⟩ := yield_bool' h5
      cases b5
      · have hx5 := hbb.out.2 rfl
        clear hbb
        replace hx5 := Lib.hid hx5
        gi_wp2
        exact bodyPost_ret (results_none (h := rfl) _ _ _) rfl ⟨⟨_, rfl⟩, .inr ⟨_, hx5.out⟩⟩
      · obtain ⟨hJ5, hs5, hb5⟩ := hbb.out.1 rfl
        clear hbb s0 s1 c1 f1
        have c5 : w5.cell? ⟨b0, 0, none⟩ = some (.string tt) := (World.cell?_of_block (a := ⟨b0, 0, none⟩) hb5).trans c1'.out
        have f5 : w5.frozen? ⟨b0, 0, none⟩ = false := (World.frozen?_of_block (a := ⟨b0, 0, none⟩) hb5).trans f1'.out
        obtain ⟨s0, s1⟩ := hSI.out w5 (hJi1.out _ _ hJ5)
        have hJ6 := Lib.hid (hJs1.out _ w5 (.string tb) hJ5)
        have cd : (w5.setCell ⟨b0, 0, none⟩ (.string tb)).cell? ⟨b0, 0, none⟩ = some (.string tb) := World.cell?_setCell_same _ _ _ c5
        have hw5 := szAt_of cd
        rw [← htb, tx_size] at hw5
        rw [← htb] at cd
        rw [htb] at hw5 cd
        have fd : (w5.setCell ⟨b0, 0, none⟩ (.string tb)).frozen? ⟨b0, 0, none⟩ = false := by rw [World.frozen?_setCell]; exact f5
        replace cd := Lib.hid cd
        replace fd := Lib.hid fd
        replace hw5 := Lib.hid hw5
        clear hb5 hJ5
        gi_wp2
        go_roundw
        case rel => exact ⟨b, pre ++ [a], by omega, hLe, hJ6, by rw [htb]; exact cd.out, fd.out⟩
        case measure => rw [hw5.out, hlw, hsz]; omega
end Go.Proofs.YtdbidlnkaplekaaDoor
