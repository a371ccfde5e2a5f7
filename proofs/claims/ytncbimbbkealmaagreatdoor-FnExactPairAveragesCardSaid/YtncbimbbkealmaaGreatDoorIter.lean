/-
  THE ITERATOR OVER THE LISTS OF k DIFFERENT ONES OF n VERTICES (all in one memory): its contract.
-/
import Derived.Test.YtncbimbbkealmaaGreatDoorSees
import Derived.Test.YtncbimbbkealmaaGreatDoorLists
import Derived.Shelf.Abstract
import Derived.Shelf.RegionOpen
import Derived.OwnWalkIn
import Derived.TacticsInMore
import Derived.LoopNIn
import Derived.LoopIn
import Derived.ArgAppend
import Derived.Deep.RegionWith
import Derived.StillTailTactics
namespace Go.Proofs.YtncbimbbkealmaaGreatDoor
open Go.RowKit Go.Shelf
set_option maxRecDepth 100000

section
variable (w : World)
theorem index_t (a : Option Addr) (b off cap : Nat) (zs : List Int) (x : Int) (m : Nat) (hm : m < zs.length) (hl : zs.length ≤ 1048576) (ha : a = some ⟨b, off, none⟩)
    (hc : ∀ i, i < zs.length → w.cell? ⟨b, off + i, none⟩ = some (.int .i64 (zs[i]?.getD 0))) (hx : zs[m]?.getD 0 = x) (hn : ∀ i, i < m → zs[i]?.getD 0 ≠ x) :
    Calls Tryz.prog 95 #[.slice a zs.length cap, .int .i64 x] w fun e w' => e = .returned (.int .i64 m) ∧ w = w' := by
  subst ha
  obtain ⟨n, hz⟩ : ∃ n, n = zs.length := ⟨_, rfl⟩
  rw [← hz] at hm hl hc ⊢
  replace hz := Lib.hid hz
  replace hc := Lib.hid hc
  replace hx := Lib.hid hx
  replace hn := Lib.hid hn
  go_enter Tryz.func95, Tryz.ntmps95
  go_wp2
  go_loop [5, 8] (fun _ i => ∃ k : Nat, k ≤ m ∧ i = .int .i64 k) (fun _ i => n - (intOf i).toNat)
  case atStart => exact ⟨0, by omega, rfl⟩
  case round =>
    obtain ⟨k, hk, rfl⟩ := hrel
    have hs := hc.out k (by omega)
    obtain ⟨z, hz2⟩ : ∃ z, zs[k]?.getD 0 = z := ⟨_, rfl⟩
    rw [hz2] at hs
    by_cases hlt : k < m
    · have hne : (x == z) = false := by
        have := hn.out k hlt
        rw [hz2] at this
        simpa using fun c => this c.symm
      clear hz2
      go_wp2
      go_round
      case rel => exact ⟨k + 1, by omega, by go_num⟩
      case measure => simp [intOf]; omega
    · obtain rfl : k = m := by omega
      obtain rfl : x = z := by rw [← hz2]; exact hx.out.symm
      clear hz2
      go_wp2
      go_ret
      exact ⟨rfl, rfl⟩
theorem index_f (a : Option Addr) (cap : Nat) (zs : List Int) (x : Int) (hl : zs.length ≤ 1048576)
    (hc : ∀ i, i < zs.length → ∃ b off, a = some ⟨b, off, none⟩ ∧ w.cell? ⟨b, off + i, none⟩ = some (.int .i64 (zs[i]?.getD 0))) (hn : ∀ i, i < zs.length → zs[i]?.getD 0 ≠ x) :
    Calls Tryz.prog 95 #[.slice a zs.length cap, .int .i64 x] w fun e w' => e = .returned (.int .i64 (-1)) ∧ w = w' := by
  obtain ⟨n, hz⟩ : ∃ n, n = zs.length := ⟨_, rfl⟩
  rw [← hz] at hl hc hn ⊢
  replace hz := Lib.hid hz
  replace hc := Lib.hid hc
  replace hn := Lib.hid hn
  go_enter Tryz.func95, Tryz.ntmps95
  go_wp2
  go_loop [5, 8] (fun _ i => ∃ k : Nat, k ≤ n ∧ i = .int .i64 k) (fun _ i => n - (intOf i).toNat)
  case atStart => exact ⟨0, by omega, rfl⟩
  case round =>
    obtain ⟨k, hk, rfl⟩ := hrel
    by_cases hlt : k < n
    · obtain ⟨b, off, rfl, hs⟩ := hc.out k hlt
      obtain ⟨z, hz2⟩ : ∃ z, zs[k]?.getD 0 = z := ⟨_, rfl⟩
      rw [hz2] at hs
      have hne : (x == z) = false := by
        have := hn.out k hlt
        rw [hz2] at this
        simpa using fun c => this c.symm
      clear hz2
      go_wp2
      go_round
      case rel => exact ⟨k + 1, by omega, by go_num⟩
      case measure => simp [intOf]; omega
    · obtain rfl : k = n := by omega
      have hdd := decide_eq_false (show ¬ ((k : Int) < (k : Int)) by omega)
      go_wp2
      go_ret
      exact ⟨rfl, rfl⟩
theorem contains_any (v : Value) (x : List Nat) (u : Nat) (h : SlI w v (zl x)) (hl : x.length ≤ 1048576) :
    Calls Tryz.prog 74 #[v, .int .i64 u] w fun e w' => e = .returned (.bool (x.contains u)) ∧ w = w' := by
  obtain ⟨a, cap, rfl, h1, h2, h3⟩ := h
  have hlz : (zl x).length ≤ 1048576 := by rw [zl_length]; exact hl
  cases hb : x.contains u
  · have hI := index_f w a cap (zl x) u hlz (fun i hi => by
      obtain ⟨b, off, e, _, hc⟩ := h3 (by intro c; rw [c] at hi; simp at hi)
      exact ⟨b, off, e, hc i hi⟩) (fun i hi c => by
        rw [zl_get] at c
        rw [zl_length] at hi
        have hm : u ∈ x := by
          rw [List.getElem?_eq_getElem hi] at c
          simp only [Option.getD_some] at c
          have : x[i] = u := by omega
          rw [← this]
          exact List.getElem_mem hi
        have : x.contains u = true := by simpa using hm
        rw [hb] at this
        cases this)
    replace hI := Lib.hid hI
    clear h1 h2 h3 hlz
    go_enter Tryz.func74, Tryz.ntmps74
    go_wp2_with (go_at_call 95; refine (hI.out).mono ?_; rintro r1 w1 ⟨rfl, rfl⟩)
    go_ret
    exact ⟨rfl, rfl⟩
  · have hm : u ∈ x := by simpa using hb
    obtain ⟨m, hm1, hm2, hm3⟩ : ∃ m, m < x.length ∧ x[m]?.getD 0 = u ∧ ∀ i, i < m → x[i]?.getD 0 ≠ u := by
      clear hb h1 h2 h3 hlz hl
      induction x with
      | nil => cases hm
      | cons y ys ih =>
        by_cases c : y = u
        · exact ⟨0, by simp, by simpa using c, fun i hi => by omega⟩
        · obtain ⟨m, a1, a2, a3⟩ := ih (by
            rcases List.mem_cons.1 hm with e | e
            · exact absurd e.symm c
            · exact e)
          refine ⟨m + 1, by simpa using a1, by simpa using a2, fun i hi => ?_⟩
          cases i with
          | zero => simpa using c
          | succ i => simpa using a3 i (by omega)
    obtain ⟨b, off, e, _, hc⟩ := h3 (by intro c; rw [← List.length_eq_zero_iff, zl_length] at c; omega)
    have hI := index_t w a b off cap (zl x) u m (by rw [zl_length]; exact hm1) hlz e hc (by rw [zl_get, hm2]) (fun i hi c => hm3 i hi (by rw [zl_get] at c; omega))
    replace hI := Lib.hid hI
    clear h1 h2 h3 hlz hm2 hm3 hc e hb
    have hm4 : m ≤ 1048576 := by omega
    go_enter Tryz.func74, Tryz.ntmps74
    go_wp2_with (go_at_call 95; refine (hI.out).mono ?_; rintro r1 w1 ⟨rfl, rfl⟩)
    go_ret
    exact ⟨by simp, rfl⟩
end

/-- the memory of the iterator: k cells that may be written, the first of which hold p -/
structure LMem (W : World) (B k : Nat) (p : List Nat) : Prop where
  lt : B < W.heap.size
  cells : ∀ i, i < k → ∃ z : Int, W.cell? ⟨B, i, none⟩ = some (.int .i64 z)
  free : ∀ i, i < k → W.frozen? ⟨B, i, none⟩ = false
  val : ∀ i, i < p.length → W.cell? ⟨B, i, none⟩ = some (.int .i64 ((p[i]?.getD 0 : Nat) : Int))
  len : p.length ≤ k
theorem LMem.block {W W' : World} {B k : Nat} {p : List Nat} (h : LMem W B k p) (hz : W.heap.size ≤ W'.heap.size) (hb : W'.heap[B]? = W.heap[B]?) : LMem W' B k p where
  lt := Nat.lt_of_lt_of_le h.lt hz
  cells := fun i hi => by obtain ⟨z, e⟩ := h.cells i hi; exact ⟨z, (World.cell?_of_block (a := ⟨B, i, none⟩) hb).trans e⟩
  free := fun i hi => (World.frozen?_of_block (a := ⟨B, i, none⟩) hb).trans (h.free i hi)
  val := fun i hi => (World.cell?_of_block (a := ⟨B, i, none⟩) hb).trans (h.val i hi)
  len := h.len
theorem LMem.below {W W' : World} {B k : Nat} {p : List Nat} (h : LMem W B k p) (hb : Below W.heap.size W W') : LMem W' B k p := h.block hb.size (hb.block _ h.lt)
theorem LMem.upper {W W' : World} {B B0 k : Nat} {p : List Nat} (h : LMem W B k p) (hb : Upper B0 W W') (hB : B0 ≤ B) : LMem W' B k p := h.block hb.size (hb.same _ hB h.lt)
theorem LMem.sl {W : World} {B k : Nat} {p : List Nat} (h : LMem W B k p) (hk : k ≤ 9223372036854775807) : SlI W (.slice (some ⟨B, 0, none⟩) p.length k) (zl p) :=
  ⟨_, k, by rw [zl_length], by rw [zl_length]; exact h.len, hk, fun _ => ⟨B, 0, rfl, h.lt, fun i hi => by rw [zl_length] at hi; rw [Nat.zero_add, h.val i hi, zl_get]⟩⟩
theorem LMem.push {W : World} {B k : Nat} {p : List Nat} (h : LMem W B k p) (hk : p.length < k) (v : Nat) : LMem (W.setCell ⟨B, p.length, none⟩ (.int .i64 (v : Int))) B k (p ++ [v]) where
  lt := by have := h.lt; simpa using this
  cells := fun i hi => by
    obtain ⟨z, e⟩ := h.cells i hi
    by_cases c : i = p.length
    · subst c; exact ⟨v, World.cell?_setCell_same _ _ _ e⟩
    · exact ⟨z, (World.cell?_setCell_other _ _ _ _ (by simp <;> omega)).trans e⟩
  free := fun i hi => by rw [World.frozen?_setCell]; exact h.free i hi
  val := fun i hi => by
    obtain ⟨z, e⟩ := h.cells p.length hk
    by_cases c : i = p.length
    · subst c; rw [World.cell?_setCell_same _ _ _ e]; simp
    · have hi2 : i < p.length := by simp at hi; omega
      rw [World.cell?_setCell_other _ _ _ _ (by simp <;> omega), h.val i hi2, List.getElem?_append_left hi2]
  len := by simp; omega
theorem LMem.pop {W : World} {B k v : Nat} {p : List Nat} (h : LMem W B k (p ++ [v])) : LMem W B k p where
  lt := h.lt
  cells := h.cells
  free := h.free
  val := fun i hi => by rw [h.val i (by simp; omega), List.getElem?_append_left hi]
  len := by have := h.len; simp at this; omega

/-- what the caller's rounds promise the iterator -/
def Rounds (L : List (List Nat)) (B0 l : Nat) (J Jx : List (List Nat) → World → Prop) : Prop :=
  ∀ m pre x rest v W1, L = pre ++ x :: rest → J pre W1 → SlI W1 v (zl x) → YieldAt Fence.wide m Tryz.prog l #[v] W1 fun e W' =>
    (e = .returned (.bool true) ∧ J (pre ++ [x]) W' ∧ Upper B0 W1 W') ∨ (e = .returned (.bool false) ∧ Jx (pre ++ [x]) W')

set_option maxHeartbeats 1000000 in
theorem ll_zero (n k l B B0 : Nat) (hk : k ≤ 5) (hB : B0 ≤ B) (L : List (List Nat)) (J Jx : List (List Nat) → World → Prop) (hY : Rounds L B0 l J Jx)
    (p : List Nat) (nn : Nat) (pre rest : List (List Nat)) (W : World) (hp : p.length = k) (hL : L = pre ++ [p] ++ rest) (h0 : J pre W) (hM : LMem W B k p) :
    CallsIn Fence.wide nn Tryz.prog 94 #[.int .i64 n, .int .i64 k, .slice (some ⟨B, 0, none⟩) k k, .func (.yield l) #[] #[]] W fun e W' =>
      (e = .returned (.bool true) ∧ J (pre ++ [p]) W' ∧ LMem W' B k p) ∨ (e = .returned (.bool false) ∧ ∃ q, Jx q W') := by
  obtain ⟨fn, tmps, assign, body, hy, hR⟩ := hY (nn - 1) pre p rest _ W (by rw [hL]; simp) h0 (hM.sl (by omega))
  rw [hp] at hy
  replace hR := Lib.hid hR
  replace hM := Lib.hid hM
  clear hL h0 hp hY
  refine callsIn_of_wp Tryz.func94 rfl trivial ?_ rfl
  simp only [Tryz.ntmps94, List.size_toArray, List.length_cons, List.length_nil, Nat.reduceAdd, Nat.reduceSub, Array.replicate_succ, Array.replicate_zero, List.push_toArray, List.append_toArray, List.nil_append, List.cons_append]
  gi_wp2
  refine ⟨fun h => (by cases h), hR.out.mono ?_⟩
  rintro e w1 (⟨rfl, hJ1, hu1⟩ | ⟨rfl, hx1⟩)
  · gi_wp2
    go_ret
    exact .inl ⟨rfl, hJ1, hM.out.upper hu1 hB⟩
  · gi_wp2
    go_ret
    exact .inr ⟨rfl, _, hx1⟩

theorem info_i64s : ∃ i, Tryz.prog.info? 2 = some i ∧ i.size = 1 := by
  obtain ⟨i0, hi, hz0, hz1, hz2⟩ := info_parts info_i64
  exact ⟨i0, hi, hz1⟩
set_option maxHeartbeats 4000000 in
theorem ll_in (n k l B B0 : Nat) (hn : n ≤ 5) (hk : k ≤ 5) (hB : B0 ≤ B) (L : List (List Nat)) (J Jx : List (List Nat) → World → Prop) (hJ : Under B0 J) (hY : Rounds L B0 l J Jx) (m : Nat) :
    ∀ (p : List Nat) (pl nn : Nat) (pre rest : List (List Nat)) (W : World), p.length = pl → pl + m = k → L = pre ++ ext n m p ++ rest → J pre W → LMem W B k p →
    CallsIn Fence.wide nn Tryz.prog 94 #[.int .i64 n, .int .i64 k, .slice (some ⟨B, 0, none⟩) pl k, .func (.yield l) #[] #[]] W fun e W' =>
      (e = .returned (.bool true) ∧ J (pre ++ ext n m p) W' ∧ LMem W' B k p) ∨ (e = .returned (.bool false) ∧ ∃ q, Jx q W') := by
  induction m with
  | zero =>
    intro p pl nn pre rest W hpl hp hL h0 hM
    obtain rfl : pl = k := hp
    exact ll_zero n pl l B B0 hk hB L J Jx hY p nn pre rest W hpl hL h0 hM
  | succ m ih =>
    intro p pl nn pre rest W hpl hp hL h0 hM
    obtain ⟨i0, hi0, hs0⟩ := info_i64s
    have hlt : pl < k := by omega
    have hne : ((pl : Int) == (k : Int)) = false := by simp; omega
    replace hY := Lib.hid hY
    replace ih := Lib.hid ih
    replace hL := Lib.hid hL
    replace hJ := Lib.hid hJ
    replace hM := Lib.hid hM
    replace h0 := Lib.hid h0
    replace hpl := Lib.hid hpl
    replace hp := Lib.hid hp
    replace hi0 := Lib.hid hi0
    replace hs0 := Lib.hid hs0
    refine callsIn_of_wp Tryz.func94 rfl trivial ?_ rfl
    simp only [Tryz.ntmps94, List.size_toArray, List.length_cons, List.length_nil, Nat.reduceAdd, Nat.reduceSub, Array.replicate_succ, Array.replicate_zero, List.push_toArray, List.append_toArray, List.nil_append, List.cons_append]
    gi_wp2
    gi_loopw [9, 18] (fun _ c wr => ∃ j : Nat, j ≤ n ∧ c = .int .i64 j ∧ J (pre ++ extTo n m p j) wr ∧ LMem wr B k p) (fun _ c _ => n - (intOf c).toNat)
    case atStart => exact ⟨0, by omega, rfl, by rw [extTo_zero, List.append_nil]; exact h0.out, hM.out⟩
    case round =>
      obtain ⟨j, hj, rfl, hJj, hMj⟩ := hrel
      by_cases hlt2 : j < n
      · have hC := contains_any wr _ p j (hMj.sl (by omega)) (by have := hpl.out; omega)
        rw [hpl.out] at hC
        replace hJj := Lib.hid hJj
        have hM0 := Lib.hid hMj
        cases hb : p.contains j
        · rw [hb] at hC
          replace hC := Lib.hid hC
          have hx := Lib.hid (extTo_f (n := n) (m := m) hb)
          obtain ⟨z, hz⟩ := hMj.cells pl hlt
          have hfz := hMj.free pl hlt
          have hBl := hMj.lt
          obtain ⟨t, ht⟩ := extTo_pre (n := n) (m := m) (p := p) (j := j + 1) (by omega)
          have hcall := Lib.hid (fun nn W2 hJ2 hM2 => ih.out (p ++ [j]) (pl + 1) nn (pre ++ extTo n m p j) (t ++ rest) W2 (by simp [hpl.out]) (by have := hp.out; omega) (by rw [hL.out, ht, hx.out]; simp [List.append_assoc]) hJ2 hM2)
          have hJ2 := Lib.hid (hJ.out _ _ _ hJj.out (show Below B0 wr ((wr.setCell ⟨B, pl, none⟩ (.int .i64 (j : Int))).alloc (.cells #[.int .i64 (j : Int)] 2)) from ((Below.refl B0 wr).setCell (p := ⟨B, pl, none⟩) hB _).alloc (by simp; omega) _))
          have hM2 := hM0.out.push (by have := hpl.out; omega) j
          rw [hpl.out] at hM2
          replace hM2 := Lib.hid (hM2.below (balloc (Below.refl _ _) (.cells #[.int .i64 (j : Int)] 2)))
          clear hb hMj ht
          gi_wp2_with (first
            | (refine ⟨trivial, fun h => (by cases h), ?_⟩; gi_at_call 74; refine (callsIn_wide.2 hC.out).mono ?_; rintro r3 w3 ⟨rfl, rfl⟩)
            | (refine ⟨trivial, fun h => (by cases h), ?_⟩; gi_at_call 94; refine (hcall.out _ _ hJ2.out hM2.out).mono ?_; rintro r4 w4 (⟨rfl, hJ4, hM4⟩ | ⟨rfl, hx4⟩)))
          · go_roundw
            case rel => exact ⟨j + 1, by omega, by go_num, by rw [hx.out, ← List.append_assoc]; exact hJ4, hM4.pop⟩
            case measure => simp [intOf]; omega
          · go_ret
            exact .inr ⟨rfl, hx4⟩
        · rw [hb] at hC
          replace hC := Lib.hid hC
          have hx := Lib.hid (extTo_t (n := n) (m := m) hb)
          clear hb hMj
          gi_wp2_with (refine ⟨trivial, fun h => (by cases h), ?_⟩; gi_at_call 74; refine (callsIn_wide.2 hC.out).mono ?_; rintro r3 w3 ⟨rfl, rfl⟩)
          go_roundw
          case rel => exact ⟨j + 1, by omega, by go_num, by rw [hx.out]; exact hJj.out, hM0.out⟩
          case measure => simp [intOf]; omega
      · obtain rfl : j = n := by omega
        have hdd := decide_eq_false (show ¬ ((j : Int) < (j : Int)) by omega)
        replace hJj := Lib.hid hJj
        replace hMj := Lib.hid hMj
        gi_wp2
        go_ret
        exact .inl ⟨rfl, by rw [← extTo_end]; exact hJj.out, hMj.out⟩

theorem anyDepth {m m' : Nat} {P : Program} {l : Nat} {args : Array Value} {W : World} {R : Ending → World → Prop} (h : YieldAt Fence.wide m P l args W R) : YieldAt Fence.wide m' P l args W R := by
  obtain ⟨fn, tmps, assign, body, hy, hR⟩ := h
  exact ⟨fn, tmps, assign, body, hy, hR.1, fun c cs _ => hR.2 c cs (fun d h => by cases h)⟩
/-- what the iterator tells of its value -/
def See (x : List Nat) (v : Value) (W : World) : Prop := SlI W v (zl x)
theorem See.below (x : List Nat) (v : Value) (A A' : World) (h : See x v A) (hb : Below A.heap.size A A') : See x v A' := SlI.below h hb
theorem See.cellular (x : List Nat) (v : Value) : Cellular (See x v) := fun A l o o' h hl ho => by
  obtain ⟨a, cap, e, h1, h2, h3⟩ := h
  exact ⟨a, cap, e, h1, h2, fun hz => by
    obtain ⟨b, off, e2, hlt, hc⟩ := h3 hz
    exact ⟨b, off, e2, by simpa [World.putObj] using hlt, fun i hi => cellular_cell _ _ A l o o' (hc i hi) hl ho⟩⟩
theorem LMem.made (W : World) (k : Nat) (t : TypeId) (hc : ∀ i, i < k → (madeCells #[Value.int .i64 0] k)[i]? = some (.int .i64 0)) : LMem (W.alloc (.cells (madeCells #[.int .i64 0] k) t)) W.heap.size k [] where
  lt := by simp
  cells := fun i hi => ⟨0, by rw [World.cell?_alloc_new]; exact hc i hi⟩
  free := fun i hi => World.frozen?_alloc_new _ _ _ _
  val := fun i hi => by simp at hi
  len := by simp

set_option maxHeartbeats 4000000 in
theorem lists_sees (n k : Nat) (hn : n ≤ 5) (hk : k ≤ 5) (nn Bn Bk : Nat) (w : World) (hBn : Bn < w.heap.size) (hBk : Bk < w.heap.size) (gn : w.cell? ⟨Bn, 0, none⟩ = some (.int .i64 n)) (gk : w.cell? ⟨Bk, 0, none⟩ = some (.int .i64 k)) :
    SeqSees Fence.wide nn Tryz.prog 93 #[.pointer (some ⟨Bn, 0, none⟩), .pointer (some ⟨Bk, 0, none⟩)] See (lists n k) w := fun l J Jx W hW hJ hJx hY h0 => by
  have c1 : W.cell? ⟨Bn, 0, none⟩ = some (.int .i64 n) := (hW.cell (p := ⟨Bn, 0, none⟩) hBn).trans gn
  have c2 : W.cell? ⟨Bk, 0, none⟩ = some (.int .i64 k) := (hW.cell (p := ⟨Bk, 0, none⟩) hBk).trans gk
  have hfol : Tryz.prog.follows .mixedOrders = true := by kernel_rfl
  obtain ⟨O, hO⟩ : ∃ O, O = Obj.cells (madeCells #[.int .i64 0] k) 2 := ⟨_, rfl⟩
  obtain ⟨i0, hi0, hz0, hs0, hb0⟩ := info_parts info_i64
  have hmk : ∀ W : World, (Instr.makeSlice 69 (.int .i64 0) (.int .i64 k)).run Tryz.prog W = .ok (.slice (some ⟨W.heap.size, 0, none⟩) 0 k) (W.alloc O) := fun W => by
    have hr := run_make (P := Tryz.prog) W 69 2 i0 (.int .i64 0) Tryz.underlying69 hi0 hz0 .i64 .i64 ((0 : Nat) : Int) (k : Int) (by omega) (by omega) (by rw [hb0]; omega) (by omega)
    simp only [Int.toNat_natCast, hs0, Nat.mul_one] at hr
    rw [hO]
    exact hr
  have hR : Rounds (lists n k) W.heap.size l J Jx := fun m pre x rest v W1 hL hj hs => anyDepth (hY pre x rest v W1 hL hj hs)
  have hM := LMem.made W k 2 (fun i hi => by simp [madeCells, hi, Nat.mod_one])
  rw [← hO] at hM
  have hcall := Lib.hid (fun nn => (ll_in n k l W.heap.size W.heap.size hn hk (Nat.le_refl _) (lists n k) J Jx hJ hR k [] 0 nn [] [] ((W.alloc O).drew) rfl (by omega) (by simp [lists])
    (hJ _ _ _ h0 (((Below.refl _ W).alloc (Nat.le_refl _) O).drew)) (hM.below ((Below.refl _ _).drew))).mono (R' := fun e w' => ∃ b : Bool, e = .returned (.bool b) ∧ Hid (J (lists n k) w' ∨ ∃ q, Jx q w')) (by
      rintro e w' (⟨h1, h2, _⟩ | ⟨h1, h2⟩)
      · exact ⟨_, h1, .inl h2⟩
      · exact ⟨_, h1, .inr h2⟩))
  have d1 := (cOld W O Bn 0 (Nat.lt_of_lt_of_le hBn hW.size)).trans c1
  have d2 := (cOld W O Bk 0 (Nat.lt_of_lt_of_le hBk hW.size)).trans c2
  clear hM hW hBn hBk gn gk hi0 hz0 hs0 hb0 hR hY hJx
  replace hO := Lib.hid hO
  replace hJ := Lib.hid hJ
  replace h0 := Lib.hid h0
  refine callsIn_wide.2 ?_
  go_enter Tryz.func93, Tryz.ntmps93
  go_wp2
  go_region_with (go_at_call 94; refine (callsIn_wide.1 (hcall.out 0)).mono ?_; rintro r4 w4 ⟨b4, rfl, hg4⟩)
  all_goals go_wp2
  all_goals go_end0
  all_goals exact ⟨⟨_, rfl⟩, hg4.out⟩
end Go.Proofs.YtncbimbbkealmaaGreatDoor
