/-
  countsOf: an iterator over all lists in one memory, made of gotos: its contract.
-/
import Derived.Test.YtfnjgdocmfmfgaaSj
import Derived.Test.YtfnjgdocmfmfgaaDg
import Derived.Test.YtfnjgdocmfmfgaaKSeesC
import Derived.Shelf.Abstract
import Derived.Shelf.RegionOpen
import Derived.OwnWalkIn
import Derived.TacticsInMore
import Derived.LoopNIn
import Derived.LoopIn
import Derived.Deep.RegionWith
import Derived.StillTailTactics
namespace Go.Proofs.Ytfnjgdocmfmfgaa
open Go.RowKit Go.Shelf
set_option maxRecDepth 100000
theorem anyDepth {m m' : Nat} {P : Program} {l : Nat} {args : Array Value} {W : World} {R : Ending → World → Prop} (h : YieldAt Fence.wide m P l args W R) : YieldAt Fence.wide m' P l args W R := by
  obtain ⟨fn, tmps, assign, body, hy, hR⟩ := h
  exact ⟨fn, tmps, assign, body, hy, hR.1, fun c cs _ => hR.2 c cs (fun d h => by cases h)⟩
/-- what the iterator tells of its value -/
def SeeN (x : List Nat) (v : Value) (W : World) : Prop := ∃ B, v = .slice (some ⟨B, 0, none⟩) x.length x.length ∧ B < W.heap.size ∧ ∀ i, i < x.length → W.cell? ⟨B, i, none⟩ = some (.int .i64 ((xn x i : Nat) : Int))
theorem SeeN.below (x : List Nat) (v : Value) (A A' : World) (h : SeeN x v A) (hb : Below A.heap.size A A') : SeeN x v A' := by
  obtain ⟨B, e, h1, h2⟩ := h
  exact ⟨B, e, Nat.lt_of_lt_of_le h1 hb.size, fun i hi => (hb.cell (p := ⟨B, i, none⟩) h1).trans (h2 i hi)⟩
theorem SeeN.cellular (x : List Nat) (v : Value) : Cellular (SeeN x v) := fun A l o o' h hl ho => by
  obtain ⟨B, e, h1, h2⟩ := h
  exact ⟨B, e, by simpa [World.putObj] using h1, fun i hi => cellular_cell _ _ A l o o' (h2 i hi) hl ho⟩
theorem SeeN.sl {x : List Nat} {v : Value} {W : World} (h : SeeN x v W) (hn : x.length ≤ 5) : SlI W v (zn x) := by
  obtain ⟨B, rfl, h1, h2⟩ := h
  exact ⟨_, x.length, by rw [zn_length], by rw [zn_length]; exact Nat.le_refl _, by omega, fun _ => ⟨B, 0, rfl, h1, fun i hi => by rw [zn_length] at hi; rw [Nat.zero_add, h2 i hi, zn_get]; rfl⟩⟩
theorem NM.made (W : World) (n b : Nat) (t : TypeId) (hc : ∀ i, i < n → (madeCells #[Value.int .i64 0] n)[i]? = some (.int .i64 0)) : NM (W.alloc (.cells (madeCells #[.int .i64 0] n) t)) W.heap.size n (dg b n 0) where
  lt := by simp
  val := fun i hi => by
    rw [World.cell?_alloc_new, hc i hi]
    have hz : ∀ n i, i < n → xn (dg b n 0) i = 0 := by
      intro n
      induction n with
      | zero => intro i hi; omega
      | succ n ih =>
        intro i hi
        have hl := dg_length b n 0
        unfold xn dg
        rw [Nat.zero_div, Nat.zero_mod]
        by_cases c : i < n
        · rw [List.getElem?_append_left (by omega)]
          exact ih i c
        · rw [List.getElem?_append_right (by omega), show i - (dg b n 0).length = 0 by omega]
          rfl
    rw [hz n i hi]
    rfl
  fz := fun i hi => World.frozen?_alloc_new _ _ _ _
  len := dg_length b n 0
/-- what the iterator reads of its caller's -/
def CInv (Bn Bb n b : Nat) (W : World) : Prop := W.cell? ⟨Bn, 0, none⟩ = some (.int .i64 n) ∧ W.cell? ⟨Bb, 0, none⟩ = some (.int .i64 b)
def mu0 (b n k : Nat) : Nat := (b ^ n - k) * (n + 2) + 1
def mu1 (b n k m : Nat) : Nat := (b ^ n - k - 1) * (n + 2) + 2 + m
theorem mu_a {b n k m : Nat} (_hk : k < b ^ n) : (b ^ n - (k + 1)) * (n + 2) + 1 < (b ^ n - k - 1) * (n + 2) + 2 + (m + 1) := by
  rw [show b ^ n - (k + 1) = b ^ n - k - 1 by omega]; omega
theorem mu_b {b n k : Nat} (hk : k < b ^ n) : (b ^ n - k - 1) * (n + 2) + 2 + n ≤ (b ^ n - k) * (n + 2) + 1 := by
  obtain ⟨d, hd⟩ : ∃ d, b ^ n - k = d + 1 := ⟨b ^ n - k - 1, by omega⟩
  rw [hd, Nat.add_sub_cancel, Nat.add_mul]
  omega
set_option maxHeartbeats 4000000 in
theorem counts_sees (n b : Nat) (hb : 0 < b) (hb4 : b ≤ 4) (hn : n ≤ 5) (nn Bn Bb : Nat) (w : World) (hBb : Bb < w.heap.size) :
    SeqSeesC Fence.wide nn Try.prog 124 #[.pointer (some ⟨Bn, 0, none⟩), .pointer (some ⟨Bb, 0, none⟩)] (CInv Bn Bb n b) SeeN (allM b n) w := fun l J Jx W hW hJ hJi hY h0 => by
  have hfol : Try.prog.follows .mixedOrders = true := by kernel_rfl
  obtain ⟨O, hO⟩ : ∃ O, O = Obj.cells (madeCells #[.int .i64 0] n) 2 := ⟨_, rfl⟩
  obtain ⟨i0, hi0, hz0, hs0, hb0⟩ := info_parts info_i64
  have hmk : ∀ W : World, (Instr.makeSlice 46 (.int .i64 n) (.int .i64 n)).run Try.prog W = .ok (.slice (some ⟨W.heap.size, 0, none⟩) n n) (W.alloc O) := fun W => by
    have hr := run_make (P := Try.prog) W 46 2 i0 (.int .i64 0) Try.underlying46 hi0 hz0 .i64 .i64 (n : Int) (n : Int) (by omega) (by omega) (by rw [hb0]; omega) (by omega)
    simp only [Int.toNat_natCast, hs0, Nat.mul_one] at hr
    rw [hO]
    exact hr
  have hM := NM.made W n b 2 (fun i hi => by simp [madeCells, hi, Nat.mod_one])
  rw [← hO] at hM
  obtain ⟨B, hB⟩ : ∃ B, W.heap.size = B := ⟨_, rfl⟩
  have hlt : w.heap.size ≤ B := by rw [← hB]; exact hW.size
  have hJ1 : J (preM b n 0) (W.alloc O) := hJ _ _ _ h0 ((Below.refl _ W).alloc (Nat.le_refl _) O)
  have c1 := (hJi _ _ h0).1
  have hJs := Lib.hid (fun s A (i : Nat) v (h : J s A) => hJ s A _ h ((Below.refl _ A).setCell (p := ⟨B, i, none⟩) (by rw [hB]; exact Nat.le_refl _) v))
  have hJ0 := Lib.hid (fun s A (h : J s A) => hJ s A _ h ((Below.refl _ A).drew))
  have hYs := Lib.hid (fun pre x rest v W1 (hL : allM b n = pre ++ x :: rest) (hj : J pre W1) (hs : SeeN x v W1) m => anyDepth (m' := m) (hY pre x rest v W1 hL hj hs))
  rw [hB] at hM
  clear hi0 hz0 hs0 hb0 hY hJ h0 hW hO
  replace hJi := Lib.hid hJi
  replace hM := Lib.hid hM
  replace hJ1 := Lib.hid hJ1
  have hne : Bb ≠ B := by omega
  refine callsIn_of_wp Try.func124 rfl trivial ?_ rfl
  simp only [Try.ntmps124, List.size_toArray, List.length_cons, List.length_nil, Nat.reduceAdd, Nat.reduceSub, Array.replicate_succ, Array.replicate_zero, List.push_toArray, List.append_toArray, List.nil_append, List.cons_append]
  refine wpIn_scope_two
    (fun mm a' wr => ∃ k, k < b ^ n ∧ mm = mu0 b n k ∧ J (preM b n k) wr ∧ NM wr B n (dg b n k) ∧ ∃ (u5 u6 u7 u8 u9 u10 u11 u12 u13 u14 u15 u16 u17 u18 u19 u20 u21 u22 u23 u24 u25 u26 u27 u28 u29 u30 u31 : Value), a' = { tmps := #[.func (.yield l) #[] #[], .pointer (some ⟨Bn, 0, none⟩), .pointer (some ⟨Bb, 0, none⟩), undef, .slice (some ⟨B, 0, none⟩) n n, u5, u6, u7, u8, u9, u10, u11, u12, u13, u14, u15, u16, u17, u18, u19, u20, u21, u22, u23, u24, u25, u26, u27, u28, u29, u30, u31], defers := [] })
    (fun mm a' wr => ∃ k m q : Nat, k < b ^ n ∧ mm = mu1 b n k m ∧ Hid (Carry b n k m q) ∧ J (preM b n (k + 1)) wr ∧ NM wr B n (st b n m q) ∧ ∃ (u6 u7 u8 u9 u10 u11 u12 u13 u14 u15 u16 u17 u18 u19 u20 u21 u22 u23 u24 u25 u26 u27 u28 u29 u30 u31 : Value), a' = { tmps := #[.func (.yield l) #[] #[], .pointer (some ⟨Bn, 0, none⟩), .pointer (some ⟨Bb, 0, none⟩), undef, .slice (some ⟨B, 0, none⟩) n n, .int .i64 m, u6, u7, u8, u9, u10, u11, u12, u13, u14, u15, u16, u17, u18, u19, u20, u21, u22, u23, u24, u25, u26, u27, u28, u29, u30, u31], defers := [] })
    ⟨_, rfl⟩ ⟨_, rfl⟩ ?pass1 ?pass0 (mu0 b n 0 + 1) ?first
  case pass1 =>
    rintro r hr mm a' wr ⟨k, m, q, hk, rfl, hC, hJk, hM, u6, u7, u8, u9, u10, u11, u12, u13, u14, u15, u16, u17, u18, u19, u20, u21, u22, u23, u24, u25, u26, u27, u28, u29, u30, u31, rfl⟩
    have hr2 := Option.some.inj hr
    injection hr2 with _ hr3
    subst hr3
    clear hr hmk
    cases m with
    | zero =>
      have hlast := hC.out.last
      have hJl : J (allM b n) wr := by unfold allM; rw [hlast]; exact hJk
      replace hJl := Lib.hid hJl
      replace hJk := Lib.hid hJk
      replace hM := Lib.hid hM
      replace hlast := Lib.hid hlast
      gi_wp2
      exact bodyPost_ret (results_none (h := rfl) _ _ _) rfl ⟨⟨_, rfl⟩, .inl hJl.out⟩
    | succ m =>
      have hmn : m < n := hC.out.le
      have hcell := hM.val m hmn
      have hfz := hM.fz m hmn
      rw [st_at] at hcell
      have hr : q % b < b := Nat.mod_lt _ hb
      have hset := Lib.hid (fun v => hM.set hmn v)
      have c2 := (hJi.out _ _ hJk).2
      have c2s : ∀ v, (wr.setCell ⟨B, m, none⟩ v).cell? ⟨Bb, 0, none⟩ = some (.int .i64 b) := fun v => (World.cell?_setCell_other _ _ _ _ (by simp <;> omega)).trans c2
      have cs : ∀ v, (wr.setCell ⟨B, m, none⟩ v).cell? ⟨B, m, none⟩ = some v := fun v => World.cell?_setCell_same _ _ _ hcell
      have fs : ∀ v, (wr.setCell ⟨B, m, none⟩ v).frozen? ⟨B, m, none⟩ = false := fun v => by rw [World.frozen?_setCell]; exact hfz
      have hJ2 := Lib.hid (fun v => hJ0.out _ _ (hJs.out _ _ m v hJk))
      have hJ3 := Lib.hid (fun v v' => hJs.out _ _ m v' (hJ2.out v))
      replace hJk := Lib.hid hJk
      replace hM := Lib.hid hM
      by_cases hlt : q % b + 1 < b
      · have hI := hC.out.inc hlt
        have hs := hset.out (q % b + 1)
        rw [st_inc _ _ _ _ hlt, hI.1] at hs
        replace hs := Lib.hid (hs.below (Below.refl _ _).drew)
        replace hI := Lib.hid hI
        obtain ⟨r, hr2⟩ : ∃ r, q % b = r := ⟨_, rfl⟩
        rw [hr2] at hcell hs hlt hr
        have hdd := decide_eq_true (show ((r : Int) + 1 < (b : Int)) by omega)
        clear hset hr2 hJ3
        gi_wp2
        gi_region
        all_goals gi_wp2
        all_goals refine wpIn_goto ?_
        all_goals exact ⟨_, (by unfold mu0 mu1; exact mu_a hk), .inl ⟨rfl, k + 1, hI.out.2, rfl, hJ2.out _, hs.out, _, _, _, _, _, _, _, _, _, _, _, _, _, _, _, _, _, _, _, _, _, _, _, _, _, _, _, rfl⟩⟩
      · have hD := Lib.hid (hC.out.down hb hlt)
        have hs2 := Lib.hid (fun v => ((hset.out v).below (Below.refl _ _).drew).set hmn 0)
        have hs : ∀ v, NM ((wr.setCell ⟨B, m, none⟩ (.int .i64 ((v : Nat) : Int))).drew.setCell ⟨B, m, none⟩ (.int .i64 ((0 : Nat) : Int))) B n (st b n m (q / b)) := fun v => by
          have := hs2.out v
          rw [List.set_set, st_zero _ _ _ _ hmn] at this
          exact this
        replace hs := Lib.hid hs
        obtain ⟨r, hr2⟩ : ∃ r, q % b = r := ⟨_, rfl⟩
        rw [hr2] at hcell hlt hr
        have hdd := decide_eq_false (show ¬ ((r : Int) + 1 < (b : Int)) by omega)
        clear hset hr2 hJ2 hs2
        gi_wp2
        gi_region
        all_goals gi_wp2
        all_goals refine wpIn_goto ?_
        all_goals exact ⟨_, (by unfold mu1; omega), .inr ⟨rfl, k, m, q / b, hk, rfl, hD, hJ3.out _ _, hs.out (r + 1), _, _, _, _, _, _, _, _, _, _, _, _, _, _, _, _, _, _, _, _, _, _, _, _, _, _, rfl⟩⟩
  case pass0 =>
    rintro hp1 r hr mm a' wr ⟨k, hk, rfl, hJk, hM, u5, u6, u7, u8, u9, u10, u11, u12, u13, u14, u15, u16, u17, u18, u19, u20, u21, u22, u23, u24, u25, u26, u27, u28, u29, u30, u31, rfl⟩
    have hr2 := Option.some.inj hr
    injection hr2 with _ hr3
    subst hr3
    clear hr hmk
    obtain ⟨rest, hL⟩ := allM_at b n k hk
    have hcar := Lib.hid (Carry.start hk)
    have hS : SeeN (dg b n k) (.slice (some ⟨B, 0, none⟩) n n) wr := ⟨B, by rw [hM.len], hM.lt, fun i hi => hM.val i (by rw [← hM.len]; exact hi)⟩
    obtain ⟨fn, tmps, assign, body, hy, hR⟩ := hYs.out _ _ _ _ wr hL hJk hS (nn - 1)
    have hMu := Lib.hid (fun A (h : Upper B wr A) => hM.block h.size (h.same _ (Nat.le_refl _) hM.lt))
    replace hR := Lib.hid hR
    replace hJk := Lib.hid hJk
    replace hM := Lib.hid hM
    replace hp1 := Lib.hid hp1
    clear hS hL
    gi_wp2
    refine ⟨fun h => (by cases h), hR.out.mono ?_⟩
    rintro e w1 (⟨rfl, hJ1, hu1⟩ | ⟨rfl, hx1⟩)
    · rw [← preM_succ] at hJ1
      have c3 := (hJi.out _ _ hJ1).1
      have hM1 := hMu.out _ (hB ▸ hu1)
      rw [← st_full] at hM1
      replace hJ1 := Lib.hid hJ1
      replace hM1 := Lib.hid hM1
      gi_wp2
      refine wpIn_label ?_
      gi_step
      gi_step
      refine wpIn_mono (hp1.out _ rfl _ _ _ ⟨k, n, k, hk, rfl, hcar, hJ1.out, hM1.out, _, _, _, _, _, _, _, _, _, _, _, _, _, _, _, _, _, _, _, _, _, _, _, _, _, _, rfl⟩) fun e a w h => PJ.mono (by unfold mu0 mu1; exact mu_b hk) e a w h
    · gi_wp2
      rw [leaps_ret]
      exact bodyPost_ret (results_none (h := rfl) _ _ _) rfl ⟨⟨_, rfl⟩, .inr ⟨_, hx1⟩⟩
  case first =>
    intro hp0
    replace hp0 := Lib.hid hp0
    gi_wp2
    refine wpIn_label ?_
    gi_step
    gi_step
    refine wpIn_mono (hp0.out _ rfl _ _ _ ⟨0, Nat.pow_pos hb, rfl, hJ1.out, hM.out, _, _, _, _, _, _, _, _, _, _, _, _, _, _, _, _, _, _, _, _, _, _, _, _, _, _, _, rfl⟩) fun e a w h => PJ.mono (Nat.le_succ _) e a w h
section
variable (w : World)
structure CoMade (w w' : World) (B : Nat) (n b : Int) : Prop where
  below : Below w.heap.size w w'
  ge : w.heap.size ≤ B
  lt : B + 1 < w'.heap.size
  gn : w'.cell? ⟨B, 0, none⟩ = some (.int .i64 n)
  gb : w'.cell? ⟨B + 1, 0, none⟩ = some (.int .i64 b)
theorem co_any (n b : Int) :
    Calls Try.prog 104 #[.int .i64 n, .int .i64 b] w fun r w' => ∃ B, r = .returned (.func (.func 124) #[] #[.pointer (some ⟨B, 0, none⟩), .pointer (some ⟨B + 1, 0, none⟩)]) ∧ CoMade w w' B n b := by
  have s1 : ∀ (W : World) (o : Obj), (W.alloc o).heap.size = W.heap.size + 1 := fun W o => by simp
  replace s1 := Lib.hid s1
  go_enter Try.func104, Try.ntmps104
  go_wp2
  go_ret
  refine ⟨w.heap.size, rfl, by (repeat (first | exact Below.refl _ _ | assumption | refine bchain (by assumption) ?_ | refine balloc ?_ _ | apply Below.drew | apply below_drewN | (refine Below.alloc ?_ (by (try simp) <;> omega) _) | (refine Below.setCell ?_ (by (try simp) <;> omega) _))), Nat.le_refl _, by rw [s1.out, s1.out]; omega, ?_, ?_⟩
  · rw [cOld _ _ _ _ (by rw [s1.out]; omega), cNew _ _ _ _ _ rfl]; rfl
  · rw [cNew _ _ _ _ _ (by rw [s1.out])]; rfl
end
end Go.Proofs.Ytfnjgdocmfmfgaa
