/-
  ALL LEAST GRAPHS WITH SO MANY VERTICES: the program's contract.
-/
import Derived.Test.YtmbjhncgdmbpaaaGBody
import Derived.Test.YtmbjhncgdmbpaaaKListO
import Derived.Test.YtmbjhncgdmbpaaaKOwn2
import Derived.Test.YtmbjhncgdmbpaaaGLs
import Derived.Test.YtmbjhncgdmbpaaaGown
import Derived.Test.YtmbjhncgdmbpaaaForb
namespace Go.Proofs.Ytmbjhncgdmbpaaa
open Go.RowKit Go.Shelf
set_option maxRecDepth 100000
attribute [local go_sem] Oper.semAt_some

/-- how far the walk is -/
structure AgR (w : World) (Bm n j : Nat) (Ds : List Nat) (u : Value) (A : World) : Prop where
  nd : Ds.Nodup
  ds : ∀ D ∈ Ds, w.heap.size ≤ D ∧ D < A.heap.size ∧ A.heap[D]? = some (.deferred (some []))
  set : GSet A Bm n (seenG n j)
  c : A.cell? ⟨Bm + 1, 0, none⟩ = some (.map (some Bm))
  own : A.ownsRow (Bm + 2) 36 2 u (lG n j).length (gsC (lG n j))
  b : Below w.heap.size w A
  z : Bm + 2 ≤ A.heap.size
theorem AgR.below {w A A' : World} {Bm n j : Nat} {Ds : List Nat} {u : Value} (h : AgR w Bm n j Ds u A) (hb : Below A.heap.size A A') : AgR w Bm n j Ds u A' where
  nd := h.nd
  ds := fun D hD => by
    obtain ⟨h1, h2, h3⟩ := h.ds D hD
    exact ⟨h1, Nat.lt_of_lt_of_le h2 hb.size, (hb.block D h2).trans h3⟩
  set := h.set.below hb
  c := (hb.cell (p := ⟨Bm + 1, 0, none⟩) (by have := h.z; show Bm + 1 < _; omega)).trans h.c
  own := h.own.kept (row := none) ⟨hb.os, hb.tape, hb.output, hb.size, fun k hk _ => hb.block k hk⟩ (by cases (Value.ownBlock u) <;> simp)
  b := h.b.trans (hb.mono h.b.size)
  z := Nat.le_trans h.z hb.size
theorem AgR.skip {w A : World} {Bm n j : Nat} {Ds : List Nat} {u : Value} (h : AgR w Bm n j Ds u A) (hl : leastE n j ≠ j) : AgR w Bm n (j + 1) Ds u A where
  nd := h.nd
  ds := h.ds
  set := by rw [seenG_f hl]; exact h.set
  c := h.c
  own := by rw [lG_f (by unfold isG; simpa using hl)]; exact h.own
  b := h.b
  z := h.z
/-- what the inner walk has done -/
structure AgI (w A2 : World) (Bm n : Nat) (S : List Nat) (A' : World) : Prop where
  set : GSet A' Bm n S
  b : Below w.heap.size w A'
  g : A2.grownBy A' (some Bm)
theorem AgI.chg {w A2 A' A'' : World} {Bm n : Nat} {S : List Nat} {Own : Nat → Prop} (h : AgI w A2 Bm n S A') (hm : Bm < A2.heap.size) (hw : w.heap.size ≤ A2.heap.size) (ho : ∀ b, Own b → A2.heap.size ≤ b) (hc : Chg Own A' A'') : AgI w A2 Bm n S A'' where
  set := h.set.of_block (hc.same _ h.set.lt (fun c => by have := ho _ c; omega))
  b := h.b.trans (hc.below h.b.size (fun b hb => by have := ho b hb; omega))
  g := ⟨hc.os.trans h.g.os, hc.tape.trans h.g.tape, hc.output.trans h.g.output, Nat.le_trans h.g.size hc.size, fun k hk hn => (hc.same k (Nat.lt_of_lt_of_le hk h.g.size) (fun c => by have := ho _ c; omega)).trans (h.g.block k hk hn)⟩
theorem AgI.start {w A2 A' : World} {Bm n : Nat} {S : List Nat} (hS : GSet A2 Bm n S) (hb : Below w.heap.size w A2) (h : Below A2.heap.size A2 A') : AgI w A2 Bm n S A' where
  set := hS.below h
  b := hb.trans (h.mono hb.size)
  g := ⟨h.os, h.tape, h.output, h.size, fun k hk _ => h.block k hk⟩
theorem AgI.put {w A2 A' w3 w4 : World} {Bm n : Nat} {S S' : List Nat} (h : AgI w A2 Bm n S A') (hwm : w.heap.size ≤ Bm) (hb : Below A'.heap.size A' w3) (hg : w3.grownBy w4 (some Bm)) (hS : GSet w4 Bm n S') : AgI w A2 Bm n S' w4 where
  set := hS
  b := (h.b.trans (hb.mono h.b.size)).grown hg (Nat.le_trans h.b.size hb.size) (fun k hk => by injection hk with hk; omega)
  g := ⟨hg.os.trans (hb.os.trans h.g.os), hg.tape.trans (hb.tape.trans h.g.tape), hg.output.trans (hb.output.trans h.g.output), Nat.le_trans h.g.size (Nat.le_trans hb.size hg.size), fun k hk hn => (hg.block k (Nat.lt_of_lt_of_le hk (Nat.le_trans h.g.size hb.size)) hn).trans ((hb.block k (Nat.lt_of_lt_of_le hk h.g.size)).trans (h.g.block k hk hn))⟩
theorem AgR.row {w A2 A3 : World} {Bm n j : Nat} {Ds S : List Nat} {u : Value} (h : AgR w Bm n j Ds u A2) (hi : AgI w A2 Bm n S A3) : A3.ownsRow (Bm + 2) 36 2 u (lG n j).length (gsC (lG n j)) :=
  h.own.kept hi.g (by
    rcases hu : Value.ownBlock u with _ | k
    · exact .inl rfl
    · refine .inr (fun c => ?_)
      injection c with c
      have := (h.own.lt k hu).1
      omega)
theorem AgR.next {w A2 A3 w5 : World} {Bm n j : Nat} {Ds : List Nat} {u v' : Value} (hwm : w.heap.size ≤ Bm) (h : AgR w Bm n j Ds u A2) (hi : AgI w A2 Bm n (seenG n j ++ (lists n n).map (onL j)) A3) (hl : leastE n j = j) {D : Nat} (hD : A2.heap.size ≤ D) (hK : A3.heap[D]? = some (.deferred (some [])))
    {O : Obj} (hown : w5.ownsRow (Bm + 2) 36 2 v' ((lG n j).length + 1) (gsC (lG n j) ++ [.int .i64 n, .int .u32 j])) (hg : (A3.alloc O).grownBy w5 (Value.ownBlock u)) : AgR w Bm n (j + 1) (D :: Ds) v' w5 := by
  have hz3 := hi.g.size
  have hz5 := hg.size
  rw [World.size_alloc] at hz5
  have keep : ∀ k, k < A3.heap.size → some k ≠ Value.ownBlock u → w5.heap[k]? = A3.heap[k]? := fun k hk hn => (hg.block k (by rw [World.size_alloc]; omega) hn).trans (Below.heap_alloc _ _ _ hk)
  have hlow : ∀ k, k < Bm + 2 → some k ≠ Value.ownBlock u := fun k hk c => by have := (h.own.lt k c.symm).1; omega
  have hDl : D < A3.heap.size := (Array.getElem?_eq_some_iff.1 hK).1
  have hz := h.z
  refine ⟨List.nodup_cons.2 ⟨fun c => by have := (h.ds D c).2.1; omega, h.nd⟩, fun D' hD' => ?_, ?_, ?_, ?_, ?_, by omega⟩
  · rcases List.mem_cons.1 hD' with rfl | hD'
    · refine ⟨by have := h.b.size; omega, by omega, (keep _ hDl (fun c => ?_)).trans hK⟩
      have := (h.own.lt _ c.symm).2
      omega
    · obtain ⟨h1, h2, h3⟩ := h.ds D' hD'
      have hne : D' ≠ Bm := by
        rintro rfl
        obtain ⟨_, _, es, cl, hh, _⟩ := h.set
        rw [hh] at h3
        cases h3
      refine ⟨h1, by omega, (keep _ (by omega) (fun c => ?_)).trans ((hi.g.block D' h2 (by intro c; injection c with c; exact hne c)).trans h3)⟩
      rcases h.own.2 with ⟨rfl, _⟩ | ⟨g, cap, cur, rfl, a1, a2, _⟩
      · simp [Value.ownBlock] at c
      · simp [Value.ownBlock] at c
        subst c
        rw [a2] at h3
        cases h3
  · rw [seenG_t hl]
    exact hi.set.of_block (keep _ (by omega) (hlow _ (by omega)))
  · exact (World.cell?_of_block (a := ⟨Bm + 1, 0, none⟩) (keep (Bm + 1) (by omega) (hlow _ (by omega)))).trans ((World.cell?_of_block (a := ⟨Bm + 1, 0, none⟩) (hi.g.block (Bm + 1) (by omega) (by intro c; injection c with c; omega))).trans h.c)
  · rw [lG_t (by unfold isG; simpa using hl), gsC_snoc, List.length_append]
    exact hown
  · refine ((hi.b.alloc hi.b.size O).grown hg (by have := hi.b.size; rw [World.size_alloc]; omega) (fun k hk => ?_))
    have := (h.own.lt k hk).1
    omega
theorem AgR.ne {w A : World} {Bm n j : Nat} {Ds : List Nat} {u : Value} (h : AgR w Bm n j Ds u A) : ∀ D ∈ Ds, Value.ownBlock u ≠ some D := fun D hD c => by
  have h3 := (h.ds D hD).2.2
  rcases h.own.2 with ⟨rfl, _⟩ | ⟨g, cap, cur, rfl, a1, a2, _⟩
  · simp [Value.ownBlock] at c
  · simp [Value.ownBlock] at c
    subst c
    rw [a2] at h3
    cases h3
section
variable (w : World)
set_option maxHeartbeats 4000000 in
theorem iag_ok (n : Nat) (hn5 : n ≤ 5) : Calls Try.prog 19 #[.int .i64 n] w (RetG w (lG n (eMax n)) 0) := by
  have hE := Lib.hid (fun W => ae_any W n hn5)
  have hV := Lib.hid (fun W => vc_t W n (by omega) (by omega))
  have hmm := @run_makeMap Try.prog
  have hem := eMax_le n
  have hem0 : 1 ≤ eMax n := eMax_posG n hn5
  obtain ⟨i0, hi, hz0, hz1, hz2⟩ := info_parts info_graph
  replace hi := Lib.hid hi
  replace hz0 := Lib.hid hz0
  replace hz1 := Lib.hid hz1
  replace hz2 := Lib.hid hz2
  have hsk := Lib.hid (fun (A : World) j Ds u (hj : j < eMax n) (h : AgR w w.heap.size n j Ds u A) => h.skip)
  have hsn := Lib.hid (fun j (hj : j < eMax n) => seenG_iff hn5 hj)
  obtain ⟨M, hM⟩ : ∃ M, eMax n = M := ⟨_, rfl⟩
  have hMe : ((M - 1 : Nat) : Int) + 1 = (M : Int) := by omega
  rw [hM] at hE hem hsk hsn ⊢
  refine (callsIn_wide (n := 5)).1 ?_
  refine callsIn_of_wp_marks Try.func19 rfl trivial ?_ rfl
  simp only [Try.ntmps19, List.size_toArray, List.length_cons, List.length_nil, Nat.reduceAdd, Nat.reduceSub, Array.replicate_succ, Array.replicate_zero, List.push_toArray, List.append_toArray, List.nil_append, List.cons_append]
  gi_wp2_with (first
    | (refine ⟨trivial, ?_⟩; gi_at_call 46; refine (callsIn_wide.2 (hV.out _)).mono ?_; rintro r3 w3 ⟨rfl, rfl⟩)
    | (refine ⟨trivial, ?_⟩; gi_at_call 47; refine (callsIn_wide.2 (hE.out _)).mono ?_; rintro r4 w4 ⟨rfl, rfl⟩))
  obtain ⟨W1, hW1⟩ : ∃ W1, W1 = (w.alloc (.map #[] 0)).alloc (.cells #[.map (some w.heap.size)] 63) := ⟨_, rfl⟩
  have hR1 : AgR w w.heap.size n 0 [] (.slice none 0 0) W1 := by
    rw [hW1]
    exact ⟨List.nodup_nil, fun D hD => (by cases hD), (GSet.made w n hn5).below ((Below.refl _ _).alloc (Nat.le_refl _) _), by rw [cNew _ _ _ _ _ (by simp)]; rfl, ⟨rfl, .inl ⟨rfl, rfl⟩⟩, by (repeat (first | exact Below.refl _ _ | assumption | refine bchain (by assumption) ?_ | refine balloc ?_ _ | apply Below.drew | apply below_drewN | (refine Below.alloc ?_ (by (try simp) <;> omega) _) | (refine Below.setCell ?_ (by (try simp) <;> omega) _))), by simp⟩
  rw [← hW1]
  clear hW1 hE hV hmm
  refine wpIn_loop (fun a A => ∃ (j : Nat) (Ds : List Nat) (u u6 u7 u8 u9 u10 u19 u20 u21 u22 u23 u24 u25 u26 u27 u28 u29 u30 u31 u32 u33 u34 u35 u36 u37 u38 u39 u40 u41 u42 u43 u44 : Value), a = { tmps := #[.int .i64 n, undef, .slice none 0 0, .int .i64 0, u, .pointer (some ⟨w.heap.size + 1, 0, none⟩), u6, u7, u8, u9, u10, .int .i64 n, .bool true, .bool false, .map (some w.heap.size), .int .i64 n, .int .u32 (M - 1 : Nat), .int .u32 M, .int .u32 j, u19, u20, u21, u22, u23, u24, u25, u26, u27, u28, u29, u30, u31, u32, u33, u34, u35, u36, u37, u38, u39, u40, u41, u42, u43, u44], defers := Ds.map fun D => { target := .collected D, args := #[] } } ∧ j ≤ M ∧ AgR w w.heap.size n j Ds u A)
    (fun a _ => M - (intOf (a.tmps.getD 18 undef)).toNat) ?start ?round
  case start => exact ⟨0, [], _, _, _, _, _, _, _, _, _, _, _, _, _, _, _, _, _, _, _, _, _, _, _, _, _, _, _, _, _, _, _, _, rfl, by omega, hR1⟩
  case round =>
    rintro _ A ⟨j, Ds, u, u6, u7, u8, u9, u10, u19, u20, u21, u22, u23, u24, u25, u26, u27, u28, u29, u30, u31, u32, u33, u34, u35, u36, u37, u38, u39, u40, u41, u42, u43, u44, rfl, hj, hR⟩
    by_cases hlt : j < M
    · have hsnj := hsn.out j hlt
      obtain ⟨A1, hA1⟩ : ∃ A1, A1 = A.alloc (.cells #[.int .i64 (n : Int), .int .u32 (j : Int)] 36) := ⟨_, rfl⟩
      have hBA : Below A.heap.size A A1 := by rw [hA1]; (repeat (first | exact Below.refl _ _ | assumption | refine bchain (by assumption) ?_ | refine balloc ?_ _ | apply Below.drew | apply below_drewN | (refine Below.alloc ?_ (by (try simp) <;> omega) _) | (refine Below.setCell ?_ (by (try simp) <;> omega) _)))
      have hA1z : A1.heap.size = A.heap.size + 1 := by rw [hA1]; simp
      have g0 : A1.cell? ⟨A.heap.size, 0, none⟩ = some (.int .i64 n) := by rw [hA1, cNew _ _ _ _ _ rfl]; rfl
      have g1 : A1.cell? ⟨A.heap.size, 1, none⟩ = some (.int .u32 j) := by rw [hA1, cNew _ _ _ _ _ rfl]; rfl
      have hRA := hR.below hBA
      have c0 := hR.c
      have hzA := hR.z
      have hzA' : w.heap.size + 1 < A.heap.size := by omega
      have c1 := hRA.c
      have hSA := Lib.hid hRA.set
      have hjl : j < 4294967296 := by omega
      have hwz := hR.b.size
      by_cases hle : leastE n j = j
      · have hin : inG (seenG n j) j = false := by
          unfold inG
          exact decide_eq_false (fun c => hsnj.1 c hle)
        have hlG := Lib.hid (fun A2 A3 w5 D O v' (hi : AgI w A2 w.heap.size n (seenG n j ++ (lists n n).map (onL j)) A3) (hR2 : AgR w w.heap.size n j Ds u A2) h1 h2 h3 h4 => AgR.next (w := w) (A2 := A2) (A3 := A3) (w5 := w5) (D := D) (O := O) (v' := v') (Nat.le_refl _) hR2 hi hle h1 h2 h3 h4)
        have hlen := lG_len n j
        clear hR hsnj hR1
        replace hA1 := Lib.hid hA1
        replace hRA := Lib.hid hRA
        gi_wp2_with (first
          | (gi_at_lookup; rw [← hA1.out]; refine wpListIn_graphLook rfl _ _ rfl w.heap.size n (seenG n j) rfl hSA.out j rfl hjl false hin ?_; intro c d)
          | (refine ⟨trivial, ?_⟩; gi_at_call 48; refine (callsIn_wide.2 (oo_any _ n)).mono ?_; rintro r1 A2 ⟨B, rfl, hLo⟩))
        have hLz := hLo.lt
        have hgn := hLo.gn
        have hgk := hLo.gk
        have hlb := hLo.below
        have hb12 : Below A1.heap.size A1 A2 := by (repeat (first | exact Below.refl _ _ | assumption | refine bchain (by assumption) ?_ | refine balloc ?_ _ | apply Below.drew | apply below_drewN | (refine Below.alloc ?_ (by (try simp) <;> omega) _) | (refine Below.setCell ?_ (by (try simp) <;> omega) _)))
        have hR2 := hRA.out.below hb12
        have hz12 := hb12.size
        have q0 := (hb12.cell (p := ⟨A.heap.size, 0, none⟩) (by show A.heap.size < _; omega)).trans g0
        have q1 := (hb12.cell (p := ⟨A.heap.size, 1, none⟩) (by show A.heap.size < _; omega)).trans g1
        have q2 := hR2.c
        have hS2 : GSet A2 w.heap.size n (seenG n j ++ List.map (onL j) []) := by simpa using hR2.set
        have hb2 := hR2.b
        have hAz : A.heap.size < A2.heap.size := by omega
        have hrow2 := Lib.hid (fun A3 S (hi : AgI w A2 w.heap.size n S A3) => hR2.row hi)
        replace hR2 := Lib.hid hR2
        replace hS2 := Lib.hid hS2
        clear hLo hlb hb12 g0 g1 c0 c1 hSA hRA hBA
        refine wpIn_range_own rfl (by omega) (gf := 74) (lb := #[.pointer (some ⟨B, 0, none⟩), .pointer (some ⟨B + 1, 0, none⟩)]) rfl trivial (enters_of Try.func74 (by kernel_rfl) rfl)
          (lists_own n n hn5 hn5 4 B (B + 1) A2 (by omega) hLz hgn hgk) (Below.refl _ _) rfl See.below See.cellular
          (fun Own' pre A' => (∀ b, Own' b → A2.heap.size ≤ b) ∧ AgI w A2 w.heap.size n (seenG n j ++ pre.map (onL j)) A')
          (fun _ _ _ _ => trivial)
          (fun Own' _ s A' A'' hs hc => ⟨hs.1, hs.2.chg (by omega) (by omega) hs.1 hc⟩)
          (fun Own' A' ho hA => ⟨ho, AgI.start hS2.out hb2 hA⟩)
          (fun v a' _ => a' = { tmps := #[.int .i64 n, undef, .slice none 0 0, .int .i64 0, u, .pointer (some ⟨w.heap.size + 1, 0, none⟩), .int .u32 j, .pointer (some ⟨A.heap.size, 0, none⟩), .pointer (some ⟨A.heap.size + 1, 0, none⟩), .bool false, v, .int .i64 n, .bool true, .bool false, .map (some w.heap.size), .int .i64 n, .int .u32 (M - 1 : Nat), .int .u32 M, .int .u32 j, .bool true, .int .u32 j, .int .i64 n, .int .u32 j, .agg #[.int .i64 n, .int .u32 j], .tuple #[.agg #[.int .i64 c, .int .u32 d], .bool false], .map (some w.heap.size), .agg #[.int .i64 n, .int .u32 j], .tuple #[.agg #[.int .i64 c, .int .u32 d], .bool false], .agg #[.int .i64 c, .int .u32 d], .bool false, .bool false, .int .i64 n, .func (.func 74) #[] #[.pointer (some ⟨B, 0, none⟩), .pointer (some ⟨B + 1, 0, none⟩)], v, u34, u35, u36, u37, u38, u39, u40, u41, u42, u43, u44], defers := [] })
          (fun _ _ _ _ _ _ h _ _ => h) ?assign ?body ?done
        case assign =>
          intro l' x v A' K hv hK
          gi_wp2
          exact hK _ _ (Below.refl _ _) rfl
        case body =>
          rintro l' Own' pre x rest v a' A' ho hL ⟨hoo, hi'⟩ hSv rfl
          have hok := lists_ok hn5 hn5 (x := x) (by rw [hL]; simp)
          have hOn := Lib.hid (ionL_any A'.drew v x n n j hSv hn5 hjl hok)
          have hzl := onL_lt j x (by rw [ok_length hok]; exact hn5)
          have hmap : seenG n j ++ pre.map (onL j) ++ [onL j x] = seenG n j ++ (pre ++ [x]).map (onL j) := by simp
          obtain ⟨z, hz⟩ : ∃ z, onL j x = z := ⟨_, rfl⟩
          rw [hz] at hOn hzl hmap
          have hput := Lib.hid (fun w3 (hb : Below A'.drew.heap.size A'.drew w3) => (hi'.set.below ((Below.refl _ A').drew.trans hb)).store z (by omega) n j)
          have hA2' := hi'.g.size
          have e0 := (World.cell?_of_block (a := ⟨A.heap.size, 0, none⟩) (hi'.g.block A.heap.size hAz (by intro c; injection c with c; omega))).trans q0
          have e1 := (World.cell?_of_block (a := ⟨A.heap.size, 1, none⟩) (hi'.g.block A.heap.size hAz (by intro c; injection c with c; omega))).trans q1
          have e2 := (World.cell?_of_block (a := ⟨w.heap.size + 1, 0, none⟩) (hi'.g.block (w.heap.size + 1) (by omega) (by intro c; injection c with c; omega))).trans q2
          have hfin := Lib.hid (fun (w3 w4 : World) (a4 : Act) (hb : Below A'.drew.heap.size A'.drew w3) (hg : w3.grownBy w4 (some w.heap.size)) (hS4 : GSet w4 w.heap.size n (seenG n j ++ pre.map (onL j) ++ [z])) =>
            (show ownPost Own' (fun pre A' => (∀ b, Own' b → A2.heap.size ≤ b) ∧ AgI w A2 w.heap.size n (seenG n j ++ pre.map (onL j)) A') (pre ++ [x]) A' .normal a4 w4 from
              have hb' : Below A'.heap.size A' w3 := (Below.refl _ A').drew.trans hb
              ⟨Nat.le_trans hb'.size hg.size, fun b hb2 => (hg.block b (Nat.lt_of_lt_of_le (ho b hb2).2 hb'.size) (by intro c; injection c with c; have := hoo b hb2; omega)).trans (hb'.block b (ho b hb2).2), hoo, hi'.put (Nat.le_refl _) hb' hg (by rw [← hmap]; exact hS4)⟩))
          have hzA3 : A.heap.size < A'.drew.heap.size := by show A.heap.size < A'.heap.size; omega
          have hzw3 : w.heap.size + 1 < A'.drew.heap.size := by show w.heap.size + 1 < A'.heap.size; omega
          clear hi' hL hok hmap hz hSv
          clear hem0 hM hMe hem hlt hjl hwz hzA hzA' hle hin hlen hLz hgn hgk hz12 q0 q1 q2 hb2 hAz ho hoo hzl hA2' hA1z hj hn5 hi hz0 hz1 hz2 hsk hsn hlG hR2 hS2 hrow2
          have hput' := Lib.hid (fun w3 (hb : Below A'.drew.heap.size A'.drew w3) =>
            (show ∃ w4, (Instr.mapUpdate 63 (.map (some w.heap.size)) (.agg #[.int .i64 n, .int .u32 z]) (.agg #[.int .i64 n, .int .u32 j])).run Try.prog w3 = .ok () w4 ∧ (∃ w3, Below A'.drew.heap.size A'.drew w3 ∧ GSet w4 w.heap.size n (seenG n j ++ pre.map (onL j) ++ [z]) ∧ w3.grownBy w4 (some w.heap.size)) from by
              obtain ⟨w4, h1, h2, h3⟩ := hput.out w3 hb
              exact ⟨w4, h1, w3, hb, h2, h3⟩))
          have hQ := Lib.hid (fun a4 w4 (h : ∃ w3, Below A'.drew.heap.size A'.drew w3 ∧ GSet w4 w.heap.size n (seenG n j ++ pre.map (onL j) ++ [z]) ∧ w3.grownBy w4 (some w.heap.size)) => by
            obtain ⟨w3, h1, h2, h3⟩ := h
            exact hfin.out w3 w4 a4 h1 h3 h2)
          clear hput hfin
          gi_wp2
          exact ag_body l' _ n j z (w.heap.size + 1) A.heap.size w.heap.size v A' _ _ _ _ _ _ _ _ _ _ _ _ _ _ _ _ _ _ _ _ _ _ _ _ _ _ _ _ _ _ _ _ _ _ _ _ _ _ _ _ _ _ _ _ hOn hput' e0 e1 e2 hQ
        case done =>
          rintro D Own' A3 hD ⟨hoo, hi3⟩ hK hOD
          have hrow := Lib.hid (hrow2.out A3 _ hi3)
          have hz3 := hi3.g.size
          have e0 := (World.cell?_of_block (a := ⟨A.heap.size, 0, none⟩) (hi3.g.block A.heap.size hAz (by intro c; injection c with c; omega))).trans q0
          have e1 := (World.cell?_of_block (a := ⟨A.heap.size, 1, none⟩) (hi3.g.block A.heap.size hAz (by intro c; injection c with c; omega))).trans q1
          have hnxt := Lib.hid (fun O w5 v' h1 h2 => hlG.out A2 A3 w5 D O v' hi3 hR2.out hD hK h1 h2)
          clear hi3 hK hoo
          gi_wp2_with (gi_at_builtin; refine wpListIn_append_own _ rfl _ _ 24 rfl (w.heap.size + 2) 36 i0 (.agg #[.int .i64 0, .int .u32 0]) 2 16 Try.underlying24 hi.out hz0.out hz1.out hz2.out rfl (by decide) _ _ _ rfl (hrow.out.alloc _) ⟨A3.heap.size, 0, none⟩ 1 1 [.int .i64 n, .int .u32 j] rfl rfl (fun q u hq => by match q, hq with
            | 0, hq => simp at hq; subst hq; rw [show (⟨A3.heap.size, 0, none⟩ : Addr).add 0 = ⟨A3.heap.size, 0, none⟩ from rfl, World.cell?_alloc_new]; rfl
            | 1, hq => simp at hq; subst hq; rw [show (⟨A3.heap.size, 0, none⟩ : Addr).add 1 = ⟨A3.heap.size, 1, none⟩ from rfl, World.cell?_alloc_new]; rfl
            | q + 2, hq => simp at hq) (fun u hu => by simp at hu; rcases hu with rfl | rfl <;> rfl) (by unfold maxLen; omega) (by omega) (by simp; omega) ?_; intro v' w5 hown' hgrow _)
          have hR5 := Lib.hid (hnxt.out _ w5 v' hown' hgrow)
          clear hown' hgrow
          refine ⟨⟨j + 1, D :: Ds, v', _, _, _, _, _, _, _, _, _, _, _, _, _, _, _, _, _, _, _, _, _, _, _, _, _, _, _, _, _, _, _, rfl, by omega, hR5.out⟩, ?_⟩
          simp [intOf]
          omega
      · have hin : inG (seenG n j) j = true := by
          unfold inG
          exact decide_eq_true (hsnj.2 hle)
        have hnx := Lib.hid (fun (A' : World) (hb : Below A1.heap.size A1 A') => (hRA.below hb).skip hle)
        clear hR hRA hsnj hR1
        replace hA1 := Lib.hid hA1
        gi_wp2_with (gi_at_lookup; rw [← hA1.out]; refine wpListIn_graphLook rfl _ _ rfl w.heap.size n (seenG n j) rfl hSA.out j rfl hjl true hin ?_; intro c d)
        refine ⟨⟨j + 1, Ds, u, _, _, _, _, _, _, _, _, _, _, _, _, _, _, _, _, _, _, _, _, _, _, _, _, _, _, _, _, _, _, _, rfl, by omega, hnx.out _ (by (repeat (first | exact Below.refl _ _ | assumption | refine bchain (by assumption) ?_ | refine balloc ?_ _ | apply Below.drew | apply below_drewN | (refine Below.alloc ?_ (by (try simp) <;> omega) _) | (refine Below.setCell ?_ (by (try simp) <;> omega) _))))⟩, ?_⟩
        simp [intOf]
        omega
    · obtain rfl : j = M := by omega
      have hdd := decide_eq_false (show ¬ ((j : Int) < (j : Int)) by omega)
      have hne := hR.ne
      have hdd2 : ∀ D ∈ Ds, A.heap[D]? = some (.deferred (some [])) := fun D hD => (hR.ds D hD).2.2
      have hge : ∀ D ∈ Ds, w.heap.size ≤ D := fun D hD => (hR.ds D hD).1
      have hnd := hR.nd
      have hT : A.ownsRow (w.heap.size + 2) 36 2 u (lG n j).length (gsC (lG n j)) ∧ Below w.heap.size w A := ⟨hR.own, hR.b⟩
      clear hR hR1
      replace hT := Lib.hid hT
      replace hne := Lib.hid hne
      replace hdd2 := Lib.hid hdd2
      replace hge := Lib.hid hge
      gi_wp2
      exact leaves_marks (fun A => A.ownsRow (w.heap.size + 2) 36 2 u (lG n j).length (gsC (lG n j)) ∧ Below w.heap.size w A)
        (fun A' hA' => ⟨.tuple #[u, .int .i64 0], by simp [results, Try.results19, go_sem], ⟨u, rfl, ownG_of_row hA'.1 (by omega)⟩, hA'.2⟩) Ds A hnd hdd2.out
        (fun D hD A' hA' => ⟨hA'.1.kept (grownBy_putObj' _ D (.deferred none)) (.inr (hne.out D hD)), hA'.2.trans (below_putObj _ _ _ (hge.out D hD))⟩) hT.out
end
end Go.Proofs.Ytmbjhncgdmbpaaa
