/-
  THE OPPOSITE PATTERN: the program's contract and the model's; a list of fractions copied by either.
-/
import Derived.Test.YtfnjgdocmfmfgaaPcs
import Derived.Test.YtfnjgdocmfmfgaaOpp
import Derived.Deep.RegionHeld3
import Derived.Deep.OwnRows
import Derived.Lib.SliceRun
import Derived.Lib.BufferMore
namespace Go.Proofs.Ytfnjgdocmfmfgaa
open Go.RowKit
set_option maxRecDepth 100000
theorem addN (b off q : Nat) : (⟨b, off, none⟩ : Addr).add q = ⟨b, off + q, none⟩ := by
  unfold Addr.add
  split
  · next h => subst h; rfl
  · rfl
theorem fsC_one {gs : List (Int × Int)} : ∀ u ∈ fsC gs, u.oneCell' = true := fun u hu => by
  unfold fsC at hu
  rw [List.mem_flatMap] at hu
  obtain ⟨g, _, hg⟩ := hu
  simp at hg
  rcases hg with rfl | rfl <;> rfl
theorem fsC_src {w : World} {b off : Nat} {gs : List (Int × Int)} (h : ∀ i, i < gs.length → Fr.GCell w b off (Fr.gAt gs i) i) : ∀ j u, (fsC gs)[j]? = some u → w.cell? ((⟨b, off, none⟩ : Addr).add j) = some u := fun j u hj => by
  have hl : j < gs.length * 2 := by
    rw [← fsC_length]
    exact (List.getElem?_eq_some_iff.1 hj).1
  obtain ⟨q, hq⟩ : ∃ q, q = j / 2 := ⟨_, rfl⟩
  have hql : q < gs.length := by omega
  obtain ⟨c0, c1⟩ := h q hql
  obtain ⟨g0, g1⟩ := fsC_get gs q hql
  have hcase : j = q * 2 ∨ j = q * 2 + 1 := by omega
  rcases hcase with rfl | rfl
  · rw [g0] at hj
    rw [← hj]
    rw [addN]
    exact c0
  · rw [g1] at hj
    rw [← hj]
    rw [addN]
    exact c1
theorem step_append_ownP {P : Program} {ops : Array Oper} {o : Oper} {a : Act} {w : World} {K : Act → World → Prop} {Q : Exit → Act → World → Prop} {E : Prop}
    (hg : o.guard = none) (s x : Operand) (t : TypeId) (hop : o.op = Op.call { callee := Callee.builtin Builtin.append, args := #[s, x], argTypes := #[t, t] })
    (base : Nat) (e : TypeId) (i : TypeInfo) (z : Value) (size bytes : Nat) (h1 : P.underlying t = some (.slice e)) (h2 : P.info? e = some i) (h3 : i.zero = some z) (h4 : i.size = size) (h5 : i.bytes = bytes) (h6 : z.cells.size = size) (h7 : 0 < size)
    (v : Value) (n : Nat) (xs : List Value) (hs : a.eval s = v) (hown : w.ownsRow base e size v n xs)
    (ad : Addr) (m c : Nat) (news : List Value) (hx : a.eval x = .slice (some ad) m c) (hn : news.length = m * size) (hc : ∀ j u, news[j]? = some u → w.cell? (ad.add j) = some u) (h1c : ∀ u ∈ news, u.oneCell' = true)
    (b1 : n + m ≤ maxLen) (b2 : (n + m) * bytes ≤ 140737488355328) (b3 : base ≤ w.heap.size)
    (hK : ∀ v' w', w'.ownsRow base e size v' (n + m) (xs ++ news) → w.grownBy w' v.ownBlock → K (a.put o.dst v') w') :
    if Region.wanted o (yielded ops a.tmps) = true then Oper.wp P o a w K Q else E := by
  have hw : Region.wanted o (yielded ops a.tmps) = true := by simp [Region.wanted, hg]
  rw [if_pos hw]
  obtain ⟨v', w', hrun, r1, r2, _⟩ := run_append_own (P := P) w base t o.type e i z size bytes h1 h2 h3 h4 h5 h6 h7 v n xs hown ad m c news hn hc h1c b1 b2 b3
  unfold Oper.wp
  simp [execOp, hop, resolve, invoke, builtin, hs, hx, hrun, Result.andThen]
  exact hK v' w' r1 r2
theorem keep4 {W : World} {B : Nat} {a : Addr} {v : Value} (h : W.cell? a = some v) (hn : B ≠ a.block) (v0 v1 v2 v3 : Value) : ((((W.setCell ⟨B, 0, none⟩ v0).setCell ⟨B, 1, none⟩ v1).setCell ⟨B, 2, none⟩ v2).setCell ⟨B, 3, none⟩ v3).cell? a = some v := by
  have hs : ∀ (A : World) (i : Nat) (u : Value), A.cell? a = some v → (A.setCell ⟨B, i, none⟩ u).cell? a = some v := fun A i u hA => (World.cell?_setCell_other _ _ _ _ (fun c => hn (by rw [← c]))).trans hA
  exact hs _ _ _ (hs _ _ _ (hs _ _ _ (hs _ _ _ h)))
theorem info_frac : (Try.prog.info? 66).map (fun i => (i.zero, i.size, i.bytes)) = some (some (.agg #[.int .i64 0, .int .i64 0]), 2, 16) := by kernel_rfl
section
variable (w : World)
set_option maxHeartbeats 1000000 in
theorem clF_any (b off cap : Nat) (gs : List (Int × Int)) (hl : gs.length ≤ 1048576) (hb : b < w.heap.size) (hc : ∀ i, i < gs.length → Fr.GCell w b off (Fr.gAt gs i) i) :
    Calls Try.prog 69 #[.slice (some ⟨b, off, none⟩) gs.length cap] w fun r w' => (∃ u, r = .returned u ∧ OwnF w w' u gs) ∧ Below w.heap.size w w' := by
  obtain ⟨i0, hi, hz0, hz1, hz2⟩ := info_parts info_frac
  have hsrc : ∀ q u, (fsC gs)[q]? = some u → (w.alloc (.cells #[] 66)).cell? ((⟨b, off, none⟩ : Addr).add q) = some u := fun q u hq => by
    have h := fsC_src hc q u hq
    exact ((balloc (Below.refl w.heap.size w) (.cells #[] 66)).cell (p := (⟨b, off, none⟩ : Addr).add q) (by rw [addN]; exact hb)).trans h
  replace hsrc := Lib.hid hsrc
  have hnil : ∀ W, (binOp .eql 31 (.slice (some ⟨b, off, none⟩) gs.length cap) (.slice none 0 0)).run Try.prog W = .ok (.bool false) W := fun W => Lib.run_eql_slice_some_nil W _ _ _ Try.underlying31
  replace hi := Lib.hid hi
  replace hz0 := Lib.hid hz0
  replace hz1 := Lib.hid hz1
  replace hz2 := Lib.hid hz2
  clear hc hb
  go_enter Try.func69, Try.ntmps69
  go_wp2_with (at_builtin; refine wpList_append_own _ rfl _ _ 31 rfl w.heap.size 66 i0 (.agg #[.int .i64 0, .int .i64 0]) 2 16 Try.underlying31 hi.out hz0.out hz1.out hz2.out rfl (by decide) _ _ _ rfl (World.ownsRow_made w #[] 0 (Nat.le_refl _) (by omega) rfl) ⟨b, off, none⟩ gs.length cap (fsC gs) rfl (fsC_length gs) hsrc.out fsC_one (by unfold maxLen; omega) (by omega) (by simp) ?_; intro v' w1 hown' hgrow _)
  have hb2 : Below w.heap.size w w1 := ((Below.refl _ w).alloc (Nat.le_refl _) _).grown hgrow (by simp) (fun k hk => by cases hk; exact Nat.le_refl _)
  rw [Nat.zero_add] at hown'
  replace hown' := Lib.hid hown'
  clear hgrow
  go_wp2
  go_ret
  exact ⟨⟨_, rfl, ownF_of_row hown'.out (Nat.le_refl _)⟩, hb2⟩
set_option maxHeartbeats 2000000 in
/-- the model's copy of a pattern -/
theorem l7c_any (X : PM) (b off cap : Nat) (G : Nat) (k0 : PB w G X.n X.e X.s (.slice (some ⟨b, off, none⟩) X.ts.length cap)) (hm : X.ts.length ≤ 1048576) (hb : b < w.heap.size) (hc : ∀ i, i < X.ts.length → Fr.GCell w b off (Fr.gAt X.ts i) i) :
    Calls Try.prog 65 #[.pointer (some ⟨G, 0, none⟩)] w fun r w' => (∃ u, r = .returned (.agg #[.int .i64 X.n, .int .u32 X.e, .int .u32 X.s, u]) ∧ OwnF w w' u X.ts) ∧ Below w.heap.size w w' := by
  obtain ⟨n, e, s, ts⟩ := X
  dsimp only at k0 hm hc ⊢
  obtain ⟨i0, hi, hz0, hz1, hz2⟩ := info_parts info_frac
  obtain ⟨W0, hW0⟩ : ∃ W0, W0 = w.alloc (.cells #[.int .i64 0, .int .u32 0, .int .u32 0, .slice none 0 0] 33) := ⟨_, rfl⟩
  have hB0 : Below w.heap.size w W0 := by rw [hW0]; (repeat (first | exact Below.refl _ _ | assumption | refine bchain (by assumption) ?_ | refine balloc ?_ _ | apply Below.drew | apply below_drewN | (refine Below.alloc ?_ (by (try simp) <;> omega) _) | (refine Below.setCell ?_ (by (try simp) <;> omega) _)))
  have k1 : PB W0 w.heap.size 0 0 0 (.slice none 0 0) := by rw [hW0]; exact PB.made w 0 0 0 _ _
  have kw := Lib.hid k0
  replace k0 := k0.below hB0
  have hsrc : ∀ q u, (fsC ts)[q]? = some u → (W0.drew.alloc (.cells #[] 66)).cell? ((⟨b, off, none⟩ : Addr).add q) = some u := fun q u hq => by
    have h := fsC_src hc q u hq
    exact ((balloc (Below.refl W0.drew.heap.size W0.drew) (.cells #[] 66)).cell (p := (⟨b, off, none⟩ : Addr).add q) (by have := hB0.size; rw [addN]; show b < W0.heap.size; omega)).trans ((hB0.cell (p := (⟨b, off, none⟩ : Addr).add q) (by rw [addN]; exact hb)).trans h)
  replace hsrc := Lib.hid hsrc
  have hzW := hB0.size
  have k1z := k1.lt
  replace hW0 := Lib.hid hW0
  replace hi := Lib.hid hi
  replace hz0 := Lib.hid hz0
  replace hz1 := Lib.hid hz1
  replace hz2 := Lib.hid hz2
  replace k1 := Lib.hid k1
  obtain ⟨_, x0, x1, x2, x3, _⟩ := id k0
  clear hc hb
  go_enter Try.func65, Try.ntmps65
  go_wp2_with fail
  rw [← hW0.out]
  go_region_held3 (fun A => A.cell? ⟨G, 0, none⟩ = some (.int .i64 n) ∧ A.cell? ⟨G, 1, none⟩ = some (.int .u32 e) ∧ A.cell? ⟨G, 2, none⟩ = some (.int .u32 s) ∧ A.cell? ⟨G, 3, none⟩ = some (.slice (some ⟨b, off, none⟩) ts.length cap))
    (exact ⟨(kw.out.below (by (repeat (first | exact Below.refl _ _ | assumption | refine bchain (by assumption) ?_ | refine balloc ?_ _ | apply Below.drew | apply below_drewN | (refine Below.alloc ?_ (by (try simp) <;> omega) _) | (refine Below.setCell ?_ (by (try simp) <;> omega) _))))).c0, (kw.out.below (by (repeat (first | exact Below.refl _ _ | assumption | refine bchain (by assumption) ?_ | refine balloc ?_ _ | apply Below.drew | apply below_drewN | (refine Below.alloc ?_ (by (try simp) <;> omega) _) | (refine Below.setCell ?_ (by (try simp) <;> omega) _))))).c1, (kw.out.below (by (repeat (first | exact Below.refl _ _ | assumption | refine bchain (by assumption) ?_ | refine balloc ?_ _ | apply Below.drew | apply below_drewN | (refine Below.alloc ?_ (by (try simp) <;> omega) _) | (refine Below.setCell ?_ (by (try simp) <;> omega) _))))).c2, (kw.out.below (by (repeat (first | exact Below.refl _ _ | assumption | refine bchain (by assumption) ?_ | refine balloc ?_ _ | apply Below.drew | apply below_drewN | (refine Below.alloc ?_ (by (try simp) <;> omega) _) | (refine Below.setCell ?_ (by (try simp) <;> omega) _))))).c3⟩)
    (first | (refine step_append_ownP rfl _ _ 31 rfl W0.heap.size 66 i0 (.agg #[.int .i64 0, .int .i64 0]) 2 16 Try.underlying31 hi.out hz0.out hz1.out hz2.out rfl (by decide) _ _ _ rfl (World.ownsRow_made W0.drew #[] 0 (Nat.le_refl _) (by omega) rfl) ⟨b, off, none⟩ ts.length cap (fsC ts) rfl (fsC_length ts) hsrc.out fsC_one (by unfold maxLen; omega) (by omega) (by simp) ?_; intro v' w1 hown' hgrow; rw [Nat.zero_add, List.nil_append] at hown'; have hU := Lib.hid (ownF_of_row (w0 := W0) hown' (Nat.le_refl _)); obtain ⟨av, cv, rfl, _⟩ := id hU.out; have hb2 : Below W0.heap.size W0 w1 := (((Below.refl _ W0).alloc (Nat.le_refl _) _).drew).grown hgrow (by simp) (fun k hk => by cases hk; exact Nat.le_refl _); obtain ⟨_, z0, z1, z2, z3, fz⟩ := k1.out.below hb2; clear hown' hgrow))
  have hsb := k1.out.below hb2
  have hbw := bchain hb2 hB0
  have hown := hU.out
  have hz5 := k1z
  have hw5 := hzW
  clear x0 x1 x2 x3 z0 z1 z2 z3 fz hU
  go_wp2
  have hF := hsb.all (n) (e) (s) (.slice av ts.length cv)
  have hBB := ((((hbw.setCell (p := ⟨w.heap.size, 0, none⟩) (by show w.heap.size ≤ w.heap.size; omega) (.int .i64 (n))).setCell (p := ⟨w.heap.size, 1, none⟩) (by show w.heap.size ≤ w.heap.size; omega) (.int .u32 (e))).setCell (p := ⟨w.heap.size, 2, none⟩) (by show w.heap.size ≤ w.heap.size; omega) (.int .u32 (s))).setCell (p := ⟨w.heap.size, 3, none⟩) (by show w.heap.size ≤ w.heap.size; omega) (.slice av ts.length cv))
  obtain ⟨WW, hWW⟩ : ∃ WW, WW = ((((w1.setCell ⟨w.heap.size, 0, none⟩ (.int .i64 (n))).setCell ⟨w.heap.size, 1, none⟩ (.int .u32 (e))).setCell ⟨w.heap.size, 2, none⟩ (.int .u32 (s))).setCell ⟨w.heap.size, 3, none⟩ (.slice av ts.length cv)) := ⟨_, rfl⟩
  have hOW := OwnF.four hown hz5 hw5 (.int .i64 (n)) (.int .u32 (e)) (.int .u32 (s)) (.slice av ts.length cv)
  rw [← hWW] at hF hBB hOW ⊢
  clear hWW
  obtain ⟨_, hF0, hF1, hF2, hF3, _⟩ := hF
  exact bodyPost_ret (v := .agg #[.int .i64 (n), .int .u32 (e), .int .u32 (s), .slice av ts.length cv]) (by simp [results, Try.results65, go_sem, hF0, hF1, hF2, hF3]) rfl ⟨⟨_, rfl, hOW⟩, hBB⟩
/-- a pattern that is handed back behind an error -/
theorem xor_comm (k : Nat) (hk : k ≤ 4) (s : Int) (h0 : 0 ≤ s) (h1 : s < 4294967296) : ∃ x : Int, bits .xor .u32 s ((2 ^ k - 1 : Nat) : Int) = x ∧ bits .xor .u32 ((2 ^ k - 1 : Nat) : Int) s = x := by
  obtain ⟨S, rfl⟩ : ∃ S : Nat, s = S := ⟨s.toNat, by omega⟩
  have hp : 2 ^ k ≤ 2 ^ 4 := Nat.pow_le_pow_right (by omega) hk
  exact ⟨_, rfl, by rw [u32_xor_nat S _ (by omega) (by omega), u32_xor_nat _ S (by omega) (by omega), Nat.xor_comm]⟩
set_option maxHeartbeats 2000000 in
theorem iop_ok (X : PM) (b off cap : Nat) (hS : Fr.SlG w (.slice (some ⟨b, off, none⟩) X.ts.length cap) X.ts) (hbd : BdP X) (hv : VPat X) (hb : b < w.heap.size) (hc : ∀ i, i < X.ts.length → Fr.GCell w b off (Fr.gAt X.ts i) i) (m f c x : Int) (hx : bits .xor .u32 X.s ((2 ^ X.n.toNat - 1 : Nat) : Int) = x)
    (hO : ∀ W, Calls Try.prog 67 #[.agg #[.int .i64 X.n, .int .u32 X.e]] W fun r w' => r = .returned (.tuple #[.agg #[.int .i64 m, .int .u32 f], .int .i64 c]) ∧ Below W.heap.size W w') :
    Calls Try.prog 28 #[.agg #[.int .i64 X.n, .int .u32 X.e, .int .u32 X.s, .slice (some ⟨b, off, none⟩) X.ts.length cap]] w (RetP w ⟨m, f, x, X.ts⟩ 0) := by
  have hV := Lib.hid (fun W (hB : Below w.heap.size w W) => ivp_any W X _ (hS.below hB) hbd true ⟨fun _ => hv, fun _ => rfl⟩)
  have hm : X.ts.length ≤ 4 := by
    have h1 := hv.2.1
    have h2 := hv.2.2.1
    unfold hpB at h1
    rw [decide_eq_true_iff] at h1
    omega
  have hn : 1 ≤ X.n ∧ X.n ≤ 4 := by
    have h1 := hv.2.1
    unfold hpB at h1
    rw [decide_eq_true_iff] at h1
    exact ⟨h1.1, h1.2.1⟩
  obtain ⟨n, e, s, ts⟩ := X
  unfold RetP
  dsimp only at *
  obtain ⟨k, rfl⟩ : ∃ k : Nat, n = k := ⟨n.toNat, by omega⟩
  rw [Int.toNat_natCast] at hx
  have hAl := Lib.hid (fun W => al_any W k (by omega))
  have hCl := Lib.hid (fun W (hB : Below w.heap.size w W) => clF_any W b off cap ts (by omega) (by have := hB.size; omega) (fun i hi => ⟨(hB.cell (p := ⟨b, _, none⟩) hb).trans (hc i hi).1, (hB.cell (p := ⟨b, _, none⟩) hb).trans (hc i hi).2⟩))
  replace hO := Lib.hid hO
  obtain ⟨W0, hW0⟩ : ∃ W0, W0 = (w.alloc (.cells #[.int .i64 k, .int .u32 e, .int .u32 s, .slice (some ⟨b, off, none⟩) ts.length cap] 33)).alloc (.cells #[.int .i64 0, .int .u32 0, .int .u32 0, .slice none 0 0] 33) := ⟨_, rfl⟩
  have hB0 : Below w.heap.size w W0 := by rw [hW0]; (repeat (first | exact Below.refl _ _ | assumption | refine bchain (by assumption) ?_ | refine balloc ?_ _ | apply Below.drew | apply below_drewN | (refine Below.alloc ?_ (by (try simp) <;> omega) _) | (refine Below.setCell ?_ (by (try simp) <;> omega) _)))
  have sz : (w.alloc (.cells #[.int .i64 k, .int .u32 e, .int .u32 s, .slice (some ⟨b, off, none⟩) ts.length cap] 33)).heap.size = w.heap.size + 1 := by simp
  have k0 : PB W0 w.heap.size k e s (.slice (some ⟨b, off, none⟩) ts.length cap) := by rw [hW0]; exact (PB.made w _ _ _ _ _).below (balloc (Below.refl _ _) _)
  have k1 : PB W0 (w.heap.size + 1) 0 0 0 (.slice none 0 0) := by rw [hW0, ← sz]; exact PB.made _ 0 0 0 _ _
  replace hW0 := Lib.hid hW0
  clear sz hS hbd hv hc hb
  obtain ⟨_, x0, x1, x2, x3, _⟩ := id k0
  go_enter Try.func28, Try.ntmps28
  go_wp2_with fail
  rw [← hW0.out]
  go_wp2_with fail
  refine (hV.out _ hB0).mono ?_
  rintro r1 w1 ⟨rfl, hb1⟩
  replace k0 := k0.below hb1
  replace k1 := k1.below hb1
  replace hB0 := bchain hb1 hB0
  clear x0 x1 x2 x3 hb1
  obtain ⟨_, x0, x1, x2, x3, _⟩ := id k0
  go_wp2_with fail
  refine (hO.out _).mono ?_
  rintro r2 w2 ⟨rfl, hb2⟩
  replace k0 := k0.below hb2
  replace k1 := k1.below hb2
  replace hB0 := bchain hb2 hB0
  clear x0 x1 x2 x3 hb2
  obtain ⟨W5, hW5⟩ : ∃ W5, W5 = w2.alloc (.cells #[.int .i64 m, .int .u32 f] 30) := ⟨_, rfl⟩
  have bX : Below w2.heap.size w2 W5 := by rw [hW5]; exact balloc (Below.refl _ _) _
  have zX : w2.heap.size < W5.heap.size := by rw [hW5]; simp
  have g0 : W5.cell? ⟨w2.heap.size, 0, none⟩ = some (.int .i64 m) := by rw [hW5, World.cell?_alloc_new]; rfl
  have g1 : W5.cell? ⟨w2.heap.size, 1, none⟩ = some (.int .u32 f) := by rw [hW5, World.cell?_alloc_new]; rfl
  have hB5 := bchain bX hB0
  have k05 := Lib.hid (k0.below bX)
  have k15 := Lib.hid (k1.below bX)
  have hnA : w.heap.size + 1 ≠ w.heap.size := by omega
  have hne1 : w.heap.size + 1 ≠ w2.heap.size := by have := k1.lt; omega
  replace hW5 := Lib.hid hW5
  clear bX k0 k1 hB0
  obtain ⟨_, x0, x1, x2, x3, _⟩ := id k05.out
  go_wp2_with fail
  rw [← hW5.out]
  go_region_held3 (fun A => (A.cell? ⟨w.heap.size, 0, none⟩ = some (.int .i64 k) ∧ A.cell? ⟨w.heap.size, 1, none⟩ = some (.int .u32 e) ∧ A.cell? ⟨w.heap.size, 2, none⟩ = some (.int .u32 s) ∧ A.cell? ⟨w.heap.size, 3, none⟩ = some (.slice (some ⟨b, off, none⟩) ts.length cap)) ∧ A.cell? ⟨w2.heap.size, 0, none⟩ = some (.int .i64 m) ∧ A.cell? ⟨w2.heap.size, 1, none⟩ = some (.int .u32 f))
    (first | (with_reducible exact ⟨⟨x0, x1, x2, x3⟩, g0, g1⟩) | (with_reducible exact ⟨⟨y0, y1, y2, y3⟩, y4, y5⟩) | (with_reducible exact ⟨⟨keep4 y0 hnA _ _ _ _, keep4 y1 hnA _ _ _ _, keep4 y2 hnA _ _ _ _, keep4 y3 hnA _ _ _ _⟩, keep4 y4 hne1 _ _ _ _, keep4 y5 hne1 _ _ _ _⟩) | (exact ⟨⟨x0, x1, x2, x3⟩, g0, g1⟩))
    (first
    | (go_at_call 68; refine (hAl.out _).mono ?_; rintro r3 w3 ⟨rfl, rfl⟩; try rw [hx])
    | (go_at_call 69; refine (hCl.out _ (bchain (by (repeat (first | exact Below.refl _ _ | assumption | refine bchain (by assumption) ?_ | refine balloc ?_ _ | apply Below.drew | apply below_drewN | (refine Below.alloc ?_ (by (try simp) <;> omega) _) | (refine Below.setCell ?_ (by (try simp) <;> omega) _)))) hB5)).mono ?_; rintro r4 w4 ⟨⟨u4, rfl, hU⟩, hb4⟩; have hU5 := Lib.hid hU; obtain ⟨av, cv, rfl, _⟩ := id hU; have hb54 : Below W5.heap.size W5 w4 := bchain hb4 (Below.refl _ W5).drew; obtain ⟨_, z0, z1, z2, z3, fz⟩ := k15.out.below hb54; obtain ⟨_, y0, y1, y2, y3, _⟩ := k05.out.below hb54; have y4 := (hb54.cell (p := ⟨w2.heap.size, 0, none⟩) zX).trans g0; have y5 := (hb54.cell (p := ⟨w2.heap.size, 1, none⟩) zX).trans g1; clear hU))
  have hsb := k15.out.below hb54
  have hbw := bchain hb54 hB5
  have hown : OwnF W5 w4 (.slice av ts.length cv) ts := hU5.out
  have hz5 : w.heap.size + 1 < W5.heap.size := k15.out.lt
  have hw5 : w.heap.size ≤ W5.heap.size := hB5.size
  clear x0 x1 x2 x3 y0 y1 y2 y3 y4 y5 z0 z1 z2 z3 fz hU5 g0 g1
  go_wp2
  have hF := hsb.all (m) (f) (x) (.slice av ts.length cv)
  have hBB := ((((hbw.setCell (p := ⟨w.heap.size + 1, 0, none⟩) (by show w.heap.size ≤ w.heap.size + 1; omega) (.int .i64 (m))).setCell (p := ⟨w.heap.size + 1, 1, none⟩) (by show w.heap.size ≤ w.heap.size + 1; omega) (.int .u32 (f))).setCell (p := ⟨w.heap.size + 1, 2, none⟩) (by show w.heap.size ≤ w.heap.size + 1; omega) (.int .u32 (x))).setCell (p := ⟨w.heap.size + 1, 3, none⟩) (by show w.heap.size ≤ w.heap.size + 1; omega) (.slice av ts.length cv))
  obtain ⟨WW, hWW⟩ : ∃ WW, WW = ((((w4.setCell ⟨w.heap.size + 1, 0, none⟩ (.int .i64 (m))).setCell ⟨w.heap.size + 1, 1, none⟩ (.int .u32 (f))).setCell ⟨w.heap.size + 1, 2, none⟩ (.int .u32 (x))).setCell ⟨w.heap.size + 1, 3, none⟩ (.slice av ts.length cv)) := ⟨_, rfl⟩
  have hOW := OwnF.four hown hz5 hw5 (.int .i64 (m)) (.int .u32 (f)) (.int .u32 (x)) (.slice av ts.length cv)
  rw [← hWW] at hF hBB hOW ⊢
  clear hWW
  obtain ⟨_, hF0, hF1, hF2, hF3, _⟩ := hF
  exact bodyPost_ret (v := .tuple #[.agg #[.int .i64 (m), .int .u32 (f), .int .u32 (x), .slice av ts.length cv], .int .i64 0]) (by simp [results, Try.results28, go_sem, hF0, hF1, hF2, hF3]) rfl ⟨⟨_, rfl, hOW⟩, hBB⟩
end
end Go.Proofs.Ytfnjgdocmfmfgaa
