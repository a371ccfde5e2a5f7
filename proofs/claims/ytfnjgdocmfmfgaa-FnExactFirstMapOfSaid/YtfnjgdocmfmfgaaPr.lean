/-
  A LIST OF SO MANY EQUAL FRACTIONS: slices.Repeat.
-/
import Derived.Test.YtfnjgdocmfmfgaaPo
import Derived.Laws.IdiomCopy
import Derived.Laws.CopyOwn
import Derived.Deep.RegionLaw
namespace Go.Proofs.Ytfnjgdocmfmfgaa
open Go.RowKit
set_option maxRecDepth 100000
/-- copying elements of two cells -/
theorem run_copy_two {P : Program} (w : World) (dT sT ty elem : TypeId) (b o dLen dCap : Nat) (a : Addr) (sLen sCap : Nat) (cs : List Value)
    (hu : P.underlying dT = some (.slice elem)) (hs : (P.info? elem).map (·.size) = some 2) (hn : cs.length = Nat.min sLen dLen * 2)
    (hsrc : ∀ j v, cs[j]? = some v → w.cell? (a.add j) = some v) (hc : ∀ j, j < cs.length → (w.cell? ⟨b, o + j, none⟩).isSome = true) (hf : ∀ j, j < cs.length → w.frozen? ⟨b, o + j, none⟩ = false) (h1 : ∀ v ∈ cs, v.oneCell' = true) :
    (Builtin.copy_ #[dT, sT] ty #[.slice (some ⟨b, o, none⟩) dLen dCap, .slice (some a) sLen sCap]).run P w = .ok (goInt (Nat.min sLen dLen)) (w.setCells b o cs) := by
  have hl := run_loadCells_list (P := P) w a cs hsrc
  have hst := run_storeCells_cells (P := P) b o cs 0 w (by simpa using hc) (by simpa using hf) h1
  cases hq : P.info? elem with
  | none => simp [hq] at hs
  | some i =>
    have hi : i.size = 2 := by simpa [hq] using hs
    simp [Builtin.copy_, run_underlying hu, Builtin.lenOf, Builtin.firstCells, sizeOf, typeInfo, hq, hi, ← hn, hl, hst]
theorem wpList_copy_two {P : Program} {w : World} {ops : Array Oper} {rest : List Oper} {o : Oper} {a : Act} {Q : Exit → Act → World → Prop} (hgd : o.guard = none) (d s : Operand) (dT sT : TypeId)
    (ho : o.op = .call { callee := .builtin .copy, args := #[d, s], argTypes := #[dT, sT] }) (elem : TypeId) (hu : P.underlying dT = some (.slice elem)) (hsz : (P.info? elem).map (·.size) = some 2)
    (g off dLen dCap : Nat) (ad : Addr) (sLen sCap : Nat) (hd : a.eval d = .slice (some ⟨g, off, none⟩) dLen dCap) (hs : a.eval s = .slice (some ad) sLen sCap)
    (cs : List Value) (hn : cs.length = Nat.min sLen dLen * 2)
    (hsrc : ∀ j v, cs[j]? = some v → w.cell? (ad.add j) = some v) (hc : ∀ j, j < cs.length → (w.cell? ⟨g, off + j, none⟩).isSome = true) (hf : ∀ j, j < cs.length → w.frozen? ⟨g, off + j, none⟩ = false) (h1 : ∀ v ∈ cs, v.oneCell' = true)
    (h : wpList P ops Q rest (a.put o.dst (goInt (Nat.min sLen dLen))) (w.setCells g off cs)) : wpList P ops Q (o :: rest) a w := by
  refine wpList_plain hgd fun K hK => ?_
  have hrun := run_copy_two (P := P) w dT sT o.type elem g off dLen dCap ad sLen sCap cs hu hsz hn hsrc hc hf h1
  unfold Oper.wp
  simp [execOp, ho, resolve, invoke, builtin, hd, hs, hrun, Result.andThen]
  exact hK _ _ h
theorem step_copy_two {P : Program} {ops : Array Oper} {o : Oper} {a : Act} {w : World} {K : Act → World → Prop} {Q : Exit → Act → World → Prop} {E : Prop} (hgd : o.guard = none) (d s : Operand) (dT sT : TypeId)
    (ho : o.op = .call { callee := .builtin .copy, args := #[d, s], argTypes := #[dT, sT] }) (elem : TypeId) (hu : P.underlying dT = some (.slice elem)) (hsz : (P.info? elem).map (·.size) = some 2)
    (g off dLen dCap : Nat) (ad : Addr) (sLen sCap : Nat) (hd : a.eval d = .slice (some ⟨g, off, none⟩) dLen dCap) (hs : a.eval s = .slice (some ad) sLen sCap)
    (cs : List Value) (hn : cs.length = Nat.min sLen dLen * 2)
    (hsrc : ∀ j v, cs[j]? = some v → w.cell? (ad.add j) = some v) (hc : ∀ j, j < cs.length → (w.cell? ⟨g, off + j, none⟩).isSome = true) (hf : ∀ j, j < cs.length → w.frozen? ⟨g, off + j, none⟩ = false) (h1 : ∀ v ∈ cs, v.oneCell' = true)
    (h : K (a.put o.dst (goInt (Nat.min sLen dLen))) (w.setCells g off cs)) :
    if Region.wanted o (yielded ops a.tmps) = true then Oper.wp P o a w K Q else E := by
  have hw : Region.wanted o (yielded ops a.tmps) = true := by simp [Region.wanted, hgd]
  rw [if_pos hw]
  have hrun := run_copy_two (P := P) w dT sT o.type elem g off dLen dCap ad sLen sCap cs hu hsz hn hsrc hc hf h1
  unfold Oper.wp
  simp [execOp, ho, resolve, invoke, builtin, hd, hs, hrun, Result.andThen]
  exact h
/-- the cells of equal fractions -/
def pq (p q : Int) (c : Nat) : Value := if c % 2 = 0 then .int .i64 p else .int .i64 q
def cs2 (p q : Int) (m : Nat) : List Value := (List.range (m * 2)).map (pq p q)
theorem cs2_length (p q : Int) (m : Nat) : (cs2 p q m).length = m * 2 := by simp [cs2]
theorem cs2_get {p q : Int} {m j : Nat} {v : Value} (h : (cs2 p q m)[j]? = some v) : j < m * 2 ∧ v = pq p q j := by
  have hj : j < m * 2 := by rw [← cs2_length p q m]; exact (List.getElem?_eq_some_iff.1 h).1
  refine ⟨hj, ?_⟩
  unfold cs2 at h
  rw [List.getElem?_map, List.getElem?_range hj] at h
  simpa using h.symm
theorem cs2_one {p q : Int} {m : Nat} : ∀ u ∈ cs2 p q m, u.oneCell' = true := fun u hu => by
  unfold cs2 at hu
  obtain ⟨c, _, rfl⟩ := List.mem_map.1 hu
  unfold pq
  split <;> rfl
/-- the first j of them, zeros behind -/
def rf (p q : Int) (j c : Nat) : Value := if c < j * 2 then pq p q c else .int .i64 0
theorem CV.copy {w : World} {B N o : Nat} {f g : Nat → Value} {cs : List Value} (h : CV w B N f) (hfit : o + cs.length ≤ N) (hin : ∀ i (hi : i < cs.length), g (o + i) = cs[i]) (hout : ∀ i, i < o ∨ o + cs.length ≤ i → g i = f i) : CV (w.setCells B o cs) B N g := by
  intro i hi
  by_cases c : o ≤ i ∧ i < o + cs.length
  · obtain ⟨j, rfl⟩ : ∃ j, i = o + j := ⟨i - o, by omega⟩
    rw [World.cell?_setCells_in B cs o w (fun k hk => by rw [h (o + k) (by omega)]; rfl) j (by omega), hin]
  · rw [World.cell?_setCells_out B cs o w _ (fun _ _ => by show i < o ∨ _ ≤ i; omega), h i hi, hout i (by omega)]
theorem CV.rep {w : World} {B N j m : Nat} {p q : Int} (h : CV w B N (rf p q j)) (hfit : j * 2 + m * 2 ≤ N) : CV (w.setCells B (j * 2) (cs2 p q m)) B N (rf p q (j + m)) := by
  refine h.copy (by rw [cs2_length]; exact hfit) (fun i hi => ?_) (fun i hi => ?_)
  · have hi2 := hi
    rw [cs2_length] at hi2
    have hg := (cs2_get (p := p) (q := q) (m := m) (List.getElem?_eq_getElem hi)).2
    rw [hg]
    unfold rf
    rw [if_pos (by omega)]
    unfold pq
    rw [show (j * 2 + i) % 2 = i % 2 by omega]
  · rw [cs2_length] at hi
    unfold rf
    by_cases c : i < j * 2
    · rw [if_pos c, if_pos (by omega)]
    · rw [if_neg c, if_neg (by omega)]
theorem below_setCells {w0 : World} (B : Nat) (hB : w0.heap.size ≤ B) : ∀ (vs : List Value) (o : Nat) (w : World), Below w0.heap.size w0 w → Below w0.heap.size w0 (w.setCells B o vs)
  | [], _, _, h => h
  | v :: r, o, w, h => by
    rw [World.setCells]
    exact below_setCells B hB r (o + 1) _ (h.setCell (p := ⟨B, o, none⟩) hB v)
theorem size_setCells (B : Nat) : ∀ (vs : List Value) (o : Nat) (w : World), (w.setCells B o vs).heap.size = w.heap.size
  | [], _, _ => rfl
  | v :: r, o, w => by rw [World.setCells, size_setCells B r (o + 1)]; simp
theorem ownF_rep {w0 w : World} {B k cap : Nat} {p q : Int} (h : CV w B (k * 2) (rf p q k)) (hf : ∀ c, w.frozen? ⟨B, c, none⟩ = false) (hB : w0.heap.size ≤ B) (hz : B < w.heap.size) (hc : k ≤ cap) (hm : cap ≤ 9223372036854775807) : OwnF w0 w (.slice (some ⟨B, 0, none⟩) k cap) (List.replicate k (p, q)) := by
  refine ⟨some ⟨B, 0, none⟩, cap, by simp, by simpa using hc, hm, fun _ => ⟨B, rfl, hB, hz, fun c hc2 => ?_, hf⟩⟩
  rw [List.length_replicate] at hc2
  rw [h c hc2]
  obtain ⟨i, r, hr, rfl⟩ : ∃ i r, r < 2 ∧ c = i * 2 + r := ⟨c / 2, c % 2, Nat.mod_lt _ (by omega), by omega⟩
  obtain ⟨g0, g1⟩ := fsC_get (List.replicate k (p, q)) i (by rw [List.length_replicate]; omega)
  have hg : Fr.gAt (List.replicate k (p, q)) i = (p, q) := by
    unfold Fr.gAt
    rw [List.getElem?_replicate, if_pos (by omega)]
    rfl
  rw [hg] at g0 g1
  unfold rf
  rw [if_pos hc2]
  unfold pq
  have hr2 : r = 0 ∨ r = 1 := by omega
  rcases hr2 with rfl | rfl
  · rw [if_pos (by omega)]
    show _ = some ((fsC (List.replicate k (p, q)))[i * 2]?.getD undef)
    rw [g0]; rfl
  · rw [if_neg (by omega)]
    show _ = some ((fsC (List.replicate k (p, q)))[i * 2 + 1]?.getD undef)
    rw [g1]; rfl
section
variable (w : World)
theorem mul_any (k : Nat) (h : 1 ≤ k ∧ k ≤ 4) :
    Calls Try.prog 93 #[.int .u64 1, .int .u64 k] w fun r w' => r = .returned (.tuple #[.int .u64 0, .int .u64 k]) ∧ w = w' := by
  have hc : k = 1 ∨ k = 2 ∨ k = 3 ∨ k = 4 := by omega
  rcases hc with rfl | rfl | rfl | rfl
  all_goals
    go_enter Try.func93, Try.ntmps93
    go_wp2
    go_ret2
    exact ⟨rfl, rfl⟩
set_option maxHeartbeats 2000000 in
theorem rep_any (k : Nat) (hk : 1 ≤ k ∧ k ≤ 4) (B0 c0 : Nat) (p q : Int) (h0 : w.cell? ⟨B0, 0, none⟩ = some (.int .i64 p)) (h1 : w.cell? ⟨B0, 1, none⟩ = some (.int .i64 q)) :
    Calls Try.prog 58 #[.slice (some ⟨B0, 0, none⟩) 1 c0, .int .i64 k] w fun r w' => (∃ u, r = .returned u ∧ OwnF w w' u (List.replicate k (p, q))) ∧ Below w.heap.size w w' := by
  obtain ⟨i0, hi0, hz0, hs0, hb0⟩ := info_parts Fr.info_graph
  have hsz : (Try.prog.info? 66).map (·.size) = some 2 := by rw [hi0]; simp [hs0]
  obtain ⟨O, hO⟩ : ∃ O, O = Obj.cells (madeCells #[.int .i64 0, .int .i64 0] (k * 2)) 66 := ⟨_, rfl⟩
  have hmk : ∀ W : World, (Instr.makeSlice 31 (.int .i64 k) (.int .i64 k)).run Try.prog W = .ok (.slice (some ⟨W.heap.size, 0, none⟩) k k) (W.alloc O) := fun W => by
    have hr := run_make (P := Try.prog) W 31 66 i0 (.agg #[.int .i64 0, .int .i64 0]) Try.underlying31 hi0 hz0 .i64 .i64 (k : Int) (k : Int) (by omega) (by omega) (by rw [hb0]; omega) (by omega)
    simp only [Int.toNat_natCast, hs0] at hr
    rw [hO]
    exact hr
  have hM := Lib.hid (fun W => mul_any W k hk)
  have hz := World.block_lt_of_cell? w _ h0
  have hmade : CV (w.alloc O) w.heap.size (k * 2) (rf p q 0) := fun i hi => by
    have hG := Fr.madeG w k w.heap.size 66 (List.replicate k (0, 0)) rfl (by simp)
    obtain ⟨x, r, hr, rfl⟩ : ∃ x r, r < 2 ∧ i = x * 2 + r := ⟨i / 2, i % 2, Nat.mod_lt _ (by omega), by omega⟩
    have h2 := hG x (by rw [List.length_replicate]; omega)
    unfold Fr.GCell at h2
    rw [Nat.zero_add, if_neg (by omega), ← hO] at h2
    unfold rf
    rw [if_neg (by omega)]
    have hr2 : r = 0 ∨ r = 1 := by omega
    rcases hr2 with rfl | rfl
    · exact h2.1
    · exact h2.2
  have hfro : ∀ c, (w.alloc O).frozen? ⟨w.heap.size, c, none⟩ = false := fun c => by rw [hO]; simp
  have hB1 : Below w.heap.size w (w.alloc O) := balloc (Below.refl _ _) _
  have hsz1 : (w.alloc O).heap.size = w.heap.size + 1 := by simp
  replace hO := Lib.hid hO
  obtain ⟨W1, hW1⟩ : ∃ W1, W1 = (w.alloc O).setCells w.heap.size 0 (cs2 p q 1) := ⟨_, rfl⟩
  have hcp : (Builtin.copy_ #[31, 31] 3 #[.slice (some ⟨w.heap.size, 0, none⟩) k k, .slice (some ⟨B0, 0, none⟩) 1 c0]).run Try.prog (w.alloc O) = .ok (.int .i64 1) W1 := by
    have := run_copy_two (P := Try.prog) (w.alloc O) 31 31 3 66 w.heap.size 0 k k ⟨B0, 0, none⟩ 1 c0 (cs2 p q 1) Try.underlying31 hsz (by rw [cs2_length, show Nat.min 1 k = 1 from Nat.min_eq_left hk.1]) (fun j v hj => by
        obtain ⟨hj2, rfl⟩ := cs2_get hj
        rw [addN]
        have hj3 : j = 0 ∨ j = 1 := by omega
        rcases hj3 with rfl | rfl
        · exact (hB1.cell (p := ⟨B0, 0, none⟩) hz).trans h0
        · exact (hB1.cell (p := ⟨B0, 1, none⟩) hz).trans h1) (fun j hj => by rw [cs2_length] at hj; rw [Nat.zero_add, hmade j (by omega)]; rfl) (fun j hj => hfro _) cs2_one
    rw [this, hW1, show Nat.min 1 k = 1 from Nat.min_eq_left hk.1]
    rfl
  have hC1 : Hid (CV W1 w.heap.size (k * 2) (rf p q 1)) := by
    have := hmade.rep (m := 1) (by omega)
    rw [Nat.zero_mul, Nat.zero_add] at this
    rw [hW1]
    exact this
  have hF1 : Hid (∀ c, W1.frozen? ⟨w.heap.size, c, none⟩ = false) := fun c => by rw [hW1, World.frozen?_setCells]; exact hfro c
  have hz1 : w.heap.size < W1.heap.size := by rw [hW1, size_setCells, hsz1]; omega
  have hBW : Below w.heap.size w W1 := by rw [hW1]; exact below_setCells _ (Nat.le_refl _) _ _ _ hB1
  replace hW1 := Lib.hid hW1
  replace hsz := Lib.hid hsz
  clear hmade hfro hB1 hsz1 hi0 hz0 hs0 hb0
  have hdk : decide ((9223372036854775807 : Int) < (k : Int)) = false := decide_eq_false (by omega)
  have hd0 : decide ((k : Int) < 0) = false := decide_eq_false (by omega)
  go_enter Try.func58, Try.ntmps58
  go_wp2_with (first | (go_at_call 93; refine (hM.out _).mono ?_; rintro r1 w1 ⟨rfl, rfl⟩))
  go_loopw [8] (fun i wr => ∃ j : Nat, 1 ≤ j ∧ j ≤ k ∧ i = .int .i64 j ∧ Hid (CV wr w.heap.size (k * 2) (rf p q j)) ∧ Hid (∀ c, wr.frozen? ⟨w.heap.size, c, none⟩ = false) ∧ w.heap.size < wr.heap.size ∧ Below w.heap.size w wr) (fun i _ => k - (intOf i).toNat)
  case atStart => exact ⟨1, by omega, hk.1, rfl, hC1, hF1, hz1, hBW⟩
  case round =>
    clear hC1 hF1 hz1 hBW hcp hmk hM
    obtain ⟨j, hj1, hj, rfl, hC, hF, hzr, hB⟩ := hrel
    by_cases hlt : j < k
    · have hjk : (j : Int) < (k : Int) := by omega
      have hj0 : (0 : Int) ≤ (j : Int) := by omega
      have hjk2 : (j : Int) ≤ (k : Int) := by omega
      obtain ⟨m, hm⟩ : ∃ m, Nat.min j (k - j) = m := ⟨_, rfl⟩
      have hm1 : m ≤ k - j := by rw [← hm]; exact Nat.min_le_right _ _
      have hm2 : m ≤ j := by rw [← hm]; exact Nat.min_le_left _ _
      have hm0 : 1 ≤ m := by rw [← hm]; exact Nat.le_min.2 ⟨hj1, by omega⟩
      obtain ⟨W2, hW2⟩ : ∃ W2, W2 = wr.drew.setCells w.heap.size (j * 2) (cs2 p q m) := ⟨_, rfl⟩
      have hcp2 : (Builtin.copy_ #[31, 31] 3 #[.slice (some ⟨w.heap.size, j * 2, none⟩) (k - j) (k - j), .slice (some ⟨w.heap.size, 0, none⟩) j k]).run Try.prog wr.drew = .ok (.int .i64 (m : Nat)) W2 := by
        have := run_copy_two (P := Try.prog) wr.drew 31 31 3 66 w.heap.size (j * 2) (k - j) (k - j) ⟨w.heap.size, 0, none⟩ j k (cs2 p q m) Try.underlying31 hsz.out (by rw [cs2_length, hm]) (fun x v hx => by
            obtain ⟨hx2, rfl⟩ := cs2_get hx
            rw [addN, Nat.zero_add]
            have h3 : wr.cell? ⟨w.heap.size, x, none⟩ = some (rf p q j x) := hC.out x (by omega)
            unfold rf at h3
            rw [if_pos (by omega)] at h3
            exact h3) (fun x hx => by
            rw [cs2_length] at hx
            have h3 : wr.cell? ⟨w.heap.size, j * 2 + x, none⟩ = some (rf p q j (j * 2 + x)) := hC.out (j * 2 + x) (by omega)
            show (wr.cell? ⟨w.heap.size, j * 2 + x, none⟩).isSome = true
            rw [h3]; rfl) (fun x hx => hF.out _) cs2_one
        rw [this, hW2, hm]
        rfl
      have hC2 : Hid (CV W2 w.heap.size (k * 2) (rf p q (j + m))) := by
        have h4 : CV wr.drew w.heap.size (k * 2) (rf p q j) := hC.out
        rw [hW2]
        exact h4.rep (by omega)
      have hF2 : Hid (∀ c, W2.frozen? ⟨w.heap.size, c, none⟩ = false) := fun c => by rw [hW2, World.frozen?_setCells]; exact hF.out c
      have hzr2 : w.heap.size < W2.heap.size := by rw [hW2, size_setCells]; exact hzr
      have hBr : Below w.heap.size w W2 := by rw [hW2]; exact below_setCells _ (Nat.le_refl _) _ _ _ hB.drew
      have hwr : IntKind.i64.wrap ((j : Int) + (m : Int)) = (j : Int) + (m : Int) := IntWalk.i64_in _ ⟨by omega, by omega⟩
      replace hW2 := Lib.hid hW2
      clear hC hF hzr hB hm
      go_wp2
      go_region_held3 (fun _ => True) (trivial) (first | (fail "here"))
      go_wp2
      go_roundw
      case rel => exact ⟨j + m, by omega, by omega, by go_num, hC2, hF2, hzr2, hBr⟩
      case measure => simp [intOf]; omega
    · obtain rfl : j = k := by omega
      have hd := decide_eq_false (show ¬ ((j : Int) < (j : Int)) by omega)
      go_wp2
      go_ret
      exact ⟨⟨_, rfl, ownF_rep hC.out hF.out (Nat.le_refl _) hzr (Nat.le_refl _) (by omega)⟩, hB⟩
end
end Go.Proofs.Ytfnjgdocmfmfgaa
