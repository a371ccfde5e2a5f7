/-
  ALL LEAST GRAPHS WITH SO MANY VERTICES: the model's contract.
-/
import Derived.Test.YtmbjhncgdmbpaaaGLs
import Derived.Test.YtmbjhncgdmbpaaaSLeast
import Derived.Test.YtmbjhncgdmbpaaaForb
import Derived.Deep.RegionHeld3
namespace Go.Proofs.Ytmbjhncgdmbpaaa
open Go.RowKit Go.Shelf
set_option maxRecDepth 100000

theorem minE_ge {e : Nat} : ∀ {l : List (List Nat)}, (∀ x ∈ l, ¬ onL e x < e) → minE e l = e := by
  intro l
  unfold minE
  induction l with
  | nil => intro _; rfl
  | cons x l ih =>
    intro h
    rw [List.foldl_cons, Nat.min_eq_left (by have := h x (by simp); omega)]
    exact ih (fun y hy => h y (by simp [hy]))
theorem minE_lt {e : Nat} {l : List (List Nat)} {x : List Nat} (hx : x ∈ l) (h : onL e x < e) : minE e l ≠ e := by
  have hle : ∀ (l : List (List Nat)) (b : Nat), l.foldl (fun b x => min b (onL e x)) b ≤ b ∧ ∀ x ∈ l, l.foldl (fun b x => min b (onL e x)) b ≤ onL e x := by
    intro l
    induction l with
    | nil => intro b; exact ⟨Nat.le_refl _, fun x hx => (by cases hx)⟩
    | cons y l ih =>
      intro b
      obtain ⟨h1, h2⟩ := ih (min b (onL e y))
      refine ⟨Nat.le_trans h1 (Nat.min_le_left _ _), fun x hx => ?_⟩
      rcases List.mem_cons.1 hx with rfl | hx
      · exact Nat.le_trans h1 (Nat.min_le_right _ _)
      · exact h2 x hx
  have := (hle l e).2 x hx
  unfold minE
  omega
/-- what stands beside the walk over the orders -/
structure SiT (w : World) (G n e : Nat) (pre : List (List Nat)) (W : World) : Prop where
  c0 : W.cell? ⟨G, 0, none⟩ = some (.int .i64 n)
  c1 : W.cell? ⟨G, 1, none⟩ = some (.int .u32 e)
  all : ∀ x ∈ pre, ¬ onL e x < e
  b : Below G w W
  z : G < W.heap.size
theorem SiT.under {w W W' : World} {G n e c : Nat} {pre : List (List Nat)} (h : SiT w G n e pre W) (hb : Below c W W') (hc : G < c) : SiT w G n e pre W' :=
  ⟨(hb.cell (p := ⟨G, 0, none⟩) hc).trans h.c0, (hb.cell (p := ⟨G, 1, none⟩) hc).trans h.c1, h.all, h.b.trans (hb.mono (by omega)), Nat.lt_of_lt_of_le h.z hb.size⟩
set_option maxHeartbeats 4000000 in
theorem sil_any (w : World) (n e : Nat) (h : VG n e) :
    Calls Try.prog 61 #[.agg #[.int .i64 n, .int .u32 e]] w fun r w' => r = .returned (.bool (isG n e)) ∧ Below w.heap.size w w' := by
  have he : e < 4294967296 := by have := h.2.2.2; have := eMax_le n; simp at *; omega
  have hn5 : n ≤ 5 := by have := h.2.1; omega
  go_enter Try.func61, Try.ntmps61
  go_wp2_with fail
  refine (first_any _ n hn5).mono ?_
  rintro r1 w1 ⟨⟨v, rfl, hO⟩, hb1⟩
  have hB0 : Below w.heap.size w (w.alloc (.cells #[.int .i64 (n : Int), .int .u32 (e : Int)] 36)) := by (repeat (first | exact Below.refl _ _ | assumption | refine bchain (by assumption) ?_ | refine balloc ?_ _ | apply Below.drew | apply below_drewN | (refine Below.alloc ?_ (by (try simp) <;> omega) _) | (refine Below.setCell ?_ (by (try simp) <;> omega) _)))
  obtain ⟨G, hG⟩ : ∃ G, w.heap.size = G := ⟨_, rfl⟩
  obtain ⟨w0, hw0⟩ : ∃ w0, w0 = w.alloc (.cells #[.int .i64 (n : Int), .int .u32 (e : Int)] 36) := ⟨_, rfl⟩
  have c0 : w0.cell? ⟨G, 0, none⟩ = some (.int .i64 n) := by rw [hw0, ← hG, cNew _ _ _ _ _ rfl]; rfl
  have c1 : w0.cell? ⟨G, 1, none⟩ = some (.int .u32 e) := by rw [hw0, ← hG, cNew _ _ _ _ _ rfl]; rfl
  have hGz : G < w0.heap.size := by rw [hw0, ← hG]; simp
  rw [← hw0] at hO hb1 hB0
  have hB1 := Lib.hid (hB0.trans (hb1.mono (by omega)))
  have hz1 := hb1.size
  have d0 := (hb1.cell (p := ⟨G, 0, none⟩) hGz).trans c0
  have d1 := (hb1.cell (p := ⟨G, 1, none⟩) hGz).trans c1
  replace hO := Lib.hid (hO.congr (fun i hi => lf_range n i hi))
  rw [hG] at hB0 hB1 ⊢
  clear hw0 hb1 c0 c1
  replace hG := Lib.hid hG
  go_wp2_with fail
  have hT0 : Hid (SiT w G n e [] w1) := ⟨d0, d1, fun x hx => (by cases hx), hB1.out, by omega⟩
  clear d0 d1
  go_loopg [4] ((lists n n).length) (fun c s wr => SlHead w0 v n n (SiT w G n e) c s wr)
  case atStart =>
    have hf := lists_first n hn5 n (Nat.le_refl _)
    exact .inl ⟨0, _, (List.getElem?_eq_some_iff.1 hf).1, by omega, rfl, hf, hO.out, hT0.out⟩
  case round =>
    rcases hrel with ⟨j, x, hj, hc, rfl, hx, hOx, hT⟩ | ⟨hc, rfl, hT⟩
    · have hok := lists_ok hn5 hn5 (x := x) (List.mem_of_getElem? hx)
      have hst := lists_step hn5 (Nat.le_refl _) hj hx
      have hOn := Lib.hid (fun W (hb : Below wr.heap.size wr W) => sonL_any W v x n n e ((hOx.below hb).see (ok_length hok)) hn5 he hok)
      have hmem : x ∈ lists n n := List.mem_of_getElem? hx
      have hfd : ∀ (W : World) (y : Nat), (Instr.field 36 (.agg #[.int .i64 (n : Int), .int .u32 (y : Int)]) 1).run Try.prog W = .ok (.int .u32 (y : Int)) W := fun _ _ => by kernel_rfl
      have q0 := hT.c0
      have q1 := hT.c1
      have qz := hT.z
      have htk : (lists n n).take (j + 1) = (lists n n).take j ++ [x] := take_snoc' hx
      have hend : ∀ (e4 : Ending) (W w4 : World), NextAt n n w0 v x W e4 w4 → ¬ onL e x < e → SiT w G n e ((lists n n).take j) W →
          ∃ ok : Bool, e4 = .returned (.bool ok) ∧ Hid (∃ c', c' < gk ∧ SlHead w0 v n n (SiT w G n e) c' (.bool ok) w4) := fun e4 W w4 hN hnl hW => by
        have hW2 : SiT w G n e ((lists n n).take (j + 1)) W := ⟨hW.c0, hW.c1, fun y hy => by
          rw [htk] at hy
          rcases List.mem_append.1 hy with hy | hy
          · exact hW.all y hy
          · simp at hy; subst hy; exact hnl, hW.b, hW.z⟩
        rcases hN with ⟨x', hy, he4, hyk, hOy, hbN⟩ | ⟨hy, he4, hbN⟩
        · rw [hst] at hy
          have hj1 := (List.getElem?_eq_some_iff.1 hy).1
          exact ⟨true, he4, (lists n n).length - (j + 1), by omega, .inl ⟨j + 1, x', hj1, rfl, rfl, hy, hOy, hW2.under hbN hGz⟩⟩
        · rw [hst] at hy
          have hj1 : (lists n n).length ≤ j + 1 := by simpa using hy
          rw [List.take_of_length_le hj1] at hW2
          exact ⟨false, he4, 0, by omega, .inr ⟨rfl, rfl, hW2.under hbN hGz⟩⟩
      have hno : onL e x < e → isG n e = false := fun h => by have h9 := minE_lt hmem h; unfold isG leastE; simpa using h9
      obtain ⟨y, hy⟩ : ∃ y, onL e x = y := ⟨_, rfl⟩
      rw [hy] at hOn hend hno
      replace hend := Lib.hid hend
      replace hOx := Lib.hid hOx
      replace hT := Lib.hid hT
      have hfdy := fun W => hfd W y
      clear hy hx hst hc hmem htk hfd hT0 hO
      go_wp2_with fail
      go_region_held3 (fun A => A.cell? ⟨G, 0, none⟩ = some (.int .i64 n) ∧ A.cell? ⟨G, 1, none⟩ = some (.int .u32 e))
        (exact ⟨old_cell qz q0 (by (repeat (first | exact Below.refl _ _ | assumption | refine bchain (by assumption) ?_ | refine balloc ?_ _ | apply Below.drew | apply below_drewN | (refine Below.alloc ?_ (by (try simp) <;> omega) _) | (refine Below.setCell ?_ (by (try simp) <;> omega) _)))), old_cell qz q1 (by (repeat (first | exact Below.refl _ _ | assumption | refine bchain (by assumption) ?_ | refine balloc ?_ _ | apply Below.drew | apply below_drewN | (refine Below.alloc ?_ (by (try simp) <;> omega) _) | (refine Below.setCell ?_ (by (try simp) <;> omega) _))))⟩)
        (first
        | (go_at_call 60; refine (hOn.out _ (by (repeat (first | exact Below.refl _ _ | assumption | refine bchain (by assumption) ?_ | refine balloc ?_ _ | apply Below.drew | apply below_drewN | (refine Below.alloc ?_ (by (try simp) <;> omega) _) | (refine Below.setCell ?_ (by (try simp) <;> omega) _))))).mono ?_; rintro r3 w3 ⟨rfl, hb3⟩))
      have hb33 : Below wr.heap.size wr w3 := by (repeat (first | exact Below.refl _ _ | assumption | refine bchain (by assumption) ?_ | refine balloc ?_ _ | apply Below.drew | apply below_drewN | (refine Below.alloc ?_ (by (try simp) <;> omega) _) | (refine Below.setCell ?_ (by (try simp) <;> omega) _)))
      have hTw := Lib.hid (hT.out.under hb33 qz)
      have hOw := Lib.hid (hOx.out.below hb33)
      obtain ⟨r0, r1, _, rB, rz⟩ := id hTw.out
      by_cases hlt : y < e
      · have hd : decide ((y : Int) < (e : Int)) = true := by simpa using hlt
        have hres := hno hlt
        go_wp2
        go_ret
        exact ⟨by rw [hres]; rfl, by rw [hG.out]; exact rB⟩
      · have hd : decide ((y : Int) < (e : Int)) = false := by simpa using hlt
        go_wp2_with fail
        refine (next_any _ w0 v n n x hOw.out hn5 hn5 hok).mono ?_
        rintro r4 w4 hN
        obtain ⟨ok, rfl, hE⟩ := hend.out r4 _ w4 hN hlt hTw.out
        clear hN
        go_wp2
        obtain ⟨c', hc1, hc2⟩ := hE.out
        go_roundg c'
        case measure => exact hc1
        case rel => exact hc2
    · have hres : isG n e = true := by unfold isG leastE; rw [minE_ge hT.all]; simp
      have hB2 := hT.b
      clear hT
      go_wp2
      go_ret
      exact ⟨by rw [hres]; rfl, by rw [hG.out]; exact hB2⟩
section
variable (w : World)
set_option maxHeartbeats 2000000 in
theorem sall_any (k : Nat) (hk : k ≤ 5) :
    Calls Try.prog 42 #[.int .i64 k] w fun r w' => (∃ u, r = .returned u ∧ OwnG w w' u (lG k (eMax k))) ∧ Below w.heap.size w w' := by
  have hFr := Lib.hid (fun W (e : Nat) (he : e < eMax k) => sil_any W k e ⟨by omega, by omega, by omega, by simpa using he⟩)
  have hsh := shl_pc k (by omega)
  have hsh2 : wrap64 ((2 : Int) ^ pc k) = (eMax k : Int) := by
    have hc : k = 0 ∨ k = 1 ∨ k = 2 ∨ k = 3 ∨ k = 4 ∨ k = 5 := by omega
    rcases hc with rfl | rfl | rfl | rfl | rfl | rfl <;> first | rfl | decide +kernel
  have hpc := pc_le k
  have hle := eMax_le k
  obtain ⟨M, hM⟩ : ∃ M, eMax k = M := ⟨_, rfl⟩
  rw [hM] at hsh hsh2 hFr hle ⊢
  have hlen : ∀ m, (lG k m).length ≤ m := lG_len k
  replace hlen := Lib.hid hlen
  obtain ⟨i0, hi, hz0, hz1, hz2⟩ := info_parts info_graph
  replace hi := Lib.hid hi
  replace hz0 := Lib.hid hz0
  replace hz1 := Lib.hid hz1
  replace hz2 := Lib.hid hz2
  have hpk := Lib.hid (fun W => bits_any W k (by omega))
  have hft := Lib.hid (fun m => lG_t (n := k) (m := m))
  have hff := Lib.hid (fun m => lG_f (n := k) (m := m))
  obtain ⟨q, hq⟩ : ∃ q, pc k = q := ⟨_, rfl⟩
  rw [hq] at hsh hsh2 hpc hpk
  clear hq hM
  go_enter Try.func42, Try.ntmps42
  go_wp2_with fail
  have hown0 : Hid ((w.alloc (.cells #[] 36)).ownsRow w.heap.size 36 2 (.slice (some ⟨w.heap.size, 0, none⟩) 0 0) (lG k 0).length (gsC (lG k 0))) := World.ownsRow_made w #[] 0 (Nat.le_refl _) (by omega) rfl
  have hB1 : Below w.heap.size w (w.alloc (.cells #[] 36)) := by (repeat (first | exact Below.refl _ _ | assumption | refine bchain (by assumption) ?_ | refine balloc ?_ _ | apply Below.drew | apply below_drewN | (refine Below.alloc ?_ (by (try simp) <;> omega) _) | (refine Below.setCell ?_ (by (try simp) <;> omega) _)))

  go_loopw [3, 4, 5] (fun u i _ wr => ∃ j : Nat, j ≤ M ∧ i = .int .i64 j ∧ Hid (wr.ownsRow w.heap.size 36 2 u (lG k j).length (gsC (lG k j))) ∧ Below w.heap.size w wr) (fun _ i _ _ => M - (intOf i).toNat)
  case atStart => exact ⟨0, by omega, rfl, hown0, hB1⟩
  case round =>
    clear hown0 hB1
    obtain ⟨j, hj, rfl, hown, hB⟩ := hrel
    have hsz := hB.size
    by_cases hlt : j < M
    · have hC := Lib.hid (fun W => hFr.out W j hlt)
      have hbd : ∀ W : World, (Instr.build 36 #[(0, .int .i64 (k : Int)), (1, .int .u32 (j : Int))]).run Try.prog W = .ok (.agg #[.int .i64 (k : Int), .int .u32 (j : Int)]) W := fun W => run_build W 36 _ _ (by kernel_rfl)
      have hjl := hlen.out j
      cases hbb : isG k j
      · rw [hbb] at hC
        have hnx := Lib.hid (hff.out j hbb)
        clear hbb
        go_wp2_with (first
          | (go_at_call 59; refine (hpk.out _).mono ?_; rintro r3 w3 ⟨rfl, rfl⟩)
          | (go_at_call 61; refine (hC.out _).mono ?_; rintro r4 w4 ⟨rfl, hb4⟩))
        have hb34 : Below wr.heap.size wr w4 := by (repeat (first | exact Below.refl _ _ | assumption | refine bchain (by assumption) ?_ | refine balloc ?_ _ | apply Below.drew | apply below_drewN | (refine Below.alloc ?_ (by (try simp) <;> omega) _) | (refine Below.setCell ?_ (by (try simp) <;> omega) _)))
        have hown4 := hown.out.kept (row := none) (w' := w4) ⟨hb34.os, hb34.tape, hb34.output, hb34.size, fun k hk _ => hb34.block k hk⟩ (by cases (Value.ownBlock _) <;> simp)
        rw [← hnx.out] at hown4
        replace hown4 := Lib.hid hown4
        have hz4 := hb34.size
        clear hown
        go_roundw
        case rel => exact ⟨j + 1, by omega, by go_num, hown4, by (repeat (first | exact Below.refl _ _ | assumption | refine bchain (by assumption) ?_ | refine balloc ?_ _ | apply Below.drew | apply below_drewN | (refine Below.alloc ?_ (by (try simp) <;> omega) _) | (refine Below.setCell ?_ (by (try simp) <;> omega) _)))⟩
        case measure => simp [intOf]; omega
      · rw [hbb] at hC
        have hnx := Lib.hid (hft.out j hbb)
        clear hbb
        go_wp2_with (first
          | (go_at_call 59; refine (hpk.out _).mono ?_; rintro r3 w3 ⟨rfl, rfl⟩)
          | (go_at_call 61; refine (hC.out _).mono ?_; rintro r4 w4 ⟨rfl, hb4⟩; have hb34 : Below wr.heap.size wr w4 := (by (repeat (first | exact Below.refl _ _ | assumption | refine bchain (by assumption) ?_ | refine balloc ?_ _ | apply Below.drew | apply below_drewN | (refine Below.alloc ?_ (by (try simp) <;> omega) _) | (refine Below.setCell ?_ (by (try simp) <;> omega) _)))); have hownk := Lib.hid (hown.out.kept (row := none) (w' := w4) ⟨hb34.os, hb34.tape, hb34.output, hb34.size, fun k hk _ => hb34.block k hk⟩ (by cases (Value.ownBlock _) <;> simp)); have hz4 := hb34.size; have hc4 := (show w4.cell? ⟨wr.heap.size, 0, none⟩ = some (.int .i64 (k : Int)) from (hb4.cell (p := ⟨wr.heap.size, 0, none⟩) (by simp)).trans (by rw [cNew _ _ _ _ _ rfl]; rfl)); have hc5 := (show w4.cell? ⟨wr.heap.size, 1, none⟩ = some (.int .u32 (j : Int)) from (hb4.cell (p := ⟨wr.heap.size, 1, none⟩) (by simp)).trans (by rw [cNew _ _ _ _ _ rfl]; rfl)))
          | (at_builtin; refine wpList_append_own _ rfl _ _ 24 rfl w.heap.size 36 i0 (.agg #[.int .i64 0, .int .u32 0]) 2 16 Try.underlying24 hi.out hz0.out hz1.out hz2.out rfl (by decide) _ _ _ rfl (hownk.out.alloc _) ⟨w4.heap.size, 0, none⟩ 1 1 [.int .i64 k, .int .u32 j] rfl rfl (fun q u hq => by match q, hq with
              | 0, hq => simp at hq; subst hq; rw [show (⟨w4.heap.size, 0, none⟩ : Addr).add 0 = ⟨w4.heap.size, 0, none⟩ from rfl, World.cell?_alloc_new]; rfl
              | 1, hq => simp at hq; subst hq; rw [show (⟨w4.heap.size, 0, none⟩ : Addr).add 1 = ⟨w4.heap.size, 1, none⟩ from rfl, World.cell?_alloc_new]; rfl
              | q + 2, hq => simp at hq) (fun u hu => by simp at hu; rcases hu with rfl | rfl <;> rfl) (by unfold maxLen; omega) (by omega) (by simp; omega) ?_; intro v' w5 hown' hgrow _))
        have hB5 : Below w.heap.size w w5 := (balloc (hB.trans (hb34.mono hsz)) _).grown hgrow (by simp; omega) (fun k hk => by have := (hownk.out.lt k hk).1; omega)
        have hown5 : Hid (w5.ownsRow w.heap.size 36 2 v' (lG k (j + 1)).length (gsC (lG k (j + 1)))) := by
          show World.ownsRow _ _ _ _ _ _ _
          rw [hnx.out, gsC_snoc, List.length_append]
          exact hown'
        clear hown' hgrow hownk hown
        go_roundw
        case rel => exact ⟨j + 1, by omega, by go_num, hown5, hB5⟩
        case measure => simp [intOf]; omega
    · obtain rfl : j = M := by omega
      have hdd := decide_eq_false (show ¬ ((j : Int) < (j : Int)) by omega)
      have hO := Lib.hid (ownG_of_row (w0 := w) hown.out (Nat.le_refl _))
      clear hown
      go_wp2_with (go_at_call 59; refine (hpk.out _).mono ?_; rintro r3 w3 ⟨rfl, rfl⟩)
      go_ret
      exact ⟨⟨_, rfl, hO.out⟩, hB⟩
theorem sag_ok (k : Nat) (hk : k ≤ 5) : Calls Try.prog 18 #[.int .i64 k] w (RetG w (lG k (eMax k)) 0) := by
  have hA := Lib.hid (fun W => sall_any W k hk)
  go_enter Try.func18, Try.ntmps18
  go_wp2_with (first
    | (go_at_call 35; refine (in_t _ k 0 5 (by omega) (by omega)).mono ?_; rintro r3 w3 ⟨rfl, rfl⟩)
    | (go_at_call 42; refine (hA.out _).mono ?_; rintro r4 w4 ⟨⟨u, rfl, hO⟩, hb4⟩))
  go_ret2
  exact ⟨⟨_, rfl, hO⟩, by (repeat (first | exact Below.refl _ _ | assumption | refine bchain (by assumption) ?_ | refine balloc ?_ _ | apply Below.drew | apply below_drewN | (refine Below.alloc ?_ (by (try simp) <;> omega) _) | (refine Below.setCell ?_ (by (try simp) <;> omega) _)))⟩
theorem sag_rng (k : Int) (hk : k < 0 ∨ 5 < k) : Calls Try.prog 18 #[.int .i64 k] w (RetG w [] 2) := by
  replace hk := Lib.hid hk
  go_enter Try.func18, Try.ntmps18
  go_wp2_with (go_at_call 35; refine (in_f _ k 0 5 hk.out).mono ?_; rintro r2 w2 ⟨rfl, rfl⟩)
  go_ret2
  exact ⟨⟨_, rfl, ownG_zero _ _ _⟩, by (repeat (first | exact Below.refl _ _ | assumption | refine bchain (by assumption) ?_ | refine balloc ?_ _ | apply Below.drew | apply below_drewN | (refine Below.alloc ?_ (by (try simp) <;> omega) _) | (refine Below.setCell ?_ (by (try simp) <;> omega) _)))⟩
theorem iag_rng (k : Int) (hk : k < 0 ∨ 5 < k) : Calls Try.prog 19 #[.int .i64 k] w (RetG w [] 2) := by
  have hV := Lib.hid (fun W => vc_f W k (by omega))
  clear hk
  go_enter Try.func19, Try.ntmps19
  go_wp2_with (go_at_call 46; refine (hV.out _).mono ?_; rintro r2 w2 ⟨rfl, rfl⟩)
  go_ret2
  exact ⟨⟨_, rfl, ownG_zero _ _ _⟩, by (repeat (first | exact Below.refl _ _ | assumption | refine bchain (by assumption) ?_ | refine balloc ?_ _ | apply Below.drew | apply below_drewN | (refine Below.alloc ?_ (by (try simp) <;> omega) _) | (refine Below.setCell ?_ (by (try simp) <;> omega) _)))⟩
end
end Go.Proofs.Ytmbjhncgdmbpaaa
