/-
  CoefficientOf: both contracts.
-/
import Derived.Test.YtpobonomdfbanaaSTco
import Derived.Deep.RegionHeld3
namespace Go.Proofs.Ytpobonomdfbanaa
open Go.RowKit Go.Shelf
set_option maxRecDepth 100000
attribute [local go_sem] Oper.semAt_some
def RetFr (W : World) (P Q c : Int) (r : Ending) (w' : World) : Prop := r = .returned (.tuple #[.agg #[.int .i64 P, .int .i64 Q], .int .i64 c]) ∧ Below W.heap.size W w'
theorem co_keep {w W : World} {G : Nat} {n e s k m y : Int} {u : Value} (h1 : SB w G n e s u) (h2 : FC w (G + 1) k m y) (h3 : FrB w (G + 1 + 1) 0 0) (hb : Below w.heap.size w W) :
    W.cell? ⟨G, 0, none⟩ = some (.int .i64 n) ∧ W.cell? ⟨G, 1, none⟩ = some (.int .u32 e) ∧ W.cell? ⟨G, 2, none⟩ = some (.int .i64 s) ∧ W.cell? ⟨G, 3, none⟩ = some u ∧
      W.cell? ⟨G + 1, 0, none⟩ = some (.int .i64 k) ∧ W.cell? ⟨G + 1, 1, none⟩ = some (.int .i64 m) ∧ W.cell? ⟨G + 1, 2, none⟩ = some (.int .u32 y) ∧
      W.cell? ⟨G + 1 + 1, 0, none⟩ = some (cellOf W ⟨G + 1 + 1, 0, none⟩) ∧ W.cell? ⟨G + 1 + 1, 1, none⟩ = some (cellOf W ⟨G + 1 + 1, 1, none⟩) ∧ W.frozen? ⟨G + 1 + 1, 0, none⟩ = false ∧ W.frozen? ⟨G + 1 + 1, 1, none⟩ = false := by
  have a := h1.below hb
  have b := h2.below hb
  have c := h3.below hb
  exact ⟨a.c0, a.c1, a.c2, a.c3, b.c0, b.c1, b.c2, cellOf_of c.c0, cellOf_of c.c1, c.fz _, c.fz _⟩
theorem co_held {w W S : World} {G : Nat} {n e s k m y p q : Int} {u : Value} (h1 : SB w G n e s u) (h2 : FC w (G + 1) k m y) (h3 : FrB w (G + 1 + 1) 0 0) (hb : Below w.heap.size w W) (hS : S = (W.setCell ⟨G + 1 + 1, 0, none⟩ (.int .i64 p)).setCell ⟨G + 1 + 1, 1, none⟩ (.int .i64 q)) :
    S.cell? ⟨G, 0, none⟩ = some (.int .i64 n) ∧ S.cell? ⟨G, 1, none⟩ = some (.int .u32 e) ∧ S.cell? ⟨G, 2, none⟩ = some (.int .i64 s) ∧ S.cell? ⟨G, 3, none⟩ = some u ∧
      S.cell? ⟨G + 1, 0, none⟩ = some (.int .i64 k) ∧ S.cell? ⟨G + 1, 1, none⟩ = some (.int .i64 m) ∧ S.cell? ⟨G + 1, 2, none⟩ = some (.int .u32 y) ∧
      S.cell? ⟨G + 1 + 1, 0, none⟩ = some (cellOf S ⟨G + 1 + 1, 0, none⟩) ∧ S.cell? ⟨G + 1 + 1, 1, none⟩ = some (cellOf S ⟨G + 1 + 1, 1, none⟩) ∧ S.frozen? ⟨G + 1 + 1, 0, none⟩ = false ∧ S.frozen? ⟨G + 1 + 1, 1, none⟩ = false := by
  have a := ((h1.below hb).other (a := ⟨G + 1 + 1, 0, none⟩) (.int .i64 p) (by show G + 1 + 1 ≠ G; omega)).other (a := ⟨G + 1 + 1, 1, none⟩) (.int .i64 q) (by show G + 1 + 1 ≠ G; omega)
  have b := ((h2.below hb).other (p := ⟨G + 1 + 1, 0, none⟩) (.int .i64 p) (by show G + 1 + 1 ≠ G + 1; omega)).other (p := ⟨G + 1 + 1, 1, none⟩) (.int .i64 q) (by show G + 1 + 1 ≠ G + 1; omega)
  have c := (h3.below hb).put p q
  subst hS
  exact ⟨a.c0, a.c1, a.c2, a.c3, b.c0, b.c1, b.c2, cellOf_of c.c0, cellOf_of c.c1, c.fz _, c.fz _⟩
section
variable (w : World)
theorem slz_any : Calls Try.prog 85 #[] w fun r w' => r = .returned (.agg #[.int .i64 0, .int .i64 1]) ∧ Below w.heap.size w w' := by
  go_enter Try.func85, Try.ntmps85
  go_wp2
  exact bodyPost_ret (v := .agg #[.int .i64 0, .int .i64 1]) (by simp [results, Try.results85, go_sem]) rfl ⟨rfl, by (repeat (first | exact Below.refl _ _ | assumption | refine bchain (by assumption) ?_ | refine balloc ?_ _ | apply Below.drew | apply below_drewN | (refine Below.alloc ?_ (by (try simp) <;> omega) _) | (refine Below.setCell ?_ (by (try simp) <;> omega) _)))⟩
theorem ic_sum (X : SM) (u : Value) (k m y : Int) (hS : SlT w u X.ts) (hbd : BdS X) (hv : ¬ VSum X) :
    Calls Try.prog 38 #[.agg #[.int .i64 X.n, .int .u32 X.e, .int .i64 X.s, u], .agg #[.int .i64 k, .int .i64 m, .int .u32 y]] w (RetFr w 0 0 1) := by
  have hV := Lib.hid (fun W (hb : Below w.heap.size w W) => ivs_any W X u (hS.below hb) hbd false ⟨fun c => (by cases c), fun c => absurd c hv⟩)
  obtain ⟨a, cap, rfl, _⟩ := id hS
  obtain ⟨l, hl⟩ : ∃ l, X.ts.length = l := ⟨_, rfl⟩
  rw [hl] at hV ⊢
  clear hl hS hbd hv
  obtain ⟨W0, hW0⟩ : ∃ W0, W0 = ((w.alloc (.cells #[.int .i64 X.n, .int .u32 X.e, .int .i64 X.s, .slice a l cap] 50)).alloc (.cells #[.int .i64 k, .int .i64 m, .int .u32 y] 34)).alloc (.cells #[.int .i64 0, .int .i64 0] 63) := ⟨_, rfl⟩
  have hb0 : Below w.heap.size w W0 := by rw [hW0]; (repeat (first | exact Below.refl _ _ | assumption | refine bchain (by assumption) ?_ | refine balloc ?_ _ | apply Below.drew | apply below_drewN | (refine Below.alloc ?_ (by (try simp) <;> omega) _) | (refine Below.setCell ?_ (by (try simp) <;> omega) _)))
  have sz : ∀ (W : World) (o : Obj), (W.alloc o).heap.size = W.heap.size + 1 := fun W o => by simp
  have k0 : SB W0 w.heap.size X.n X.e X.s (.slice a l cap) := by rw [hW0]; exact ((SB.made _ _ _ _ _ _).below (balloc (Below.refl _ _) _)).below (balloc (Below.refl _ _) _)
  have f0 : FC W0 (w.heap.size + 1) k m y := by rw [hW0, ← sz w (.cells #[.int .i64 X.n, .int .u32 X.e, .int .i64 X.s, .slice a l cap] 50)]; exact (FC.made _ _ _ _ _).below (balloc (Below.refl _ _) _)
  have r0 : FrB W0 (w.heap.size + 1 + 1) 0 0 := by rw [hW0, ← sz w (.cells #[.int .i64 X.n, .int .u32 X.e, .int .i64 X.s, .slice a l cap] 50), ← sz _ (.cells #[.int .i64 k, .int .i64 m, .int .u32 y] 34)]; exact FrB.made _ _ _ _
  replace hW0 := Lib.hid hW0
  clear sz
  obtain ⟨_, x0, x1, x2, x3, _⟩ := id k0
  go_enter Try.func38, Try.ntmps38
  go_wp2_with fail
  rw [← hW0.out]
  go_wp2_with fail
  refine (hV.out _ hb0).mono ?_
  rintro r1 w1 ⟨rfl, hb1⟩
  have k1 := k0.below hb1
  have f1 := f0.below hb1
  have r1 := r0.below hb1
  have b1 := bchain hb1 hb0
  clear hb1 x0 x1 x2 x3 k0 f0 r0 hb0
  have hfb := r1
  have hbw := b1
  obtain ⟨_, d0, d1, fR⟩ := id hfb
  go_wp2
  have hF := hfb.put (0) (0)
  have hBB := ((hbw.setCell (p := ⟨w.heap.size + 1 + 1, 0, none⟩) (by show w.heap.size ≤ w.heap.size + 1 + 1; omega) (.int .i64 (0))).setCell (p := ⟨w.heap.size + 1 + 1, 1, none⟩) (by show w.heap.size ≤ w.heap.size + 1 + 1; omega) (.int .i64 (0)))
  obtain ⟨WW, hWW⟩ : ∃ WW, WW = ((w1.setCell ⟨w.heap.size + 1 + 1, 0, none⟩ (.int .i64 (0))).setCell ⟨w.heap.size + 1 + 1, 1, none⟩ (.int .i64 (0))) := ⟨_, rfl⟩
  rw [← hWW] at hF hBB ⊢
  clear hWW
  obtain ⟨_, hF0, hF1, _⟩ := hF
  exact bodyPost_ret (v := .tuple #[.agg #[.int .i64 (0), .int .i64 (0)], .int .i64 1]) (by simp [results, Try.results38, go_sem, hF0, hF1]) rfl ⟨rfl, hBB⟩
theorem ic_flag (X : SM) (u : Value) (k m y : Int) (hS : SlT w u X.ts) (hbd : BdS X) (hv : VSum X) (hy : y < 4294967296) (hy0 : 0 ≤ y) (hk : ¬ VK k m y) :
    Calls Try.prog 38 #[.agg #[.int .i64 X.n, .int .u32 X.e, .int .i64 X.s, u], .agg #[.int .i64 k, .int .i64 m, .int .u32 y]] w (RetFr w 0 0 1) := by
  have hV := Lib.hid (fun W (hb : Below w.heap.size w W) => ivs_any W X u (hS.below hb) hbd true ⟨fun _ => hv, fun _ => rfl⟩)
  have hK := Lib.hid (fun W => ivk_f W k m y hy hy0 hk)
  obtain ⟨a, cap, rfl, _⟩ := id hS
  obtain ⟨l, hl⟩ : ∃ l, X.ts.length = l := ⟨_, rfl⟩
  rw [hl] at hV ⊢
  clear hl hS hbd hv hy hy0 hk
  obtain ⟨W0, hW0⟩ : ∃ W0, W0 = ((w.alloc (.cells #[.int .i64 X.n, .int .u32 X.e, .int .i64 X.s, .slice a l cap] 50)).alloc (.cells #[.int .i64 k, .int .i64 m, .int .u32 y] 34)).alloc (.cells #[.int .i64 0, .int .i64 0] 63) := ⟨_, rfl⟩
  have hb0 : Below w.heap.size w W0 := by rw [hW0]; (repeat (first | exact Below.refl _ _ | assumption | refine bchain (by assumption) ?_ | refine balloc ?_ _ | apply Below.drew | apply below_drewN | (refine Below.alloc ?_ (by (try simp) <;> omega) _) | (refine Below.setCell ?_ (by (try simp) <;> omega) _)))
  have sz : ∀ (W : World) (o : Obj), (W.alloc o).heap.size = W.heap.size + 1 := fun W o => by simp
  have k0 : SB W0 w.heap.size X.n X.e X.s (.slice a l cap) := by rw [hW0]; exact ((SB.made _ _ _ _ _ _).below (balloc (Below.refl _ _) _)).below (balloc (Below.refl _ _) _)
  have f0 : FC W0 (w.heap.size + 1) k m y := by rw [hW0, ← sz w (.cells #[.int .i64 X.n, .int .u32 X.e, .int .i64 X.s, .slice a l cap] 50)]; exact (FC.made _ _ _ _ _).below (balloc (Below.refl _ _) _)
  have r0 : FrB W0 (w.heap.size + 1 + 1) 0 0 := by rw [hW0, ← sz w (.cells #[.int .i64 X.n, .int .u32 X.e, .int .i64 X.s, .slice a l cap] 50), ← sz _ (.cells #[.int .i64 k, .int .i64 m, .int .u32 y] 34)]; exact FrB.made _ _ _ _
  replace hW0 := Lib.hid hW0
  clear sz
  obtain ⟨_, x0, x1, x2, x3, _⟩ := id k0
  go_enter Try.func38, Try.ntmps38
  go_wp2_with fail
  rw [← hW0.out]
  go_wp2_with fail
  refine (hV.out _ hb0).mono ?_
  rintro r1 w1 ⟨rfl, hb1⟩
  have k1 := k0.below hb1
  have f1 := f0.below hb1
  have r1 := r0.below hb1
  have b1 := bchain hb1 hb0
  clear hb1 x0 x1 x2 x3 k0 f0 r0 hb0
  obtain ⟨_, e0, e1, e2⟩ := id f1
  go_wp2_with fail
  refine (hK.out _).mono ?_
  rintro r2 w2 ⟨rfl, hb2⟩
  have hfb := r1.below hb2
  have hbw := bchain hb2 b1
  obtain ⟨_, d0, d1, fR⟩ := id hfb
  go_wp2
  have hF := hfb.put (0) (0)
  have hBB := ((hbw.setCell (p := ⟨w.heap.size + 1 + 1, 0, none⟩) (by show w.heap.size ≤ w.heap.size + 1 + 1; omega) (.int .i64 (0))).setCell (p := ⟨w.heap.size + 1 + 1, 1, none⟩) (by show w.heap.size ≤ w.heap.size + 1 + 1; omega) (.int .i64 (0)))
  obtain ⟨WW, hWW⟩ : ∃ WW, WW = ((w2.setCell ⟨w.heap.size + 1 + 1, 0, none⟩ (.int .i64 (0))).setCell ⟨w.heap.size + 1 + 1, 1, none⟩ (.int .i64 (0))) := ⟨_, rfl⟩
  rw [← hWW] at hF hBB ⊢
  clear hWW
  obtain ⟨_, hF0, hF1, _⟩ := hF
  exact bodyPost_ret (v := .tuple #[.agg #[.int .i64 (0), .int .i64 (0)], .int .i64 1]) (by simp [results, Try.results38, go_sem, hF0, hF1]) rfl ⟨rfl, hBB⟩
theorem ic_fit (X : SM) (u : Value) (k m y : Nat) (hS : SlT w u X.ts) (hbd : BdS X) (hv : VSum X) (hk : VK k m y) (hf : ¬ Fits k m y X.n X.e X.s) :
    Calls Try.prog 38 #[.agg #[.int .i64 X.n, .int .u32 X.e, .int .i64 X.s, u], .agg #[.int .i64 k, .int .i64 m, .int .u32 y]] w (RetFr w 0 0 2) := by
  have hV := Lib.hid (fun W (hb : Below w.heap.size w W) => ivs_any W X u (hS.below hb) hbd true ⟨fun _ => hv, fun _ => rfl⟩)
  have hK := Lib.hid (fun W => ivk_t W k m y hk)
  have hI := Lib.hid (fun W => iof_any W k m y X.n X.e X.s hk false ⟨fun c => (by cases c), fun c => absurd c hf⟩)
  obtain ⟨a, cap, rfl, _⟩ := id hS
  obtain ⟨l, hl⟩ : ∃ l, X.ts.length = l := ⟨_, rfl⟩
  rw [hl] at hV ⊢
  clear hl hS hbd hv hk hf
  obtain ⟨W0, hW0⟩ : ∃ W0, W0 = ((w.alloc (.cells #[.int .i64 X.n, .int .u32 X.e, .int .i64 X.s, .slice a l cap] 50)).alloc (.cells #[.int .i64 k, .int .i64 m, .int .u32 y] 34)).alloc (.cells #[.int .i64 0, .int .i64 0] 63) := ⟨_, rfl⟩
  have hb0 : Below w.heap.size w W0 := by rw [hW0]; (repeat (first | exact Below.refl _ _ | assumption | refine bchain (by assumption) ?_ | refine balloc ?_ _ | apply Below.drew | apply below_drewN | (refine Below.alloc ?_ (by (try simp) <;> omega) _) | (refine Below.setCell ?_ (by (try simp) <;> omega) _)))
  have sz : ∀ (W : World) (o : Obj), (W.alloc o).heap.size = W.heap.size + 1 := fun W o => by simp
  have k0 : SB W0 w.heap.size X.n X.e X.s (.slice a l cap) := by rw [hW0]; exact ((SB.made _ _ _ _ _ _).below (balloc (Below.refl _ _) _)).below (balloc (Below.refl _ _) _)
  have f0 : FC W0 (w.heap.size + 1) k m y := by rw [hW0, ← sz w (.cells #[.int .i64 X.n, .int .u32 X.e, .int .i64 X.s, .slice a l cap] 50)]; exact (FC.made _ _ _ _ _).below (balloc (Below.refl _ _) _)
  have r0 : FrB W0 (w.heap.size + 1 + 1) 0 0 := by rw [hW0, ← sz w (.cells #[.int .i64 X.n, .int .u32 X.e, .int .i64 X.s, .slice a l cap] 50), ← sz _ (.cells #[.int .i64 k, .int .i64 m, .int .u32 y] 34)]; exact FrB.made _ _ _ _
  replace hW0 := Lib.hid hW0
  clear sz
  obtain ⟨_, x0, x1, x2, x3, _⟩ := id k0
  go_enter Try.func38, Try.ntmps38
  go_wp2_with fail
  rw [← hW0.out]
  go_wp2_with fail
  refine (hV.out _ hb0).mono ?_
  rintro r1 w1 ⟨rfl, hb1⟩
  have k1 := k0.below hb1
  have f1 := f0.below hb1
  have r1 := r0.below hb1
  have b1 := bchain hb1 hb0
  clear hb1 x0 x1 x2 x3 k0 f0 r0 hb0
  obtain ⟨_, e0, e1, e2⟩ := id f1
  go_wp2_with fail
  refine (hK.out _).mono ?_
  rintro r2 w2 ⟨rfl, hb2⟩
  have k2 := k1.below hb2
  have f2 := f1.below hb2
  have r2 := r1.below hb2
  have b2 := bchain hb2 b1
  clear hb2 e0 e1 e2 k1 f1 r1 b1
  obtain ⟨_, e0, e1, e2⟩ := id f2
  obtain ⟨_, x0, x1, x2, x3, _⟩ := id k2
  go_wp2_with fail
  refine (hI.out _).mono ?_
  rintro r3 w3 ⟨rfl, hb3⟩
  have k3 := k2.below hb3
  have f3 := f2.below hb3
  have r3 := r2.below hb3
  have b3 := bchain hb3 b2
  clear hb3 e0 e1 e2 x0 x1 x2 x3 k2 f2 r2 b2
  have hfb := r3
  have hbw := b3
  obtain ⟨_, d0, d1, fR⟩ := id hfb
  go_wp2
  have hF := hfb.put (0) (0)
  have hBB := ((hbw.setCell (p := ⟨w.heap.size + 1 + 1, 0, none⟩) (by show w.heap.size ≤ w.heap.size + 1 + 1; omega) (.int .i64 (0))).setCell (p := ⟨w.heap.size + 1 + 1, 1, none⟩) (by show w.heap.size ≤ w.heap.size + 1 + 1; omega) (.int .i64 (0)))
  obtain ⟨WW, hWW⟩ : ∃ WW, WW = ((w3.setCell ⟨w.heap.size + 1 + 1, 0, none⟩ (.int .i64 (0))).setCell ⟨w.heap.size + 1 + 1, 1, none⟩ (.int .i64 (0))) := ⟨_, rfl⟩
  rw [← hWW] at hF hBB ⊢
  clear hWW
  obtain ⟨_, hF0, hF1, _⟩ := hF
  exact bodyPost_ret (v := .tuple #[.agg #[.int .i64 (0), .int .i64 (0)], .int .i64 2]) (by simp [results, Try.results38, go_sem, hF0, hF1]) rfl ⟨rfl, hBB⟩
set_option maxHeartbeats 4000000 in
theorem ic_ok (X : SM) (u : Value) (k m y : Nat) (hS : SlT w u X.ts) (hbd : BdS X) (hv : VSum X) (hk : VK k m y) (hf : Fits k m y X.n X.e X.s) (P Q : Int) (hPQ : coF X.ts k m (leastK m k y : Nat) = (P, Q)) :
    Calls Try.prog 38 #[.agg #[.int .i64 X.n, .int .u32 X.e, .int .i64 X.s, u], .agg #[.int .i64 k, .int .i64 m, .int .u32 y]] w (RetFr w P Q 0) := by
  have hV := Lib.hid (fun W (hb : Below w.heap.size w W) => ivs_any W X u (hS.below hb) hbd true ⟨fun _ => hv, fun _ => rfl⟩)
  have hK := Lib.hid (fun W => ivk_t W k m y hk)
  have hI := Lib.hid (fun W => iof_any W k m y X.n X.e X.s hk true ⟨fun _ => hf, fun _ => rfl⟩)
  have hL := Lib.hid (fun W => leastK_any W k m y hk)
  have hC := Lib.hid (fun W (hb : Below w.heap.size w W) => ico_any W X.n X.e X.s k m (leastK m k y : Nat) X.ts u (hS.below hb) hv.2.2.1 P Q hPQ)
  obtain ⟨z, hz⟩ : ∃ z, leastK m k y = z := ⟨_, rfl⟩
  rw [hz] at hL hC
  obtain ⟨a, cap, rfl, _⟩ := id hS
  obtain ⟨l, hl⟩ : ∃ l, X.ts.length = l := ⟨_, rfl⟩
  rw [hl] at hV hC ⊢
  clear hl hS hbd hv hk hf hPQ hz
  obtain ⟨W0, hW0⟩ : ∃ W0, W0 = ((w.alloc (.cells #[.int .i64 X.n, .int .u32 X.e, .int .i64 X.s, .slice a l cap] 50)).alloc (.cells #[.int .i64 k, .int .i64 m, .int .u32 y] 34)).alloc (.cells #[.int .i64 0, .int .i64 0] 63) := ⟨_, rfl⟩
  have hb0 : Below w.heap.size w W0 := by rw [hW0]; (repeat (first | exact Below.refl _ _ | assumption | refine bchain (by assumption) ?_ | refine balloc ?_ _ | apply Below.drew | apply below_drewN | (refine Below.alloc ?_ (by (try simp) <;> omega) _) | (refine Below.setCell ?_ (by (try simp) <;> omega) _)))
  have sz : ∀ (W : World) (o : Obj), (W.alloc o).heap.size = W.heap.size + 1 := fun W o => by simp
  have k0 : SB W0 w.heap.size X.n X.e X.s (.slice a l cap) := by rw [hW0]; exact ((SB.made _ _ _ _ _ _).below (balloc (Below.refl _ _) _)).below (balloc (Below.refl _ _) _)
  have f0 : FC W0 (w.heap.size + 1) k m y := by rw [hW0, ← sz w (.cells #[.int .i64 X.n, .int .u32 X.e, .int .i64 X.s, .slice a l cap] 50)]; exact (FC.made _ _ _ _ _).below (balloc (Below.refl _ _) _)
  have r0 : FrB W0 (w.heap.size + 1 + 1) 0 0 := by rw [hW0, ← sz w (.cells #[.int .i64 X.n, .int .u32 X.e, .int .i64 X.s, .slice a l cap] 50), ← sz _ (.cells #[.int .i64 k, .int .i64 m, .int .u32 y] 34)]; exact FrB.made _ _ _ _
  replace hW0 := Lib.hid hW0
  clear sz
  obtain ⟨_, x0, x1, x2, x3, _⟩ := id k0
  go_enter Try.func38, Try.ntmps38
  go_wp2_with fail
  rw [← hW0.out]
  go_wp2_with fail
  refine (hV.out _ hb0).mono ?_
  rintro r1 w1 ⟨rfl, hb1⟩
  have k1 := k0.below hb1
  have f1 := f0.below hb1
  have r1 := r0.below hb1
  have b1 := bchain hb1 hb0
  clear hb1 x0 x1 x2 x3 k0 f0 r0 hb0
  obtain ⟨_, e0, e1, e2⟩ := id f1
  go_wp2_with fail
  refine (hK.out _).mono ?_
  rintro r2 w2 ⟨rfl, hb2⟩
  have k2 := k1.below hb2
  have f2 := f1.below hb2
  have r2 := r1.below hb2
  have b2 := bchain hb2 b1
  clear hb2 e0 e1 e2 k1 f1 r1 b1
  obtain ⟨_, e0, e1, e2⟩ := id f2
  obtain ⟨_, x0, x1, x2, x3, _⟩ := id k2
  go_wp2_with fail
  refine (hI.out _).mono ?_
  rintro r3 w3 ⟨rfl, hb3⟩
  have k3 := k2.below hb3
  have f3 := f2.below hb3
  have r3 := r2.below hb3
  have b3 := bchain hb3 b2
  clear hb3 e0 e1 e2 x0 x1 x2 x3 k2 f2 r2 b2
  have k3' := Lib.hid k3
  have f3' := Lib.hid f3
  have r3' := Lib.hid r3
  obtain ⟨_, e0, e1, e2⟩ := id f3
  obtain ⟨_, x0, x1, x2, x3, _⟩ := id k3
  obtain ⟨_, d0, d1, fR⟩ := id r3
  clear k3 f3 r3
  go_wp2_with fail
  go_region_held3 (fun A => A.cell? ⟨w.heap.size, 0, none⟩ = some (.int .i64 X.n) ∧ A.cell? ⟨w.heap.size, 1, none⟩ = some (.int .u32 X.e) ∧ A.cell? ⟨w.heap.size, 2, none⟩ = some (.int .i64 X.s) ∧ A.cell? ⟨w.heap.size, 3, none⟩ = some (.slice a l cap) ∧
      A.cell? ⟨w.heap.size + 1, 0, none⟩ = some (.int .i64 (k : Int)) ∧ A.cell? ⟨w.heap.size + 1, 1, none⟩ = some (.int .i64 (m : Int)) ∧ A.cell? ⟨w.heap.size + 1, 2, none⟩ = some (.int .u32 (y : Int)) ∧
      A.cell? ⟨w.heap.size + 1 + 1, 0, none⟩ = some (cellOf A ⟨w.heap.size + 1 + 1, 0, none⟩) ∧ A.cell? ⟨w.heap.size + 1 + 1, 1, none⟩ = some (cellOf A ⟨w.heap.size + 1 + 1, 1, none⟩) ∧ A.frozen? ⟨w.heap.size + 1 + 1, 0, none⟩ = false ∧ A.frozen? ⟨w.heap.size + 1 + 1, 1, none⟩ = false)
    (first | exact co_held k3'.out f3'.out r3'.out (by (repeat (first | exact Below.refl _ _ | assumption | refine bchain (by assumption) ?_ | refine balloc ?_ _ | apply Below.drew | apply below_drewN | (refine Below.alloc ?_ (by (try simp) <;> omega) _) | (refine Below.setCell ?_ (by (try simp) <;> omega) _)))) rfl | exact co_keep k3'.out f3'.out r3'.out (by (repeat (first | exact Below.refl _ _ | assumption | refine bchain (by assumption) ?_ | refine balloc ?_ _ | apply Below.drew | apply below_drewN | (refine Below.alloc ?_ (by (try simp) <;> omega) _) | (refine Below.setCell ?_ (by (try simp) <;> omega) _)))))
    (first
    | (go_at_call 72; with_reducible refine (hL.out _).mono ?_; rintro r4 w4 ⟨rfl, hb4⟩)
    | (go_at_call 86; with_reducible refine (hC.out _ (bchain hb4 (Below.drew b3))).mono ?_; rintro r5 w5 ⟨rfl, hb5⟩))
  have hb35 : Below w3.heap.size w3 w5 := bchain hb5 (bchain hb4 (Below.refl _ w3).drew)
  have hfb := r3'.out.below hb35
  have hbw := bchain hb35 b3
  go_wp2
  have hF := hfb.put (P) (Q)
  have hBB := ((hbw.setCell (p := ⟨w.heap.size + 1 + 1, 0, none⟩) (by show w.heap.size ≤ w.heap.size + 1 + 1; omega) (.int .i64 (P))).setCell (p := ⟨w.heap.size + 1 + 1, 1, none⟩) (by show w.heap.size ≤ w.heap.size + 1 + 1; omega) (.int .i64 (Q)))
  obtain ⟨WW, hWW⟩ : ∃ WW, WW = ((w5.setCell ⟨w.heap.size + 1 + 1, 0, none⟩ (.int .i64 (P))).setCell ⟨w.heap.size + 1 + 1, 1, none⟩ (.int .i64 (Q))) := ⟨_, rfl⟩
  rw [← hWW] at hF hBB ⊢
  clear hWW
  obtain ⟨_, hF0, hF1, _⟩ := hF
  exact bodyPost_ret (v := .tuple #[.agg #[.int .i64 (P), .int .i64 (Q)], .int .i64 0]) (by simp [results, Try.results38, go_sem, hF0, hF1]) rfl ⟨rfl, hBB⟩
theorem sc_sum (X : SM) (u : Value) (k m y : Int) (hS : SlT w u X.ts) (hbd : BdS X) (hv : ¬ VSum X) :
    Calls Try.prog 37 #[.agg #[.int .i64 X.n, .int .u32 X.e, .int .i64 X.s, u], .agg #[.int .i64 k, .int .i64 m, .int .u32 y]] w (RetFr w 0 0 1) := by
  have hV := Lib.hid (fun W G (hb : Below w.heap.size w W) c1 => sv5_any W X u G c1 (hS.below hb) hbd false ⟨fun c => (by cases c), fun c => absurd c hv⟩)
  obtain ⟨a, cap, rfl, _⟩ := id hS
  obtain ⟨l, hl⟩ : ∃ l, X.ts.length = l := ⟨_, rfl⟩
  rw [hl] at hV ⊢
  clear hl hS hbd hv
  obtain ⟨W0, hW0⟩ : ∃ W0, W0 = ((w.alloc (.cells #[.int .i64 X.n, .int .u32 X.e, .int .i64 X.s, .slice a l cap] 50)).alloc (.cells #[.int .i64 k, .int .i64 m, .int .u32 y] 34)).alloc (.cells #[.int .i64 0, .int .i64 0] 63) := ⟨_, rfl⟩
  have hb0 : Below w.heap.size w W0 := by rw [hW0]; (repeat (first | exact Below.refl _ _ | assumption | refine bchain (by assumption) ?_ | refine balloc ?_ _ | apply Below.drew | apply below_drewN | (refine Below.alloc ?_ (by (try simp) <;> omega) _) | (refine Below.setCell ?_ (by (try simp) <;> omega) _)))
  have sz : ∀ (W : World) (o : Obj), (W.alloc o).heap.size = W.heap.size + 1 := fun W o => by simp
  have k0 : SB W0 w.heap.size X.n X.e X.s (.slice a l cap) := by rw [hW0]; exact ((SB.made _ _ _ _ _ _).below (balloc (Below.refl _ _) _)).below (balloc (Below.refl _ _) _)
  have f0 : FC W0 (w.heap.size + 1) k m y := by rw [hW0, ← sz w (.cells #[.int .i64 X.n, .int .u32 X.e, .int .i64 X.s, .slice a l cap] 50)]; exact (FC.made _ _ _ _ _).below (balloc (Below.refl _ _) _)
  have r0 : FrB W0 (w.heap.size + 1 + 1) 0 0 := by rw [hW0, ← sz w (.cells #[.int .i64 X.n, .int .u32 X.e, .int .i64 X.s, .slice a l cap] 50), ← sz _ (.cells #[.int .i64 k, .int .i64 m, .int .u32 y] 34)]; exact FrB.made _ _ _ _
  replace hW0 := Lib.hid hW0
  clear sz
  obtain ⟨_, x0, x1, x2, x3, _⟩ := id k0
  go_enter Try.func37, Try.ntmps37
  go_wp2_with fail
  rw [← hW0.out]
  refine (hV.out _ _ hb0 k0).mono ?_
  rintro r1 w1 ⟨rfl, hb1⟩
  have k1 := k0.below hb1
  have f1 := f0.below hb1
  have r1 := r0.below hb1
  have b1 := bchain hb1 hb0
  clear hb1 x0 x1 x2 x3 k0 f0 r0 hb0
  have hfb := r1
  have hbw := b1
  obtain ⟨_, d0, d1, fR⟩ := id hfb
  go_wp2
  have hF := hfb.put (0) (0)
  have hBB := ((hbw.setCell (p := ⟨w.heap.size + 1 + 1, 0, none⟩) (by show w.heap.size ≤ w.heap.size + 1 + 1; omega) (.int .i64 (0))).setCell (p := ⟨w.heap.size + 1 + 1, 1, none⟩) (by show w.heap.size ≤ w.heap.size + 1 + 1; omega) (.int .i64 (0)))
  obtain ⟨WW, hWW⟩ : ∃ WW, WW = ((w1.setCell ⟨w.heap.size + 1 + 1, 0, none⟩ (.int .i64 (0))).setCell ⟨w.heap.size + 1 + 1, 1, none⟩ (.int .i64 (0))) := ⟨_, rfl⟩
  rw [← hWW] at hF hBB ⊢
  clear hWW
  obtain ⟨_, hF0, hF1, _⟩ := hF
  exact bodyPost_ret (v := .tuple #[.agg #[.int .i64 (0), .int .i64 (0)], .int .i64 1]) (by simp [results, Try.results37, go_sem, hF0, hF1]) rfl ⟨rfl, hBB⟩
theorem sc_flag (X : SM) (u : Value) (k m y : Int) (hS : SlT w u X.ts) (hbd : BdS X) (hv : VSum X) (hy : y < 4294967296) (hy0 : 0 ≤ y) (hk : ¬ VK k m y) :
    Calls Try.prog 37 #[.agg #[.int .i64 X.n, .int .u32 X.e, .int .i64 X.s, u], .agg #[.int .i64 k, .int .i64 m, .int .u32 y]] w (RetFr w 0 0 1) := by
  have hV := Lib.hid (fun W G (hb : Below w.heap.size w W) c1 => sv5_any W X u G c1 (hS.below hb) hbd true ⟨fun _ => hv, fun _ => rfl⟩)
  have hK := Lib.hid (fun W => sok_f W k m y hy hy0 hk)
  obtain ⟨a, cap, rfl, _⟩ := id hS
  obtain ⟨l, hl⟩ : ∃ l, X.ts.length = l := ⟨_, rfl⟩
  rw [hl] at hV ⊢
  clear hl hS hbd hv hy hy0 hk
  obtain ⟨W0, hW0⟩ : ∃ W0, W0 = ((w.alloc (.cells #[.int .i64 X.n, .int .u32 X.e, .int .i64 X.s, .slice a l cap] 50)).alloc (.cells #[.int .i64 k, .int .i64 m, .int .u32 y] 34)).alloc (.cells #[.int .i64 0, .int .i64 0] 63) := ⟨_, rfl⟩
  have hb0 : Below w.heap.size w W0 := by rw [hW0]; (repeat (first | exact Below.refl _ _ | assumption | refine bchain (by assumption) ?_ | refine balloc ?_ _ | apply Below.drew | apply below_drewN | (refine Below.alloc ?_ (by (try simp) <;> omega) _) | (refine Below.setCell ?_ (by (try simp) <;> omega) _)))
  have sz : ∀ (W : World) (o : Obj), (W.alloc o).heap.size = W.heap.size + 1 := fun W o => by simp
  have k0 : SB W0 w.heap.size X.n X.e X.s (.slice a l cap) := by rw [hW0]; exact ((SB.made _ _ _ _ _ _).below (balloc (Below.refl _ _) _)).below (balloc (Below.refl _ _) _)
  have f0 : FC W0 (w.heap.size + 1) k m y := by rw [hW0, ← sz w (.cells #[.int .i64 X.n, .int .u32 X.e, .int .i64 X.s, .slice a l cap] 50)]; exact (FC.made _ _ _ _ _).below (balloc (Below.refl _ _) _)
  have r0 : FrB W0 (w.heap.size + 1 + 1) 0 0 := by rw [hW0, ← sz w (.cells #[.int .i64 X.n, .int .u32 X.e, .int .i64 X.s, .slice a l cap] 50), ← sz _ (.cells #[.int .i64 k, .int .i64 m, .int .u32 y] 34)]; exact FrB.made _ _ _ _
  replace hW0 := Lib.hid hW0
  clear sz
  obtain ⟨_, x0, x1, x2, x3, _⟩ := id k0
  go_enter Try.func37, Try.ntmps37
  go_wp2_with fail
  rw [← hW0.out]
  refine (hV.out _ _ hb0 k0).mono ?_
  rintro r1 w1 ⟨rfl, hb1⟩
  have k1 := k0.below hb1
  have f1 := f0.below hb1
  have r1 := r0.below hb1
  have b1 := bchain hb1 hb0
  clear hb1 x0 x1 x2 x3 k0 f0 r0 hb0
  obtain ⟨_, e0, e1, e2⟩ := id f1
  go_wp2_with fail
  refine (hK.out _).mono ?_
  rintro r2 w2 ⟨rfl, hb2⟩
  have hfb := r1.below hb2
  have hbw := bchain hb2 b1
  obtain ⟨_, d0, d1, fR⟩ := id hfb
  go_wp2
  have hF := hfb.put (0) (0)
  have hBB := ((hbw.setCell (p := ⟨w.heap.size + 1 + 1, 0, none⟩) (by show w.heap.size ≤ w.heap.size + 1 + 1; omega) (.int .i64 (0))).setCell (p := ⟨w.heap.size + 1 + 1, 1, none⟩) (by show w.heap.size ≤ w.heap.size + 1 + 1; omega) (.int .i64 (0)))
  obtain ⟨WW, hWW⟩ : ∃ WW, WW = ((w2.setCell ⟨w.heap.size + 1 + 1, 0, none⟩ (.int .i64 (0))).setCell ⟨w.heap.size + 1 + 1, 1, none⟩ (.int .i64 (0))) := ⟨_, rfl⟩
  rw [← hWW] at hF hBB ⊢
  clear hWW
  obtain ⟨_, hF0, hF1, _⟩ := hF
  exact bodyPost_ret (v := .tuple #[.agg #[.int .i64 (0), .int .i64 (0)], .int .i64 1]) (by simp [results, Try.results37, go_sem, hF0, hF1]) rfl ⟨rfl, hBB⟩
theorem sc_fit (X : SM) (u : Value) (k m y : Nat) (hS : SlT w u X.ts) (hbd : BdS X) (hv : VSum X) (hk : VK k m y) (hf : ¬ Fits k m y X.n X.e X.s) :
    Calls Try.prog 37 #[.agg #[.int .i64 X.n, .int .u32 X.e, .int .i64 X.s, u], .agg #[.int .i64 k, .int .i64 m, .int .u32 y]] w (RetFr w 0 0 2) := by
  have hV := Lib.hid (fun W G (hb : Below w.heap.size w W) c1 => sv5_any W X u G c1 (hS.below hb) hbd true ⟨fun _ => hv, fun _ => rfl⟩)
  have hK := Lib.hid (fun W => sok_t W k m y hk)
  have hI := Lib.hid (fun W => sof_any W k m y X.n X.e X.s hk false ⟨fun c => (by cases c), fun c => absurd c hf⟩)
  obtain ⟨a, cap, rfl, _⟩ := id hS
  obtain ⟨l, hl⟩ : ∃ l, X.ts.length = l := ⟨_, rfl⟩
  rw [hl] at hV ⊢
  clear hl hS hbd hv hk hf
  obtain ⟨W0, hW0⟩ : ∃ W0, W0 = ((w.alloc (.cells #[.int .i64 X.n, .int .u32 X.e, .int .i64 X.s, .slice a l cap] 50)).alloc (.cells #[.int .i64 k, .int .i64 m, .int .u32 y] 34)).alloc (.cells #[.int .i64 0, .int .i64 0] 63) := ⟨_, rfl⟩
  have hb0 : Below w.heap.size w W0 := by rw [hW0]; (repeat (first | exact Below.refl _ _ | assumption | refine bchain (by assumption) ?_ | refine balloc ?_ _ | apply Below.drew | apply below_drewN | (refine Below.alloc ?_ (by (try simp) <;> omega) _) | (refine Below.setCell ?_ (by (try simp) <;> omega) _)))
  have sz : ∀ (W : World) (o : Obj), (W.alloc o).heap.size = W.heap.size + 1 := fun W o => by simp
  have k0 : SB W0 w.heap.size X.n X.e X.s (.slice a l cap) := by rw [hW0]; exact ((SB.made _ _ _ _ _ _).below (balloc (Below.refl _ _) _)).below (balloc (Below.refl _ _) _)
  have f0 : FC W0 (w.heap.size + 1) k m y := by rw [hW0, ← sz w (.cells #[.int .i64 X.n, .int .u32 X.e, .int .i64 X.s, .slice a l cap] 50)]; exact (FC.made _ _ _ _ _).below (balloc (Below.refl _ _) _)
  have r0 : FrB W0 (w.heap.size + 1 + 1) 0 0 := by rw [hW0, ← sz w (.cells #[.int .i64 X.n, .int .u32 X.e, .int .i64 X.s, .slice a l cap] 50), ← sz _ (.cells #[.int .i64 k, .int .i64 m, .int .u32 y] 34)]; exact FrB.made _ _ _ _
  replace hW0 := Lib.hid hW0
  clear sz
  obtain ⟨_, x0, x1, x2, x3, _⟩ := id k0
  go_enter Try.func37, Try.ntmps37
  go_wp2_with fail
  rw [← hW0.out]
  refine (hV.out _ _ hb0 k0).mono ?_
  rintro r1 w1 ⟨rfl, hb1⟩
  have k1 := k0.below hb1
  have f1 := f0.below hb1
  have r1 := r0.below hb1
  have b1 := bchain hb1 hb0
  clear hb1 x0 x1 x2 x3 k0 f0 r0 hb0
  obtain ⟨_, e0, e1, e2⟩ := id f1
  go_wp2_with fail
  refine (hK.out _).mono ?_
  rintro r2 w2 ⟨rfl, hb2⟩
  have k2 := k1.below hb2
  have f2 := f1.below hb2
  have r2 := r1.below hb2
  have b2 := bchain hb2 b1
  clear hb2 e0 e1 e2 k1 f1 r1 b1
  obtain ⟨_, e0, e1, e2⟩ := id f2
  obtain ⟨_, x0, x1, x2, x3, _⟩ := id k2
  go_wp2_with fail
  refine (hI.out _).mono ?_
  rintro r3 w3 ⟨rfl, hb3⟩
  have k3 := k2.below hb3
  have f3 := f2.below hb3
  have r3 := r2.below hb3
  have b3 := bchain hb3 b2
  clear hb3 e0 e1 e2 x0 x1 x2 x3 k2 f2 r2 b2
  have hfb := r3
  have hbw := b3
  obtain ⟨_, d0, d1, fR⟩ := id hfb
  go_wp2
  have hF := hfb.put (0) (0)
  have hBB := ((hbw.setCell (p := ⟨w.heap.size + 1 + 1, 0, none⟩) (by show w.heap.size ≤ w.heap.size + 1 + 1; omega) (.int .i64 (0))).setCell (p := ⟨w.heap.size + 1 + 1, 1, none⟩) (by show w.heap.size ≤ w.heap.size + 1 + 1; omega) (.int .i64 (0)))
  obtain ⟨WW, hWW⟩ : ∃ WW, WW = ((w3.setCell ⟨w.heap.size + 1 + 1, 0, none⟩ (.int .i64 (0))).setCell ⟨w.heap.size + 1 + 1, 1, none⟩ (.int .i64 (0))) := ⟨_, rfl⟩
  rw [← hWW] at hF hBB ⊢
  clear hWW
  obtain ⟨_, hF0, hF1, _⟩ := hF
  exact bodyPost_ret (v := .tuple #[.agg #[.int .i64 (0), .int .i64 (0)], .int .i64 2]) (by simp [results, Try.results37, go_sem, hF0, hF1]) rfl ⟨rfl, hBB⟩
set_option maxHeartbeats 8000000 in
theorem sc_ok (X : SM) (u : Value) (k m y0 : Nat) (hS : SlT w u X.ts) (hbd : BdS X) (hv : VSum X) (hk : VK k m y0) (hf : Fits k m y0 X.n X.e X.s) (P Q : Int) (hPQ : coF X.ts k m (leastK m k y0 : Nat) = (P, Q)) :
    Calls Try.prog 37 #[.agg #[.int .i64 X.n, .int .u32 X.e, .int .i64 X.s, u], .agg #[.int .i64 k, .int .i64 m, .int .u32 y0]] w (RetFr w P Q 0) := by
  have hV := Lib.hid (fun W G (hb : Below w.heap.size w W) c1 => sv5_any W X u G c1 (hS.below hb) hbd true ⟨fun _ => hv, fun _ => rfl⟩)
  have hK := Lib.hid (fun W => sok_t W k m y0 hk)
  have hI := Lib.hid (fun W => sof_any W k m y0 X.n X.e X.s hk true ⟨fun _ => hf, fun _ => rfl⟩)
  have hL := Lib.hid (fun W => sleastK_any W k m y0 hk)
  obtain ⟨y, hz⟩ : ∃ y, leastK m k y0 = y := ⟨_, rfl⟩
  rw [hz] at hL hPQ
  replace hPQ := Lib.hid hPQ
  have hl64 := hv.2.2.1
  obtain ⟨a, cap, hu, h1, h2, h3⟩ := id hS
  obtain ⟨l, hl⟩ : ∃ l, X.ts.length = l := ⟨_, rfl⟩
  have h3b : Hid (0 < l → ∃ b off, a = some ⟨b, off, none⟩ ∧ b < w.heap.size ∧ ∀ i, i < l → TCell w b off (tAt X.ts i) i) := fun h => by rw [← hl] at h ⊢; exact h3 (List.length_pos_iff.1 h)
  rw [hu] at hV ⊢
  rw [hl] at hV h1 hl64 ⊢
  have hld := Lib.hid hl
  clear hl hS hbd hv hk hf hz h3 hu
  obtain ⟨W0, hW0⟩ : ∃ W0, W0 = ((w.alloc (.cells #[.int .i64 X.n, .int .u32 X.e, .int .i64 X.s, .slice a l cap] 50)).alloc (.cells #[.int .i64 k, .int .i64 m, .int .u32 y0] 34)).alloc (.cells #[.int .i64 0, .int .i64 0] 63) := ⟨_, rfl⟩
  have hb0 : Below w.heap.size w W0 := by rw [hW0]; (repeat (first | exact Below.refl _ _ | assumption | refine bchain (by assumption) ?_ | refine balloc ?_ _ | apply Below.drew | apply below_drewN | (refine Below.alloc ?_ (by (try simp) <;> omega) _) | (refine Below.setCell ?_ (by (try simp) <;> omega) _)))
  have sz : ∀ (W : World) (o : Obj), (W.alloc o).heap.size = W.heap.size + 1 := fun W o => by simp
  have k0 : SB W0 w.heap.size X.n X.e X.s (.slice a l cap) := by rw [hW0]; exact ((SB.made _ _ _ _ _ _).below (balloc (Below.refl _ _) _)).below (balloc (Below.refl _ _) _)
  have f0 : FC W0 (w.heap.size + 1) k m y0 := by rw [hW0, ← sz w (.cells #[.int .i64 X.n, .int .u32 X.e, .int .i64 X.s, .slice a l cap] 50)]; exact (FC.made _ _ _ _ _).below (balloc (Below.refl _ _) _)
  have r0 : FrB W0 (w.heap.size + 1 + 1) 0 0 := by rw [hW0, ← sz w (.cells #[.int .i64 X.n, .int .u32 X.e, .int .i64 X.s, .slice a l cap] 50), ← sz _ (.cells #[.int .i64 k, .int .i64 m, .int .u32 y0] 34)]; exact FrB.made _ _ _ _
  replace hW0 := Lib.hid hW0
  clear sz
  obtain ⟨_, x0, x1, x2, x3, _⟩ := id k0
  go_enter Try.func37, Try.ntmps37
  go_wp2_with fail
  rw [← hW0.out]
  refine (hV.out _ _ hb0 k0).mono ?_
  rintro r1 w1 ⟨rfl, hb1⟩
  have k1 := k0.below hb1
  have f1 := f0.below hb1
  have r1 := r0.below hb1
  have b1 := bchain hb1 hb0
  clear hb1 x0 x1 x2 x3 k0 f0 r0 hb0
  obtain ⟨_, e0, e1, e2⟩ := id f1
  go_wp2_with fail
  refine (hK.out _).mono ?_
  rintro r2 w2 ⟨rfl, hb2⟩
  have k2 := k1.below hb2
  have f2 := f1.below hb2
  have r2 := r1.below hb2
  have b2 := bchain hb2 b1
  clear hb2 e0 e1 e2 k1 f1 r1 b1
  obtain ⟨_, e0, e1, e2⟩ := id f2
  obtain ⟨_, x0, x1, x2, x3, _⟩ := id k2
  go_wp2_with fail
  refine (hI.out _).mono ?_
  rintro r3 w3 ⟨rfl, hb3⟩
  have k3 := k2.below hb3
  have f3 := f2.below hb3
  have r3 := r2.below hb3
  have b3 := bchain hb3 b2
  clear hb3 e0 e1 e2 x0 x1 x2 x3 k2 f2 r2 b2
  obtain ⟨_, e0, e1, e2⟩ := id f3
  go_wp2_with fail
  refine (hL.out _).mono ?_
  rintro r4 w4 ⟨rfl, hb4⟩
  have k4 := k3.below hb4
  have r4 := r3.below hb4
  have b4 := bchain hb4 b3
  obtain ⟨W5, hW5⟩ : ∃ W5, W5 = w4.alloc (.cells #[.int .i64 (k : Int), .int .i64 (m : Int), .int .u32 (y : Int)] 34) := ⟨_, rfl⟩
  have hb45 : Below w4.heap.size w4 W5 := by rw [hW5]; (repeat (first | exact Below.refl _ _ | assumption | refine bchain (by assumption) ?_ | refine balloc ?_ _ | apply Below.drew | apply below_drewN | (refine Below.alloc ?_ (by (try simp) <;> omega) _) | (refine Below.setCell ?_ (by (try simp) <;> omega) _)))
  have k5 := k4.below hb45
  have r5 := r4.below hb45
  have b5 := bchain hb45 b4
  have f5 : FC W5 w4.heap.size k m y := by rw [hW5]; exact FC.made _ _ _ _ _
  clear hb4 hb45 e0 e1 e2 k3 f3 r3 b3 k4 r4 b4
  obtain ⟨_, x0, x1, x2, x3, _⟩ := id k5
  go_wp2_with fail
  rw [← hW5]
  replace hW5 := Lib.hid hW5
  go_loopw [7] (fun q wr => ∃ i : Nat, i ≤ l ∧ q = .int .i64 i ∧ (∀ j, j < i → isT k m y (tAt X.ts j) = false) ∧ SB wr w.heap.size X.n X.e X.s (.slice a l cap) ∧ FC wr w4.heap.size k m y ∧ FrB wr (w.heap.size + 1 + 1) 0 0 ∧ Below w.heap.size w wr) (fun q _ => l - (intOf q).toNat)
  case atStart => exact ⟨0, by omega, rfl, fun j hj => by omega, k5, f5, r5, b5⟩
  case round =>
    clear k5 f5 r5 b5 x0 x1 x2 x3
    obtain ⟨i, hi, rfl, hno, hk5, hf, hr, hB⟩ := hrel
    replace hno := Lib.hid hno
    obtain ⟨_, x0, x1, x2, x3, _⟩ := id hk5
    by_cases hlt : i < l
    · skip
      obtain ⟨b, off, rfl, hb, hg⟩ := h3b.out (by omega)
      have hgi := hg i hlt
      obtain ⟨g, hBk⟩ : ∃ g, tAt X.ts i = g := ⟨_, rfl⟩
      obtain ⟨yy0, y1, y2, y3, y4⟩ := g
      rw [hBk] at hgi
      have s0 : wr.cell? ⟨b, off + i * 5, none⟩ = some (.int .i64 yy0) := by rw [hB.cell (p := ⟨b, _, none⟩) hb]; exact hgi.1
      have s1 : wr.cell? ⟨b, off + i * 5 + 1, none⟩ = some (.int .i64 y1) := by rw [hB.cell (p := ⟨b, _, none⟩) hb]; exact hgi.2.1
      have s2 : wr.cell? ⟨b, off + i * 5 + 2, none⟩ = some (.int .u32 y2) := by rw [hB.cell (p := ⟨b, _, none⟩) hb]; exact hgi.2.2.1
      have s3 : wr.cell? ⟨b, off + i * 5 + 3, none⟩ = some (.int .i64 y3) := by rw [hB.cell (p := ⟨b, _, none⟩) hb]; exact hgi.2.2.2.1
      have s4 : wr.cell? ⟨b, off + i * 5 + 4, none⟩ = some (.int .i64 y4) := by rw [hB.cell (p := ⟨b, _, none⟩) hb]; exact hgi.2.2.2.2
      have hkl : (i : Int) < (l : Int) := by omega
      have hk0 : (0 : Int) ≤ (i : Int) := by omega
      have hBz := hB.size
      clear hgi hg
      obtain ⟨zf, f0, f1, f2⟩ := id hf
      obtain ⟨zr, d0, d1, fR⟩ := id hr
      by_cases c : yy0 = k ∧ y1 = m ∧ y2 = y
      · obtain ⟨rfl, rfl, rfl⟩ := c
        have hh := coF_hit (ts := X.ts) (by rw [hld.out]; exact hlt) hno.out (by rw [hBk]; simp [isT])
        rw [hPQ.out, hBk] at hh
        dsimp only at hh
        cases hh
        have hq : ∀ W, (Op.equalIn 10000 34 (.agg #[.int .i64 (k : Int), .int .i64 (m : Int), .int .u32 (y : Int)]) (.agg #[.int .i64 (k : Int), .int .i64 (m : Int), .int .u32 (y : Int)])).run Try.prog W = .ok true W := fun W => by rw [eqFl]; simp
        go_wp2
        go_quiet (fail)
        have hfb := hr.drewN nq
        have hbw := below_drewN hB nq
        obtain ⟨_, v0, v1, vR⟩ := id hfb
        go_wp2
        have hF := hfb.put (P) (Q)
        have hBB := ((hbw.setCell (p := ⟨w.heap.size + 1 + 1, 0, none⟩) (by show w.heap.size ≤ w.heap.size + 1 + 1; omega) (.int .i64 (P))).setCell (p := ⟨w.heap.size + 1 + 1, 1, none⟩) (by show w.heap.size ≤ w.heap.size + 1 + 1; omega) (.int .i64 (Q)))
        obtain ⟨WW, hWW⟩ : ∃ WW, WW = (((wr.drewN nq).setCell ⟨w.heap.size + 1 + 1, 0, none⟩ (.int .i64 (P))).setCell ⟨w.heap.size + 1 + 1, 1, none⟩ (.int .i64 (Q))) := ⟨_, rfl⟩
        rw [← hWW] at hF hBB ⊢
        clear hWW
        obtain ⟨_, hF0, hF1, _⟩ := hF
        exact bodyPost_ret (v := .tuple #[.agg #[.int .i64 (P), .int .i64 (Q)], .int .i64 0]) (by simp [results, Try.results37, go_sem, hF0, hF1]) rfl ⟨rfl, hBB⟩
      · have hq : ∀ W, (Op.equalIn 10000 34 (.agg #[.int .i64 yy0, .int .i64 y1, .int .u32 y2]) (.agg #[.int .i64 k, .int .i64 m, .int .u32 y])).run Try.prog W = .ok false W := fun W => by
          rw [eqFl]
          have : (yy0 == k && (y1 == m && y2 == y)) = false := by
            rw [Bool.eq_false_iff]
            intro h
            simp at h
            exact c h
          rw [this]
        have hno2 : ∀ j, j < i + 1 → isT k m y (tAt X.ts j) = false := fun j hj => by
          by_cases e : j = i
          · subst e
            rw [hBk, Bool.eq_false_iff]
            intro h
            simp [isT] at h
            exact c h
          · exact hno.out j (by omega)
        replace hno2 := Lib.hid hno2
        clear hno c
        go_wp2
        go_quiet (fail)
        go_wp2
        go_roundw
        case rel => exact ⟨i + 1, by omega, by go_num, hno2.out, hk5.drewN _, hf.drewN _, hr.drewN _, below_drewN hB _⟩
        case measure => simp [intOf]; omega
    · obtain rfl : i = l := by omega
      have hd := decide_eq_false (show ¬ ((i : Int) < (i : Int)) by omega)
      have hh := coF_miss (ts := X.ts) (fun j hj => hno.out j (by rw [← hld.out]; exact hj))
      rw [hPQ.out] at hh
      cases hh
      go_wp2_with fail
      refine (slz_any _).mono ?_
      rintro r6 w6 ⟨rfl, hb6⟩
      have hfb := hr.below hb6
      have hbw := bchain hb6 hB
      obtain ⟨_, d0, d1, fR⟩ := id hfb
      go_wp2
      have hF := hfb.put (0) (1)
      have hBB := ((hbw.setCell (p := ⟨w.heap.size + 1 + 1, 0, none⟩) (by show w.heap.size ≤ w.heap.size + 1 + 1; omega) (.int .i64 (0))).setCell (p := ⟨w.heap.size + 1 + 1, 1, none⟩) (by show w.heap.size ≤ w.heap.size + 1 + 1; omega) (.int .i64 (1)))
      obtain ⟨WW, hWW⟩ : ∃ WW, WW = ((w6.setCell ⟨w.heap.size + 1 + 1, 0, none⟩ (.int .i64 (0))).setCell ⟨w.heap.size + 1 + 1, 1, none⟩ (.int .i64 (1))) := ⟨_, rfl⟩
      rw [← hWW] at hF hBB ⊢
      clear hWW
      obtain ⟨_, hF0, hF1, _⟩ := hF
      exact bodyPost_ret (v := .tuple #[.agg #[.int .i64 (0), .int .i64 (1)], .int .i64 0]) (by simp [results, Try.results37, go_sem, hF0, hF1]) rfl ⟨rfl, hBB⟩
end
end Go.Proofs.Ytpobonomdfbanaa
