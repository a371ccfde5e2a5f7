/-
  FromSquares: the program, whole.
-/
import Derived.Test.YtdibcchhamapjacFFrC
namespace Go.Proofs.Ytdibcchhamapjac
open Go.RowKit
set_option maxRecDepth 100000
theorem Chk.uniq {ps : List (Int × Int)} {rs : List (List (Int × Int))} {c d : Int} (h : Chk ps rs c) (h' : Chk ps rs d) : c = d := by
  rcases h with ⟨rfl, h⟩ | ⟨rfl, h, h2⟩ | ⟨rfl, h, h2⟩ <;> rcases h' with ⟨rfl, h3⟩ | ⟨rfl, h3, h4⟩ | ⟨rfl, h3, h4⟩ <;> first | rfl | exact absurd h3 h | exact absurd h h3 | exact absurd h4 h2 | exact absurd h2 h4
section
variable (w : World)
theorem iFS_bad (v v2 : Value) (ps : List (Int × Int)) (rs : List (List (Int × Int))) (hS : SlG w v ps) (hS2 : SlM w v2 rs) (hm : ps.length ≤ 1048576) (hm2 : rs.length ≤ 1048576) (hr : ∀ i, i < rs.length → (rAt rs i).length ≤ 1048576) (c : Int) (hc : Chk ps rs c) (hne : c ≠ 0) :
    Calls Try.prog 34 #[v, v2] w fun r w' => r = .returned (.tuple #[.slice none 0 0, .int .i64 c]) ∧ Below w.heap.size w w' := by
  have hC := Lib.hid (fun W (h : SlG W v ps) (h2 : SlM W v2 rs) => (chk_any W v v2 ps rs h h2 hm hm2 hr).mono fun r w' hx => show r = .returned (.int .i64 c) ∧ Below W.heap.size W w' from ⟨hx.1.elim fun d hd => by rw [hd.1, Chk.uniq hc hd.2], hx.2⟩)
  obtain ⟨a, cap, rfl, _⟩ := hS.lies
  obtain ⟨a2, cap2, rfl, _⟩ := hS2.rows
  replace hS := Lib.hid hS
  replace hS2 := Lib.hid hS2
  obtain ⟨l, hl⟩ : ∃ n, ps.length = n := ⟨_, rfl⟩
  obtain ⟨l2, hl2⟩ : ∃ n, rs.length = n := ⟨_, rfl⟩
  rw [hl] at hC hS ⊢
  rw [hl2] at hC hS2 ⊢
  have hd : (c != (0 : Int)) = true := by simpa using hne
  clear hm hm2 hr hc hl hl2
  go_enter Try.func34, Try.ntmps34
  go_wp2_with fail
  refine (hC.out _ (hS.out.below (by (repeat (first | exact Below.refl _ _ | assumption | refine bchain (by assumption) ?_ | refine balloc ?_ _ | apply Below.drew | apply below_drewN | (refine Below.alloc ?_ (by (try simp) <;> omega) _) | (refine Below.setCell ?_ (by (try simp) <;> omega) _))))) (hS2.out.below (by (repeat (first | exact Below.refl _ _ | assumption | refine bchain (by assumption) ?_ | refine balloc ?_ _ | apply Below.drew | apply below_drewN | (refine Below.alloc ?_ (by (try simp) <;> omega) _) | (refine Below.setCell ?_ (by (try simp) <;> omega) _)))))).mono ?_
  rintro r1 w1 ⟨rfl, hb1⟩
  go_wp2
  exact bodyPost_ret (v := .tuple #[.slice none 0 0, .int .i64 c]) (by simp [results, Try.results34, go_sem]) rfl ⟨rfl, by (repeat (first | exact Below.refl _ _ | assumption | refine bchain (by assumption) ?_ | refine balloc ?_ _ | apply Below.drew | apply below_drewN | (refine Below.alloc ?_ (by (try simp) <;> omega) _) | (refine Below.setCell ?_ (by (try simp) <;> omega) _)))⟩
theorem iFS_ok (v v2 : Value) (ps : List (Int × Int)) (rs : List (List (Int × Int))) (hS : SlG w v ps) (hS2 : SlM w v2 rs) (hm : ps.length ≤ 1048576) (hm2 : rs.length ≤ 1048576) (hr : ∀ i, i < rs.length → (rAt rs i).length ≤ 1048576) (hc : Chk ps rs 0) (n : Nat) (hn : ps.length = n) (hn8 : n ≤ 8) (hV : AllV ps) (hf : Fits n rs) (s : Nat → Nat → Int × Int) (hs : FrS n ps rs n s) :
    Calls Try.prog 34 #[v, v2] w fun r w' => (∃ u, r = .returned (.tuple #[u, .int .i64 0]) ∧ MR w.heap.size w' u n (gv n s)) ∧ Below w.heap.size w w' := by
  have hmf : ∀ (fn : Fn) (first cap : Array Value) (w : World), (Instr.makeFunc fn first cap).run Try.prog w = .ok (.func fn first cap) w := fun _ _ _ _ => rfl
  have hC := Lib.hid (fun W (h : SlG W v ps) (h2 : SlM W v2 rs) => (chk_any W v v2 ps rs h h2 hm hm2 hr).mono fun r w' hx => show r = .returned (.int .i64 0) ∧ Below W.heap.size W w' from ⟨hx.1.elim fun d hd => by rw [hd.1, Chk.uniq hc hd.2], hx.2⟩)
  obtain ⟨a, cap, rfl, hLi⟩ := hS.lies
  obtain ⟨a2, cap2, rfl, hLi2⟩ := hS2.rows
  have hL := Lib.hid (fun W X Y (hX : W.cell? ⟨X, 0, none⟩ = some (.slice a n cap)) (hY : W.cell? ⟨Y, 0, none⟩ = some (.slice a2 n cap2)) (hW : Lies W a ps) (hW2 : Rows W a2 rs) => limM_ok 65 #[.pointer (some ⟨X, 0, none⟩), .pointer (some ⟨Y, 0, none⟩)] (fun _ _ => by kernel_rfl) W
    (fun W' u => MR (W.heap.size + 1) W' u n (gv n s)) (fun W' u x h => h.setCell x (by show W.heap.size < _; omega)) (fun W' hz hb =>
      (fr1_any W' a a2 cap cap2 n ps rs X Y ((hb.cell (World.block_lt_of_cell? W _ hX)).trans hX) ((hb.cell (World.block_lt_of_cell? W _ hY)).trans hY) hn hn8 (hW.below hb) hV (hW2.below hb) hf).mono fun e w' h => ⟨by
        rcases h.1 with ⟨t, u, ht, hu, hM⟩ | ⟨hno, _⟩
        · rw [← FrS.uniq hs ht, hz] at hM
          exact ⟨u, hu, hM⟩
        · exact absurd hs (hno s), h.2⟩))
  replace hS := Lib.hid hS
  replace hS2 := Lib.hid hS2
  replace hLi := Lib.hid hLi
  replace hLi2 := Lib.hid hLi2
  obtain ⟨f, hf2⟩ : ∃ f, gv n s = f := ⟨_, rfl⟩
  rw [hf2] at hL ⊢
  rw [hn] at hC hS ⊢
  rw [hf.1] at hC hS2 ⊢
  clear hm hm2 hr hc hV hf hs hf2 hn
  go_enter Try.func34, Try.ntmps34
  go_wp2_with fail
  refine (hC.out _ (hS.out.below (by (repeat (first | exact Below.refl _ _ | assumption | refine bchain (by assumption) ?_ | refine balloc ?_ _ | apply Below.drew | apply below_drewN | (refine Below.alloc ?_ (by (try simp) <;> omega) _) | (refine Below.setCell ?_ (by (try simp) <;> omega) _))))) (hS2.out.below (by (repeat (first | exact Below.refl _ _ | assumption | refine bchain (by assumption) ?_ | refine balloc ?_ _ | apply Below.drew | apply below_drewN | (refine Below.alloc ?_ (by (try simp) <;> omega) _) | (refine Below.setCell ?_ (by (try simp) <;> omega) _)))))).mono ?_
  rintro r1 w1 ⟨rfl, hb1⟩
  obtain ⟨hc1_0, hz1_0⟩ := bkeep hb1 w.heap.size (by (try simp) <;> omega)
  obtain ⟨hc1_1, hz1_1⟩ := bkeep hb1 (w.heap.size + 1) (by (try simp) <;> omega)
  have e0 : w1.cell? ⟨w.heap.size, 0, none⟩ = some (.slice a n cap) := (hc1_0 0).trans (by simp [go_sem])
  have e1 : w1.cell? ⟨w.heap.size + 1, 0, none⟩ = some (.slice a2 n cap2) := (hc1_1 0).trans (by simp [go_sem])
  have hB1 : Below w.heap.size w w1 := by (repeat (first | exact Below.refl _ _ | assumption | refine bchain (by assumption) ?_ | refine balloc ?_ _ | apply Below.drew | apply below_drewN | (refine Below.alloc ?_ (by (try simp) <;> omega) _) | (refine Below.setCell ?_ (by (try simp) <;> omega) _)))
  have hge := hB1.size
  go_wp2_with fail
  refine (hL.out _ w.heap.size (w.heap.size + 1) (by simpa using e0) (by simpa using e1) (hLi.out.below (by (repeat (first | exact Below.refl _ _ | assumption | refine bchain (by assumption) ?_ | refine balloc ?_ _ | apply Below.drew | apply below_drewN | (refine Below.alloc ?_ (by (try simp) <;> omega) _) | (refine Below.setCell ?_ (by (try simp) <;> omega) _))))) (hLi2.out.below (by (repeat (first | exact Below.refl _ _ | assumption | refine bchain (by assumption) ?_ | refine balloc ?_ _ | apply Below.drew | apply below_drewN | (refine Below.alloc ?_ (by (try simp) <;> omega) _) | (refine Below.setCell ?_ (by (try simp) <;> omega) _)))))).mono ?_
  rintro r3 w3 ⟨⟨u, rfl, hR⟩, hb3⟩
  have hR2 := Lib.hid (hR.le (b1 := w.heap.size) (by omega))
  clear hR
  go_wp2
  exact bodyPost_ret (v := .tuple #[u, .int .i64 0]) (by simp [results, Try.results34, go_sem]) rfl ⟨⟨_, rfl, hR2.out⟩, by (repeat (first | exact Below.refl _ _ | assumption | refine bchain (by assumption) ?_ | refine balloc ?_ _ | apply Below.drew | apply below_drewN | (refine Below.alloc ?_ (by (try simp) <;> omega) _) | (refine Below.setCell ?_ (by (try simp) <;> omega) _)))⟩
theorem iFS_lim (v v2 : Value) (ps : List (Int × Int)) (rs : List (List (Int × Int))) (hS : SlG w v ps) (hS2 : SlM w v2 rs) (hm : ps.length ≤ 1048576) (hm2 : rs.length ≤ 1048576) (hr : ∀ i, i < rs.length → (rAt rs i).length ≤ 1048576) (hc : Chk ps rs 0) (n : Nat) (hn : ps.length = n) (hn8 : n ≤ 8) (hV : AllV ps) (hf : Fits n rs) (hs : ∀ s, ¬ FrS n ps rs n s) :
    Calls Try.prog 34 #[v, v2] w fun r w' => r = .returned (.tuple #[.slice none 0 0, .int .i64 3]) ∧ Below w.heap.size w w' := by
  have hmf : ∀ (fn : Fn) (first cap : Array Value) (w : World), (Instr.makeFunc fn first cap).run Try.prog w = .ok (.func fn first cap) w := fun _ _ _ _ => rfl
  have hC := Lib.hid (fun W (h : SlG W v ps) (h2 : SlM W v2 rs) => (chk_any W v v2 ps rs h h2 hm hm2 hr).mono fun r w' hx => show r = .returned (.int .i64 0) ∧ Below W.heap.size W w' from ⟨hx.1.elim fun d hd => by rw [hd.1, Chk.uniq hc hd.2], hx.2⟩)
  obtain ⟨a, cap, rfl, hLi⟩ := hS.lies
  obtain ⟨a2, cap2, rfl, hLi2⟩ := hS2.rows
  have hL := Lib.hid (fun W X Y (hX : W.cell? ⟨X, 0, none⟩ = some (.slice a n cap)) (hY : W.cell? ⟨Y, 0, none⟩ = some (.slice a2 n cap2)) (hW : Lies W a ps) (hW2 : Rows W a2 rs) => limM_none 65 #[.pointer (some ⟨X, 0, none⟩), .pointer (some ⟨Y, 0, none⟩)] (fun _ _ => by kernel_rfl) W
    (fun W' hz hb =>
      (fr1_any W' a a2 cap cap2 n ps rs X Y ((hb.cell (World.block_lt_of_cell? W _ hX)).trans hX) ((hb.cell (World.block_lt_of_cell? W _ hY)).trans hY) hn hn8 (hW.below hb) hV (hW2.below hb) hf).mono fun e w' h => ⟨by
        rcases h.1 with ⟨t, u, ht, hu, hM⟩ | ⟨_, he⟩
        · exact absurd ht (hs t)
        · exact he, h.2⟩))
  replace hS := Lib.hid hS
  replace hS2 := Lib.hid hS2
  replace hLi := Lib.hid hLi
  replace hLi2 := Lib.hid hLi2
  rw [hn] at hC hS ⊢
  rw [hf.1] at hC hS2 ⊢
  clear hm hm2 hr hc hV hf hs hn
  go_enter Try.func34, Try.ntmps34
  go_wp2_with fail
  refine (hC.out _ (hS.out.below (by (repeat (first | exact Below.refl _ _ | assumption | refine bchain (by assumption) ?_ | refine balloc ?_ _ | apply Below.drew | apply below_drewN | (refine Below.alloc ?_ (by (try simp) <;> omega) _) | (refine Below.setCell ?_ (by (try simp) <;> omega) _))))) (hS2.out.below (by (repeat (first | exact Below.refl _ _ | assumption | refine bchain (by assumption) ?_ | refine balloc ?_ _ | apply Below.drew | apply below_drewN | (refine Below.alloc ?_ (by (try simp) <;> omega) _) | (refine Below.setCell ?_ (by (try simp) <;> omega) _)))))).mono ?_
  rintro r1 w1 ⟨rfl, hb1⟩
  obtain ⟨hc1_0, hz1_0⟩ := bkeep hb1 w.heap.size (by (try simp) <;> omega)
  obtain ⟨hc1_1, hz1_1⟩ := bkeep hb1 (w.heap.size + 1) (by (try simp) <;> omega)
  have e0 : w1.cell? ⟨w.heap.size, 0, none⟩ = some (.slice a n cap) := (hc1_0 0).trans (by simp [go_sem])
  have e1 : w1.cell? ⟨w.heap.size + 1, 0, none⟩ = some (.slice a2 n cap2) := (hc1_1 0).trans (by simp [go_sem])
  go_wp2_with fail
  refine (hL.out _ w.heap.size (w.heap.size + 1) (by simpa using e0) (by simpa using e1) (hLi.out.below (by (repeat (first | exact Below.refl _ _ | assumption | refine bchain (by assumption) ?_ | refine balloc ?_ _ | apply Below.drew | apply below_drewN | (refine Below.alloc ?_ (by (try simp) <;> omega) _) | (refine Below.setCell ?_ (by (try simp) <;> omega) _))))) (hLi2.out.below (by (repeat (first | exact Below.refl _ _ | assumption | refine bchain (by assumption) ?_ | refine balloc ?_ _ | apply Below.drew | apply below_drewN | (refine Below.alloc ?_ (by (try simp) <;> omega) _) | (refine Below.setCell ?_ (by (try simp) <;> omega) _)))))).mono ?_
  rintro r3 w3 ⟨rfl, hb3⟩
  go_wp2
  exact bodyPost_ret (v := .tuple #[.slice none 0 0, .int .i64 3]) (by simp [results, Try.results34, go_sem]) rfl ⟨rfl, by (repeat (first | exact Below.refl _ _ | assumption | refine bchain (by assumption) ?_ | refine balloc ?_ _ | apply Below.drew | apply below_drewN | (refine Below.alloc ?_ (by (try simp) <;> omega) _) | (refine Below.setCell ?_ (by (try simp) <;> omega) _)))⟩
end
end Go.Proofs.Ytdibcchhamapjac
