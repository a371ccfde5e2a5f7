/-
  SquareMatrix: the program, whole.
-/
import Derived.Test.YtdibcchhamapjacFSq
namespace Go.Proofs.Ytdibcchhamapjac
open Go.RowKit
set_option maxRecDepth 100000

theorem qS (xs : List (Int × Int)) (i j : Nat) : qe (mulF (gAt xs i) (gAt xs j)) = if oS xs i j then .returned (.agg #[.int .i64 (gS xs i j).1, .int .i64 (gS xs i j).2]) else tooBig := by
  unfold oS gS
  cases mulF (gAt xs i) (gAt xs j) with
  | none => rfl
  | some m => rfl
section
variable (w : World)
theorem sq_ok (a : Option Addr) (cap : Nat) (xs : List (Int × Int)) (h8 : xs.length ≤ 8) (hc : Lies w a xs) (hV : AllV xs) (ho : ∀ i j, i < xs.length → j < xs.length → oS xs i j = true) :
    Calls Try.prog 60 #[.slice a xs.length cap] w fun r w' => (∃ u, r = .returned u ∧ MR w.heap.size w' u xs.length (gv xs.length (gS xs))) ∧ Below w.heap.size w w' := by
  have hmf : ∀ (fn : Fn) (first cap : Array Value) (w : World), (Instr.makeFunc fn first cap).run Try.prog w = .ok (.func fn first cap) w := fun _ _ _ _ => rfl
  obtain ⟨n, hn⟩ : ∃ n, xs.length = n := ⟨_, rfl⟩
  have hM := Lib.hid (fun W (hb : Below w.heap.size w W) X (hX : W.cell? ⟨X, 0, none⟩ = some (.slice a n cap)) => imatB_ok W 89 #[.pointer (some ⟨X, 0, none⟩)] (fun _ _ => by kernel_rfl) n (by omega) (gS xs) (fun W' i j hi hj hb' =>
    (sqclo_any W' a cap n xs X i j ((hb'.cell (World.block_lt_of_cell? W _ hX)).trans hX) hn ((hc.below hb).below hb') hV hi hj).mono fun e w' h => ⟨by rw [h.1, qS, ho i j (by omega) (by omega)]; rfl, h.2⟩))
  rw [hn]
  have h8' : n ≤ 8 := by omega
  clear hc hV ho hn h8
  go_enter Try.func60, Try.ntmps60
  go_wp2_with fail
  refine (hM.out _ (by (repeat (first | exact Below.refl _ _ | assumption | refine bchain (by assumption) ?_ | refine balloc ?_ _ | apply Below.drew | apply below_drewN | (refine Below.alloc ?_ (by (try simp) <;> omega) _) | (refine Below.setCell ?_ (by (try simp) <;> omega) _)))) w.heap.size (by simp)).mono ?_
  rintro r1 w1 ⟨rfl, hb1, h1, h2, h3, h4⟩
  have hB : Below w.heap.size w w1 := by (repeat (first | exact Below.refl _ _ | assumption | refine bchain (by assumption) ?_ | refine balloc ?_ _ | apply Below.drew | apply below_drewN | (refine Below.alloc ?_ (by (try simp) <;> omega) _) | (refine Below.setCell ?_ (by (try simp) <;> omega) _)))
  have hR : MR w.heap.size w1 (.slice (some ⟨w.heap.size + 1 + 1, 0, none⟩) n n) n (gv n (gS xs)) := by
    by_cases c : n = 0
    · exact .inl ⟨c, some ⟨w.heap.size + 1 + 1, 0, none⟩, n, by rw [c], by omega⟩
    · simp only [World.size_alloc] at h1 h2 h3 h4
      exact .inr ⟨w.heap.size + 1 + 1, w.heap.size + 1, rfl, h8', by omega, ⟨by omega, by omega⟩, by omega, by omega, h1, h3, h2⟩
  go_wp2
  go_ret
  exact ⟨⟨_, rfl, hR⟩, hB⟩
theorem sq_pan (a : Option Addr) (cap : Nat) (xs : List (Int × Int)) (h8 : xs.length ≤ 8) (hc : Lies w a xs) (hV : AllV xs) (ho : ∃ i j, i < xs.length ∧ j < xs.length ∧ oS xs i j = false) :
    Calls Try.prog 60 #[.slice a xs.length cap] w fun r w' => r = tooBig ∧ Below w.heap.size w w' := by
  have hmf : ∀ (fn : Fn) (first cap : Array Value) (w : World), (Instr.makeFunc fn first cap).run Try.prog w = .ok (.func fn first cap) w := fun _ _ _ _ => rfl
  obtain ⟨n, hn⟩ : ∃ n, xs.length = n := ⟨_, rfl⟩
  have hM := Lib.hid (fun W (hb : Below w.heap.size w W) X (hX : W.cell? ⟨X, 0, none⟩ = some (.slice a n cap)) => imatB_pan W 89 #[.pointer (some ⟨X, 0, none⟩)] (fun _ _ => by kernel_rfl) n (by omega) (gS xs) (oS xs) (by rw [← hn]; exact ho) (fun W' i j hi hj hb' =>
    (sqclo_any W' a cap n xs X i j ((hb'.cell (World.block_lt_of_cell? W _ hX)).trans hX) hn ((hc.below hb).below hb') hV hi hj).mono fun e w' h => ⟨by rw [h.1, qS], h.2⟩))
  rw [hn]
  clear hc hV ho hn h8
  go_enter Try.func60, Try.ntmps60
  go_wp2_with fail
  refine (hM.out _ (by (repeat (first | exact Below.refl _ _ | assumption | refine bchain (by assumption) ?_ | refine balloc ?_ _ | apply Below.drew | apply below_drewN | (refine Below.alloc ?_ (by (try simp) <;> omega) _) | (refine Below.setCell ?_ (by (try simp) <;> omega) _)))) w.heap.size (by simp)).mono ?_
  rintro r1 w1 ⟨rfl, hb1⟩
  have hB : Below w.heap.size w w1 := by (repeat (first | exact Below.refl _ _ | assumption | refine bchain (by assumption) ?_ | refine balloc ?_ _ | apply Below.drew | apply below_drewN | (refine Below.alloc ?_ (by (try simp) <;> omega) _) | (refine Below.setCell ?_ (by (try simp) <;> omega) _)))
  unfold tooBig
  go_wp2
  exact ⟨rfl, rfl, hB⟩
theorem sqC_ok (a : Option Addr) (cap : Nat) (xs : List (Int × Int)) (X : Nat) (hX : w.cell? ⟨X, 0, none⟩ = some (.slice a xs.length cap)) (h8 : xs.length ≤ 8) (hc : Lies w a xs) (hV : AllV xs) (ho : ∀ i j, i < xs.length → j < xs.length → oS xs i j = true) :
    Calls Try.prog 59 #[.pointer (some ⟨X, 0, none⟩)] w fun r w' => (∃ u, r = .returned u ∧ MR w.heap.size w' u xs.length (gv xs.length (gS xs))) ∧ Below w.heap.size w w' := by
  have hM := Lib.hid (sq_ok w a cap xs h8 hc hV ho)
  clear hc hV ho h8
  go_enter Try.func59, Try.ntmps59
  go_wp2_with fail
  refine hM.out.mono ?_
  rintro r1 w1 ⟨⟨u, rfl, hR⟩, hb1⟩
  replace hR := Lib.hid hR
  go_wp2
  go_ret
  exact ⟨⟨_, rfl, hR.out⟩, hb1⟩
theorem sqC_pan (a : Option Addr) (cap : Nat) (xs : List (Int × Int)) (X : Nat) (hX : w.cell? ⟨X, 0, none⟩ = some (.slice a xs.length cap)) (h8 : xs.length ≤ 8) (hc : Lies w a xs) (hV : AllV xs) (ho : ∃ i j, i < xs.length ∧ j < xs.length ∧ oS xs i j = false) :
    Calls Try.prog 59 #[.pointer (some ⟨X, 0, none⟩)] w fun r w' => r = tooBig ∧ Below w.heap.size w w' := by
  have hM := Lib.hid (sq_pan w a cap xs h8 hc hV ho)
  clear hc hV ho h8
  go_enter Try.func59, Try.ntmps59
  go_wp2_with fail
  refine hM.out.mono ?_
  rintro r1 w1 ⟨rfl, hb1⟩
  unfold tooBig
  go_wp2
  exact ⟨rfl, rfl, hb1⟩
theorem iSM_bad (v : Value) (xs : List (Int × Int)) (hS : SlG w v xs) (hm : xs.length ≤ 1048576) (hV : ¬ Vl xs) :
    Calls Try.prog 27 #[v] w fun r w' => r = .returned (.tuple #[.slice none 0 0, .int .i64 1]) ∧ Below w.heap.size w w' := by
  have hC := Lib.hid (fun W (hW : SlG W v xs) => ivl_f W v xs hW hm hV)
  obtain ⟨a, cap, rfl, _⟩ := hS.lies
  replace hS := Lib.hid hS
  clear hm hV
  obtain ⟨l, hl⟩ : ∃ l, xs.length = l := ⟨_, rfl⟩
  rw [hl] at hC hS ⊢
  clear hl
  go_enter Try.func27, Try.ntmps27
  go_wp2_with fail
  refine (hC.out _ (hS.out.below (by (repeat (first | exact Below.refl _ _ | assumption | refine bchain (by assumption) ?_ | refine balloc ?_ _ | apply Below.drew | apply below_drewN | (refine Below.alloc ?_ (by (try simp) <;> omega) _) | (refine Below.setCell ?_ (by (try simp) <;> omega) _)))))).mono ?_
  rintro r1 w1 ⟨rfl, hb1⟩
  go_wp2
  exact bodyPost_ret (v := .tuple #[.slice none 0 0, .int .i64 1]) (by simp [results, Try.results27, go_sem]) rfl ⟨rfl, by (repeat (first | exact Below.refl _ _ | assumption | refine bchain (by assumption) ?_ | refine balloc ?_ _ | apply Below.drew | apply below_drewN | (refine Below.alloc ?_ (by (try simp) <;> omega) _) | (refine Below.setCell ?_ (by (try simp) <;> omega) _)))⟩
theorem iSM_rng (v : Value) (xs : List (Int × Int)) (hS : SlG w v xs) (h8 : 8 < xs.length) (hV : Vl xs) :
    Calls Try.prog 27 #[v] w fun r w' => r = .returned (.tuple #[.slice none 0 0, .int .i64 2]) ∧ Below w.heap.size w w' := by
  have hC := Lib.hid (fun W (hW : SlG W v xs) => ivl_t W v xs hW hV)
  obtain ⟨a, cap, rfl, _⟩ := hS.lies
  replace hS := Lib.hid hS
  clear hV
  obtain ⟨l, hl⟩ : ∃ l, xs.length = l := ⟨_, rfl⟩
  rw [hl] at hC hS h8 ⊢
  clear hl
  have hd := decide_eq_true (show (l : Int) > 8 by omega)
  go_enter Try.func27, Try.ntmps27
  go_wp2_with fail
  refine (hC.out _ (hS.out.below (by (repeat (first | exact Below.refl _ _ | assumption | refine bchain (by assumption) ?_ | refine balloc ?_ _ | apply Below.drew | apply below_drewN | (refine Below.alloc ?_ (by (try simp) <;> omega) _) | (refine Below.setCell ?_ (by (try simp) <;> omega) _)))))).mono ?_
  rintro r1 w1 ⟨rfl, hb1⟩
  obtain ⟨hc1, hz1⟩ := bkeep hb1 w.heap.size (by simp)
  have g0 : w1.cell? ⟨w.heap.size, 0, none⟩ = some (.slice a l cap) := (hc1 0).trans (by simp)
  go_wp2
  exact bodyPost_ret (v := .tuple #[.slice none 0 0, .int .i64 2]) (by simp [results, Try.results27, go_sem]) rfl ⟨rfl, by (repeat (first | exact Below.refl _ _ | assumption | refine bchain (by assumption) ?_ | refine balloc ?_ _ | apply Below.drew | apply below_drewN | (refine Below.alloc ?_ (by (try simp) <;> omega) _) | (refine Below.setCell ?_ (by (try simp) <;> omega) _)))⟩
theorem iSM_ok (v : Value) (xs : List (Int × Int)) (hS : SlG w v xs) (h8 : xs.length ≤ 8) (hV : Vl xs) (ho : ∀ i j, i < xs.length → j < xs.length → oS xs i j = true) :
    Calls Try.prog 27 #[v] w fun r w' => (∃ u, r = .returned (.tuple #[u, .int .i64 0]) ∧ MR w.heap.size w' u xs.length (gv xs.length (gS xs))) ∧ Below w.heap.size w w' := by
  have hmf : ∀ (fn : Fn) (first cap : Array Value) (w : World), (Instr.makeFunc fn first cap).run Try.prog w = .ok (.func fn first cap) w := fun _ _ _ _ => rfl
  have hC := Lib.hid (fun W (hW : SlG W v xs) => ivl_t W v xs hW hV)
  obtain ⟨a, cap, rfl, hLi⟩ := hS.lies
  replace hS := Lib.hid hS
  have hL := Lib.hid (fun W X (hX : W.cell? ⟨X, 0, none⟩ = some (.slice a xs.length cap)) (hW : Lies W a xs) => limM_ok 59 #[.pointer (some ⟨X, 0, none⟩)] (fun _ _ => by kernel_rfl) W
    (fun W' u => MR (W.heap.size + 1) W' u xs.length (gv xs.length (gS xs))) (fun W' u x h => h.setCell x (by show W.heap.size < _; omega)) (fun W' hz hb =>
      (sqC_ok W' a cap xs X ((hb.cell (World.block_lt_of_cell? W _ hX)).trans hX) h8 (hW.below hb) hV.2 ho).mono fun e w' h => ⟨h.1.elim fun u hu => ⟨u, hu.1, by rw [← hz]; exact hu.2⟩, h.2⟩))
  replace hLi := Lib.hid hLi
  obtain ⟨f, hf⟩ : ∃ f, gv xs.length (gS xs) = f := ⟨_, rfl⟩
  rw [hf] at hL ⊢
  clear hf hV ho
  obtain ⟨l, hl⟩ : ∃ l, xs.length = l := ⟨_, rfl⟩
  rw [hl] at hC hS hL h8 ⊢
  clear hl
  have hd := decide_eq_false (show ¬ (l : Int) > 8 by omega)
  go_enter Try.func27, Try.ntmps27
  go_wp2_with fail
  refine (hC.out _ (hS.out.below (by (repeat (first | exact Below.refl _ _ | assumption | refine bchain (by assumption) ?_ | refine balloc ?_ _ | apply Below.drew | apply below_drewN | (refine Below.alloc ?_ (by (try simp) <;> omega) _) | (refine Below.setCell ?_ (by (try simp) <;> omega) _)))))).mono ?_
  rintro r1 w1 ⟨rfl, hb1⟩
  obtain ⟨hc1, hz1⟩ := bkeep hb1 w.heap.size (by simp)
  have g0 : w1.cell? ⟨w.heap.size, 0, none⟩ = some (.slice a l cap) := (hc1 0).trans (by simp)
  have hB1 : Below w.heap.size w w1 := by (repeat (first | exact Below.refl _ _ | assumption | refine bchain (by assumption) ?_ | refine balloc ?_ _ | apply Below.drew | apply below_drewN | (refine Below.alloc ?_ (by (try simp) <;> omega) _) | (refine Below.setCell ?_ (by (try simp) <;> omega) _)))
  have hge := hB1.size
  go_wp2_with fail
  refine (hL.out _ w.heap.size (by simpa using g0) (hLi.out.below (by (repeat (first | exact Below.refl _ _ | assumption | refine bchain (by assumption) ?_ | refine balloc ?_ _ | apply Below.drew | apply below_drewN | (refine Below.alloc ?_ (by (try simp) <;> omega) _) | (refine Below.setCell ?_ (by (try simp) <;> omega) _)))))).mono ?_
  rintro r2 w2 ⟨⟨u, rfl, hR⟩, hb2⟩
  have hR2 := Lib.hid (hR.le (b1 := w.heap.size) (by omega))
  clear hR
  go_wp2
  exact bodyPost_ret (v := .tuple #[u, .int .i64 0]) (by simp [results, Try.results27, go_sem]) rfl ⟨⟨_, rfl, hR2.out⟩, by (repeat (first | exact Below.refl _ _ | assumption | refine bchain (by assumption) ?_ | refine balloc ?_ _ | apply Below.drew | apply below_drewN | (refine Below.alloc ?_ (by (try simp) <;> omega) _) | (refine Below.setCell ?_ (by (try simp) <;> omega) _)))⟩
theorem iSM_lim (v : Value) (xs : List (Int × Int)) (hS : SlG w v xs) (h8 : xs.length ≤ 8) (hV : Vl xs) (ho : ∃ i j, i < xs.length ∧ j < xs.length ∧ oS xs i j = false) :
    Calls Try.prog 27 #[v] w fun r w' => r = .returned (.tuple #[.slice none 0 0, .int .i64 3]) ∧ Below w.heap.size w w' := by
  have hmf : ∀ (fn : Fn) (first cap : Array Value) (w : World), (Instr.makeFunc fn first cap).run Try.prog w = .ok (.func fn first cap) w := fun _ _ _ _ => rfl
  have hC := Lib.hid (fun W (hW : SlG W v xs) => ivl_t W v xs hW hV)
  obtain ⟨a, cap, rfl, hLi⟩ := hS.lies
  replace hS := Lib.hid hS
  have hL := Lib.hid (fun W X (hX : W.cell? ⟨X, 0, none⟩ = some (.slice a xs.length cap)) (hW : Lies W a xs) => limM_none 59 #[.pointer (some ⟨X, 0, none⟩)] (fun _ _ => by kernel_rfl) W
    (fun W' _ hb => sqC_pan W' a cap xs X ((hb.cell (World.block_lt_of_cell? W _ hX)).trans hX) h8 (hW.below hb) hV.2 ho))
  replace hLi := Lib.hid hLi
  clear hV ho
  obtain ⟨l, hl⟩ : ∃ l, xs.length = l := ⟨_, rfl⟩
  rw [hl] at hC hS hL h8 ⊢
  clear hl
  have hd := decide_eq_false (show ¬ (l : Int) > 8 by omega)
  go_enter Try.func27, Try.ntmps27
  go_wp2_with fail
  refine (hC.out _ (hS.out.below (by (repeat (first | exact Below.refl _ _ | assumption | refine bchain (by assumption) ?_ | refine balloc ?_ _ | apply Below.drew | apply below_drewN | (refine Below.alloc ?_ (by (try simp) <;> omega) _) | (refine Below.setCell ?_ (by (try simp) <;> omega) _)))))).mono ?_
  rintro r1 w1 ⟨rfl, hb1⟩
  obtain ⟨hc1, hz1⟩ := bkeep hb1 w.heap.size (by simp)
  have g0 : w1.cell? ⟨w.heap.size, 0, none⟩ = some (.slice a l cap) := (hc1 0).trans (by simp)
  have hB1 : Below w.heap.size w w1 := by (repeat (first | exact Below.refl _ _ | assumption | refine bchain (by assumption) ?_ | refine balloc ?_ _ | apply Below.drew | apply below_drewN | (refine Below.alloc ?_ (by (try simp) <;> omega) _) | (refine Below.setCell ?_ (by (try simp) <;> omega) _)))
  go_wp2_with fail
  refine (hL.out _ w.heap.size (by simpa using g0) (hLi.out.below (by (repeat (first | exact Below.refl _ _ | assumption | refine bchain (by assumption) ?_ | refine balloc ?_ _ | apply Below.drew | apply below_drewN | (refine Below.alloc ?_ (by (try simp) <;> omega) _) | (refine Below.setCell ?_ (by (try simp) <;> omega) _)))))).mono ?_
  rintro r2 w2 ⟨rfl, hb2⟩
  go_wp2
  exact bodyPost_ret (v := .tuple #[.slice none 0 0, .int .i64 3]) (by simp [results, Try.results27, go_sem]) rfl ⟨rfl, by (repeat (first | exact Below.refl _ _ | assumption | refine bchain (by assumption) ?_ | refine balloc ?_ _ | apply Below.drew | apply below_drewN | (refine Below.alloc ?_ (by (try simp) <;> omega) _) | (refine Below.setCell ?_ (by (try simp) <;> omega) _)))⟩
end
end Go.Proofs.Ytdibcchhamapjac
