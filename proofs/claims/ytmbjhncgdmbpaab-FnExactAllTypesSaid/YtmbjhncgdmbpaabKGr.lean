/-
  ALL GRAPHS WITH n VERTICES, IN ASCENDING ORDER: what the program's iterator yields.
-/
import Derived.Test.YtmbjhncgdmbpaabKOwn
import Derived.Test.YtmbjhncgdmbpaabIter
namespace Go.Proofs.Ytmbjhncgdmbpaab
open Go.RowKit Go.Shelf
set_option maxRecDepth 100000

theorem eMax_pos : ∀ n, n ≤ 5 → 1 ≤ eMax n := by decide
theorem range_split {M j : Nat} (h : j < M) : ∃ rest, List.range M = List.range j ++ j :: rest := by
  obtain ⟨d, rfl⟩ : ∃ d, M = j + 1 + d := ⟨M - (j + 1), by omega⟩
  exact ⟨(List.range d).map (j + 1 + ·), by rw [List.range_add, List.range_succ, List.append_assoc]; rfl⟩
section
variable (w : World)
theorem gro_any (n : Int) :
    Calls Try.prog 36 #[.int .i64 n] w fun r w' => r = .returned (.func (.func 67) #[] #[.pointer (some ⟨w.heap.size, 0, none⟩)]) ∧ w'.cell? ⟨w.heap.size, 0, none⟩ = some (.int .i64 n) ∧ w.heap.size < w'.heap.size ∧ Below w.heap.size w w' := by
  go_enter Try.func36, Try.ntmps36
  go_wp2
  go_ret
  exact ⟨rfl, by rw [cNew _ _ _ _ _ rfl]; rfl, by simp, by (repeat (first | exact Below.refl _ _ | assumption | refine bchain (by assumption) ?_ | refine balloc ?_ _ | apply Below.drew | apply below_drewN | (refine Below.alloc ?_ (by (try simp) <;> omega) _) | (refine Below.setCell ?_ (by (try simp) <;> omega) _)))⟩
end
set_option maxHeartbeats 2000000 in
theorem gr_own (n : Nat) (hn : n ≤ 5) (nn Bn : Nat) (w : World) :
    SeqOwn Fence.wide nn Try.prog 67 #[.pointer (some ⟨Bn, 0, none⟩)] (fun A => A.cell? ⟨Bn, 0, none⟩ = some (.int .i64 n)) (fun (x : Nat) v _ => v = .agg #[.int .i64 n, .int .u32 x]) (List.range (eMax n)) w := fun l J W _ _ hJi hY h0 => by
  have hp := eMax_pos n hn
  have hle := eMax_le n
  obtain ⟨M, hM⟩ : ∃ M, M = eMax n - 1 := ⟨_, rfl⟩
  have hE := Lib.hid (fun W => ae_any W n hn)
  rw [← hM] at hE
  have hM1 : eMax n = M + 1 := by omega
  have hM2 : M ≤ 1023 := by omega
  rw [hM1] at hY ⊢
  clear hM hp hle hM1
  have hj0 := h0 (fun _ => False) W (fun _ h => h.elim) (Below.refl _ _)
  have c0 := hJi _ _ _ hj0
  replace hj0 := Lib.hid hj0
  replace hJi := Lib.hid hJi
  replace hY := Lib.hid hY
  clear h0
  refine callsIn_of_wp Try.func67 rfl trivial ?_ rfl
  simp only [Try.ntmps67, List.size_toArray, List.length_cons, List.length_nil, Nat.reduceAdd, Nat.reduceSub, Array.replicate_succ, Array.replicate_zero, List.push_toArray, List.append_toArray, List.nil_append, List.cons_append]
  gi_wp2_with (refine ⟨trivial, fun h => (by cases h), ?_⟩; gi_at_call 68; refine (callsIn_wide.2 (hE.out _)).mono ?_; rintro r3 w3 ⟨rfl, rfl⟩)
  clear c0
  gi_loopw [3, 7] (fun _ i wr => ∃ j : Nat, j ≤ M + 1 ∧ i = .int .u32 j ∧ J (fun _ => False) (List.range j) wr) (fun _ i _ => M + 1 - (intOf i).toNat)
  case atStart => exact ⟨0, by omega, rfl, hj0.out⟩
  case round =>
    obtain ⟨j, hj, rfl, hJj⟩ := hrel
    by_cases hlt : j < M + 1
    · obtain ⟨rest, hL⟩ := range_split hlt
      have c0 := hJi.out _ _ _ hJj
      obtain ⟨fn, tmps, assign, body, hy, hR⟩ := hY.out (fun _ => False) (List.range j) j rest _ wr (fun _ h => h.elim) hL hJj rfl
      replace hR := Lib.hid hR
      have hbd : ∀ W : World, (Instr.build 37 #[(0, .int .i64 (n : Int)), (1, .int .u32 (j : Int))]).run Try.prog W = .ok (.agg #[.int .i64 (n : Int), .int .u32 (j : Int)]) W := fun W => run_build W 37 _ _ (by kernel_rfl)
      clear hL hJj
      gi_wp2
      refine ⟨fun h => (by cases h), hR.out.mono ?_⟩
      rintro e w1 ⟨rfl, hJ1, hz1, hu1⟩
      rw [← List.range_succ] at hJ1
      clear c0 hy
      gi_wp2
      go_roundw
      case rel => exact ⟨j + 1, by omega, by go_num, hJ1⟩
      case measure => simp [intOf]; omega
    · obtain rfl : j = M + 1 := by omega
      have hdd := decide_eq_false (show ¬ (((M + 1 : Nat) : Int) < ((M : Int) + 1)) by omega)
      replace hJj := Lib.hid hJj
      gi_wp2
      go_end0
      exact ⟨⟨_, rfl⟩, _, fun _ h => h.elim, hJj.out⟩
end Go.Proofs.Ytmbjhncgdmbpaab
