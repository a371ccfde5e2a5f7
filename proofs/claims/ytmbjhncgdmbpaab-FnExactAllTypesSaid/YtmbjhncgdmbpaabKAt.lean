/-
  AllTypes: the program's and the model's contracts.
-/
import Derived.Test.YtmbjhncgdmbpaabForb
import Derived.Test.YtmbjhncgdmbpaabKGr
import Derived.Test.YtmbjhncgdmbpaabKeptG
import Derived.Test.YtmbjhncgdmbpaabOrbL
namespace Go.Proofs.Ytmbjhncgdmbpaab
open Go.RowKit Go.Shelf
set_option maxRecDepth 100000

/-- the graphs with k vertices and no forbidden part, up to the edges m -/
def freeG (k : Nat) (gs : List (Int × Int)) (m : Nat) : List (Int × Int) := ((List.range m).filter fun e => freeB k e gs).map fun (e : Nat) => ((k : Int), (e : Int))
theorem freeG_t {k : Nat} {gs : List (Int × Int)} {m : Nat} (h : freeB k m gs = true) : freeG k gs (m + 1) = freeG k gs m ++ [((k : Int), (m : Int))] := by simp [freeG, List.range_succ, List.filter_append, h]
theorem freeG_f {k : Nat} {gs : List (Int × Int)} {m : Nat} (h : freeB k m gs = false) : freeG k gs (m + 1) = freeG k gs m := by simp [freeG, List.range_succ, List.filter_append, h]
theorem freeG_len (k : Nat) (gs : List (Int × Int)) (m : Nat) : (freeG k gs m).length ≤ m := by
  unfold freeG
  rw [List.length_map]
  have := List.length_filter_le (fun e => freeB k e gs) (List.range m)
  simpa using this
/-- graphs of one size, as numbers -/
def grE (k : Nat) : KeptGE Nat := ⟨fun _ => (k : Int), fun e => (e : Int)⟩
theorem grE_cells (k : Nat) (gs : List (Int × Int)) : KeptGC (grE k) (fun e => freeB k e gs) (List.range (eMax k)) = gsC (freeG k gs (eMax k)) := by
  unfold KeptGC gsC freeG grE
  rw [List.flatMap_map]
section
variable (w : World)
theorem atc_any (k e Ba : Nat) (h : VG k e) (a : Option Addr) (cap : Nat) (gs : List (Int × Int)) (hm : gs.length ≤ 1048576) (hc : Lies w a gs) (hV : AllV gs) (hBa : Ba < w.heap.size) (hA : w.cell? ⟨Ba, 0, none⟩ = some (.slice a gs.length cap)) :
    Calls Try.prog 37 #[.agg #[.int .i64 k, .int .u32 e], .pointer (some ⟨Ba, 0, none⟩)] w fun r w' => r = .returned (.bool (freeB k e gs)) ∧ Below w.heap.size w w' := by
  have hC := Lib.hid (fun W (hW : Below w.heap.size w W) => ifree_any W k e h a cap gs hm (hc.below hW) hV)
  obtain ⟨b, hb⟩ : ∃ b, freeB k e gs = b := ⟨_, rfl⟩
  obtain ⟨l, hl⟩ : ∃ l, gs.length = l := ⟨_, rfl⟩
  rw [hb, hl] at hC
  rw [hb]
  rw [hl] at hA
  clear hb hl hm hV hc
  go_enter Try.func37, Try.ntmps37
  go_wp2_with fail
  refine (hC.out _ (by (repeat (first | exact Below.refl _ _ | assumption | refine bchain (by assumption) ?_ | refine balloc ?_ _ | apply Below.drew | apply below_drewN | (refine Below.alloc ?_ (by (try simp) <;> omega) _) | (refine Below.setCell ?_ (by (try simp) <;> omega) _))))).mono ?_
  rintro r1 w1 ⟨rfl, hb1⟩
  go_wp2
  go_ret
  exact ⟨rfl, by (repeat (first | exact Below.refl _ _ | assumption | refine bchain (by assumption) ?_ | refine balloc ?_ _ | apply Below.drew | apply below_drewN | (refine Below.alloc ?_ (by (try simp) <;> omega) _) | (refine Below.setCell ?_ (by (try simp) <;> omega) _)))⟩
set_option maxHeartbeats 1000000 in
theorem iat_ok (k : Nat) (hk : k ≤ 3) (v : Value) (gs : List (Int × Int)) (hS : SlG w v gs) (hm : gs.length ≤ 1048576) (hbd : Bd gs) (hV : AllV gs) (h6 : gs.length ≤ 6) :
    Calls Try.prog 11 #[.int .i64 k, v] w (RetG w (freeG k gs (eMax k)) 0) := by
  obtain ⟨a, cap, rfl, hc⟩ := hS.lies
  have hF := Lib.hid (fun W (hW : Below w.heap.size w W) => cf_ok W a cap gs hm (hc.below hW) hbd hV h6)
  have hle := eMax_le k
  have hK := fun (W : World) (Bn Ba : Nat) (hW : Below w.heap.size w W) (hBn : Bn < W.heap.size) (hN : W.cell? ⟨Bn, 0, none⟩ = some (.int .i64 k)) (hBa : Ba < W.heap.size) (hA : W.cell? ⟨Ba, 0, none⟩ = some (.slice a gs.length cap)) =>
    KeptG_any W (grE k) 67 #[.pointer (some ⟨Bn, 0, none⟩)] (fun A => A.cell? ⟨Bn, 0, none⟩ = some (.int .i64 k)) (List.range (eMax k)) (by simp; omega) (enters_of Try.func67 (by kernel_rfl) rfl)
      (fun nn W' _ => gr_own k (by omega) nn Bn W') (fun A hA' => (hA'.cell (p := ⟨Bn, 0, none⟩) hBn).trans hN) 37 #[.pointer (some ⟨Ba, 0, none⟩)] (enters_of Try.func37 (by kernel_rfl) rfl) (fun e => freeB k e gs)
      (fun W' x hx hb => atc_any W' k x Ba ⟨by omega, by omega, by omega, by have := List.mem_range.1 hx; simpa using this⟩ a cap gs hm (hc.below (hW.trans (hb.mono hW.size))) hV (by have := hb.size; omega) ((hb.cell (p := ⟨Ba, 0, none⟩) hBa).trans hA))
  have hlen : ((List.range (eMax k)).filter (fun e => freeB k e gs)).length = (freeG k gs (eMax k)).length := by simp [freeG]
  rw [hlen, grE_cells] at hK
  obtain ⟨L, hL⟩ : ∃ L, freeG k gs (eMax k) = L := ⟨_, rfl⟩
  rw [hL] at hK ⊢
  replace hK := Lib.hid hK
  obtain ⟨l, hl⟩ : ∃ l, gs.length = l := ⟨_, rfl⟩
  rw [hl] at hF hK ⊢
  clear hL hl hlen hm hbd hV h6 hc hS
  obtain ⟨W0, hW0⟩ : ∃ W0, W0 = w.alloc (.cells #[.slice a l cap] 24) := ⟨_, rfl⟩
  have hB0 : Below w.heap.size w W0 := by rw [hW0]; (repeat (first | exact Below.refl _ _ | assumption | refine bchain (by assumption) ?_ | refine balloc ?_ _ | apply Below.drew | apply below_drewN | (refine Below.alloc ?_ (by (try simp) <;> omega) _) | (refine Below.setCell ?_ (by (try simp) <;> omega) _)))
  have hA0 : W0.cell? ⟨w.heap.size, 0, none⟩ = some (.slice a l cap) := by rw [hW0, cNew _ _ _ _ _ rfl]; rfl
  have hz0 : w.heap.size < W0.heap.size := by rw [hW0]; simp
  replace hW0 := Lib.hid hW0
  go_enter Try.func11, Try.ntmps11
  go_wp2_with fail
  refine (hF.out _ (by (repeat (first | exact Below.refl _ _ | assumption | refine bchain (by assumption) ?_ | refine balloc ?_ _ | apply Below.drew | apply below_drewN | (refine Below.alloc ?_ (by (try simp) <;> omega) _) | (refine Below.setCell ?_ (by (try simp) <;> omega) _))))).mono ?_
  rintro r1 w1 ⟨rfl, hb1⟩
  rw [← hW0.out] at hb1
  have hA1 := (hb1.cell (p := ⟨w.heap.size, 0, none⟩) hz0).trans hA0
  have hB1 := hB0.trans (hb1.mono hB0.size)
  have hz1 : w.heap.size < w1.heap.size := by have := hb1.size; omega
  clear hb1 hB0 hA0
  go_wp2_with fail
  refine (gro_any _ k).mono ?_
  rintro r2 w2 ⟨rfl, hN2, hz2, hb2⟩
  have hA2 := (hb2.cell (p := ⟨w.heap.size, 0, none⟩) hz1).trans hA1
  have hB2 := hB1.trans (hb2.mono hB1.size)
  have hk := Lib.hid (hK.out w2 w1.heap.size w.heap.size hB2 hz2 hN2 (by omega) hA2)
  clear hA1 hB1 hb2 hN2 hA2
  go_wp2_with fail
  refine (hk.out).mono ?_
  rintro r3 w3 ⟨⟨u, rfl, hown⟩, hb3⟩
  have hB3 := hB2.trans (hb3.mono hB2.size)
  have hO := Lib.hid (ownG_of_row (w0 := w) hown hB2.size)
  clear hk hb3 hB2 hown
  go_wp2
  go_ret2
  exact ⟨⟨_, rfl, hO.out⟩, hB3⟩
end
end Go.Proofs.Ytmbjhncgdmbpaab
