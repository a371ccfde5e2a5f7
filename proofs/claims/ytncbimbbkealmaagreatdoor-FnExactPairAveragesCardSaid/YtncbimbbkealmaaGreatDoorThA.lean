/-
  Sums of products of densities: lowest terms of a sum with one denominator; nothing grows too large.
-/
import Derived.Test.YtncbimbbkealmaaGreatDoorFd
import Derived.Test.YtncbimbbkealmaaGreatDoorFrO
namespace Go.Proofs.YtncbimbbkealmaaGreatDoor
open Go.RowKit Go.Shelf
set_option maxRecDepth 100000
namespace Fr
theorem gs_nat (p q : Nat) : gs (p : Int) (q : Int) = (Nat.gcd p q : Nat) := by unfold gs; rw [if_neg (by omega)]; rfl
theorem low_scale (k p q : Nat) (hk : 0 < k) : low ((k * p : Nat) : Int) ((k * q : Nat) : Int) = low (p : Int) (q : Int) := by
  have e1 : ∀ a b : Nat, ((k * a : Nat) : Int).tdiv ((k * b : Nat) : Int) = (a : Int).tdiv (b : Int) := fun a b => by
    rw [Int.natCast_mul, Int.natCast_mul]; exact Int.mul_tdiv_mul_of_pos _ _ (by omega)
  unfold low
  rw [gs_nat, gs_nat, Nat.gcd_mul_left, e1, e1]
theorem low_at {X D : Nat} (hX : X ≤ 1000000000) (hD : D ≤ 1000000000) : ∃ a b : Nat, low (X : Int) (D : Int) = some ((a : Int), (b : Int)) ∧ X = Nat.gcd X D * a ∧ D = Nat.gcd X D * b := by
  have h1 : X / Nat.gcd X D ≤ X := Nat.div_le_self _ _
  have h2 : D / Nat.gcd X D ≤ D := Nat.div_le_self _ _
  refine ⟨X / Nat.gcd X D, D / Nat.gcd X D, ?_, (Nat.mul_div_cancel' (Nat.gcd_dvd_left X D)).symm, (Nat.mul_div_cancel' (Nat.gcd_dvd_right X D)).symm⟩
  have e1 : ∀ a b : Nat, ((a : Nat) : Int).tdiv (b : Int) = ((a / b : Nat) : Int) := fun a b => rfl
  unfold low
  rw [gs_nat, e1, e1]
  generalize X / Nat.gcd X D = a at h1 ⊢
  generalize D / Nat.gcd X D = b at h2 ⊢
  rw [if_pos (by omega)]
theorem add_low {X Y D : Nat} {a b : Int × Int} (hX : X ≤ 1000000000) (hY : Y ≤ 1000000000) (hD : D ≤ 1000000000) (hD0 : 0 < D) (ha : low (X : Int) (D : Int) = some a) (hb : low (Y : Int) (D : Int) = some b) : addF a b = low ((X + Y : Nat) : Int) (D : Int) := by
  obtain ⟨a1, a2, ea, x1, x2⟩ := low_at hX hD
  obtain ⟨b1, b2, eb, y1, y2⟩ := low_at hY hD
  rw [ea] at ha
  rw [eb] at hb
  cases ha
  cases hb
  obtain ⟨g, hg⟩ : ∃ g, Nat.gcd X D = g := ⟨_, rfl⟩
  obtain ⟨h, hh⟩ : ∃ h, Nat.gcd Y D = h := ⟨_, rfl⟩
  rw [hg] at x1 x2
  rw [hh] at y1 y2
  have hg0 : 0 < g := Nat.pos_of_ne_zero (fun c => by rw [c] at x2; omega)
  have hh0 : 0 < h := Nat.pos_of_ne_zero (fun c => by rw [c] at y2; omega)
  unfold addF
  dsimp only
  have e1 : (a1 : Int) * (b2 : Int) + (b1 : Int) * (a2 : Int) = ((a1 * b2 + b1 * a2 : Nat) : Int) := by simp
  have e2 : (a2 : Int) * (b2 : Int) = ((a2 * b2 : Nat) : Int) := by simp
  rw [e1, e2, ← low_scale (g * h) _ _ (Nat.mul_pos hg0 hh0)]
  have e3 : g * h * (a1 * b2 + b1 * a2) = D * (X + Y) := by
    rw [Nat.mul_add, Nat.mul_add D]
    congr 1
    · calc g * h * (a1 * b2) = (h * b2) * (g * a1) := by ac_rfl
        _ = D * X := by rw [← y2, ← x1]
    · calc g * h * (b1 * a2) = (g * a2) * (h * b1) := by ac_rfl
        _ = D * Y := by rw [← x2, ← y1]
  have e4 : g * h * (a2 * b2) = D * D := by
    calc g * h * (a2 * b2) = (g * a2) * (h * b2) := by ac_rfl
      _ = D * D := by rw [← x2, ← y2]
  rw [e3, e4, low_scale D _ _ hD0]
theorem mul_low {X Y D E : Nat} {a b : Int × Int} (hX : X ≤ 1000000000) (hY : Y ≤ 1000000000) (hD : D ≤ 1000000000) (hE : E ≤ 1000000000) (hD0 : 0 < D) (hE0 : 0 < E) (ha : low (X : Int) (D : Int) = some a) (hb : low (Y : Int) (E : Int) = some b) : mulF a b = low ((X * Y : Nat) : Int) ((D * E : Nat) : Int) := by
  obtain ⟨a1, a2, ea, x1, x2⟩ := low_at hX hD
  obtain ⟨b1, b2, eb, y1, y2⟩ := low_at hY hE
  rw [ea] at ha
  rw [eb] at hb
  cases ha
  cases hb
  obtain ⟨g, hg⟩ : ∃ g, Nat.gcd X D = g := ⟨_, rfl⟩
  obtain ⟨h, hh⟩ : ∃ h, Nat.gcd Y E = h := ⟨_, rfl⟩
  rw [hg] at x1 x2
  rw [hh] at y1 y2
  have hg0 : 0 < g := Nat.pos_of_ne_zero (fun c => by rw [c] at x2; omega)
  have hh0 : 0 < h := Nat.pos_of_ne_zero (fun c => by rw [c] at y2; omega)
  unfold mulF
  dsimp only
  have e1 : (a1 : Int) * (b1 : Int) = ((a1 * b1 : Nat) : Int) := by simp
  have e2 : (a2 : Int) * (b2 : Int) = ((a2 * b2 : Nat) : Int) := by simp
  rw [e1, e2, ← low_scale (g * h) _ _ (Nat.mul_pos hg0 hh0)]
  have e3 : g * h * (a1 * b1) = X * Y := by
    calc g * h * (a1 * b1) = (g * a1) * (h * b1) := by ac_rfl
      _ = X * Y := by rw [← x1, ← y1]
  have e4 : g * h * (a2 * b2) = D * E := by
    calc g * h * (a2 * b2) = (g * a2) * (h * b2) := by ac_rfl
      _ = D * E := by rw [← x2, ← y2]
  rw [e3, e4]
end Fr
/-- the sum of the first terms of a list: numerators above one denominator -/
def thT (k n e n0 e0 h E : Nat) : Nat := fdN k h E n0 e0 * fdN k n e h E
def thS (k n e n0 e0 h : Nat) (L : List (Int × Int × Int)) : Nat → Nat
  | 0 => 0
  | i + 1 => thS k n e n0 e0 h L i + thT k n e n0 e0 h (kAt L i).2.2.toNat
def thF (k n e n0 e0 h : Nat) (L : List (Int × Int × Int)) (i : Nat) : Int × Int := (Fr.low (thS k n e n0 e0 h L i : Nat) ((fdA k h n0 * fdA k n h : Nat) : Int)).getD (0, 1)
/-- a term -/
def thP (k n e n0 e0 h E : Nat) : Int × Int := (Fr.mulF (fdF k h E n0 e0) (fdF k n e h E)).getD (0, 1)
section
variable {k n e n0 e0 h : Nat}
theorem th_D (hn : n ≤ 5) (hk : k ≤ n0) (hl : n0 ≤ h) (hr : h ≤ n) : 0 < fdA k h n0 * fdA k n h ∧ fdA k h n0 * fdA k n h ≤ 100 := by
  obtain ⟨_, a2, a3, _⟩ := fd_low (k := k) (n := h) (e := 0) (n0 := n0) (e0 := 0) (by omega) hk hl
  obtain ⟨_, b2, b3, _⟩ := fd_low (k := k) (n := n) (e := 0) (n0 := h) (e0 := 0) hn (by omega) hr
  exact ⟨Nat.mul_pos a2 b2, Nat.le_trans (Nat.mul_le_mul a3 b3) (by decide)⟩
theorem th_T (hn : n ≤ 5) (hk : k ≤ n0) (hl : n0 ≤ h) (hr : h ≤ n) (E : Nat) : thT k n e n0 e0 h E ≤ 100 := by
  obtain ⟨a1, _⟩ := fd_low (k := k) (n := h) (e := E) (n0 := n0) (e0 := e0) (by omega) hk hl
  obtain ⟨b1, _⟩ := fd_low (k := k) (n := n) (e := e) (n0 := h) (e0 := E) hn (by omega) hr
  exact Nat.le_trans (Nat.mul_le_mul a1 b1) (by decide)
theorem th_S (hn : n ≤ 5) (hk : k ≤ n0) (hl : n0 ≤ h) (hr : h ≤ n) (L : List (Int × Int × Int)) : ∀ i, thS k n e n0 e0 h L i ≤ i * 100
  | 0 => by simp [thS]
  | i + 1 => by
    have := th_S hn hk hl hr L i
    have := th_T (e := e) (e0 := e0) hn hk hl hr (kAt L i).2.2.toNat
    show _ + _ ≤ _
    omega
theorem th_P (hn : n ≤ 5) (hk : k ≤ n0) (hl : n0 ≤ h) (hr : h ≤ n) (E : Nat) : Fr.mulF (fdF k h E n0 e0) (fdF k n e h E) = some (thP k n e n0 e0 h E) ∧ Fr.low (thT k n e n0 e0 h E : Nat) ((fdA k h n0 * fdA k n h : Nat) : Int) = some (thP k n e n0 e0 h E) ∧ Fr.VP (thP k n e n0 e0 h E) := by
  obtain ⟨a1, a2, a3, a4⟩ := fd_low (k := k) (n := h) (e := E) (n0 := n0) (e0 := e0) (by omega) hk hl
  obtain ⟨b1, b2, b3, b4⟩ := fd_low (k := k) (n := n) (e := e) (n0 := h) (e0 := E) hn (by omega) hr
  have h1 := Fr.mul_low (by omega) (by omega) (by omega) (by omega) a2 b2 a4 b4
  have hD := th_D hn hk hl hr
  obtain ⟨x, y, hx, _⟩ := Fr.low_at (X := thT k n e n0 e0 h E) (D := fdA k h n0 * fdA k n h) (by have := th_T (e := e) (e0 := e0) hn hk hl hr E; omega) (by omega)
  have h2 : Fr.mulF (fdF k h E n0 e0) (fdF k n e h E) = some (thP k n e n0 e0 h E) := by
    unfold thP
    rw [show Fr.mulF (fdF k h E n0 e0) (fdF k n e h E) = some ((x : Int), (y : Int)) from h1.trans hx]
    rfl
  have h3 : Fr.low (thT k n e n0 e0 h E : Nat) ((fdA k h n0 * fdA k n h : Nat) : Int) = some (thP k n e n0 e0 h E) := h1.symm.trans h2
  exact ⟨h2, h3, Fr.low_vf (by omega) h3⟩
theorem th_F (hn : n ≤ 5) (hk : k ≤ n0) (hl : n0 ≤ h) (hr : h ≤ n) (L : List (Int × Int × Int)) (i : Nat) (hi : i ≤ 100) : Fr.low (thS k n e n0 e0 h L i : Nat) ((fdA k h n0 * fdA k n h : Nat) : Int) = some (thF k n e n0 e0 h L i) ∧ Fr.VP (thF k n e n0 e0 h L i) := by
  have hD := th_D hn hk hl hr
  have hS := th_S (e := e) (e0 := e0) hn hk hl hr L i
  obtain ⟨x, y, hx, _⟩ := Fr.low_at (X := thS k n e n0 e0 h L i) (D := fdA k h n0 * fdA k n h) (by omega) (by omega)
  have h2 : Fr.low (thS k n e n0 e0 h L i : Nat) ((fdA k h n0 * fdA k n h : Nat) : Int) = some (thF k n e n0 e0 h L i) := by
    unfold thF
    rw [hx]
    rfl
  exact ⟨h2, Fr.low_vf (by omega) h2⟩
theorem th_zero (hn : n ≤ 5) (hk : k ≤ n0) (hl : n0 ≤ h) (hr : h ≤ n) (L : List (Int × Int × Int)) : thF k n e n0 e0 h L 0 = (0, 1) := by
  have hD := th_D hn hk hl hr
  have h1 := (th_F (e := e) (e0 := e0) hn hk hl hr L 0 (by omega)).1
  have h2 : Fr.low ((thS k n e n0 e0 h L 0 : Nat) : Int) ((fdA k h n0 * fdA k n h : Nat) : Int) = Fr.low ((0 : Nat) : Int) ((1 : Nat) : Int) := by
    rw [← Fr.low_scale (fdA k h n0 * fdA k n h) 0 1 hD.1, Nat.mul_zero, Nat.mul_one]; rfl
  rw [h1] at h2
  have h3 : Fr.low ((0 : Nat) : Int) ((1 : Nat) : Int) = some (0, 1) := by decide +kernel
  rw [h3] at h2
  exact Option.some.inj h2
theorem th_step (hn : n ≤ 5) (hk : k ≤ n0) (hl : n0 ≤ h) (hr : h ≤ n) (L : List (Int × Int × Int)) (i : Nat) (hi : i < 100) (E : Nat) (hE : (kAt L i).2.2 = (E : Int)) : Fr.addF (thF k n e n0 e0 h L i) (thP k n e n0 e0 h E) = some (thF k n e n0 e0 h L (i + 1)) := by
  have hD := th_D hn hk hl hr
  have hS := th_S (e := e) (e0 := e0) hn hk hl hr L i
  have hT := th_T (e := e) (e0 := e0) hn hk hl hr E
  have h1 := Fr.add_low (by omega) (by omega) (by omega) hD.1 (th_F (e := e) (e0 := e0) hn hk hl hr L i (by omega)).1 (th_P (e := e) (e0 := e0) hn hk hl hr E).2.1
  have h2 := (th_F (e := e) (e0 := e0) hn hk hl hr L (i + 1) (by omega)).1
  rw [h1, ← h2]
  show _ = Fr.low ((thS k n e n0 e0 h L i + thT k n e n0 e0 h (kAt L i).2.2.toNat : Nat) : Int) _
  rw [hE]
  rfl
end
end Go.Proofs.YtncbimbbkealmaaGreatDoor
