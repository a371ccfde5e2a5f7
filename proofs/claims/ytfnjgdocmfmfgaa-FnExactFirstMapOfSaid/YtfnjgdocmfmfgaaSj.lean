/-
  A SCOPE WITH SEVERAL LABELS TO WHICH THE RUN JUMPS, inside the widest fence; and a scope without a jump there. Over any program.
-/
import Derived.ScopeJumps
import Derived.ControlIn
import Derived.WalkMore
namespace Go.Proofs.Ytfnjgdocmfmfgaa
open Go

/-- as Q; by a goto to the label l: J l -/
def leaps (J : Nat → Act → World → Prop) (Q : Exit → Act → World → Prop) : Exit → Act → World → Prop
  | .goto l, a, w => J l a w
  | e, a, w => Q e a w
section
variable {J : Nat → Act → World → Prop} {Q : Exit → Act → World → Prop} {a : Act} {w : World}
@[go_sem] theorem leaps_normal : leaps J Q .normal a w = Q .normal a w := rfl
@[go_sem] theorem leaps_exit (id : Nat) : leaps J Q (.exit id) a w = Q (.exit id) a w := rfl
@[go_sem] theorem leaps_ret : leaps J Q .ret a w = Q .ret a w := rfl
@[go_sem] theorem leaps_panic (ch : List PanicEntry) : leaps J Q (.panic ch) a w = Q (.panic ch) a w := rfl
end
section
variable {n : Nat} {P : Program} {a : Act} {w : World} {Q : Exit → Act → World → Prop}
theorem wp_scope_leaps {c : Code} (rest : Nat → Code) (J : Nat → Act → World → Prop) (μ : Nat → Act → World → Nat)
    (hf : ∀ l a w, J l a w → findLabel c l = some (rest l))
    (first : c.wp P (leaps J Q) a w)
    (pass : ∀ l a w, J l a w → (rest l).wp P (leaps (fun l' a' w' => J l' a' w' ∧ μ l' a' w' < μ l a w) Q) a w) : (Code.scope c).wp P Q a w := by
  intro b k cs
  have key : ∀ n l a w, μ l a w = n → J l a w → ∃ e a' w', Q e a' w' ∧ Arrives P (lone (b.at a (.code (rest l) :: .inScope c :: k)) cs w) b k cs e a' w' := by
    intro n
    induction n using Nat.strongRecOn with
    | _ n ih =>
      intro l a w hn hJ
      obtain ⟨e, a₁, w₁, hq, harr⟩ := pass l a w hJ b (.inScope c :: k) cs
      cases e with
      | normal => exact ⟨.normal, a₁, w₁, hq, Steps.trans harr (.one step_inScope)⟩
      | exit id => exact ⟨.exit id, a₁, w₁, hq, fun k' hk => harr k' (by simp [exitTo, hk])⟩
      | goto l' =>
        obtain ⟨hJ', hlt⟩ := hq
        have hg : gotoIn l' (.inScope c :: k) = some (.code (rest l') :: .inScope c :: k) := by simp [gotoIn, hf _ _ _ hJ']
        obtain ⟨e₂, a₂, w₂, hq₂, harr₂⟩ := ih _ (by omega) l' a₁ w₁ rfl hJ'
        exact ⟨e₂, a₂, w₂, hq₂, .of_steps (harr _ hg) harr₂⟩
      | ret => exact ⟨_, a₁, w₁, hq, harr⟩
      | panic ch => exact ⟨_, a₁, w₁, hq, harr⟩
      | outgrown => exact ⟨_, a₁, w₁, hq, harr⟩
  obtain ⟨e, a₁, w₁, hq, harr⟩ := first b (.inScope c :: k) cs
  cases e with
  | normal => exact ⟨.normal, a₁, w₁, hq, .head step_scope (Steps.trans harr (.one step_inScope))⟩
  | exit id => exact ⟨.exit id, a₁, w₁, hq, fun k' hk => .head step_scope (harr k' (by simp [exitTo, hk]))⟩
  | goto l' =>
    have hg : gotoIn l' (.inScope c :: k) = some (.code (rest l') :: .inScope c :: k) := by simp [gotoIn, hf _ _ _ hq]
    obtain ⟨e₂, a₂, w₂, hq₂, harr₂⟩ := key _ l' a₁ w₁ rfl hq
    exact ⟨e₂, a₂, w₂, hq₂, .of_steps (.head step_scope (harr _ hg)) harr₂⟩
  | ret => exact ⟨_, a₁, w₁, hq, .of_steps (.one step_scope) harr⟩
  | panic ch => exact ⟨_, a₁, w₁, hq, .of_steps (.one step_scope) harr⟩
  | outgrown => exact ⟨_, a₁, w₁, hq, .of_steps (.one step_scope) harr⟩
theorem wpIn_scope_leaps {c : Code} (rest : Nat → Code) (J : Nat → Act → World → Prop) (μ : Nat → Act → World → Nat)
    (hf : ∀ l a w, J l a w → findLabel c l = some (rest l))
    (first : c.wpIn Fence.wide n P (leaps J Q) a w)
    (pass : ∀ l a w, J l a w → (rest l).wpIn Fence.wide n P (leaps (fun l' a' w' => J l' a' w' ∧ μ l' a' w' < μ l a w) Q) a w) : (Code.scope c).wpIn Fence.wide n P Q a w :=
  wpIn_wide.2 (wp_scope_leaps rest J μ hf (wpIn_wide.1 first) fun l a w h => wpIn_wide.1 (pass l a w h))
/-- a jump to one of two labels, with less before it -/
def PJ (J0 J1 : Nat → Act → World → Prop) (m l : Nat) (a : Act) (w : World) : Prop := ∃ m', m' < m ∧ ((l = 0 ∧ J0 m' a w) ∨ (l = 1 ∧ J1 m' a w))
theorem PJ.mono {J0 J1 : Nat → Act → World → Prop} {m m2 : Nat} (h : m ≤ m2) (e : Exit) (a : Act) (w : World) (hq : leaps (PJ J0 J1 m) Q e a w) : leaps (PJ J0 J1 m2) Q e a w := by
  cases e with
  | goto l => obtain ⟨m', h1, h2⟩ := hq; exact ⟨m', Nat.lt_of_lt_of_le h1 h, h2⟩
  | normal => exact hq
  | exit id => exact hq
  | ret => exact hq
  | panic ch => exact hq
  | outgrown => exact hq
/-- a scope with two labels: what holds at each, with a measure of the proof's own -/
theorem wp_scope_two {c : Code} (J0 J1 : Nat → Act → World → Prop) (f0 : ∃ r, findLabel c 0 = some r) (f1 : ∃ r, findLabel c 1 = some r)
    (pass1 : ∀ r, findLabel c 1 = some r → ∀ m a w, J1 m a w → r.wp P (leaps (PJ J0 J1 m) Q) a w)
    (pass0 : ∀ r, findLabel c 0 = some r → ∀ m a w, J0 m a w → r.wp P (leaps (PJ J0 J1 m) Q) a w)
    (M : Nat) (first : c.wp P (leaps (PJ J0 J1 M) Q) a w) : (Code.scope c).wp P Q a w := by
  intro b k cs
  obtain ⟨r0, f0⟩ := f0
  obtain ⟨r1, f1⟩ := f1
  obtain ⟨R, hR⟩ : ∃ R : Nat → Code, R = fun l => if l = 0 then r0 else r1 := ⟨_, rfl⟩
  have step : ∀ m l a w, ((l = 0 ∧ J0 m a w) ∨ (l = 1 ∧ J1 m a w)) → findLabel c l = some (R l) ∧ (R l).wp P (leaps (PJ J0 J1 m) Q) a w := by
    intro m l a w h
    subst hR
    rcases h with ⟨rfl, h⟩ | ⟨rfl, h⟩
    · exact ⟨f0, pass0 _ f0 _ _ _ h⟩
    · exact ⟨f1, pass1 _ f1 _ _ _ h⟩
  have key : ∀ n l a w, ((l = 0 ∧ J0 n a w) ∨ (l = 1 ∧ J1 n a w)) → ∃ e a' w', Q e a' w' ∧ Arrives P (lone (b.at a (.code (R l) :: .inScope c :: k)) cs w) b k cs e a' w' := by
    intro n
    induction n using Nat.strongRecOn with
    | _ n ih =>
      intro l a w hJ
      obtain ⟨e, a₁, w₁, hq, harr⟩ := (step _ _ _ _ hJ).2 b (.inScope c :: k) cs
      cases e with
      | normal => exact ⟨.normal, a₁, w₁, hq, Steps.trans harr (.one step_inScope)⟩
      | exit id => exact ⟨.exit id, a₁, w₁, hq, fun k' hk => harr k' (by simp [exitTo, hk])⟩
      | goto l' =>
        obtain ⟨m', hlt, hJ'⟩ := hq
        have hg : gotoIn l' (.inScope c :: k) = some (.code (R l') :: .inScope c :: k) := by simp [gotoIn, (step _ _ _ _ hJ').1]
        obtain ⟨e₂, a₂, w₂, hq₂, harr₂⟩ := ih _ hlt l' a₁ w₁ hJ'
        exact ⟨e₂, a₂, w₂, hq₂, .of_steps (harr _ hg) harr₂⟩
      | ret => exact ⟨_, a₁, w₁, hq, harr⟩
      | panic ch => exact ⟨_, a₁, w₁, hq, harr⟩
      | outgrown => exact ⟨_, a₁, w₁, hq, harr⟩
  obtain ⟨e, a₁, w₁, hq, harr⟩ := first b (.inScope c :: k) cs
  cases e with
  | normal => exact ⟨.normal, a₁, w₁, hq, .head step_scope (Steps.trans harr (.one step_inScope))⟩
  | exit id => exact ⟨.exit id, a₁, w₁, hq, fun k' hk => .head step_scope (harr k' (by simp [exitTo, hk]))⟩
  | goto l' =>
    obtain ⟨m', hlt, hJ'⟩ := hq
    have hg : gotoIn l' (.inScope c :: k) = some (.code (R l') :: .inScope c :: k) := by simp [gotoIn, (step _ _ _ _ hJ').1]
    obtain ⟨e₂, a₂, w₂, hq₂, harr₂⟩ := key _ l' a₁ w₁ hJ'
    exact ⟨e₂, a₂, w₂, hq₂, .of_steps (.head step_scope (harr _ hg)) harr₂⟩
  | ret => exact ⟨_, a₁, w₁, hq, .of_steps (.one step_scope) harr⟩
  | panic ch => exact ⟨_, a₁, w₁, hq, .of_steps (.one step_scope) harr⟩
  | outgrown => exact ⟨_, a₁, w₁, hq, .of_steps (.one step_scope) harr⟩
theorem wpIn_scope_two {c : Code} (J0 J1 : Nat → Act → World → Prop) (f0 : ∃ r, findLabel c 0 = some (Code.skip.seq r)) (f1 : ∃ r, findLabel c 1 = some (Code.skip.seq r))
    (pass1 : ∀ r, findLabel c 1 = some (Code.skip.seq r) → ∀ m a w, J1 m a w → r.wpIn Fence.wide n P (leaps (PJ J0 J1 m) Q) a w)
    (pass0 : (∀ r, findLabel c 1 = some (Code.skip.seq r) → ∀ m a w, J1 m a w → r.wpIn Fence.wide n P (leaps (PJ J0 J1 m) Q) a w) → ∀ r, findLabel c 0 = some (Code.skip.seq r) → ∀ m a w, J0 m a w → r.wpIn Fence.wide n P (leaps (PJ J0 J1 m) Q) a w)
    (M : Nat) (first : (∀ r, findLabel c 0 = some (Code.skip.seq r) → ∀ m a w, J0 m a w → r.wpIn Fence.wide n P (leaps (PJ J0 J1 m) Q) a w) → c.wpIn Fence.wide n P (leaps (PJ J0 J1 M) Q) a w) : (Code.scope c).wpIn Fence.wide n P Q a w := by
  obtain ⟨r0, f0⟩ := f0
  obtain ⟨r1, f1⟩ := f1
  refine wpIn_wide.2 (wp_scope_two J0 J1 ⟨_, f0⟩ ⟨_, f1⟩ (fun r hr m a w h => ?_) (fun r hr m a w h => ?_) M (wpIn_wide.1 (first (pass0 pass1))))
  · obtain rfl := Option.some.inj (f1.symm.trans hr)
    exact wpIn_wide.1 (wpIn_seq (wpIn_skip (pass1 _ f1 m a w h)))
  · obtain rfl := Option.some.inj (f0.symm.trans hr)
    exact wpIn_wide.1 (wpIn_seq (wpIn_skip (pass0 pass1 _ f0 m a w h)))
theorem wpIn_scope_straight {c : Code} (h : c.wpIn Fence.wide n P (Exit.noGoto Q) a w) : (Code.scope c).wpIn Fence.wide n P Q a w :=
  wpIn_wide.2 (wp_scope_straight (wpIn_wide.1 h))
end
end Go.Proofs.Ytfnjgdocmfmfgaa
