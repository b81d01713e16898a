/- A scope with three labels: one is jumped back to again and again (a measure falls), the two others lie behind it. (After the guide's law for one label.) -/
import Derived.Scope
import Derived.ScopeJumps
namespace Go.Proofs.YtfjpbmacfcabaabDoor
/-- By a goto to label 0, 1, 2: that; by any other goto: no way out; else as Q. -/
def jump3 (J0 J1 J2 : Act → World → Prop) (Q : Exit → Act → World → Prop) : Exit → Act → World → Prop
  | .goto 0, a, w => J0 a w
  | .goto 1, a, w => J1 a w
  | .goto 2, a, w => J2 a w
  | .goto _, _, _ => False
  | e, a, w => Q e a w
def noWay : Act → World → Prop := fun _ _ => False

section
variable {P : Program} {a : Act} {w : World} {Q : Exit → Act → World → Prop}
/-- Whatever is jumped to: each label has its own promise, and each pass lowers the measure. -/
theorem scope_many {c : Code} (rest : Nat → Code) (J : Nat → Act → World → Prop) (μ : Nat → Act → World → Nat) (hf : ∀ l a w, J l a w → findLabel c l = some (rest l))
    (first : c.wp P (fun e a w => match e with | .goto l => J l a w | e => Q e a w) a w)
    (pass : ∀ l a w, J l a w → (rest l).wp P (fun e a' w' => match e with | .goto l' => J l' a' w' ∧ μ l' a' w' < μ l a w | e => Q e a' w') a w) : (Code.scope c).wp P Q a w := by
  intro b k cs
  have key : ∀ n l a w, μ l a w = n → J l a w → ∃ e a' w', Q e a' w' ∧ Arrives P (lone (b.at a (.code (rest l) :: .inScope c :: k)) cs w) b k cs e a' w' := by
    intro n
    induction n using Nat.strongRecOn with
    | _ n ih =>
      intro l a w hn hJ
      obtain ⟨e, a₁, w₁, hq, harr⟩ := pass l a w hJ b (.inScope c :: k) cs
      cases e with
      | normal => exact ⟨.normal, a₁, w₁, hq, Steps.trans harr (.one step_inScope)⟩
      | exit id => exact ⟨.exit id, a₁, w₁, hq, fun k' hk => harr k' (by simp [exitTo, hk])⟩
      | goto l' =>
        obtain ⟨hJ', hlt⟩ := hq
        have hg : gotoIn l' (.inScope c :: k) = some (.code (rest l') :: .inScope c :: k) := by simp [gotoIn, hf l' a₁ w₁ hJ']
        obtain ⟨e₂, a₂, w₂, hq₂, harr₂⟩ := ih _ (by omega) l' a₁ w₁ rfl hJ'
        exact ⟨e₂, a₂, w₂, hq₂, .of_steps (harr _ hg) harr₂⟩
      | ret => exact ⟨_, a₁, w₁, hq, harr⟩
      | panic ch => exact ⟨_, a₁, w₁, hq, harr⟩
      | outgrown => exact ⟨_, a₁, w₁, hq, harr⟩
  obtain ⟨e, a₁, w₁, hq, harr⟩ := first b (.inScope c :: k) cs
  cases e with
  | normal => exact ⟨.normal, a₁, w₁, hq, .head step_scope (Steps.trans harr (.one step_inScope))⟩
  | exit id => exact ⟨.exit id, a₁, w₁, hq, fun k' hk => .head step_scope (harr k' (by simp [exitTo, hk]))⟩
  | goto l' =>
    have hg : gotoIn l' (.inScope c :: k) = some (.code (rest l') :: .inScope c :: k) := by simp [gotoIn, hf l' a₁ w₁ hq]
    obtain ⟨e₂, a₂, w₂, hq₂, harr₂⟩ := key _ l' a₁ w₁ rfl hq
    exact ⟨e₂, a₂, w₂, hq₂, .of_steps (.head step_scope (harr _ hg)) harr₂⟩
  | ret => exact ⟨_, a₁, w₁, hq, .of_steps (.one step_scope) harr⟩
  | panic ch => exact ⟨_, a₁, w₁, hq, .of_steps (.one step_scope) harr⟩
  | outgrown => exact ⟨_, a₁, w₁, hq, .of_steps (.one step_scope) harr⟩

theorem wp_weaken {c : Code} {Q1 Q2 : Exit → Act → World → Prop} (h : c.wp P Q1 a w) (hq : ∀ e a w, Q1 e a w → Q2 e a w) : c.wp P Q2 a w := by
  intro b k cs
  obtain ⟨e, a₁, w₁, h1, h2⟩ := h b k cs
  exact ⟨e, a₁, w₁, hq _ _ _ h1, h2⟩

/-- Label 1 is jumped back to; labels 0 and 2 end it: from 2 on only 0 is jumped to, from 0 on none. -/
theorem scope3 {c r0 r1 r2 : Code} (J0 J1 J2 : Act → World → Prop) (μ : Act → World → Nat) (f0 : findLabel c 0 = some r0) (f1 : findLabel c 1 = some (Code.skip.seq r1)) (f2 : findLabel c 2 = some r2)
    (first : (∀ a w, J1 a w → r1.wp P (jump3 J0 J1 J2 Q) a w) → c.wp P (jump3 J0 J1 J2 Q) a w)
    (p0 : ∀ a w, J0 a w → r0.wp P (jump3 noWay noWay noWay Q) a w)
    (p2 : ∀ a w, J2 a w → r2.wp P (jump3 J0 noWay noWay Q) a w)
    (p1 : ∀ a w, J1 a w → r1.wp P (jump3 J0 (fun a' w' => J1 a' w' ∧ μ a' w' < μ a w) J2 Q) a w) : (Code.scope c).wp P Q a w := by
  refine scope_many (fun l => match l with | 0 => r0 | 1 => Code.skip.seq r1 | _ => r2) (fun l => match l with | 0 => J0 | 1 => J1 | 2 => J2 | _ => noWay)
    (fun l a w => match l with | 0 => 0 | 1 => 2 + μ a w | _ => 1) ?_ ?_ ?_
  · intro l a w hJ
    match l, hJ with
    | 0, _ => exact f0
    | 1, _ => exact f1
    | 2, _ => exact f2
    | l + 3, hJ => exact hJ.elim
  · refine wp_weaken (first ?_) ?_
    · intro a w hJ
      refine wp_weaken (p1 a w hJ) ?_
      intro e a w h
      match e, h with
      | .goto 0, h => exact h
      | .goto 1, h => exact h.1
      | .goto 2, h => exact h
      | .goto (l + 3), h => exact h.elim
      | .normal, h => exact h
      | .exit _, h => exact h
      | .ret, h => exact h
      | .panic _, h => exact h
      | .outgrown, h => exact h
    intro e a w h
    match e, h with
    | .goto 0, h => exact h
    | .goto 1, h => exact h
    | .goto 2, h => exact h
    | .goto (l + 3), h => exact h.elim
    | .normal, h => exact h
    | .exit _, h => exact h
    | .ret, h => exact h
    | .panic _, h => exact h
    | .outgrown, h => exact h
  · intro l a w hJ
    match l, hJ with
    | 0, hJ =>
      refine wp_weaken (p0 a w hJ) ?_
      intro e a w h
      match e, h with
      | .goto 0, h => exact h.elim
      | .goto 1, h => exact h.elim
      | .goto 2, h => exact h.elim
      | .goto (l + 3), h => exact h.elim
      | .normal, h => exact h
      | .exit _, h => exact h
      | .ret, h => exact h
      | .panic _, h => exact h
      | .outgrown, h => exact h
    | 1, hJ =>
      refine wp_weaken (wp_seq (wp_skip (p1 a w hJ))) ?_
      intro e a w h
      match e, h with
      | .goto 0, h => exact ⟨h, by show 0 < 2 + _; omega⟩
      | .goto 1, h => exact ⟨h.1, Nat.add_lt_add_left h.2 2⟩
      | .goto 2, h => exact ⟨h, by show 1 < 2 + _; omega⟩
      | .goto (l + 3), h => exact h.elim
      | .normal, h => exact h
      | .exit _, h => exact h
      | .ret, h => exact h
      | .panic _, h => exact h
      | .outgrown, h => exact h
    | 2, hJ =>
      refine wp_weaken (p2 a w hJ) ?_
      intro e a w h
      match e, h with
      | .goto 0, h => exact ⟨h, by show 0 < 1; omega⟩
      | .goto 1, h => exact h.elim
      | .goto 2, h => exact h.elim
      | .goto (l + 3), h => exact h.elim
      | .normal, h => exact h
      | .exit _, h => exact h
      | .ret, h => exact h
      | .panic _, h => exact h
      | .outgrown, h => exact h
    | l + 3, hJ => exact hJ.elim
end
end Go.Proofs.YtfjpbmacfcabaabDoor
