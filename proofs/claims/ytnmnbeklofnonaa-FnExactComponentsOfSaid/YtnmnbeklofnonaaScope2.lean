/- A scope in which the run jumps to two labels: what holds at the jumps to each, and a number that every pass lowers. No program text is named here. -/
import Derived.ScopeJumps
import Derived.Test.YtnmnbeklofnonaaBase
namespace Go.Proofs.Ytnmnbeklofnonaa
open Go

/-- As Q; by a goto to label 0: J0, to label 1: J1; to no other label. -/
def twoWays (J0 J1 : Act → World → Prop) (Q : Exit → Act → World → Prop) : Exit → Act → World → Prop
  | .goto l, a, w => (l = 0 ∧ J0 a w) ∨ (l = 1 ∧ J1 a w)
  | e, a, w => Q e a w

theorem scope_two {P : Program} {c r0 r1 : Code} {Q : Exit → Act → World → Prop} {a : Act} {w : World} (J0 J1 : Nat → Act → World → Prop) (h0 : findLabel c 0 = some r0) (h1 : findLabel c 1 = some r1)
    (first : c.wp P (twoWays (fun a w => ∃ n, J0 n a w) (fun a w => ∃ n, J1 n a w) Q) a w)
    (pass0 : ∀ n a w, J0 n a w → r0.wp P (twoWays (fun a' w' => ∃ m, m < n ∧ J0 m a' w') (fun a' w' => ∃ m, m < n ∧ J1 m a' w') Q) a w)
    (pass1 : ∀ n a w, J1 n a w → r1.wp P (twoWays (fun a' w' => ∃ m, m < n ∧ J0 m a' w') (fun a' w' => ∃ m, m < n ∧ J1 m a' w') Q) a w) : (Code.scope c).wp P Q a w := by
  intro b k cs
  have g0 : gotoIn 0 (.inScope c :: k) = some (.code r0 :: .inScope c :: k) := by simp [gotoIn, h0]
  have g1 : gotoIn 1 (.inScope c :: k) = some (.code r1 :: .inScope c :: k) := by simp [gotoIn, h1]
  have key : ∀ n, (∀ a w, J0 n a w → ∃ e a' w', Q e a' w' ∧ Arrives P (lone (b.at a (.code r0 :: .inScope c :: k)) cs w) b k cs e a' w') ∧ (∀ a w, J1 n a w → ∃ e a' w', Q e a' w' ∧ Arrives P (lone (b.at a (.code r1 :: .inScope c :: k)) cs w) b k cs e a' w') := by
    intro n
    induction n using Nat.strongRecOn with
    | _ n ih =>
      have one : ∀ (r : Code) a w, r.wp P (twoWays (fun a' w' => ∃ m, m < n ∧ J0 m a' w') (fun a' w' => ∃ m, m < n ∧ J1 m a' w') Q) a w → ∃ e a' w', Q e a' w' ∧ Arrives P (lone (b.at a (.code r :: .inScope c :: k)) cs w) b k cs e a' w' := by
        intro r a w hr
        obtain ⟨e, a1, w1, hq, harr⟩ := hr b (.inScope c :: k) cs
        cases e with
        | normal => exact ⟨.normal, a1, w1, hq, Steps.trans harr (.one step_inScope)⟩
        | exit id => exact ⟨.exit id, a1, w1, hq, fun k' hk => harr k' (by simp [exitTo, hk])⟩
        | goto l =>
          rcases hq with ⟨rfl, m, hm, hJ⟩ | ⟨rfl, m, hm, hJ⟩
          · obtain ⟨e2, a2, w2, hq2, harr2⟩ := (ih m hm).1 a1 w1 hJ
            exact ⟨e2, a2, w2, hq2, .of_steps (harr _ g0) harr2⟩
          · obtain ⟨e2, a2, w2, hq2, harr2⟩ := (ih m hm).2 a1 w1 hJ
            exact ⟨e2, a2, w2, hq2, .of_steps (harr _ g1) harr2⟩
        | ret => exact ⟨_, a1, w1, hq, harr⟩
        | panic ch => exact ⟨_, a1, w1, hq, harr⟩
        | outgrown => exact ⟨_, a1, w1, hq, harr⟩
      exact ⟨fun a w hJ => one r0 a w (pass0 n a w hJ), fun a w hJ => one r1 a w (pass1 n a w hJ)⟩
  obtain ⟨e, a1, w1, hq, harr⟩ := first b (.inScope c :: k) cs
  cases e with
  | normal => exact ⟨.normal, a1, w1, hq, .head step_scope (Steps.trans harr (.one step_inScope))⟩
  | exit id => exact ⟨.exit id, a1, w1, hq, fun k' hk => .head step_scope (harr k' (by simp [exitTo, hk]))⟩
  | goto l =>
    rcases hq with ⟨rfl, m, hJ⟩ | ⟨rfl, m, hJ⟩
    · obtain ⟨e2, a2, w2, hq2, harr2⟩ := (key m).1 a1 w1 hJ
      exact ⟨e2, a2, w2, hq2, .of_steps (.head step_scope (harr _ g0)) harr2⟩
    · obtain ⟨e2, a2, w2, hq2, harr2⟩ := (key m).2 a1 w1 hJ
      exact ⟨e2, a2, w2, hq2, .of_steps (.head step_scope (harr _ g1)) harr2⟩
  | ret => exact ⟨_, a1, w1, hq, .of_steps (.one step_scope) harr⟩
  | panic ch => exact ⟨_, a1, w1, hq, .of_steps (.one step_scope) harr⟩
  | outgrown => exact ⟨_, a1, w1, hq, .of_steps (.one step_scope) harr⟩

/-- The same with the code behind each label; what is proved of the one serves in the other. -/
theorem scope_two' {P : Program} {c r0 r1 : Code} {Q : Exit → Act → World → Prop} {a : Act} {w : World} (J0 J1 : Nat → Act → World → Prop) (h0 : findLabel c 0 = some (.seq .skip r0)) (h1 : findLabel c 1 = some (.seq .skip r1))
    (look : ∀ n a w, J1 n a w → r1.wp P (twoWays (fun a' w' => ∃ m, m < n ∧ J0 m a' w') (fun a' w' => ∃ m, m < n ∧ J1 m a' w') Q) a w)
    (enter : (∀ n a w, J1 n a w → r1.wp P (twoWays (fun a' w' => ∃ m, m < n ∧ J0 m a' w') (fun a' w' => ∃ m, m < n ∧ J1 m a' w') Q) a w) → ∀ n a w, J0 n a w → r0.wp P (twoWays (fun a' w' => ∃ m, m < n ∧ J0 m a' w') (fun a' w' => ∃ m, m < n ∧ J1 m a' w') Q) a w)
    (first : (∀ n a w, J0 n a w → r0.wp P (twoWays (fun a' w' => ∃ m, m < n ∧ J0 m a' w') (fun a' w' => ∃ m, m < n ∧ J1 m a' w') Q) a w) → c.wp P (twoWays (fun a w => ∃ n, J0 n a w) (fun a w => ∃ n, J1 n a w) Q) a w) : (Code.scope c).wp P Q a w :=
  scope_two J0 J1 h0 h1 (first (enter look)) (fun n a w h => wp_seq (wp_skip (enter look n a w h))) (fun n a w h => wp_seq (wp_skip (look n a w h)))

end Go.Proofs.Ytnmnbeklofnonaa
