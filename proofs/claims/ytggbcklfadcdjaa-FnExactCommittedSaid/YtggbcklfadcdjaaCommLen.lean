/- How much Committed tells. -/
import Derived.Test.YtggbcklfadcdjaaComm
namespace Go.Proofs.Ytggbcklfadcdjaa
open Go.RowKit
set_option linter.unusedVariables false

theorem comAt_two {k : Nat} {R : List RowD} {i : Nat} : ∀ l ∈ comAt k R i, l.length ≤ 2 := by
  intro l hl
  unfold comAt at hl
  split at hl
  · split at hl
    · simp at hl; subst hl; simp
    · cases hl
  · cases hl
theorem allTo_two {T : List (List RowD)} {k : Nat} : ∀ l ∈ allTo T k, l.length ≤ 2 := by
  intro l hl
  unfold allTo at hl
  obtain ⟨p, _, hp⟩ := List.mem_flatMap.1 hl
  unfold comTo at hp
  obtain ⟨i, _, hi⟩ := List.mem_flatMap.1 hp
  exact comAt_two l hi
theorem comR_two {n : Int} {T : List (List RowD)} : ∀ l ∈ comR n T, l.length ≤ 2 := by
  intro l hl
  unfold comR at hl
  split at hl
  · exact allTo_two l hl
  · cases hl
theorem bulk_two {L : List (List Int)} (h : ∀ l ∈ L, l.length ≤ 2) : bulk L ≤ 3 * L.length := by
  unfold bulk
  induction L with
  | nil => simp
  | cons l L ih =>
    have h1 := h l (by simp)
    have h2 := ih (fun x hx => h x (by simp [hx]))
    simp at h2 ⊢; omega
theorem comR_len (n : Int) (T : List (List RowD)) : (comR n T).length ≤ 30 := by
  cases hg : goodTab n T with
  | false => rw [comR_no hg]; simp
  | true =>
    rw [comR_yes hg]
    obtain ⟨h1, h2, h3⟩ := goodTab_of hg
    have hb := isGrp_bd h1
    have := allTo_len (fun R hR => (h3 R hR).1) T.length (Nat.le_refl _)
    omega
theorem comR_bulk (n : Int) (T : List (List RowD)) : bulk (comR n T) ≤ 90 := by
  have := bulk_two (comR_two (n := n) (T := T))
  have := comR_len n T
  omega

end Go.Proofs.Ytggbcklfadcdjaa
