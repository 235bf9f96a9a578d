/- Appends to a slice of lists that the call itself made, said of the rows' values alone: one more row, and all rows of another slice. -/
import Derived.Test.YtnmnbeklofnonaaPushSS
namespace Go.Proofs.Ytnmnbeklofnonaa
open Go.RowKit
set_option linter.unusedVariables false

/-- v is a slice in new memory that holds the values vs. -/
def FreshV (B : Nat) (w : World) (v : Value) (vs : List Value) : Prop := w.ownsRow B 27 1 v vs.length vs
theorem FreshV.ext {B : Nat} {w w' : World} {v : Value} {vs : List Value} (h : FreshV B w v vs) (e : Ext w w') : FreshV B w' v vs := e.ownsRow h
theorem FreshV.more {B B' : Nat} {w : World} {v : Value} {vs : List Value} (h : FreshV B w v vs) (hb : B' ≤ B) : FreshV B' w v vs := ownsRow_more h hb
theorem FreshV.nil (B : Nat) (w : World) : FreshV B w (.slice none 0 0) [] := World.ownsRow_nil _ _ _ _

theorem wpList_pushV {ops : Array Oper} {rest : List Oper} {o : Oper} {a : Act} {Q : Exit → Act → World → Prop} {w : World} (hgd : o.guard = none) (s x : Operand)
    (ho : o.op = .call { callee := .builtin .append, args := #[s, x], argTypes := #[50, 50] })
    (B : Nat) (v : Value) (vs : List Value) (hs : a.eval s = v) (hf : FreshV B w v vs) (u : Value) (ad : Addr) (c : Nat) (hx : a.eval x = .slice (some ad) 1 c)
    (hc : w.cell? ad = some u) (h1 : u.oneCell' = true) (hl : vs.length ≤ 1048576) (hB : B ≤ w.heap.size)
    (h : ∀ v' w', FreshV B w' v' (vs ++ [u]) → w.grownBy w' v.ownBlock → Kept B w w' → wpList Try.prog ops Q rest (a.put o.dst v') w') : wpList Try.prog ops Q (o :: rest) a w := by
  obtain ⟨i0, hi, hz0, hz1, hz2⟩ := info_parts Try.infoInts
  refine wpList_append_own _ hgd s x 50 ho B 27 i0 (.slice none 0 0) 1 24 Try.underlying50 hi hz0 hz1 hz2 rfl (by decide) v vs.length _ hs hf ad 1 c [u] hx rfl ?_ ?_ ?_ ?_ hB ?_
  · intro j z hj
    match j, hj with
    | 0, hj => simp at hj; subst hj; simpa [Addr.add] using hc
  · intro z hz; simp at hz; subst hz; exact h1
  · unfold maxLen; omega
  · omega
  · intro v' w' ho' hg _
    exact h v' w' (by unfold FreshV; simpa using ho') hg (fun q hq hqB => Below.grown hq hg hq.size (fun b hb => Nat.le_trans hqB (World.ownsRow.lt hf b hb).1))

/-- The cells of a slice of lists, as values. -/
def ReadsV (w : World) (v : Value) (vs : List Value) : Prop :=
  ∃ ao cap, v = .slice ao vs.length cap ∧ (ao = none → cap = 0 ∧ vs = []) ∧ (vs.length ≤ cap ∧ cap ≤ maxLen) ∧ ∀ b off, ao = some ⟨b, off, none⟩ → ∀ j z, vs[j]? = some z → w.cell? ⟨b, off + j, none⟩ = some z

theorem wpList_joinV {ops : Array Oper} {rest : List Oper} {o : Oper} {a : Act} {Q : Exit → Act → World → Prop} {w : World} (hgd : o.guard = none) (s x : Operand)
    (ho : o.op = .call { callee := .builtin .append, args := #[s, x], argTypes := #[50, 50] })
    (B : Nat) (v : Value) (vs us : List Value) (hs : a.eval s = v) (hf : FreshV B w v vs) (b off c : Nat) (hx : a.eval x = .slice (some ⟨b, off, none⟩) us.length c)
    (hc : ∀ j z, us[j]? = some z → w.cell? ⟨b, off + j, none⟩ = some z) (h1 : ∀ u ∈ us, u.oneCell' = true) (hl : vs.length + us.length ≤ 1048576) (hB : B ≤ w.heap.size)
    (h : ∀ v' w', FreshV B w' v' (vs ++ us) → w.grownBy w' v.ownBlock → Kept B w w' → wpList Try.prog ops Q rest (a.put o.dst v') w') : wpList Try.prog ops Q (o :: rest) a w := by
  obtain ⟨i0, hi, hz0, hz1, hz2⟩ := info_parts Try.infoInts
  refine wpList_append_own _ hgd s x 50 ho B 27 i0 (.slice none 0 0) 1 24 Try.underlying50 hi hz0 hz1 hz2 rfl (by decide) v vs.length _ hs hf ⟨b, off, none⟩ us.length c us hx (by simp) ?_ ?_ ?_ ?_ hB ?_
  · intro j z hj
    rw [show (⟨b, off, none⟩ : Addr).add j = ⟨b, off + j, none⟩ by simp [Addr.add]]
    exact hc j z hj
  · intro z hz; exact h1 z hz
  · unfold maxLen; omega
  · omega
  · intro v' w' ho' hg _
    exact h v' w' (by unfold FreshV; rw [List.length_append]; exact ho') hg (fun q hq hqB => Below.grown hq hg hq.size (fun b hb => Nat.le_trans hqB (World.ownsRow.lt hf b hb).1))

/-- A row of a list in new memory, by its value. -/
theorem FreshSS.vals {B : Nat} {w : World} {v : Value} {L : List (List Int)} (h : FreshSS B w v L) : ∃ vs, FreshV B w v vs ∧ Rows_ B w vs L := by
  obtain ⟨vs, h1, h2, _⟩ := h
  exact ⟨vs, by unfold FreshV; rw [h2.len]; exact h1, h2⟩
theorem FreshV.ss {B : Nat} {w : World} {v : Value} {vs : List Value} {L : List (List Int)} (h : FreshV B w v vs) (r : Rows_ B w vs L) : FreshSS B w v L :=
  FreshSS.of (by rw [← r.len]; exact h) r
/-- Rows picked by indices without repeats are rows still. -/
theorem Rows_.pick {B : Nat} {w : World} {vs : List Value} {L : List (List Int)} (h : Rows_ B w vs L) (is : List Nat) (hn : is.Nodup) (hb : ∀ i ∈ is, i < vs.length) :
    Rows_ B w (is.map fun i => vs[i]?.getD (.slice none 0 0)) (is.map fun i => L[i]?.getD []) := by
  refine ⟨by simp, fun j u l hu hl => ?_, fun i j u z hij hu hz => ?_⟩
  · rw [List.getElem?_map] at hu hl
    cases hj : is[j]? with
    | none => rw [hj] at hu; simp at hu
    | some i =>
      have hi := hb i (List.mem_of_getElem? hj)
      rw [hj] at hu hl
      simp only [Option.map_some, Option.some.injEq] at hu hl
      rw [List.getElem?_eq_getElem hi, Option.getD_some] at hu
      rw [List.getElem?_eq_getElem (by rw [← h.len]; exact hi), Option.getD_some] at hl
      exact h.row i u l (by rw [List.getElem?_eq_getElem hi, hu]) (by rw [List.getElem?_eq_getElem (by rw [← h.len]; exact hi), hl])
  · rw [List.getElem?_map] at hu hz
    cases hi : is[i]? with
    | none => rw [hi] at hu; simp at hu
    | some a =>
      cases hj : is[j]? with
      | none => rw [hj] at hz; simp at hz
      | some b =>
        have ha := hb a (List.mem_of_getElem? hi)
        have hb' := hb b (List.mem_of_getElem? hj)
        rw [hi] at hu
        rw [hj] at hz
        simp only [Option.map_some, Option.some.injEq] at hu hz
        rw [List.getElem?_eq_getElem ha, Option.getD_some] at hu
        rw [List.getElem?_eq_getElem hb', Option.getD_some] at hz
        have hab : a ≠ b := by
          intro e
          subst e
          have h1 := (List.getElem?_eq_some_iff.1 hi)
          have h2 := (List.getElem?_eq_some_iff.1 hj)
          obtain ⟨l1, e1⟩ := h1
          obtain ⟨l2, e2⟩ := h2
          exact hij ((List.getElem_inj hn).1 (by rw [e1, e2]))
        exact h.apart a b u z hab (by rw [List.getElem?_eq_getElem ha, hu]) (by rw [List.getElem?_eq_getElem hb', hz])

end Go.Proofs.Ytnmnbeklofnonaa
