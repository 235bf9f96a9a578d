/- An append of one more list to a slice of lists that the call itself made. -/
import Derived.Test.YtnmnbeklofnonaaSS
import Derived.Test.YtnmnbeklofnonaaPush
namespace Go.Proofs.Ytnmnbeklofnonaa
open Go.RowKit
set_option linter.unusedVariables false

/-- Two slices of two element types lie in two blocks. -/
theorem types_apart {w : World} {B B' e e' sz sz' n m : Nat} {v u : Value} {xs ys : List Value} (h : w.ownsRow B e sz v n xs) (k : w.ownsRow B' e' sz' u m ys) (hne : e ≠ e') : u.ownBlock = none ∨ u.ownBlock ≠ v.ownBlock := by
  rcases k.2 with ⟨rfl, _⟩ | ⟨g', cap', cur', rfl, _, hg', _⟩
  · exact .inl rfl
  · refine .inr fun hb => ?_
    rcases h.2 with ⟨rfl, _⟩ | ⟨g, cap, cur, rfl, _, hg, _⟩
    · simp [Value.ownBlock] at hb
    · simp [Value.ownBlock] at hb
      subst hb
      rw [hg] at hg'
      simp at hg'
      exact hne hg'.2
theorem FreshSS.of {B : Nat} {w : World} {v : Value} {L : List (List Int)} {vs : List Value} (h : w.ownsRow B 27 1 v L.length vs) (r : Rows_ B w vs L) : FreshSS B w v L :=
  ⟨vs, h, r, fun j u hu => by
    have hj : j < vs.length := (List.getElem?_eq_some_iff.1 hu).1
    exact types_apart h (r.row j u _ hu (List.getElem?_eq_getElem (by rw [← r.len]; exact hj))) (by decide)⟩
theorem FreshSS.form {B : Nat} {w : World} {v : Value} {L : List (List Int)} (h : FreshSS B w v L) : ∃ ao cap, v = .slice ao L.length cap := by
  obtain ⟨ao, cap, hv, _⟩ := h.intss
  exact ⟨ao, cap, hv⟩

theorem wpList_pushSS {ops : Array Oper} {rest : List Oper} {o : Oper} {a : Act} {Q : Exit → Act → World → Prop} {w : World} (hgd : o.guard = none) (s x : Operand)
    (ho : o.op = .call { callee := .builtin .append, args := #[s, x], argTypes := #[50, 50] })
    (B : Nat) (v : Value) (L : List (List Int)) (l : List Int) (w0 : World) (hs : a.eval s = v) (hf : FreshSS B w0 v L) (e : Ext w0 w) (u : Value) (hu : Fresh w0.heap.size w u l) (ad : Addr) (c : Nat) (hx : a.eval x = .slice (some ad) 1 c)
    (hc : w.cell? ad = some u) (h1 : u.oneCell' = true) (hl : L.length ≤ 1048576) (hB : B ≤ w0.heap.size)
    (h : ∀ v' w', FreshSS B w' v' (L ++ [l]) → Kept B w w' → wpList Try.prog ops Q rest (a.put o.dst v') w') : wpList Try.prog ops Q (o :: rest) a w := by
  obtain ⟨i0, hi, hz0, hz1, hz2⟩ := info_parts Try.infoInts
  obtain ⟨vs, h1r, h2r, _⟩ := hf
  have ho1 := e.ownsRow h1r
  have hR := h2r.snoc e hu hB
  refine wpList_append_own _ hgd s x 50 ho B 27 i0 (.slice none 0 0) 1 24 Try.underlying50 hi hz0 hz1 hz2 rfl (by decide) v L.length _ hs ho1 ad 1 c [u] hx rfl ?_ ?_ ?_ ?_ (Nat.le_trans hB e.size) ?_
  · intro j z hj
    match j, hj with
    | 0, hj => simp at hj; subst hj; simpa [Addr.add] using hc
  · intro z hz; simp at hz; subst hz; exact h1
  · unfold maxLen; omega
  · omega
  · intro v' w' ho' hg _
    have hRt : Rows_ B w' (vs ++ [u]) (L ++ [l]) := hR.touch hg (fun j z hz => by
      have hj : j < (vs ++ [u]).length := (List.getElem?_eq_some_iff.1 hz).1
      exact types_apart ho1 (hR.row j z _ hz (List.getElem?_eq_getElem (by rw [← hR.len]; exact hj))) (by decide))
    refine h v' w' (FreshSS.of (by simpa using ho') hRt) (fun q hq hqB => Below.grown hq hg hq.size (fun b hb => Nat.le_trans hqB (World.ownsRow.lt ho1 b hb).1))

end Go.Proofs.Ytnmnbeklofnonaa
