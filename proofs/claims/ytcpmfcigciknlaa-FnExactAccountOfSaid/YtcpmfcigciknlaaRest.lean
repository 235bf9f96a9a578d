/- What is left of an element while its cells turn. No program text is named here. -/
import Derived.Test.YtcpmfcigciknlaaPutL


namespace Go.Proofs.Ytcpmfcigciknlaa
open Go.RowKit
set_option linter.unusedVariables false

/-- From q0 on the cells of vs stand in ys, from o on. -/
def RestX (ys : List Value) (o q0 : Nat) (vs : List Value) : Prop := ∀ q v, q0 ≤ q → vs[q]? = some v → ys[o + q]? = some v
theorem RestX.put {ys vs ms : List Value} {o q0 p q1 : Nat} (h : RestX ys o q0 vs) (h0 : q0 ≤ q1) (h1 : p + ms.length ≤ o + q1) : RestX (putL ys p ms) o q1 vs := fun q v hq hv => by
  rw [putL_out _ _ _ _ (by omega)]
  exact h q v (by omega) hv
/-- But from a on, below b, the lists are one. -/
def KeptX (ys zs : List Value) (a b : Nat) : Prop := zs.length = ys.length ∧ ∀ q, (q < a ∨ b ≤ q) → zs[q]? = ys[q]?
theorem KeptX.refl (ys : List Value) (a b : Nat) : KeptX ys ys a b := ⟨rfl, fun _ _ => rfl⟩
theorem KeptX.put {ys zs ms : List Value} {a b p : Nat} (h : KeptX ys zs a b) (h1 : a ≤ p) (h2 : p + ms.length ≤ b) : KeptX ys (putL zs p ms) a b :=
  ⟨by rw [putL_len]; exact h.1, fun q hq => by rw [putL_out _ _ _ _ (by omega)]; exact h.2 q hq⟩
theorem BoxV.ins' {lo hi : Nat} {w w' : World} {b : Nat} {vs : List Value} (h : BoxV w b vs) (k : Ins lo hi w w') (hb : b < lo ∨ hi ≤ b) : BoxV w' b vs :=
  ⟨fun j v hj => k.cell (h.cell j v hj) hb, fun j hj => by
    have := h.free j hj
    unfold World.frozen? at this ⊢
    rw [k.block b h.lt hb]
    exact this, Nat.lt_of_lt_of_le h.lt k.size⟩
/-- Marks were laid, so many at most, between two blocks. -/
def MarkUp (lo hi : Nat) (k : Int) (n : Nat) (w : World) (e : Ending) (w' : World) : Prop := ∃ k' : Int, e = .returned (.int .i64 k') ∧ k ≤ k' ∧ k' ≤ k + 16 * (n : Int) ∧ Ins lo hi w w'
end Go.Proofs.Ytcpmfcigciknlaa
