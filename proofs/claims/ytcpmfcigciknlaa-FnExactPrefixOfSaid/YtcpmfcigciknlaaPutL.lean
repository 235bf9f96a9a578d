/- Values put into a list and into a block; what a size leaves; ranges of blocks that stand. No program text is named here. -/
import Derived.Test.YtcpmfcigciknlaaBoxV
import Derived.Test.YtcpmfcigciknlaaGrSet
import Derived.Test.YtcpmfcigciknlaaIns
namespace Go.Proofs.Ytcpmfcigciknlaa
open Go.RowKit
set_option linter.unusedVariables false

/-- The list xs with the values of vs from place o on. -/
def putL (xs : List Value) : Nat → List Value → List Value
  | _, [] => xs
  | o, v :: r => putL (xs.set o v) (o + 1) r
theorem putL_len : ∀ (vs : List Value) (o : Nat) (xs : List Value), (putL xs o vs).length = xs.length
  | [], _, _ => rfl
  | v :: r, o, xs => by
    show (putL (xs.set o v) (o + 1) r).length = _
    rw [putL_len r]; simp
theorem putL_out : ∀ (vs : List Value) (o : Nat) (xs : List Value) (j : Nat), (j < o ∨ o + vs.length ≤ j) → (putL xs o vs)[j]? = xs[j]?
  | [], _, _, _, _ => rfl
  | v :: r, o, xs, j, h => by
    show (putL (xs.set o v) (o + 1) r)[j]? = _
    rw [putL_out r (o + 1) _ j (by simp at h; omega), List.getElem?_set, if_neg (by simp at h; omega)]
theorem putL_in : ∀ (vs : List Value) (o : Nat) (xs : List Value) (j : Nat), j < vs.length → o + vs.length ≤ xs.length → (putL xs o vs)[o + j]? = vs[j]?
  | v :: r, o, xs, 0, _, h => by
    show (putL (xs.set o v) (o + 1) r)[o + 0]? = _
    rw [List.length_cons] at h
    rw [putL_out r (o + 1) _ _ (by omega), Nat.add_zero, List.getElem?_set_self (by omega)]
    rfl
  | v :: r, o, xs, j + 1, hj, h => by
    show (putL (xs.set o v) (o + 1) r)[o + (j + 1)]? = _
    have := putL_in r (o + 1) (xs.set o v) j (by simpa using hj) (by simp at h ⊢; omega)
    rw [show o + (j + 1) = o + 1 + j by omega, this]
    simp
/-- The sum over the first k. -/
def sumN (g : List Nat) (k : Nat) : Nat := (g.take k).sum
theorem sumN_succ {g : List Nat} {k : Nat} (h : k < g.length) : sumN g (k + 1) = sumN g k + g[k] := by
  unfold sumN
  rw [List.take_add_one, List.getElem?_eq_getElem h, List.sum_append]
  simp only [Option.toList, List.sum_cons, List.sum_nil, Nat.add_zero]
theorem sumN_zero (g : List Nat) : sumN g 0 = 0 := by simp [sumN]
theorem sumN_all (g : List Nat) : sumN g g.length = g.sum := by simp [sumN]
theorem sumN_mono {g : List Nat} {k : Nat} (h : k ≤ g.length) : sumN g k ≤ g.sum := by
  induction hd : g.length - k generalizing k with
  | zero =>
    obtain rfl : k = g.length := by omega
    rw [sumN_all]; exact Nat.le_refl _
  | succ d ih =>
    have hk : k < g.length := by omega
    have := ih (k := k + 1) (by omega) (by omega)
    rw [sumN_succ hk] at this
    omega
/-- What is left, -1 where there is not enough. -/
def lessened (left : Int) (n : Nat) : Int := if left < n then -1 else left - n
theorem lessened_no {left : Int} {n : Nat} (h : left < n) : lessened left n = -1 := by unfold lessened; rw [if_pos h]
theorem lessened_yes {left : Int} {n : Nat} (h : (n : Int) ≤ left) : lessened left n = left - n := by unfold lessened; rw [if_neg (by omega)]
theorem len_le_sum : ∀ (l : List Nat) (x : Nat), x ∈ l → x ≤ l.sum
  | y :: l, x, h => by
    rcases List.mem_cons.1 h with rfl | h
    · simp
    · have := len_le_sum l x h
      simp; omega
theorem ins_set {lo hi b o : Nat} {w : World} {v : Value} (h1 : lo ≤ b) (h2 : b < hi) : Ins lo hi w (w.setCell ⟨b, o, none⟩ v) :=
  Ins.of_grown (grownBy_set w b o v) (fun g hg => by cases hg; exact ⟨h1, h2⟩)
theorem boxV_puts {b : Nat} : ∀ (vs : List Value) (o : Nat) (w : World) (xs : List Value), BoxV w b xs → o + vs.length ≤ xs.length → BoxV (w.setCells b o vs) b (putL xs o vs)
  | [], _, w, _, h, _ => h
  | v :: r, o, w, xs, h, hl => by
    rw [List.length_cons] at hl
    exact boxV_puts r (o + 1) _ _ (h.set o v (by omega)) (by rw [List.length_set]; omega)
theorem ins_puts {lo hi b : Nat} (h1 : lo ≤ b) (h2 : b < hi) : ∀ (vs : List Value) (o : Nat) (w : World), Ins lo hi w (w.setCells b o vs)
  | [], _, w => Ins.refl _ _ _
  | v :: r, o, w => (ins_set h1 h2).trans (ins_puts h1 h2 r (o + 1) _)
theorem Stood.within {lo hi a b : Nat} {w w' : World} (k : Stood lo hi w w') (h1 : lo ≤ a) (h2 : b ≤ hi) : Stood a b w w' := ⟨k.1, fun x x1 x2 => k.2 x (by omega) (by omega)⟩
theorem BoxV.kept {w w' : World} {b lo hi : Nat} {vs : List Value} (h : BoxV w b vs) (k : Stood lo hi w w') (h1 : lo ≤ b) (h2 : b < hi) : BoxV w' b vs := by
  have hb := k.2 b h1 h2
  refine ⟨fun j v hj => ?_, fun j hj => ?_, Nat.lt_of_lt_of_le h.lt k.1⟩
  · exact (World.cell?_of_block (a := ⟨b, j, none⟩) hb).trans (h.cell j v hj)
  · have := h.free j hj
    unfold World.frozen? at this ⊢
    rw [hb]
    exact this
end Go.Proofs.Ytcpmfcigciknlaa
