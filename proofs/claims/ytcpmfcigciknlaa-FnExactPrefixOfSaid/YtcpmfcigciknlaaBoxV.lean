/- A block told by the list of its cells. No program text is named here. -/
import Derived.Test.YtcpmfcigciknlaaBase
namespace Go.Proofs.Ytcpmfcigciknlaa
open Go.RowKit
set_option linter.unusedVariables false

/-- The block b holds vs from its first cell on, and may be written. -/
structure BoxV (w : World) (b : Nat) (vs : List Value) : Prop where
  cell : ∀ j v, vs[j]? = some v → w.cell? ⟨b, j, none⟩ = some v
  free : ∀ j, j < vs.length → w.frozen? ⟨b, j, none⟩ = false
  lt : b < w.heap.size
theorem BoxV.ext {w w' : World} {b : Nat} {vs : List Value} (h : BoxV w b vs) (e : Ext w w') : BoxV w' b vs :=
  ⟨fun j v hj => e.cell (h.cell j v hj), fun j hj => by
    have hb := Below.block e b h.lt
    have := h.free j hj
    unfold World.frozen? at this ⊢
    rw [hb]
    exact this, Nat.lt_of_lt_of_le h.lt e.size⟩
theorem BoxV.set {w : World} {b : Nat} {vs : List Value} (h : BoxV w b vs) (i : Nat) (x : Value) (hi : i < vs.length) : BoxV (w.setCell ⟨b, i, none⟩ x) b (vs.set i x) := by
  refine ⟨fun j v hj => ?_, fun j hj => ?_, by simpa using h.lt⟩
  · by_cases e : j = i
    · subst e
      rw [List.getElem?_set_self hi] at hj
      have hc : ∃ y, w.cell? ⟨b, j, none⟩ = some y := ⟨_, h.cell j _ (List.getElem?_eq_getElem hi)⟩
      obtain ⟨y, hy⟩ := hc
      rw [← hj]
      exact World.cell?_setCell_same _ _ _ hy
    · rw [List.getElem?_set_ne (fun h => e h.symm)] at hj
      rw [World.cell?_setCell_other _ _ _ _ (fun q => e (by cases q; rfl))]
      exact h.cell j v hj
  · rw [World.frozen?_setCell]
    rw [List.length_set] at hj
    exact h.free j hj
theorem BoxV.other {w : World} {b : Nat} {vs : List Value} (h : BoxV w b vs) (a : Addr) (x : Value) (hne : a.block ≠ b) : BoxV (w.setCell a x) b vs :=
  ⟨fun j v hj => by rw [World.cell?_setCell_other _ _ _ _ (fun q => hne (by rw [q]))]; exact h.cell j v hj, fun j hj => by rw [World.frozen?_setCell]; exact h.free j hj, by simpa using h.lt⟩
theorem boxV_new (w : World) (vs : List Value) (T : TypeId) : BoxV (w.alloc (.cells vs.toArray T)) w.heap.size vs :=
  ⟨fun j v hj => by rw [World.cell?_alloc_new]; simpa using hj, fun j hj => by simp [go_sem], by simp⟩
end Go.Proofs.Ytcpmfcigciknlaa
