/- Contract of the program's ledFrom: the marks of all points that a point leads to. -/
import Derived.Test.YtnmnbeklofnonaaImplGraph
import Derived.Test.YtnmnbeklofnonaaLed
import Derived.Test.YtnmnbeklofnonaaPush
import Derived.Deep.LoopGhost
import Derived.Laws.Rows
namespace Go.Proofs.Ytnmnbeklofnonaa
open Go.RowKit
set_option linter.unusedVariables false

def marksB (bs : List Bool) : Array Value := (bs.map Value.bool).toArray
theorem marksB_size (bs : List Bool) : (marksB bs).size = bs.length := by simp [marksB]
theorem marksB_get (bs : List Bool) (j : Nat) : (marksB bs)[j]? = bs[j]?.map Value.bool := by simp [marksB]
theorem marksB_set (bs : List Bool) (j : Nat) (b : Bool) : (marksB bs).setIfInBounds j (.bool b) = marksB (bs.set j b) := by
  simp [marksB, List.map_set]
theorem Try.infoFourty : (Try.prog.info? 90).map (·.size) = some 40 := by kernel_rfl
theorem marksB_all (bs : List Bool) : (marksB bs).all (·.oneCell') = true := by
  rw [Array.all_eq_true]
  intro i hi
  have : (marksB bs)[i]? = some (marksB bs)[i] := Array.getElem?_eq_getElem hi
  rw [marksB_get] at this
  cases hb : bs[i]? with
  | none => rw [hb] at this; cases this
  | some b => rw [hb] at this; simp at this; rw [← this]; rfl

theorem Fresh.less {B : Nat} {w : World} {ao : Option Addr} {cap : Nat} {l : List Int} (h : Fresh B w (.slice ao l.length cap) l) (k : Nat) (hk : k ≤ l.length) : Fresh B w (.slice ao k cap) (l.take k) := by
  have e : (l.take k).length = k := by simp; omega
  unfold Fresh
  rw [e]
  refine ⟨by simp; omega, ?_⟩
  rcases h.2 with ⟨hv, hn⟩ | ⟨g, cap', cur, hv, hb, hg, hnc, hcm, hcs, ht⟩
  · left
    simp only [Value.slice.injEq] at hv
    obtain ⟨rfl, _, rfl⟩ := hv
    have : k = 0 := by omega
    subst this
    exact ⟨rfl, rfl⟩
  · right
    simp only [Value.slice.injEq] at hv
    obtain ⟨rfl, _, rfl⟩ := hv
    refine ⟨g, cap, cur, rfl, hb, hg, by omega, hcm, hcs, ?_⟩
    rw [List.map_take, ← ht, List.take_take]
    congr 1
    omega

theorem grownBy_cell (w : World) (b i : Nat) (v : Value) : w.grownBy (w.setCell ⟨b, i, none⟩ v) (some b) :=
  ⟨rfl, rfl, rfl, by simp, fun k _ hk => heap_setCell_other _ _ _ _ (by intro e; subst e; exact hk rfl)⟩

/-- The two arrays of the search (the answer's is untouched), and the list of points that are left. -/
structure AtB (w wr : World) (bs : List Bool) (vl : Value) (left : List Int) : Prop where
  out : wr.heap[w.heap.size]? = some (.cells (marksB noneB) 90 (0, 0))
  led : wr.heap[w.heap.size + 1]? = some (.cells (marksB bs) 90 (0, 0))
  left : Fresh (w.heap.size + 2) wr vl left
  size : w.heap.size + 2 ≤ wr.heap.size
  ext : Ext w wr
theorem AtB.less {w wr : World} {bs : List Bool} {ao : Option Addr} {cap t : Nat} {left : List Int} {p : Int} (ht : left.length = t) (h : AtB w wr bs (.slice ao (t + 1) cap) (left ++ [p])) : AtB w wr bs (.slice ao t cap) left := by
  subst ht
  have hl : (left ++ [p]).length = left.length + 1 := by simp
  have := Fresh.less (k := left.length) (l := left ++ [p]) (by rw [hl]; exact h.left) (by omega)
  rw [List.take_left] at this
  exact ⟨h.out, h.led, this, h.size, h.ext⟩
theorem AtB.mark {w wr : World} {bs : List Bool} {vl : Value} {left : List Int} (h : AtB w wr bs vl left) (m : Nat) : AtB w (wr.setCell ⟨w.heap.size + 1, m, none⟩ (.bool true)) (bs.set m true) vl left := by
  refine ⟨?_, ?_, ?_, ?_, Below.setCell h.ext (Nat.le_succ _) _⟩
  · rw [heap_setCell_other _ _ _ _ (by show w.heap.size ≠ w.heap.size + 1; omega)]; exact h.out
  · have := heap_setCell_same wr (w.heap.size + 1) m _ _ (.bool true) h.led
    rw [marksB_set] at this
    exact this
  · refine World.ownsRow.kept h.left (grownBy_cell wr (w.heap.size + 1) m (.bool true)) ?_
    cases hv : vl.ownBlock with
    | none => exact .inl rfl
    | some q =>
      refine .inr fun e => ?_
      cases e
      have := (World.ownsRow.lt h.left _ hv).1
      omega
  · have := h.size
    simpa using this
theorem AtB.cell {w wr : World} {bs : List Bool} {vl : Value} {left : List Int} (h : AtB w wr bs vl left) {m : Nat} {b : Bool} (hb : bs[m]? = some b) : wr.cell? ⟨w.heap.size + 1, m, none⟩ = some (.bool b) := by
  rw [cell_of_row wr _ _ _ _ _ h.led, marksB_get, hb]
  rfl
theorem AtB.free {w wr : World} {bs : List Bool} {vl : Value} {left : List Int} (h : AtB w wr bs vl left) (m : Nat) : wr.frozen? ⟨w.heap.size + 1, m, none⟩ = false := frozen_of_row wr _ m _ _ h.led
theorem AtB.push {w wr w1 : World} {bs : List Bool} {vl v1 : Value} {left l1 : List Int} (h : AtB w wr bs vl left) {o : Obj} (f : Fresh (w.heap.size + 2) w1 v1 l1) (g : (wr.alloc o).grownBy w1 vl.ownBlock) (k : Kept (w.heap.size + 2) (wr.alloc o) w1) : AtB w w1 bs v1 l1 := by
  have hsz := h.size
  have hal : (wr.alloc o).heap.size = wr.heap.size + 1 := by simp
  have hne : ∀ q : Nat, q < w.heap.size + 2 → some q ≠ vl.ownBlock := fun q hq e => by
    have := (World.ownsRow.lt h.left q e.symm).1
    omega
  refine ⟨?_, ?_, f, by have := g.size; omega, ?_⟩
  · rw [g.block _ (by omega) (hne _ (by omega)), heap_alloc_old _ _ (by omega)]; exact h.out
  · rw [g.block _ (by omega) (hne _ (by omega)), heap_alloc_old _ _ (by omega)]; exact h.led
  · exact k w (h.ext.alloc _) (by omega)

theorem atB_start (w : World) (k : Nat) (hk : k < 40) : AtB w (((w.alloc (.cells #[.bool false, .bool false, .bool false, .bool false, .bool false, .bool false, .bool false, .bool false, .bool false, .bool false, .bool false, .bool false, .bool false, .bool false, .bool false, .bool false, .bool false, .bool false, .bool false, .bool false, .bool false, .bool false, .bool false, .bool false, .bool false, .bool false, .bool false, .bool false, .bool false, .bool false, .bool false, .bool false, .bool false, .bool false, .bool false, .bool false, .bool false, .bool false, .bool false, .bool false] 90)).alloc (.cells ([.bool false, .bool false, .bool false, .bool false, .bool false, .bool false, .bool false, .bool false, .bool false, .bool false, .bool false, .bool false, .bool false, .bool false, .bool false, .bool false, .bool false, .bool false, .bool false, .bool false, .bool false, .bool false, .bool false, .bool false, .bool false, .bool false, .bool false, .bool false, .bool false, .bool false, .bool false, .bool false, .bool false, .bool false, .bool false, .bool false, .bool false, .bool false, .bool false, .bool false].set k (.bool true)).toArray 90)).alloc (.cells #[.int .i64 k] 3)) (noneB.set k true) (.slice (some ⟨w.heap.size + 1 + 1, 0, none⟩) 1 1) [(k : Int)] := by
  have e0 : (#[.bool false, .bool false, .bool false, .bool false, .bool false, .bool false, .bool false, .bool false, .bool false, .bool false, .bool false, .bool false, .bool false, .bool false, .bool false, .bool false, .bool false, .bool false, .bool false, .bool false, .bool false, .bool false, .bool false, .bool false, .bool false, .bool false, .bool false, .bool false, .bool false, .bool false, .bool false, .bool false, .bool false, .bool false, .bool false, .bool false, .bool false, .bool false, .bool false, .bool false] : Array Value) = marksB noneB := by rfl
  have e1 : ([.bool false, .bool false, .bool false, .bool false, .bool false, .bool false, .bool false, .bool false, .bool false, .bool false, .bool false, .bool false, .bool false, .bool false, .bool false, .bool false, .bool false, .bool false, .bool false, .bool false, .bool false, .bool false, .bool false, .bool false, .bool false, .bool false, .bool false, .bool false, .bool false, .bool false, .bool false, .bool false, .bool false, .bool false, .bool false, .bool false, .bool false, .bool false, .bool false, .bool false].set k (.bool true)).toArray = marksB (noneB.set k true) := by
    rw [← marksB_set, ← e0]
    simp
  rw [e0, e1]
  have s1 : (w.alloc (.cells (marksB noneB) 90)).heap.size = w.heap.size + 1 := by simp
  have s2 : ((w.alloc (.cells (marksB noneB) 90)).alloc (.cells (marksB (noneB.set k true)) 90)).heap.size = w.heap.size + 2 := by simp
  refine ⟨?_, ?_, ?_, by simp, ((Ext.alloc (Ext.refl _) _).alloc _).alloc _⟩
  · rw [heap_alloc_old _ _ (by omega), heap_alloc_old _ _ (by omega)]; exact heap_alloc_new _ _
  · rw [heap_alloc_old _ _ (by omega)]
    have := heap_alloc_new (w.alloc (.cells (marksB noneB) 90)) (.cells (marksB (noneB.set k true)) 90)
    rw [s1] at this
    exact this
  · have := fresh_lit ((w.alloc (.cells (marksB noneB) 90)).alloc (.cells (marksB (noneB.set k true)) 90)) [(k : Int)] #[.int .i64 k] (w.heap.size + 2) rfl (by omega) (by simp)
    rw [s2] at this
    exact this

end Go.Proofs.Ytnmnbeklofnonaa
