/- A slice in new memory ahead of a sort and behind it: the words of the sort's contract and those of this seat. -/
import Derived.Test.YtnmnbeklofnonaaPush
import Derived.Test.YtnmnbeklofnonaaShelf
import Derived.Test.YtnmnbeklofnonaaSS
namespace Go.Proofs.Ytnmnbeklofnonaa
open Go.RowKit Go.Sort Go.Shelf
set_option linter.unusedVariables false

section
variable {α : Type} [Inhabited α] (enc : α → Value)

theorem holds_of_own {w : World} {B g n cap : Nat} {e : TypeId} {d : List α} (h : w.ownsRow B e 1 (.slice (some ⟨g, 0, none⟩) n cap) n (d.map enc)) (hn : d.length = n) : Holds enc w g 0 d.toArray := by
  subst hn
  intro j hj
  have hj' : j < d.length := by simpa using hj
  have hc := World.ownsRow.cellAt h j (by omega)
  rcases h.2 with ⟨hv, _⟩ | ⟨g', cap', cur, hv, _, hb, _⟩
  · cases hv
  · cases hv
    refine ⟨?_, by simp [World.frozen?, hb]⟩
    rw [Nat.zero_add, hc, List.getElem?_map, List.getElem?_eq_getElem hj']
    simp [hj']

theorem heap_put {w : World} {g n : Nat} {os : Array Obj} {cur : Array Value} {e : TypeId} {fr : Nat × Nat} (d : Array α) (hb : w.heap[g]? = some (.cells cur e fr)) :
    (grow (putRow enc (Sort.ahead w n) g 0 d) os).heap[g]? = some (.cells (putCells enc 0 d cur) e fr) := by
  have hg : g < w.heap.size := (Array.getElem?_eq_some_iff.1 hb).1
  rw [heap_grow_old _ _ (by simpa using hg)]
  simp [putRow, mapBlock, Sort.ahead, Array.getElem?_modify, hb, onCells]

theorem grown_put {w : World} {g n : Nat} {os : Array Obj} (d : Array α) : w.grownBy (grow (putRow enc (Sort.ahead w n) g 0 d) os) (some g) := by
  refine ⟨rfl, rfl, rfl, by simp, fun k hk hne => ?_⟩
  rw [heap_grow_old _ _ (by simpa using hk)]
  have : g ≠ k := fun e => hne (by rw [e])
  simp [putRow, mapBlock, Sort.ahead, Array.getElem?_modify, this]

theorem take_put (cur : Array Value) (ts : List α) (h : ts.length ≤ cur.size) : (putCells enc 0 ts.toArray cur).toList.take ts.length = ts.map enc := by
  apply List.ext_getElem?
  intro j
  by_cases hj : j < ts.length
  · rw [List.getElem?_take_of_lt hj, Array.getElem?_toList]
    simp [putCells, hj, show j < cur.size by omega]
  · rw [List.getElem?_take_eq_none (by omega), List.getElem?_eq_none (by simp; omega)]

/-- Behind the sort the same slice owns what was put. -/
theorem own_put {w : World} {B g cap n m : Nat} {e : TypeId} {os : Array Obj} {xs : List Value} {ts : List α} (h : w.ownsRow B e 1 (.slice (some ⟨g, 0, none⟩) n cap) n xs) (hl : ts.length = n) :
    (grow (putRow enc (Sort.ahead w m) g 0 ts.toArray) os).ownsRow B e 1 (.slice (some ⟨g, 0, none⟩) n cap) n (ts.map enc) := by
  rcases h.2 with ⟨hv, _⟩ | ⟨g', cap', cur, hv, hbase, hb, h1, h2, h3, _⟩
  · cases hv
  · cases hv
    refine ⟨by simp [hl], .inr ⟨g, cap, _, rfl, hbase, heap_put enc ts.toArray hb, h1, h2, by simp [putCells, h3], ?_⟩⟩
    rw [Nat.mul_one, ← hl]
    exact take_put enc cur ts (by omega)
end

/-- What a sort of integers leaves. -/
def sortI (l : List Int) : List Int := l.mergeSort fun x y => decide (x ≤ y)
def SortOk : Prop := ∀ (B : Nat) (v : Value) (l : List Int) (w : World), Fresh B w v l → 0 < l.length → l.length ≤ 1048576 →
  Calls Try.prog 156 #[v] w (fun e w' => (∃ r, e = .returned r) ∧ Fresh B w' v (sortI l) ∧ w.grownBy w' v.ownBlock)
theorem sortOk : SortOk := by
  intro B v l w hf h0 hl
  have hf' : w.ownsRow B 3 1 v l.length (l.map (Value.int .i64)) := hf
  rcases hf.2 with ⟨_, h1⟩ | ⟨g, cap, cur, rfl, hb, hg, _⟩
  · omega
  · have hH := holds_of_own (Value.int .i64) hf' rfl
    have hgw : g < w.heap.size := (Array.getElem?_eq_some_iff.1 hg).1
    have hc := Try.slices_Sort_int g 0 cap l w hH hgw (by omega)
    refine hc.mono ?_
    rintro e w' ⟨rfl, n, os, rfl⟩
    have hlen : (sortI l).length = l.length := by simp [sortI]
    refine ⟨⟨_, rfl⟩, ?_, grown_put _ _⟩
    have := own_put (Value.int .i64) (m := n) (os := os) hf' hlen
    unfold Fresh
    rw [hlen]
    exact this

end Go.Proofs.Ytnmnbeklofnonaa
