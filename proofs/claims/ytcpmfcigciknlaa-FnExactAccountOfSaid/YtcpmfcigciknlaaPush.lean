/- Appends to a slice of integers that the call itself made: one more, and all of another slice. -/
import Derived.Test.YtcpmfcigciknlaaWords
import Derived.Laws.AppendOwnNone
import Derived.Laws.OwnMore
namespace Go.Proofs.Ytcpmfcigciknlaa
open Go.RowKit

theorem fresh_lit (w : World) (l : List Int) (cs : Array Value) (B : Nat) (hcs : cs.toList = l.map (Value.int .i64)) (hB : B ≤ w.heap.size) (hl : l.length ≤ 1048576) :
    Fresh B (w.alloc (.cells cs 3)) (.slice (some ⟨w.heap.size, 0, none⟩) l.length l.length) l := by
  have h := World.ownsRow_lit (e := 3) (size := 1) w cs l.length hB (by unfold maxLen; omega) (by rw [← Array.length_toList, hcs]; simp)
  unfold Fresh; rw [← hcs]; exact h

theorem fresh_lit2 (w : World) (o : Obj) (l : List Int) (n : Nat) (cs : Array Value) (hcs : cs.toList = l.map (Value.int .i64)) (hn : n = l.length) (hl : l.length ≤ 1048576) :
    Fresh w.heap.size ((w.alloc o).alloc (.cells cs 3)) (.slice (some ⟨w.heap.size + 1, 0, none⟩) n n) l := by
  have e : (w.alloc o).heap.size = w.heap.size + 1 := by simp
  have h := fresh_lit (w.alloc o) l cs w.heap.size hcs (by omega) hl
  rw [e] at h
  rw [hn]; exact h
theorem size_alloc_le {n : Nat} {w : World} {o : Obj} (h : n ≤ w.heap.size) : n ≤ (w.alloc o).heap.size := by
  have := (Ext.alloc (Ext.refl w) o).size
  omega
theorem cell_alloc_one (w : World) (x : Value) (T : TypeId) : (w.alloc (.cells #[x] T)).cell? ⟨w.heap.size, 0, none⟩ = some x := by go_simp

/-- Behind an append: only the slice's own block has turned, and there may be new ones. -/
def Kept (B : Nat) (w w' : World) : Prop := ∀ w0 : World, Ext w0 w → w0.heap.size ≤ B → Ext w0 w'

theorem wpList_push {ops : Array Oper} {rest : List Oper} {o : Oper} {a : Act} {Q : Exit → Act → World → Prop} {w : World} (hgd : o.guard = none) (s x : Operand)
    (ho : o.op = .call { callee := .builtin .append, args := #[s, x], argTypes := #[43, 43] })
    (B : Nat) (v : Value) (l : List Int) (n : Int) (hs : a.eval s = v) (hf : Fresh B w v l) (ad : Addr) (c : Nat) (hx : a.eval x = .slice (some ad) 1 c)
    (hc : w.cell? ad = some (.int .i64 n)) (hl : l.length ≤ 1099511627776) (hB : B ≤ w.heap.size)
    (h : ∀ v' w', Fresh B w' v' (l ++ [n]) → w.grownBy w' v.ownBlock → Kept B w w' → wpList Try.prog ops Q rest (a.put o.dst v') w') : wpList Try.prog ops Q (o :: rest) a w := by
  obtain ⟨i0, hi, hz0, hz1, hz2⟩ := info_parts Try.infoInt
  refine wpList_append_own _ hgd s x 43 ho B 3 i0 (.int .i64 0) 1 8 Try.underlying43 hi hz0 hz1 hz2 rfl (by decide) v l.length _ hs hf ad 1 c [.int .i64 n] hx rfl ?_ ?_ ?_ ?_ hB ?_
  · intro j u hj
    match j, hj with
    | 0, hj => simp at hj; subst hj; simpa [Addr.add] using hc
  · intro u hu; simp at hu; subst hu; rfl
  · unfold maxLen; omega
  · omega
  · intro v' w' ho' hg _
    refine h v' w' ?_ hg (fun w0 hx0 hB0 => Below.grown hx0 hg hx0.size (fun q hq => Nat.le_trans hB0 (World.ownsRow.lt hf q hq).1))
    unfold Fresh
    rw [List.map_append, List.length_append]; exact ho'

theorem wpList_join {ops : Array Oper} {rest : List Oper} {o : Oper} {a : Act} {Q : Exit → Act → World → Prop} {w : World} (hgd : o.guard = none) (s x : Operand)
    (ho : o.op = .call { callee := .builtin .append, args := #[s, x], argTypes := #[43, 43] })
    (B : Nat) (v u : Value) (l r : List Int) (hs : a.eval s = v) (hf : Fresh B w v l) (hx : a.eval x = u) (hu : Ints w u r)
    (hl : l.length + r.length ≤ 1099511627776) (hB : B ≤ w.heap.size)
    (h : ∀ v' w', Fresh B w' v' (l ++ r) → w.grownBy w' v.ownBlock → Kept B w w' → wpList Try.prog ops Q rest (a.put o.dst v') w') : wpList Try.prog ops Q (o :: rest) a w := by
  obtain ⟨i0, hi, hz0, hz1, hz2⟩ := info_parts Try.infoInt
  obtain ⟨au, cu, rfl, hlu, hcap, hcu⟩ := hu
  cases au with
  | none =>
    have hr : r.length = 0 := by have := hcap.1; have := hcap.2.2 rfl; omega
    have hc0 : cu = 0 := hcap.2.2 rfl
    obtain rfl : r = [] := List.eq_nil_of_length_eq_zero hr
    subst hc0
    refine wpList_append_own_none hgd s x 43 ho B 3 i0 1 Try.underlying43 hi v l.length _ hs hf hx (h v w ?_ ?_ ?_)
    · rw [List.append_nil]; exact hf
    · exact ⟨rfl, rfl, rfl, Nat.le_refl _, fun _ _ _ => rfl⟩
    · exact fun w0 hx0 _ => hx0
  | some ad =>
    refine wpList_append_own _ hgd s x 43 ho B 3 i0 (.int .i64 0) 1 8 Try.underlying43 hi hz0 hz1 hz2 rfl (by decide) v l.length _ hs hf ad r.length cu (r.map (.int .i64)) hx (by simp) ?_ ?_ ?_ ?_ hB ?_
    · intro j z hj
      have hlt : j < r.length := by
        have := (List.getElem?_eq_some_iff.1 hj).1
        simpa using this
      obtain ⟨b, off, hab, hcc⟩ := hcu (by omega)
      cases hab
      have hcj := hcc j hlt
      rw [show (⟨b, off, none⟩ : Addr).add j = ⟨b, off + j, none⟩ by simp [Addr.add], hcj]
      simp [List.getElem?_eq_getElem hlt] at hj ⊢
      exact hj
    · intro z hz
      obtain ⟨q, _, rfl⟩ := List.mem_map.1 hz
      rfl
    · unfold maxLen; omega
    · omega
    · intro v' w' ho' hg _
      refine h v' w' ?_ hg (fun w0 hx0 hB0 => Below.grown hx0 hg hx0.size (fun q hq => Nat.le_trans hB0 (World.ownsRow.lt hf q hq).1))
      unfold Fresh
      rw [List.map_append, List.length_append]; exact ho'

end Go.Proofs.Ytcpmfcigciknlaa
