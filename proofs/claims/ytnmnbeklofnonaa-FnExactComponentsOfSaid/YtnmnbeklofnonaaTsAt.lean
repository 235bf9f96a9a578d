/- The state of Tarjan's search in memory: one block of 164 cells, and lists in blocks of their own. -/
import Derived.Test.YtnmnbeklofnonaaTarj3
import Derived.Test.YtnmnbeklofnonaaSS
import Derived.Test.YtnmnbeklofnonaaPush
import Derived.Laws.Rows
import Derived.Deep.AppendLies
namespace Go.Proofs.Ytnmnbeklofnonaa
open Go.RowKit
set_option linter.unusedVariables false

/-- The cell i of the state: the graph, the groups, the open ones; whether each is open; how many were met; when, the least seen, how many looked at. -/
def tsCell (gv grv ov : Value) (S : TS) (i : Nat) : Value :=
  if i < 3 then (if i = 0 then gv else if i = 1 then grv else ov)
  else if i < 43 then .bool (S.op (i - 3))
  else if i < 44 then .int .i64 (S.met : Int)
  else if i < 84 then .int .i64 (S.N (i - 44) : Int)
  else if i < 124 then .int .i64 (S.bk (i - 84) : Int)
  else .int .i64 (S.lk (i - 124) : Int)
def tsCells (gv grv ov : Value) (S : TS) : List Value := (List.range 164).map (tsCell gv grv ov S)
theorem tsCells_len (gv grv ov : Value) (S : TS) : (tsCells gv grv ov S).length = 164 := by simp [tsCells]
theorem tsCells_get (gv grv ov : Value) (S : TS) {i : Nat} (h : i < 164) : (tsCells gv grv ov S)[i]? = some (tsCell gv grv ov S i) := by simp [tsCells, h]
theorem tsCells_set {gv grv ov gv' grv' ov' : Value} {S S' : TS} {i : Nat} {v : Value} (h : ∀ j, j < 164 → tsCell gv' grv' ov' S' j = if j = i then v else tsCell gv grv ov S j) : (tsCells gv grv ov S).set i v = tsCells gv' grv' ov' S' := by
  apply List.ext_getElem?
  intro j
  by_cases hj : j < 164
  · rw [List.getElem?_set, tsCells_len, tsCells_get _ _ _ _ hj, tsCells_get _ _ _ _ hj, h j hj]
    by_cases e : i = j
    · subst e; simp [hj]
    · rw [if_neg e, if_neg (fun e' => e e'.symm)]
  · rw [List.getElem?_eq_none (by rw [List.length_set, tsCells_len]; omega), List.getElem?_eq_none (by rw [tsCells_len]; omega)]

/-- The state lies in block X. -/
def TsAt (w : World) (X : Nat) (gv grv ov : Value) (S : TS) : Prop := w.heap[X]? = some (.cells (tsCells gv grv ov S).toArray 130 (0, 0))
theorem TsAt.cell {w : World} {X : Nat} {gv grv ov : Value} {S : TS} (h : TsAt w X gv grv ov S) {i : Nat} (hi : i < 164) : w.cell? ⟨X, i, none⟩ = some (tsCell gv grv ov S i) := by
  rw [cell_of_row w _ _ _ _ _ h]
  simpa using tsCells_get gv grv ov S hi
theorem TsAt.free {w : World} {X : Nat} {gv grv ov : Value} {S : TS} (h : TsAt w X gv grv ov S) (i : Nat) : w.frozen? ⟨X, i, none⟩ = false := frozen_of_row w X i _ _ h
theorem TsAt.graph {w : World} {X : Nat} {gv grv ov : Value} {S : TS} (h : TsAt w X gv grv ov S) : w.cell? ⟨X, 0, none⟩ = some gv := h.cell (by omega)
theorem TsAt.groups {w : World} {X : Nat} {gv grv ov : Value} {S : TS} (h : TsAt w X gv grv ov S) : w.cell? ⟨X, 1, none⟩ = some grv := h.cell (by omega)
theorem TsAt.opens {w : World} {X : Nat} {gv grv ov : Value} {S : TS} (h : TsAt w X gv grv ov S) : w.cell? ⟨X, 2, none⟩ = some ov := h.cell (by omega)
theorem TsAt.isOpen {w : World} {X : Nat} {gv grv ov : Value} {S : TS} (h : TsAt w X gv grv ov S) {p : Nat} (hp : p < 40) : w.cell? ⟨X, 3 + p, none⟩ = some (.bool (S.op p)) := by
  rw [h.cell (by omega)]
  simp [tsCell, show ¬ (3 + p < 3) by omega, show 3 + p < 43 by omega]
theorem TsAt.met {w : World} {X : Nat} {gv grv ov : Value} {S : TS} (h : TsAt w X gv grv ov S) : w.cell? ⟨X, 43, none⟩ = some (.int .i64 (S.met : Int)) := h.cell (by omega)
theorem TsAt.metAs {w : World} {X : Nat} {gv grv ov : Value} {S : TS} (h : TsAt w X gv grv ov S) {p : Nat} (hp : p < 40) : w.cell? ⟨X, 44 + p, none⟩ = some (.int .i64 (S.N p : Int)) := by
  rw [h.cell (by omega)]
  simp [tsCell, show ¬ (44 + p < 3) by omega, show ¬ (44 + p < 43) by omega, show ¬ (44 + p < 44) by omega, show 44 + p < 84 by omega]
theorem TsAt.back {w : World} {X : Nat} {gv grv ov : Value} {S : TS} (h : TsAt w X gv grv ov S) {p : Nat} (hp : p < 40) : w.cell? ⟨X, 84 + p, none⟩ = some (.int .i64 (S.bk p : Int)) := by
  rw [h.cell (by omega)]
  simp [tsCell, show ¬ (84 + p < 3) by omega, show ¬ (84 + p < 43) by omega, show ¬ (84 + p < 44) by omega, show ¬ (84 + p < 84) by omega, show 84 + p < 124 by omega]
theorem TsAt.looked {w : World} {X : Nat} {gv grv ov : Value} {S : TS} (h : TsAt w X gv grv ov S) {p : Nat} (hp : p < 40) : w.cell? ⟨X, 124 + p, none⟩ = some (.int .i64 (S.lk p : Int)) := by
  rw [h.cell (by omega)]
  simp [tsCell, show ¬ (124 + p < 3) by omega, show ¬ (124 + p < 43) by omega, show ¬ (124 + p < 44) by omega, show ¬ (124 + p < 84) by omega, show ¬ (124 + p < 124) by omega]

theorem TsAt.store {w : World} {X : Nat} {gv grv ov gv' grv' ov' : Value} {S S' : TS} (h : TsAt w X gv grv ov S) (i : Nat) (v : Value) (hs : ∀ j, j < 164 → tsCell gv' grv' ov' S' j = if j = i then v else tsCell gv grv ov S j) : TsAt (w.setCell ⟨X, i, none⟩ v) X gv' grv' ov' S' := by
  have := heap_setCell_same w X i _ _ v h
  rw [List.setIfInBounds_toArray, tsCells_set hs] at this
  exact this
theorem TsAt.setOpen {w : World} {X : Nat} {gv grv ov : Value} {S : TS} (h : TsAt w X gv grv ov S) {p : Nat} (hp : p < 40) (b : Bool) : TsAt (w.setCell ⟨X, 3 + p, none⟩ (.bool b)) X gv grv ov { S with op := upd S.op p b } := by
  refine h.store _ _ (fun j hj => ?_)
  by_cases e : j = 3 + p
  · subst e
    simp [tsCell, upd, show ¬ (3 + p < 3) by omega, show 3 + p < 43 by omega]
  · rw [if_neg e]
    unfold tsCell
    split
    · rfl
    · split
      · dsimp only
        rw [show upd S.op p b (j - 3) = S.op (j - 3) from upd_other _ _ (by omega)]
      · rfl
theorem TsAt.setMet {w : World} {X : Nat} {gv grv ov : Value} {S : TS} (h : TsAt w X gv grv ov S) (m : Nat) : TsAt (w.setCell ⟨X, 43, none⟩ (.int .i64 (m : Int))) X gv grv ov { S with met := m } := by
  refine h.store _ _ (fun j hj => ?_)
  by_cases e : j = 43
  · subst e; simp [tsCell]
  · rw [if_neg e]
    unfold tsCell
    split
    · rfl
    · split
      · rfl
      · rw [if_neg (show ¬ j < 44 by omega), if_neg (show ¬ j < 44 by omega)]
theorem TsAt.setAs {w : World} {X : Nat} {gv grv ov : Value} {S : TS} (h : TsAt w X gv grv ov S) {p : Nat} (hp : p < 40) (m : Nat) : TsAt (w.setCell ⟨X, 44 + p, none⟩ (.int .i64 (m : Int))) X gv grv ov { S with N := upd S.N p m } := by
  refine h.store _ _ (fun j hj => ?_)
  by_cases e : j = 44 + p
  · subst e
    simp [tsCell, upd, show ¬ (44 + p < 3) by omega, show ¬ (44 + p < 43) by omega, show ¬ (44 + p < 44) by omega, show 44 + p < 84 by omega]
  · rw [if_neg e]
    unfold tsCell
    split
    · rfl
    · split
      · rfl
      · split
        · rfl
        · split
          · dsimp only
            rw [show upd S.N p m (j - 44) = S.N (j - 44) from upd_other _ _ (by omega)]
          · rfl
theorem TsAt.setBack {w : World} {X : Nat} {gv grv ov : Value} {S : TS} (h : TsAt w X gv grv ov S) {p : Nat} (hp : p < 40) (m : Nat) : TsAt (w.setCell ⟨X, 84 + p, none⟩ (.int .i64 (m : Int))) X gv grv ov { S with bk := upd S.bk p m } := by
  refine h.store _ _ (fun j hj => ?_)
  by_cases e : j = 84 + p
  · subst e
    simp [tsCell, upd, show ¬ (84 + p < 3) by omega, show ¬ (84 + p < 43) by omega, show ¬ (84 + p < 44) by omega, show ¬ (84 + p < 84) by omega, show 84 + p < 124 by omega]
  · rw [if_neg e]
    unfold tsCell
    split
    · rfl
    · split
      · rfl
      · split
        · rfl
        · split
          · rfl
          · split
            · dsimp only
              rw [show upd S.bk p m (j - 84) = S.bk (j - 84) from upd_other _ _ (by omega)]
            · rfl
theorem TsAt.setLooked {w : World} {X : Nat} {gv grv ov : Value} {S : TS} (h : TsAt w X gv grv ov S) {p : Nat} (hp : p < 40) (m : Nat) : TsAt (w.setCell ⟨X, 124 + p, none⟩ (.int .i64 (m : Int))) X gv grv ov { S with lk := upd S.lk p m } := by
  refine h.store _ _ (fun j hj => ?_)
  by_cases e : j = 124 + p
  · subst e
    simp [tsCell, upd, show ¬ (124 + p < 3) by omega, show ¬ (124 + p < 43) by omega, show ¬ (124 + p < 44) by omega, show ¬ (124 + p < 84) by omega, show ¬ (124 + p < 124) by omega]
  · rw [if_neg e]
    unfold tsCell
    split
    · rfl
    · split
      · rfl
      · split
        · rfl
        · split
          · rfl
          · split
            · rfl
            · dsimp only
              rw [show upd S.lk p m (j - 124) = S.lk (j - 124) from upd_other _ _ (by omega)]
theorem TsAt.setOpens {w : World} {X : Nat} {gv grv ov : Value} {S : TS} (h : TsAt w X gv grv ov S) (u : Value) (l : List Nat) : TsAt (w.setCell ⟨X, 2, none⟩ u) X gv grv u { S with opn := l } := by
  refine h.store _ _ (fun j hj => ?_)
  by_cases e : j = 2
  · subst e; simp [tsCell]
  · rw [if_neg e]
    unfold tsCell
    split
    · split
      · rfl
      · split
        · rfl
        · omega
    · rfl
theorem TsAt.setGroups {w : World} {X : Nat} {gv grv ov : Value} {S : TS} (h : TsAt w X gv grv ov S) (u : Value) (l : List (List Int)) : TsAt (w.setCell ⟨X, 1, none⟩ u) X gv u ov { S with grp := l } := by
  refine h.store _ _ (fun j hj => ?_)
  by_cases e : j = 1
  · subst e; simp [tsCell]
  · rw [if_neg e]
    unfold tsCell
    split
    · split
      · rfl
      · rfl
    · rfl
/-- The lists of numbers and of groups are told apart from the cells. -/
theorem TsAt.as {w : World} {X : Nat} {gv grv ov : Value} {S S' : TS} (h : TsAt w X gv grv ov S) (e : S'.N = S.N ∧ S'.bk = S.bk ∧ S'.lk = S.lk ∧ S'.op = S.op ∧ S'.met = S.met) : TsAt w X gv grv ov S' := by
  obtain ⟨e1, e2, e3, e4, e5⟩ := e
  have : tsCells gv grv ov S' = tsCells gv grv ov S := by
    unfold tsCells
    congr 1
    funext i
    unfold tsCell
    rw [e1, e2, e3, e4, e5]
  unfold TsAt
  rw [this]; exact h

/-- Nothing that was there has turned but block X and the block v owns. -/
structure But (X : Nat) (v : Value) (w w' : World) : Prop where
  os : w'.os = w.os
  tape : w'.tape = w.tape
  output : w'.output = w.output
  size : w.heap.size ≤ w'.heap.size
  block : ∀ b, b < w.heap.size → b ≠ X → v.ownBlock ≠ some b → w'.heap[b]? = w.heap[b]?
theorem But.refl (X : Nat) (v : Value) (w : World) : But X v w w := ⟨rfl, rfl, rfl, Nat.le_refl _, fun _ _ _ _ => rfl⟩
theorem But.row {X B e sz n : Nat} {v u : Value} {w w' : World} {xs : List Value} (h : But X v w w') (f : w.ownsRow B e sz u n xs) (hX : u.ownBlock ≠ some X) (hv : u.ownBlock = none ∨ u.ownBlock ≠ v.ownBlock) : w'.ownsRow B e sz u n xs := by
  refine ⟨f.1, ?_⟩
  rcases f.2 with hn | ⟨q, cap, cur, rfl, hbg, hgg, rest⟩
  · exact .inl hn
  · refine .inr ⟨q, cap, cur, rfl, hbg, ?_, rest⟩
    rw [h.block q (Array.getElem?_eq_some_iff.1 hgg).1 (fun e => hX (by rw [← e]; rfl)) (fun e => by
      rcases hv with hv | hv
      · cases hv
      · exact hv (by rw [e]; rfl))]
    exact hgg
theorem But.ext {X : Nat} {v : Value} {w0 w w' : World} (h : But X v w w') (e : Ext w0 w) (hX : w0.heap.size ≤ X) (hv : ∀ b, v.ownBlock = some b → w0.heap.size ≤ b) : Ext w0 w' :=
  ⟨h.os.trans e.os, h.tape.trans e.tape, h.output.trans e.output, Nat.le_trans e.size h.size, fun k hk => (h.block k (Nat.lt_of_lt_of_le hk e.size) (by omega) (fun e' => by have := hv k e'; omega)).trans (Below.block e k hk)⟩

/-- One more number behind; where the list lies then. -/
theorem wpList_push_lies {ops : Array Oper} {rest : List Oper} {o : Oper} {a : Act} {Q : Exit → Act → World → Prop} {w : World} (hgd : o.guard = none) (s x : Operand)
    (ho : o.op = .call { callee := .builtin .append, args := #[s, x], argTypes := #[27, 27] })
    (B : Nat) (v : Value) (l : List Int) (n : Int) (hs : a.eval s = v) (hf : Fresh B w v l) (ad : Addr) (c : Nat) (hx : a.eval x = .slice (some ad) 1 c)
    (hc : w.cell? ad = some (.int .i64 n)) (hl : l.length ≤ 1099511627776) (hB : B ≤ w.heap.size) (H : Nat) (hH : w.heap.size = H)
    (h : ∀ g cap w', Fresh B w' (.slice (some ⟨g, 0, none⟩) (l.length + 1) cap) (l ++ [n]) → w.grownBy w' v.ownBlock → (v.ownBlock = some g ∨ g = H) → wpList Try.prog ops Q rest (a.put o.dst (.slice (some ⟨g, 0, none⟩) (l.length + 1) cap)) w') : wpList Try.prog ops Q (o :: rest) a w := by
  obtain ⟨i0, hi, hz0, hz1, hz2⟩ := info_parts Try.infoInt
  refine wpList_append_lies w hgd s x 27 ho B 3 i0 (.int .i64 0) 1 8 Try.underlying27 hi hz0 hz1 hz2 rfl (by decide) v l.length _ hs hf ad 1 c [.int .i64 n] hx rfl ?_ ?_ (by decide) ?_ ?_ hB H hH ?_
  · intro j u hj
    match j, hj with
    | 0, hj => simp at hj; subst hj; simpa [Addr.add] using hc
  · intro u hu; simp at hu; subst hu; rfl
  · unfold maxLen; omega
  · omega
  · intro g cap w' ho' hg hat _
    refine h g cap w' ?_ hg hat
    unfold Fresh
    rw [List.map_append, List.length_append]; exact ho'

end Go.Proofs.Ytnmnbeklofnonaa
