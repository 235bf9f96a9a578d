/- Texts of this proof, part g: words, plain facts, contracts. -/
import Derived.Test.YtnmnbeklofnonaaMIsOrderf
import Derived.Test.YtnmnbeklofnonaaMIsOrdera
import Derived.Laws.Rows
import Derived.Deep.AppendLies
import Derived.StillTailTactics
import Derived.WalkSpells
import Derived.Test.YtnmnbeklofnonaaMIsOrderc
import Derived.Test.YtnmnbeklofnonaaMIsOrdere

namespace Go.Proofs.Ytnmnbeklofnonaa
open Go.RowKit
set_option linter.unusedVariables false

/-- The cell i of the state: the graph, the groups, the open ones; whether each is open; how many were met; when, the least seen, how many looked at. -/
def tsCell (gv grv ov : Value) (S : TS) (i : Nat) : Value :=
  if i < 3 then (if i = 0 then gv else if i = 1 then grv else ov)
  else if i < 43 then .bool (S.op (i - 3))
  else if i < 44 then .int .i64 (S.met : Int)
  else if i < 84 then .int .i64 (S.N (i - 44) : Int)
  else if i < 124 then .int .i64 (S.bk (i - 84) : Int)
  else .int .i64 (S.lk (i - 124) : Int)
def tsCells (gv grv ov : Value) (S : TS) : List Value := (List.range 164).map (tsCell gv grv ov S)
theorem tsCells_len (gv grv ov : Value) (S : TS) : (tsCells gv grv ov S).length = 164 := by simp [tsCells]
theorem tsCells_get (gv grv ov : Value) (S : TS) {i : Nat} (h : i < 164) : (tsCells gv grv ov S)[i]? = some (tsCell gv grv ov S i) := by simp [tsCells, h]
theorem tsCells_set {gv grv ov gv' grv' ov' : Value} {S S' : TS} {i : Nat} {v : Value} (h : ∀ j, j < 164 → tsCell gv' grv' ov' S' j = if j = i then v else tsCell gv grv ov S j) : (tsCells gv grv ov S).set i v = tsCells gv' grv' ov' S' := by
  apply List.ext_getElem?
  intro j
  by_cases hj : j < 164
  · rw [List.getElem?_set, tsCells_len, tsCells_get _ _ _ _ hj, tsCells_get _ _ _ _ hj, h j hj]
    by_cases e : i = j
    · subst e; simp [hj]
    · rw [if_neg e, if_neg (fun e' => e e'.symm)]
  · rw [List.getElem?_eq_none (by rw [List.length_set, tsCells_len]; omega), List.getElem?_eq_none (by rw [tsCells_len]; omega)]

/-- The state lies in block X. -/
def TsAt (w : World) (X : Nat) (gv grv ov : Value) (S : TS) : Prop := w.heap[X]? = some (.cells (tsCells gv grv ov S).toArray 130 (0, 0))
theorem TsAt.cell {w : World} {X : Nat} {gv grv ov : Value} {S : TS} (h : TsAt w X gv grv ov S) {i : Nat} (hi : i < 164) : w.cell? ⟨X, i, none⟩ = some (tsCell gv grv ov S i) := by
  rw [cell_of_row w _ _ _ _ _ h]
  simpa using tsCells_get gv grv ov S hi
theorem TsAt.free {w : World} {X : Nat} {gv grv ov : Value} {S : TS} (h : TsAt w X gv grv ov S) (i : Nat) : w.frozen? ⟨X, i, none⟩ = false := frozen_of_row w X i _ _ h
theorem TsAt.graph {w : World} {X : Nat} {gv grv ov : Value} {S : TS} (h : TsAt w X gv grv ov S) : w.cell? ⟨X, 0, none⟩ = some gv := h.cell (by omega)
theorem TsAt.groups {w : World} {X : Nat} {gv grv ov : Value} {S : TS} (h : TsAt w X gv grv ov S) : w.cell? ⟨X, 1, none⟩ = some grv := h.cell (by omega)
theorem TsAt.opens {w : World} {X : Nat} {gv grv ov : Value} {S : TS} (h : TsAt w X gv grv ov S) : w.cell? ⟨X, 2, none⟩ = some ov := h.cell (by omega)
theorem TsAt.isOpen {w : World} {X : Nat} {gv grv ov : Value} {S : TS} (h : TsAt w X gv grv ov S) {p : Nat} (hp : p < 40) : w.cell? ⟨X, 3 + p, none⟩ = some (.bool (S.op p)) := by
  rw [h.cell (by omega)]
  simp [tsCell, show ¬ (3 + p < 3) by omega, show 3 + p < 43 by omega]
theorem TsAt.met {w : World} {X : Nat} {gv grv ov : Value} {S : TS} (h : TsAt w X gv grv ov S) : w.cell? ⟨X, 43, none⟩ = some (.int .i64 (S.met : Int)) := h.cell (by omega)
theorem TsAt.metAs {w : World} {X : Nat} {gv grv ov : Value} {S : TS} (h : TsAt w X gv grv ov S) {p : Nat} (hp : p < 40) : w.cell? ⟨X, 44 + p, none⟩ = some (.int .i64 (S.N p : Int)) := by
  rw [h.cell (by omega)]
  simp [tsCell, show ¬ (44 + p < 3) by omega, show ¬ (44 + p < 43) by omega, show ¬ (44 + p < 44) by omega, show 44 + p < 84 by omega]
theorem TsAt.back {w : World} {X : Nat} {gv grv ov : Value} {S : TS} (h : TsAt w X gv grv ov S) {p : Nat} (hp : p < 40) : w.cell? ⟨X, 84 + p, none⟩ = some (.int .i64 (S.bk p : Int)) := by
  rw [h.cell (by omega)]
  simp [tsCell, show ¬ (84 + p < 3) by omega, show ¬ (84 + p < 43) by omega, show ¬ (84 + p < 44) by omega, show ¬ (84 + p < 84) by omega, show 84 + p < 124 by omega]
theorem TsAt.looked {w : World} {X : Nat} {gv grv ov : Value} {S : TS} (h : TsAt w X gv grv ov S) {p : Nat} (hp : p < 40) : w.cell? ⟨X, 124 + p, none⟩ = some (.int .i64 (S.lk p : Int)) := by
  rw [h.cell (by omega)]
  simp [tsCell, show ¬ (124 + p < 3) by omega, show ¬ (124 + p < 43) by omega, show ¬ (124 + p < 44) by omega, show ¬ (124 + p < 84) by omega, show ¬ (124 + p < 124) by omega]

theorem TsAt.store {w : World} {X : Nat} {gv grv ov gv' grv' ov' : Value} {S S' : TS} (h : TsAt w X gv grv ov S) (i : Nat) (v : Value) (hs : ∀ j, j < 164 → tsCell gv' grv' ov' S' j = if j = i then v else tsCell gv grv ov S j) : TsAt (w.setCell ⟨X, i, none⟩ v) X gv' grv' ov' S' := by
  have := heap_setCell_same w X i _ _ v h
  rw [List.setIfInBounds_toArray, tsCells_set hs] at this
  exact this
theorem TsAt.setOpen {w : World} {X : Nat} {gv grv ov : Value} {S : TS} (h : TsAt w X gv grv ov S) {p : Nat} (hp : p < 40) (b : Bool) : TsAt (w.setCell ⟨X, 3 + p, none⟩ (.bool b)) X gv grv ov { S with op := upd S.op p b } := by
  refine h.store _ _ (fun j hj => ?_)
  by_cases e : j = 3 + p
  · subst e
    simp [tsCell, upd, show ¬ (3 + p < 3) by omega, show 3 + p < 43 by omega]
  · rw [if_neg e]
    unfold tsCell
    split
    · rfl
    · split
      · dsimp only
        rw [show upd S.op p b (j - 3) = S.op (j - 3) from upd_other _ _ (by omega)]
      · rfl
theorem TsAt.setMet {w : World} {X : Nat} {gv grv ov : Value} {S : TS} (h : TsAt w X gv grv ov S) (m : Nat) : TsAt (w.setCell ⟨X, 43, none⟩ (.int .i64 (m : Int))) X gv grv ov { S with met := m } := by
  refine h.store _ _ (fun j hj => ?_)
  by_cases e : j = 43
  · subst e; simp [tsCell]
  · rw [if_neg e]
    unfold tsCell
    split
    · rfl
    · split
      · rfl
      · rw [if_neg (show ¬ j < 44 by omega), if_neg (show ¬ j < 44 by omega)]
theorem TsAt.setAs {w : World} {X : Nat} {gv grv ov : Value} {S : TS} (h : TsAt w X gv grv ov S) {p : Nat} (hp : p < 40) (m : Nat) : TsAt (w.setCell ⟨X, 44 + p, none⟩ (.int .i64 (m : Int))) X gv grv ov { S with N := upd S.N p m } := by
  refine h.store _ _ (fun j hj => ?_)
  by_cases e : j = 44 + p
  · subst e
    simp [tsCell, upd, show ¬ (44 + p < 3) by omega, show ¬ (44 + p < 43) by omega, show ¬ (44 + p < 44) by omega, show 44 + p < 84 by omega]
  · rw [if_neg e]
    unfold tsCell
    split
    · rfl
    · split
      · rfl
      · split
        · rfl
        · split
          · dsimp only
            rw [show upd S.N p m (j - 44) = S.N (j - 44) from upd_other _ _ (by omega)]
          · rfl
theorem TsAt.setBack {w : World} {X : Nat} {gv grv ov : Value} {S : TS} (h : TsAt w X gv grv ov S) {p : Nat} (hp : p < 40) (m : Nat) : TsAt (w.setCell ⟨X, 84 + p, none⟩ (.int .i64 (m : Int))) X gv grv ov { S with bk := upd S.bk p m } := by
  refine h.store _ _ (fun j hj => ?_)
  by_cases e : j = 84 + p
  · subst e
    simp [tsCell, upd, show ¬ (84 + p < 3) by omega, show ¬ (84 + p < 43) by omega, show ¬ (84 + p < 44) by omega, show ¬ (84 + p < 84) by omega, show 84 + p < 124 by omega]
  · rw [if_neg e]
    unfold tsCell
    split
    · rfl
    · split
      · rfl
      · split
        · rfl
        · split
          · rfl
          · split
            · dsimp only
              rw [show upd S.bk p m (j - 84) = S.bk (j - 84) from upd_other _ _ (by omega)]
            · rfl
theorem TsAt.setLooked {w : World} {X : Nat} {gv grv ov : Value} {S : TS} (h : TsAt w X gv grv ov S) {p : Nat} (hp : p < 40) (m : Nat) : TsAt (w.setCell ⟨X, 124 + p, none⟩ (.int .i64 (m : Int))) X gv grv ov { S with lk := upd S.lk p m } := by
  refine h.store _ _ (fun j hj => ?_)
  by_cases e : j = 124 + p
  · subst e
    simp [tsCell, upd, show ¬ (124 + p < 3) by omega, show ¬ (124 + p < 43) by omega, show ¬ (124 + p < 44) by omega, show ¬ (124 + p < 84) by omega, show ¬ (124 + p < 124) by omega]
  · rw [if_neg e]
    unfold tsCell
    split
    · rfl
    · split
      · rfl
      · split
        · rfl
        · split
          · rfl
          · split
            · rfl
            · dsimp only
              rw [show upd S.lk p m (j - 124) = S.lk (j - 124) from upd_other _ _ (by omega)]
theorem TsAt.setOpens {w : World} {X : Nat} {gv grv ov : Value} {S : TS} (h : TsAt w X gv grv ov S) (u : Value) (l : List Nat) : TsAt (w.setCell ⟨X, 2, none⟩ u) X gv grv u { S with opn := l } := by
  refine h.store _ _ (fun j hj => ?_)
  by_cases e : j = 2
  · subst e; simp [tsCell]
  · rw [if_neg e]
    unfold tsCell
    split
    · split
      · rfl
      · split
        · rfl
        · omega
    · rfl
theorem TsAt.setGroups {w : World} {X : Nat} {gv grv ov : Value} {S : TS} (h : TsAt w X gv grv ov S) (u : Value) (l : List (List Int)) : TsAt (w.setCell ⟨X, 1, none⟩ u) X gv u ov { S with grp := l } := by
  refine h.store _ _ (fun j hj => ?_)
  by_cases e : j = 1
  · subst e; simp [tsCell]
  · rw [if_neg e]
    unfold tsCell
    split
    · split
      · rfl
      · rfl
    · rfl
/-- The lists of numbers and of groups are told apart from the cells. -/
theorem TsAt.as {w : World} {X : Nat} {gv grv ov : Value} {S S' : TS} (h : TsAt w X gv grv ov S) (e : S'.N = S.N ∧ S'.bk = S.bk ∧ S'.lk = S.lk ∧ S'.op = S.op ∧ S'.met = S.met) : TsAt w X gv grv ov S' := by
  obtain ⟨e1, e2, e3, e4, e5⟩ := e
  have : tsCells gv grv ov S' = tsCells gv grv ov S := by
    unfold tsCells
    congr 1
    funext i
    unfold tsCell
    rw [e1, e2, e3, e4, e5]
  unfold TsAt
  rw [this]; exact h

/-- Nothing that was there has turned but block X and the block v owns. -/
structure But (X : Nat) (v : Value) (w w' : World) : Prop where
  os : w'.os = w.os
  tape : w'.tape = w.tape
  output : w'.output = w.output
  size : w.heap.size ≤ w'.heap.size
  block : ∀ b, b < w.heap.size → b ≠ X → v.ownBlock ≠ some b → w'.heap[b]? = w.heap[b]?
theorem But.refl (X : Nat) (v : Value) (w : World) : But X v w w := ⟨rfl, rfl, rfl, Nat.le_refl _, fun _ _ _ _ => rfl⟩
theorem But.row {X B e sz n : Nat} {v u : Value} {w w' : World} {xs : List Value} (h : But X v w w') (f : w.ownsRow B e sz u n xs) (hX : u.ownBlock ≠ some X) (hv : u.ownBlock = none ∨ u.ownBlock ≠ v.ownBlock) : w'.ownsRow B e sz u n xs := by
  refine ⟨f.1, ?_⟩
  rcases f.2 with hn | ⟨q, cap, cur, rfl, hbg, hgg, rest⟩
  · exact .inl hn
  · refine .inr ⟨q, cap, cur, rfl, hbg, ?_, rest⟩
    rw [h.block q (Array.getElem?_eq_some_iff.1 hgg).1 (fun e => hX (by rw [← e]; rfl)) (fun e => by
      rcases hv with hv | hv
      · cases hv
      · exact hv (by rw [e]; rfl))]
    exact hgg
theorem But.ext {X : Nat} {v : Value} {w0 w w' : World} (h : But X v w w') (e : Ext w0 w) (hX : w0.heap.size ≤ X) (hv : ∀ b, v.ownBlock = some b → w0.heap.size ≤ b) : Ext w0 w' :=
  ⟨h.os.trans e.os, h.tape.trans e.tape, h.output.trans e.output, Nat.le_trans e.size h.size, fun k hk => (h.block k (Nat.lt_of_lt_of_le hk e.size) (by omega) (fun e' => by have := hv k e'; omega)).trans (Below.block e k hk)⟩

/-- One more number behind; where the list lies then. -/
theorem wpList_push_lies {ops : Array Oper} {rest : List Oper} {o : Oper} {a : Act} {Q : Exit → Act → World → Prop} {w : World} (hgd : o.guard = none) (s x : Operand)
    (ho : o.op = .call { callee := .builtin .append, args := #[s, x], argTypes := #[27, 27] })
    (B : Nat) (v : Value) (l : List Int) (n : Int) (hs : a.eval s = v) (hf : Fresh B w v l) (ad : Addr) (c : Nat) (hx : a.eval x = .slice (some ad) 1 c)
    (hc : w.cell? ad = some (.int .i64 n)) (hl : l.length ≤ 1099511627776) (hB : B ≤ w.heap.size) (H : Nat) (hH : w.heap.size = H)
    (h : ∀ g cap w', Fresh B w' (.slice (some ⟨g, 0, none⟩) (l.length + 1) cap) (l ++ [n]) → w.grownBy w' v.ownBlock → (v.ownBlock = some g ∨ g = H) → wpList Try.prog ops Q rest (a.put o.dst (.slice (some ⟨g, 0, none⟩) (l.length + 1) cap)) w') : wpList Try.prog ops Q (o :: rest) a w := by
  obtain ⟨i0, hi, hz0, hz1, hz2⟩ := info_parts Try.infoInt
  refine wpList_append_lies w hgd s x 27 ho B 3 i0 (.int .i64 0) 1 8 Try.underlying27 hi hz0 hz1 hz2 rfl (by decide) v l.length _ hs hf ad 1 c [.int .i64 n] hx rfl ?_ ?_ (by decide) ?_ ?_ hB H hH ?_
  · intro j u hj
    match j, hj with
    | 0, hj => simp at hj; subst hj; simpa [Addr.add] using hc
  · intro u hu; simp at hu; subst hu; rfl
  · unfold maxLen; omega
  · omega
  · intro g cap w' ho' hg hat _
    refine h g cap w' ?_ hg hat
    unfold Fresh
    rw [List.map_append, List.length_append]; exact ho'

end Go.Proofs.Ytnmnbeklofnonaa

namespace Go.Proofs.Ytnmnbeklofnonaa
open Go.RowKit
set_option linter.unusedVariables false

def natsI (l : List Nat) : List Int := l.map fun (n : Nat) => (n : Int)

theorem Fresh.setOut {B X : Nat} {w : World} {v : Value} {l : List Int} (h : Fresh B w v l) (hX : X < B) (i : Nat) (u : Value) : Fresh B (w.setCell ⟨X, i, none⟩ u) v l := by
  refine World.ownsRow.kept h (⟨rfl, rfl, rfl, by simp, fun k _ hk => heap_setCell_other _ _ _ _ (by intro e; subst e; exact hk rfl)⟩ : w.grownBy (w.setCell ⟨X, i, none⟩ u) (some X)) ?_
  cases hv : v.ownBlock with
  | none => exact .inl rfl
  | some q =>
    refine .inr fun e => ?_
    have h1 := (World.ownsRow.lt h q hv).1
    have h2 := Option.some.inj e
    omega
theorem But.setX {X : Nat} {v : Value} {w w' : World} (h : But X v w w') (i : Nat) (u : Value) : But X v w (w'.setCell ⟨X, i, none⟩ u) :=
  ⟨h.os, h.tape, h.output, by have := h.size; simpa using this, fun b hb hX hv => (heap_setCell_other _ _ _ _ hX).trans (h.block b hb hX hv)⟩
theorem But.drew {X : Nat} {v : Value} {w w' : World} (h : But X v w w') : But X v w w'.drew := ⟨h.os, h.tape, h.output, h.size, h.block⟩
theorem But.alloc {X : Nat} {v : Value} {w w' : World} (h : But X v w w') (o : Obj) : But X v w (w'.alloc o) :=
  ⟨h.os, h.tape, h.output, by have := h.size; simp; omega, fun b hb hX hv => (heap_alloc_old _ _ (Nat.lt_of_lt_of_le hb h.size)).trans (h.block b hb hX hv)⟩
theorem But.grown {X : Nat} {v : Value} {w w' w2 : World} (h : But X v w w') (g : w'.grownBy w2 v.ownBlock) : But X v w w2 :=
  ⟨g.os.trans h.os, g.tape.trans h.tape, g.output.trans h.output, Nat.le_trans h.size g.size, fun b hb hX hv => (g.block b (Nat.lt_of_lt_of_le hb h.size) (fun e => hv e.symm)).trans (h.block b hb hX hv)⟩

set_option maxHeartbeats 2000000 in
set_option maxRecDepth 100000 in
theorem tsMeet_any (X c B : Nat) (gv grv ov : Value) (S : TS) (w : World) (hT : TsAt w X gv grv ov S) (hO : Fresh B w ov (natsI S.opn)) (hXB : X < B) (hB : B ≤ w.heap.size) (hc : c < 40) (hm : S.met ≤ 40) (hl : S.opn.length ≤ 40) :
    Calls Try.prog 135 #[.pointer (some ⟨X, 0, none⟩), .int .i64 c] w (fun e w' => (∃ r, e = .returned r) ∧ ∃ g cap, TsAt w' X gv grv (.slice (some ⟨g, 0, none⟩) (S.opn.length + 1) cap) (meetS S c) ∧ Fresh B w' (.slice (some ⟨g, 0, none⟩) (S.opn.length + 1) cap) (natsI (S.opn ++ [c])) ∧ But X ov w w' ∧ (ov.ownBlock = some g ∨ w.heap.size ≤ g)) := by
  have c0 := hT.met
  have f0 := hT.free 43
  have T1 := Lib.hid (hT.setMet (S.met + 1))
  have HT := Lib.hid hT
  have HO := Lib.hid hO
  clear hT hO
  go_enter Try.func135, Try.ntmps135
  go_wp2
  obtain ⟨W1, hW1⟩ : ∃ W1, W1 = w.setCell ⟨X, 43, none⟩ (.int .i64 ((S.met : Int) + 1)) := ⟨_, rfl⟩
  rw [← hW1]
  have t1 : TsAt W1 X gv grv ov { S with met := S.met + 1 } := by rw [hW1]; exact T1.out
  have c1 : W1.cell? ⟨X, 43, none⟩ = some (.int .i64 ((S.met : Int) + 1)) := t1.met
  have c2 := t1.metAs hc
  have f1 := t1.free (44 + c)
  have b1 : But X ov w W1 := by rw [hW1]; exact (But.refl X ov w).setX 43 _
  have HB1 := Lib.hid b1
  have HO1 : Hid (Fresh B W1 ov (natsI S.opn)) := Lib.hid (by rw [hW1]; exact HO.out.setOut hXB 43 _)
  have T2 := Lib.hid (TsAt.setAs (w := W1.drew) t1 hc (S.met + 1))
  have HT1 := Lib.hid t1
  clear hW1 t1 T1 c0 f0 b1
  have i1 : (0 : Int) ≤ (c : Int) := by omega
  have i2 : (c : Int) < 40 := by omega
  go_still_tail 9, (by kernel_rfl)
  change wpList _ _ _ _ _ W1.drew
  obtain ⟨W2, hW2⟩ : ∃ W2, W2 = W1.drew := ⟨_, rfl⟩
  rw [← hW2]
  have HW2 := Lib.hid hW2
  have t2 := TsAt.metAs (w := W2) (by rw [hW2]; exact HT1.out) hc
  have f2 := TsAt.free (w := W2) (by rw [hW2]; exact HT1.out) (44 + c)
  clear hW2 c1 c2 f1
  go_wp2
  obtain ⟨W3, hW3⟩ : ∃ W3, W3 = W2.setCell ⟨X, 44 + c, none⟩ (.int .i64 ((S.met : Int) + 1)) := ⟨_, rfl⟩
  rw [← hW3]
  have t3 : TsAt W3 X gv grv ov { S with met := S.met + 1, N := upd S.N c (S.met + 1) } := by rw [hW3, HW2.out]; exact T2.out
  have b3 : But X ov w W3 := by rw [hW3, HW2.out]; exact HB1.out.drew.setX (44 + c) _
  have c1 : W3.cell? ⟨X, 43, none⟩ = some (.int .i64 ((S.met : Int) + 1)) := t3.met
  have HB3 := Lib.hid b3
  have HO3 : Hid (Fresh B W3 ov (natsI S.opn)) := Lib.hid (by rw [hW3, HW2.out]; exact HO1.out.setOut hXB (44 + c) _)
  have HT3 := Lib.hid t3
  clear hW3 t2 f2 T2 HT1 HB1 t3 b3 HW2
  go_still_tail 9, (by kernel_rfl)
  change wpList _ _ _ _ _ W3.drew
  obtain ⟨W4, hW4⟩ : ∃ W4, W4 = W3.drew := ⟨_, rfl⟩
  rw [← hW4]
  have t4 : TsAt W4 X gv grv ov { S with met := S.met + 1, N := upd S.N c (S.met + 1) } := by rw [hW4]; exact HT3.out
  have b4 : But X ov w W4 := by rw [hW4]; exact HB3.out.drew
  have HO4 : Fresh B W4 ov (natsI S.opn) := by rw [hW4]; exact HO3.out
  have c2 := t4.back hc
  have f2 := t4.free (84 + c)
  obtain ⟨E, hE⟩ : ∃ E, E = W4.setCell ⟨X, 84 + c, none⟩ (.int .i64 ((S.met : Int) + 1)) := ⟨_, rfl⟩
  have t5 : TsAt E X gv grv ov { S with met := S.met + 1, N := upd S.N c (S.met + 1), bk := upd S.bk c (S.met + 1) } := by rw [hE]; exact t4.setBack hc (S.met + 1)
  have b5 : But X ov w E := by rw [hE]; exact b4.setX _ _
  have hne : ov.ownBlock ≠ some X := fun e => by have := (World.ownsRow.lt HO.out X e).1; omega
  have c3 := t5.opens
  have fo : Fresh B (E.alloc (.cells #[.int .i64 (c : Int)] 3)) ov (natsI S.opn) := by
    refine Fresh.ext ?_ (Ext.alloc (Ext.refl _) _)
    rw [hE]
    exact ((HO4 : Fresh B W4 ov (natsI S.opn)).setOut (by omega : X < B) (84 + c) _)
  have hcl := cell_alloc_one E (.int .i64 (c : Int)) 3
  have hEs : E.heap.size = W4.heap.size := by rw [hE]; simp
  rw [hEs] at hcl
  have hsz : (E.alloc (.cells #[.int .i64 (c : Int)] 3)).heap.size = E.heap.size + 1 := by simp
  have hBE : B ≤ (E.alloc (.cells #[.int .i64 (c : Int)] 3)).heap.size := by have := b5.size; omega
  have hl' : (natsI S.opn).length ≤ 1099511627776 := by unfold natsI; simp; omega
  rw [hE] at c3
  have HE := Lib.hid hE
  have HT5 := Lib.hid t5
  have HB5 := Lib.hid b5
  have FO := Lib.hid fo
  have HCL := Lib.hid hcl
  have HSZ := Lib.hid hsz
  have HBE := Lib.hid hBE
  have HNE := Lib.hid hne
  clear hW4 t4 b4 HT3 HB3 c1 hE t5 b5 fo hcl hsz hBE hne
  go_wp2_with (at_builtin; rw [← HE.out]; refine wpList_push_lies rfl _ _ rfl B ov (natsI S.opn) (c : Int) rfl FO.out ⟨W4.heap.size, 0, none⟩ 1 rfl HCL.out hl' HBE.out _ rfl ?_)
  intro g cap W6 f6 g6 h6
  have hlen : (natsI S.opn).length = S.opn.length := by simp [natsI]
  rw [hlen] at f6 ⊢
  have hXE : X < E.heap.size := by have := (Array.getElem?_eq_some_iff.1 HT5.out).1; exact this
  have t6 : TsAt W6 X gv grv ov { S with met := S.met + 1, N := upd S.N c (S.met + 1), bk := upd S.bk c (S.met + 1) } := by
    unfold TsAt
    rw [g6.block X (by rw [HSZ.out]; omega) (fun e => HNE.out e.symm), heap_alloc_old _ _ hXE]
    exact HT5.out
  have b6 := (HB5.out.alloc (.cells #[.int .i64 (c : Int)] 3)).grown g6
  have t7 := t6.setOpens (.slice (some ⟨g, 0, none⟩) (S.opn.length + 1) cap) (S.opn ++ [c])
  have hg : ov.ownBlock = some g ∨ w.heap.size ≤ g := by
    rcases h6 with h6 | h6
    · exact .inl h6
    · right; have := HB5.out.size; rw [hEs] at this; omega
  have e6 : natsI S.opn ++ [(c : Int)] = natsI (S.opn ++ [c]) := by simp [natsI]
  rw [e6] at f6
  have c6 := t6.opens
  have z6 := t6.free 2
  have c7 := t7.isOpen hc
  have z7 := t7.free (3 + c)
  have T8 := Lib.hid (t7.setOpen hc true)
  have F8 := Lib.hid ((f6.setOut hXB 2 (.slice (some ⟨g, 0, none⟩) (S.opn.length + 1) cap)).setOut hXB (3 + c) (.bool true))
  have B8 := Lib.hid ((b6.setX 2 (.slice (some ⟨g, 0, none⟩) (S.opn.length + 1) cap)).setX (3 + c) (.bool true))
  have HG := Lib.hid hg
  clear hXE t6 b6 t7 hg f6 g6 h6 c2 f2 c3 HT5 HB5 FO HCL HSZ HBE HNE e6
  go_wp2
  go_end0
  exact ⟨⟨_, rfl⟩, g, cap, T8.out, F8.out, B8.out, HG.out⟩

end Go.Proofs.Ytnmnbeklofnonaa

namespace Go.Proofs.Ytnmnbeklofnonaa
open Go.RowKit
set_option linter.unusedVariables false

set_option maxHeartbeats 800000 in
theorem index_found (v : Value) (A B : List Int) (x : Int) (w : World) (hv : Ints w v (A ++ x :: B)) (hx : x ∉ A) :
    Calls Try.prog 130 #[v, .int .i64 x] w (IntExt (A.length : Int) w) := by
  obtain ⟨av, cv, rfl, hlv, _, hcv⟩ := hv
  unfold maxLen at hlv
  have hlen : (A ++ x :: B).length = A.length + 1 + B.length := by simp; omega
  rw [hlen] at hcv hlv ⊢
  have HX := Lib.hid hx
  clear hx
  go_enter Try.func130, Try.ntmps130
  go_wp2
  go_loopw [5, 8] (fun _ i wr => ∃ k : Nat, k ≤ A.length ∧ i = .int .i64 k ∧ Ext w wr) (fun _ i _ => A.length - (intOf i).toNat)
  case atStart => exact ⟨0, Nat.zero_le _, rfl, Ext.refl _⟩
  case round =>
    obtain ⟨k, hk, rfl, hx⟩ := hrel
    obtain ⟨bv, ov, rfl, dv⟩ := hcv (by omega)
    have gv := hx.cell (dv k (by omega))
    clear hcv dv
    by_cases hlt : k < A.length
    · rw [List.getElem?_append_left hlt, List.getElem?_eq_getElem hlt, Option.getD_some] at gv
      have hne : x ≠ A[k] := fun e => HX.out (by rw [e]; exact List.getElem_mem hlt)
      obtain ⟨n, hn⟩ : ∃ n, n = A[k] := ⟨_, rfl⟩
      rw [← hn] at gv hne
      have e1 : (x == n) = false := by simp [hne]
      clear hn hne
      go_wp2
      go_roundw
      case rel => exact ⟨k + 1, by omega, by go_num, hx⟩
      case measure => simp [intOf]; omega
    · obtain rfl : k = A.length := by omega
      have hat : (A ++ x :: B)[A.length]?.getD 0 = x := by simp
      rw [hat] at gv
      go_wp2
      go_ret
      exact ⟨rfl, hx⟩

set_option maxHeartbeats 800000 in
theorem clone_any (b off n cap : Nat) (l : List Int) (w : World) (hv : Ints w (.slice (some ⟨b, off, none⟩) n cap) l) (hl : l.length ≤ 1048576) :
    Calls Try.prog 122 #[.slice (some ⟨b, off, none⟩) n cap] w (NewInts l w) := by
  have hb1 : ([] : List Int).length + l.length ≤ 1099511627776 := by simp; omega
  have HB := Lib.hid hb1
  have HU := Lib.hid hv
  clear hb1 hv hl
  have hq := fun W => Lib.run_eql_slice_nil (P := Try.prog) (w := W)
  go_enter Try.func122, Try.ntmps122
  go_wp2_with (at_builtin; refine wpList_join rfl _ _ rfl w.heap.size _ _ [] l rfl (fresh_lit w [] #[] _ rfl (Nat.le_refl _) (Nat.zero_le _)) rfl (HU.out.ext (Ext.alloc (Ext.refl _) _)) HB.out (size_alloc_le (Nat.le_refl _)) ?_)
  intro v1 w1 f1 g1 k1
  have e1' : Ext w w1 := k1 w (Ext.alloc (Ext.refl _) _) (Nat.le_refl _)
  clear g1 k1
  go_wp2
  go_ret
  exact ⟨_, rfl, by simpa using f1, e1'⟩

end Go.Proofs.Ytnmnbeklofnonaa

namespace Go.Proofs.Ytnmnbeklofnonaa
open Go.RowKit
set_option linter.unusedVariables false

/-- The state in memory, and the lists that it holds. -/
structure MemT (B X : Nat) (w : World) (gv grv ov : Value) (vs : List Value) (S : TS) : Prop where
  ts : TsAt w X gv grv ov S
  opn : Fresh B w ov (natsI S.opn)
  grp : FreshV B w grv vs
  rows : Rows_ B w vs S.grp
  far : ∀ (j : Nat) (u : Value), vs[j]? = some u → u.ownBlock = none ∨ u.ownBlock ≠ ov.ownBlock

theorem MemT.meet {B X c g cap n : Nat} {w w' : World} {gv grv ov : Value} {vs : List Value} {S : TS} (h : MemT B X w gv grv ov vs S) (hXB : X < B)
    (t : TsAt w' X gv grv (.slice (some ⟨g, 0, none⟩) n cap) (meetS S c)) (f : Fresh B w' (.slice (some ⟨g, 0, none⟩) n cap) (natsI (S.opn ++ [c]))) (k : But X ov w w') (hg : ov.ownBlock = some g ∨ w.heap.size ≤ g) :
    MemT B X w' gv grv (.slice (some ⟨g, 0, none⟩) n cap) vs (meetS S c) := by
  have hrow : ∀ (j : Nat) (u : Value), vs[j]? = some u → ∃ l, S.grp[j]? = some l ∧ Fresh B w u l := fun j u hu => by
    have hj : j < vs.length := (List.getElem?_eq_some_iff.1 hu).1
    have hl : S.grp[j]? = some (S.grp[j]'(by rw [← h.rows.len]; exact hj)) := List.getElem?_eq_getElem _
    exact ⟨_, hl, h.rows.row j u _ hu hl⟩
  refine ⟨t, f, k.row h.grp (fun e => by have := (World.ownsRow.lt h.grp X e).1; omega) (types_apart h.opn h.grp (by decide)), ⟨h.rows.len, fun j u l hu hl => ?_, h.rows.apart⟩, fun j u hu => ?_⟩
  · have hf := h.rows.row j u l hu hl
    exact k.row hf (fun e => by have := (World.ownsRow.lt hf X e).1; omega) (h.far j u hu)
  · obtain ⟨l, _, hf⟩ := hrow j u hu
    rcases hg with hg | hg
    · have := h.far j u hu
      rwa [hg] at this
    · cases hu' : u.ownBlock with
      | none => exact .inl rfl
      | some q =>
        refine .inr fun e => ?_
        have h1 := (World.ownsRow.lt hf q hu').2
        have h2 : q = g := Option.some.inj e
        omega

def tellS (S : TS) (A B : List Nat) (p : Nat) : TS := { S with op := fun q => S.op q && !decide (q ∈ p :: B), opn := A, grp := S.grp ++ [sortI (natsI (p :: B))] }

/-- The first k points of a list are no more open. -/
def shutK (f : Nat → Bool) (l : List Nat) (k : Nat) : Nat → Bool := fun q => f q && !decide (q ∈ l.take k)
theorem shutK_zero (f : Nat → Bool) (l : List Nat) : shutK f l 0 = f := by funext q; simp [shutK]
theorem mem_take_next {l : List Nat} {k : Nat} (h : k < l.length) (q : Nat) : q ∈ l.take (k + 1) ↔ q ∈ l.take k ∨ q = l[k] := by
  rw [List.take_add_one, List.getElem?_eq_getElem h, List.mem_append]
  simp
theorem shutK_succ (f : Nat → Bool) (l : List Nat) {k : Nat} (h : k < l.length) : upd (shutK f l k) l[k] false = shutK f l (k + 1) := by
  funext q
  unfold upd shutK
  by_cases e : q = l[k]
  · rw [if_pos e, decide_eq_true ((mem_take_next h q).2 (.inr e))]
    simp
  · rw [if_neg e]
    have : decide (q ∈ l.take (k + 1)) = decide (q ∈ l.take k) := by
      rw [decide_eq_decide, mem_take_next h]
      exact ⟨fun h => h.resolve_right e, Or.inl⟩
    rw [this]
theorem shutK_all (f : Nat → Bool) (l : List Nat) : shutK f l l.length = fun q => f q && !decide (q ∈ l) := by funext q; simp [shutK]
theorem natsI_len (l : List Nat) : (natsI l).length = l.length := by simp [natsI]
theorem natsI_get (l : List Nat) {k : Nat} (h : k < l.length) : (natsI l)[k]?.getD 0 = (l[k] : Int) := by simp [natsI, h]

theorem ints_from {w : World} {b cap n : Nat} {l : List Int} (k : Nat) (hk : k ≤ l.length) (hn : l.length = n) (h : Ints w (.slice (some ⟨b, 0, none⟩) n cap) l) : Ints w (.slice (some ⟨b, k, none⟩) (n - k) (cap - k)) (l.drop k) := by
  obtain ⟨ao, c, hv, hm, hc, hcc⟩ := h
  simp only [Value.slice.injEq] at hv
  obtain ⟨rfl, _, rfl⟩ := hv
  subst hn
  unfold maxLen at hm hc
  refine ⟨some ⟨b, k, none⟩, cap - k, by rw [List.length_drop], by unfold maxLen; rw [List.length_drop]; omega, ⟨by rw [List.length_drop]; omega, by unfold maxLen; omega, fun h => by cases h⟩, fun hp => ⟨b, k, rfl, fun j hj => ?_⟩⟩
  rw [List.length_drop] at hj
  obtain ⟨b', o', e, h'⟩ := hcc (by omega)
  cases e
  have := h' (k + j) (by omega)
  rw [Nat.zero_add] at this
  rw [this, List.getElem?_drop]

theorem row_setOut {B X e sz n : Nat} {w : World} {v : Value} {xs : List Value} (h : w.ownsRow B e sz v n xs) (hX : X < B) (i : Nat) (u : Value) : (w.setCell ⟨X, i, none⟩ u).ownsRow B e sz v n xs := by
  refine World.ownsRow.kept h (⟨rfl, rfl, rfl, by simp, fun k _ hk => heap_setCell_other _ _ _ _ (by intro e; subst e; exact hk rfl)⟩ : w.grownBy (w.setCell ⟨X, i, none⟩ u) (some X)) ?_
  cases hv : v.ownBlock with
  | none => exact .inl rfl
  | some q =>
    refine .inr fun e => ?_
    have h1 := (World.ownsRow.lt h q hv).1
    have h2 := Option.some.inj e
    omega
/-- One more row behind. -/
theorem Rows_.add {B : Nat} {w w' : World} {vs : List Value} {L : List (List Int)} {u : Value} {l : List Int} {g : Nat} (h : Rows_ B w vs L) (hk : ∀ (v : Value) (r : List Int), Fresh B w v r → Fresh B w' v r) (hu : Fresh B w' u l) (hg : u.ownBlock = some g) (hgw : w.heap.size ≤ g) : Rows_ B w' (vs ++ [u]) (L ++ [l]) := by
  have hlow : ∀ (j : Nat) (z : Value), vs[j]? = some z → z.ownBlock = none ∨ z.ownBlock ≠ some g := fun j z hz => by
    have hj : j < vs.length := (List.getElem?_eq_some_iff.1 hz).1
    have hf := h.row j z _ hz (List.getElem?_eq_getElem (by rw [← h.len]; exact hj))
    cases hz' : z.ownBlock with
    | none => exact .inl rfl
    | some b =>
      refine .inr fun e => ?_
      have h1 := (World.ownsRow.lt hf b hz').2
      have h2 := Option.some.inj e
      omega
  refine ⟨by simp [h.len], fun j z r hz hr => ?_, fun i j z y hij hz hy => ?_⟩
  · by_cases hj : j < vs.length
    · rw [List.getElem?_append_left hj] at hz
      rw [List.getElem?_append_left (by rw [← h.len]; exact hj)] at hr
      exact hk _ _ (h.row j z r hz hr)
    · rw [List.getElem?_append_right (by omega)] at hz
      rw [List.getElem?_append_right (by rw [← h.len]; omega)] at hr
      have hj' : j - vs.length = 0 := by
        have := (List.getElem?_eq_some_iff.1 hz).1
        simp at this; omega
      rw [hj'] at hz
      rw [← h.len, hj'] at hr
      simp at hz hr
      subst hz hr
      exact hu
  · by_cases hi : i < vs.length
    · rw [List.getElem?_append_left hi] at hz
      by_cases hj : j < vs.length
      · rw [List.getElem?_append_left hj] at hy
        exact h.apart i j z y hij hz hy
      · rw [List.getElem?_append_right (by omega)] at hy
        have hj' : j - vs.length = 0 := by
          have := (List.getElem?_eq_some_iff.1 hy).1
          simp at this; omega
        rw [hj'] at hy
        simp at hy
        subst hy
        have := hlow i z hz
        rwa [hg]
    · rw [List.getElem?_append_right (by omega)] at hz
      have hi' : i - vs.length = 0 := by
        have := (List.getElem?_eq_some_iff.1 hz).1
        simp at this; omega
      rw [hi'] at hz
      simp at hz
      subst hz
      have hj : j < vs.length := by
        rcases Nat.lt_or_ge j vs.length with hj | hj
        · exact hj
        · rw [List.getElem?_append_right hj] at hy
          have := (List.getElem?_eq_some_iff.1 hy).1
          simp at this; omega
      rw [List.getElem?_append_left hj] at hy
      right
      intro e
      rcases hlow j y hy with h1 | h1
      · rw [h1, hg] at e; cases e
      · exact h1 (by rw [← e, hg])

theorem But.of_ext {X : Nat} {v : Value} {w w' : World} (e : Ext w w') : But X v w w' := ⟨e.os, e.tape, e.output, e.size, fun b hb _ _ => Below.block e b hb⟩
theorem But.trans {X : Nat} {v : Value} {a b c : World} (h : But X v a b) (k : But X v b c) : But X v a c :=
  ⟨k.os.trans h.os, k.tape.trans h.tape, k.output.trans h.output, Nat.le_trans h.size k.size, fun x hx hX hv => (k.block x (Nat.lt_of_lt_of_le hx h.size) hX hv).trans (h.block x hx hX hv)⟩
theorem But.weaken {X : Nat} {v : Value} {w w' : World} (h : But X (.slice none 0 0) w w') : But X v w w' := ⟨h.os, h.tape, h.output, h.size, fun b hb hX _ => h.block b hb hX (by simp [Value.ownBlock])⟩

set_option maxRecDepth 100000 in
set_option maxHeartbeats 4000000 in
theorem tsTell_any (hsort : SortOk) (X p B : Nat) (gv grv ov : Value) (vs : List Value) (S : TS) (A C : List Nat) (w : World) (hM : MemT B X w gv grv ov vs S) (hXB : X < B) (hB : B ≤ w.heap.size) (he : S.opn = A ++ p :: C) (hp : p ∉ A) (hl : S.opn.length ≤ 40) (h40 : ∀ q ∈ S.opn, q < 40) (hg : S.grp.length ≤ 40) :
    Calls Try.prog 136 #[.pointer (some ⟨X, 0, none⟩), .int .i64 p] w (fun e w' => (∃ r, e = .returned r) ∧ ∃ grv' ov' vs', MemT B X w' gv grv' ov' vs' (tellS S A C p) ∧ But X grv w w' ∧ (ov'.ownBlock = none ∨ ov'.ownBlock = ov.ownBlock) ∧ ∀ (j : Nat) (u : Value), vs'[j]? = some u → vs[j]? = some u ∨ ∀ b, u.ownBlock = some b → w.heap.size ≤ b) := by
  have hlen : S.opn.length = A.length + 1 + C.length := by rw [he]; simp; omega
  obtain ⟨g0, c0, hov, _, _⟩ := World.ownsRow.form hM.opn (by rw [natsI_len, hlen]; omega)
  rw [natsI_len] at hov
  subst hov
  have i0 : Ints w (.slice (some ⟨g0, 0, none⟩) S.opn.length c0) (natsI A ++ (p : Int) :: natsI C) := by
    have := hM.opn.ints
    rw [he] at this
    rw [he]
    simpa [natsI] using this
  obtain ⟨_, hcap⟩ : True ∧ S.opn.length ≤ c0 := by
    obtain ⟨_, _, hv, _, hc, _⟩ := hM.opn.ints
    simp only [Value.slice.injEq] at hv
    obtain ⟨_, h1, h2⟩ := hv
    refine ⟨trivial, ?_⟩
    have := hc.1
    rw [natsI_len] at this
    omega
  have hpA : (p : Int) ∉ natsI A := fun e => by
    obtain ⟨q, hq, e⟩ := List.mem_map.1 e
    have : q = p := by omega
    exact hp (by rw [← this]; exact hq)
  obtain ⟨n, hn⟩ : ∃ n, S.opn.length = n := ⟨_, rfl⟩
  rw [hn] at i0 hcap hl hlen
  have i1 := ints_from (natsI A).length (by simp) (by rw [List.length_append, List.length_cons, natsI_len, natsI_len]; omega) i0
  rw [List.drop_left, natsI_len] at i1
  have i1' : Ints w (.slice (some ⟨g0, A.length, none⟩) (n - A.length) (c0 - A.length)) (natsI (p :: C)) := i1
  have HM := Lib.hid hM
  have HI0 := Lib.hid i0
  have HI1 := Lib.hid i1'
  have HPA := Lib.hid hpA
  have z2 := hM.ts.opens
  have HE := Lib.hid he
  have HN := Lib.hid hn
  have HP := Lib.hid hp
  have H40 := Lib.hid h40
  rw [hn] at z2
  have ha1 : A.length < n := by omega
  have ha2 : A.length ≤ c0 := by omega
  have hcl : (natsI (p :: C)).length ≤ 1048576 := by rw [natsI_len]; simp; omega
  have HLEN := Lib.hid hlen
  clear i0 i1 i1' hpA hM he hn hp h40 hlen
  go_enter Try.func136, Try.ntmps136
  go_wp2_with fail
  refine (index_found _ (natsI A) (natsI C) (p : Int) _ HI0.out HPA.out).mono ?_
  rintro e W1 ⟨rfl, x1⟩
  rw [natsI_len]
  have M1 := Lib.hid x1
  have z2 := x1.cell z2
  go_wp2_with fail
  refine (clone_any _ _ _ _ (natsI (p :: C)) _ (HI1.out.ext x1) hcl).mono ?_
  rintro e W2 ⟨v2, rfl, f2, x2⟩
  have hm0 : 0 < (natsI (p :: C)).length := by rw [natsI_len]; simp
  obtain ⟨g2, c2, hv2, hg2, _⟩ := World.ownsRow.form f2 hm0
  rw [natsI_len] at hv2
  subst hv2
  obtain ⟨m, hm⟩ : ∃ m, (p :: C).length = m := ⟨_, rfl⟩
  rw [hm] at f2 ⊢
  have hm1 : 1 ≤ m ∧ m ≤ 40 := by have := HLEN.out; rw [← hm]; simp; omega
  have y2 : Ext w W2 := x1.trans x2
  have hgw : w.heap.size ≤ g2 := by have := x1.size; omega
  have hXw : X < w.heap.size := by omega
  have t2 : TsAt W2 X gv grv (.slice (some ⟨g0, 0, none⟩) n c0) S := by
    have := Ext.block y2 HM.out.ts
    rw [HN.out] at this; exact this
  have z3 := t2.free 2
  have z2 := t2.opens
  have T3 := Lib.hid (t2.setOpens (.slice (some ⟨g0, 0, none⟩) A.length c0) A)
  have k3 : But X (.slice none 0 0) w (W2.setCell ⟨X, 2, none⟩ (.slice (some ⟨g0, 0, none⟩) A.length c0)) := (But.of_ext y2).setX 2 _
  have f3 : Fresh W1.heap.size (W2.setCell ⟨X, 2, none⟩ (.slice (some ⟨g0, 0, none⟩) A.length c0)) (.slice (some ⟨g2, 0, none⟩) m c2) (natsI (p :: C)) := f2.setOut (by have := x1.size; omega) 2 _
  have K3 := Lib.hid k3
  have F3 := Lib.hid f3
  have HM1 := Lib.hid hm
  have HGW := Lib.hid hgw
  have hq : ∀ k (h : k < (p :: C).length), (p :: C)[k] < 40 := fun k h => H40.out _ (by rw [HE.out]; exact List.mem_append_right _ (List.getElem_mem h))
  have HQ := Lib.hid hq
  have hXW1 : X < W1.heap.size := by have := x1.size; omega
  have hBW1 : B ≤ W1.heap.size := by have := x1.size; omega
  clear k3 f3 f2 x1 x2 M1 hg2 hm hm0 hgw y2 hq
  go_wp2
  obtain ⟨W3, hW3⟩ : ∃ W3, W3 = W2.setCell ⟨X, 2, none⟩ (.slice (some ⟨g0, 0, none⟩) A.length c0) := ⟨_, rfl⟩
  have K3' : Hid (But X (.slice none 0 0) w W3) := Lib.hid (by rw [hW3]; exact K3.out)
  have F3' : Hid (Fresh W1.heap.size W3 (.slice (some ⟨g2, 0, none⟩) m c2) (natsI (p :: C))) := Lib.hid (by rw [hW3]; exact F3.out)
  have T3' : Hid (TsAt W3 X gv grv (.slice (some ⟨g0, 0, none⟩) A.length c0) { S with opn := A, op := shutK S.op (p :: C) 0 }) := Lib.hid (by rw [hW3, shutK_zero]; exact T3.out)
  rw [← hW3]
  clear hW3 K3 F3 T3 t2 z2 z3
  go_loopw [7, 32] (fun _ i wr => ∃ k : Nat, k ≤ m ∧ i = .int .i64 k ∧ Hid (TsAt wr X gv grv (.slice (some ⟨g0, 0, none⟩) A.length c0) { S with opn := A, op := shutK S.op (p :: C) k }) ∧ Hid (But X (.slice none 0 0) w wr) ∧ Hid (Fresh W1.heap.size wr (.slice (some ⟨g2, 0, none⟩) m c2) (natsI (p :: C)))) (fun _ i _ => m - (intOf i).toNat)
  case atStart => exact ⟨0, Nat.zero_le _, rfl, T3', K3', F3'⟩
  case round =>
    clear T3' K3' F3'
    obtain ⟨k, hk, rfl, hT, hK, hF⟩ := hrel
    by_cases hlt : k < m
    · have hkl : k < (p :: C).length := by rw [HM1.out]; exact hlt
      obtain ⟨q, hqq⟩ : ∃ q, q = (p :: C)[k] := ⟨_, rfl⟩
      have gc := World.ownsRow.cellAt (by have := hF.out; unfold Fresh at this; rw [natsI_len, HM1.out] at this; exact this) k (by omega)
      have hgk : (List.map (Value.int IntKind.i64) (natsI (p :: C)))[k]? = some (.int .i64 (q : Int)) := by
        rw [hqq]
        unfold natsI
        rw [List.map_map, List.getElem?_map, List.getElem?_eq_getElem hkl]
        rfl
      rw [hgk] at gc
      have hq40 : q < 40 := by rw [hqq]; exact HQ.out k hkl
      have i1 : (0 : Int) ≤ (q : Int) := by omega
      have i2 : (q : Int) < 40 := by omega
      have z3 := hT.out.isOpen hq40
      have z4 := hT.out.free (3 + q)
      have T4 := hT.out.setOpen hq40 false
      have e4 : upd (shutK S.op (p :: C) k) q false = shutK S.op (p :: C) (k + 1) := by rw [hqq]; exact shutK_succ S.op (p :: C) hkl
      dsimp only at T4
      rw [e4] at T4
      have HT4 := Lib.hid T4
      clear hgk T4 e4 hqq
      go_wp2
      go_roundw
      case rel => exact ⟨k + 1, by omega, by go_num, HT4, Lib.hid (hK.out.setX _ _), Lib.hid (hF.out.setOut hXW1 _ _)⟩
      case measure => simp [intOf]; omega
    · obtain rfl : k = m := by omega
      have hlm : (natsI (p :: C)).length = k := by rw [natsI_len, HM1.out]
      have hF5 := hF.out
      have T4 := hT.out
      rw [← HM1.out, shutK_all] at T4
      have T4' := Lib.hid T4
      clear T4 hT
      go_wp2_with fail
      refine (hsort W1.heap.size _ _ _ hF5 (by omega) (by omega)).mono ?_
      rintro e W5 ⟨⟨r, rfl⟩, f5, g5⟩
      have hgb : (Value.slice (some ⟨g2, 0, none⟩) k c2).ownBlock = some g2 := rfl
      have t5 : TsAt W5 X gv grv (.slice (some ⟨g0, 0, none⟩) A.length c0) { S with opn := A, op := fun q => S.op q && !decide (q ∈ p :: C) } := by
        unfold TsAt
        have hXr : X < wr.heap.size := (Array.getElem?_eq_some_iff.1 T4'.out).1
        rw [g5.block X hXr (fun e => by rw [hgb] at e; have := Option.some.inj e; have := HGW.out; omega)]
        exact T4'.out
      have k5 : But X grv w W5 := by
        refine ⟨g5.os.trans hK.out.os, g5.tape.trans hK.out.tape, g5.output.trans hK.out.output, Nat.le_trans hK.out.size g5.size, fun b hb hbX hbv => ?_⟩
        rw [g5.block b (Nat.lt_of_lt_of_le hb hK.out.size) (fun e => by rw [hgb] at e; have := Option.some.inj e; have := HGW.out; omega)]
        exact hK.out.block b hb hbX (by simp [Value.ownBlock])
      have k50 : ∀ (Bx e sz nn : Nat) (u : Value) (xs : List Value), w.ownsRow Bx e sz u nn xs → X < Bx → W5.ownsRow Bx e sz u nn xs := fun Bx e sz nn u xs f hBx => by
        have h1 := hK.out.row f (fun e => by have := (World.ownsRow.lt f X e).1; omega) (by
          cases u.ownBlock with
          | none => exact .inl rfl
          | some b => exact .inr (by simp [Value.ownBlock]))
        refine World.ownsRow.kept h1 g5 ?_
        cases hu : u.ownBlock with
        | none => exact .inl rfl
        | some b =>
          refine .inr fun e => ?_
          rw [hgb] at e
          have h2 := (World.ownsRow.lt f b hu).2
          have h3 := Option.some.inj e
          have := HGW.out
          omega
      have fg5 : FreshV B W5 grv vs := k50 _ _ _ _ _ _ HM.out.grp hXB
      have z1 := t5.groups
      have hvl : vs.length ≤ 1048576 := by have := HM.out.rows.len; omega
      have hB5 : B ≤ W5.heap.size := by have := k5.size; omega
      have hfa : FreshV B (W5.alloc (.cells #[.slice (some ⟨g2, 0, none⟩) k c2] 27)) grv vs := fg5.ext (Ext.alloc (Ext.refl _) _)
      have hca := cell_alloc_one W5 (.slice (some ⟨g2, 0, none⟩) k c2) 27
      have hsa : (W5.alloc (.cells #[.slice (some ⟨g2, 0, none⟩) k c2] 27)).heap.size = W5.heap.size + 1 := by simp
      have HT5 := Lib.hid t5
      have HK5 := Lib.hid k5
      have HK50 := Lib.hid k50
      have HF5 := Lib.hid f5
      have HG5 := Lib.hid fg5
      have HFA := Lib.hid hfa
      have HCA := Lib.hid hca
      have HSA := Lib.hid hsa
      clear t5 k5 k50 f5 g5 fg5 hfa hca hsa hF hF5 hK T4' hlm
      go_wp2_with (at_builtin; refine wpList_pushV rfl _ _ rfl B grv vs rfl HFA.out (.slice (some ⟨g2, 0, none⟩) k c2) ⟨W5.heap.size, 0, none⟩ 1 rfl HCA.out rfl hvl (by rw [HSA.out]; omega) ?_)
      intro v6 W6 f6 g6 _
      obtain ⟨g6b, c6, hv6, _, _⟩ := World.ownsRow.form f6 (by simp)
      have hXs : X < (W5.alloc (.cells #[.slice (some ⟨g2, 0, none⟩) k c2] 27)).heap.size := by rw [HSA.out]; omega
      have t6 : TsAt W6 X gv grv (.slice (some ⟨g0, 0, none⟩) A.length c0) { S with opn := A, op := fun q => S.op q && !decide (q ∈ p :: C) } := by
        unfold TsAt
        rw [g6.block X hXs (fun e => by have := (World.ownsRow.lt HFA.out X e.symm).1; omega), heap_alloc_old _ _ (by omega)]
        exact HT5.out
      have k6 : But X grv w W6 := (HK5.out.alloc _).grown g6
      -- what lay in w from B on, but for the groups' own list, lies there still
      have kx : ∀ (v : Value) (r : List Int), Fresh B w v r → Fresh B W6 v r := fun v r f => by
        have h1 : Fresh B (W5.alloc (.cells #[.slice (some ⟨g2, 0, none⟩) k c2] 27)) v r := Fresh.ext (HK50.out _ _ _ _ _ _ f hXB) (Ext.alloc (Ext.refl _) _)
        exact World.ownsRow.kept h1 g6 (types_apart HFA.out h1 (by decide))
      have f26 : Fresh B W6 (.slice (some ⟨g2, 0, none⟩) k c2) (sortI (natsI (p :: C))) := by
        have h1 : Fresh B (W5.alloc (.cells #[.slice (some ⟨g2, 0, none⟩) k c2] 27)) (.slice (some ⟨g2, 0, none⟩) k c2) (sortI (natsI (p :: C))) := (HF5.out.more (by omega)).ext (Ext.alloc (Ext.refl _) _)
        exact World.ownsRow.kept h1 g6 (types_apart HFA.out h1 (by decide))
      have fo : Fresh B w (.slice (some ⟨g0, 0, none⟩) A.length c0) (natsI A) := by
        have h1 := HM.out.opn
        rw [show S.opn.length = (natsI S.opn).length from (natsI_len _).symm] at h1
        have h2 := h1.less A.length (by rw [natsI_len, HN.out]; omega)
        have e : (natsI S.opn).take A.length = natsI A := by
          rw [HE.out]
          unfold natsI
          rw [List.map_append, show A.length = (A.map fun (n : Nat) => (n : Int)).length by simp, List.take_left]
        rwa [e] at h2
      rw [List.length_append, List.length_singleton] at hv6
      subst hv6
      have z6 := t6.groups
      have y6 := t6.free 1
      have T7 := Lib.hid (t6.setGroups (.slice (some ⟨g6b, 0, none⟩) (vs.length + 1) c6) (S.grp ++ [sortI (natsI (p :: C))]))
      have K7 := Lib.hid (k6.setX 1 (.slice (some ⟨g6b, 0, none⟩) (vs.length + 1) c6))
      have F7 : Hid (FreshV B (W6.setCell ⟨X, 1, none⟩ (.slice (some ⟨g6b, 0, none⟩) (vs.length + 1) c6)) (.slice (some ⟨g6b, 0, none⟩) (vs.length + 1) c6) (vs ++ [Value.slice (some ⟨g2, 0, none⟩) k c2])) := Lib.hid (row_setOut f6 hXB 1 _)
      have O7 := Lib.hid ((kx _ _ fo).setOut hXB 1 (.slice (some ⟨g6b, 0, none⟩) (vs.length + 1) c6))
      have R7 := Lib.hid (HM.out.rows.add (w' := W6.setCell ⟨X, 1, none⟩ (.slice (some ⟨g6b, 0, none⟩) (vs.length + 1) c6)) (fun v r f => (kx v r f).setOut hXB 1 _) (f26.setOut hXB 1 _) rfl HGW.out)
      clear t6 k6 kx f26 fo f6 g6 hXs
      go_wp2
      go_end0
      refine ⟨⟨_, rfl⟩, _, _, _, ⟨T7.out, O7.out, F7.out, R7.out, fun j u hu => ?_⟩, K7.out, .inr rfl, fun j u hu => ?_⟩
      · by_cases hj : j < vs.length
        · rw [List.getElem?_append_left hj] at hu
          exact HM.out.far j u hu
        · rw [List.getElem?_append_right (by omega)] at hu
          have hj' : j - vs.length = 0 := by
            have := (List.getElem?_eq_some_iff.1 hu).1
            simp at this; omega
          rw [hj'] at hu
          simp at hu
          subst hu
          refine .inr fun e => ?_
          have h1 : g2 = g0 := Option.some.inj e
          have := HGW.out
          omega
      · by_cases hj : j < vs.length
        · rw [List.getElem?_append_left hj] at hu
          exact .inl hu
        · rw [List.getElem?_append_right (by omega)] at hu
          have hj' : j - vs.length = 0 := by
            have := (List.getElem?_eq_some_iff.1 hu).1
            simp at this; omega
          rw [hj'] at hu
          simp at hu
          subst hu
          refine .inr fun b e => ?_
          have h1 : g2 = b := Option.some.inj e
          have := HGW.out
          omega

end Go.Proofs.Ytnmnbeklofnonaa

namespace Go.Proofs.Ytnmnbeklofnonaa
open Go.RowKit
set_option linter.unusedVariables false

/-! ### How far the search has come -/
/-- How many of the first n points are not met. -/
def unmet (N : Nat → Nat) : Nat → Nat
  | 0 => 0
  | n + 1 => unmet N n + (if N n = 0 then 1 else 0)
theorem unmet_upd (N : Nat → Nat) (c v : Nat) (hv : v ≠ 0) (hc : N c = 0) : ∀ n, unmet (upd N c v) n + (if c < n then 1 else 0) = unmet N n
  | 0 => by simp [unmet]
  | n + 1 => by
    have ih := unmet_upd N c v hv hc n
    unfold unmet
    by_cases e : n = c
    · subst e
      have e1 : (if n < n + 1 then 1 else 0 : Nat) = 1 := if_pos (by omega)
      have e2 : (if n < n then 1 else 0 : Nat) = 0 := if_neg (by omega)
      rw [upd_same, if_neg hv, if_pos hc, e1]
      rw [e2] at ih
      omega
    · rw [upd_other N v e]
      by_cases hlt : c < n
      · have e1 : (if c < n + 1 then 1 else 0 : Nat) = 1 := if_pos (by omega)
        rw [e1]
        rw [if_pos hlt] at ih
        omega
      · have e1 : (if c < n + 1 then 1 else 0 : Nat) = 0 := if_neg (by omega)
        rw [e1]
        rw [if_neg hlt] at ih
        omega
theorem unmet_start (n : Nat) : unmet (fun _ => 0) n = n := by
  induction n with
  | zero => rfl
  | succ n ih => unfold unmet; rw [ih]; simp

/-- The numbers agree. -/
structure Cnt (g : List (List Int)) (S : TS) : Prop where
  some : S.grp.length + S.opn.length ≤ S.met
  all : S.met + unmet S.N g.length = g.length
theorem Cnt.meet {g : List (List Int)} {S : TS} {c : Nat} (h : Cnt g S) (hc : c < g.length) (hn : S.N c = 0) : Cnt g (meetS S c) := by
  refine ⟨?_, ?_⟩
  · show S.grp.length + (S.opn ++ [c]).length ≤ S.met + 1
    rw [List.length_append, List.length_singleton]
    have := h.some; omega
  · show S.met + 1 + unmet (upd S.N c (S.met + 1)) g.length = g.length
    have := unmet_upd S.N c (S.met + 1) (by omega) hn g.length
    rw [if_pos hc] at this
    have := h.all; omega
theorem Cnt.left {g : List (List Int)} {S : TS} {c : Nat} (h : Cnt g S) (hc : c < g.length) (hn : S.N c = 0) : unmet (meetS S c).N g.length + 1 = unmet S.N g.length := by
  have := unmet_upd S.N c (S.met + 1) (by omega) hn g.length
  rwa [if_pos hc] at this
theorem Cnt.tell {g : List (List Int)} {S : TS} {A C : List Nat} {p : Nat} (h : Cnt g S) (e : S.opn = A ++ p :: C) : Cnt g (tellS S A C p) := by
  refine ⟨?_, h.all⟩
  show (S.grp ++ [sortI (natsI (p :: C))]).length + A.length ≤ S.met
  have := h.some
  rw [e] at this
  simp at this ⊢
  omega
theorem Inv.way_len {g : List (List Int)} {S : TS} {way : List Nat} (h : Inv g S way) : way.length ≤ S.met := by
  have hr : Rises (way.map fun q => (S.N q : Int)) := by
    unfold Rises
    rw [List.pairwise_map]
    exact h.wsort.imp (fun h => by omega)
  have := rises_len 1 ((S.met : Int) + 1) hr (fun x hx => by
    obtain ⟨q, hq, rfl⟩ := List.mem_map.1 hx
    have h1 := h.opmet q (h.wop q hq)
    have h2 := h.le q
    omega) (by omega)
  rw [List.length_map] at this
  omega

/-! ### What lies in memory -/
def GoS (B X : Nat) (wb : World) (gv : Value) (w : World) (S : TS) (way : List Nat) (wv : Value) : Prop :=
  ∃ grv ov vs, MemT B X w gv grv ov vs S ∧ Fresh B w wv (natsI way) ∧ (wv.ownBlock = none ∨ wv.ownBlock ≠ ov.ownBlock) ∧ (∀ (j : Nat) (u : Value), vs[j]? = some u → u.ownBlock = none ∨ u.ownBlock ≠ wv.ownBlock) ∧ Ext wb w ∧ B ≤ w.heap.size

theorem MemT.setX {B X : Nat} {w : World} {gv grv ov : Value} {vs : List Value} {S S' : TS} (h : MemT B X w gv grv ov vs S) (hXB : X < B) (i : Nat) (v : Value) (t : TsAt (w.setCell ⟨X, i, none⟩ v) X gv grv ov S') (e1 : S'.opn = S.opn) (e2 : S'.grp = S.grp) : MemT B X (w.setCell ⟨X, i, none⟩ v) gv grv ov vs S' :=
  ⟨t, by rw [e1]; exact h.opn.setOut hXB i v, row_setOut h.grp hXB i v, ⟨by rw [e2]; exact h.rows.len, fun j u l hu hl => (h.rows.row j u l hu (by rw [← e2]; exact hl)).setOut hXB i v, h.rows.apart⟩, h.far⟩
theorem MemT.drew {B X : Nat} {w : World} {gv grv ov : Value} {vs : List Value} {S : TS} (h : MemT B X w gv grv ov vs S) (n : Nat) : MemT B X (w.drewN n) gv grv ov vs S :=
  have e : Ext w (w.drewN n) := (Ext.refl w).drewN n
  ⟨Ext.block e h.ts, h.opn.ext e, h.grp.ext e, h.rows.ext e, h.far⟩
theorem MemT.ext {B X : Nat} {w w' : World} {gv grv ov : Value} {vs : List Value} {S : TS} (h : MemT B X w gv grv ov vs S) (e : Ext w w') : MemT B X w' gv grv ov vs S :=
  ⟨Ext.block e h.ts, h.opn.ext e, h.grp.ext e, h.rows.ext e, h.far⟩

theorem GoS.ext {B X : Nat} {wb w w' : World} {gv wv : Value} {S : TS} {way : List Nat} (h : GoS B X wb gv w S way wv) (e : Ext w w') : GoS B X wb gv w' S way wv := by
  obtain ⟨grv, ov, vs, hm, hw, h1, h2, h3, h4⟩ := h
  exact ⟨grv, ov, vs, hm.ext e, hw.ext e, h1, h2, h3.trans e, Nat.le_trans h4 e.size⟩
theorem GoS.set {B X : Nat} {wb w : World} {gv wv : Value} {S S' : TS} {way : List Nat} (h : GoS B X wb gv w S way wv) (hXB : X < B) (hwb : wb.heap.size ≤ X) (i : Nat) (v : Value) (t : ∀ grv ov, TsAt w X gv grv ov S → TsAt (w.setCell ⟨X, i, none⟩ v) X gv grv ov S') (e1 : S'.opn = S.opn) (e2 : S'.grp = S.grp) : GoS B X wb gv (w.setCell ⟨X, i, none⟩ v) S' way wv := by
  obtain ⟨grv, ov, vs, hm, hw, h1, h2, h3, h4⟩ := h
  exact ⟨grv, ov, vs, hm.setX hXB i v (t _ _ hm.ts) e1 e2, hw.setOut hXB i v, h1, h2, Below.setCell h3 hwb _, by simpa using h4⟩

/-- The way grows by a point. -/
theorem GoS.push {B X g cap : Nat} {wb w w' : World} {gv wv : Value} {S : TS} {way : List Nat} {c n : Nat} {o : Obj} (h : GoS B X wb gv w S way wv) (hXB : X < B) (hwb : wb.heap.size ≤ X)
    (f : Fresh B w' (.slice (some ⟨g, 0, none⟩) n cap) (natsI (way ++ [c]))) (t : (w.alloc o).grownBy w' wv.ownBlock) (hg : wv.ownBlock = some g ∨ g = (w.alloc o).heap.size) : GoS B X wb gv w' S (way ++ [c]) (.slice (some ⟨g, 0, none⟩) n cap) := by
  have ha := h.ext (Ext.alloc (Ext.refl w) o)
  obtain ⟨grv, ov, vs, hm, hw, h1, h2, h3, h4⟩ := ha
  have hnx : wv.ownBlock ≠ some X := fun e => by have := (World.ownsRow.lt hw X e).1; omega
  have hX : X < (w.alloc o).heap.size := by omega
  have away : ∀ (z : Value) (b : Nat), z.ownBlock = some b → b < (w.alloc o).heap.size → (z.ownBlock = none ∨ z.ownBlock ≠ wv.ownBlock) → z.ownBlock = none ∨ z.ownBlock ≠ some g := fun z b hz hb hne => by
    right
    intro e
    rcases hg with hg | hg
    · rcases hne with hne | hne
      · rw [hne] at hz; cases hz
      · exact hne (by rw [e, hg])
    · rw [hz] at e
      have := Option.some.inj e
      omega
  have own : ∀ (j : Nat) (u : Value), vs[j]? = some u → ∀ b, u.ownBlock = some b → b < (w.alloc o).heap.size := fun j u hu b hb => by
    have hj : j < vs.length := (List.getElem?_eq_some_iff.1 hu).1
    exact (World.ownsRow.lt (hm.rows.row j u _ hu (List.getElem?_eq_getElem (by rw [← hm.rows.len]; exact hj))) b hb).2
  refine ⟨grv, ov, vs, ⟨?_, ?_, ?_, ⟨hm.rows.len, fun j u l hu hl => ?_, hm.rows.apart⟩, hm.far⟩, f, ?_, fun j u hu => ?_, ?_, Nat.le_trans h4 t.size⟩
  · unfold TsAt
    rw [t.block X hX (fun e => hnx e.symm)]; exact hm.ts
  · refine World.ownsRow.kept hm.opn t ?_
    cases ho : ov.ownBlock with
    | none => exact .inl rfl
    | some b =>
      refine .inr fun e => ?_
      rcases h1 with h1 | h1
      · rw [h1] at e; cases e
      · exact h1 (by rw [ho, e])
  · exact World.ownsRow.kept hm.grp t (types_apart hw hm.grp (by decide))
  · exact World.ownsRow.kept (hm.rows.row j u l hu hl) t (h2 j u hu)
  · cases ho : ov.ownBlock with
    | none => exact .inr (by simp [Value.ownBlock])
    | some b =>
      right
      intro e
      have hb := (World.ownsRow.lt hm.opn b ho).2
      have hov : ov.ownBlock = none ∨ ov.ownBlock ≠ wv.ownBlock := by
        rcases h1 with h1 | h1
        · exact .inr (by rw [h1, ho]; simp)
        · exact .inr (fun e' => h1 e'.symm)
      rcases away ov b ho hb hov with h5 | h5
      · rw [h5] at ho; cases ho
      · exact h5 (by rw [ho]; exact e.symm)
  · cases hu' : u.ownBlock with
    | none => exact .inl rfl
    | some b =>
      have := away u b hu' (own j u hu b hu') (h2 j u hu)
      rwa [hu'] at this
  · exact Below.grown h3 t h3.size (fun k hk => by have := (World.ownsRow.lt hw k hk).1; omega)

theorem own_len (ao : Option Addr) (n m cap : Nat) : (Value.slice ao n cap).ownBlock = (Value.slice ao m cap).ownBlock := by
  rcases ao with _ | ⟨b, o, s⟩ <;> rfl
/-- The way is cut short by its last point. -/
theorem GoS.pop {B X n cap : Nat} {wb w : World} {gv : Value} {S : TS} {way : List Nat} {p : Nat} {ao : Option Addr} (h : GoS B X wb gv w S (way ++ [p]) (.slice ao (n + 1) cap)) (hn : way.length = n) : GoS B X wb gv w S way (.slice ao n cap) := by
  obtain ⟨grv, ov, vs, hm, hw, h1, h2, h3, h4⟩ := h
  have e : (natsI (way ++ [p])).length = n + 1 := by rw [natsI_len, List.length_append, hn]; rfl
  have hl := Fresh.less (k := n) (l := natsI (way ++ [p])) (by rw [e]; exact hw) (by omega)
  have e2 : (natsI (way ++ [p])).take n = natsI way := by
    unfold natsI
    rw [List.map_append, show n = (way.map fun (n : Nat) => (n : Int)).length by simp [hn], List.take_left]
  rw [e2] at hl
  rw [own_len ao (n + 1) n] at h1
  refine ⟨grv, ov, vs, hm, hl, h1, fun j u hu => ?_, h3, h4⟩
  rw [own_len ao n (n + 1)]
  exact h2 j u hu

/-- A point is met. -/
theorem GoS.meet {B X c g cap n : Nat} {wb w w' : World} {gv wv grv ov : Value} {vs : List Value} {S : TS} {way : List Nat} (hm : MemT B X w gv grv ov vs S) (hw : Fresh B w wv (natsI way)) (h1 : wv.ownBlock = none ∨ wv.ownBlock ≠ ov.ownBlock) (h2 : ∀ (j : Nat) (u : Value), vs[j]? = some u → u.ownBlock = none ∨ u.ownBlock ≠ wv.ownBlock) (h3 : Ext wb w) (h4 : B ≤ w.heap.size) (hXB : X < B) (hwb : wb.heap.size ≤ X)
    (t : TsAt w' X gv grv (.slice (some ⟨g, 0, none⟩) n cap) (meetS S c)) (f : Fresh B w' (.slice (some ⟨g, 0, none⟩) n cap) (natsI (S.opn ++ [c]))) (k : But X ov w w') (hg : ov.ownBlock = some g ∨ w.heap.size ≤ g) : GoS B X wb gv w' (meetS S c) way wv := by
  refine ⟨grv, _, vs, hm.meet hXB t f k hg, k.row hw (fun e => by have := (World.ownsRow.lt hw X e).1; omega) h1, ?_, h2, k.ext h3 hwb (fun b hb => by have := (World.ownsRow.lt hm.opn b hb).1; omega), Nat.le_trans h4 k.size⟩
  cases hv : wv.ownBlock with
  | none => exact .inl rfl
  | some b =>
    refine .inr fun e => ?_
    have e : b = g := Option.some.inj e
    rcases hg with hg | hg
    · rcases h1 with h1 | h1
      · rw [h1] at hv; cases hv
      · exact h1 (by rw [hv, hg, e])
    · have := (World.ownsRow.lt hw b hv).2
      omega

/-- A group is told. -/
theorem GoS.tell {B X : Nat} {wb w w' : World} {gv wv grv ov grv' ov' : Value} {vs vs' : List Value} {S S' : TS} {way : List Nat} (hm : MemT B X w gv grv ov vs S) (hw : Fresh B w wv (natsI way)) (h1 : wv.ownBlock = none ∨ wv.ownBlock ≠ ov.ownBlock) (h2 : ∀ (j : Nat) (u : Value), vs[j]? = some u → u.ownBlock = none ∨ u.ownBlock ≠ wv.ownBlock) (h3 : Ext wb w) (h4 : B ≤ w.heap.size) (hXB : X < B) (hwb : wb.heap.size ≤ X)
    (m' : MemT B X w' gv grv' ov' vs' S') (k : But X grv w w') (ho : ov'.ownBlock = none ∨ ov'.ownBlock = ov.ownBlock) (hv : ∀ (j : Nat) (u : Value), vs'[j]? = some u → vs[j]? = some u ∨ ∀ b, u.ownBlock = some b → w.heap.size ≤ b) : GoS B X wb gv w' S' way wv := by
  refine ⟨grv', ov', vs', m', k.row hw (fun e => by have := (World.ownsRow.lt hw X e).1; omega) (types_apart hm.grp hw (by decide)), ?_, fun j u hu => ?_, k.ext h3 hwb (fun b hb => by have := (World.ownsRow.lt hm.grp b hb).1; omega), Nat.le_trans h4 k.size⟩
  · rcases ho with ho | ho
    · cases hv' : wv.ownBlock with
      | none => exact .inl rfl
      | some b => exact .inr (by rw [ho]; simp)
    · rw [ho]; exact h1
  · rcases hv j u hu with h5 | h5
    · exact h2 j u h5
    · cases hu' : u.ownBlock with
      | none => exact .inl rfl
      | some b =>
        refine .inr fun e => ?_
        have := h5 b hu'
        have := (World.ownsRow.lt hw b e.symm).2
        omega

end Go.Proofs.Ytnmnbeklofnonaa
