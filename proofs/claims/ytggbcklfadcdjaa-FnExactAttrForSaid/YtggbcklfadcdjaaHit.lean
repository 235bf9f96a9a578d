/- What AttrFor reckons, in plain mathematics; the laws' step by step picture of it in memory. -/
import Derived.Test.YtggbcklfadcdjaaGoodTab2
import Derived.Test.YtggbcklfadcdjaaSpecRowAt3
import Derived.Test.YtggbcklfadcdjaaInter2
namespace Go.Proofs.Ytggbcklfadcdjaa
open Go.RowKit
set_option linter.unusedVariables false

/-- The greater of two. -/
def mxx (a b : Int) : Int := if b > a then b else a
/-- Whether the row r at the place i of the list of k counts for the command c, the instance (rep, no). -/
def hitB (ck cf ct rep no : Int) (k i : Nat) (r : RowD) : Bool := (!(r.st == 0) && interB ck cf ct r.k r.f r.t) && !(((k : Int) == rep) && ((i : Int) + 1 == no))
def rowStep (ck cf ct rep no : Int) (k i : Nat) (r : RowD) (S : Int) (D : List Int) : Int × List Int := if hitB ck cf ct rep no k i r then (mxx S r.s, D.set k ((i : Int) + 1)) else (S, D)
def rowTo (ck cf ct rep no : Int) (k : Nat) (R : List RowD) (j : Nat) (X : Int × List Int) : Int × List Int :=
  (List.range j).foldl (fun X i => match R[i]? with | some r => rowStep ck cf ct rep no k i r X.1 X.2 | none => X) X
def tabTo (ck cf ct rep no : Int) (T : List (List RowD)) (k : Nat) (X : Int × List Int) : Int × List Int :=
  (List.range k).foldl (fun X p => rowTo ck cf ct rep no p (T[p]?.getD []) (T[p]?.getD []).length X) X
theorem rowTo_zero (ck cf ct rep no : Int) (k : Nat) (R : List RowD) (X : Int × List Int) : rowTo ck cf ct rep no k R 0 X = X := rfl
theorem rowTo_succ (ck cf ct rep no : Int) (k : Nat) {R : List RowD} {j : Nat} (h : j < R.length) (X : Int × List Int) :
    rowTo ck cf ct rep no k R (j + 1) X = rowStep ck cf ct rep no k j R[j] (rowTo ck cf ct rep no k R j X).1 (rowTo ck cf ct rep no k R j X).2 := by
  unfold rowTo
  rw [List.range_succ, List.foldl_append]
  simp [List.getElem?_eq_getElem h]
theorem tabTo_zero (ck cf ct rep no : Int) (T : List (List RowD)) (X : Int × List Int) : tabTo ck cf ct rep no T 0 X = X := rfl
theorem tabTo_succ (ck cf ct rep no : Int) {T : List (List RowD)} {k : Nat} (h : k < T.length) (X : Int × List Int) :
    tabTo ck cf ct rep no T (k + 1) X = rowTo ck cf ct rep no k T[k] T[k].length (tabTo ck cf ct rep no T k X) := by
  unfold tabTo
  rw [List.range_succ, List.foldl_append]
  simp [List.getElem?_eq_getElem h]
theorem step_hit {ck cf ct rep no : Int} {k i : Nat} {r : RowD} {S : Int} {D : List Int} (h : hitB ck cf ct rep no k i r = true) : rowStep ck cf ct rep no k i r S D = (mxx S r.s, D.set k ((i : Int) + 1)) := by unfold rowStep; rw [h]; rfl
theorem step_miss {ck cf ct rep no : Int} {k i : Nat} {r : RowD} {S : Int} {D : List Int} (h : hitB ck cf ct rep no k i r = false) : rowStep ck cf ct rep no k i r S D = (S, D) := by unfold rowStep; rw [h]; rfl
theorem hit_seq {n ck cf ct rep no : Int} {k i : Nat} {r : RowD} (h : hitB ck cf ct rep no k i r = true) (hg : goodRow n r = true) : 0 ≤ r.s ∧ r.s ≤ 999 := by
  unfold hitB at h
  simp only [Bool.and_eq_true] at h
  have h0 : (r.st == 0) = false := by have := h.1.1; simpa using this
  unfold goodRow at hg
  rw [h0] at hg
  simp only [Bool.and_eq_true] at hg
  have h2 := hg.2
  unfold fullB at h2
  simp only [Bool.false_eq_true, if_false, Bool.and_eq_true] at h2
  have h3 := (goodD_of h2.2).1
  unfold inB at h3
  simpa using h3
theorem mxx_bd {a b : Int} (h0 : 0 ≤ a) (h1 : a ≤ 999) (k0 : 0 ≤ b) (k1 : b ≤ 999) : 0 ≤ mxx a b ∧ mxx a b ≤ 999 := by unfold mxx; split <;> omega

/-- The model's attribute before its last step, and what AttrFor tells. -/
def attrSD (n ck cf ct rep no : Int) (T : List (List RowD)) : Int × List Int := tabTo ck cf ct rep no T T.length (0, noneL n)
def okA (n : Int) (T : List (List RowD)) (ck ci cf ct ca rep no : Int) : Bool := ((goodTab n T && instB n rep no) && goodB ck ci cf ct ca) && decide ((attrSD n ck cf ct rep no T).1 + 1 ≤ 999)
def attrS (n : Int) (T : List (List RowD)) (ck ci cf ct ca rep no : Int) : Int := if okA n T ck ci cf ct ca rep no then (attrSD n ck cf ct rep no T).1 + 1 else 0
def attrL (n : Int) (T : List (List RowD)) (ck ci cf ct ca rep no : Int) : List Int := if okA n T ck ci cf ct ca rep no then (attrSD n ck cf ct rep no T).2 else []
theorem attr_no {n : Int} {T : List (List RowD)} {ck ci cf ct ca rep no : Int} (h : okA n T ck ci cf ct ca rep no = false) : attrS n T ck ci cf ct ca rep no = 0 ∧ attrL n T ck ci cf ct ca rep no = [] := by
  unfold attrS attrL; rw [h]; exact ⟨rfl, rfl⟩
theorem attr_yes {n : Int} {T : List (List RowD)} {ck ci cf ct ca rep no : Int} (h : okA n T ck ci cf ct ca rep no = true) : attrS n T ck ci cf ct ca rep no = (attrSD n ck cf ct rep no T).1 + 1 ∧ attrL n T ck ci cf ct ca rep no = (attrSD n ck cf ct rep no T).2 := by
  unfold attrS attrL; rw [h]; exact ⟨rfl, rfl⟩

/-- The attribute that is being made lies in the box b, its list in the block g; the command in the box N. -/
def LiveA (w W : World) (b g cap m N : Nat) (k i f t a S : Int) (D : List Int) : Prop :=
  OpenAt W b S (.slice (some ⟨g, 0, none⟩) m cap) ∧ W.ownsRow w.heap.size 3 1 (.slice (some ⟨g, 0, none⟩) m cap) m (D.map (Value.int .i64)) ∧ CmdAt W N k i f t a ∧ Ext w W
theorem LiveA.ext {w W W' : World} {b g cap m N : Nat} {k i f t a S : Int} {D : List Int} (h : LiveA w W b g cap m N k i f t a S D) (e : Ext W W') : LiveA w W' b g cap m N k i f t a S D :=
  ⟨h.1.ext e, e.ownsRow h.2.1, h.2.2.1.ext e, h.2.2.2.trans e⟩
theorem setc_other {w : World} {b o b' o' : Nat} {x v : Value} (h : w.cell? ⟨b, o, none⟩ = some v) (hne : b' ≠ b) : (w.setCell ⟨b', o', none⟩ x).cell? ⟨b, o, none⟩ = some v := by
  rw [World.cell?_setCell_other _ _ _ _ (fun e => hne (by cases e; rfl))]; exact h
theorem LiveA.put {w W : World} {b g cap m N : Nat} {k i f t a S : Int} {D : List Int} (h : LiveA w W b g cap m N k i f t a S D) (q : Nat) (x : Int) (hb : b ≠ g) (hN : N ≠ g) : LiveA w (W.setCell ⟨g, q, none⟩ (.int .i64 x)) b g cap m N k i f t a S (D.set q x) := by
  obtain ⟨⟨⟨h1, h2⟩, h3, h4⟩, h5, ⟨c0, c1, c2, c3, c4⟩, h7⟩ := h
  have hg := (World.ownsRow.lt h5 g rfl).1
  refine ⟨⟨⟨setc_other h1 hb.symm, setc_other h2 hb.symm⟩, by rw [World.frozen?_setCell]; exact h3, by rw [World.frozen?_setCell]; exact h4⟩, ?_, ⟨setc_other c0 hN.symm, setc_other c1 hN.symm, setc_other c2 hN.symm, setc_other c3 hN.symm, setc_other c4 hN.symm⟩, h7.setc hg⟩
  have := (h5.stored q (.int .i64 x)).1
  rw [List.map_set]; exact this
theorem LiveA.seq {w W : World} {b g cap m N : Nat} {k i f t a S : Int} {D : List Int} (h : LiveA w W b g cap m N k i f t a S D) (x : Int) (hb : b ≠ g) (hN : N ≠ b) (hw : w.heap.size ≤ b) : LiveA w (W.setCell ⟨b, 0, none⟩ (.int .i64 x)) b g cap m N k i f t a x D := by
  obtain ⟨⟨⟨h1, h2⟩, h3, h4⟩, h5, ⟨c0, c1, c2, c3, c4⟩, h7⟩ := h
  refine ⟨⟨⟨World.cell?_setCell_same' _ _ _ (by rw [h1]; rfl), ?_⟩, by rw [World.frozen?_setCell]; exact h3, by rw [World.frozen?_setCell]; exact h4⟩, ?_, ⟨setc_other c0 hN.symm, setc_other c1 hN.symm, setc_other c2 hN.symm, setc_other c3 hN.symm, setc_other c4 hN.symm⟩, h7.setc hw⟩
  · rw [World.cell?_setCell_other _ _ _ _ (fun e => by cases e)]; exact h2
  · exact World.ownsRow.kept h5 (grownBy_set W b 0 _) (.inr (fun e => hb (by have := Option.some.inj e; exact this.symm)))
theorem LiveA.cellAt {w W : World} {b g cap m N : Nat} {k i f t a S : Int} {D : List Int} (h : LiveA w W b g cap m N k i f t a S D) {q : Nat} (hq : q < m) : ∃ x, W.cell? ⟨g, q, none⟩ = some (.int .i64 x) := by
  have hl : D.length = m := by have := h.2.1.1; simpa using this
  have hc := h.2.1.cellAt q (by omega)
  refine ⟨D[q]'(by omega), ?_⟩
  rw [hc]; simp [List.getElem?_eq_getElem (show q < D.length by omega)]

theorem l1Most_any (a b : Int) (w : World) : Calls Try.prog 91 #[.int .i64 a, .int .i64 b] w (fun e w' => e = .returned (.int .i64 (mxx a b)) ∧ w = w') := by
  unfold mxx
  by_cases h : b < a
  · have e : (if b > a then b else a) = a := if_neg (by omega)
    rw [e]
    have E := Lib.hid e
    clear e
    go_enter Try.func91, Try.ntmps91
    go_wp2
    go_ret
    exact ⟨rfl, rfl⟩
  · have e : (if b > a then b else a) = b := by split <;> omega
    rw [e]
    have E := Lib.hid e
    have h' : a ≤ b := by omega
    clear e h
    go_enter Try.func91, Try.ntmps91
    go_wp2
    go_ret
    exact ⟨rfl, rfl⟩

end Go.Proofs.Ytggbcklfadcdjaa
