/- The words of this seat: what comes back, and plain facts on lists. -/
import Derived.Test.YtcpmfcigciknlaaBase
import Derived.Test.YtcpmfcigciknlaaChecked
namespace Go.Proofs.Ytcpmfcigciknlaa
open Go.RowKit

/-- A Bool comes back, and the world is as it was but for new blocks. -/
def BoolExt (b : Bool) (w : World) (e : Ending) (w' : World) : Prop := e = .returned (.bool b) ∧ Ext w w'
def IntExt (n : Int) (w : World) (e : Ending) (w' : World) : Prop := e = .returned (.int .i64 n) ∧ Ext w w'

theorem take_eq_succ {l r : List Int} {k : Nat} (h1 : k < l.length) (h2 : k < r.length) (h : l.take k = r.take k) (he : l[k]?.getD 0 = r[k]?.getD 0) : l.take (k + 1) = r.take (k + 1) := by
  simp [List.getElem?_eq_getElem h1, List.getElem?_eq_getElem h2] at he
  rw [List.take_add_one, List.take_add_one, h, List.getElem?_eq_getElem h1, List.getElem?_eq_getElem h2, he]

theorem Try.infoInt : (Try.prog.info? 3).map (fun i => (i.zero, i.size, i.bytes)) = some (some (.int .i64 0), 1, 8) := by kernel_rfl

/-- A slice in new memory comes back that reads as l. -/
def NewInts (l : List Int) (w : World) (e : Ending) (w' : World) : Prop := ∃ v, e = .returned v ∧ Fresh w.heap.size w' v l ∧ Ext w w'

/-- A slice in new memory and a Bool come back. -/
def TwoInts (l : List Int) (b : Bool) (w : World) (e : Ending) (w' : World) : Prop := ∃ v, e = .returned (.tuple #[v, .bool b]) ∧ Fresh w.heap.size w' v l ∧ Ext w w'

theorem fresh_nil (B : Nat) (w : World) : Fresh B w (.slice none 0 0) [] := World.ownsRow_nil _ _ _ _

def inB (n lo hi : Int) : Bool := decide (lo ≤ n) && decide (n ≤ hi)
theorem inB_yes {n lo hi : Int} (h1 : lo ≤ n) (h2 : n ≤ hi) : inB n lo hi = true := by simp [inB, h1, h2]
theorem inB_no {n lo hi : Int} (h : ¬ (lo ≤ n ∧ n ≤ hi)) : inB n lo hi = false := by
  unfold inB; rw [Bool.and_eq_false_iff]; simp only [decide_eq_false_iff_not]; omega

def allIn (l : List Int) (lo hi : Int) : Bool := l.all fun x => inB x lo hi

theorem all_take_succ {l : List Int} {k : Nat} (h : k < l.length) (p : Int → Bool) (ht : (l.take k).all p = true) (hp : p (l[k]?.getD 0) = true) : (l.take (k + 1)).all p = true := by
  simp [List.getElem?_eq_getElem h] at hp
  rw [List.take_add_one, List.all_append, ht, List.getElem?_eq_getElem h]
  simpa using hp
theorem all_false_at {l : List Int} {k : Nat} (h : k < l.length) (p : Int → Bool) (hp : p (l[k]?.getD 0) = false) : l.all p = false := by
  simp [List.getElem?_eq_getElem h] at hp
  rw [List.all_eq_false]
  exact ⟨l[k], List.getElem_mem h, by rw [hp]; simp⟩

def hasI (l : List Int) (n : Int) : Bool := l.any fun x => x == n
theorem any_take_succ {l : List Int} {k : Nat} (h : k < l.length) (p : Int → Bool) (ht : (l.take k).any p = false) (hp : p (l[k]?.getD 0) = false) : (l.take (k + 1)).any p = false := by
  simp [List.getElem?_eq_getElem h] at hp
  rw [List.take_add_one, List.any_append, ht, List.getElem?_eq_getElem h]
  simpa using hp
theorem any_true_at {l : List Int} {k : Nat} (h : k < l.length) (p : Int → Bool) (hp : p (l[k]?.getD 0) = true) : l.any p = true := by
  simp [List.getElem?_eq_getElem h] at hp
  rw [List.any_eq_true]
  exact ⟨l[k], List.getElem_mem h, hp⟩


def wf64 (n : Int) : Prop := (Lit.int .i64 n).wf = true
/-- Two Bools come back. -/
def TwoB (a b : Bool) (w : World) (e : Ending) (w' : World) : Prop := e = .returned (.tuple #[.bool a, .bool b]) ∧ Ext w w'

theorem step2 {wb W W' : World} {a b : Addr} {u v : Value} (x : Ext W W') (h : Ext wb W ∧ W.cell? a = some u ∧ W.cell? b = some v) : Ext wb W' ∧ W'.cell? a = some u ∧ W'.cell? b = some v :=
  ⟨h.1.trans x, x.cell h.2.1, x.cell h.2.2⟩
theorem step4 {wb W W' : World} {a b c d : Addr} {u v r s : Value} (x : Ext W W') (h : Ext wb W ∧ W.cell? a = some u ∧ W.cell? b = some v ∧ W.cell? c = some r ∧ W.cell? d = some s) : Ext wb W' ∧ W'.cell? a = some u ∧ W'.cell? b = some v ∧ W'.cell? c = some r ∧ W'.cell? d = some s :=
  ⟨h.1.trans x, x.cell h.2.1, x.cell h.2.2.1, x.cell h.2.2.2.1, x.cell h.2.2.2.2⟩

end Go.Proofs.Ytcpmfcigciknlaa
