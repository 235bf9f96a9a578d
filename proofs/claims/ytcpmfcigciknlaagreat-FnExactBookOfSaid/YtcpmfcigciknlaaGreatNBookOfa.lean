/- Texts of this proof, part a: words, plain facts, contracts. -/
import Derived.WalkKit
import Derived.WalkSmall
import Derived.Lib.Hide
import Derived.Deep.QuietTactic
import Derived.BigQuiet
import Derived.Maps.AppendAt
import Derived.Test.YtcpmfcigciknlaaGreatChecked
import Derived.Deep.RegionHeld3
set_option linter.unusedVariables false
set_option linter.unusedSimpArgs false

namespace Go.Proofs.YtcpmfcigciknlaaGreat
open Go.RowKit
def Ext (w w' : World) : Prop := Below w.heap.size w w'
theorem Ext.refl (w : World) : Ext w w := Below.refl _ _
theorem Ext.trans {a b c : World} (h : Ext a b) (k : Ext b c) : Ext a c := Below.trans h (k.mono h.size)
theorem Ext.drew {a b : World} (h : Ext a b) : Ext a b.drew := Below.drew h
theorem Ext.drewN {a b : World} (h : Ext a b) (n : Nat) : Ext a (b.drewN n) := by
  exact below_drewN h n
theorem Ext.alloc {a b : World} (h : Ext a b) (o : Obj) : Ext a (b.alloc o) := Below.alloc h h.size o
theorem Ext.size {a b : World} (h : Ext a b) : a.heap.size ≤ b.heap.size := Below.size h
theorem Ext.cell {w w' : World} (h : Ext w w') {a : Addr} {v : Value} (hc : w.cell? a = some v) : w'.cell? a = some v :=
  (Below.cell h (World.block_lt_of_cell? w a hc)).trans hc
theorem Ext.block {w w' : World} (h : Ext w w') {k : Nat} {o : Obj} (hc : w.heap[k]? = some o) : w'.heap[k]? = some o :=
  (Below.block h k (Array.getElem?_eq_some_iff.1 hc).1).trans hc
def Ints (w : World) (v : Value) (l : List Int) : Prop :=
  ∃ ao cap, v = .slice ao l.length cap ∧ l.length ≤ maxLen ∧ (l.length ≤ cap ∧ cap ≤ maxLen ∧ (ao = none → cap = 0)) ∧ (0 < l.length → ∃ b off, ao = some ⟨b, off, none⟩ ∧ ∀ j, j < l.length → w.cell? ⟨b, off + j, none⟩ = some (.int .i64 (l[j]?.getD 0)))
theorem Ints.ext {w w' : World} {v : Value} {l : List Int} (h : Ints w v l) (e : Ext w w') : Ints w' v l := by
  obtain ⟨ao, cap, hv, hm, hcap, hc⟩ := h
  refine ⟨ao, cap, hv, hm, hcap, fun hp => ?_⟩
  obtain ⟨b, off, ha, hc⟩ := hc hp
  exact ⟨b, off, ha, fun j hj => e.cell (hc j hj)⟩
theorem Ints.nil (w : World) : Ints w (.slice none 0 0) [] := ⟨none, 0, rfl, by simp, ⟨by simp, by simp, fun _ => rfl⟩, fun h => by simp at h⟩
theorem Ext.ownsRow {w w' : World} {B e sz : Nat} {v : Value} {n : Nat} {xs : List Value} (h : Ext w w') (ho : w.ownsRow B e sz v n xs) : w'.ownsRow B e sz v n xs := by
  refine ⟨ho.1, ?_⟩
  rcases ho.2 with hn | ⟨g, cap, cur, rfl, hb, hgg, rest⟩
  · exact .inl hn
  · exact .inr ⟨g, cap, cur, rfl, hb, h.block hgg, rest⟩
def Fresh (B : Nat) (w : World) (v : Value) (l : List Int) : Prop := w.ownsRow B 3 1 v l.length (l.map (Value.int .i64))
theorem Fresh.ext {B : Nat} {w w' : World} {v : Value} {l : List Int} (h : Fresh B w v l) (e : Ext w w') : Fresh B w' v l := e.ownsRow h
theorem Fresh.more {B B' : Nat} {w : World} {v : Value} {l : List Int} (h : Fresh B w v l) (hb : B' ≤ B) : Fresh B' w v l := by
  refine ⟨h.1, ?_⟩
  rcases h.2 with hn | ⟨g, cap, cur, rfl, hbg, rest⟩
  · exact .inl hn
  · exact .inr ⟨g, cap, cur, rfl, by omega, rest⟩
theorem Fresh.ints {B : Nat} {w : World} {v : Value} {l : List Int} (h : Fresh B w v l) : Ints w v l := by
  rcases h.2 with ⟨rfl, hn⟩ | ⟨g, cap, cur, rfl, hb, hg, hnc, hcm, hcs, htake⟩
  · obtain rfl : l = [] := List.eq_nil_of_length_eq_zero hn
    exact Ints.nil w
  · refine ⟨some ⟨g, 0, none⟩, cap, rfl, by omega, ⟨by omega, by omega, fun h => by cases h⟩, fun _ => ⟨g, 0, rfl, fun j hj => ?_⟩⟩
    have := World.ownsRow.cellAt h j (by omega)
    rw [Nat.zero_add, this]
    simp [List.getElem?_eq_getElem hj]
theorem ext_of_grown {w w' : World} (h : w.grownBy w' none) : Ext w w' := ⟨h.os, h.tape, h.output, h.size, fun k hk => h.block k hk (by simp)⟩
theorem Ext.below {B : Nat} {w0 w w' : World} (h : Below B w0 w) (e : Ext w w') (hB : B ≤ w.heap.size) : Below B w0 w' := h.trans (Below.mono e hB)
theorem Fresh.touch {B : Nat} {w w' : World} {v u : Value} {l : List Int} (h : Fresh B w v l) (t : w.grownBy w' u.ownBlock) (ap : v.ownBlock = none ∨ v.ownBlock ≠ u.ownBlock) : Fresh B w' v l := World.ownsRow.kept h t ap
theorem Fresh.apart {B B' : Nat} {w w' : World} {v u : Value} {l r : List Int} (h : Fresh B w v l) (k : Fresh B' w' u r) (hle : w.heap.size ≤ B') : u.ownBlock = none ∨ u.ownBlock ≠ v.ownBlock := by
  cases hu : u.ownBlock with
  | none => exact .inl rfl
  | some g =>
    refine .inr fun e => ?_
    have h1 := (World.ownsRow.lt h g e.symm).2
    have h2 := (World.ownsRow.lt k g hu).1
    omega
theorem Fresh.apart' {B B' : Nat} {w w' : World} {v u : Value} {l r : List Int} (h : Fresh B w v l) (k : Fresh B' w' u r) (hle : w.heap.size ≤ B') : v.ownBlock = none ∨ v.ownBlock ≠ u.ownBlock := by
  cases hv : v.ownBlock with
  | none => exact .inl rfl
  | some g =>
    refine .inr fun e => ?_
    have h1 := (World.ownsRow.lt h g hv).2
    have h2 := (World.ownsRow.lt k g e.symm).1
    omega
theorem Ext.touch {w0 w w' : World} {v : Value} {l : List Int} (h : Ext w0 w) (hv : Fresh w0.heap.size w v l) (t : w.grownBy w' v.ownBlock) : Ext w0 w' :=
  Below.grown h t h.size (fun k hk => (World.ownsRow.lt hv k hk).1)
end Go.Proofs.YtcpmfcigciknlaaGreat

namespace Go.Proofs.YtcpmfcigciknlaaGreat
open Go.RowKit
set_option linter.unusedVariables false
structure BoxV (w : World) (b : Nat) (vs : List Value) : Prop where
  cell : ∀ j v, vs[j]? = some v → w.cell? ⟨b, j, none⟩ = some v
  free : ∀ j, j < vs.length → w.frozen? ⟨b, j, none⟩ = false
  lt : b < w.heap.size
theorem BoxV.ext {w w' : World} {b : Nat} {vs : List Value} (h : BoxV w b vs) (e : Ext w w') : BoxV w' b vs :=
  ⟨fun j v hj => e.cell (h.cell j v hj), fun j hj => by
    have hb := Below.block e b h.lt
    have := h.free j hj
    unfold World.frozen? at this ⊢
    rw [hb]
    exact this, Nat.lt_of_lt_of_le h.lt e.size⟩
theorem BoxV.set {w : World} {b : Nat} {vs : List Value} (h : BoxV w b vs) (i : Nat) (x : Value) (hi : i < vs.length) : BoxV (w.setCell ⟨b, i, none⟩ x) b (vs.set i x) := by
  refine ⟨fun j v hj => ?_, fun j hj => ?_, by simpa using h.lt⟩
  · by_cases e : j = i
    · subst e
      rw [List.getElem?_set_self hi] at hj
      have hc : ∃ y, w.cell? ⟨b, j, none⟩ = some y := ⟨_, h.cell j _ (List.getElem?_eq_getElem hi)⟩
      obtain ⟨y, hy⟩ := hc
      rw [← hj]
      exact World.cell?_setCell_same _ _ _ hy
    · rw [List.getElem?_set_ne (fun h => e h.symm)] at hj
      rw [World.cell?_setCell_other _ _ _ _ (fun q => e (by cases q; rfl))]
      exact h.cell j v hj
  · rw [World.frozen?_setCell]
    rw [List.length_set] at hj
    exact h.free j hj
theorem BoxV.other {w : World} {b : Nat} {vs : List Value} (h : BoxV w b vs) (a : Addr) (x : Value) (hne : a.block ≠ b) : BoxV (w.setCell a x) b vs :=
  ⟨fun j v hj => by rw [World.cell?_setCell_other _ _ _ _ (fun q => hne (by rw [q]))]; exact h.cell j v hj, fun j hj => by rw [World.frozen?_setCell]; exact h.free j hj, by simpa using h.lt⟩
theorem boxV_new (w : World) (vs : List Value) (T : TypeId) : BoxV (w.alloc (.cells vs.toArray T)) w.heap.size vs :=
  ⟨fun j v hj => by rw [World.cell?_alloc_new]; simpa using hj, fun j hj => by simp [go_sem], by simp⟩
end Go.Proofs.YtcpmfcigciknlaaGreat

namespace Go.Proofs.YtcpmfcigciknlaaGreat
open Go.RowKit
def BoolExt (b : Bool) (w : World) (e : Ending) (w' : World) : Prop := e = .returned (.bool b) ∧ Ext w w'
def IntExt (n : Int) (w : World) (e : Ending) (w' : World) : Prop := e = .returned (.int .i64 n) ∧ Ext w w'
theorem take_eq_succ {l r : List Int} {k : Nat} (h1 : k < l.length) (h2 : k < r.length) (h : l.take k = r.take k) (he : l[k]?.getD 0 = r[k]?.getD 0) : l.take (k + 1) = r.take (k + 1) := by
  simp [List.getElem?_eq_getElem h1, List.getElem?_eq_getElem h2] at he
  rw [List.take_add_one, List.take_add_one, h, List.getElem?_eq_getElem h1, List.getElem?_eq_getElem h2, he]
theorem Tryz.infoInt : (Tryz.prog.info? 3).map (fun i => (i.zero, i.size, i.bytes)) = some (some (.int .i64 0), 1, 8) := by kernel_rfl
def NewInts (l : List Int) (w : World) (e : Ending) (w' : World) : Prop := ∃ v, e = .returned v ∧ Fresh w.heap.size w' v l ∧ Ext w w'
def TwoInts (l : List Int) (b : Bool) (w : World) (e : Ending) (w' : World) : Prop := ∃ v, e = .returned (.tuple #[v, .bool b]) ∧ Fresh w.heap.size w' v l ∧ Ext w w'
theorem fresh_nil (B : Nat) (w : World) : Fresh B w (.slice none 0 0) [] := World.ownsRow_nil _ _ _ _
def inB (n lo hi : Int) : Bool := decide (lo ≤ n) && decide (n ≤ hi)
theorem inB_yes {n lo hi : Int} (h1 : lo ≤ n) (h2 : n ≤ hi) : inB n lo hi = true := by simp [inB, h1, h2]
theorem inB_no {n lo hi : Int} (h : ¬ (lo ≤ n ∧ n ≤ hi)) : inB n lo hi = false := by
  unfold inB; rw [Bool.and_eq_false_iff]; simp only [decide_eq_false_iff_not]; omega
def allIn (l : List Int) (lo hi : Int) : Bool := l.all fun x => inB x lo hi
theorem all_take_succ {l : List Int} {k : Nat} (h : k < l.length) (p : Int → Bool) (ht : (l.take k).all p = true) (hp : p (l[k]?.getD 0) = true) : (l.take (k + 1)).all p = true := by
  simp [List.getElem?_eq_getElem h] at hp
  rw [List.take_add_one, List.all_append, ht, List.getElem?_eq_getElem h]
  simpa using hp
theorem all_false_at {l : List Int} {k : Nat} (h : k < l.length) (p : Int → Bool) (hp : p (l[k]?.getD 0) = false) : l.all p = false := by
  simp [List.getElem?_eq_getElem h] at hp
  rw [List.all_eq_false]
  exact ⟨l[k], List.getElem_mem h, by rw [hp]; simp⟩
def hasI (l : List Int) (n : Int) : Bool := l.any fun x => x == n
theorem any_take_succ {l : List Int} {k : Nat} (h : k < l.length) (p : Int → Bool) (ht : (l.take k).any p = false) (hp : p (l[k]?.getD 0) = false) : (l.take (k + 1)).any p = false := by
  simp [List.getElem?_eq_getElem h] at hp
  rw [List.take_add_one, List.any_append, ht, List.getElem?_eq_getElem h]
  simpa using hp
theorem any_true_at {l : List Int} {k : Nat} (h : k < l.length) (p : Int → Bool) (hp : p (l[k]?.getD 0) = true) : l.any p = true := by
  simp [List.getElem?_eq_getElem h] at hp
  rw [List.any_eq_true]
  exact ⟨l[k], List.getElem_mem h, hp⟩
def wf64 (n : Int) : Prop := (Lit.int .i64 n).wf = true
theorem step2 {wb W W' : World} {a b : Addr} {u v : Value} (x : Ext W W') (h : Ext wb W ∧ W.cell? a = some u ∧ W.cell? b = some v) : Ext wb W' ∧ W'.cell? a = some u ∧ W'.cell? b = some v :=
  ⟨h.1.trans x, x.cell h.2.1, x.cell h.2.2⟩
end Go.Proofs.YtcpmfcigciknlaaGreat

namespace Go.Proofs.YtcpmfcigciknlaaGreat
open Go.RowKit
set_option linter.unusedVariables false
theorem grownBy_set (W : World) (b o : Nat) (v : Value) : W.grownBy (W.setCell ⟨b, o, none⟩ v) (some b) :=
  ⟨rfl, rfl, rfl, (Below.setCell (Below.refl 0 W) (Nat.zero_le _) v).size, fun k _ hne => Below.heap_setCell _ _ _ k (fun e => hne (by rw [e]))⟩
theorem Ext.alloc1 (w : World) (o : Obj) : Ext w (w.alloc o) := Ext.alloc (Ext.refl _) _
end Go.Proofs.YtcpmfcigciknlaaGreat

namespace Go.Proofs.YtcpmfcigciknlaaGreat
open Go.RowKit
set_option linter.unusedVariables false
def Stood (lo hi : Nat) (w w' : World) : Prop := w.heap.size ≤ w'.heap.size ∧ ∀ b, lo ≤ b → b < hi → w'.heap[b]? = w.heap[b]?
theorem Stood.refl (lo hi : Nat) (w : World) : Stood lo hi w w := ⟨Nat.le_refl _, fun _ _ _ => rfl⟩
theorem Stood.trans {lo hi : Nat} {a b c : World} (h : Stood lo hi a b) (k : Stood lo hi b c) : Stood lo hi a c :=
  ⟨Nat.le_trans h.1 k.1, fun x h1 h2 => (k.2 x h1 h2).trans (h.2 x h1 h2)⟩
theorem Stood.of_ext {lo hi : Nat} {w w' : World} (h : Ext w w') (hb : hi ≤ w.heap.size) : Stood lo hi w w' := ⟨h.size, fun b _ h2 => Below.block h b (by omega)⟩
theorem Stood.row {lo hi B e sz n : Nat} {w w' : World} {v : Value} {xs : List Value} (h : w.ownsRow B e sz v n xs) (k : Stood lo hi w w') (hb : ∀ b, v.ownBlock = some b → lo ≤ b ∧ b < hi) : w'.ownsRow B e sz v n xs := by
  refine ⟨h.1, ?_⟩
  rcases h.2 with hn | ⟨g, cap, cur, rfl, hbg, hgg, rest⟩
  · exact .inl hn
  · refine .inr ⟨g, cap, cur, rfl, hbg, ?_, rest⟩
    have := hb g rfl
    rw [k.2 g this.1 this.2]; exact hgg
def Und (hi : Nat) (v : Value) : Prop := ∀ b, v.ownBlock = some b → b < hi
theorem Und.more {hi hi' : Nat} {v : Value} (h : Und hi v) (k : hi ≤ hi') : Und hi' v := fun b hb => Nat.lt_of_lt_of_le (h b hb) k
theorem Fresh.und {B : Nat} {w : World} {v : Value} {l : List Int} (h : Fresh B w v l) : Und w.heap.size v := fun b hb => (World.ownsRow.lt h b hb).2
structure Ins (lo hi : Nat) (w w' : World) : Prop where
  os : w'.os = w.os
  tape : w'.tape = w.tape
  output : w'.output = w.output
  size : w.heap.size ≤ w'.heap.size
  block : ∀ b, b < w.heap.size → (b < lo ∨ hi ≤ b) → w'.heap[b]? = w.heap[b]?
theorem Ins.refl (lo hi : Nat) (w : World) : Ins lo hi w w := ⟨rfl, rfl, rfl, Nat.le_refl _, fun _ _ _ => rfl⟩
theorem Ins.trans {lo hi : Nat} {a b c : World} (h : Ins lo hi a b) (k : Ins lo hi b c) : Ins lo hi a c :=
  ⟨k.os.trans h.os, k.tape.trans h.tape, k.output.trans h.output, Nat.le_trans h.size k.size, fun x hx hy => (k.block x (Nat.lt_of_lt_of_le hx h.size) hy).trans (h.block x hx hy)⟩
theorem Ins.more {lo hi lo' hi' : Nat} {w w' : World} (h : Ins lo hi w w') (h1 : lo' ≤ lo) (h2 : hi ≤ hi') : Ins lo' hi' w w' :=
  ⟨h.os, h.tape, h.output, h.size, fun b hb hc => h.block b hb (by omega)⟩
theorem Ins.of_grown {lo hi : Nat} {w w' : World} {row : Option Nat} (h : w.grownBy w' row) (hr : ∀ g, row = some g → lo ≤ g ∧ g < hi) : Ins lo hi w w' :=
  ⟨h.os, h.tape, h.output, h.size, fun b hb hc => h.block b hb (fun e => by have := hr b e.symm; omega)⟩
theorem Ins.of_ext {lo hi : Nat} {w w' : World} (h : Ext w w') : Ins lo hi w w' :=
  ⟨h.os, h.tape, h.output, h.size, fun b hb _ => Below.block h b hb⟩
theorem Ins.stood {lo hi a b : Nat} {w w' : World} (h : Ins lo hi w w') (hb : b ≤ w.heap.size) (hab : b ≤ lo ∨ hi ≤ a) : Stood a b w w' :=
  ⟨h.size, fun x h1 h2 => h.block x (by omega) (by omega)⟩
theorem Ins.ext {lo hi : Nat} {w0 w w' : World} (h : Ins lo hi w w') (e : Ext w0 w) (hb : w0.heap.size ≤ lo) : Ext w0 w' :=
  ⟨h.os.trans e.os, h.tape.trans e.tape, h.output.trans e.output, Nat.le_trans e.size h.size, fun k hk => (h.block k (Nat.lt_of_lt_of_le hk e.size) (.inl (by omega))).trans (Below.block e k hk)⟩
theorem Ins.row {lo hi B e sz n : Nat} {w w' : World} {v : Value} {xs : List Value} (h : Ins lo hi w w') (f : w.ownsRow B e sz v n xs) (hv : ∀ b, v.ownBlock = some b → b < lo ∨ hi ≤ b) : w'.ownsRow B e sz v n xs := by
  refine ⟨f.1, ?_⟩
  rcases f.2 with hn | ⟨g, cap, cur, rfl, hbg, hgg, rest⟩
  · exact .inl hn
  · refine .inr ⟨g, cap, cur, rfl, hbg, ?_, rest⟩
    rw [h.block g (Array.getElem?_eq_some_iff.1 hgg).1 (hv g rfl)]; exact hgg
theorem Ins.cell {lo hi : Nat} {w w' : World} {a : Addr} {v : Value} (h : Ins lo hi w w') (hc : w.cell? a = some v) (ha : a.block < lo ∨ hi ≤ a.block) : w'.cell? a = some v :=
  (World.cell?_of_block (h.block a.block (World.block_lt_of_cell? w a hc) ha)).trans hc
theorem Fresh.ins_high {lo hi B : Nat} {w w' : World} {v : Value} {l : List Int} (h : Fresh B w v l) (k : Ins lo hi w w') (hb : hi ≤ B) : Fresh B w' v l :=
  k.row h (fun b e => .inr (Nat.le_trans hb (World.ownsRow.lt h b e).1))
theorem Ints.ins {lo hi : Nat} {w0 w w' : World} {v : Value} {l : List Int} (h0 : Ints w0 v l) (x : Ext w0 w) (k : Ins lo hi w w') (hb : w0.heap.size ≤ lo) : Ints w' v l := h0.ext (k.ext x hb)
end Go.Proofs.YtcpmfcigciknlaaGreat

namespace Go.Proofs.YtcpmfcigciknlaaGreat
open Go.RowKit
set_option linter.unusedVariables false
def putL (xs : List Value) : Nat → List Value → List Value
  | _, [] => xs
  | o, v :: r => putL (xs.set o v) (o + 1) r
theorem putL_len : ∀ (vs : List Value) (o : Nat) (xs : List Value), (putL xs o vs).length = xs.length
  | [], _, _ => rfl
  | v :: r, o, xs => by
    show (putL (xs.set o v) (o + 1) r).length = _
    rw [putL_len r]; simp
theorem putL_out : ∀ (vs : List Value) (o : Nat) (xs : List Value) (j : Nat), (j < o ∨ o + vs.length ≤ j) → (putL xs o vs)[j]? = xs[j]?
  | [], _, _, _, _ => rfl
  | v :: r, o, xs, j, h => by
    show (putL (xs.set o v) (o + 1) r)[j]? = _
    rw [putL_out r (o + 1) _ j (by simp at h; omega), List.getElem?_set, if_neg (by simp at h; omega)]
theorem putL_in : ∀ (vs : List Value) (o : Nat) (xs : List Value) (j : Nat), j < vs.length → o + vs.length ≤ xs.length → (putL xs o vs)[o + j]? = vs[j]?
  | v :: r, o, xs, 0, _, h => by
    show (putL (xs.set o v) (o + 1) r)[o + 0]? = _
    rw [List.length_cons] at h
    rw [putL_out r (o + 1) _ _ (by omega), Nat.add_zero, List.getElem?_set_self (by omega)]
    rfl
  | v :: r, o, xs, j + 1, hj, h => by
    show (putL (xs.set o v) (o + 1) r)[o + (j + 1)]? = _
    have := putL_in r (o + 1) (xs.set o v) j (by simpa using hj) (by simp at h ⊢; omega)
    rw [show o + (j + 1) = o + 1 + j by omega, this]
    simp
def sumN (g : List Nat) (k : Nat) : Nat := (g.take k).sum
theorem sumN_succ {g : List Nat} {k : Nat} (h : k < g.length) : sumN g (k + 1) = sumN g k + g[k] := by
  unfold sumN
  rw [List.take_add_one, List.getElem?_eq_getElem h, List.sum_append]
  simp only [Option.toList, List.sum_cons, List.sum_nil, Nat.add_zero]
theorem sumN_zero (g : List Nat) : sumN g 0 = 0 := by simp [sumN]
theorem sumN_all (g : List Nat) : sumN g g.length = g.sum := by simp [sumN]
theorem sumN_mono {g : List Nat} {k : Nat} (h : k ≤ g.length) : sumN g k ≤ g.sum := by
  induction hd : g.length - k generalizing k with
  | zero =>
    obtain rfl : k = g.length := by omega
    rw [sumN_all]; exact Nat.le_refl _
  | succ d ih =>
    have hk : k < g.length := by omega
    have := ih (k := k + 1) (by omega) (by omega)
    rw [sumN_succ hk] at this
    omega
def lessened (left : Int) (n : Nat) : Int := if left < n then -1 else left - n
theorem lessened_no {left : Int} {n : Nat} (h : left < n) : lessened left n = -1 := by unfold lessened; rw [if_pos h]
theorem lessened_yes {left : Int} {n : Nat} (h : (n : Int) ≤ left) : lessened left n = left - n := by unfold lessened; rw [if_neg (by omega)]
theorem len_le_sum : ∀ (l : List Nat) (x : Nat), x ∈ l → x ≤ l.sum
  | y :: l, x, h => by
    rcases List.mem_cons.1 h with rfl | h
    · simp
    · have := len_le_sum l x h
      simp; omega
theorem ins_set {lo hi b o : Nat} {w : World} {v : Value} (h1 : lo ≤ b) (h2 : b < hi) : Ins lo hi w (w.setCell ⟨b, o, none⟩ v) :=
  Ins.of_grown (grownBy_set w b o v) (fun g hg => by cases hg; exact ⟨h1, h2⟩)
theorem boxV_puts {b : Nat} : ∀ (vs : List Value) (o : Nat) (w : World) (xs : List Value), BoxV w b xs → o + vs.length ≤ xs.length → BoxV (w.setCells b o vs) b (putL xs o vs)
  | [], _, w, _, h, _ => h
  | v :: r, o, w, xs, h, hl => by
    rw [List.length_cons] at hl
    exact boxV_puts r (o + 1) _ _ (h.set o v (by omega)) (by rw [List.length_set]; omega)
theorem ins_puts {lo hi b : Nat} (h1 : lo ≤ b) (h2 : b < hi) : ∀ (vs : List Value) (o : Nat) (w : World), Ins lo hi w (w.setCells b o vs)
  | [], _, w => Ins.refl _ _ _
  | v :: r, o, w => (ins_set h1 h2).trans (ins_puts h1 h2 r (o + 1) _)
theorem Stood.within {lo hi a b : Nat} {w w' : World} (k : Stood lo hi w w') (h1 : lo ≤ a) (h2 : b ≤ hi) : Stood a b w w' := ⟨k.1, fun x x1 x2 => k.2 x (by omega) (by omega)⟩
theorem BoxV.kept {w w' : World} {b lo hi : Nat} {vs : List Value} (h : BoxV w b vs) (k : Stood lo hi w w') (h1 : lo ≤ b) (h2 : b < hi) : BoxV w' b vs := by
  have hb := k.2 b h1 h2
  refine ⟨fun j v hj => ?_, fun j hj => ?_, Nat.lt_of_lt_of_le h.lt k.1⟩
  · exact (World.cell?_of_block (a := ⟨b, j, none⟩) hb).trans (h.cell j v hj)
  · have := h.free j hj
    unfold World.frozen? at this ⊢
    rw [hb]
    exact this
end Go.Proofs.YtcpmfcigciknlaaGreat

namespace Go.Proofs.YtcpmfcigciknlaaGreat
open Go.RowKit
set_option maxHeartbeats 400000 in
theorem eqIntS_any (u v : Value) (l r : List Int) (w : World) (hu : Ints w u l) (hv : Ints w v r) :
    Calls Tryz.prog 11 #[u, v] w (BoolExt (decide (l = r)) w) := by
  obtain ⟨au, cu, rfl, hlu, _, hcu⟩ := hu
  obtain ⟨av, cv, rfl, hlv, _, hcv⟩ := hv
  unfold maxLen at hlu hlv
  by_cases hl : l.length = r.length
  · have e0 : ((l.length : Int) != (r.length : Int)) = false := by simp [hl]
    have HL := Lib.hid hl
    clear hl
    go_enter Tryz.func11, Tryz.ntmps11
    go_wp2
    go_loopw [5] (fun i wr => ∃ k : Nat, k ≤ l.length ∧ i = .int .i64 k ∧ l.take k = r.take k ∧ ∃ nq, wr = w.drewN nq) (fun i _ => l.length - (intOf i).toNat)
    case atStart => exact ⟨0, Nat.zero_le _, rfl, rfl, 0, rfl⟩
    case round =>
      obtain ⟨k, hk, rfl, ht, nq0, rfl⟩ := hrel
      have HT := Lib.hid ht
      clear ht
      by_cases hlt : k < l.length
      · have hltr : k < r.length := by have := HL.out; omega
        obtain ⟨bu, ou, rfl, du⟩ := hcu (by omega)
        obtain ⟨bv, ov, rfl, dv⟩ := hcv (by omega)
        have gu := du k hlt
        have gv := dv k hltr
        clear hcu hcv du dv
        go_wp2_with fail
        go_quiet (fail)
        by_cases he : l[k] = r[k]
        · have e1 : (l[k] != r[k]) = false := by simp [he]
          have HE := Lib.hid he
          clear he
          go_wp2
          go_roundw
          case rel => exact ⟨k + 1, by omega, by go_num, take_eq_succ hlt hltr HT.out (by simpa [hlt, hltr] using HE.out), _, rfl⟩
          case measure => simp [intOf]; omega
        · have e1 : (l[k] != r[k]) = true := by simp [he]
          have HE := Lib.hid he
          clear he
          go_wp2
          go_ret
          refine ⟨?_, by repeat (first | exact Ext.refl _ | apply Ext.drewN)⟩
          have hne : decide (l = r) = false := decide_eq_false (fun h => HE.out (by subst h; rfl))
          rw [hne]; rfl
      · have hk' : k = l.length := by omega
        subst hk'
        go_wp2
        go_ret
        refine ⟨?_, by repeat (first | exact Ext.refl _ | apply Ext.drewN)⟩
        have he : decide (l = r) = true := by
          have h := HT.out
          rw [List.take_length, HL.out, List.take_length] at h
          exact decide_eq_true h
        rw [he]; rfl
  · have e0 : ((l.length : Int) != (r.length : Int)) = true := by simp; omega
    have HL := Lib.hid hl
    clear hl
    go_enter Tryz.func11, Tryz.ntmps11
    go_wp2
    go_ret
    refine ⟨?_, Ext.refl w⟩
    have hne : decide (l = r) = false := decide_eq_false (fun h => HL.out (by rw [h]))
    rw [hne]; rfl
def half (l : List Int) (k : Nat) : List Int := l.take k ++ List.replicate (l.length - k) 0
theorem half_length (l : List Int) (k : Nat) (h : k ≤ l.length) : (half l k).length = l.length := by simp [half]; omega
theorem half_zero (l : List Int) : half l 0 = List.replicate l.length 0 := by simp [half]
theorem half_all (l : List Int) : half l l.length = l := by simp [half]
theorem half_succ (l : List Int) (k : Nat) (h : k < l.length) : (half l k).set k l[k] = half l (k + 1) := by
  unfold half
  rw [List.set_append_right _ _ (by simp; omega)]
  have e1 : k - (l.take k).length = 0 := by simp; omega
  rw [e1, List.take_add_one, List.getElem?_eq_getElem h]
  have e2 : l.length - k = (l.length - (k + 1)) + 1 := by omega
  rw [e2, List.replicate_succ, List.set_cons_zero]
  simp only [Option.toList, List.append_assoc, List.cons_append, List.nil_append]
set_option maxHeartbeats 400000 in
theorem toIntS_any (u : Value) (l : List Int) (w : World) (hu : Ints w u l) (hs : l.length ≤ 35184372088831) :
    Calls Tryz.prog 166 #[u] w (NewInts l w) := by
  obtain ⟨au, cu, rfl, hlu, _, hcu⟩ := hu
  unfold maxLen at hlu
  obtain ⟨i0, hi, hz0, hz1, hz2⟩ := info_parts Tryz.infoInt
  have HI2 := Lib.hid hz2
  go_enter Tryz.func166, Tryz.ntmps166
  go_wp2_with (at_make; refine wpList_make_full _ rfl _ _ 26 rfl w.heap.size 3 i0 (.int .i64 0) 1 Tryz.underlying26 hi hz0 hz1 _ _ _ _ l.length rfl rfl rfl rfl ?c1 ?c2 ?c3 ?_)
  case c1 => rw [hz2]; omega
  case c2 => unfold maxLen; omega
  case c3 => simp
  intro w1 ho1 hg1
  have hx1 : Ext w w1 := ext_of_grown hg1
  have ho : w1.ownsRow w.heap.size 3 1 (.slice (some ⟨w.heap.size, 0, none⟩) l.length l.length) l.length ((half l 0).map (Value.int .i64)) := by
    rw [toList_madeCells_one] at ho1
    rw [half_zero, List.map_replicate]; exact ho1
  clear ho1 hg1 hz0 hz1 hz2 hi HI2
  go_wp2
  go_loopw [4] (fun i wr => ∃ k : Nat, k ≤ l.length ∧ i = .int .i64 k ∧ wr.ownsRow w.heap.size 3 1 (.slice (some ⟨w.heap.size, 0, none⟩) l.length l.length) l.length ((half l k).map (Value.int .i64)) ∧ Ext w wr) (fun i _ => l.length - (intOf i).toNat)
  case atStart => exact ⟨0, Nat.zero_le _, rfl, ho, hx1⟩
  case round =>
    clear ho hx1
    obtain ⟨k, hk, rfl, ho, hx⟩ := hrel
    by_cases hlt : k < l.length
    · obtain ⟨bu, ou, rfl, du⟩ := hcu (by omega)
      have gu := hx.cell (du k hlt)
      have go := (ho.cellAt k (by omega)).trans (show _ = some (Value.int .i64 ((half l k)[k]?.getD 0)) by
        have hh := half_length l k hk
        simp [List.getElem?_eq_getElem (show k < (half l k).length by omega)])
      have gf := ho.frozenAt k
      have hne : w.heap.size ≠ bu := by
        have := World.block_lt_of_cell? w _ (du k hlt)
        simp only at this; omega
      clear hcu du
      go_wp2
      have hs1 := (ho.stored k (Value.int .i64 l[k])).1
      rw [← List.map_set, half_succ l k hlt] at hs1
      go_roundw
      case rel => exact ⟨k + 1, by omega, by go_num, hs1, Below.setCell hx (Nat.le_refl _) _⟩
      case measure => simp [intOf]; omega
    · obtain rfl : k = l.length := by omega
      go_wp2
      go_ret
      rw [half_all] at ho
      exact ⟨_, rfl, ho, hx⟩
def marks (k : Int) (n : Nat) : List Int := (List.range n).map fun (j : Nat) => k + (j : Int)
theorem marks_length (k : Int) (n : Nat) : (marks k n).length = n := by simp [marks]
theorem marks_get (k : Int) (n j : Nat) (h : j < n) : (marks k n)[j]? = some (k + (j : Int)) := by simp [marks, h]
def marked (k : Int) (l : List Int) (j : Nat) : List Int := marks k j ++ l.drop j
theorem marked_length (k : Int) (l : List Int) (j : Nat) (h : j ≤ l.length) : (marked k l j).length = l.length := by simp [marked, marks_length]; omega
theorem marked_succ (k : Int) (l : List Int) (j : Nat) (h : j < l.length) : (marked k l j).set j (k + (j : Int)) = marked k l (j + 1) := by
  unfold marked
  rw [List.set_append_right _ _ (by rw [marks_length]; omega), marks_length, Nat.sub_self]
  rw [List.drop_eq_getElem_cons h, List.set_cons_zero]
  simp [marks, List.range_succ]
theorem marked_all (k : Int) (l : List Int) : marked k l l.length = marks k l.length := by simp [marked]
theorem marked_zero (k : Int) (l : List Int) : marked k l 0 = l := by simp [marked, marks]
def Touched (v : Value) (w w' : World) : Prop := w.grownBy w' v.ownBlock
def Marks (B : Nat) (k : Int) (v : Value) (l : List Int) (w : World) (e : Ending) (w' : World) : Prop :=
  e = .returned (.int .i64 (k + l.length)) ∧ Fresh B w' v (marks k l.length) ∧ Touched v w w'
set_option maxHeartbeats 400000 in
theorem markIntS_any (B : Nat) (v : Value) (l : List Int) (k : Int) (w : World) (hv : Fresh B w v l) (h0 : 0 ≤ k) (h1 : k + l.length ≤ 4611686018427387904) :
    Calls Tryz.prog 15 #[v, .int .i64 k] w (Marks B k v l w) := by
  have hlen : l.length ≤ 4611686018427387904 := by omega
  rcases hv.2 with ⟨rfl, hn⟩ | ⟨g, cap, cur, rfl, hb, hg, hnc, hcm, hcs, htake⟩
  · obtain rfl : l = [] := List.eq_nil_of_length_eq_zero hn
    go_enter Tryz.func15, Tryz.ntmps15
    go_wp2
    refine wp_loop_rounds 1 ?_; rw [rounds_succ]
    go_wp2
    go_ret
    exact ⟨by simp, by simpa [marks] using hv, World.grownBy.refl _ _⟩
  · clear hg hnc hcm hcs htake cur hb
    go_enter Tryz.func15, Tryz.ntmps15
    go_wp2
    go_loopw [1, 5] (fun m i wr => ∃ j : Nat, j ≤ l.length ∧ i = .int .i64 j ∧ m = .int .i64 (k + j) ∧ wr.ownsRow B 3 1 (.slice (some ⟨g, 0, none⟩) l.length cap) l.length ((marked k l j).map (Value.int .i64)) ∧ w.grownBy wr (some g)) (fun _ i _ => l.length - (intOf i).toNat)
    case atStart => exact ⟨0, Nat.zero_le _, rfl, by simp, by rw [marked_zero]; exact hv, World.grownBy.refl _ _⟩
    case round =>
      clear hv
      obtain ⟨j, hj, rfl, rfl, ho, hx⟩ := hrel
      by_cases hlt : j < l.length
      · have hml := marked_length k l j hj
        have go := (ho.cellAt j (by omega)).trans (show _ = some (Value.int .i64 ((marked k l j)[j]?.getD 0)) by
          simp [List.getElem?_eq_getElem (show j < (marked k l j).length by omega)])
        have gf := ho.frozenAt j
        clear hml
        go_wp2
        have hs := ho.stored j (Value.int .i64 (k + j))
        have hs1 := hs.1
        rw [← List.map_set, marked_succ k l j hlt] at hs1
        have hs2 := hs.2
        go_roundw
        case rel => exact ⟨j + 1, by omega, by go_num, by go_num, hs1, hx.trans hs2⟩
        case measure => simp [intOf]; omega
      · obtain rfl : j = l.length := by omega
        go_wp2
        go_ret
        rw [marked_all] at ho
        refine ⟨rfl, ?_, hx⟩
        unfold Fresh
        rw [marks_length]
        exact ho
set_option maxHeartbeats 400000 in
theorem heldIntS_yes (v : Value) (n : Nat) (k : Int) (w : World) (hv : Ints w v (marks k n)) (h0 : 0 ≤ k) (h1 : k + n ≤ 4611686018427387904) :
    Calls Tryz.prog 17 #[v, .int .i64 k] w (IntExt (k + n) w) := by
  obtain ⟨av, cv, rfl, hlv, _, hcv⟩ := hv
  rw [marks_length] at hcv ⊢
  have hlen : n ≤ 4611686018427387904 := by omega
  clear hlv
  go_enter Tryz.func17, Tryz.ntmps17
  go_wp2
  go_loopw [1, 5] (fun m i wr => ∃ j : Nat, j ≤ n ∧ i = .int .i64 j ∧ m = .int .i64 (k + j) ∧ Ext w wr) (fun _ i _ => n - (intOf i).toNat)
  case atStart => exact ⟨0, Nat.zero_le _, rfl, by simp, Ext.refl _⟩
  case round =>
    obtain ⟨j, hj, rfl, rfl, hx⟩ := hrel
    by_cases hlt : j < n
    · obtain ⟨bv, ov, rfl, dv⟩ := hcv (by omega)
      have gv := hx.cell (dv j hlt)
      rw [marks_get k n j hlt] at gv
      clear hcv dv
      go_wp2
      go_roundw
      case rel => exact ⟨j + 1, by omega, by go_num, by go_num, hx⟩
      case measure => simp [intOf]; omega
    · obtain rfl : j = n := by omega
      go_wp2
      go_ret
      exact ⟨rfl, hx⟩
end Go.Proofs.YtcpmfcigciknlaaGreat

namespace Go.Proofs.YtcpmfcigciknlaaGreat
open Go.RowKit
set_option maxHeartbeats 400000 in
theorem szIntS_any (v : Value) (l : List Int) (left : Int) (w : World) (hv : Ints w v l) (h0 : 0 ≤ left) (h1 : left ≤ 1099511627776) :
    Calls Tryz.prog 162 #[v, .int .i64 left] w fun e w' => e = .returned (.int .i64 (lessened left l.length)) ∧ w = w' := by
  obtain ⟨av, cv, rfl, hlv, _, hcv⟩ := hv
  unfold maxLen at hlv
  by_cases hlt : left < l.length
  · rw [lessened_no hlt]
    go_enter Tryz.func162, Tryz.ntmps162
    go_wp2
    go_ret
    exact ⟨rfl, rfl⟩
  · rw [lessened_yes (by omega)]
    go_enter Tryz.func162, Tryz.ntmps162
    go_wp2
    go_ret
    exact ⟨rfl, rfl⟩
end Go.Proofs.YtcpmfcigciknlaaGreat

namespace Go.Proofs.YtcpmfcigciknlaaGreat
open Go.RowKit
set_option linter.unusedVariables false
def AttrAt (w : World) (b : Nat) (s : Int) (u : Value) : Prop :=
  w.cell? ⟨b, 0, none⟩ = some (.int .i64 s) ∧ w.cell? ⟨b, 1, none⟩ = some u
theorem AttrAt.ext {w w' : World} {b : Nat} {s : Int} {u : Value} (h : AttrAt w b s u) (e : Ext w w') : AttrAt w' b s u := ⟨e.cell h.1, e.cell h.2⟩
theorem attrAt_new (w : World) (T : TypeId) (s : Int) (u : Value) : AttrAt (w.alloc (.cells #[.int .i64 s, u] T)) w.heap.size s u := by
  refine ⟨?_, ?_⟩ <;> go_simp
def OpenAt (w : World) (b : Nat) (s : Int) (u : Value) : Prop := AttrAt w b s u ∧ w.frozen? ⟨b, 0, none⟩ = false ∧ w.frozen? ⟨b, 1, none⟩ = false
theorem Ext.frozen {w w' : World} (h : Ext w w') {a : Addr} {b : Bool} (hl : a.block < w.heap.size) (hc : w.frozen? a = b) : w'.frozen? a = b := (Below.frozen h hl).trans hc
theorem OpenAt.ext {w w' : World} {b : Nat} {s : Int} {u : Value} (h : OpenAt w b s u) (e : Ext w w') : OpenAt w' b s u := by
  have hl : b < w.heap.size := World.block_lt_of_cell? w _ h.1.1
  exact ⟨h.1.ext e, e.frozen hl h.2.1, e.frozen hl h.2.2⟩
theorem openAt_new (w : World) (T : TypeId) (s : Int) (u : Value) : OpenAt (w.alloc (.cells #[.int .i64 s, u] T)) w.heap.size s u := by
  refine ⟨attrAt_new w T s u, ?_, ?_⟩ <;> go_simp
theorem Ext.setc {w w' : World} {a : Addr} {v : Value} (h : Ext w w') (hb : w.heap.size ≤ a.block) : Ext w (w'.setCell a v) := Below.setCell h hb v
def NewAttr (s : Int) (l : List Int) (w : World) (e : Ending) (w' : World) : Prop := ∃ u, e = .returned (.agg #[.int .i64 s, u]) ∧ Fresh w.heap.size w' u l ∧ Ext w w'
set_option maxHeartbeats 1000000 in
theorem szAttr_any (s : Int) (u : Value) (l : List Int) (left : Int) (w : World) (hv : Ints w u l) (h0 : 0 ≤ left) (h1 : left ≤ 1099511627776) :
    Calls Tryz.prog 122 #[.agg #[.int .i64 s, u], .int .i64 left] w (IntExt (lessened left l.length) w) := by
  have hb := attrAt_new w 141 s u
  by_cases hlt : left < l.length
  · have L := Lib.hid (lessened_no hlt)
    clear hlt
    go_enter Tryz.func122, Tryz.ntmps122
    go_wp2_with fail
    refine (szIntS_any _ _ _ _ (hv.ext (Ext.alloc (Ext.refl _) _)) h0 h1).mono ?_
    rintro e w1 ⟨rfl, rfl⟩
    rw [L.out]
    go_wp2
    go_ret
    exact ⟨by rw [L.out]; rfl, Ext.alloc (Ext.refl _) _⟩
  · have L := Lib.hid (lessened_yes (left := left) (n := l.length) (by omega))
    obtain ⟨r, hr⟩ : ∃ r, r = left - (l.length : Int) := ⟨_, rfl⟩
    have hr0 : 0 ≤ r := by omega
    have LR : Hid (lessened left l.length = r) := Lib.hid (by rw [L.out, hr])
    clear hlt L hr
    rw [LR.out]
    go_enter Tryz.func122, Tryz.ntmps122
    go_wp2_with fail
    refine (szIntS_any _ _ _ _ (hv.ext (Ext.alloc (Ext.refl _) _)) h0 h1).mono ?_
    rintro e w1 ⟨rfl, rfl⟩
    rw [LR.out]
    go_wp2
    go_ret
    exact ⟨rfl, Ext.alloc (Ext.refl _) _⟩
theorem Ext.alloc3 (w : World) (a b c : Obj) : Ext w (((w.alloc a).alloc b).alloc c) := (((Ext.refl w).alloc a).alloc b).alloc c
theorem Fresh.set {B : Nat} {w : World} {v : Value} {l : List Int} (h : Fresh B w v l) (b o : Nat) (x : Value) (hb : b < B) : Fresh B (w.setCell ⟨b, o, none⟩ x) v l := by
  refine World.ownsRow.kept h (grownBy_set w b o x) ?_
  cases hv : v.ownBlock with
  | none => exact .inl rfl
  | some g =>
    refine .inr fun e => ?_
    have := (World.ownsRow.lt h g hv).1
    simp at e; omega
theorem Fresh.form {B : Nat} {w : World} {v : Value} {l : List Int} (h : Fresh B w v l) : ∃ ao cap, v = .slice ao l.length cap := by
  obtain ⟨ao, cap, hv, _⟩ := h.ints
  exact ⟨ao, cap, hv⟩
theorem open_three (w : World) (a : Obj) (T T' : TypeId) (s s' : Int) (u u' : Value) :
    OpenAt (((w.alloc a).alloc (.cells #[.int .i64 s, u] T)).alloc (.cells #[.int .i64 s', u'] T')) (w.heap.size + 1) s u ∧ OpenAt (((w.alloc a).alloc (.cells #[.int .i64 s, u] T)).alloc (.cells #[.int .i64 s', u'] T')) (w.heap.size + 1 + 1) s' u' := by
  refine ⟨⟨⟨?_, ?_⟩, ?_, ?_⟩, ⟨⟨?_, ?_⟩, ?_, ?_⟩⟩ <;> go_simp
theorem size3 (w : World) (a b c : Obj) : (((w.alloc a).alloc b).alloc c).heap.size = w.heap.size + 3 := by simp
set_option maxHeartbeats 1000000 in
theorem toAttr_any (s : Int) (u : Value) (l : List Int) (w : World) (hv : Ints w u l) (hs : l.length ≤ 35184372088831) :
    Calls Tryz.prog 126 #[.agg #[.int .i64 s, u]] w (NewAttr s l w) := by
  have HS := Lib.hid hs
  have HO := Lib.hid (open_three w (.cells #[.int .i64 s, u] 141) 81 81 0 s (.slice none 0 0) (.slice none 0 0))
  clear hs
  go_enter Tryz.func126, Tryz.ntmps126
  go_wp2_with fail
  refine (toIntS_any _ _ _ (hv.ext (Ext.alloc3 _ _ _ _)) HS.out).mono ?_
  rintro e w1 ⟨v, rfl, f1, x1⟩
  obtain ⟨⟨c0, c1⟩, z0, z1⟩ := HO.out.1.ext x1
  obtain ⟨⟨d0, d1⟩, y0, y1⟩ := HO.out.2.ext x1
  have hx : Ext w w1 := (Ext.alloc3 _ _ _ _).trans x1
  rw [size3] at f1
  obtain ⟨av, cv, rfl⟩ := f1.form
  have F := Lib.hid f1
  clear f1 x1 hv
  go_wp2
  refine bodyPost_ret (v := .agg #[.int .i64 s, .slice av l.length cv]) (by simp [results, Tryz.results126, go_sem, c0, c1]) rfl ⟨_, rfl, ?_, ?_⟩
  · exact (((F.out.set _ _ _ (by omega)).set _ _ _ (by omega)).set _ _ _ (by omega)).more (by omega)
  · exact ((hx.setc (by dsimp only; omega)).setc (by dsimp only; omega)).setc (by dsimp only; omega)
set_option maxHeartbeats 1000000 in
theorem eqAttr_same (s : Int) (u v : Value) (l : List Int) (w : World) (hu : Ints w u l) (hv : Ints w v l) :
    Calls Tryz.prog 132 #[.agg #[.int .i64 s, u], .agg #[.int .i64 s, v]] w (BoolExt true w) := by
  have hx : Ext w ((w.alloc (.cells #[.int .i64 s, u] 81)).alloc (.cells #[.int .i64 s, v] 81)) := ((Ext.refl w).alloc _).alloc _
  have e0 : ((s : Int) != s) = false := by simp
  go_enter Tryz.func132, Tryz.ntmps132
  go_wp2_with fail
  refine (eqIntS_any _ _ _ _ _ (hu.ext hx) (hv.ext hx)).mono ?_
  rintro e w1 ⟨rfl, x1⟩
  rw [decide_eq_true rfl]
  have hy := hx.trans x1
  clear hx x1
  go_wp2
  go_ret
  exact ⟨rfl, hy⟩
theorem keep2 {wb W W' : World} {a b : Addr} {u v : Value} (x : Ext W W') (h : Ext wb W ∧ W.cell? a = some u ∧ W.cell? b = some v) : Ext wb W' ∧ W'.cell? a = some u ∧ W'.cell? b = some v :=
  ⟨h.1.trans x, x.cell h.2.1, x.cell h.2.2⟩
theorem keep4 {wb W W' : World} {a b c d : Addr} {u v r s : Value} (x : Ext W W') (h : Ext wb W ∧ W.cell? a = some u ∧ W.cell? b = some v ∧ W.cell? c = some r ∧ W.cell? d = some s) : Ext wb W' ∧ W'.cell? a = some u ∧ W'.cell? b = some v ∧ W'.cell? c = some r ∧ W'.cell? d = some s :=
  ⟨h.1.trans x, x.cell h.2.1, x.cell h.2.2.1, x.cell h.2.2.2.1, x.cell h.2.2.2.2⟩
end Go.Proofs.YtcpmfcigciknlaaGreat

namespace Go.Proofs.YtcpmfcigciknlaaGreat
open Go.RowKit
def CmdAt (w : World) (b : Nat) (k i f t a : Int) : Prop :=
  w.cell? ⟨b, 0, none⟩ = some (.int .i64 k) ∧ w.cell? ⟨b, 1, none⟩ = some (.int .i64 i) ∧ w.cell? ⟨b, 2, none⟩ = some (.int .i64 f) ∧ w.cell? ⟨b, 3, none⟩ = some (.int .i64 t) ∧ w.cell? ⟨b, 4, none⟩ = some (.int .i64 a)
theorem CmdAt.ext {w w' : World} {b : Nat} {k i f t a : Int} (h : CmdAt w b k i f t a) (e : Ext w w') : CmdAt w' b k i f t a :=
  ⟨e.cell h.1, e.cell h.2.1, e.cell h.2.2.1, e.cell h.2.2.2.1, e.cell h.2.2.2.2⟩
def CmdExt (k i f t a : Int) (w : World) (e : Ending) (w' : World) : Prop := e = .returned (.agg #[.int .i64 k, .int .i64 i, .int .i64 f, .int .i64 t, .int .i64 a]) ∧ Ext w w'
end Go.Proofs.YtcpmfcigciknlaaGreat

namespace Go.Proofs.YtcpmfcigciknlaaGreat
open Go.RowKit
def Intss (w : World) (v : Value) (L : List (List Int)) : Prop :=
  ∃ ao cap, v = .slice ao L.length cap ∧ L.length ≤ maxLen ∧ (L.length ≤ cap ∧ cap ≤ maxLen ∧ (ao = none → cap = 0)) ∧
    (0 < L.length → ∃ b off, ao = some ⟨b, off, none⟩ ∧ ∀ j, j < L.length → ∃ u, w.cell? ⟨b, off + j, none⟩ = some u ∧ Ints w u (L[j]?.getD []))
theorem Intss.ext {w w' : World} {v : Value} {L : List (List Int)} (h : Intss w v L) (e : Ext w w') : Intss w' v L := by
  obtain ⟨ao, cap, hv, hm, hcap, hc⟩ := h
  refine ⟨ao, cap, hv, hm, hcap, fun hp => ?_⟩
  obtain ⟨b, off, ha, hc⟩ := hc hp
  refine ⟨b, off, ha, fun j hj => ?_⟩
  obtain ⟨u, hu, hi⟩ := hc j hj
  exact ⟨u, e.cell hu, hi.ext e⟩
theorem Intss.nil (w : World) : Intss w (.slice none 0 0) [] := ⟨none, 0, rfl, by simp, ⟨by simp, by simp, fun _ => rfl⟩, fun h => by simp at h⟩
structure Rows_ (B : Nat) (w : World) (vs : List Value) (L : List (List Int)) : Prop where
  len : vs.length = L.length
  row : ∀ (j : Nat) (u : Value) (l : List Int), vs[j]? = some u → L[j]? = some l → Fresh B w u l
  apart : ∀ (i j : Nat) (u z : Value), i ≠ j → vs[i]? = some u → vs[j]? = some z → u.ownBlock = none ∨ u.ownBlock ≠ z.ownBlock
theorem Rows_.nil (B : Nat) (w : World) : Rows_ B w [] [] := ⟨rfl, fun _ _ _ h => by simp at h, fun _ _ _ _ _ h => by simp at h⟩
theorem Rows_.ext {B : Nat} {w w' : World} {vs : List Value} {L : List (List Int)} (h : Rows_ B w vs L) (e : Ext w w') : Rows_ B w' vs L :=
  ⟨h.len, fun j u l hu hl => (h.row j u l hu hl).ext e, h.apart⟩
theorem Rows_.more {B B' : Nat} {w : World} {vs : List Value} {L : List (List Int)} (h : Rows_ B w vs L) (hb : B' ≤ B) : Rows_ B' w vs L :=
  ⟨h.len, fun j u l hu hl => (h.row j u l hu hl).more hb, h.apart⟩
theorem Rows_.touch {B : Nat} {w w' : World} {vs : List Value} {L : List (List Int)} {blk : Option Nat} (h : Rows_ B w vs L) (t : w.grownBy w' blk) (ap : ∀ (j : Nat) (u : Value), vs[j]? = some u → u.ownBlock = none ∨ u.ownBlock ≠ blk) : Rows_ B w' vs L :=
  ⟨h.len, fun j u l hu hl => World.ownsRow.kept (h.row j u l hu hl) t (ap j u hu), h.apart⟩
theorem Rows_.snoc {B : Nat} {w w' : World} {vs : List Value} {L : List (List Int)} {u : Value} {l : List Int} (h : Rows_ B w vs L) (e : Ext w w') (hu : Fresh w.heap.size w' u l) (hB : B ≤ w.heap.size) : Rows_ B w' (vs ++ [u]) (L ++ [l]) := by
  have h' := h.ext e
  refine ⟨by simp [h.len], fun j z r hz hr => ?_, fun i j z y hij hz hy => ?_⟩
  · by_cases hj : j < vs.length
    · rw [List.getElem?_append_left hj] at hz
      rw [List.getElem?_append_left (by rw [← h.len]; exact hj)] at hr
      exact h'.row j z r hz hr
    · rw [List.getElem?_append_right (by omega)] at hz
      rw [List.getElem?_append_right (by rw [← h.len]; omega)] at hr
      have hj' : j - vs.length = 0 := by
        have := (List.getElem?_eq_some_iff.1 hz).1
        simp at this; omega
      rw [hj'] at hz
      rw [← h.len, hj'] at hr
      simp at hz hr
      subst hz hr
      exact hu.more hB
  · by_cases hi : i < vs.length
    · rw [List.getElem?_append_left hi] at hz
      have hfz : Fresh B w z _ := h.row i z _ hz (List.getElem?_eq_getElem (by rw [← h.len]; exact hi))
      by_cases hj : j < vs.length
      · rw [List.getElem?_append_left hj] at hy
        exact h.apart i j z y hij hz hy
      · rw [List.getElem?_append_right (by omega)] at hy
        have hy' : y = u := by
          have := (List.getElem?_eq_some_iff.1 hy).1
          have hj' : j - vs.length = 0 := by simp at this; omega
          rw [hj'] at hy; simpa using hy.symm
        subst hy'
        exact Fresh.apart' hfz hu (Nat.le_refl _)
    · rw [List.getElem?_append_right (by omega)] at hz
      have hi' : i - vs.length = 0 := by
        have := (List.getElem?_eq_some_iff.1 hz).1
        simp at this; omega
      have hz' : z = u := by rw [hi'] at hz; simpa using hz.symm
      subst hz'
      by_cases hj : j < vs.length
      · rw [List.getElem?_append_left hj] at hy
        have hfy : Fresh B w y _ := h.row j y _ hy (List.getElem?_eq_getElem (by rw [← h.len]; exact hj))
        exact Fresh.apart hfy hu (Nat.le_refl _)
      · rw [List.getElem?_append_right (by omega)] at hy
        have := (List.getElem?_eq_some_iff.1 hy).1
        simp at this
        omega
theorem Rows_.low {B g : Nat} {w : World} {vs : List Value} {L : List (List Int)} (h : Rows_ B w vs L) (hg : g < B) : ∀ (j : Nat) (u : Value), vs[j]? = some u → u.ownBlock = none ∨ u.ownBlock ≠ some g := by
  intro j u hu
  have hj : j < vs.length := (List.getElem?_eq_some_iff.1 hu).1
  have hf := h.row j u _ hu (List.getElem?_eq_getElem (by rw [← h.len]; exact hj))
  refine .inr fun e => ?_
  have := (World.ownsRow.lt hf g e).1
  omega
def FreshSS (B : Nat) (w : World) (v : Value) (L : List (List Int)) : Prop :=
  ∃ vs, w.ownsRow B 26 1 v L.length vs ∧ Rows_ B w vs L ∧ ∀ (j : Nat) (u : Value), vs[j]? = some u → u.ownBlock = none ∨ u.ownBlock ≠ v.ownBlock
theorem FreshSS.ext {B : Nat} {w w' : World} {v : Value} {L : List (List Int)} (h : FreshSS B w v L) (e : Ext w w') : FreshSS B w' v L := by
  obtain ⟨vs, h1, h2, h3⟩ := h
  exact ⟨vs, e.ownsRow h1, h2.ext e, h3⟩
theorem ownsRow_more {B B' e sz n : Nat} {w : World} {v : Value} {xs : List Value} (h : w.ownsRow B e sz v n xs) (hb : B' ≤ B) : w.ownsRow B' e sz v n xs := by
  refine ⟨h.1, ?_⟩
  rcases h.2 with hn | ⟨g, cap, cur, rfl, hbg, rest⟩
  · exact .inl hn
  · exact .inr ⟨g, cap, cur, rfl, by omega, rest⟩
theorem FreshSS.more {B B' : Nat} {w : World} {v : Value} {L : List (List Int)} (h : FreshSS B w v L) (hb : B' ≤ B) : FreshSS B' w v L := by
  obtain ⟨vs, h1, h2, h3⟩ := h
  exact ⟨vs, ownsRow_more h1 hb, h2.more hb, h3⟩
theorem FreshSS.nil (B : Nat) (w : World) : FreshSS B w (.slice none 0 0) [] := ⟨[], World.ownsRow_nil _ _ _ _, Rows_.nil _ _, fun _ _ h => by simp at h⟩
theorem FreshSS.intss {B : Nat} {w : World} {v : Value} {L : List (List Int)} (h : FreshSS B w v L) : Intss w v L := by
  obtain ⟨vs, h1, h2, h3⟩ := h
  have hlen := h2.len
  rcases h1.2 with ⟨rfl, hn⟩ | ⟨g, cap, cur, rfl, hb, hg, hnc, hcm, hcs, htake⟩
  · obtain rfl : L = [] := List.eq_nil_of_length_eq_zero hn
    exact Intss.nil w
  · refine ⟨some ⟨g, 0, none⟩, cap, rfl, by omega, ⟨by omega, by omega, fun h => by cases h⟩, fun _ => ⟨g, 0, rfl, fun j hj => ?_⟩⟩
    have hc := World.ownsRow.cellAt h1 j (by omega)
    have hu : vs[j]? = some (vs[j]'(by omega)) := List.getElem?_eq_getElem (by omega)
    refine ⟨vs[j]'(by omega), by rw [Nat.zero_add, hc, hu], ?_⟩
    have := h2.row j _ _ hu (List.getElem?_eq_getElem hj)
    rw [List.getElem?_eq_getElem hj]
    exact this.ints
theorem Tryz.infoInts : (Tryz.prog.info? 26).map (fun i => (i.zero, i.size, i.bytes)) = some (some (.slice none 0 0), 1, 24) := by kernel_rfl
def NewIntss (L : List (List Int)) (w : World) (e : Ending) (w' : World) : Prop := ∃ v, e = .returned v ∧ FreshSS w.heap.size w' v L ∧ Ext w w'
def TwoIntss (L : List (List Int)) (b : Bool) (w : World) (e : Ending) (w' : World) : Prop := ∃ v, e = .returned (.tuple #[v, .bool b]) ∧ FreshSS w.heap.size w' v L ∧ Ext w w'
def sumTo (L : List (List Int)) (k : Nat) : Nat := ((L.take k).map List.length).sum
theorem sumTo_succ {L : List (List Int)} {k : Nat} (h : k < L.length) : sumTo L (k + 1) = sumTo L k + (L[k]).length := by
  unfold sumTo
  rw [List.take_add_one, List.getElem?_eq_getElem h, List.map_append, List.sum_append]
  simp only [Option.toList, List.map_cons, List.map_nil, List.sum_cons, List.sum_nil, Nat.add_zero]
theorem sumTo_all (L : List (List Int)) : sumTo L L.length = (L.map List.length).sum := by simp [sumTo]
theorem sumTo_mono {L : List (List Int)} {k : Nat} (h : k ≤ L.length) : sumTo L k ≤ (L.map List.length).sum := by
  induction hd : L.length - k generalizing k with
  | zero =>
    obtain rfl : k = L.length := by omega
    rw [sumTo_all]; exact Nat.le_refl _
  | succ d ih =>
    have hk : k < L.length := by omega
    have := ih (k := k + 1) (by omega) (by omega)
    rw [sumTo_succ hk] at this
    omega
end Go.Proofs.YtcpmfcigciknlaaGreat

namespace Go.Proofs.YtcpmfcigciknlaaGreat
open Go.RowKit
set_option linter.unusedVariables false
structure RowD where
  b : Int
  v : Int
  st : Int
  k : Int
  i : Int
  f : Int
  t : Int
  a : Int
  s : Int
  l : List Int
def RowIn (w : World) (b o : Nat) (r : RowD) (u : Value) : Prop :=
  w.cell? ⟨b, o, none⟩ = some (.int .i64 r.b) ∧ w.cell? ⟨b, o + 1, none⟩ = some (.int .i64 r.v) ∧ w.cell? ⟨b, o + 2, none⟩ = some (.int .i64 r.st) ∧ w.cell? ⟨b, o + 3, none⟩ = some (.int .i64 r.k) ∧ w.cell? ⟨b, o + 4, none⟩ = some (.int .i64 r.i) ∧ w.cell? ⟨b, o + 5, none⟩ = some (.int .i64 r.f) ∧ w.cell? ⟨b, o + 6, none⟩ = some (.int .i64 r.t) ∧ w.cell? ⟨b, o + 7, none⟩ = some (.int .i64 r.a) ∧ w.cell? ⟨b, o + 8, none⟩ = some (.int .i64 r.s) ∧ w.cell? ⟨b, o + 9, none⟩ = some u
theorem RowIn.ext {w w' : World} {b o : Nat} {r : RowD} {u : Value} (h : RowIn w b o r u) (e : Ext w w') : RowIn w' b o r u := by
  obtain ⟨h0, h1, h2, h3, h4, h5, h6, h7, h8, h9⟩ := h
  exact ⟨e.cell h0, e.cell h1, e.cell h2, e.cell h3, e.cell h4, e.cell h5, e.cell h6, e.cell h7, e.cell h8, e.cell h9⟩
def RowAt (w : World) (b : Nat) (r : RowD) (u : Value) : Prop :=
  w.cell? ⟨b, 0, none⟩ = some (.int .i64 r.b) ∧ w.cell? ⟨b, 1, none⟩ = some (.int .i64 r.v) ∧ w.cell? ⟨b, 2, none⟩ = some (.int .i64 r.st) ∧ w.cell? ⟨b, 3, none⟩ = some (.int .i64 r.k) ∧ w.cell? ⟨b, 4, none⟩ = some (.int .i64 r.i) ∧ w.cell? ⟨b, 5, none⟩ = some (.int .i64 r.f) ∧ w.cell? ⟨b, 6, none⟩ = some (.int .i64 r.t) ∧ w.cell? ⟨b, 7, none⟩ = some (.int .i64 r.a) ∧ w.cell? ⟨b, 8, none⟩ = some (.int .i64 r.s) ∧ w.cell? ⟨b, 9, none⟩ = some u
theorem RowAt.ext {w w' : World} {b : Nat} {r : RowD} {u : Value} (h : RowAt w b r u) (e : Ext w w') : RowAt w' b r u := by
  obtain ⟨h0, h1, h2, h3, h4, h5, h6, h7, h8, h9⟩ := h
  exact ⟨e.cell h0, e.cell h1, e.cell h2, e.cell h3, e.cell h4, e.cell h5, e.cell h6, e.cell h7, e.cell h8, e.cell h9⟩
theorem rowAt_new (w : World) (T : TypeId) (r : RowD) (u : Value) : RowAt (w.alloc (.cells #[.int .i64 r.b, .int .i64 r.v, .int .i64 r.st, .int .i64 r.k, .int .i64 r.i, .int .i64 r.f, .int .i64 r.t, .int .i64 r.a, .int .i64 r.s, u] T)) w.heap.size r u := by
  refine ⟨?_, ?_, ?_, ?_, ?_, ?_, ?_, ?_, ?_, ?_⟩ <;> go_simp
def Rowz (w : World) (v : Value) (R : List RowD) : Prop :=
  ∃ ao cap, v = .slice ao R.length cap ∧ R.length ≤ maxLen ∧ (R.length ≤ cap ∧ cap ≤ maxLen ∧ (ao = none → cap = 0)) ∧
    (0 < R.length → ∃ b off, ao = some ⟨b, off, none⟩ ∧ ∀ j (h : j < R.length), ∃ u, RowIn w b (off + j * 10) R[j] u ∧ Ints w u R[j].l)
theorem Rowz.ext {w w' : World} {v : Value} {R : List RowD} (h : Rowz w v R) (e : Ext w w') : Rowz w' v R := by
  obtain ⟨ao, cap, hv, hm, hcap, hc⟩ := h
  refine ⟨ao, cap, hv, hm, hcap, fun hp => ?_⟩
  obtain ⟨b, off, ha, hc⟩ := hc hp
  refine ⟨b, off, ha, fun j hj => ?_⟩
  obtain ⟨u, hu, hi⟩ := hc j hj
  exact ⟨u, hu.ext e, hi.ext e⟩
theorem Rowz.nil (w : World) : Rowz w (.slice none 0 0) [] := ⟨none, 0, rfl, by simp, ⟨by simp, by simp, fun _ => rfl⟩, fun h => by simp at h⟩
def Rowzz (w : World) (v : Value) (T : List (List RowD)) : Prop :=
  ∃ ao cap, v = .slice ao T.length cap ∧ T.length ≤ maxLen ∧ (T.length ≤ cap ∧ cap ≤ maxLen ∧ (ao = none → cap = 0)) ∧
    (0 < T.length → ∃ b off, ao = some ⟨b, off, none⟩ ∧ ∀ j (h : j < T.length), ∃ u, w.cell? ⟨b, off + j, none⟩ = some u ∧ Rowz w u T[j])
theorem Rowzz.ext {w w' : World} {v : Value} {T : List (List RowD)} (h : Rowzz w v T) (e : Ext w w') : Rowzz w' v T := by
  obtain ⟨ao, cap, hv, hm, hcap, hc⟩ := h
  refine ⟨ao, cap, hv, hm, hcap, fun hp => ?_⟩
  obtain ⟨b, off, ha, hc⟩ := hc hp
  refine ⟨b, off, ha, fun j hj => ?_⟩
  obtain ⟨u, hu, hi⟩ := hc j hj
  exact ⟨u, e.cell hu, hi.ext e⟩
theorem Rowzz.nil (w : World) : Rowzz w (.slice none 0 0) [] := ⟨none, 0, rfl, by simp, ⟨by simp, by simp, fun _ => rfl⟩, fun h => by simp at h⟩
def bulkR (R : List RowD) : Nat := R.length + (R.map fun r => r.l.length).sum
def bulkT (T : List (List RowD)) : Nat := T.length + (T.map bulkR).sum
theorem bulkR_row {R : List RowD} {j : Nat} (h : j < R.length) : R[j].l.length ≤ bulkR R := by
  unfold bulkR
  have := len_le_sum (R.map fun r => r.l.length) _ (List.mem_map.2 ⟨R[j], List.getElem_mem h, rfl⟩)
  omega
theorem bulkT_row {T : List (List RowD)} {j : Nat} (h : j < T.length) : bulkR T[j] ≤ bulkT T := by
  unfold bulkT
  have := len_le_sum (T.map bulkR) _ (List.mem_map.2 ⟨T[j], List.getElem_mem h, rfl⟩)
  omega
end Go.Proofs.YtcpmfcigciknlaaGreat
