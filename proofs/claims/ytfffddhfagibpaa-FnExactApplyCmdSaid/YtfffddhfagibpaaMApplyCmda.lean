/- Texts of this proof, part a: words, plain facts, contracts. -/
import Derived.WalkKit
import Derived.WalkSmall
import Derived.Lib.Hide
import Derived.Deep.QuietTactic
import Derived.BigQuiet
import Derived.Maps.AppendAt
import Derived.Test.YtfffddhfagibpaaChecked
import Derived.OpenShut
import Derived.Deep.Matrix
import Derived.Lib.SmallJoins
import Derived.Laws.AppendOwnNone
import Derived.Laws.OwnMore
import Derived.BigRegion

namespace Go.Proofs.Ytfffddhfagibpaa
open Go.RowKit

/-- w' is w with new blocks: whatever lay in w lies there unchanged. -/
def Ext (w w' : World) : Prop := Below w.heap.size w w'
theorem Ext.refl (w : World) : Ext w w := Below.refl _ _
theorem Ext.trans {a b c : World} (h : Ext a b) (k : Ext b c) : Ext a c := Below.trans h (k.mono h.size)
theorem Ext.drew {a b : World} (h : Ext a b) : Ext a b.drew := Below.drew h
theorem Ext.drewN {a b : World} (h : Ext a b) (n : Nat) : Ext a (b.drewN n) := by
  exact below_drewN h n
theorem Ext.alloc {a b : World} (h : Ext a b) (o : Obj) : Ext a (b.alloc o) := Below.alloc h h.size o
theorem Ext.size {a b : World} (h : Ext a b) : a.heap.size ≤ b.heap.size := Below.size h
theorem Ext.cell {w w' : World} (h : Ext w w') {a : Addr} {v : Value} (hc : w.cell? a = some v) : w'.cell? a = some v :=
  (Below.cell h (World.block_lt_of_cell? w a hc)).trans hc
theorem Ext.block {w w' : World} (h : Ext w w') {k : Nat} {o : Obj} (hc : w.heap[k]? = some o) : w'.heap[k]? = some o :=
  (Below.block h k (Array.getElem?_eq_some_iff.1 hc).1).trans hc

/-- v is a slice that reads as the integers l in w. -/
def Ints (w : World) (v : Value) (l : List Int) : Prop :=
  ∃ ao cap, v = .slice ao l.length cap ∧ l.length ≤ maxLen ∧ (l.length ≤ cap ∧ cap ≤ maxLen ∧ (ao = none → cap = 0)) ∧ (0 < l.length → ∃ b off, ao = some ⟨b, off, none⟩ ∧ ∀ j, j < l.length → w.cell? ⟨b, off + j, none⟩ = some (.int .i64 (l[j]?.getD 0)))

theorem Ints.ext {w w' : World} {v : Value} {l : List Int} (h : Ints w v l) (e : Ext w w') : Ints w' v l := by
  obtain ⟨ao, cap, hv, hm, hcap, hc⟩ := h
  refine ⟨ao, cap, hv, hm, hcap, fun hp => ?_⟩
  obtain ⟨b, off, ha, hc⟩ := hc hp
  exact ⟨b, off, ha, fun j hj => e.cell (hc j hj)⟩

theorem Ints.nil (w : World) : Ints w (.slice none 0 0) [] := ⟨none, 0, rfl, by simp, ⟨by simp, by simp, fun _ => rfl⟩, fun h => by simp at h⟩

theorem Ext.ownsRow {w w' : World} {B e sz : Nat} {v : Value} {n : Nat} {xs : List Value} (h : Ext w w') (ho : w.ownsRow B e sz v n xs) : w'.ownsRow B e sz v n xs := by
  refine ⟨ho.1, ?_⟩
  rcases ho.2 with hn | ⟨g, cap, cur, rfl, hb, hgg, rest⟩
  · exact .inl hn
  · exact .inr ⟨g, cap, cur, rfl, hb, h.block hgg, rest⟩

/-- v is a slice of integers of a block that was made from block number B on. -/
def Fresh (B : Nat) (w : World) (v : Value) (l : List Int) : Prop := w.ownsRow B 3 1 v l.length (l.map (Value.int .i64))

theorem Fresh.ext {B : Nat} {w w' : World} {v : Value} {l : List Int} (h : Fresh B w v l) (e : Ext w w') : Fresh B w' v l := e.ownsRow h
theorem Fresh.more {B B' : Nat} {w : World} {v : Value} {l : List Int} (h : Fresh B w v l) (hb : B' ≤ B) : Fresh B' w v l := by
  refine ⟨h.1, ?_⟩
  rcases h.2 with hn | ⟨g, cap, cur, rfl, hbg, rest⟩
  · exact .inl hn
  · exact .inr ⟨g, cap, cur, rfl, by omega, rest⟩
theorem Fresh.ints {B : Nat} {w : World} {v : Value} {l : List Int} (h : Fresh B w v l) : Ints w v l := by
  rcases h.2 with ⟨rfl, hn⟩ | ⟨g, cap, cur, rfl, hb, hg, hnc, hcm, hcs, htake⟩
  · obtain rfl : l = [] := List.eq_nil_of_length_eq_zero hn
    exact Ints.nil w
  · refine ⟨some ⟨g, 0, none⟩, cap, rfl, by omega, ⟨by omega, by omega, fun h => by cases h⟩, fun _ => ⟨g, 0, rfl, fun j hj => ?_⟩⟩
    have := World.ownsRow.cellAt h j (by omega)
    rw [Nat.zero_add, this]
    simp [List.getElem?_eq_getElem hj]

theorem ext_of_grown {w w' : World} (h : w.grownBy w' none) : Ext w w' := ⟨h.os, h.tape, h.output, h.size, fun k hk => h.block k hk (by simp)⟩

theorem Ext.below {B : Nat} {w0 w w' : World} (h : Below B w0 w) (e : Ext w w') (hB : B ≤ w.heap.size) : Below B w0 w' := h.trans (Below.mono e hB)

theorem Fresh.touch {B : Nat} {w w' : World} {v u : Value} {l : List Int} (h : Fresh B w v l) (t : w.grownBy w' u.ownBlock) (ap : v.ownBlock = none ∨ v.ownBlock ≠ u.ownBlock) : Fresh B w' v l := World.ownsRow.kept h t ap
/-- A slice that was made later lies in another block. -/
theorem Fresh.apart {B B' : Nat} {w w' : World} {v u : Value} {l r : List Int} (h : Fresh B w v l) (k : Fresh B' w' u r) (hle : w.heap.size ≤ B') : u.ownBlock = none ∨ u.ownBlock ≠ v.ownBlock := by
  cases hu : u.ownBlock with
  | none => exact .inl rfl
  | some g =>
    refine .inr fun e => ?_
    have h1 := (World.ownsRow.lt h g e.symm).2
    have h2 := (World.ownsRow.lt k g hu).1
    omega
theorem Fresh.apart' {B B' : Nat} {w w' : World} {v u : Value} {l r : List Int} (h : Fresh B w v l) (k : Fresh B' w' u r) (hle : w.heap.size ≤ B') : v.ownBlock = none ∨ v.ownBlock ≠ u.ownBlock := by
  cases hv : v.ownBlock with
  | none => exact .inl rfl
  | some g =>
    refine .inr fun e => ?_
    have h1 := (World.ownsRow.lt h g hv).2
    have h2 := (World.ownsRow.lt k g e.symm).1
    omega
theorem Ext.touch {w0 w w' : World} {v : Value} {l : List Int} (h : Ext w0 w) (hv : Fresh w0.heap.size w v l) (t : w.grownBy w' v.ownBlock) : Ext w0 w' :=
  Below.grown h t h.size (fun k hk => (World.ownsRow.lt hv k hk).1)

end Go.Proofs.Ytfffddhfagibpaa

namespace Go.Proofs.Ytfffddhfagibpaa
open Go.RowKit

/-- A Bool comes back, and the world is as it was but for new blocks. -/
def BoolExt (b : Bool) (w : World) (e : Ending) (w' : World) : Prop := e = .returned (.bool b) ∧ Ext w w'
def IntExt (n : Int) (w : World) (e : Ending) (w' : World) : Prop := e = .returned (.int .i64 n) ∧ Ext w w'

theorem take_eq_succ {l r : List Int} {k : Nat} (h1 : k < l.length) (h2 : k < r.length) (h : l.take k = r.take k) (he : l[k]?.getD 0 = r[k]?.getD 0) : l.take (k + 1) = r.take (k + 1) := by
  simp [List.getElem?_eq_getElem h1, List.getElem?_eq_getElem h2] at he
  rw [List.take_add_one, List.take_add_one, h, List.getElem?_eq_getElem h1, List.getElem?_eq_getElem h2, he]

theorem Try.infoInt : (Try.prog.info? 3).map (fun i => (i.zero, i.size, i.bytes)) = some (some (.int .i64 0), 1, 8) := by kernel_rfl

/-- A slice in new memory comes back that reads as l. -/
def NewInts (l : List Int) (w : World) (e : Ending) (w' : World) : Prop := ∃ v, e = .returned v ∧ Fresh w.heap.size w' v l ∧ Ext w w'

/-- A slice in new memory and a Bool come back. -/
def TwoInts (l : List Int) (b : Bool) (w : World) (e : Ending) (w' : World) : Prop := ∃ v, e = .returned (.tuple #[v, .bool b]) ∧ Fresh w.heap.size w' v l ∧ Ext w w'

theorem fresh_nil (B : Nat) (w : World) : Fresh B w (.slice none 0 0) [] := World.ownsRow_nil _ _ _ _

def inB (n lo hi : Int) : Bool := decide (lo ≤ n) && decide (n ≤ hi)
theorem inB_yes {n lo hi : Int} (h1 : lo ≤ n) (h2 : n ≤ hi) : inB n lo hi = true := by simp [inB, h1, h2]
theorem inB_no {n lo hi : Int} (h : ¬ (lo ≤ n ∧ n ≤ hi)) : inB n lo hi = false := by
  unfold inB; rw [Bool.and_eq_false_iff]; simp only [decide_eq_false_iff_not]; omega

def allIn (l : List Int) (lo hi : Int) : Bool := l.all fun x => inB x lo hi

theorem all_take_succ {l : List Int} {k : Nat} (h : k < l.length) (p : Int → Bool) (ht : (l.take k).all p = true) (hp : p (l[k]?.getD 0) = true) : (l.take (k + 1)).all p = true := by
  simp [List.getElem?_eq_getElem h] at hp
  rw [List.take_add_one, List.all_append, ht, List.getElem?_eq_getElem h]
  simpa using hp
theorem all_false_at {l : List Int} {k : Nat} (h : k < l.length) (p : Int → Bool) (hp : p (l[k]?.getD 0) = false) : l.all p = false := by
  simp [List.getElem?_eq_getElem h] at hp
  rw [List.all_eq_false]
  exact ⟨l[k], List.getElem_mem h, by rw [hp]; simp⟩

def hasI (l : List Int) (n : Int) : Bool := l.any fun x => x == n
theorem any_take_succ {l : List Int} {k : Nat} (h : k < l.length) (p : Int → Bool) (ht : (l.take k).any p = false) (hp : p (l[k]?.getD 0) = false) : (l.take (k + 1)).any p = false := by
  simp [List.getElem?_eq_getElem h] at hp
  rw [List.take_add_one, List.any_append, ht, List.getElem?_eq_getElem h]
  simpa using hp
theorem any_true_at {l : List Int} {k : Nat} (h : k < l.length) (p : Int → Bool) (hp : p (l[k]?.getD 0) = true) : l.any p = true := by
  simp [List.getElem?_eq_getElem h] at hp
  rw [List.any_eq_true]
  exact ⟨l[k], List.getElem_mem h, hp⟩


def wf64 (n : Int) : Prop := (Lit.int .i64 n).wf = true
/-- Two Bools come back. -/
def TwoB (a b : Bool) (w : World) (e : Ending) (w' : World) : Prop := e = .returned (.tuple #[.bool a, .bool b]) ∧ Ext w w'

theorem step2 {wb W W' : World} {a b : Addr} {u v : Value} (x : Ext W W') (h : Ext wb W ∧ W.cell? a = some u ∧ W.cell? b = some v) : Ext wb W' ∧ W'.cell? a = some u ∧ W'.cell? b = some v :=
  ⟨h.1.trans x, x.cell h.2.1, x.cell h.2.2⟩
theorem step4 {wb W W' : World} {a b c d : Addr} {u v r s : Value} (x : Ext W W') (h : Ext wb W ∧ W.cell? a = some u ∧ W.cell? b = some v ∧ W.cell? c = some r ∧ W.cell? d = some s) : Ext wb W' ∧ W'.cell? a = some u ∧ W'.cell? b = some v ∧ W'.cell? c = some r ∧ W'.cell? d = some s :=
  ⟨h.1.trans x, x.cell h.2.1, x.cell h.2.2.1, x.cell h.2.2.2.1, x.cell h.2.2.2.2⟩

end Go.Proofs.Ytfffddhfagibpaa

namespace Go.Proofs.Ytfffddhfagibpaa
open Go.RowKit

/-- v is a slice that reads as the lists L in w. -/
def Intss (w : World) (v : Value) (L : List (List Int)) : Prop :=
  ∃ ao cap, v = .slice ao L.length cap ∧ L.length ≤ maxLen ∧ (L.length ≤ cap ∧ cap ≤ maxLen ∧ (ao = none → cap = 0)) ∧
    (0 < L.length → ∃ b off, ao = some ⟨b, off, none⟩ ∧ ∀ j, j < L.length → ∃ u, w.cell? ⟨b, off + j, none⟩ = some u ∧ Ints w u (L[j]?.getD []))
theorem Intss.ext {w w' : World} {v : Value} {L : List (List Int)} (h : Intss w v L) (e : Ext w w') : Intss w' v L := by
  obtain ⟨ao, cap, hv, hm, hcap, hc⟩ := h
  refine ⟨ao, cap, hv, hm, hcap, fun hp => ?_⟩
  obtain ⟨b, off, ha, hc⟩ := hc hp
  refine ⟨b, off, ha, fun j hj => ?_⟩
  obtain ⟨u, hu, hi⟩ := hc j hj
  exact ⟨u, e.cell hu, hi.ext e⟩
theorem Intss.nil (w : World) : Intss w (.slice none 0 0) [] := ⟨none, 0, rfl, by simp, ⟨by simp, by simp, fun _ => rfl⟩, fun h => by simp at h⟩

/-- The rows are new, and no two share a block. -/
structure Rows_ (B : Nat) (w : World) (vs : List Value) (L : List (List Int)) : Prop where
  len : vs.length = L.length
  row : ∀ (j : Nat) (u : Value) (l : List Int), vs[j]? = some u → L[j]? = some l → Fresh B w u l
  apart : ∀ (i j : Nat) (u z : Value), i ≠ j → vs[i]? = some u → vs[j]? = some z → u.ownBlock = none ∨ u.ownBlock ≠ z.ownBlock
theorem Rows_.nil (B : Nat) (w : World) : Rows_ B w [] [] := ⟨rfl, fun _ _ _ h => by simp at h, fun _ _ _ _ _ h => by simp at h⟩
theorem Rows_.ext {B : Nat} {w w' : World} {vs : List Value} {L : List (List Int)} (h : Rows_ B w vs L) (e : Ext w w') : Rows_ B w' vs L :=
  ⟨h.len, fun j u l hu hl => (h.row j u l hu hl).ext e, h.apart⟩
theorem Rows_.more {B B' : Nat} {w : World} {vs : List Value} {L : List (List Int)} (h : Rows_ B w vs L) (hb : B' ≤ B) : Rows_ B' w vs L :=
  ⟨h.len, fun j u l hu hl => (h.row j u l hu hl).more hb, h.apart⟩
theorem Rows_.touch {B : Nat} {w w' : World} {vs : List Value} {L : List (List Int)} {blk : Option Nat} (h : Rows_ B w vs L) (t : w.grownBy w' blk) (ap : ∀ (j : Nat) (u : Value), vs[j]? = some u → u.ownBlock = none ∨ u.ownBlock ≠ blk) : Rows_ B w' vs L :=
  ⟨h.len, fun j u l hu hl => World.ownsRow.kept (h.row j u l hu hl) t (ap j u hu), h.apart⟩
/-- A row that was made later comes behind. -/
theorem Rows_.snoc {B : Nat} {w w' : World} {vs : List Value} {L : List (List Int)} {u : Value} {l : List Int} (h : Rows_ B w vs L) (e : Ext w w') (hu : Fresh w.heap.size w' u l) (hB : B ≤ w.heap.size) : Rows_ B w' (vs ++ [u]) (L ++ [l]) := by
  have h' := h.ext e
  refine ⟨by simp [h.len], fun j z r hz hr => ?_, fun i j z y hij hz hy => ?_⟩
  · by_cases hj : j < vs.length
    · rw [List.getElem?_append_left hj] at hz
      rw [List.getElem?_append_left (by rw [← h.len]; exact hj)] at hr
      exact h'.row j z r hz hr
    · rw [List.getElem?_append_right (by omega)] at hz
      rw [List.getElem?_append_right (by rw [← h.len]; omega)] at hr
      have hj' : j - vs.length = 0 := by
        have := (List.getElem?_eq_some_iff.1 hz).1
        simp at this; omega
      rw [hj'] at hz
      rw [← h.len, hj'] at hr
      simp at hz hr
      subst hz hr
      exact hu.more hB
  · by_cases hi : i < vs.length
    · rw [List.getElem?_append_left hi] at hz
      have hfz : Fresh B w z _ := h.row i z _ hz (List.getElem?_eq_getElem (by rw [← h.len]; exact hi))
      by_cases hj : j < vs.length
      · rw [List.getElem?_append_left hj] at hy
        exact h.apart i j z y hij hz hy
      · rw [List.getElem?_append_right (by omega)] at hy
        have hy' : y = u := by
          have := (List.getElem?_eq_some_iff.1 hy).1
          have hj' : j - vs.length = 0 := by simp at this; omega
          rw [hj'] at hy; simpa using hy.symm
        subst hy'
        exact Fresh.apart' hfz hu (Nat.le_refl _)
    · rw [List.getElem?_append_right (by omega)] at hz
      have hi' : i - vs.length = 0 := by
        have := (List.getElem?_eq_some_iff.1 hz).1
        simp at this; omega
      have hz' : z = u := by rw [hi'] at hz; simpa using hz.symm
      subst hz'
      by_cases hj : j < vs.length
      · rw [List.getElem?_append_left hj] at hy
        have hfy : Fresh B w y _ := h.row j y _ hy (List.getElem?_eq_getElem (by rw [← h.len]; exact hj))
        exact Fresh.apart hfy hu (Nat.le_refl _)
      · rw [List.getElem?_append_right (by omega)] at hy
        have := (List.getElem?_eq_some_iff.1 hy).1
        simp at this
        omega

theorem Rows_.low {B g : Nat} {w : World} {vs : List Value} {L : List (List Int)} (h : Rows_ B w vs L) (hg : g < B) : ∀ (j : Nat) (u : Value), vs[j]? = some u → u.ownBlock = none ∨ u.ownBlock ≠ some g := by
  intro j u hu
  have hj : j < vs.length := (List.getElem?_eq_some_iff.1 hu).1
  have hf := h.row j u _ hu (List.getElem?_eq_getElem (by rw [← h.len]; exact hj))
  refine .inr fun e => ?_
  have := (World.ownsRow.lt hf g e).1
  omega

/-- v is a slice in new memory whose rows lie in new memory of their own. -/
def FreshSS (B : Nat) (w : World) (v : Value) (L : List (List Int)) : Prop :=
  ∃ vs, w.ownsRow B 22 1 v L.length vs ∧ Rows_ B w vs L ∧ ∀ (j : Nat) (u : Value), vs[j]? = some u → u.ownBlock = none ∨ u.ownBlock ≠ v.ownBlock
theorem FreshSS.ext {B : Nat} {w w' : World} {v : Value} {L : List (List Int)} (h : FreshSS B w v L) (e : Ext w w') : FreshSS B w' v L := by
  obtain ⟨vs, h1, h2, h3⟩ := h
  exact ⟨vs, e.ownsRow h1, h2.ext e, h3⟩
theorem ownsRow_more {B B' e sz n : Nat} {w : World} {v : Value} {xs : List Value} (h : w.ownsRow B e sz v n xs) (hb : B' ≤ B) : w.ownsRow B' e sz v n xs := by
  refine ⟨h.1, ?_⟩
  rcases h.2 with hn | ⟨g, cap, cur, rfl, hbg, rest⟩
  · exact .inl hn
  · exact .inr ⟨g, cap, cur, rfl, by omega, rest⟩
theorem FreshSS.more {B B' : Nat} {w : World} {v : Value} {L : List (List Int)} (h : FreshSS B w v L) (hb : B' ≤ B) : FreshSS B' w v L := by
  obtain ⟨vs, h1, h2, h3⟩ := h
  exact ⟨vs, ownsRow_more h1 hb, h2.more hb, h3⟩
theorem FreshSS.nil (B : Nat) (w : World) : FreshSS B w (.slice none 0 0) [] := ⟨[], World.ownsRow_nil _ _ _ _, Rows_.nil _ _, fun _ _ h => by simp at h⟩
theorem FreshSS.intss {B : Nat} {w : World} {v : Value} {L : List (List Int)} (h : FreshSS B w v L) : Intss w v L := by
  obtain ⟨vs, h1, h2, h3⟩ := h
  have hlen := h2.len
  rcases h1.2 with ⟨rfl, hn⟩ | ⟨g, cap, cur, rfl, hb, hg, hnc, hcm, hcs, htake⟩
  · obtain rfl : L = [] := List.eq_nil_of_length_eq_zero hn
    exact Intss.nil w
  · refine ⟨some ⟨g, 0, none⟩, cap, rfl, by omega, ⟨by omega, by omega, fun h => by cases h⟩, fun _ => ⟨g, 0, rfl, fun j hj => ?_⟩⟩
    have hc := World.ownsRow.cellAt h1 j (by omega)
    have hu : vs[j]? = some (vs[j]'(by omega)) := List.getElem?_eq_getElem (by omega)
    refine ⟨vs[j]'(by omega), by rw [Nat.zero_add, hc, hu], ?_⟩
    have := h2.row j _ _ hu (List.getElem?_eq_getElem hj)
    rw [List.getElem?_eq_getElem hj]
    exact this.ints

theorem Try.infoInts : (Try.prog.info? 22).map (fun i => (i.zero, i.size, i.bytes)) = some (some (.slice none 0 0), 1, 24) := by kernel_rfl
/-- A slice of slices in new memory comes back. -/
def NewIntss (L : List (List Int)) (w : World) (e : Ending) (w' : World) : Prop := ∃ v, e = .returned v ∧ FreshSS w.heap.size w' v L ∧ Ext w w'
def TwoIntss (L : List (List Int)) (b : Bool) (w : World) (e : Ending) (w' : World) : Prop := ∃ v, e = .returned (.tuple #[v, .bool b]) ∧ FreshSS w.heap.size w' v L ∧ Ext w w'

/-- How many numbers there are, and lists. -/
def bulk (L : List (List Int)) : Nat := L.length + (L.map List.length).sum
theorem len_le_sum : ∀ (l : List Nat) (x : Nat), x ∈ l → x ≤ l.sum
  | y :: l, x, h => by
    rcases List.mem_cons.1 h with rfl | h
    · simp
    · have := len_le_sum l x h
      simp; omega
theorem bulk_row {L : List (List Int)} {j : Nat} (h : j < L.length) : (L[j]).length ≤ bulk L := by
  unfold bulk
  have := len_le_sum (L.map List.length) _ (List.mem_map.2 ⟨L[j], List.getElem_mem h, rfl⟩)
  omega
/-- How many numbers the first k lists have. -/
def sumTo (L : List (List Int)) (k : Nat) : Nat := ((L.take k).map List.length).sum
theorem sumTo_succ {L : List (List Int)} {k : Nat} (h : k < L.length) : sumTo L (k + 1) = sumTo L k + (L[k]).length := by
  unfold sumTo
  rw [List.take_add_one, List.getElem?_eq_getElem h, List.map_append, List.sum_append]
  simp only [Option.toList, List.map_cons, List.map_nil, List.sum_cons, List.sum_nil, Nat.add_zero]
theorem sumTo_all (L : List (List Int)) : sumTo L L.length = (L.map List.length).sum := by simp [sumTo]
theorem sumTo_mono {L : List (List Int)} {k : Nat} (h : k ≤ L.length) : sumTo L k ≤ (L.map List.length).sum := by
  induction hd : L.length - k generalizing k with
  | zero =>
    obtain rfl : k = L.length := by omega
    rw [sumTo_all]; exact Nat.le_refl _
  | succ d ih =>
    have hk : k < L.length := by omega
    have := ih (k := k + 1) (by omega) (by omega)
    rw [sumTo_succ hk] at this
    omega

end Go.Proofs.Ytfffddhfagibpaa

namespace Go.Proofs.Ytfffddhfagibpaa
open Go.ChangeShapes Go.WideShapes Go.RowKit Go.Deep

theorem ints_ofS {w : World} {ao : Option Addr} {len cap : Nat} {zs : List Int} (hl : len ≤ cap) (hm : cap ≤ maxLen) (hz : zs.length = cap) (hn : ao = none → cap = 0)
    (hc : ∀ a, ao = some a → ∀ i, i < zs.length → w.cell? (a.add i) = some (.int .i64 (zs.getD i 0))) : Ints w (.slice ao len cap) (zs.take len) := by
  have e : (zs.take len).length = len := by rw [List.length_take]; omega
  refine ⟨ao, cap, by rw [e], by omega, ⟨by omega, hm, hn⟩, fun hp => ?_⟩
  rw [e] at hp
  cases ao with
  | none => have := hn rfl; omega
  | some a =>
    obtain ⟨b, off, rfl, hcc⟩ := ints_at (hc a rfl) (by omega)
    refine ⟨b, off, rfl, fun j hj => ?_⟩
    rw [hcc j (by omega), List.getElem?_take, if_pos (by omega), List.getD_eq_getElem?_getD]

set_option maxRecDepth 100000 in
theorem open_intS {H : Type} {enc : TypeId × Value → H} {w : World} {base : Nat} {held : Bool} {r : Go.Reach} {b0 : Nat} {v : Value} {d : DataW H} {p : List MemPlace}
    (hv : Value.okWide Try.prog w r b0 22 v) (h : DataW.Trod enc Try.prog w base (fun _ => true) held 22 v d p) :
    ∃ l, Ints w v l ∧ ∀ x ∈ l, wf64 x := by
  obtain ⟨a, len, cap, rfl⟩ := okWide_slice Try.underlying22 hv
  obtain ⟨fuel, hf⟩ := h
  rcases open_ints Try.underlying22 Try.underlying3 (by kernel_rfl) hf with ⟨hcs, _⟩ | ⟨x, l, c, zs, hcs, _, hl, hm, hz, _, hcell, hwz⟩
  · simp [Value.cells] at hcs
    obtain ⟨rfl, rfl, rfl⟩ := hcs
    exact ⟨[], Ints.nil w, fun _ h => by cases h⟩
  · simp [Value.cells] at hcs
    obtain ⟨rfl, rfl, rfl⟩ := hcs
    refine ⟨zs.take len, ints_ofS hl hm (by simpa using hz) (fun h => by cases h) (fun a' ha => by cases ha; exact hcell), fun y hy => hwz y (List.mem_of_mem_take hy)⟩

end Go.Proofs.Ytfffddhfagibpaa

namespace Go.Proofs.Ytfffddhfagibpaa
open Go.Joins Go.ChangeShapes Go.WideShapes Go.RowKit Go.Deep

set_option maxRecDepth 100000 in
theorem open_cmd {H : Type} {enc : TypeId × Value → H} {w : World} {base : Nat} {spare : Nat → Bool} {held : Bool} {r : Go.Reach} {b0 : Nat} {v : Value} {d : DataW H} {p : List MemPlace}
    (hv : Value.okWide Try.prog w r b0 30 v) (h : DataW.Trod enc Try.prog w base spare held 30 v d p) :
    ∃ k i f t a : Int, v = .agg #[.int .i64 k, .int .i64 i, .int .i64 f, .int .i64 t, .int .i64 a] ∧ wf64 k ∧ wf64 i ∧ wf64 f ∧ wf64 t ∧ wf64 a := by
  obtain ⟨cs, rfl, hsz⟩ := okWide_struct Try.underlying30 hv
  obtain ⟨l⟩ := cs
  match l, hsz.trans (show Try.prog.cellsOf 30 = 5 by kernel_rfl) with
  | [c0, c1, c2, c3, c4], _ =>
    obtain ⟨fuel, hf⟩ := h
    obtain ⟨xs, n, _, hx, _, hlen, hg⟩ := DataW.trod_struct Try.underlying30 hf
    have q : Try.prog.cellsOf 3 = 1 := by kernel_rfl
    match xs, hlen with
    | [y0, y1, y2, y3, y4], _ =>
      obtain ⟨n0, e0, _, w0⟩ := DataW.trod_int Try.underlying3 (by simpa [Value.cells, q] using hg 0 _ rfl)
      obtain ⟨n1, e1, _, w1⟩ := DataW.trod_int Try.underlying3 (by simpa [Value.cells, q] using hg 1 _ rfl)
      obtain ⟨n2, e2, _, w2⟩ := DataW.trod_int Try.underlying3 (by simpa [Value.cells, q] using hg 2 _ rfl)
      obtain ⟨n3, e3, _, w3⟩ := DataW.trod_int Try.underlying3 (by simpa [Value.cells, q] using hg 3 _ rfl)
      obtain ⟨n4, e4, _, w4⟩ := DataW.trod_int Try.underlying3 (by simpa [Value.cells, q] using hg 4 _ rfl)
      simp only [List.cons.injEq, and_true] at e0 e1 e2 e3 e4
      subst e0 e1 e2 e3 e4
      exact ⟨n0, n1, n2, n3, n4, rfl, w0, w1, w2, w3, w4⟩

end Go.Proofs.Ytfffddhfagibpaa

namespace Go.Proofs.Ytfffddhfagibpaa
open Go.RowKit

theorem l1In_any (n lo hi : Int) (w : World) :
    Calls Try.prog 46 #[.int .i64 n, .int .i64 lo, .int .i64 hi] w fun e w' => e = .returned (.bool (inB n lo hi)) ∧ w = w' := by
  by_cases h1 : lo ≤ n
  · by_cases h2 : n ≤ hi
    · go_enter Try.func46, Try.ntmps46
      go_wp2
      go_ret
      exact ⟨by rw [inB_yes h1 h2]; rfl, rfl⟩
    · go_enter Try.func46, Try.ntmps46
      go_wp2
      go_ret
      exact ⟨by rw [inB_no (by omega)]; rfl, rfl⟩
  · go_enter Try.func46, Try.ntmps46
    go_wp2
    go_ret
    exact ⟨by rw [inB_no (by omega)]; rfl, rfl⟩


end Go.Proofs.Ytfffddhfagibpaa

namespace Go.Proofs.Ytfffddhfagibpaa
open Go.RowKit
set_option linter.unusedVariables false

/-- Whether sums are good: four of them, none below 0 or above all, 400 together. -/
def goodS (l : List Int) : Bool := decide (l.length = 4) && (allIn l 0 400 && decide (l.sum = 400))

theorem sum_take_succ {l : List Int} {k : Nat} (h : k < l.length) : (l.take (k + 1)).sum = (l.take k).sum + l[k] := by
  rw [List.take_add_one, List.getElem?_eq_getElem h, List.sum_append]; simp
theorem allIn_take_succ {l : List Int} {k : Nat} (h : k < l.length) {lo hi : Int} (ht : allIn (l.take k) lo hi = true) (hp : inB l[k] lo hi = true) : allIn (l.take (k + 1)) lo hi = true :=
  all_take_succ h _ ht (by simpa [h] using hp)
theorem sum_bounds (l : List Int) (h : allIn l 0 400 = true) : 0 ≤ l.sum ∧ l.sum ≤ 400 * l.length := by
  induction l with
  | nil => simp
  | cons a r ih =>
    have h1 : (inB a 0 400 && allIn r 0 400) = true := h
    obtain ⟨ha, hr⟩ := (Bool.and_eq_true _ _ ▸ h1 : inB a 0 400 = true ∧ allIn r 0 400 = true)
    have h2 := ih hr
    have h3 : 0 ≤ a ∧ a ≤ 400 := by simpa [inB] using ha
    rw [List.sum_cons, List.length_cons]
    omega
theorem sum_drop (l : List Int) (k : Nat) : l.sum = (l.take k).sum + (l.drop k).sum := by
  conv => lhs; rw [← List.take_append_drop k l]
  rw [List.sum_append]
theorem allIn_drop {l : List Int} {lo hi : Int} (h : allIn l lo hi = true) (k : Nat) : allIn (l.drop k) lo hi = true := by
  unfold allIn at *
  rw [List.all_eq_true] at *
  exact fun x hx => h x (List.mem_of_mem_drop hx)
theorem goodS_len {l : List Int} (h : l.length ≠ 4) : goodS l = false := by simp [goodS, h]
theorem goodS_out {l : List Int} {k : Nat} (h : k < l.length) (hp : inB l[k] 0 400 = false) : goodS l = false := by
  have : allIn l 0 400 = false := all_false_at h _ (by simpa [h] using hp)
  simp [goodS, this]
/-- A sum above what is left of the whole is too much. -/
theorem goodS_over {l : List Int} {k : Nat} (h : k < l.length) (ht : allIn (l.take k) 0 400 = true) (hp : 400 - (l.take k).sum < l[k]) : goodS l = false := by
  cases ha : allIn l 0 400 with
  | false => simp [goodS, ha]
  | true =>
    have h1 := sum_drop l (k + 1)
    rw [sum_take_succ h] at h1
    have h2 := (sum_bounds _ (allIn_drop ha (k + 1))).1
    have h3 : l.sum ≠ 400 := by omega
    simp [goodS, h3]
theorem goodS_get {l : List Int} (h : goodS l = true) : l.length = 4 ∧ allIn l 0 400 = true ∧ l.sum = 400 := by
  simpa [goodS] using h

set_option maxHeartbeats 1000000 in
theorem specGoodSums_any (v : Value) (l : List Int) (w : World) (hv : Ints w v l) (hs : l.length ≤ 1099511627776) :
    Calls Try.prog 10 #[v] w (BoolExt (goodS l) w) := by
  obtain ⟨av, cv, rfl, hlv, _, hcv⟩ := hv
  clear hlv
  go_enter Try.func10, Try.ntmps10
  go_wp2
  go_loopw [3, 5, 8] (fun n _ i wr => ∃ k : Nat, k ≤ l.length ∧ i = .int .i64 k ∧ n = .int .i64 (l.take k).sum ∧ allIn (l.take k) 0 400 = true ∧ Ext w wr) (fun _ _ i _ => l.length - (intOf i).toNat)
  case atStart => exact ⟨0, Nat.zero_le _, rfl, rfl, rfl, Ext.refl _⟩
  case round =>
    obtain ⟨k, hk, rfl, rfl, ht, hx⟩ := hrel
    have hb := sum_bounds _ ht
    rw [List.length_take] at hb
    have hb1 : 0 ≤ (l.take k).sum := hb.1
    have hb2 : (l.take k).sum ≤ 400 * 1099511627776 := by have := hb.2; omega
    have HT := Lib.hid ht
    clear ht hb
    by_cases hlt : k < l.length
    · obtain ⟨bv, ov, rfl, dv⟩ := hcv (by omega)
      have gv := hx.cell (dv k hlt)
      clear hcv dv
      cases hp : inB l[k] 0 400 with
      | true =>
        have hp2 : 0 ≤ l[k] ∧ l[k] ≤ 400 := by simpa [inB] using hp
        have hs1 := sum_take_succ hlt
        obtain ⟨n, hn⟩ : ∃ n, n = (l.take k).sum := ⟨_, rfl⟩
        rw [← hn] at hb1 hb2 hs1 ⊢
        have HS := Lib.hid hs1
        have HP := Lib.hid hp2
        have HN := Lib.hid hn
        have HW := Lib.hid (show wrap64 (n + l[k]) = n + l[k] by unfold wrap64; omega)
        clear hs1 hp2 hn
        go_wp2_with (go_at_call 46; refine (l1In_any _ _ _ _).mono ?_; rintro e w' ⟨rfl, rfl⟩)
        go_roundw
        case rel => exact ⟨k + 1, by omega, by go_num, by rw [HS.out] <;> (first | rfl | simp only [HW.out]), allIn_take_succ hlt HT.out hp, hx⟩
        case measure => simp [intOf]; omega
      | false =>
        go_wp2_with (go_at_call 46; refine (l1In_any _ _ _ _).mono ?_; rintro e w' ⟨rfl, rfl⟩)
        go_ret
        refine ⟨?_, hx⟩
        rw [goodS_out hlt hp]; rfl
    · obtain rfl : k = l.length := by omega
      have ht : allIn l 0 400 = true := by have h := HT.out; rwa [List.take_length] at h
      rw [List.take_length]
      obtain ⟨n, hn⟩ : ∃ n, n = l.sum := ⟨_, rfl⟩
      rw [← hn]
      by_cases h4 : l.length = 4
      · cases h5 : (n == 400) with
        | true =>
          have hg : goodS l = true := by simp at h5; simp [goodS, h4, ht, ← hn, h5]
          have HG := Lib.hid hg
          have e4 : ((l.length : Int) == 4) = true := by simp [h4]
          clear hg ht HT hb1 hb2 hn
          go_wp2
          go_ret
          exact ⟨by rw [HG.out]; rfl, hx⟩
        | false =>
          have hg : goodS l = false := by simp at h5; simp [goodS, ← hn, h5]
          have HG := Lib.hid hg
          have e4 : ((l.length : Int) == 4) = true := by simp [h4]
          clear hg ht HT hb1 hb2 hn
          go_wp2
          go_ret
          exact ⟨by rw [HG.out]; rfl, hx⟩
      · have e4 : ((l.length : Int) == 4) = false := by simp; omega
        have HG := Lib.hid (goodS_len h4)
        clear ht HT hb1 hb2
        go_wp2
        go_ret
        exact ⟨by rw [HG.out]; rfl, hx⟩

set_option maxHeartbeats 1000000 in
theorem implGoodSums_any (v : Value) (l : List Int) (w : World) (hv : Ints w v l) :
    Calls Try.prog 12 #[v] w (BoolExt (goodS l) w) := by
  obtain ⟨av, cv, rfl, hlv, _, hcv⟩ := hv
  clear hlv
  by_cases h4 : l.length = 4
  · have e4 : ((l.length : Int) != 4) = false := by simp [h4]
    go_enter Try.func12, Try.ntmps12
    go_wp2
    go_loopw [3, 5, 11] (fun n _ i wr => ∃ k : Nat, k ≤ l.length ∧ i = .int .i64 k ∧ n = .int .i64 (400 - (l.take k).sum) ∧ allIn (l.take k) 0 400 = true ∧ 0 ≤ 400 - (l.take k).sum ∧ Ext w wr) (fun _ _ i _ => l.length - (intOf i).toNat)
    case atStart => exact ⟨0, Nat.zero_le _, rfl, rfl, rfl, by simp, Ext.refl _⟩
    case round =>
      obtain ⟨k, hk, rfl, rfl, ht, h0, hx⟩ := hrel
      have hb1 : 0 ≤ (l.take k).sum := (sum_bounds _ ht).1
      have HT := Lib.hid ht
      clear ht
      by_cases hlt : k < l.length
      · obtain ⟨bv, ov, rfl, dv⟩ := hcv (by omega)
        have gv := hx.cell (dv k hlt)
        rw [List.getElem?_eq_getElem hlt, Option.getD_some] at gv
        clear hcv dv
        have hs1 := sum_take_succ hlt
        obtain ⟨x, hxx⟩ : ∃ x, x = l[k] := ⟨_, rfl⟩
        obtain ⟨n, hn⟩ : ∃ n, n = 400 - (l.take k).sum := ⟨_, rfl⟩
        have hn4 : n ≤ 400 := by omega
        have HO : n < x → Hid (goodS l = false) := fun h => Lib.hid (goodS_over hlt HT.out (by rw [← hn, ← hxx]; exact h))
        have HN : x < 0 → Hid (goodS l = false) := fun h => Lib.hid (goodS_out hlt (by rw [← hxx]; exact inB_no (by omega)))
        have HS : 0 ≤ x → x ≤ n → Hid (allIn (l.take (k + 1)) 0 400 = true) := fun h h' => Lib.hid (allIn_take_succ hlt HT.out (by rw [← hxx]; exact inB_yes h (by omega)))
        have HE : Hid (n - x = 400 - (l.take (k + 1)).sum) := Lib.hid (by rw [hs1]; omega)
        rw [← hxx] at gv
        rw [← hn] at h0 ⊢
        clear hs1 hxx hn HT hb1
        by_cases hx0 : x < 0
        · have H := HN hx0
          clear HO HN HS HE
          go_wp2
          go_ret
          exact ⟨by rw [H.out]; rfl, hx⟩
        · by_cases hxn : n < x
          · have H := HO hxn
            clear HO HN HS HE
            go_wp2
            go_ret
            exact ⟨by rw [H.out]; rfl, hx⟩
          · have H := HS (by omega) (by omega)
            clear HO HN HS
            go_wp2
            go_roundw
            case rel => exact ⟨k + 1, by omega, by go_num, by rw [← HE.out] <;> go_num, H.out, by rw [← HE.out]; omega, hx⟩
            case measure => simp [intOf]; omega
      · obtain rfl : k = l.length := by omega
        have ht : allIn l 0 400 = true := by have h := HT.out; rwa [List.take_length] at h
        rw [List.take_length] at h0 hb1 ⊢
        obtain ⟨n, hn⟩ : ∃ n, n = 400 - l.sum := ⟨_, rfl⟩
        rw [← hn] at h0 ⊢
        cases h5 : (n == 0) with
        | true =>
          have hg : goodS l = true := by simp at h5; have h6 : l.sum = 400 := by omega
                                         simp [goodS, h4, ht, h6]
          have HG := Lib.hid hg
          clear hg ht HT hb1 h0 hn
          go_wp2
          go_ret
          exact ⟨by rw [HG.out]; rfl, hx⟩
        | false =>
          have hg : goodS l = false := by simp at h5; have h6 : l.sum ≠ 400 := by omega
                                          simp [goodS, h6]
          have HG := Lib.hid hg
          clear hg ht HT hb1 h0 hn
          go_wp2
          go_ret
          exact ⟨by rw [HG.out]; rfl, hx⟩
  · have e4 : ((l.length : Int) != 4) = true := by simp; omega
    have HG := Lib.hid (goodS_len h4)
    clear hcv
    go_enter Try.func12, Try.ntmps12
    go_wp2
    go_ret
    exact ⟨by rw [HG.out]; rfl, Ext.refl _⟩

/-- A number and a Bool come back. -/
def IntB (n : Int) (b : Bool) (w : World) (e : Ending) (w' : World) : Prop := e = .returned (.tuple #[.int .i64 n, .bool b]) ∧ Ext w w'

def totS (l : List Int) : Int := if goodS l then 400 else 0

set_option maxHeartbeats 1000000 in
theorem specTotal_any (v : Value) (l : List Int) (w : World) (hv : Ints w v l) (hs : l.length ≤ 1099511627776) :
    Calls Try.prog 31 #[v] w (IntB (totS l) (goodS l) w) := by
  have HC := Lib.hid (specGoodSums_any v l w hv hs)
  unfold totS
  cases h : goodS l with
  | true =>
    rw [h] at HC
    go_enter Try.func31, Try.ntmps31
    go_wp2_with fail
    refine HC.out.mono ?_
    rintro e w1 ⟨rfl, x1⟩
    go_wp2
    go_ret2
    exact ⟨rfl, x1⟩
  | false =>
    rw [h] at HC
    go_enter Try.func31, Try.ntmps31
    go_wp2_with fail
    refine HC.out.mono ?_
    rintro e w1 ⟨rfl, x1⟩
    go_wp2
    go_ret2
    exact ⟨rfl, x1⟩

set_option maxRecDepth 100000 in
set_option maxHeartbeats 1000000 in
theorem implTotal_any (v : Value) (l : List Int) (w : World) (hv : Ints w v l) :
    Calls Try.prog 32 #[v] w (IntB (totS l) (goodS l) w) := by
  have HC := Lib.hid (implGoodSums_any v l w hv)
  unfold totS
  cases h : goodS l with
  | true =>
    rw [h] at HC
    obtain ⟨h4, ha, h5⟩ := goodS_get h
    have HA := Lib.hid ha
    have H5 := Lib.hid h5
    obtain ⟨av, cv, rfl, hlv, _, hcv⟩ := hv
    have H4 := Lib.hid h4
    have HV := Lib.hid hcv
    clear hlv h ha h5 h4 hcv
    go_enter Try.func32, Try.ntmps32
    go_wp2_with fail
    refine HC.out.mono ?_
    rintro e w1 ⟨rfl, x1⟩
    clear HC
    go_wp2_with fail
    go_loopw [4, 6, 12] (fun n _ i wr => ∃ k : Nat, k ≤ l.length ∧ i = .int .i64 k ∧ n = .int .i64 (l.take k).sum ∧ Ext w wr) (fun _ _ i _ => l.length - (intOf i).toNat)
    case atStart => exact ⟨0, Nat.zero_le _, rfl, rfl, x1⟩
    case round =>
      obtain ⟨k, hk, rfl, rfl, hx⟩ := hrel
      have h4 := H4.out
      by_cases hlt : k < l.length
      · obtain ⟨bv, ov, rfl, dv⟩ := HV.out (by omega)
        have gv := hx.cell (dv k hlt)
        rw [List.getElem?_eq_getElem hlt, Option.getD_some] at gv
        clear HV dv
        have h1 : allIn (l.take k) 0 400 = true := by
          have := HA.out; unfold allIn at *; rw [List.all_eq_true] at *; exact fun x hx => this x (List.mem_of_mem_take hx)
        have h2 := sum_bounds _ h1
        rw [List.length_take] at h2
        have h3 := sum_drop l k
        have h6 := (sum_bounds _ (allIn_drop HA.out k)).1
        have h7 := sum_take_succ hlt
        have h8 : 0 ≤ l[k] ∧ l[k] ≤ 400 := by
          have := (List.all_eq_true.1 HA.out) l[k] (List.getElem_mem hlt)
          simpa [inB] using this
        have h9 := H5.out
        obtain ⟨n, hn⟩ : ∃ n, n = (l.take k).sum := ⟨_, rfl⟩
        obtain ⟨x, hxx⟩ : ∃ x, x = l[k] := ⟨_, rfl⟩
        rw [← hn] at h2 h3 h7 ⊢
        rw [← hxx] at gv h7 h8
        have HS := Lib.hid h7
        have hn1 : 0 ≤ n ∧ n ≤ 1600 := by omega
        have HW := Lib.hid (show wrap64 (n + x) = n + x by unfold wrap64; omega)
        obtain ⟨hn2, hn3⟩ := hn1
        obtain ⟨hx2, hx3⟩ := h8
        clear h1 h2 h3 h6 h7 h9 hn hxx
        go_wp2
        go_roundw
        case rel => exact ⟨k + 1, by omega, by go_num, by rw [HS.out] <;> (first | rfl | simp only [HW.out]), hx⟩
        case measure => simp [intOf]; omega
      · obtain rfl : k = l.length := by omega
        rw [List.take_length, H5.out]
        go_wp2
        go_ret2
        exact ⟨rfl, hx⟩
  | false =>
    rw [h] at HC
    go_enter Try.func32, Try.ntmps32
    go_wp2_with fail
    refine HC.out.mono ?_
    rintro e w1 ⟨rfl, x1⟩
    go_wp2
    go_ret2
    exact ⟨rfl, x1⟩

end Go.Proofs.Ytfffddhfagibpaa

namespace Go.Proofs.Ytfffddhfagibpaa
open Go.RowKit

theorem fresh_lit (w : World) (l : List Int) (cs : Array Value) (B : Nat) (hcs : cs.toList = l.map (Value.int .i64)) (hB : B ≤ w.heap.size) (hl : l.length ≤ 1048576) :
    Fresh B (w.alloc (.cells cs 3)) (.slice (some ⟨w.heap.size, 0, none⟩) l.length l.length) l := by
  have h := World.ownsRow_lit (e := 3) (size := 1) w cs l.length hB (by unfold maxLen; omega) (by rw [← Array.length_toList, hcs]; simp)
  unfold Fresh; rw [← hcs]; exact h

theorem fresh_lit2 (w : World) (o : Obj) (l : List Int) (n : Nat) (cs : Array Value) (hcs : cs.toList = l.map (Value.int .i64)) (hn : n = l.length) (hl : l.length ≤ 1048576) :
    Fresh w.heap.size ((w.alloc o).alloc (.cells cs 3)) (.slice (some ⟨w.heap.size + 1, 0, none⟩) n n) l := by
  have e : (w.alloc o).heap.size = w.heap.size + 1 := by simp
  have h := fresh_lit (w.alloc o) l cs w.heap.size hcs (by omega) hl
  rw [e] at h
  rw [hn]; exact h
theorem size_alloc_le {n : Nat} {w : World} {o : Obj} (h : n ≤ w.heap.size) : n ≤ (w.alloc o).heap.size := by
  have := (Ext.alloc (Ext.refl w) o).size
  omega
theorem cell_alloc_one (w : World) (x : Value) (T : TypeId) : (w.alloc (.cells #[x] T)).cell? ⟨w.heap.size, 0, none⟩ = some x := by go_simp

/-- Behind an append: only the slice's own block has turned, and there may be new ones. -/
def Kept (B : Nat) (w w' : World) : Prop := ∀ w0 : World, Ext w0 w → w0.heap.size ≤ B → Ext w0 w'

theorem wpList_push {ops : Array Oper} {rest : List Oper} {o : Oper} {a : Act} {Q : Exit → Act → World → Prop} {w : World} (hgd : o.guard = none) (s x : Operand)
    (ho : o.op = .call { callee := .builtin .append, args := #[s, x], argTypes := #[22, 22] })
    (B : Nat) (v : Value) (l : List Int) (n : Int) (hs : a.eval s = v) (hf : Fresh B w v l) (ad : Addr) (c : Nat) (hx : a.eval x = .slice (some ad) 1 c)
    (hc : w.cell? ad = some (.int .i64 n)) (hl : l.length ≤ 1099511627776) (hB : B ≤ w.heap.size)
    (h : ∀ v' w', Fresh B w' v' (l ++ [n]) → w.grownBy w' v.ownBlock → Kept B w w' → wpList Try.prog ops Q rest (a.put o.dst v') w') : wpList Try.prog ops Q (o :: rest) a w := by
  obtain ⟨i0, hi, hz0, hz1, hz2⟩ := info_parts Try.infoInt
  refine wpList_append_own _ hgd s x 22 ho B 3 i0 (.int .i64 0) 1 8 Try.underlying22 hi hz0 hz1 hz2 rfl (by decide) v l.length _ hs hf ad 1 c [.int .i64 n] hx rfl ?_ ?_ ?_ ?_ hB ?_
  · intro j u hj
    match j, hj with
    | 0, hj => simp at hj; subst hj; simpa [Addr.add] using hc
  · intro u hu; simp at hu; subst hu; rfl
  · unfold maxLen; omega
  · omega
  · intro v' w' ho' hg _
    refine h v' w' ?_ hg (fun w0 hx0 hB0 => Below.grown hx0 hg hx0.size (fun q hq => Nat.le_trans hB0 (World.ownsRow.lt hf q hq).1))
    unfold Fresh
    rw [List.map_append, List.length_append]; exact ho'

theorem wpList_join {ops : Array Oper} {rest : List Oper} {o : Oper} {a : Act} {Q : Exit → Act → World → Prop} {w : World} (hgd : o.guard = none) (s x : Operand)
    (ho : o.op = .call { callee := .builtin .append, args := #[s, x], argTypes := #[22, 22] })
    (B : Nat) (v u : Value) (l r : List Int) (hs : a.eval s = v) (hf : Fresh B w v l) (hx : a.eval x = u) (hu : Ints w u r)
    (hl : l.length + r.length ≤ 1099511627776) (hB : B ≤ w.heap.size)
    (h : ∀ v' w', Fresh B w' v' (l ++ r) → w.grownBy w' v.ownBlock → Kept B w w' → wpList Try.prog ops Q rest (a.put o.dst v') w') : wpList Try.prog ops Q (o :: rest) a w := by
  obtain ⟨i0, hi, hz0, hz1, hz2⟩ := info_parts Try.infoInt
  obtain ⟨au, cu, rfl, hlu, hcap, hcu⟩ := hu
  cases au with
  | none =>
    have hr : r.length = 0 := by have := hcap.1; have := hcap.2.2 rfl; omega
    have hc0 : cu = 0 := hcap.2.2 rfl
    obtain rfl : r = [] := List.eq_nil_of_length_eq_zero hr
    subst hc0
    refine wpList_append_own_none hgd s x 22 ho B 3 i0 1 Try.underlying22 hi v l.length _ hs hf hx (h v w ?_ ?_ ?_)
    · rw [List.append_nil]; exact hf
    · exact ⟨rfl, rfl, rfl, Nat.le_refl _, fun _ _ _ => rfl⟩
    · exact fun w0 hx0 _ => hx0
  | some ad =>
    refine wpList_append_own _ hgd s x 22 ho B 3 i0 (.int .i64 0) 1 8 Try.underlying22 hi hz0 hz1 hz2 rfl (by decide) v l.length _ hs hf ad r.length cu (r.map (.int .i64)) hx (by simp) ?_ ?_ ?_ ?_ hB ?_
    · intro j z hj
      have hlt : j < r.length := by
        have := (List.getElem?_eq_some_iff.1 hj).1
        simpa using this
      obtain ⟨b, off, hab, hcc⟩ := hcu (by omega)
      cases hab
      have hcj := hcc j hlt
      rw [show (⟨b, off, none⟩ : Addr).add j = ⟨b, off + j, none⟩ by simp [Addr.add], hcj]
      simp [List.getElem?_eq_getElem hlt] at hj ⊢
      exact hj
    · intro z hz
      obtain ⟨q, _, rfl⟩ := List.mem_map.1 hz
      rfl
    · unfold maxLen; omega
    · omega
    · intro v' w' ho' hg _
      refine h v' w' ?_ hg (fun w0 hx0 hB0 => Below.grown hx0 hg hx0.size (fun q hq => Nat.le_trans hB0 (World.ownsRow.lt hf q hq).1))
      unfold Fresh
      rw [List.map_append, List.length_append]; exact ho'

end Go.Proofs.Ytfffddhfagibpaa

namespace Go.Proofs.Ytfffddhfagibpaa
open Go.RowKit
set_option linter.unusedVariables false

/-- A code and a sum come back; only the list's own block has turned. -/
def DidTo (B : Nat) (u : Value) (l : List Int) (c s : Int) (w : World) (e : Ending) (w' : World) : Prop :=
  e = .returned (.agg #[.int .i64 c, .int .i64 s]) ∧ Fresh B w' u l ∧ w.grownBy w' u.ownBlock

theorem fresh_at {B : Nat} {w : World} {u : Value} {l : List Int} (hf : Fresh B w u l) (h4 : l.length = 4) : ∃ g cap, u = .slice (some ⟨g, 0, none⟩) 4 cap ∧ B ≤ g ∧ g < w.heap.size := by
  rcases hf.2 with ⟨rfl, hn⟩ | ⟨g, cap, cur, rfl, hb, hg, _⟩
  · omega
  · rw [h4]
    exact ⟨g, cap, rfl, hb, (Array.getElem?_eq_some_iff.1 hg).1⟩
theorem fresh_own {B g cap : Nat} {w : World} {l : List Int} (hf : Fresh B w (.slice (some ⟨g, 0, none⟩) 4 cap) l) (h4 : l.length = 4) :
    w.ownsRow B 3 1 (.slice (some ⟨g, 0, none⟩) 4 cap) 4 (l.map (Value.int .i64)) := by
  unfold Fresh at hf
  rw [h4] at hf
  exact hf
theorem fresh_cell {B g cap F : Nat} {w : World} {l : List Int} {x : Int} (hf : Fresh B w (.slice (some ⟨g, 0, none⟩) 4 cap) l) (h4 : l.length = 4) (hx : l[F]? = some x) : w.cell? ⟨g, F, none⟩ = some (.int .i64 x) := by
  have hF := (List.getElem?_eq_some_iff.1 hx).1
  have h := World.ownsRow.cellAt (fresh_own hf h4) F (by omega)
  rw [h]
  simp [hx]
theorem fresh_frozen {B g cap : Nat} {w : World} {l : List Int} (hf : Fresh B w (.slice (some ⟨g, 0, none⟩) 4 cap) l) (h4 : l.length = 4) (F : Nat) : w.frozen? ⟨g, F, none⟩ = false := World.ownsRow.frozenAt (fresh_own hf h4) F
theorem fresh_put {B g cap : Nat} {w : World} {l : List Int} (hf : Fresh B w (.slice (some ⟨g, 0, none⟩) 4 cap) l) (h4 : l.length = 4) (F : Nat) (y : Int) :
    Fresh B (w.setCell ⟨g, F, none⟩ (.int .i64 y)) (.slice (some ⟨g, 0, none⟩) 4 cap) (l.set F y) ∧ w.grownBy (w.setCell ⟨g, F, none⟩ (.int .i64 y)) (some g) := by
  have h := World.ownsRow.stored (fresh_own hf h4) F (.int .i64 y)
  refine ⟨?_, h.2⟩
  unfold Fresh
  rw [List.length_set, h4, List.map_set]
  exact h.1

theorem fresh_other {B g cap : Nat} {w : World} {l : List Int} (hf : Fresh B w (.slice (some ⟨g, 0, none⟩) 4 cap) l) (b o : Nat) (v : Value) (hb : g ≠ b) : Fresh B (w.setCell ⟨b, o, none⟩ v) (.slice (some ⟨g, 0, none⟩) 4 cap) l := by
  refine ⟨hf.1, ?_⟩
  rcases hf.2 with ⟨h, _⟩ | ⟨g', cap', cur, h, hb', hg, rest⟩
  · cases h
  · injection h with h1 h2 h3
    injection h1 with h1
    injection h1 with h1
    subst h1
    exact .inr ⟨g, cap', cur, by rw [← h2, ← h3], hb', (Below.heap_setCell _ _ _ g hb).trans hg, rest⟩
theorem grown_put {w w1 : World} {r : Option Nat} (h : w.grownBy w1 r) (b o : Nat) (v : Value) (hb : w.heap.size ≤ b ∨ some b = r) : w.grownBy (w1.setCell ⟨b, o, none⟩ v) r := by
  have q : Below 0 w1 (w1.setCell ⟨b, o, none⟩ v) := Below.setCell (Below.refl _ _) (Nat.zero_le _) _
  refine ⟨q.os.trans h.os, q.tape.trans h.tape, q.output.trans h.output, Nat.le_trans h.size q.size, fun k hk hne => ?_⟩
  refine (Below.heap_setCell _ _ _ k ?_).trans (h.block k hk hne)
  intro e
  subst e
  rcases hb with hb | hb
  · omega
  · exact hne hb
theorem grown_of_ext {w w' : World} (h : Ext w w') (r : Option Nat) : w.grownBy w' r := ⟨h.os, h.tape, h.output, h.size, fun k hk _ => Below.block h k hk⟩

set_option maxRecDepth 100000 in
set_option maxHeartbeats 2000000 in
theorem transfer_poor (B : Nat) (u : Value) (l : List Int) (F T : Nat) (a x : Int) (w : World) (hf : Fresh B w u l) (h4 : l.length = 4) (hF : F < 4) (hx : l[F]? = some x) (hp : x < a) :
    Calls Try.prog 134 #[.agg #[.int .i64 F, .int .i64 T, .int .i64 a], u] w (DidTo B u l 2 0 w) := by
  obtain ⟨g, cap, rfl, hb, hg⟩ := fresh_at hf h4
  have gF := fresh_cell hf h4 hx
  have n1 : w.heap.size ≠ g := by omega
  have n2 : w.heap.size + 1 ≠ g := by omega
  have i1 : (0 : Int) ≤ (F : Int) := by omega
  have i2 : (F : Int) < 4 := by omega
  have FF := Lib.hid hf
  clear hf hx
  go_enter Try.func134, Try.ntmps134
  go_wp2
  go_quiet (fail)
  go_wp2
  have x : Ext w (((((w.alloc (.cells #[.int .i64 F, .int .i64 T, .int .i64 a] 117)).alloc (.cells #[.int .i64 0, .int .i64 0] 32)).drewN nq).setCell ⟨w.heap.size + 1, 0, none⟩ (.int .i64 2)).setCell ⟨w.heap.size + 1, 1, none⟩ (.int .i64 0)) :=
    Below.setCell (Below.setCell ((Ext.alloc (Ext.alloc (Ext.refl _) _) _).drewN nq) (Nat.le_succ _) _) (Nat.le_succ _) _
  exact bodyPost_ret (v := .agg #[.int .i64 2, .int .i64 0]) (by simp [results, Try.results134, go_sem]) rfl ⟨rfl, FF.out.ext x, grown_of_ext x _⟩

set_option maxRecDepth 100000 in
set_option maxHeartbeats 2000000 in
theorem transfer_done (B : Nat) (u : Value) (l : List Int) (F T : Nat) (a x y : Int) (w : World) (hf : Fresh B w u l) (h4 : l.length = 4) (hne : F ≠ T) (hF : F < 4) (hT : T < 4) (hx : l[F]? = some x) (hy : l[T]? = some y) (hp : a ≤ x) (ha0 : 1 ≤ a) (ha1 : a ≤ 1000) (hx1 : x ≤ 400) (hy0 : 0 ≤ y) (hy1 : y ≤ 400) :
    Calls Try.prog 134 #[.agg #[.int .i64 F, .int .i64 T, .int .i64 a], u] w (DidTo B u ((l.set F (x - a)).set T (y + a)) 1 0 w) := by
  obtain ⟨g, cap, rfl, hb, hg⟩ := fresh_at hf h4
  have gF := fresh_cell hf h4 hx
  have zF := fresh_frozen hf h4 F
  have gT := fresh_cell hf h4 hy
  have zT := fresh_frozen hf h4 T
  have hne' : T ≠ F := fun h => hne h.symm
  have n1 : w.heap.size ≠ g := by omega
  have n2 : w.heap.size + 1 ≠ g := by omega
  have i1 : (0 : Int) ≤ (F : Int) := by omega
  have i2 : (F : Int) < 4 := by omega
  have j1 : (0 : Int) ≤ (T : Int) := by omega
  have j2 : (T : Int) < 4 := by omega
  have w1 : wrap64 (x - a) = x - a := by unfold wrap64; omega
  have w2 : wrap64 (y + a) = y + a := by unfold wrap64; omega
  have FF := Lib.hid hf
  clear hf hx hy
  go_enter Try.func134, Try.ntmps134
  go_wp2
  go_quiet (fail)
  go_wp2
  go_region
  go_wp2
  go_region
  go_wp2
  have x0 : Ext w (((w.alloc (.cells #[.int .i64 F, .int .i64 T, .int .i64 a] 117)).alloc (.cells #[.int .i64 0, .int .i64 0] 32)).drewN (nq + 1)) :=
    (Ext.alloc (Ext.alloc (Ext.refl _) _) _).drewN _
  have f0 := FF.out.ext x0
  have f1 := (fresh_put f0 h4 F (x - a)).1
  have f2 := (fresh_put f1 (by simp [h4]) T (y + a)).1
  have f3 := fresh_other f2 (w.heap.size + 1) 0 (.int .i64 1) (by omega)
  have f4 := fresh_other f3 (w.heap.size + 1) 1 (.int .i64 0) (by omega)
  have g1 := grown_put (grown_put (grown_put (grown_put (grown_of_ext x0 (some g)) g F (.int .i64 (x - a)) (.inr rfl)) g T (.int .i64 (y + a)) (.inr rfl)) (w.heap.size + 1) 0 (.int .i64 1) (.inl (by omega))) (w.heap.size + 1) 1 (.int .i64 0) (.inl (by omega))
  exact bodyPost_ret (v := .agg #[.int .i64 1, .int .i64 0]) (by simp [results, Try.results134, go_sem]) rfl ⟨rfl, f4.ext (Ext.drew (Ext.refl _)), g1.trans (grown_of_ext (Ext.drew (Ext.refl _)) _)⟩

set_option maxRecDepth 100000 in
set_option maxHeartbeats 2000000 in
theorem inquiry_any (B : Nat) (u : Value) (l : List Int) (F : Nat) (x : Int) (w : World) (hf : Fresh B w u l) (h4 : l.length = 4) (hF : F < 4) (hx : l[F]? = some x) :
    Calls Try.prog 135 #[.agg #[.int .i64 F], u] w (DidTo B u l 3 x w) := by
  obtain ⟨g, cap, rfl, hb, hg⟩ := fresh_at hf h4
  have gF := fresh_cell hf h4 hx
  have n1 : w.heap.size ≠ g := by omega
  have n2 : w.heap.size + 1 ≠ g := by omega
  have i1 : (0 : Int) ≤ (F : Int) := by omega
  have i2 : (F : Int) < 4 := by omega
  have FF := Lib.hid hf
  clear hf hx
  go_enter Try.func135, Try.ntmps135
  go_wp2
  have x1 : Ext w ((w.alloc (.cells #[.int .i64 F] 119)).alloc (.cells #[.int .i64 3, .int .i64 x] 32)) := Ext.alloc (Ext.alloc (Ext.refl _) _) _
  exact bodyPost_ret (v := .agg #[.int .i64 3, .int .i64 x]) (by simp [results, Try.results135, go_sem]) rfl ⟨rfl, FF.out.ext x1, grown_of_ext x1 _⟩

set_option maxRecDepth 100000 in
set_option maxHeartbeats 2000000 in
theorem idleness_any (B : Nat) (u : Value) (l : List Int) (w : World) (hf : Fresh B w u l) :
    Calls Try.prog 136 #[.agg #[], u] w (DidTo B u l 0 0 w) := by
  go_enter Try.func136, Try.ntmps136
  go_wp2
  have x1 : Ext w ((w.alloc (.cells #[] 121)).alloc (.cells #[.int .i64 0, .int .i64 0] 32)) := Ext.alloc (Ext.alloc (Ext.refl _) _) _
  exact bodyPost_ret (v := .agg #[.int .i64 0, .int .i64 0]) (by simp [results, Try.results136, go_sem]) rfl ⟨rfl, hf.ext x1, grown_of_ext x1 _⟩

/-- What is done: a good command in its value. -/
def deedV (k f t a : Int) : Value := if k = 1 then .iface 117 (.agg #[.int .i64 f, .int .i64 t, .int .i64 a]) else if k = 2 then .iface 119 (.agg #[.int .i64 f]) else .iface 121 (.agg #[])

set_option maxHeartbeats 2000000 in
theorem deedOf_1 (i f t a : Int) (w : World) :
    Calls Try.prog 52 #[.agg #[.int .i64 1, .int .i64 i, .int .i64 f, .int .i64 t, .int .i64 a]] w fun e w' => e = .returned (deedV 1 f t a) ∧ Ext w w' := by
  go_enter Try.func52, Try.ntmps52
  go_wp2
  go_ret
  exact ⟨rfl, Ext.alloc (Ext.refl _) _⟩

set_option maxHeartbeats 2000000 in
theorem deedOf_2 (i f t a : Int) (w : World) :
    Calls Try.prog 52 #[.agg #[.int .i64 2, .int .i64 i, .int .i64 f, .int .i64 t, .int .i64 a]] w fun e w' => e = .returned (deedV 2 f t a) ∧ Ext w w' := by
  go_enter Try.func52, Try.ntmps52
  go_wp2
  go_ret
  exact ⟨rfl, Ext.alloc (Ext.refl _) _⟩

set_option maxHeartbeats 2000000 in
theorem deedOf_0 (i f t a : Int) (w : World) :
    Calls Try.prog 52 #[.agg #[.int .i64 0, .int .i64 i, .int .i64 f, .int .i64 t, .int .i64 a]] w fun e w' => e = .returned (deedV 0 f t a) ∧ Ext w w' := by
  go_enter Try.func52, Try.ntmps52
  go_wp2
  go_ret
  exact ⟨rfl, Ext.alloc (Ext.refl _) _⟩

/-- What good sums come to, and what is told: a good command done to them. -/
def didL (k f t a : Int) (l : List Int) : List Int := if k = 1 then (if (l[f.toNat]?.getD 0) < a then l else (l.set f.toNat ((l[f.toNat]?.getD 0) - a)).set t.toNat ((l[t.toNat]?.getD 0) + a)) else l
def didC (k f a : Int) (l : List Int) : Int := if k = 1 then (if (l[f.toNat]?.getD 0) < a then 2 else 1) else if k = 2 then 3 else 0
def didS (k f : Int) (l : List Int) : Int := if k = 2 then (l[f.toNat]?.getD 0) else 0

end Go.Proofs.Ytfffddhfagibpaa
