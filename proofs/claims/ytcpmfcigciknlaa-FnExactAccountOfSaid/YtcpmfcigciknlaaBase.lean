/- Plain facts on worlds and on slices of integers that every walk of this seat uses; no program text is named here. -/
import Derived.WalkKit
import Derived.WalkSmall
import Derived.Lib.Hide
import Derived.Deep.QuietTactic
import Derived.BigQuiet
import Derived.Maps.AppendAt
namespace Go.Proofs.Ytcpmfcigciknlaa
open Go.RowKit

/-- w' is w with new blocks: whatever lay in w lies there unchanged. -/
def Ext (w w' : World) : Prop := Below w.heap.size w w'
theorem Ext.refl (w : World) : Ext w w := Below.refl _ _
theorem Ext.trans {a b c : World} (h : Ext a b) (k : Ext b c) : Ext a c := Below.trans h (k.mono h.size)
theorem Ext.drew {a b : World} (h : Ext a b) : Ext a b.drew := Below.drew h
theorem Ext.drewN {a b : World} (h : Ext a b) (n : Nat) : Ext a (b.drewN n) := by
  exact below_drewN h n
theorem Ext.alloc {a b : World} (h : Ext a b) (o : Obj) : Ext a (b.alloc o) := Below.alloc h h.size o
theorem Ext.size {a b : World} (h : Ext a b) : a.heap.size ≤ b.heap.size := Below.size h
theorem Ext.cell {w w' : World} (h : Ext w w') {a : Addr} {v : Value} (hc : w.cell? a = some v) : w'.cell? a = some v :=
  (Below.cell h (World.block_lt_of_cell? w a hc)).trans hc
theorem Ext.block {w w' : World} (h : Ext w w') {k : Nat} {o : Obj} (hc : w.heap[k]? = some o) : w'.heap[k]? = some o :=
  (Below.block h k (Array.getElem?_eq_some_iff.1 hc).1).trans hc

/-- v is a slice that reads as the integers l in w. -/
def Ints (w : World) (v : Value) (l : List Int) : Prop :=
  ∃ ao cap, v = .slice ao l.length cap ∧ l.length ≤ maxLen ∧ (l.length ≤ cap ∧ cap ≤ maxLen ∧ (ao = none → cap = 0)) ∧ (0 < l.length → ∃ b off, ao = some ⟨b, off, none⟩ ∧ ∀ j, j < l.length → w.cell? ⟨b, off + j, none⟩ = some (.int .i64 (l[j]?.getD 0)))

theorem Ints.ext {w w' : World} {v : Value} {l : List Int} (h : Ints w v l) (e : Ext w w') : Ints w' v l := by
  obtain ⟨ao, cap, hv, hm, hcap, hc⟩ := h
  refine ⟨ao, cap, hv, hm, hcap, fun hp => ?_⟩
  obtain ⟨b, off, ha, hc⟩ := hc hp
  exact ⟨b, off, ha, fun j hj => e.cell (hc j hj)⟩

theorem Ints.nil (w : World) : Ints w (.slice none 0 0) [] := ⟨none, 0, rfl, by simp, ⟨by simp, by simp, fun _ => rfl⟩, fun h => by simp at h⟩

theorem Ext.ownsRow {w w' : World} {B e sz : Nat} {v : Value} {n : Nat} {xs : List Value} (h : Ext w w') (ho : w.ownsRow B e sz v n xs) : w'.ownsRow B e sz v n xs := by
  refine ⟨ho.1, ?_⟩
  rcases ho.2 with hn | ⟨g, cap, cur, rfl, hb, hgg, rest⟩
  · exact .inl hn
  · exact .inr ⟨g, cap, cur, rfl, hb, h.block hgg, rest⟩

/-- v is a slice of integers of a block that was made from block number B on. -/
def Fresh (B : Nat) (w : World) (v : Value) (l : List Int) : Prop := w.ownsRow B 3 1 v l.length (l.map (Value.int .i64))

theorem Fresh.ext {B : Nat} {w w' : World} {v : Value} {l : List Int} (h : Fresh B w v l) (e : Ext w w') : Fresh B w' v l := e.ownsRow h
theorem Fresh.more {B B' : Nat} {w : World} {v : Value} {l : List Int} (h : Fresh B w v l) (hb : B' ≤ B) : Fresh B' w v l := by
  refine ⟨h.1, ?_⟩
  rcases h.2 with hn | ⟨g, cap, cur, rfl, hbg, rest⟩
  · exact .inl hn
  · exact .inr ⟨g, cap, cur, rfl, by omega, rest⟩
theorem Fresh.ints {B : Nat} {w : World} {v : Value} {l : List Int} (h : Fresh B w v l) : Ints w v l := by
  rcases h.2 with ⟨rfl, hn⟩ | ⟨g, cap, cur, rfl, hb, hg, hnc, hcm, hcs, htake⟩
  · obtain rfl : l = [] := List.eq_nil_of_length_eq_zero hn
    exact Ints.nil w
  · refine ⟨some ⟨g, 0, none⟩, cap, rfl, by omega, ⟨by omega, by omega, fun h => by cases h⟩, fun _ => ⟨g, 0, rfl, fun j hj => ?_⟩⟩
    have := World.ownsRow.cellAt h j (by omega)
    rw [Nat.zero_add, this]
    simp [List.getElem?_eq_getElem hj]

theorem ext_of_grown {w w' : World} (h : w.grownBy w' none) : Ext w w' := ⟨h.os, h.tape, h.output, h.size, fun k hk => h.block k hk (by simp)⟩

theorem Ext.below {B : Nat} {w0 w w' : World} (h : Below B w0 w) (e : Ext w w') (hB : B ≤ w.heap.size) : Below B w0 w' := h.trans (Below.mono e hB)

theorem Fresh.touch {B : Nat} {w w' : World} {v u : Value} {l : List Int} (h : Fresh B w v l) (t : w.grownBy w' u.ownBlock) (ap : v.ownBlock = none ∨ v.ownBlock ≠ u.ownBlock) : Fresh B w' v l := World.ownsRow.kept h t ap
/-- A slice that was made later lies in another block. -/
theorem Fresh.apart {B B' : Nat} {w w' : World} {v u : Value} {l r : List Int} (h : Fresh B w v l) (k : Fresh B' w' u r) (hle : w.heap.size ≤ B') : u.ownBlock = none ∨ u.ownBlock ≠ v.ownBlock := by
  cases hu : u.ownBlock with
  | none => exact .inl rfl
  | some g =>
    refine .inr fun e => ?_
    have h1 := (World.ownsRow.lt h g e.symm).2
    have h2 := (World.ownsRow.lt k g hu).1
    omega
theorem Fresh.apart' {B B' : Nat} {w w' : World} {v u : Value} {l r : List Int} (h : Fresh B w v l) (k : Fresh B' w' u r) (hle : w.heap.size ≤ B') : v.ownBlock = none ∨ v.ownBlock ≠ u.ownBlock := by
  cases hv : v.ownBlock with
  | none => exact .inl rfl
  | some g =>
    refine .inr fun e => ?_
    have h1 := (World.ownsRow.lt h g hv).2
    have h2 := (World.ownsRow.lt k g e.symm).1
    omega
theorem Ext.touch {w0 w w' : World} {v : Value} {l : List Int} (h : Ext w0 w) (hv : Fresh w0.heap.size w v l) (t : w.grownBy w' v.ownBlock) : Ext w0 w' :=
  Below.grown h t h.size (fun k hk => (World.ownsRow.lt hv k hk).1)

end Go.Proofs.Ytcpmfcigciknlaa
