/- Texts of this proof, part a: words, plain facts, contracts. -/
import Derived.WalkKit
import Derived.WalkSmall
import Derived.Lib.Hide
import Derived.Deep.QuietTactic
import Derived.BigQuiet
import Derived.Maps.AppendAt
import Derived.Test.YtihknedmkkakhaaChecked
import Derived.Lib.BufferOwn
import Derived.OwnWalk
import Derived.Deep.RegionLaw
import Derived.Deep.AppendLies
import Derived.OpenShut
import Derived.SizedLaws
import Derived.Deep.RegionHeld3
import Derived.Laws.AppendOwnNone
import Derived.Laws.OwnMore

namespace Go.Proofs.Ytihknedmkkakhaa
open Go.RowKit

/-- w' is w with new blocks: whatever lay in w lies there unchanged. -/
def Ext (w w' : World) : Prop := Below w.heap.size w w'
theorem Ext.refl (w : World) : Ext w w := Below.refl _ _
theorem Ext.trans {a b c : World} (h : Ext a b) (k : Ext b c) : Ext a c := Below.trans h (k.mono h.size)
theorem Ext.drew {a b : World} (h : Ext a b) : Ext a b.drew := Below.drew h
theorem Ext.drewN {a b : World} (h : Ext a b) (n : Nat) : Ext a (b.drewN n) := by
  exact below_drewN h n
theorem Ext.alloc {a b : World} (h : Ext a b) (o : Obj) : Ext a (b.alloc o) := Below.alloc h h.size o
theorem Ext.size {a b : World} (h : Ext a b) : a.heap.size ≤ b.heap.size := Below.size h
theorem Ext.cell {w w' : World} (h : Ext w w') {a : Addr} {v : Value} (hc : w.cell? a = some v) : w'.cell? a = some v :=
  (Below.cell h (World.block_lt_of_cell? w a hc)).trans hc
theorem Ext.block {w w' : World} (h : Ext w w') {k : Nat} {o : Obj} (hc : w.heap[k]? = some o) : w'.heap[k]? = some o :=
  (Below.block h k (Array.getElem?_eq_some_iff.1 hc).1).trans hc

/-- v is a slice that reads as the integers l in w. -/
def Ints (w : World) (v : Value) (l : List Int) : Prop :=
  ∃ ao cap, v = .slice ao l.length cap ∧ l.length ≤ maxLen ∧ (l.length ≤ cap ∧ cap ≤ maxLen ∧ (ao = none → cap = 0)) ∧ (0 < l.length → ∃ b off, ao = some ⟨b, off, none⟩ ∧ ∀ j, j < l.length → w.cell? ⟨b, off + j, none⟩ = some (.int .i64 (l[j]?.getD 0)))

theorem Ints.ext {w w' : World} {v : Value} {l : List Int} (h : Ints w v l) (e : Ext w w') : Ints w' v l := by
  obtain ⟨ao, cap, hv, hm, hcap, hc⟩ := h
  refine ⟨ao, cap, hv, hm, hcap, fun hp => ?_⟩
  obtain ⟨b, off, ha, hc⟩ := hc hp
  exact ⟨b, off, ha, fun j hj => e.cell (hc j hj)⟩

theorem Ints.nil (w : World) : Ints w (.slice none 0 0) [] := ⟨none, 0, rfl, by simp, ⟨by simp, by simp, fun _ => rfl⟩, fun h => by simp at h⟩

theorem Ext.ownsRow {w w' : World} {B e sz : Nat} {v : Value} {n : Nat} {xs : List Value} (h : Ext w w') (ho : w.ownsRow B e sz v n xs) : w'.ownsRow B e sz v n xs := by
  refine ⟨ho.1, ?_⟩
  rcases ho.2 with hn | ⟨g, cap, cur, rfl, hb, hgg, rest⟩
  · exact .inl hn
  · exact .inr ⟨g, cap, cur, rfl, hb, h.block hgg, rest⟩

/-- v is a slice of integers of a block that was made from block number B on. -/
def Fresh (B : Nat) (w : World) (v : Value) (l : List Int) : Prop := w.ownsRow B 3 1 v l.length (l.map (Value.int .i64))

theorem Fresh.ext {B : Nat} {w w' : World} {v : Value} {l : List Int} (h : Fresh B w v l) (e : Ext w w') : Fresh B w' v l := e.ownsRow h
theorem Fresh.more {B B' : Nat} {w : World} {v : Value} {l : List Int} (h : Fresh B w v l) (hb : B' ≤ B) : Fresh B' w v l := by
  refine ⟨h.1, ?_⟩
  rcases h.2 with hn | ⟨g, cap, cur, rfl, hbg, rest⟩
  · exact .inl hn
  · exact .inr ⟨g, cap, cur, rfl, by omega, rest⟩
theorem Fresh.ints {B : Nat} {w : World} {v : Value} {l : List Int} (h : Fresh B w v l) : Ints w v l := by
  rcases h.2 with ⟨rfl, hn⟩ | ⟨g, cap, cur, rfl, hb, hg, hnc, hcm, hcs, htake⟩
  · obtain rfl : l = [] := List.eq_nil_of_length_eq_zero hn
    exact Ints.nil w
  · refine ⟨some ⟨g, 0, none⟩, cap, rfl, by omega, ⟨by omega, by omega, fun h => by cases h⟩, fun _ => ⟨g, 0, rfl, fun j hj => ?_⟩⟩
    have := World.ownsRow.cellAt h j (by omega)
    rw [Nat.zero_add, this]
    simp [List.getElem?_eq_getElem hj]

theorem ext_of_grown {w w' : World} (h : w.grownBy w' none) : Ext w w' := ⟨h.os, h.tape, h.output, h.size, fun k hk => h.block k hk (by simp)⟩

theorem Ext.below {B : Nat} {w0 w w' : World} (h : Below B w0 w) (e : Ext w w') (hB : B ≤ w.heap.size) : Below B w0 w' := h.trans (Below.mono e hB)

theorem Fresh.touch {B : Nat} {w w' : World} {v u : Value} {l : List Int} (h : Fresh B w v l) (t : w.grownBy w' u.ownBlock) (ap : v.ownBlock = none ∨ v.ownBlock ≠ u.ownBlock) : Fresh B w' v l := World.ownsRow.kept h t ap
/-- A slice that was made later lies in another block. -/
theorem Fresh.apart {B B' : Nat} {w w' : World} {v u : Value} {l r : List Int} (h : Fresh B w v l) (k : Fresh B' w' u r) (hle : w.heap.size ≤ B') : u.ownBlock = none ∨ u.ownBlock ≠ v.ownBlock := by
  cases hu : u.ownBlock with
  | none => exact .inl rfl
  | some g =>
    refine .inr fun e => ?_
    have h1 := (World.ownsRow.lt h g e.symm).2
    have h2 := (World.ownsRow.lt k g hu).1
    omega
theorem Fresh.apart' {B B' : Nat} {w w' : World} {v u : Value} {l r : List Int} (h : Fresh B w v l) (k : Fresh B' w' u r) (hle : w.heap.size ≤ B') : v.ownBlock = none ∨ v.ownBlock ≠ u.ownBlock := by
  cases hv : v.ownBlock with
  | none => exact .inl rfl
  | some g =>
    refine .inr fun e => ?_
    have h1 := (World.ownsRow.lt h g hv).2
    have h2 := (World.ownsRow.lt k g e.symm).1
    omega
theorem Ext.touch {w0 w w' : World} {v : Value} {l : List Int} (h : Ext w0 w) (hv : Fresh w0.heap.size w v l) (t : w.grownBy w' v.ownBlock) : Ext w0 w' :=
  Below.grown h t h.size (fun k hk => (World.ownsRow.lt hv k hk).1)

end Go.Proofs.Ytihknedmkkakhaa

namespace Go.Proofs.Ytihknedmkkakhaa
open Go.RowKit

/-- A Bool comes back, and the world is as it was but for new blocks. -/
def BoolExt (b : Bool) (w : World) (e : Ending) (w' : World) : Prop := e = .returned (.bool b) ∧ Ext w w'
def IntExt (n : Int) (w : World) (e : Ending) (w' : World) : Prop := e = .returned (.int .i64 n) ∧ Ext w w'

theorem take_eq_succ {l r : List Int} {k : Nat} (h1 : k < l.length) (h2 : k < r.length) (h : l.take k = r.take k) (he : l[k]?.getD 0 = r[k]?.getD 0) : l.take (k + 1) = r.take (k + 1) := by
  simp [List.getElem?_eq_getElem h1, List.getElem?_eq_getElem h2] at he
  rw [List.take_add_one, List.take_add_one, h, List.getElem?_eq_getElem h1, List.getElem?_eq_getElem h2, he]

theorem Try.infoInt : (Try.prog.info? 3).map (fun i => (i.zero, i.size, i.bytes)) = some (some (.int .i64 0), 1, 8) := by kernel_rfl

/-- A slice in new memory comes back that reads as l. -/
def NewInts (l : List Int) (w : World) (e : Ending) (w' : World) : Prop := ∃ v, e = .returned v ∧ Fresh w.heap.size w' v l ∧ Ext w w'

/-- A slice in new memory and a Bool come back. -/
def TwoInts (l : List Int) (b : Bool) (w : World) (e : Ending) (w' : World) : Prop := ∃ v, e = .returned (.tuple #[v, .bool b]) ∧ Fresh w.heap.size w' v l ∧ Ext w w'

theorem fresh_nil (B : Nat) (w : World) : Fresh B w (.slice none 0 0) [] := World.ownsRow_nil _ _ _ _

def inB (n lo hi : Int) : Bool := decide (lo ≤ n) && decide (n ≤ hi)
theorem inB_yes {n lo hi : Int} (h1 : lo ≤ n) (h2 : n ≤ hi) : inB n lo hi = true := by simp [inB, h1, h2]
theorem inB_no {n lo hi : Int} (h : ¬ (lo ≤ n ∧ n ≤ hi)) : inB n lo hi = false := by
  unfold inB; rw [Bool.and_eq_false_iff]; simp only [decide_eq_false_iff_not]; omega

def allIn (l : List Int) (lo hi : Int) : Bool := l.all fun x => inB x lo hi

theorem all_take_succ {l : List Int} {k : Nat} (h : k < l.length) (p : Int → Bool) (ht : (l.take k).all p = true) (hp : p (l[k]?.getD 0) = true) : (l.take (k + 1)).all p = true := by
  simp [List.getElem?_eq_getElem h] at hp
  rw [List.take_add_one, List.all_append, ht, List.getElem?_eq_getElem h]
  simpa using hp
theorem all_false_at {l : List Int} {k : Nat} (h : k < l.length) (p : Int → Bool) (hp : p (l[k]?.getD 0) = false) : l.all p = false := by
  simp [List.getElem?_eq_getElem h] at hp
  rw [List.all_eq_false]
  exact ⟨l[k], List.getElem_mem h, by rw [hp]; simp⟩

def hasI (l : List Int) (n : Int) : Bool := l.any fun x => x == n
theorem any_take_succ {l : List Int} {k : Nat} (h : k < l.length) (p : Int → Bool) (ht : (l.take k).any p = false) (hp : p (l[k]?.getD 0) = false) : (l.take (k + 1)).any p = false := by
  simp [List.getElem?_eq_getElem h] at hp
  rw [List.take_add_one, List.any_append, ht, List.getElem?_eq_getElem h]
  simpa using hp
theorem any_true_at {l : List Int} {k : Nat} (h : k < l.length) (p : Int → Bool) (hp : p (l[k]?.getD 0) = true) : l.any p = true := by
  simp [List.getElem?_eq_getElem h] at hp
  rw [List.any_eq_true]
  exact ⟨l[k], List.getElem_mem h, hp⟩


def wf64 (n : Int) : Prop := (Lit.int .i64 n).wf = true
/-- Two Bools come back. -/
def TwoB (a b : Bool) (w : World) (e : Ending) (w' : World) : Prop := e = .returned (.tuple #[.bool a, .bool b]) ∧ Ext w w'

theorem step2 {wb W W' : World} {a b : Addr} {u v : Value} (x : Ext W W') (h : Ext wb W ∧ W.cell? a = some u ∧ W.cell? b = some v) : Ext wb W' ∧ W'.cell? a = some u ∧ W'.cell? b = some v :=
  ⟨h.1.trans x, x.cell h.2.1, x.cell h.2.2⟩
theorem step4 {wb W W' : World} {a b c d : Addr} {u v r s : Value} (x : Ext W W') (h : Ext wb W ∧ W.cell? a = some u ∧ W.cell? b = some v ∧ W.cell? c = some r ∧ W.cell? d = some s) : Ext wb W' ∧ W'.cell? a = some u ∧ W'.cell? b = some v ∧ W'.cell? c = some r ∧ W'.cell? d = some s :=
  ⟨h.1.trans x, x.cell h.2.1, x.cell h.2.2.1, x.cell h.2.2.2.1, x.cell h.2.2.2.2⟩

end Go.Proofs.Ytihknedmkkakhaa

namespace Go.Proofs.Ytihknedmkkakhaa
open Go.RowKit
set_option linter.unusedVariables false

/-- A slice that reads as N bytes, off the block b. -/
def BytesAt (w : World) (b : Nat) (v : Value) (N : Nat) : Prop :=
  ∃ ao cap, v = .slice ao N cap ∧ N ≤ 1099511627776 ∧ (0 < N → ∃ g o, ao = some ⟨g, o, none⟩ ∧ g ≠ b ∧ ∀ j, j < N → ∃ x : Int, w.cell? ⟨g, o + j, none⟩ = some (.int .u8 x) ∧ 0 ≤ x ∧ x ≤ 255)
/-- The cursor lies in the block b, and may be written; it has gone m steps at most. -/
def CurAt (w : World) (b m : Nat) (v : Value) (N : Nat) : Prop :=
  w.cell? ⟨b, 0, none⟩ = some v ∧ (∃ p : Int, 0 ≤ p ∧ p ≤ m ∧ w.cell? ⟨b, 1, none⟩ = some (.int .i64 p)) ∧ (∃ q : Int, w.cell? ⟨b, 2, none⟩ = some (.int .u64 q)) ∧
  (w.frozen? ⟨b, 0, none⟩ = false ∧ w.frozen? ⟨b, 1, none⟩ = false ∧ w.frozen? ⟨b, 2, none⟩ = false) ∧ BytesAt w b v N
/-- A number of a range comes back, and the cursor alone is turned. -/
def Drawn (b m : Nat) (v : Value) (N : Nat) (lo hi : Int) (w : World) (e : Ending) (w' : World) : Prop :=
  ∃ x : Int, e = .returned (.int .i64 x) ∧ lo ≤ x ∧ x ≤ hi ∧ CurAt w' b m v N ∧ w.grownBy w' (some b)

theorem cell_off {W : World} {g o : Nat} {a : Addr} {z u : Value} (hne : a.block ≠ g) (h : W.cell? a = some u) : (W.setCell ⟨g, o, none⟩ z).cell? a = some u := by
  have hh := Below.heap_setCell W ⟨g, o, none⟩ z a.block hne
  have e : (W.setCell ⟨g, o, none⟩ z).cell? a = W.cell? a := by unfold World.cell?; rw [hh]
  rw [e]; exact h
theorem cur_set (W : World) (b o : Nat) (v : Value) : W.grownBy (W.setCell ⟨b, o, none⟩ v) (some b) :=
  ⟨rfl, rfl, rfl, by simp, fun k _ hk => heap_setCell_other _ _ _ _ (by intro e; subst e; exact hk rfl)⟩
theorem grownBy_drewN {w w' : World} {row : Option Nat} (h : w.grownBy w' row) (n : Nat) : w.grownBy (w'.drewN n) row := ⟨h.os, h.tape, h.output, h.size, h.block⟩
theorem BytesAt.set {w : World} {b : Nat} {v : Value} {N : Nat} (h : BytesAt w b v N) (o : Nat) (z : Value) : BytesAt (w.setCell ⟨b, o, none⟩ z) b v N := by
  obtain ⟨ao, cap, hv, hN, hc⟩ := h
  refine ⟨ao, cap, hv, hN, fun hp => ?_⟩
  obtain ⟨g, off, ha, hg, hc⟩ := hc hp
  refine ⟨g, off, ha, hg, fun j hj => ?_⟩
  obtain ⟨x, hx, h0, h1⟩ := hc j hj
  exact ⟨x, cell_off hg hx, h0, h1⟩
theorem bits255 (y : Int) : 0 ≤ wrap64 (bits .and .u64 y 255) ∧ wrap64 (bits .and .u64 y 255) ≤ 255 := by
  obtain ⟨n, hn⟩ : ∃ n : Nat, n = ((BitVec.ofInt IntKind.u64.bits y) &&& (BitVec.ofInt IntKind.u64.bits 255)).toNat := ⟨_, rfl⟩
  have h1 : n ≤ 255 := by
    rw [hn, BitVec.toNat_and]
    exact Nat.le_trans Nat.and_le_right (by decide)
  have e : bits .and .u64 y 255 = IntKind.u64.wrap (n : Int) := by rw [hn]; rfl
  have e2 : IntKind.u64.wrap (n : Int) = n := by simp [IntKind.wrap, IntKind.bits, IntKind.signed]; omega
  rw [e, e2]
  unfold wrap64
  omega
theorem cur_step {b m : Nat} {v : Value} {N : Nat} {w : World} (h : CurAt w b m v N) (p q : Int) (hp0 : 0 ≤ p) (hp1 : p ≤ m) (n1 n2 : Nat) :
    CurAt ((((w.drewN n1).setCell ⟨b, 1, none⟩ (.int .i64 (p + 1))).setCell ⟨b, 2, none⟩ (.int .u64 q)).drewN n2) b (m + 1) v N ∧ w.grownBy ((((w.drewN n1).setCell ⟨b, 1, none⟩ (.int .i64 (p + 1))).setCell ⟨b, 2, none⟩ (.int .u64 q)).drewN n2) (some b) := by
  obtain ⟨c0, ⟨p', hp0', hp1', c1⟩, ⟨q', c2⟩, ⟨z0, z1, z2⟩, hB⟩ := h
  refine ⟨⟨?_, ⟨p + 1, by omega, by omega, ?_⟩, ⟨q, ?_⟩, ⟨?_, ?_, ?_⟩, ?_⟩, grownBy_drewN ?_ _⟩
  · go_simp
  · go_simp
  · go_simp
  · go_simp
  · go_simp
  · go_simp
  · have hB1 : BytesAt (w.drewN n1) b v N := hB
    exact (hB1.set 1 (.int .i64 (p + 1))).set 2 (.int .u64 q)
  · exact Lib.grownBy_trans (grownBy_drewN (World.grownBy.refl w (some b)) n1) (Lib.grownBy_trans (cur_set _ b 1 _) (cur_set _ b 2 _))

set_option maxRecDepth 100000 in
set_option maxHeartbeats 2000000 in
theorem next_any (b m : Nat) (v : Value) (N : Nat) (w : World) (h : CurAt w b m v N) (hm : m ≤ 1099511627776) :
    Calls Try.prog 98 #[.pointer (some ⟨b, 0, none⟩)] w (Drawn b (m + 1) v N 0 255 w) := by
  have HC := Lib.hid h
  obtain ⟨c0, ⟨p, hp0, hp1, c1⟩, ⟨q, c2⟩, ⟨z0, z1, z2⟩, ⟨ao, cap, rfl, hN, hc⟩⟩ := h
  by_cases hlt : p < N
  · obtain ⟨g, o, rfl, hg, hc⟩ := hc (by omega)
    obtain ⟨x, gx, hx0, hx1⟩ := hc p.toNat (by omega)
    have i2 : p ≤ N := by omega
    have i3 : p + 1 ≤ N := by omega
    clear hc
    go_enter Try.func98, Try.ntmps98
    go_wp2
    go_quiet (fail)
    go_wp2
    go_quiet (fail)
    go_wp2
    go_quiet (fail)
    go_wp2
    go_ret
    obtain ⟨k1, k2⟩ := cur_step HC.out p _ hp0 hp1 _ _
    exact ⟨x, rfl, hx0, hx1, k1, k2⟩
  · have i2 : ¬ p + 1 ≤ N := by omega
    clear hc
    go_enter Try.func98, Try.ntmps98
    go_wp2
    go_quiet (fail)
    go_wp2
    go_quiet (fail)
    go_wp2
    go_ret
    obtain ⟨k1, k2⟩ := cur_step HC.out p _ hp0 hp1 _ _
    exact ⟨_, rfl, (bits255 _).1, (bits255 _).2, k1, k2⟩

theorem CurAt.mono {w : World} {b m m' : Nat} {v : Value} {N : Nat} (h : CurAt w b m v N) (hm : m ≤ m') : CurAt w b m' v N := by
  obtain ⟨c0, ⟨p, h0, h1, c1⟩, r⟩ := h
  exact ⟨c0, ⟨p, h0, by omega, c1⟩, r⟩
theorem mod_in (x : Int) {n : Int} (hn : 1 < n) : 0 ≤ x % n ∧ x % n ≤ n - 1 := ⟨Int.emod_nonneg _ (by omega), by have := Int.emod_lt_of_pos x (show 0 < n by omega); omega⟩

set_option maxRecDepth 100000 in
set_option maxHeartbeats 2000000 in
theorem pick_any (n : Int) (b m : Nat) (v : Value) (N : Nat) (w : World) (h : CurAt w b m v N) (hm : m ≤ 1099511627775) (h1 : 1 ≤ n) (hn : n ≤ 65536) :
    Calls Try.prog 50 #[.pointer (some ⟨b, 0, none⟩), .int .i64 n] w (Drawn b (m + 2) v N 0 (n - 1) w) := by
  have HC := Lib.hid h
  clear h
  by_cases hn1 : n ≤ 1
  · obtain rfl : n = 1 := by omega
    go_enter Try.func50, Try.ntmps50
    go_wp2
    go_ret
    exact ⟨0, rfl, by omega, by omega, HC.out.mono (by omega), World.grownBy.refl _ _⟩
  · have n1 : 1 < n := by omega
    go_enter Try.func50, Try.ntmps50
    go_wp2_with fail
    refine (next_any b m v N _ HC.out (by omega)).mono ?_
    rintro e w1 ⟨x, rfl, hx0, hx1, C1, T1⟩
    have HC1 := Lib.hid C1
    have HT1 := Lib.hid T1
    clear C1 T1
    by_cases h200 : 200 < n
    · have ne : n ≠ 0 := by omega
      go_wp2_with fail
      refine (next_any b (m + 1) v N _ HC1.out (by omega)).mono ?_
      rintro e w2 ⟨y, rfl, hy0, hy1, C2, T2⟩
      have HC2 := Lib.hid C2
      have HT2 := Lib.hid (Lib.grownBy_trans HT1.out T2)
      obtain ⟨t0, t1⟩ := mod_in (x * 256 + y) n1
      clear C2 T2
      go_wp2
      go_ret
      exact ⟨_, rfl, t0, t1, HC2.out, HT2.out⟩
    · obtain ⟨t0, t1⟩ := mod_in x n1
      have ne : n ≠ 0 := by omega
      go_wp2
      go_ret
      exact ⟨_, rfl, t0, t1, HC1.out.mono (by omega), HT1.out⟩

end Go.Proofs.Ytihknedmkkakhaa

namespace Go.Proofs.Ytihknedmkkakhaa
open Go.RowKit
set_option linter.unusedVariables false

theorem BytesAt.ext {w w' : World} {b : Nat} {v : Value} {N : Nat} (h : BytesAt w b v N) (e : Ext w w') : BytesAt w' b v N := by
  obtain ⟨ao, cap, rfl, hN, hc⟩ := h
  refine ⟨ao, cap, rfl, hN, fun hp => ?_⟩
  obtain ⟨g, off, rfl, hg, hc⟩ := hc hp
  refine ⟨g, off, rfl, hg, fun j hj => ?_⟩
  obtain ⟨x, hx, h0, h1⟩ := hc j hj
  exact ⟨x, e.cell hx, h0, h1⟩
theorem CurAt.ext {w w' : World} {b m : Nat} {v : Value} {N : Nat} (h : CurAt w b m v N) (e : Ext w w') : CurAt w' b m v N := by
  obtain ⟨c0, ⟨p, h0, h1, c1⟩, ⟨q, c2⟩, ⟨z0, z1, z2⟩, hB⟩ := h
  have hl : b < w.heap.size := World.block_lt_of_cell? w _ c0
  exact ⟨e.cell c0, ⟨p, h0, h1, e.cell c1⟩, ⟨q, e.cell c2⟩, ⟨(Below.frozen e (p := ⟨b, 0, none⟩) hl).trans z0, (Below.frozen e (p := ⟨b, 1, none⟩) hl).trans z1, (Below.frozen e (p := ⟨b, 2, none⟩) hl).trans z2⟩, hB.ext e⟩
def DrawnB (b m : Nat) (v : Value) (N : Nat) (w : World) (e : Ending) (w' : World) : Prop :=
  ∃ x : Bool, e = .returned (.bool x) ∧ CurAt w' b m v N ∧ w.grownBy w' (some b)
theorem BytesAt.turned {w w' : World} {b : Nat} {v : Value} {N : Nat} (h : BytesAt w b v N) (t : w.grownBy w' (some b)) : BytesAt w' b v N := by
  obtain ⟨ao, cap, rfl, hN, hc⟩ := h
  refine ⟨ao, cap, rfl, hN, fun hp => ?_⟩
  obtain ⟨g, off, rfl, hg, hc⟩ := hc hp
  refine ⟨g, off, rfl, hg, fun j hj => ?_⟩
  obtain ⟨x, hx, h0, h1⟩ := hc j hj
  exact ⟨x, World.grownBy.cell t hx (by simpa using hg), h0, h1⟩
theorem CurAt.set {w : World} {b m g o : Nat} {v z : Value} {N : Nat} (h : CurAt w b m v N) (hne : b ≠ g) (hB : BytesAt (w.setCell ⟨g, o, none⟩ z) b v N) : CurAt (w.setCell ⟨g, o, none⟩ z) b m v N := by
  obtain ⟨c0, ⟨p, h0, h1, c1⟩, ⟨q, c2⟩, ⟨z0, z1, z2⟩, _⟩ := h
  exact ⟨cell_off hne c0, ⟨p, h0, h1, cell_off hne c1⟩, ⟨q, cell_off hne c2⟩, ⟨by rw [World.frozen?_setCell]; exact z0, by rw [World.frozen?_setCell]; exact z1, by rw [World.frozen?_setCell]; exact z2⟩, hB⟩
theorem grownBy_undrew {w w' : World} {row : Option Nat} (T : w.drew.grownBy w' row) : w.grownBy w' row := ⟨T.os, T.tape, T.output, T.size, T.block⟩
theorem grownBy_new {w w' : World} {row : Option Nat} (h : w.grownBy w' row) {g : Nat} (hg : w.heap.size ≤ g) (o : Nat) (v : Value) : w.grownBy (w'.setCell ⟨g, o, none⟩ v) row :=
  ⟨h.os, h.tape, h.output, Nat.le_trans h.size (Below.setCell (Below.refl 0 w') (Nat.zero_le _) v).size, fun k hk hne => by
    rw [Below.heap_setCell w' ⟨g, o, none⟩ v k (by dsimp only; omega)]
    exact h.block k hk hne⟩
theorem BytesAt.grown {w w' : World} {b : Nat} {v : Value} {N : Nat} {row : Option Nat} (h : BytesAt w b v N) (t : w.grownBy w' row) (hr : ∀ g, v.ownBlock = some g → some g ≠ row) : BytesAt w' b v N := by
  obtain ⟨ao, cap, rfl, hN, hc⟩ := h
  refine ⟨ao, cap, rfl, hN, fun hp => ?_⟩
  obtain ⟨g, off, rfl, hg, hc⟩ := hc hp
  refine ⟨g, off, rfl, hg, fun j hj => ?_⟩
  obtain ⟨x, hx, h0, h1⟩ := hc j hj
  exact ⟨x, World.grownBy.cell t hx (hr g rfl), h0, h1⟩

set_option maxRecDepth 100000 in
set_option maxHeartbeats 2000000 in
theorem one_any (n : Int) (b m : Nat) (v : Value) (N : Nat) (w : World) (h : CurAt w b m v N) (hm : m ≤ 1099511627775) (h1 : 1 ≤ n) (hn : n ≤ 65536) :
    Calls Try.prog 53 #[.pointer (some ⟨b, 0, none⟩), .int .i64 n] w (DrawnB b (m + 2) v N w) := by
  have HC := Lib.hid h
  clear h
  go_enter Try.func53, Try.ntmps53
  go_wp2_with fail
  refine (pick_any n b m v N _ HC.out hm h1 hn).mono ?_
  rintro e w1 ⟨x, rfl, _, _, C1, T1⟩
  go_wp2
  go_ret
  exact ⟨_, rfl, C1, T1⟩

/-- A slice that reads as N bytes. -/
def BytesIn (w : World) (v : Value) (N : Nat) : Prop :=
  ∃ ao cap, v = .slice ao N cap ∧ N ≤ 1099511627776 ∧ (0 < N → ∃ g o, ao = some ⟨g, o, none⟩ ∧ ∀ j, j < N → ∃ x : Int, w.cell? ⟨g, o + j, none⟩ = some (.int .u8 x) ∧ 0 ≤ x ∧ x ≤ 255)
theorem BytesIn.ext {w w' : World} {v : Value} {N : Nat} (h : BytesIn w v N) (e : Ext w w') : BytesIn w' v N := by
  obtain ⟨ao, cap, hv, hN, hc⟩ := h
  refine ⟨ao, cap, hv, hN, fun hp => ?_⟩
  obtain ⟨g, o, ha, hc⟩ := hc hp
  exact ⟨g, o, ha, fun j hj => by obtain ⟨x, hx, h0, h1⟩ := hc j hj; exact ⟨x, e.cell hx, h0, h1⟩⟩
theorem cur_new {w : World} {v : Value} {N : Nat} (h : BytesIn w v N) (T : TypeId) : CurAt (w.alloc (.cells #[v, .int .i64 0, .int .u64 0] T)) w.heap.size 0 v N := by
  refine ⟨by go_simp, ⟨0, by omega, by omega, by go_simp⟩, ⟨0, by go_simp⟩, ⟨by go_simp, by go_simp, by go_simp⟩, ?_⟩
  obtain ⟨ao, cap, hv, hN, hc⟩ := h
  refine ⟨ao, cap, hv, hN, fun hp => ?_⟩
  obtain ⟨g, o, ha, hc⟩ := hc hp
  obtain ⟨x, hx, _, _⟩ := hc 0 hp
  have hl : g < w.heap.size := World.block_lt_of_cell? w _ hx
  exact ⟨g, o, ha, by omega, fun j hj => by obtain ⟨x, hx, h0, h1⟩ := hc j hj; exact ⟨x, (Ext.alloc (Ext.refl w) _).cell hx, h0, h1⟩⟩
theorem ext_new_grown {w : World} {o : Obj} {w' : World} (h : (w.alloc o).grownBy w' (some w.heap.size)) : Ext w w' :=
  Below.grown (Ext.alloc (Ext.refl w) o) h (by simp) (fun k e => by cases e; exact Nat.le_refl _)

end Go.Proofs.Ytihknedmkkakhaa

namespace Go.Proofs.Ytihknedmkkakhaa
open Go.ChangeShapes Go.WideShapes Go.RowKit
set_option linter.unusedVariables false

/-- A slice that reads as N bytes, of whatever length memory has. -/
def BytesUp (w : World) (v : Value) (N : Nat) : Prop :=
  ∃ ao cap, v = .slice ao N cap ∧ N ≤ 140737488355328 ∧ (0 < N → ∃ g o, ao = some ⟨g, o, none⟩ ∧ ∀ j, j < N → ∃ x : Int, w.cell? ⟨g, o + j, none⟩ = some (.int .u8 x) ∧ 0 ≤ x ∧ x ≤ 255)
theorem BytesUp.small {w : World} {v : Value} {N : Nat} (h : BytesUp w v N) (hN : N ≤ 1048576) : BytesIn w v N := by
  obtain ⟨ao, cap, hv, _, hc⟩ := h
  exact ⟨ao, cap, hv, by omega, hc⟩
theorem BytesUp.ext {w w' : World} {v : Value} {N : Nat} (h : BytesUp w v N) (e : Ext w w') : BytesUp w' v N := by
  obtain ⟨ao, cap, hv, hN, hc⟩ := h
  refine ⟨ao, cap, hv, hN, fun hp => ?_⟩
  obtain ⟨g, o, ha, hc⟩ := hc hp
  exact ⟨g, o, ha, fun j hj => by obtain ⟨x, hx, h0, h1⟩ := hc j hj; exact ⟨x, e.cell hx, h0, h1⟩⟩

theorem wf_u8 {x : Int} (h : (Lit.int .u8 x).wf = true) : 0 ≤ x ∧ x ≤ 255 := by
  simp [Lit.wf, IntKind.min, IntKind.max, IntKind.signed, IntKind.bits] at h
  omega

set_option maxRecDepth 100000 in
theorem open_byteS {H : Type} {enc : TypeId × Value → H} {w : World} {base : Nat} {held : Bool} {r : Reach} {b0 : Nat} {v : Value} {d : DataW H} {p : List MemPlace} {ts : List TypeId} {ds : List (DataW H)} {j : Nat}
    (hv : Value.okWide Try.prog w r b0 22 v) (h : DataW.Trod enc Try.prog w base (fun _ => true) held 22 v d p)
    (hsz : (DataW.weightsEach Try.prog ts ds).all (· ≤ reachBytes) = true) (ht : ts[j]? = some 22) (hd : ds[j]? = some d) :
    ∃ N, BytesUp w v N := by
  obtain ⟨a, len, cap, rfl⟩ := okWide_slice Try.underlying22 hv
  obtain ⟨fuel, hf⟩ := h
  rcases open_ints Try.underlying22 Try.underlying5 (by kernel_rfl) hf with ⟨hcs, _⟩ | ⟨x, l, c, zs, hcs, _, hl, hm, hz, hx, hcell, hwz⟩
  · simp [Value.cells] at hcs
    obtain ⟨rfl, rfl, rfl⟩ := hcs
    exact ⟨0, none, 0, rfl, by omega, fun h => by omega⟩
  · simp [Value.cells] at hcs
    obtain ⟨rfl, rfl, rfl⟩ := hcs
    simp only [Prod.mk.injEq] at hx
    obtain ⟨rfl, rfl⟩ := hx
    simp only [if_true] at hz
    have hreach := sized_slice hsz ht hd Try.underlying22
    have hb : Try.prog.bytesOf 5 = 1 := by kernel_rfl
    rw [hb] at hreach
    simp only [lits, List.length_map, List.length_take, List.length_drop, reachBytes] at hreach
    refine ⟨len, some x, cap, rfl, by omega, fun hp => ?_⟩
    obtain ⟨b, off, rfl, hcc⟩ := ints_at hcell (by omega)
    refine ⟨b, off, rfl, fun j hj => ⟨_, hcc j (by omega), ?_⟩⟩
    exact wf_u8 (hwz _ (by rw [List.getD_eq_getElem?_getD, List.getElem?_eq_getElem (by omega)]; exact List.getElem_mem _))

end Go.Proofs.Ytihknedmkkakhaa

namespace Go.Proofs.Ytihknedmkkakhaa
open Go.RowKit

/-- v is a slice that reads as the lists L in w. -/
def Intss (w : World) (v : Value) (L : List (List Int)) : Prop :=
  ∃ ao cap, v = .slice ao L.length cap ∧ L.length ≤ maxLen ∧ (L.length ≤ cap ∧ cap ≤ maxLen ∧ (ao = none → cap = 0)) ∧
    (0 < L.length → ∃ b off, ao = some ⟨b, off, none⟩ ∧ ∀ j, j < L.length → ∃ u, w.cell? ⟨b, off + j, none⟩ = some u ∧ Ints w u (L[j]?.getD []))
theorem Intss.ext {w w' : World} {v : Value} {L : List (List Int)} (h : Intss w v L) (e : Ext w w') : Intss w' v L := by
  obtain ⟨ao, cap, hv, hm, hcap, hc⟩ := h
  refine ⟨ao, cap, hv, hm, hcap, fun hp => ?_⟩
  obtain ⟨b, off, ha, hc⟩ := hc hp
  refine ⟨b, off, ha, fun j hj => ?_⟩
  obtain ⟨u, hu, hi⟩ := hc j hj
  exact ⟨u, e.cell hu, hi.ext e⟩
theorem Intss.nil (w : World) : Intss w (.slice none 0 0) [] := ⟨none, 0, rfl, by simp, ⟨by simp, by simp, fun _ => rfl⟩, fun h => by simp at h⟩

/-- The rows are new, and no two share a block. -/
structure Rows_ (B : Nat) (w : World) (vs : List Value) (L : List (List Int)) : Prop where
  len : vs.length = L.length
  row : ∀ (j : Nat) (u : Value) (l : List Int), vs[j]? = some u → L[j]? = some l → Fresh B w u l
  apart : ∀ (i j : Nat) (u z : Value), i ≠ j → vs[i]? = some u → vs[j]? = some z → u.ownBlock = none ∨ u.ownBlock ≠ z.ownBlock
theorem Rows_.nil (B : Nat) (w : World) : Rows_ B w [] [] := ⟨rfl, fun _ _ _ h => by simp at h, fun _ _ _ _ _ h => by simp at h⟩
theorem Rows_.ext {B : Nat} {w w' : World} {vs : List Value} {L : List (List Int)} (h : Rows_ B w vs L) (e : Ext w w') : Rows_ B w' vs L :=
  ⟨h.len, fun j u l hu hl => (h.row j u l hu hl).ext e, h.apart⟩
theorem Rows_.more {B B' : Nat} {w : World} {vs : List Value} {L : List (List Int)} (h : Rows_ B w vs L) (hb : B' ≤ B) : Rows_ B' w vs L :=
  ⟨h.len, fun j u l hu hl => (h.row j u l hu hl).more hb, h.apart⟩
theorem Rows_.touch {B : Nat} {w w' : World} {vs : List Value} {L : List (List Int)} {blk : Option Nat} (h : Rows_ B w vs L) (t : w.grownBy w' blk) (ap : ∀ (j : Nat) (u : Value), vs[j]? = some u → u.ownBlock = none ∨ u.ownBlock ≠ blk) : Rows_ B w' vs L :=
  ⟨h.len, fun j u l hu hl => World.ownsRow.kept (h.row j u l hu hl) t (ap j u hu), h.apart⟩
/-- A row that was made later comes behind. -/
theorem Rows_.snoc {B : Nat} {w w' : World} {vs : List Value} {L : List (List Int)} {u : Value} {l : List Int} (h : Rows_ B w vs L) (e : Ext w w') (hu : Fresh w.heap.size w' u l) (hB : B ≤ w.heap.size) : Rows_ B w' (vs ++ [u]) (L ++ [l]) := by
  have h' := h.ext e
  refine ⟨by simp [h.len], fun j z r hz hr => ?_, fun i j z y hij hz hy => ?_⟩
  · by_cases hj : j < vs.length
    · rw [List.getElem?_append_left hj] at hz
      rw [List.getElem?_append_left (by rw [← h.len]; exact hj)] at hr
      exact h'.row j z r hz hr
    · rw [List.getElem?_append_right (by omega)] at hz
      rw [List.getElem?_append_right (by rw [← h.len]; omega)] at hr
      have hj' : j - vs.length = 0 := by
        have := (List.getElem?_eq_some_iff.1 hz).1
        simp at this; omega
      rw [hj'] at hz
      rw [← h.len, hj'] at hr
      simp at hz hr
      subst hz hr
      exact hu.more hB
  · by_cases hi : i < vs.length
    · rw [List.getElem?_append_left hi] at hz
      have hfz : Fresh B w z _ := h.row i z _ hz (List.getElem?_eq_getElem (by rw [← h.len]; exact hi))
      by_cases hj : j < vs.length
      · rw [List.getElem?_append_left hj] at hy
        exact h.apart i j z y hij hz hy
      · rw [List.getElem?_append_right (by omega)] at hy
        have hy' : y = u := by
          have := (List.getElem?_eq_some_iff.1 hy).1
          have hj' : j - vs.length = 0 := by simp at this; omega
          rw [hj'] at hy; simpa using hy.symm
        subst hy'
        exact Fresh.apart' hfz hu (Nat.le_refl _)
    · rw [List.getElem?_append_right (by omega)] at hz
      have hi' : i - vs.length = 0 := by
        have := (List.getElem?_eq_some_iff.1 hz).1
        simp at this; omega
      have hz' : z = u := by rw [hi'] at hz; simpa using hz.symm
      subst hz'
      by_cases hj : j < vs.length
      · rw [List.getElem?_append_left hj] at hy
        have hfy : Fresh B w y _ := h.row j y _ hy (List.getElem?_eq_getElem (by rw [← h.len]; exact hj))
        exact Fresh.apart hfy hu (Nat.le_refl _)
      · rw [List.getElem?_append_right (by omega)] at hy
        have := (List.getElem?_eq_some_iff.1 hy).1
        simp at this
        omega

theorem Rows_.low {B g : Nat} {w : World} {vs : List Value} {L : List (List Int)} (h : Rows_ B w vs L) (hg : g < B) : ∀ (j : Nat) (u : Value), vs[j]? = some u → u.ownBlock = none ∨ u.ownBlock ≠ some g := by
  intro j u hu
  have hj : j < vs.length := (List.getElem?_eq_some_iff.1 hu).1
  have hf := h.row j u _ hu (List.getElem?_eq_getElem (by rw [← h.len]; exact hj))
  refine .inr fun e => ?_
  have := (World.ownsRow.lt hf g e).1
  omega

/-- v is a slice in new memory whose rows lie in new memory of their own. -/
def FreshSS (B : Nat) (w : World) (v : Value) (L : List (List Int)) : Prop :=
  ∃ vs, w.ownsRow B 30 1 v L.length vs ∧ Rows_ B w vs L ∧ ∀ (j : Nat) (u : Value), vs[j]? = some u → u.ownBlock = none ∨ u.ownBlock ≠ v.ownBlock
theorem FreshSS.ext {B : Nat} {w w' : World} {v : Value} {L : List (List Int)} (h : FreshSS B w v L) (e : Ext w w') : FreshSS B w' v L := by
  obtain ⟨vs, h1, h2, h3⟩ := h
  exact ⟨vs, e.ownsRow h1, h2.ext e, h3⟩
theorem ownsRow_more {B B' e sz n : Nat} {w : World} {v : Value} {xs : List Value} (h : w.ownsRow B e sz v n xs) (hb : B' ≤ B) : w.ownsRow B' e sz v n xs := by
  refine ⟨h.1, ?_⟩
  rcases h.2 with hn | ⟨g, cap, cur, rfl, hbg, rest⟩
  · exact .inl hn
  · exact .inr ⟨g, cap, cur, rfl, by omega, rest⟩
theorem FreshSS.more {B B' : Nat} {w : World} {v : Value} {L : List (List Int)} (h : FreshSS B w v L) (hb : B' ≤ B) : FreshSS B' w v L := by
  obtain ⟨vs, h1, h2, h3⟩ := h
  exact ⟨vs, ownsRow_more h1 hb, h2.more hb, h3⟩
theorem FreshSS.nil (B : Nat) (w : World) : FreshSS B w (.slice none 0 0) [] := ⟨[], World.ownsRow_nil _ _ _ _, Rows_.nil _ _, fun _ _ h => by simp at h⟩
theorem FreshSS.intss {B : Nat} {w : World} {v : Value} {L : List (List Int)} (h : FreshSS B w v L) : Intss w v L := by
  obtain ⟨vs, h1, h2, h3⟩ := h
  have hlen := h2.len
  rcases h1.2 with ⟨rfl, hn⟩ | ⟨g, cap, cur, rfl, hb, hg, hnc, hcm, hcs, htake⟩
  · obtain rfl : L = [] := List.eq_nil_of_length_eq_zero hn
    exact Intss.nil w
  · refine ⟨some ⟨g, 0, none⟩, cap, rfl, by omega, ⟨by omega, by omega, fun h => by cases h⟩, fun _ => ⟨g, 0, rfl, fun j hj => ?_⟩⟩
    have hc := World.ownsRow.cellAt h1 j (by omega)
    have hu : vs[j]? = some (vs[j]'(by omega)) := List.getElem?_eq_getElem (by omega)
    refine ⟨vs[j]'(by omega), by rw [Nat.zero_add, hc, hu], ?_⟩
    have := h2.row j _ _ hu (List.getElem?_eq_getElem hj)
    rw [List.getElem?_eq_getElem hj]
    exact this.ints

theorem Try.infoInts : (Try.prog.info? 30).map (fun i => (i.zero, i.size, i.bytes)) = some (some (.slice none 0 0), 1, 24) := by kernel_rfl
/-- A slice of slices in new memory comes back. -/
def NewIntss (L : List (List Int)) (w : World) (e : Ending) (w' : World) : Prop := ∃ v, e = .returned v ∧ FreshSS w.heap.size w' v L ∧ Ext w w'
def TwoIntss (L : List (List Int)) (b : Bool) (w : World) (e : Ending) (w' : World) : Prop := ∃ v, e = .returned (.tuple #[v, .bool b]) ∧ FreshSS w.heap.size w' v L ∧ Ext w w'

/-- How many numbers there are, and lists. -/
def bulk (L : List (List Int)) : Nat := L.length + (L.map List.length).sum
theorem len_le_sum : ∀ (l : List Nat) (x : Nat), x ∈ l → x ≤ l.sum
  | y :: l, x, h => by
    rcases List.mem_cons.1 h with rfl | h
    · simp
    · have := len_le_sum l x h
      simp; omega
theorem bulk_row {L : List (List Int)} {j : Nat} (h : j < L.length) : (L[j]).length ≤ bulk L := by
  unfold bulk
  have := len_le_sum (L.map List.length) _ (List.mem_map.2 ⟨L[j], List.getElem_mem h, rfl⟩)
  omega
/-- How many numbers the first k lists have. -/
def sumTo (L : List (List Int)) (k : Nat) : Nat := ((L.take k).map List.length).sum
theorem sumTo_succ {L : List (List Int)} {k : Nat} (h : k < L.length) : sumTo L (k + 1) = sumTo L k + (L[k]).length := by
  unfold sumTo
  rw [List.take_add_one, List.getElem?_eq_getElem h, List.map_append, List.sum_append]
  simp only [Option.toList, List.map_cons, List.map_nil, List.sum_cons, List.sum_nil, Nat.add_zero]
theorem sumTo_all (L : List (List Int)) : sumTo L L.length = (L.map List.length).sum := by simp [sumTo]
theorem sumTo_mono {L : List (List Int)} {k : Nat} (h : k ≤ L.length) : sumTo L k ≤ (L.map List.length).sum := by
  induction hd : L.length - k generalizing k with
  | zero =>
    obtain rfl : k = L.length := by omega
    rw [sumTo_all]; exact Nat.le_refl _
  | succ d ih =>
    have hk : k < L.length := by omega
    have := ih (k := k + 1) (by omega) (by omega)
    rw [sumTo_succ hk] at this
    omega

end Go.Proofs.Ytihknedmkkakhaa

namespace Go.Proofs.Ytihknedmkkakhaa
open Go.RowKit

set_option maxHeartbeats 400000 in
theorem l1Has_any (v : Value) (l : List Int) (n : Int) (w : World) (hv : Ints w v l) :
    Calls Try.prog 55 #[v, .int .i64 n] w (BoolExt (hasI l n) w) := by
  obtain ⟨av, cv, rfl, hlv, _, hcv⟩ := hv
  unfold maxLen at hlv
  go_enter Try.func55, Try.ntmps55
  go_wp2
  go_loopw [6, 9] (fun _ i wr => ∃ k : Nat, k ≤ l.length ∧ i = .int .i64 k ∧ (l.take k).any (fun x => x == n) = false ∧ Ext w wr) (fun _ i _ => l.length - (intOf i).toNat)
  case atStart => exact ⟨0, Nat.zero_le _, rfl, by simp, Ext.refl _⟩
  case round =>
    obtain ⟨k, hk, rfl, ht, hx⟩ := hrel
    have HT := Lib.hid ht
    clear ht
    by_cases hlt : k < l.length
    · obtain ⟨bv, ov, rfl, dv⟩ := hcv (by omega)
      have gv := hx.cell (dv k hlt)
      clear hcv dv
      cases hp : (l[k] == n) with
      | true =>
        go_wp2
        go_ret
        refine ⟨?_, hx⟩
        have hf : hasI l n = true := any_true_at hlt _ (by rw [List.getElem?_eq_getElem hlt]; exact hp)
        rw [hf]; rfl
      | false =>
        go_wp2
        go_roundw
        case rel => exact ⟨k + 1, by omega, by go_num, any_take_succ hlt _ HT.out (by rw [List.getElem?_eq_getElem hlt]; exact hp), hx⟩
        case measure => simp [intOf]; omega
    · obtain rfl : k = l.length := by omega
      go_wp2
      go_ret
      refine ⟨?_, hx⟩
      have hf : hasI l n = false := by have h := HT.out; rwa [List.take_length] at h
      rw [hf]; rfl

end Go.Proofs.Ytihknedmkkakhaa

namespace Go.Proofs.Ytihknedmkkakhaa
open Go.RowKit
set_option linter.unusedVariables false

theorem eqss_succ {L R : List (List Int)} {k : Nat} (h1 : k < L.length) (h2 : k < R.length) (h : L.take k = R.take k) (he : L[k] = R[k]) : L.take (k + 1) = R.take (k + 1) := by
  rw [List.take_add_one, List.take_add_one, h, List.getElem?_eq_getElem h1, List.getElem?_eq_getElem h2, he]

set_option maxHeartbeats 400000 in
theorem sameInts_any (u v : Value) (l r : List Int) (w : World) (hu : Ints w u l) (hv : Ints w v r) :
    Calls Try.prog 23 #[u, v] w (BoolExt (decide (l = r)) w) := by
  obtain ⟨au, cu, rfl, hlu, _, hcu⟩ := hu
  obtain ⟨av, cv, rfl, hlv, _, hcv⟩ := hv
  unfold maxLen at hlu hlv
  by_cases hl : l.length = r.length
  · have e0 : ((l.length : Int) != (r.length : Int)) = false := by simp [hl]
    have HL := Lib.hid hl
    clear hl
    go_enter Try.func23, Try.ntmps23
    go_wp2
    go_loopw [13] (fun i wr => ∃ k : Nat, k ≤ l.length ∧ i = .int .i64 k ∧ l.take k = r.take k ∧ ∃ nq, wr = w.drewN nq) (fun i _ => l.length - (intOf i).toNat)
    case atStart => exact ⟨0, Nat.zero_le _, rfl, rfl, 0, rfl⟩
    case round =>
      obtain ⟨k, hk, rfl, ht, nq0, rfl⟩ := hrel
      have HT := Lib.hid ht
      clear ht
      by_cases hlt : k < l.length
      · have hltr : k < r.length := by have := HL.out; omega
        obtain ⟨bu, ou, rfl, du⟩ := hcu (by omega)
        obtain ⟨bv, ov, rfl, dv⟩ := hcv (by omega)
        have gu := du k hlt
        have gv := dv k hltr
        clear hcu hcv du dv
        go_wp2_with fail
        go_quiet (fail)
        by_cases he : l[k] = r[k]
        · have e1 : (l[k] != r[k]) = false := by simp [he]
          have HE := Lib.hid he
          clear he
          go_wp2
          go_roundw
          case rel => exact ⟨k + 1, by omega, by go_num, take_eq_succ hlt hltr HT.out (by simpa [hlt, hltr] using HE.out), _, rfl⟩
          case measure => simp [intOf]; omega
        · have e1 : (l[k] != r[k]) = true := by simp [he]
          have HE := Lib.hid he
          clear he
          go_wp2
          go_ret
          refine ⟨?_, by repeat (first | exact Ext.refl _ | apply Ext.drewN)⟩
          have hne : decide (l = r) = false := decide_eq_false (fun h => HE.out (by subst h; rfl))
          rw [hne]; rfl
      · have hk' : k = l.length := by omega
        subst hk'
        go_wp2
        go_ret
        refine ⟨?_, by repeat (first | exact Ext.refl _ | apply Ext.drewN)⟩
        have he : decide (l = r) = true := by
          have h := HT.out
          rw [List.take_length, HL.out, List.take_length] at h
          exact decide_eq_true h
        rw [he]; rfl
  · have e0 : ((l.length : Int) != (r.length : Int)) = true := by simp; omega
    have HL := Lib.hid hl
    clear hl
    go_enter Try.func23, Try.ntmps23
    go_wp2
    go_ret
    refine ⟨?_, Ext.refl w⟩
    have hne : decide (l = r) = false := decide_eq_false (fun h => HL.out (by rw [h]))
    rw [hne]; rfl

set_option maxHeartbeats 400000 in
theorem sameLists_any (u v : Value) (L R : List (List Int)) (w : World) (hu : Intss w u L) (hv : Intss w v R) :
    Calls Try.prog 13 #[u, v] w (BoolExt (decide (L = R)) w) := by
  obtain ⟨au, cu, rfl, hlu, _, hcu⟩ := hu
  obtain ⟨av, cv, rfl, hlv, _, hcv⟩ := hv
  unfold maxLen at hlu hlv
  by_cases hl : L.length = R.length
  · have e0 : ((L.length : Int) != (R.length : Int)) = false := by simp [hl]
    have HL := Lib.hid hl
    clear hl
    go_enter Try.func13, Try.ntmps13
    go_wp2
    go_loopw [13] (fun i wr => ∃ k : Nat, k ≤ L.length ∧ i = .int .i64 k ∧ L.take k = R.take k ∧ Ext w wr) (fun i _ => L.length - (intOf i).toNat)
    case atStart => exact ⟨0, Nat.zero_le _, rfl, rfl, Ext.refl _⟩
    case round =>
      obtain ⟨k, hk, rfl, ht, hx⟩ := hrel
      have HT := Lib.hid ht
      clear ht
      by_cases hlt : k < L.length
      · have hltr : k < R.length := by have := HL.out; omega
        obtain ⟨bu, ou, rfl, du⟩ := hcu (by omega)
        obtain ⟨bv, ov, rfl, dv⟩ := hcv (by omega)
        obtain ⟨x, hx1, ix⟩ := du k hlt
        obtain ⟨y, hy1, iy⟩ := dv k hltr
        rw [List.getElem?_eq_getElem hlt] at ix
        rw [List.getElem?_eq_getElem hltr] at iy
        have gu := hx.cell hx1
        have gv := hx.cell hy1
        have IX := Lib.hid (ix.ext hx)
        have IY := Lib.hid (iy.ext hx)
        clear hcu hcv du dv hx1 hy1 ix iy
        go_wp2_with fail
        go_region_held3 (fun W => Ext wr W ∧ W.cell? ⟨bu, ou + k, none⟩ = some x ∧ W.cell? ⟨bv, ov + k, none⟩ = some y) (first | (exact step2 (by assumption) (by assumption)) | (exact ⟨Ext.drew (Ext.refl _), gu, gv⟩)) (first | (go_at_call 23; refine (sameInts_any _ _ _ _ _ (IX.out.ext (Ext.drew (Ext.refl _))) (IY.out.ext (Ext.drew (Ext.refl _)))).mono ?_; rintro e W ⟨rfl, x9⟩))
        rename_i hH
        have hx2 : Ext w W := hx.trans hH.1
        clear hH x9 gu gv hx
        by_cases he : L[k] = R[k]
        · rw [decide_eq_true he]
          have HE := Lib.hid he
          clear he
          go_wp2
          go_roundw
          case rel => exact ⟨k + 1, by omega, by go_num, eqss_succ hlt hltr HT.out HE.out, hx2⟩
          case measure => simp [intOf]; omega
        · rw [decide_eq_false he]
          have HE := Lib.hid he
          clear he
          go_wp2
          go_ret
          refine ⟨?_, hx2⟩
          have hne : decide (L = R) = false := decide_eq_false (fun h => HE.out (by subst h; rfl))
          rw [hne]; rfl
      · have hk' : k = L.length := by omega
        subst hk'
        go_wp2
        go_ret
        refine ⟨?_, hx⟩
        have he : decide (L = R) = true := by
          have h := HT.out
          rw [List.take_length, HL.out, List.take_length] at h
          exact decide_eq_true h
        rw [he]; rfl
  · have e0 : ((L.length : Int) != (R.length : Int)) = true := by simp; omega
    have HL := Lib.hid hl
    clear hl
    go_enter Try.func13, Try.ntmps13
    go_wp2
    go_ret
    refine ⟨?_, Ext.refl w⟩
    have hne : decide (L = R) = false := decide_eq_false (fun h => HL.out (by rw [h]))
    rw [hne]; rfl

set_option maxHeartbeats 400000 in
theorem lawHas_any (v : Value) (l : List Int) (n : Int) (w : World) (hv : Ints w v l) :
    Calls Try.prog 17 #[v, .int .i64 n] w (BoolExt (hasI l n) w) := by
  obtain ⟨av, cv, rfl, hlv, _, hcv⟩ := hv
  unfold maxLen at hlv
  go_enter Try.func17, Try.ntmps17
  go_wp2
  go_loopw [6, 9] (fun _ i wr => ∃ k : Nat, k ≤ l.length ∧ i = .int .i64 k ∧ (l.take k).any (fun x => x == n) = false ∧ Ext w wr) (fun _ i _ => l.length - (intOf i).toNat)
  case atStart => exact ⟨0, Nat.zero_le _, rfl, by simp, Ext.refl _⟩
  case round =>
    obtain ⟨k, hk, rfl, ht, hx⟩ := hrel
    have HT := Lib.hid ht
    clear ht
    by_cases hlt : k < l.length
    · obtain ⟨bv, ov, rfl, dv⟩ := hcv (by omega)
      have gv := hx.cell (dv k hlt)
      clear hcv dv
      cases hp : (l[k] == n) with
      | true =>
        go_wp2
        go_ret
        refine ⟨?_, hx⟩
        have hf : hasI l n = true := any_true_at hlt _ (by rw [List.getElem?_eq_getElem hlt]; exact hp)
        rw [hf]; rfl
      | false =>
        go_wp2
        go_roundw
        case rel => exact ⟨k + 1, by omega, by go_num, any_take_succ hlt _ HT.out (by rw [List.getElem?_eq_getElem hlt]; exact hp), hx⟩
        case measure => simp [intOf]; omega
    · obtain rfl : k = l.length := by omega
      go_wp2
      go_ret
      refine ⟨?_, hx⟩
      have hf : hasI l n = false := by have h := HT.out; rwa [List.take_length] at h
      rw [hf]; rfl

set_option maxHeartbeats 400000 in
theorem lawHas_same (v : Value) (l : List Int) (n : Int) (w : World) (hv : Ints w v l) :
    Calls Try.prog 17 #[v, .int .i64 n] w fun e w' => e = .returned (.bool (hasI l n)) ∧ w' = w := by
  obtain ⟨av, cv, rfl, hlv, _, hcv⟩ := hv
  unfold maxLen at hlv
  go_enter Try.func17, Try.ntmps17
  go_wp2
  go_loopw [6, 9] (fun _ i wr => ∃ k : Nat, k ≤ l.length ∧ i = .int .i64 k ∧ (l.take k).any (fun x => x == n) = false ∧ wr = w) (fun _ i _ => l.length - (intOf i).toNat)
  case atStart => exact ⟨0, Nat.zero_le _, rfl, by simp, rfl⟩
  case round =>
    obtain ⟨k, hk, rfl, ht, rfl⟩ := hrel
    have HT := Lib.hid ht
    clear ht
    by_cases hlt : k < l.length
    · obtain ⟨bv, ov, rfl, dv⟩ := hcv (by omega)
      have gv := dv k hlt
      clear hcv dv
      cases hp : (l[k] == n) with
      | true =>
        go_wp2
        go_ret
        refine ⟨?_, rfl⟩
        have hf : hasI l n = true := any_true_at hlt _ (by rw [List.getElem?_eq_getElem hlt]; exact hp)
        rw [hf]; rfl
      | false =>
        go_wp2
        go_roundw
        case rel => exact ⟨k + 1, by omega, by go_num, any_take_succ hlt _ HT.out (by rw [List.getElem?_eq_getElem hlt]; exact hp), by trivial⟩
        case measure => simp [intOf]; omega
    · obtain rfl : k = l.length := by omega
      go_wp2
      go_ret
      refine ⟨?_, rfl⟩
      have hf : hasI l n = false := by have h := HT.out; rwa [List.take_length] at h
      rw [hf]; rfl

set_option maxHeartbeats 400000 in
theorem big_any (u v : Value) (M N : Nat) (w : World) (hu : BytesUp w u M) (hv : BytesUp w v N) :
    Calls Try.prog 9 #[u, v] w (BoolExt (decide (1048576 < M + N)) w) := by
  obtain ⟨au, cu, rfl, hM, _⟩ := hu
  obtain ⟨av, cv, rfl, hN, _⟩ := hv
  by_cases h1 : 1048576 < M
  · have e0 : decide (1048576 < M + N) = true := by simp; omega
    have h3 : (1048576 : Int) < M := by omega
    rw [e0]
    go_enter Try.func9, Try.ntmps9
    go_wp2
    go_ret
    exact ⟨rfl, Ext.refl _⟩
  · by_cases h2 : 1048576 < M + N
    · have e0 : decide (1048576 < M + N) = true := by simp; omega
      have h3 : (1048576 : Int) - M < N := by omega
      have h4 : ¬ (1048576 : Int) < M := by omega
      rw [e0]
      go_enter Try.func9, Try.ntmps9
      go_wp2
      go_ret
      exact ⟨rfl, Ext.refl _⟩
    · have e0 : decide (1048576 < M + N) = false := by simp; omega
      have h3 : ¬ (1048576 : Int) - M < N := by omega
      have h4 : ¬ (1048576 : Int) < M := by omega
      rw [e0]
      go_enter Try.func9, Try.ntmps9
      go_wp2
      go_ret
      exact ⟨rfl, Ext.refl _⟩

end Go.Proofs.Ytihknedmkkakhaa

namespace Go.Proofs.Ytihknedmkkakhaa
open Go.RowKit

theorem fresh_lit (w : World) (l : List Int) (cs : Array Value) (B : Nat) (hcs : cs.toList = l.map (Value.int .i64)) (hB : B ≤ w.heap.size) (hl : l.length ≤ 1048576) :
    Fresh B (w.alloc (.cells cs 3)) (.slice (some ⟨w.heap.size, 0, none⟩) l.length l.length) l := by
  have h := World.ownsRow_lit (e := 3) (size := 1) w cs l.length hB (by unfold maxLen; omega) (by rw [← Array.length_toList, hcs]; simp)
  unfold Fresh; rw [← hcs]; exact h

theorem fresh_lit2 (w : World) (o : Obj) (l : List Int) (n : Nat) (cs : Array Value) (hcs : cs.toList = l.map (Value.int .i64)) (hn : n = l.length) (hl : l.length ≤ 1048576) :
    Fresh w.heap.size ((w.alloc o).alloc (.cells cs 3)) (.slice (some ⟨w.heap.size + 1, 0, none⟩) n n) l := by
  have e : (w.alloc o).heap.size = w.heap.size + 1 := by simp
  have h := fresh_lit (w.alloc o) l cs w.heap.size hcs (by omega) hl
  rw [e] at h
  rw [hn]; exact h
theorem size_alloc_le {n : Nat} {w : World} {o : Obj} (h : n ≤ w.heap.size) : n ≤ (w.alloc o).heap.size := by
  have := (Ext.alloc (Ext.refl w) o).size
  omega
theorem cell_alloc_one (w : World) (x : Value) (T : TypeId) : (w.alloc (.cells #[x] T)).cell? ⟨w.heap.size, 0, none⟩ = some x := by go_simp

/-- Behind an append: only the slice's own block has turned, and there may be new ones. -/
def Kept (B : Nat) (w w' : World) : Prop := ∀ w0 : World, Ext w0 w → w0.heap.size ≤ B → Ext w0 w'

theorem wpList_push {ops : Array Oper} {rest : List Oper} {o : Oper} {a : Act} {Q : Exit → Act → World → Prop} {w : World} (hgd : o.guard = none) (s x : Operand)
    (ho : o.op = .call { callee := .builtin .append, args := #[s, x], argTypes := #[30, 30] })
    (B : Nat) (v : Value) (l : List Int) (n : Int) (hs : a.eval s = v) (hf : Fresh B w v l) (ad : Addr) (c : Nat) (hx : a.eval x = .slice (some ad) 1 c)
    (hc : w.cell? ad = some (.int .i64 n)) (hl : l.length ≤ 1099511627776) (hB : B ≤ w.heap.size)
    (h : ∀ v' w', Fresh B w' v' (l ++ [n]) → w.grownBy w' v.ownBlock → Kept B w w' → wpList Try.prog ops Q rest (a.put o.dst v') w') : wpList Try.prog ops Q (o :: rest) a w := by
  obtain ⟨i0, hi, hz0, hz1, hz2⟩ := info_parts Try.infoInt
  refine wpList_append_own _ hgd s x 30 ho B 3 i0 (.int .i64 0) 1 8 Try.underlying30 hi hz0 hz1 hz2 rfl (by decide) v l.length _ hs hf ad 1 c [.int .i64 n] hx rfl ?_ ?_ ?_ ?_ hB ?_
  · intro j u hj
    match j, hj with
    | 0, hj => simp at hj; subst hj; simpa [Addr.add] using hc
  · intro u hu; simp at hu; subst hu; rfl
  · unfold maxLen; omega
  · omega
  · intro v' w' ho' hg _
    refine h v' w' ?_ hg (fun w0 hx0 hB0 => Below.grown hx0 hg hx0.size (fun q hq => Nat.le_trans hB0 (World.ownsRow.lt hf q hq).1))
    unfold Fresh
    rw [List.map_append, List.length_append]; exact ho'

theorem wpList_join {ops : Array Oper} {rest : List Oper} {o : Oper} {a : Act} {Q : Exit → Act → World → Prop} {w : World} (hgd : o.guard = none) (s x : Operand)
    (ho : o.op = .call { callee := .builtin .append, args := #[s, x], argTypes := #[30, 30] })
    (B : Nat) (v u : Value) (l r : List Int) (hs : a.eval s = v) (hf : Fresh B w v l) (hx : a.eval x = u) (hu : Ints w u r)
    (hl : l.length + r.length ≤ 1099511627776) (hB : B ≤ w.heap.size)
    (h : ∀ v' w', Fresh B w' v' (l ++ r) → w.grownBy w' v.ownBlock → Kept B w w' → wpList Try.prog ops Q rest (a.put o.dst v') w') : wpList Try.prog ops Q (o :: rest) a w := by
  obtain ⟨i0, hi, hz0, hz1, hz2⟩ := info_parts Try.infoInt
  obtain ⟨au, cu, rfl, hlu, hcap, hcu⟩ := hu
  cases au with
  | none =>
    have hr : r.length = 0 := by have := hcap.1; have := hcap.2.2 rfl; omega
    have hc0 : cu = 0 := hcap.2.2 rfl
    obtain rfl : r = [] := List.eq_nil_of_length_eq_zero hr
    subst hc0
    refine wpList_append_own_none hgd s x 30 ho B 3 i0 1 Try.underlying30 hi v l.length _ hs hf hx (h v w ?_ ?_ ?_)
    · rw [List.append_nil]; exact hf
    · exact ⟨rfl, rfl, rfl, Nat.le_refl _, fun _ _ _ => rfl⟩
    · exact fun w0 hx0 _ => hx0
  | some ad =>
    refine wpList_append_own _ hgd s x 30 ho B 3 i0 (.int .i64 0) 1 8 Try.underlying30 hi hz0 hz1 hz2 rfl (by decide) v l.length _ hs hf ad r.length cu (r.map (.int .i64)) hx (by simp) ?_ ?_ ?_ ?_ hB ?_
    · intro j z hj
      have hlt : j < r.length := by
        have := (List.getElem?_eq_some_iff.1 hj).1
        simpa using this
      obtain ⟨b, off, hab, hcc⟩ := hcu (by omega)
      cases hab
      have hcj := hcc j hlt
      rw [show (⟨b, off, none⟩ : Addr).add j = ⟨b, off + j, none⟩ by simp [Addr.add], hcj]
      simp [List.getElem?_eq_getElem hlt] at hj ⊢
      exact hj
    · intro z hz
      obtain ⟨q, _, rfl⟩ := List.mem_map.1 hz
      rfl
    · unfold maxLen; omega
    · omega
    · intro v' w' ho' hg _
      refine h v' w' ?_ hg (fun w0 hx0 hB0 => Below.grown hx0 hg hx0.size (fun q hq => Nat.le_trans hB0 (World.ownsRow.lt hf q hq).1))
      unfold Fresh
      rw [List.map_append, List.length_append]; exact ho'

end Go.Proofs.Ytihknedmkkakhaa
