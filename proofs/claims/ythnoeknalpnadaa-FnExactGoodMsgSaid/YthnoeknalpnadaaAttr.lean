/- Attributes: a number and a slice of integers. Contracts of the laws' helpers over them. -/
import Derived.Test.YthnoeknalpnadaaIntS
import Derived.Test.YthnoeknalpnadaaSz
import Derived.Deep.RegionHeld3
namespace Go.Proofs.Ythnoeknalpnadaa
open Go.RowKit
set_option linter.unusedVariables false

/-- An attribute lies in the block b. -/
def AttrAt (w : World) (b : Nat) (s : Int) (u : Value) : Prop :=
  w.cell? ⟨b, 0, none⟩ = some (.int .i64 s) ∧ w.cell? ⟨b, 1, none⟩ = some u
theorem AttrAt.ext {w w' : World} {b : Nat} {s : Int} {u : Value} (h : AttrAt w b s u) (e : Ext w w') : AttrAt w' b s u := ⟨e.cell h.1, e.cell h.2⟩
theorem attrAt_new (w : World) (T : TypeId) (s : Int) (u : Value) : AttrAt (w.alloc (.cells #[.int .i64 s, u] T)) w.heap.size s u := by
  refine ⟨?_, ?_⟩ <;> go_simp
theorem attrAt_new2 (w : World) (o : Obj) (T : TypeId) (s : Int) (u : Value) : AttrAt ((w.alloc o).alloc (.cells #[.int .i64 s, u] T)) (w.heap.size + 1) s u := by
  refine ⟨?_, ?_⟩ <;> go_simp
/-- An attribute lies in the block b, and may be written. -/
def OpenAt (w : World) (b : Nat) (s : Int) (u : Value) : Prop := AttrAt w b s u ∧ w.frozen? ⟨b, 0, none⟩ = false ∧ w.frozen? ⟨b, 1, none⟩ = false
theorem Ext.frozen {w w' : World} (h : Ext w w') {a : Addr} {b : Bool} (hl : a.block < w.heap.size) (hc : w.frozen? a = b) : w'.frozen? a = b := (Below.frozen h hl).trans hc
theorem OpenAt.ext {w w' : World} {b : Nat} {s : Int} {u : Value} (h : OpenAt w b s u) (e : Ext w w') : OpenAt w' b s u := by
  have hl : b < w.heap.size := World.block_lt_of_cell? w _ h.1.1
  exact ⟨h.1.ext e, e.frozen hl h.2.1, e.frozen hl h.2.2⟩
theorem openAt_new (w : World) (T : TypeId) (s : Int) (u : Value) : OpenAt (w.alloc (.cells #[.int .i64 s, u] T)) w.heap.size s u := by
  refine ⟨attrAt_new w T s u, ?_, ?_⟩ <;> go_simp
theorem Ext.setc {w w' : World} {a : Addr} {v : Value} (h : Ext w w') (hb : w.heap.size ≤ a.block) : Ext w (w'.setCell a v) := Below.setCell h hb v

/-- An attribute in new memory comes back. -/
def NewAttr (s : Int) (l : List Int) (w : World) (e : Ending) (w' : World) : Prop := ∃ u, e = .returned (.agg #[.int .i64 s, u]) ∧ Fresh w.heap.size w' u l ∧ Ext w w'
/-- An attribute in new memory and a Bool come back. -/
def TwoAttr (s : Int) (l : List Int) (b : Bool) (w : World) (e : Ending) (w' : World) : Prop := ∃ u, e = .returned (.tuple #[.agg #[.int .i64 s, u], .bool b]) ∧ Fresh w.heap.size w' u l ∧ Ext w w'

set_option maxHeartbeats 1000000 in
theorem szAttr_any (s : Int) (u : Value) (l : List Int) (left : Int) (w : World) (hv : Ints w u l) (h0 : 0 ≤ left) (h1 : left ≤ 1099511627776) :
    Calls Try.prog 66 #[.agg #[.int .i64 s, u], .int .i64 left] w (IntExt (lessened left l.length) w) := by
  have hb := attrAt_new w 62 s u
  by_cases hlt : left < l.length
  · have L := Lib.hid (lessened_no hlt)
    clear hlt
    go_enter Try.func66, Try.ntmps66
    go_wp2_with fail
    refine (szIntS_any _ _ _ _ (hv.ext (Ext.alloc (Ext.refl _) _)) h0 h1).mono ?_
    rintro e w1 ⟨rfl, rfl⟩
    rw [L.out]
    go_wp2
    go_ret
    exact ⟨by rw [L.out]; rfl, Ext.alloc (Ext.refl _) _⟩
  · have L := Lib.hid (lessened_yes (left := left) (n := l.length) (by omega))
    obtain ⟨r, hr⟩ : ∃ r, r = left - (l.length : Int) := ⟨_, rfl⟩
    have hr0 : 0 ≤ r := by omega
    have LR : Hid (lessened left l.length = r) := Lib.hid (by rw [L.out, hr])
    clear hlt L hr
    rw [LR.out]
    go_enter Try.func66, Try.ntmps66
    go_wp2_with fail
    refine (szIntS_any _ _ _ _ (hv.ext (Ext.alloc (Ext.refl _) _)) h0 h1).mono ?_
    rintro e w1 ⟨rfl, rfl⟩
    rw [LR.out]
    go_wp2
    go_ret
    exact ⟨rfl, Ext.alloc (Ext.refl _) _⟩

theorem Ext.alloc3 (w : World) (a b c : Obj) : Ext w (((w.alloc a).alloc b).alloc c) := (((Ext.refl w).alloc a).alloc b).alloc c
theorem grownBy_set (W : World) (b o : Nat) (v : Value) : W.grownBy (W.setCell ⟨b, o, none⟩ v) (some b) :=
  ⟨rfl, rfl, rfl, (Below.setCell (Below.refl 0 W) (Nat.zero_le _) v).size, fun k _ hne => Below.heap_setCell _ _ _ k (fun e => hne (by rw [e]))⟩
theorem Fresh.set {B : Nat} {w : World} {v : Value} {l : List Int} (h : Fresh B w v l) (b o : Nat) (x : Value) (hb : b < B) : Fresh B (w.setCell ⟨b, o, none⟩ x) v l := by
  refine World.ownsRow.kept h (grownBy_set w b o x) ?_
  cases hv : v.ownBlock with
  | none => exact .inl rfl
  | some g =>
    refine .inr fun e => ?_
    have := (World.ownsRow.lt h g hv).1
    simp at e; omega
theorem Fresh.form {B : Nat} {w : World} {v : Value} {l : List Int} (h : Fresh B w v l) : ∃ ao cap, v = .slice ao l.length cap := by
  obtain ⟨ao, cap, hv, _⟩ := h.ints
  exact ⟨ao, cap, hv⟩
theorem open_three (w : World) (a : Obj) (T T' : TypeId) (s s' : Int) (u u' : Value) :
    OpenAt (((w.alloc a).alloc (.cells #[.int .i64 s, u] T)).alloc (.cells #[.int .i64 s', u'] T')) (w.heap.size + 1) s u ∧ OpenAt (((w.alloc a).alloc (.cells #[.int .i64 s, u] T)).alloc (.cells #[.int .i64 s', u'] T')) (w.heap.size + 1 + 1) s' u' := by
  refine ⟨⟨⟨?_, ?_⟩, ?_, ?_⟩, ⟨⟨?_, ?_⟩, ?_, ?_⟩⟩ <;> go_simp
theorem size3 (w : World) (a b c : Obj) : (((w.alloc a).alloc b).alloc c).heap.size = w.heap.size + 3 := by simp

set_option maxHeartbeats 1000000 in
theorem toAttr_any (s : Int) (u : Value) (l : List Int) (w : World) (hv : Ints w u l) (hs : l.length ≤ 35184372088831) :
    Calls Try.prog 68 #[.agg #[.int .i64 s, u]] w (NewAttr s l w) := by
  have HS := Lib.hid hs
  have HO := Lib.hid (open_three w (.cells #[.int .i64 s, u] 62) 39 39 0 s (.slice none 0 0) (.slice none 0 0))
  clear hs
  go_enter Try.func68, Try.ntmps68
  go_wp2_with fail
  refine (toIntS_any _ _ _ (hv.ext (Ext.alloc3 _ _ _ _)) HS.out).mono ?_
  rintro e w1 ⟨v, rfl, f1, x1⟩
  obtain ⟨⟨c0, c1⟩, z0, z1⟩ := HO.out.1.ext x1
  obtain ⟨⟨d0, d1⟩, y0, y1⟩ := HO.out.2.ext x1
  have hx : Ext w w1 := (Ext.alloc3 _ _ _ _).trans x1
  rw [size3] at f1
  obtain ⟨av, cv, rfl⟩ := f1.form
  have F := Lib.hid f1
  clear f1 x1 hv
  go_wp2
  refine bodyPost_ret (v := .agg #[.int .i64 s, .slice av l.length cv]) (by simp [results, Try.results68, go_sem, c0, c1]) rfl ⟨_, rfl, ?_, ?_⟩
  · exact (((F.out.set _ _ _ (by omega)).set _ _ _ (by omega)).set _ _ _ (by omega)).more (by omega)
  · exact ((hx.setc (by dsimp only; omega)).setc (by dsimp only; omega)).setc (by dsimp only; omega)

set_option maxHeartbeats 1000000 in
/-- Two attributes that are the same are found to be so. -/
theorem eqAttr_same (s : Int) (u v : Value) (l : List Int) (w : World) (hu : Ints w u l) (hv : Ints w v l) :
    Calls Try.prog 25 #[.agg #[.int .i64 s, u], .agg #[.int .i64 s, v]] w (BoolExt true w) := by
  have hx : Ext w ((w.alloc (.cells #[.int .i64 s, u] 39)).alloc (.cells #[.int .i64 s, v] 39)) := ((Ext.refl w).alloc _).alloc _
  have e0 : ((s : Int) != s) = false := by simp
  go_enter Try.func25, Try.ntmps25
  go_wp2_with fail
  refine (eqIntS_any _ _ _ _ _ (hu.ext hx) (hv.ext hx)).mono ?_
  rintro e w1 ⟨rfl, x1⟩
  rw [decide_eq_true rfl]
  have hy := hx.trans x1
  clear hx x1
  go_wp2
  go_ret
  exact ⟨rfl, hy⟩

/-- The marks lie there; nothing below B has turned. -/
def MarkedA (B : Nat) (k : Int) (v : Value) (l : List Int) (w : World) (e : Ending) (w' : World) : Prop :=
  e = .returned (.int .i64 (k + l.length)) ∧ Fresh B w' v (marks k l.length) ∧ w.grownBy w' v.ownBlock

set_option maxHeartbeats 1000000 in
theorem markAttr_any (B : Nat) (s : Int) (u : Value) (l : List Int) (k : Int) (w : World) (hv : Fresh B w u l) (h0 : 0 ≤ k) (h1 : k + l.length ≤ 4611686018427387904) :
    Calls Try.prog 28 #[.agg #[.int .i64 s, u], .int .i64 k] w (MarkedA B k u l w) := by
  have H1 := Lib.hid h1
  clear h1
  go_enter Try.func28, Try.ntmps28
  go_wp2_with fail
  refine (markIntS_any B _ l _ _ (hv.ext (Ext.alloc (Ext.refl _) _)) h0 H1.out).mono ?_
  rintro e w1 ⟨rfl, f1, t1⟩
  have T := Lib.hid t1
  have F := Lib.hid f1
  clear t1 f1 hv
  go_wp2
  go_ret
  exact ⟨rfl, F.out, (World.grownBy_alloc _ _ _).trans T.out⟩

set_option maxHeartbeats 1000000 in
theorem heldAttr_yes (s : Int) (u : Value) (n : Nat) (k : Int) (w : World) (hv : Ints w u (marks k n)) (h0 : 0 ≤ k) (h1 : k + n ≤ 4611686018427387904) :
    Calls Try.prog 29 #[.agg #[.int .i64 s, u], .int .i64 k] w (IntExt (k + n) w) := by
  have H1 := Lib.hid h1
  have hk : 0 ≤ k + (n : Int) := by omega
  go_enter Try.func29, Try.ntmps29
  go_wp2_with fail
  refine (heldIntS_yes _ _ _ _ (hv.ext (Ext.alloc (Ext.refl _) _)) h0 H1.out).mono ?_
  rintro e w1 ⟨rfl, x1⟩
  have hx : Ext w w1 := (Ext.alloc (Ext.refl _) _).trans x1
  clear x1 hv
  go_wp2
  go_ret
  exact ⟨rfl, hx⟩

/-- What lies in another block than v's is not turned by the marks. -/
theorem cell_marked {B b o : Nat} {w1 w w' : World} {v x : Value} {l : List Int} (f : Fresh B w1 v l) (t : w.grownBy w' v.ownBlock) (hc : w.cell? ⟨b, o, none⟩ = some x) (hb : b < B ∨ w1.heap.size ≤ b) : w'.cell? ⟨b, o, none⟩ = some x := by
  refine World.grownBy.cell t hc (fun e => ?_)
  have h := World.ownsRow.lt f b e.symm
  omega
theorem keep2 {wb W W' : World} {a b : Addr} {u v : Value} (x : Ext W W') (h : Ext wb W ∧ W.cell? a = some u ∧ W.cell? b = some v) : Ext wb W' ∧ W'.cell? a = some u ∧ W'.cell? b = some v :=
  ⟨h.1.trans x, x.cell h.2.1, x.cell h.2.2⟩
theorem keep4 {wb W W' : World} {a b c d : Addr} {u v r s : Value} (x : Ext W W') (h : Ext wb W ∧ W.cell? a = some u ∧ W.cell? b = some v ∧ W.cell? c = some r ∧ W.cell? d = some s) : Ext wb W' ∧ W'.cell? a = some u ∧ W'.cell? b = some v ∧ W'.cell? c = some r ∧ W'.cell? d = some s :=
  ⟨h.1.trans x, x.cell h.2.1, x.cell h.2.2.1, x.cell h.2.2.2.1, x.cell h.2.2.2.2⟩

end Go.Proofs.Ythnoeknalpnadaa
