/- Texts of this proof, part f: words, plain facts, contracts. -/
import Derived.Test.YtbffkidkfannhaaMGoodReplicaa
import Derived.Test.YtbffkidkfannhaaMGoodReplicac
import Derived.Deep.RegionLaw
import Derived.Deep.AppendLies
import Derived.Test.YtbffkidkfannhaaMGoodReplicab
import Derived.ChangeKeysEq
import Derived.Test.YtbffkidkfannhaaMGoodReplicae

namespace Go.Proofs.Ytbffkidkfannhaa
open Go.RowKit
set_option linter.unusedVariables false

theorem step_push {ops : Array Oper} {o : Oper} {a : Act} {w : World} {K : Act → World → Prop} {Q : Exit → Act → World → Prop} {E : Prop} (hgd : o.guard = none) (s x : Operand)
    (ho : o.op = .call { callee := .builtin .append, args := #[s, x], argTypes := #[44, 44] })
    (B : Nat) (v : Value) (l : List Int) (n : Int) (hs : a.eval s = v) (hf : Fresh B w v l) (ad : Addr) (c : Nat) (hx : a.eval x = .slice (some ad) 1 c)
    (hc : w.cell? ad = some (.int .i64 n)) (m : Nat) (hm : l.length = m) (hl : m ≤ 1099511627776) (hB : B ≤ w.heap.size)
    (h : ∀ ao cap w', Fresh B w' (.slice ao (m + 1) cap) (l ++ [n]) → w.grownBy w' v.ownBlock → K (a.put o.dst (.slice ao (m + 1) cap)) w') : if Region.wanted o (yielded ops a.tmps) = true then Oper.wp Try.prog o a w K Q else E := by
  obtain ⟨i0, hi, hz0, hz1, hz2⟩ := info_parts Try.infoInt
  have hw : Region.wanted o (yielded ops a.tmps) = true := by simp [Region.wanted, hgd]
  rw [if_pos hw]
  refine wp_append_own w s x 44 ho B 3 i0 (.int .i64 0) 1 8 Try.underlying44 hi hz0 hz1 hz2 rfl (by decide) v l.length _ hs hf ad 1 c [.int .i64 n] hx rfl ?_ ?_ ?_ ?_ hB ?_
  · intro j u hj
    match j, hj with
    | 0, hj => simp at hj; subst hj; simpa [Addr.add] using hc
  · intro u hu; simp at hu; subst hu; rfl
  · unfold maxLen; omega
  · omega
  · intro v' w' ho' hg _
    have hf' : Fresh B w' v' (l ++ [n]) := by
      unfold Fresh
      rw [List.map_append, List.length_append]; exact ho'
    obtain ⟨ao, cap, rfl⟩ := hf'.form
    have e : (l ++ [n]).length = m + 1 := by simp [hm]
    rw [e] at hf' ⊢
    exact h ao cap w' hf' hg

theorem far_cell {B b o : Nat} {wr W W' : World} {v x : Value} {l : List Int} (f : Fresh B wr v l) (e : Ext wr W) (t : W.grownBy W' v.ownBlock) (hc : wr.cell? ⟨b, o, none⟩ = some x) (hb : b < B) : W'.cell? ⟨b, o, none⟩ = some x := cell_marked f t (e.cell hc) (.inl hb)
theorem far_free {B b o : Nat} {wr W W' : World} {v x : Value} {l : List Int} (f : Fresh B wr v l) (e : Ext wr W) (t : W.grownBy W' v.ownBlock) (hc : wr.cell? ⟨b, 0, none⟩ = some x) (hz : wr.frozen? ⟨b, o, none⟩ = false) (hb : b < B) : W'.frozen? ⟨b, o, none⟩ = false := by
  have hlt : b < wr.heap.size := World.block_lt_of_cell? wr _ hc
  have h := World.grownBy.frozen_far t ⟨b, o, none⟩ (Nat.lt_of_lt_of_le hlt e.size) (fun e' => by
    have := (World.ownsRow.lt f b e'.symm).1
    omega)
  rw [h]
  exact e.frozen hlt hz
theorem far_attr {B b : Nat} {wr W W' : World} {v u : Value} {s : Int} {l : List Int} (f : Fresh B wr v l) (e : Ext wr W) (t : W.grownBy W' v.ownBlock) (h : AttrAt wr b s u) (hb : b < B) : AttrAt W' b s u := ⟨far_cell f e t h.1 hb, far_cell f e t h.2 hb⟩
theorem far_open {B b : Nat} {wr W W' : World} {v u : Value} {s : Int} {l : List Int} (f : Fresh B wr v l) (e : Ext wr W) (t : W.grownBy W' v.ownBlock) (h : OpenAt wr b s u) (hb : b < B) : OpenAt W' b s u :=
  ⟨far_attr f e t h.1 hb, far_free f e t h.1.1 h.2.1 hb, far_free f e t h.1.1 h.2.2 hb⟩
theorem cell_other {W : World} {g o : Nat} {a : Addr} {z u : Value} (hne : a.block ≠ g) (h : W.cell? a = some u) : (W.setCell ⟨g, o, none⟩ z).cell? a = some u := by
  have hh := Below.heap_setCell W ⟨g, o, none⟩ z a.block hne
  have e : (W.setCell ⟨g, o, none⟩ z).cell? a = W.cell? a := by unfold World.cell?; rw [hh]
  rw [e]; exact h
theorem AttrAt.other {w : World} {b g o : Nat} {s : Int} {u z : Value} (h : AttrAt w b s u) (hne : b ≠ g) : AttrAt (w.setCell ⟨g, o, none⟩ z) b s u := ⟨cell_other hne h.1, cell_other hne h.2⟩
theorem OpenAt.other {w : World} {b g o : Nat} {s : Int} {u z : Value} (h : OpenAt w b s u) (hne : b ≠ g) : OpenAt (w.setCell ⟨g, o, none⟩ z) b s u :=
  ⟨h.1.other hne, by rw [World.frozen?_setCell]; exact h.2.1, by rw [World.frozen?_setCell]; exact h.2.2⟩
theorem OpenAt.set1 {w : World} {b : Nat} {s : Int} {u z : Value} (h : OpenAt w b s u) : OpenAt (w.setCell ⟨b, 1, none⟩ z) b s z := by
  obtain ⟨⟨c0, c1⟩, z0, z1⟩ := h
  refine ⟨⟨?_, ?_⟩, ?_, ?_⟩ <;> go_simp

end Go.Proofs.Ytbffkidkfannhaa

namespace Go.Proofs.Ytbffkidkfannhaa
open Go.RowKit
set_option linter.unusedVariables false

/-- The greater of both. -/
def mo (x y : Int) : Int := if y < x then x else y
theorem four_at (w : World) (T : TypeId) (s t p q : Int) (u v y z : Value) :
    OpenAt ((((w.alloc (.cells #[.int .i64 s, u] T)).alloc (.cells #[.int .i64 t, v] T)).alloc (.cells #[.int .i64 p, y] T)).alloc (.cells #[.int .i64 q, z] T)) (w.heap.size + 1 + 1 + 1) q z ∧
    OpenAt ((((w.alloc (.cells #[.int .i64 s, u] T)).alloc (.cells #[.int .i64 t, v] T)).alloc (.cells #[.int .i64 p, y] T)).alloc (.cells #[.int .i64 q, z] T)) (w.heap.size + 1 + 1) p y ∧
    AttrAt ((((w.alloc (.cells #[.int .i64 s, u] T)).alloc (.cells #[.int .i64 t, v] T)).alloc (.cells #[.int .i64 p, y] T)).alloc (.cells #[.int .i64 q, z] T)) w.heap.size s u ∧
    AttrAt ((((w.alloc (.cells #[.int .i64 s, u] T)).alloc (.cells #[.int .i64 t, v] T)).alloc (.cells #[.int .i64 p, y] T)).alloc (.cells #[.int .i64 q, z] T)) (w.heap.size + 1) t v := by
  refine ⟨⟨⟨?_, ?_⟩, ?_, ?_⟩, ⟨⟨?_, ?_⟩, ?_, ?_⟩, ⟨?_, ?_⟩, ?_, ?_⟩ <;> go_simp
theorem Ext.alloc4 (w : World) (a b c d : Obj) : Ext w ((((w.alloc a).alloc b).alloc c).alloc d) := ((((Ext.refl w).alloc a).alloc b).alloc c).alloc d

theorem keepJ {W W' : World} {a b c d : Addr} {u v r s : Value} (x : Ext W W') (h : W.cell? a = some u ∧ W.cell? b = some v ∧ W.cell? c = some r ∧ W.cell? d = some s) : W'.cell? a = some u ∧ W'.cell? b = some v ∧ W'.cell? c = some r ∧ W'.cell? d = some s :=
  ⟨x.cell h.1, x.cell h.2.1, x.cell h.2.2.1, x.cell h.2.2.2⟩
theorem keepJF {B : Nat} {wr W W' : World} {v0 : Value} {l : List Int} (f : Fresh B wr v0 l) (t : W.grownBy W' v0.ownBlock) {a b c d : Addr} {u v r s : Value} (ha : a.block < B) (hb : b.block < B) (hc : c.block < B) (hd : d.block < B)
    (h : W.cell? a = some u ∧ W.cell? b = some v ∧ W.cell? c = some r ∧ W.cell? d = some s) : W'.cell? a = some u ∧ W'.cell? b = some v ∧ W'.cell? c = some r ∧ W'.cell? d = some s := by
  have ne : ∀ q : Addr, q.block < B → some q.block ≠ v0.ownBlock := fun q hq e => by
    have := (World.ownsRow.lt f q.block e.symm).1
    omega
  exact ⟨World.grownBy.cell t h.1 (ne a ha), World.grownBy.cell t h.2.1 (ne b hb), World.grownBy.cell t h.2.2.1 (ne c hc), World.grownBy.cell t h.2.2.2 (ne d hd)⟩
theorem keepJS {W : World} {g o : Nat} {z : Value} {a b c d : Addr} {u v r s : Value} (ha : a.block ≠ g) (hb : b.block ≠ g) (hc : c.block ≠ g) (hd : d.block ≠ g)
    (h : W.cell? a = some u ∧ W.cell? b = some v ∧ W.cell? c = some r ∧ W.cell? d = some s) : (W.setCell ⟨g, o, none⟩ z).cell? a = some u ∧ (W.setCell ⟨g, o, none⟩ z).cell? b = some v ∧ (W.setCell ⟨g, o, none⟩ z).cell? c = some r ∧ (W.setCell ⟨g, o, none⟩ z).cell? d = some s :=
  ⟨cell_other ha h.1, cell_other hb h.2.1, cell_other hc h.2.2.1, cell_other hd h.2.2.2⟩

/-- The first k greater ones. -/
def joinTo (l r : List Int) (k : Nat) : List Int := (List.range k).map fun i => mo (at0 l i) (at0 r i)
theorem joinTo_succ (l r : List Int) (k : Nat) : joinTo l r (k + 1) = joinTo l r k ++ [mo (at0 l k) (at0 r k)] := by simp [joinTo, List.range_succ]
theorem joinTo_len (l r : List Int) (k : Nat) : (joinTo l r k).length = k := by simp [joinTo]

end Go.Proofs.Ytbffkidkfannhaa

namespace Go.Proofs.Ytbffkidkfannhaa
open Go.RowKit

set_option maxHeartbeats 1000000 in
theorem toCmd_any (k i f t a : Int) (w : World) :
    Calls Try.prog 46 #[.agg #[.int .i64 k, .int .i64 i, .int .i64 f, .int .i64 t, .int .i64 a]] w (CmdExt k i f t a w) := by
  go_enter Try.func46, Try.ntmps46
  go_wp2
  exact bodyPost_ret (v := .agg #[.int .i64 k, .int .i64 i, .int .i64 f, .int .i64 t, .int .i64 a]) (by simp [results, Try.results46, go_sem]) rfl ⟨rfl, by repeat (first | exact Ext.refl _ | apply Ext.drew | apply Ext.alloc)⟩

end Go.Proofs.Ytbffkidkfannhaa

namespace Go.Proofs.Ytbffkidkfannhaa
open Go.RowKit
set_option linter.unusedVariables false

/-- Ten cells of the block b may be written. -/
def FreeAt (w : World) (b : Nat) : Prop :=
  w.frozen? ⟨b, 0, none⟩ = false ∧ w.frozen? ⟨b, 1, none⟩ = false ∧ w.frozen? ⟨b, 2, none⟩ = false ∧ w.frozen? ⟨b, 3, none⟩ = false ∧ w.frozen? ⟨b, 4, none⟩ = false ∧ w.frozen? ⟨b, 5, none⟩ = false ∧ w.frozen? ⟨b, 6, none⟩ = false ∧ w.frozen? ⟨b, 7, none⟩ = false ∧ w.frozen? ⟨b, 8, none⟩ = false ∧ w.frozen? ⟨b, 9, none⟩ = false
theorem FreeAt.ext {w w' : World} {b : Nat} (hl : b < w.heap.size) (h : FreeAt w b) (e : Ext w w') : FreeAt w' b := by
  obtain ⟨h0, h1, h2, h3, h4, h5, h6, h7, h8, h9⟩ := h
  exact ⟨e.frozen hl h0, e.frozen hl h1, e.frozen hl h2, e.frozen hl h3, e.frozen hl h4, e.frozen hl h5, e.frozen hl h6, e.frozen hl h7, e.frozen hl h8, e.frozen hl h9⟩
def zeroR : RowD := ⟨0, 0, 0, 0, 0, 0, 0, 0, 0, []⟩
/-- A row comes back whose list lies in new memory. -/
def NewRow (r : RowD) (w : World) (e : Ending) (w' : World) : Prop :=
  ∃ u, e = .returned (.agg #[.int .i64 r.b, .int .i64 r.v, .int .i64 r.st, .int .i64 r.k, .int .i64 r.i, .int .i64 r.f, .int .i64 r.t, .int .i64 r.a, .int .i64 r.s, u]) ∧ Fresh w.heap.size w' u r.l ∧ Ext w w'
/-- .. and a Bool. -/
def TwoRow (r : RowD) (b : Bool) (w : World) (e : Ending) (w' : World) : Prop :=
  ∃ u, e = .returned (.tuple #[.agg #[.int .i64 r.b, .int .i64 r.v, .int .i64 r.st, .int .i64 r.k, .int .i64 r.i, .int .i64 r.f, .int .i64 r.t, .int .i64 r.a, .int .i64 r.s, u], .bool b]) ∧ Fresh w.heap.size w' u r.l ∧ Ext w w'

theorem row_three (w : World) (T T' : TypeId) (a : Obj) (b v st k i f t c s b' v' st' k' i' f' t' c' s' : Int) (u u' : Value) :
    (RowAt (((w.alloc a).alloc (.cells #[.int .i64 b, .int .i64 v, .int .i64 st, .int .i64 k, .int .i64 i, .int .i64 f, .int .i64 t, .int .i64 c, .int .i64 s, u] T)).alloc (.cells #[.int .i64 b', .int .i64 v', .int .i64 st', .int .i64 k', .int .i64 i', .int .i64 f', .int .i64 t', .int .i64 c', .int .i64 s', u'] T')) (w.heap.size + 1) ⟨b, v, st, k, i, f, t, c, s, []⟩ u ∧
     FreeAt (((w.alloc a).alloc (.cells #[.int .i64 b, .int .i64 v, .int .i64 st, .int .i64 k, .int .i64 i, .int .i64 f, .int .i64 t, .int .i64 c, .int .i64 s, u] T)).alloc (.cells #[.int .i64 b', .int .i64 v', .int .i64 st', .int .i64 k', .int .i64 i', .int .i64 f', .int .i64 t', .int .i64 c', .int .i64 s', u'] T')) (w.heap.size + 1)) ∧
    (RowAt (((w.alloc a).alloc (.cells #[.int .i64 b, .int .i64 v, .int .i64 st, .int .i64 k, .int .i64 i, .int .i64 f, .int .i64 t, .int .i64 c, .int .i64 s, u] T)).alloc (.cells #[.int .i64 b', .int .i64 v', .int .i64 st', .int .i64 k', .int .i64 i', .int .i64 f', .int .i64 t', .int .i64 c', .int .i64 s', u'] T')) (w.heap.size + 1 + 1) ⟨b', v', st', k', i', f', t', c', s', []⟩ u' ∧
     FreeAt (((w.alloc a).alloc (.cells #[.int .i64 b, .int .i64 v, .int .i64 st, .int .i64 k, .int .i64 i, .int .i64 f, .int .i64 t, .int .i64 c, .int .i64 s, u] T)).alloc (.cells #[.int .i64 b', .int .i64 v', .int .i64 st', .int .i64 k', .int .i64 i', .int .i64 f', .int .i64 t', .int .i64 c', .int .i64 s', u'] T')) (w.heap.size + 1 + 1)) := by
  refine ⟨⟨⟨?_, ?_, ?_, ?_, ?_, ?_, ?_, ?_, ?_, ?_⟩, ⟨?_, ?_, ?_, ?_, ?_, ?_, ?_, ?_, ?_, ?_⟩⟩, ⟨⟨?_, ?_, ?_, ?_, ?_, ?_, ?_, ?_, ?_, ?_⟩, ⟨?_, ?_, ?_, ?_, ?_, ?_, ?_, ?_, ?_, ?_⟩⟩⟩ <;> go_simp

theorem row_set5 {w : World} {b : Nat} {d : RowD} {y : Value} (k i f t a : Int) (h : RowAt w b d y) :
    RowAt (((((w.setCell ⟨b, 3, none⟩ (.int .i64 k)).setCell ⟨b, 4, none⟩ (.int .i64 i)).setCell ⟨b, 5, none⟩ (.int .i64 f)).setCell ⟨b, 6, none⟩ (.int .i64 t)).setCell ⟨b, 7, none⟩ (.int .i64 a)) b ⟨d.b, d.v, d.st, k, i, f, t, a, d.s, d.l⟩ y := by
  obtain ⟨h0, h1, h2, h3, h4, h5, h6, h7, h8, h9⟩ := h
  refine ⟨?_, ?_, ?_, ?_, ?_, ?_, ?_, ?_, ?_, ?_⟩ <;> go_simp
theorem free_set {w : World} {b : Nat} (a : Addr) (v : Value) (h : FreeAt w b) : FreeAt (w.setCell a v) b := by
  obtain ⟨h0, h1, h2, h3, h4, h5, h6, h7, h8, h9⟩ := h
  refine ⟨?_, ?_, ?_, ?_, ?_, ?_, ?_, ?_, ?_, ?_⟩ <;> (rw [World.frozen?_setCell]; assumption)
theorem row_apart {w : World} {b : Nat} {d : RowD} {y : Value} (a : Addr) (v : Value) (hne : a.block ≠ b) (h : RowAt w b d y) : RowAt (w.setCell a v) b d y := by
  obtain ⟨h0, h1, h2, h3, h4, h5, h6, h7, h8, h9⟩ := h
  refine ⟨?_, ?_, ?_, ?_, ?_, ?_, ?_, ?_, ?_, ?_⟩ <;> (rw [World.cell?_setCell_other _ _ _ _ (fun e => hne (by rw [e]))]; assumption)

set_option maxHeartbeats 2000000 in
set_option maxRecDepth 100000 in
theorem toRow_any (r : RowD) (u : Value) (w : World) (hv : Ints w u r.l) (hs : r.l.length ≤ 35184372088831) :
    Calls Try.prog 19 #[.agg #[.int .i64 r.b, .int .i64 r.v, .int .i64 r.st, .int .i64 r.k, .int .i64 r.i, .int .i64 r.f, .int .i64 r.t, .int .i64 r.a, .int .i64 r.s, u]] w (NewRow r w) := by
  have HS := Lib.hid hs
  have hb := rowAt_new w 48 r u
  clear hs
  obtain ⟨wb, hwb⟩ : ∃ wb, wb = ((w.alloc (.cells #[.int .i64 r.b, .int .i64 r.v, .int .i64 r.st, .int .i64 r.k, .int .i64 r.i, .int .i64 r.f, .int .i64 r.t, .int .i64 r.a, .int .i64 r.s, u] 48)).alloc (.cells #[.int .i64 0, .int .i64 0, .int .i64 0, .int .i64 0, .int .i64 0, .int .i64 0, .int .i64 0, .int .i64 0, .int .i64 0, .slice none 0 0] 57)).alloc (.cells #[.int .i64 r.b, .int .i64 r.v, .int .i64 r.st, .int .i64 0, .int .i64 0, .int .i64 0, .int .i64 0, .int .i64 0, .int .i64 0, .slice none 0 0] 57) := ⟨_, rfl⟩
  have h3 := row_three w 57 57 (.cells #[.int .i64 r.b, .int .i64 r.v, .int .i64 r.st, .int .i64 r.k, .int .i64 r.i, .int .i64 r.f, .int .i64 r.t, .int .i64 r.a, .int .i64 r.s, u] 48) 0 0 0 0 0 0 0 0 0 r.b r.v r.st 0 0 0 0 0 0 (.slice none 0 0) (.slice none 0 0)
  have xb : Ext w wb := by rw [hwb]; exact Ext.alloc3 _ _ _ _
  have sb : wb.heap.size = w.heap.size + 3 := by rw [hwb]; exact size3 _ _ _ _
  have rb : RowAt wb w.heap.size r u := by rw [hwb]; exact hb.ext (((Ext.refl _).alloc _).alloc _)
  rw [← hwb] at h3
  have HWB := Lib.hid hwb
  have H3 := Lib.hid h3
  have SB := Lib.hid sb
  have RB := Lib.hid rb
  clear hwb h3 sb rb hb
  go_enter Try.func19, Try.ntmps19
  go_wp2_with fail
  rw [← HWB.out]
  refine (toCmd_any _ _ _ _ _ _).mono ?_
  rintro e w1 ⟨rfl, x1⟩
  have hsz : w.heap.size + 3 ≤ w1.heap.size := by have := x1.size; have := SB.out; omega
  obtain ⟨⟨⟨o0, o1, o2, o3, o4, o5, o6, o7, o8, o9⟩, ⟨z0, z1, z2, z3, z4, z5, z6, z7, z8, z9⟩⟩, ⟨⟨p0, p1, p2, p3, p4, p5, p6, p7, p8, p9⟩, ⟨y0, y1, y2, y3, y4, y5, y6, y7, y8, y9⟩⟩⟩ : (RowAt w1 (w.heap.size + 1) _ _ ∧ FreeAt w1 (w.heap.size + 1)) ∧ (RowAt w1 (w.heap.size + 1 + 1) _ _ ∧ FreeAt w1 (w.heap.size + 1 + 1)) :=
    ⟨⟨H3.out.1.1.ext x1, H3.out.1.2.ext (by have := SB.out; omega) x1⟩, ⟨H3.out.2.1.ext x1, H3.out.2.2.ext (by have := SB.out; omega) x1⟩⟩
  obtain ⟨q0, q1, q2, q3, q4, q5, q6, q7, q8, q9⟩ := RB.out.ext x1
  go_wp2_with fail
  have xc : Ext w (((((w1.setCell ⟨w.heap.size + 1 + 1, 3, none⟩ (.int .i64 r.k)).setCell ⟨w.heap.size + 1 + 1, 4, none⟩ (.int .i64 r.i)).setCell ⟨w.heap.size + 1 + 1, 5, none⟩ (.int .i64 r.f)).setCell ⟨w.heap.size + 1 + 1, 6, none⟩ (.int .i64 r.t)).setCell ⟨w.heap.size + 1 + 1, 7, none⟩ (.int .i64 r.a)) :=
    (((((xb.trans x1).setc (by dsimp only; omega)).setc (by dsimp only; omega)).setc (by dsimp only; omega)).setc (by dsimp only; omega)).setc (by dsimp only; omega)
  have rp := row_set5 r.k r.i r.f r.t r.a (show RowAt w1 (w.heap.size + 1 + 1) ⟨r.b, r.v, r.st, 0, 0, 0, 0, 0, 0, []⟩ _ from ⟨p0, p1, p2, p3, p4, p5, p6, p7, p8, p9⟩)
  have fp : FreeAt (((((w1.setCell ⟨w.heap.size + 1 + 1, 3, none⟩ (.int .i64 r.k)).setCell ⟨w.heap.size + 1 + 1, 4, none⟩ (.int .i64 r.i)).setCell ⟨w.heap.size + 1 + 1, 5, none⟩ (.int .i64 r.f)).setCell ⟨w.heap.size + 1 + 1, 6, none⟩ (.int .i64 r.t)).setCell ⟨w.heap.size + 1 + 1, 7, none⟩ (.int .i64 r.a)) (w.heap.size + 1 + 1) :=
    free_set _ _ (free_set _ _ (free_set _ _ (free_set _ _ (free_set _ _ ⟨y0, y1, y2, y3, y4, y5, y6, y7, y8, y9⟩))))
  have ro : RowAt (((((w1.setCell ⟨w.heap.size + 1 + 1, 3, none⟩ (.int .i64 r.k)).setCell ⟨w.heap.size + 1 + 1, 4, none⟩ (.int .i64 r.i)).setCell ⟨w.heap.size + 1 + 1, 5, none⟩ (.int .i64 r.f)).setCell ⟨w.heap.size + 1 + 1, 6, none⟩ (.int .i64 r.t)).setCell ⟨w.heap.size + 1 + 1, 7, none⟩ (.int .i64 r.a)) (w.heap.size + 1) zeroR (.slice none 0 0) :=
    row_apart _ _ (by simp) (row_apart _ _ (by simp) (row_apart _ _ (by simp) (row_apart _ _ (by simp) (row_apart _ _ (by simp) ⟨o0, o1, o2, o3, o4, o5, o6, o7, o8, o9⟩))))
  have fo : FreeAt (((((w1.setCell ⟨w.heap.size + 1 + 1, 3, none⟩ (.int .i64 r.k)).setCell ⟨w.heap.size + 1 + 1, 4, none⟩ (.int .i64 r.i)).setCell ⟨w.heap.size + 1 + 1, 5, none⟩ (.int .i64 r.f)).setCell ⟨w.heap.size + 1 + 1, 6, none⟩ (.int .i64 r.t)).setCell ⟨w.heap.size + 1 + 1, 7, none⟩ (.int .i64 r.a)) (w.heap.size + 1) :=
    free_set _ _ (free_set _ _ (free_set _ _ (free_set _ _ (free_set _ _ ⟨z0, z1, z2, z3, z4, z5, z6, z7, z8, z9⟩))))
  have hsz2 : w.heap.size + 3 ≤ (((((w1.setCell ⟨w.heap.size + 1 + 1, 3, none⟩ (.int .i64 r.k)).setCell ⟨w.heap.size + 1 + 1, 4, none⟩ (.int .i64 r.i)).setCell ⟨w.heap.size + 1 + 1, 5, none⟩ (.int .i64 r.f)).setCell ⟨w.heap.size + 1 + 1, 6, none⟩ (.int .i64 r.t)).setCell ⟨w.heap.size + 1 + 1, 7, none⟩ (.int .i64 r.a)).heap.size := by simp only [World.size_setCell]; exact hsz
  refine (toAttr_any _ _ r.l _ (hv.ext xc) HS.out).mono ?_
  clear p0 p1 p2 p3 p4 p5 p6 p7 p8 p9 o0 o1 o2 o3 o4 o5 o6 o7 o8 o9 q0 q1 q2 q3 q4 q5 q6 q7 q8 q9 z0 z1 z2 z3 z4 z5 z6 z7 z8 z9 y0 y1 y2 y3 y4 y5 y6 y7 y8 y9
  obtain ⟨wc, hwc⟩ : ∃ wc, wc = (((((w1.setCell ⟨w.heap.size + 1 + 1, 3, none⟩ (.int .i64 r.k)).setCell ⟨w.heap.size + 1 + 1, 4, none⟩ (.int .i64 r.i)).setCell ⟨w.heap.size + 1 + 1, 5, none⟩ (.int .i64 r.f)).setCell ⟨w.heap.size + 1 + 1, 6, none⟩ (.int .i64 r.t)).setCell ⟨w.heap.size + 1 + 1, 7, none⟩ (.int .i64 r.a)) := ⟨_, rfl⟩
  rw [← hwc] at xc rp fp ro fo hsz2 ⊢
  clear hwc
  rintro e w2 ⟨v, rfl, f2, x2⟩
  have hy : Ext w w2 := xc.trans x2
  obtain ⟨p0, p1, p2, p3, p4, p5, p6, p7, p8, p9⟩ := rp.ext x2
  obtain ⟨o0, o1, o2, o3, o4, o5, o6, o7, o8, o9⟩ := ro.ext x2
  obtain ⟨y0, y1, y2, y3, y4, y5, y6, y7, y8, y9⟩ := fp.ext (by omega) x2
  obtain ⟨z0, z1, z2, z3, z4, z5, z6, z7, z8, z9⟩ := fo.ext (by omega) x2
  obtain ⟨au, cu, rfl⟩ := f2.form
  have F := Lib.hid f2
  have HZ := Lib.hid hsz2
  clear f2 rp ro fp fo xc xb x1 x2 hsz2
  go_wp2
  refine bodyPost_ret (v := .agg #[.int .i64 r.b, .int .i64 r.v, .int .i64 r.st, .int .i64 r.k, .int .i64 r.i, .int .i64 r.f, .int .i64 r.t, .int .i64 r.a, .int .i64 r.s, .slice au r.l.length cu]) (by simp [results, Try.results19, go_sem, o0, o1, o2, o3, o4, o5, o6, o7, o8, o9]) rfl ⟨_, rfl, ?_, ?_⟩
  · exact ((((((((((((F.out.set _ _ _ (by have := HZ.out; omega)).set _ _ _ (by have := HZ.out; omega)).set _ _ _ (by have := HZ.out; omega)).set _ _ _ (by have := HZ.out; omega)).set _ _ _ (by have := HZ.out; omega)).set _ _ _ (by have := HZ.out; omega)).set _ _ _ (by have := HZ.out; omega)).set _ _ _ (by have := HZ.out; omega)).set _ _ _ (by have := HZ.out; omega)).set _ _ _ (by have := HZ.out; omega)).set _ _ _ (by have := HZ.out; omega)).set _ _ _ (by have := HZ.out; omega)).more (by have := HZ.out; omega)
  · exact (((((((((((hy.setc (by dsimp only; omega)).setc (by dsimp only; omega)).setc (by dsimp only; omega)).setc (by dsimp only; omega)).setc (by dsimp only; omega)).setc (by dsimp only; omega)).setc (by dsimp only; omega)).setc (by dsimp only; omega)).setc (by dsimp only; omega)).setc (by dsimp only; omega)).setc (by dsimp only; omega)).setc (by dsimp only; omega)

end Go.Proofs.Ytbffkidkfannhaa

namespace Go.Proofs.Ytbffkidkfannhaa
open Go.RowKit
set_option linter.unusedVariables false

structure MsgD where
  kd : Int
  fr : Int
  tt : Int
  rp : Int
  no : Int
  b : Int
  v : Int
  st : Int
  k : Int
  i : Int
  f : Int
  t : Int
  a : Int
  s : Int
  l : List Int

def MsgAt (w : World) (b : Nat) (r : MsgD) (u : Value) : Prop :=
  w.cell? ⟨b, 0, none⟩ = some (.int .i64 r.kd) ∧ w.cell? ⟨b, 1, none⟩ = some (.int .i64 r.fr) ∧ w.cell? ⟨b, 2, none⟩ = some (.int .i64 r.tt) ∧ w.cell? ⟨b, 3, none⟩ = some (.int .i64 r.rp) ∧ w.cell? ⟨b, 4, none⟩ = some (.int .i64 r.no) ∧ w.cell? ⟨b, 5, none⟩ = some (.int .i64 r.b) ∧ w.cell? ⟨b, 6, none⟩ = some (.int .i64 r.v) ∧ w.cell? ⟨b, 7, none⟩ = some (.int .i64 r.st) ∧ w.cell? ⟨b, 8, none⟩ = some (.int .i64 r.k) ∧ w.cell? ⟨b, 9, none⟩ = some (.int .i64 r.i) ∧ w.cell? ⟨b, 10, none⟩ = some (.int .i64 r.f) ∧ w.cell? ⟨b, 11, none⟩ = some (.int .i64 r.t) ∧ w.cell? ⟨b, 12, none⟩ = some (.int .i64 r.a) ∧ w.cell? ⟨b, 13, none⟩ = some (.int .i64 r.s) ∧ w.cell? ⟨b, 14, none⟩ = some u
theorem MsgAt.ext {w w' : World} {b : Nat} {r : MsgD} {u : Value} (h : MsgAt w b r u) (e : Ext w w') : MsgAt w' b r u := by
  obtain ⟨h0, h1, h2, h3, h4, h5, h6, h7, h8, h9, h10, h11, h12, h13, h14⟩ := h
  exact ⟨e.cell h0, e.cell h1, e.cell h2, e.cell h3, e.cell h4, e.cell h5, e.cell h6, e.cell h7, e.cell h8, e.cell h9, e.cell h10, e.cell h11, e.cell h12, e.cell h13, e.cell h14⟩
theorem msgAt_new (w : World) (T : TypeId) (r : MsgD) (u : Value) : MsgAt (w.alloc (.cells #[.int .i64 r.kd, .int .i64 r.fr, .int .i64 r.tt, .int .i64 r.rp, .int .i64 r.no, .int .i64 r.b, .int .i64 r.v, .int .i64 r.st, .int .i64 r.k, .int .i64 r.i, .int .i64 r.f, .int .i64 r.t, .int .i64 r.a, .int .i64 r.s, u] T)) w.heap.size r u := by
  refine ⟨?_, ?_, ?_, ?_, ?_, ?_, ?_, ?_, ?_, ?_, ?_, ?_, ?_, ?_, ?_⟩ <;> go_simp
theorem two_msgs (w : World) (T T' : TypeId) (r d : MsgD) (u v : Value) :
    MsgAt ((w.alloc (.cells #[.int .i64 r.kd, .int .i64 r.fr, .int .i64 r.tt, .int .i64 r.rp, .int .i64 r.no, .int .i64 r.b, .int .i64 r.v, .int .i64 r.st, .int .i64 r.k, .int .i64 r.i, .int .i64 r.f, .int .i64 r.t, .int .i64 r.a, .int .i64 r.s, u] T)).alloc (.cells #[.int .i64 d.kd, .int .i64 d.fr, .int .i64 d.tt, .int .i64 d.rp, .int .i64 d.no, .int .i64 d.b, .int .i64 d.v, .int .i64 d.st, .int .i64 d.k, .int .i64 d.i, .int .i64 d.f, .int .i64 d.t, .int .i64 d.a, .int .i64 d.s, v] T')) w.heap.size r u ∧
    MsgAt ((w.alloc (.cells #[.int .i64 r.kd, .int .i64 r.fr, .int .i64 r.tt, .int .i64 r.rp, .int .i64 r.no, .int .i64 r.b, .int .i64 r.v, .int .i64 r.st, .int .i64 r.k, .int .i64 r.i, .int .i64 r.f, .int .i64 r.t, .int .i64 r.a, .int .i64 r.s, u] T)).alloc (.cells #[.int .i64 d.kd, .int .i64 d.fr, .int .i64 d.tt, .int .i64 d.rp, .int .i64 d.no, .int .i64 d.b, .int .i64 d.v, .int .i64 d.st, .int .i64 d.k, .int .i64 d.i, .int .i64 d.f, .int .i64 d.t, .int .i64 d.a, .int .i64 d.s, v] T')) (w.heap.size + 1) d v := by
  refine ⟨⟨?_, ?_, ?_, ?_, ?_, ?_, ?_, ?_, ?_, ?_, ?_, ?_, ?_, ?_, ?_⟩, ⟨?_, ?_, ?_, ?_, ?_, ?_, ?_, ?_, ?_, ?_, ?_, ?_, ?_, ?_, ?_⟩⟩ <;> go_simp

/-- Fifteen cells of the block b may be written. -/
def FreeM (w : World) (b : Nat) : Prop :=
  w.frozen? ⟨b, 0, none⟩ = false ∧ w.frozen? ⟨b, 1, none⟩ = false ∧ w.frozen? ⟨b, 2, none⟩ = false ∧ w.frozen? ⟨b, 3, none⟩ = false ∧ w.frozen? ⟨b, 4, none⟩ = false ∧ w.frozen? ⟨b, 5, none⟩ = false ∧ w.frozen? ⟨b, 6, none⟩ = false ∧ w.frozen? ⟨b, 7, none⟩ = false ∧ w.frozen? ⟨b, 8, none⟩ = false ∧ w.frozen? ⟨b, 9, none⟩ = false ∧ w.frozen? ⟨b, 10, none⟩ = false ∧ w.frozen? ⟨b, 11, none⟩ = false ∧ w.frozen? ⟨b, 12, none⟩ = false ∧ w.frozen? ⟨b, 13, none⟩ = false ∧ w.frozen? ⟨b, 14, none⟩ = false
theorem FreeM.ext {w w' : World} {b : Nat} (hl : b < w.heap.size) (h : FreeM w b) (e : Ext w w') : FreeM w' b := by
  obtain ⟨h0, h1, h2, h3, h4, h5, h6, h7, h8, h9, h10, h11, h12, h13, h14⟩ := h
  exact ⟨e.frozen hl h0, e.frozen hl h1, e.frozen hl h2, e.frozen hl h3, e.frozen hl h4, e.frozen hl h5, e.frozen hl h6, e.frozen hl h7, e.frozen hl h8, e.frozen hl h9, e.frozen hl h10, e.frozen hl h11, e.frozen hl h12, e.frozen hl h13, e.frozen hl h14⟩
theorem freeM_set {w : World} {b : Nat} (a : Addr) (v : Value) (h : FreeM w b) : FreeM (w.setCell a v) b := by
  obtain ⟨h0, h1, h2, h3, h4, h5, h6, h7, h8, h9, h10, h11, h12, h13, h14⟩ := h
  refine ⟨?_, ?_, ?_, ?_, ?_, ?_, ?_, ?_, ?_, ?_, ?_, ?_, ?_, ?_, ?_⟩ <;> (rw [World.frozen?_setCell]; assumption)
theorem msg_apart {w : World} {b : Nat} {d : MsgD} {y : Value} (a : Addr) (v : Value) (hne : a.block ≠ b) (h : MsgAt w b d y) : MsgAt (w.setCell a v) b d y := by
  obtain ⟨h0, h1, h2, h3, h4, h5, h6, h7, h8, h9, h10, h11, h12, h13, h14⟩ := h
  refine ⟨?_, ?_, ?_, ?_, ?_, ?_, ?_, ?_, ?_, ?_, ?_, ?_, ?_, ?_, ?_⟩ <;> (rw [World.cell?_setCell_other _ _ _ _ (fun e => hne (by rw [e]))]; assumption)
theorem msg_set5 {w : World} {b : Nat} {d : MsgD} {y : Value} (k i f t a : Int) (h : MsgAt w b d y) :
    MsgAt (((((w.setCell ⟨b, 8, none⟩ (.int .i64 k)).setCell ⟨b, 9, none⟩ (.int .i64 i)).setCell ⟨b, 10, none⟩ (.int .i64 f)).setCell ⟨b, 11, none⟩ (.int .i64 t)).setCell ⟨b, 12, none⟩ (.int .i64 a)) b ⟨d.kd, d.fr, d.tt, d.rp, d.no, d.b, d.v, d.st, k, i, f, t, a, d.s, d.l⟩ y := by
  obtain ⟨h0, h1, h2, h3, h4, h5, h6, h7, h8, h9, h10, h11, h12, h13, h14⟩ := h
  refine ⟨?_, ?_, ?_, ?_, ?_, ?_, ?_, ?_, ?_, ?_, ?_, ?_, ?_, ?_, ?_⟩ <;> go_simp
def NewMsg (r : MsgD) (w : World) (e : Ending) (w' : World) : Prop :=
  ∃ u, e = .returned (.agg #[.int .i64 r.kd, .int .i64 r.fr, .int .i64 r.tt, .int .i64 r.rp, .int .i64 r.no, .int .i64 r.b, .int .i64 r.v, .int .i64 r.st, .int .i64 r.k, .int .i64 r.i, .int .i64 r.f, .int .i64 r.t, .int .i64 r.a, .int .i64 r.s, u]) ∧ Fresh w.heap.size w' u r.l ∧ Ext w w'

/-- Whether two commands are the same. -/
def sameC (k i f t a k' i' f' t' a' : Int) : Bool := k == k' && i == i' && f == f' && t == t' && a == a'
set_option maxHeartbeats 1000000 in
theorem eq_cmd (k i f t a k' i' f' t' a' : Int) (W : World) : (Op.equalIn 10000 54 (.agg #[.int .i64 k, .int .i64 i, .int .i64 f, .int .i64 t, .int .i64 a]) (.agg #[.int .i64 k', .int .i64 i', .int .i64 f', .int .i64 t', .int .i64 a'])).run Try.prog W = .ok (sameC k i f t a k' i' f' t' a') W := by
  have hS : Try.prog.underlying 54 = some (.struct (Try.prog.fieldsOf 54)) := by kernel_rfl
  have hp : Try.prog.stoodInHeld 54 = false := by kernel_rfl
  have hF : (Try.prog.fieldsOf 54).toList.map (fun f => (f.name == "_", f.type, f.offset)) = [(false, 3, 0), (false, 3, 1), (false, 3, 2), (false, 3, 3), (false, 3, 4)] := by kernel_rfl
  have hpart : ∀ (xs : Array Value) (j : Nat) (x : Int) (W : World), xs[j]? = some (.int .i64 x) → (part 3 xs j).run Try.prog W = .ok (.int .i64 x) W := by
    intro xs j x W hx
    obtain ⟨i0, hi, hz0, hz1, hz2⟩ := info_parts Try.infoInt
    unfold part
    go_simp
  have hq : ∀ (a b : Int) (W : World), (Op.equalIn 9999 3 (.int .i64 a) (.int .i64 b)).run Try.prog W = .ok (a == b) W := fun a b W => run_equalIn_int W 9998 3 .i64 .i64 a b Try.underlying3
  rw [show (10000 : Nat) = 9999 + 1 from rfl, run_equalIn_struct W 9999 _ _ _ hS hp]
  obtain ⟨L, hL⟩ : ∃ L, L = (Try.prog.fieldsOf 54).toList := ⟨_, rfl⟩
  rw [← hL] at hF ⊢
  clear hL hS hp
  obtain ⟨f0, f1, f2, f3, f4, rfl⟩ : ∃ f0 f1 f2 f3 f4, L = [f0, f1, f2, f3, f4] := by
    have hl : L.length = 5 := by have := congrArg List.length hF; simpa using this
    match L, hl with
    | [a, b, c, d, e], _ => exact ⟨a, b, c, d, e, rfl⟩
  simp only [List.map_cons, List.map_nil, List.cons.injEq, Prod.mk.injEq, and_true, beq_eq_false_iff_ne] at hF
  obtain ⟨⟨n0, t0, o0⟩, ⟨n1, t1, o1⟩, ⟨n2, t2, o2⟩, ⟨n3, t3, o3⟩, ⟨n4, t4, o4⟩⟩ := hF
  unfold sameC
  simp only [Op.eqFields, n0, n1, n2, n3, n4, t0, t1, t2, t3, t4, o0, o1, o2, o3, o4, ne_eq, not_false_eq_true, if_true, Sem.run_bind]
  rw [hpart _ _ k _ rfl]
  simp only [Result.andThen_ok]
  rw [hpart _ _ k' _ rfl]
  simp only [Result.andThen_ok]
  rw [hq]
  simp only [Result.andThen_ok]
  cases h0 : (k == k')
  · simp
  simp only [Bool.not_true, Bool.false_eq_true, if_false, Sem.run_bind]
  rw [hpart _ _ i _ rfl]
  simp only [Result.andThen_ok]
  rw [hpart _ _ i' _ rfl]
  simp only [Result.andThen_ok]
  rw [hq]
  simp only [Result.andThen_ok]
  cases h1 : (i == i')
  · simp
  simp only [Bool.not_true, Bool.false_eq_true, if_false, Sem.run_bind]
  rw [hpart _ _ f _ rfl]
  simp only [Result.andThen_ok]
  rw [hpart _ _ f' _ rfl]
  simp only [Result.andThen_ok]
  rw [hq]
  simp only [Result.andThen_ok]
  cases h2 : (f == f')
  · simp
  simp only [Bool.not_true, Bool.false_eq_true, if_false, Sem.run_bind]
  rw [hpart _ _ t _ rfl]
  simp only [Result.andThen_ok]
  rw [hpart _ _ t' _ rfl]
  simp only [Result.andThen_ok]
  rw [hq]
  simp only [Result.andThen_ok]
  cases h3 : (t == t')
  · simp
  simp only [Bool.not_true, Bool.false_eq_true, if_false, Sem.run_bind]
  rw [hpart _ _ a _ rfl]
  simp only [Result.andThen_ok]
  rw [hpart _ _ a' _ rfl]
  simp only [Result.andThen_ok]
  rw [hq]
  simp only [Result.andThen_ok]
  cases h4 : (a == a')
  · simp
  simp

/-- Whether the eight numbers are the same. -/
def sameH (r d : MsgD) : Bool := r.kd == d.kd && r.fr == d.fr && r.tt == d.tt && r.rp == d.rp && r.no == d.no && r.b == d.b && r.v == d.v && r.st == d.st
def sameM (r d : MsgD) : Bool := sameH r d && (sameC r.k r.i r.f r.t r.a d.k d.i d.f d.t d.a && sameA r.s d.s r.l d.l)
end Go.Proofs.Ytbffkidkfannhaa

namespace Go.Proofs.Ytbffkidkfannhaa
open Go.RowKit
set_option linter.unusedVariables false

/-- The rows of a state. -/
def inSt (S : List RowD) (st : Int) : List RowD := S.filter fun r => r.st == st
/-- The first of the greatest vote. -/
def lastV (L : List RowD) : RowD := match L with
  | [] => zeroR
  | a :: t => t.foldl (fun m r => if m.v < r.v then r else m) a
theorem lastV_one (r : RowD) : lastV [r] = r := rfl
theorem lastV_snoc {L : List RowD} (h : L ≠ []) (r : RowD) : lastV (L ++ [r]) = if (lastV L).v < r.v then r else lastV L := by
  cases L with
  | nil => exact absurd rfl h
  | cons a t =>
    show (t ++ [r]).foldl _ a = _
    rw [List.foldl_append]
    rfl
theorem inSt_yes {S : List RowD} {st : Int} {k : Nat} (h : k < S.length) (hs : (S[k].st == st) = true) : inSt (S.take (k + 1)) st = inSt (S.take k) st ++ [S[k]] := by
  unfold inSt
  rw [List.take_succ_eq_append_getElem h, List.filter_append]
  simp [hs]
theorem inSt_no {S : List RowD} {st : Int} {k : Nat} (h : k < S.length) (hs : (S[k].st == st) = false) : inSt (S.take (k + 1)) st = inSt (S.take k) st := by
  unfold inSt
  rw [List.take_succ_eq_append_getElem h, List.filter_append]
  simp [hs]
theorem lastV_mem {L : List RowD} (h : L ≠ []) : lastV L ∈ L := by
  cases L with
  | nil => exact absurd rfl h
  | cons a t =>
    have : ∀ (t : List RowD) (a : RowD) (M : List RowD), a ∈ M → (∀ x ∈ t, x ∈ M) → t.foldl (fun m r => if m.v < r.v then r else m) a ∈ M := by
      intro t
      induction t with
      | nil => intro a M ha _; exact ha
      | cons x t ih =>
        intro a M ha ht
        simp only [List.foldl_cons]
        apply ih
        · split
          · exact ht x (by simp)
          · exact ha
        · exact fun y hy => ht y (by simp [hy])
    exact this t a (a :: t) (by simp) (fun x hx => by simp [hx])
/-- As it was first proposed, and like x. -/
def likeB (x r : RowD) : Bool := (r.st == 1) && ((r.v == 0) && (sameC r.k r.i r.f r.t r.a x.k x.i x.f x.t x.a && sameA r.s x.s r.l x.l))
def head0 (S : List RowD) : RowD := S[0]?.getD zeroR
def alike (S : List RowD) (k : Nat) : Bool := (S.take k).all (likeB (head0 S))
theorem alike_succ {S : List RowD} {k : Nat} (h : k < S.length) : alike S (k + 1) = (alike S k && likeB (head0 S) S[k]) := by
  unfold alike
  rw [List.take_succ_eq_append_getElem h, List.all_append]
  simp
/-- Their attributes. -/
def attrsOf (L : List RowD) : List (Int × List Int) := L.map fun r => (r.s, r.l)
theorem attrsOf_len (L : List RowD) : (attrsOf L).length = L.length := by simp [attrsOf]
def joinS_ (n : Int) (L : List RowD) : Int := sN (attrsOf L) (attrsOf L).length
def joinL_ (n : Int) (L : List RowD) : List Int := (dN (attrsOf L) (attrsOf L).length).take n.toNat
theorem sN_all (A : List (Int × List Int)) (x : Int × List Int) : sN (A ++ [x]) (A ++ [x]).length = mx (sN A A.length) x.1 := by
  unfold sN
  rw [List.take_length, List.take_length, List.foldl_append]
  rfl
theorem dN_all (A : List (Int × List Int)) (x : Int × List Int) : dN (A ++ [x]) (A ++ [x]).length = dStep (dN A A.length) x.2 := by
  unfold dN
  rw [List.take_length, List.take_length, List.foldl_append]
  rfl
theorem mx_mo (x y : Int) : mx x y = mo x y := by unfold mx mo; split <;> split <;> omega
theorem joinS_snoc (n : Int) (L : List RowD) (r : RowD) : joinS_ n (L ++ [r]) = mo (joinS_ n L) r.s := by
  unfold joinS_
  have e : attrsOf (L ++ [r]) = attrsOf L ++ [(r.s, r.l)] := by simp [attrsOf]
  rw [e, sN_all, mx_mo]
theorem joinL_len {n : Int} (h : isGrp n = true) (L : List RowD) : ((joinL_ n L).length : Int) = n := by
  unfold joinL_
  rw [List.length_take, dN_len]
  rcases isGrp_of h with rfl | rfl <;> rfl
theorem at0_take {l : List Int} {m i : Nat} (h : i < m) : at0 (l.take m) i = at0 l i := by
  unfold at0
  rw [List.getElem?_take, if_pos h]
theorem joinL_snoc {n : Int} (h : isGrp n = true) (L : List RowD) (r : RowD) : joinL_ n (L ++ [r]) = joinTo (joinL_ n L) r.l (joinL_ n L).length := by
  have hl := joinL_len h L
  unfold joinL_ at hl ⊢
  have e : attrsOf (L ++ [r]) = attrsOf L ++ [(r.s, r.l)] := by simp [attrsOf]
  rw [e, dN_all]
  unfold dStep joinTo
  rw [← List.map_take, List.take_range]
  have hm : (List.take n.toNat (dN (attrsOf L) (attrsOf L).length)).length = n.toNat := by omega
  have hn : n.toNat ≤ 5 := by rcases isGrp_of h with rfl | rfl <;> decide
  rw [hm, Nat.min_eq_left hn]
  refine List.map_congr_left fun i hi => ?_
  rw [List.mem_range] at hi
  rw [mx_mo, at0_take hi]
theorem joinL_nil {n : Int} (h : isGrp n = true) : joinL_ n [] = noneL n := by
  rcases isGrp_of h with rfl | rfl <;> rfl
theorem joinS_nil (n : Int) : joinS_ n [] = 0 := rfl
/-- One good attribute is itself. -/
theorem goodD_parts {n s : Int} {l : List Int} (h : goodD n s l = true) : 0 ≤ s ∧ (l.length : Int) = n ∧ allIn l 0 6 = true := by
  unfold goodD inB at h
  simp only [Bool.and_eq_true, decide_eq_true_eq] at h
  exact ⟨h.1.1.1, h.1.2, h.2⟩
theorem all_nonneg {l : List Int} (h : allIn l 0 6 = true) (i : Nat) : 0 ≤ at0 l i := by
  unfold at0
  by_cases hi : i < l.length
  · rw [List.getElem?_eq_getElem hi, Option.getD_some]
    unfold allIn at h
    rw [List.all_eq_true] at h
    have := h _ (List.getElem_mem hi)
    unfold inB at this
    simp at this
    exact this.1
  · rw [List.getElem?_eq_none (by omega)]; simp
theorem join_one {n : Int} {r : RowD} (hn : isGrp n = true) (h : goodD n r.s r.l = true) : joinS_ n [r] = r.s ∧ joinL_ n [r] = r.l := by
  obtain ⟨h0, hl, ha⟩ := goodD_parts h
  have e1 := joinS_snoc n [] r
  have e2 := joinL_snoc hn [] r
  rw [List.nil_append] at e1 e2
  constructor
  · rw [e1, joinS_nil]; unfold mo; split <;> omega
  · rw [e2]
    have hz : ∀ i, at0 (joinL_ n []) i = 0 := by
      intro i
      rw [joinL_nil hn]
      have hz : ∀ m : Nat, at0 (List.replicate m 0) i = 0 := fun m => by
        unfold at0
        rw [List.getElem?_replicate]
        split <;> rfl
      rcases isGrp_of hn with rfl | rfl
      · exact hz 3
      · exact hz 5
    have hll : (joinL_ n ([] : List RowD)).length = r.l.length := by have := joinL_len hn ([] : List RowD); omega
    rw [hll]
    unfold joinTo
    refine List.ext_getElem (by simp) (fun i h1 h2 => ?_)
    rw [List.getElem_map, List.getElem_range, hz]
    have := all_nonneg ha i
    have e : at0 r.l i = r.l[i] := by unfold at0; rw [List.getElem?_eq_getElem h2, Option.getD_some]
    rw [← e]
    unfold mo
    split <;> omega
/-- Good rows of which none is settled. -/
def toldB (n : Int) (r : RowD) : Bool := !(r.st == 3) && goodRow n r
def chooseOk (n : Int) (S : List RowD) : Bool := isGrp n && (inB (S.length : Int) (n / 2 + 1) n && S.all (toldB n))
/-- The way (in b), the command and the attribute. -/
def wayOf (n : Int) (S : List RowD) : Int := if inSt S 2 ≠ [] then 1 else if alike S S.length = true then 1 else if inSt S 1 ≠ [] then 2 else 3
def pickOf (n : Int) (S : List RowD) : RowD := if inSt S 2 ≠ [] then lastV (inSt S 2) else if alike S S.length = true then head0 S else if inSt S 1 ≠ [] then ⟨0, 0, 0, (lastV (inSt S 1)).k, (lastV (inSt S 1)).i, (lastV (inSt S 1)).f, (lastV (inSt S 1)).t, (lastV (inSt S 1)).a, joinS_ n (inSt S 1), joinL_ n (inSt S 1)⟩ else ⟨0, 0, 0, 0, 0, 0, 0, 0, 0, noneL n⟩
def wayR (n : Int) (S : List RowD) : Int := if chooseOk n S then wayOf n S else 0
def pickR (n : Int) (S : List RowD) : RowD := if chooseOk n S then pickOf n S else zeroR
/-- Way, command, attribute and whether it is told come back. -/
def FourW (y : Int) (r : RowD) (b : Bool) (w : World) (e : Ending) (w' : World) : Prop := ∃ u, e = .returned (.tuple #[.int .i64 y, .agg #[.int .i64 r.k, .int .i64 r.i, .int .i64 r.f, .int .i64 r.t, .int .i64 r.a], .agg #[.int .i64 r.s, u], .bool b]) ∧ Fresh w.heap.size w' u r.l ∧ Ext w w'
end Go.Proofs.Ytbffkidkfannhaa

namespace Go.Proofs.Ytbffkidkfannhaa
open Go.RowKit
set_option linter.unusedVariables false

set_option maxHeartbeats 1000000 in
theorem isGood_early (n : Int) (r : RowD) (u : Value) (w : World) (h : r.v < 0 ∨ r.b < r.v ∨ 9999 < r.b) :
    Calls Try.prog 49 #[.int .i64 n, .agg #[.int .i64 r.b, .int .i64 r.v, .int .i64 r.st, .int .i64 r.k, .int .i64 r.i, .int .i64 r.f, .int .i64 r.t, .int .i64 r.a, .int .i64 r.s, u]] w (BoolExt false w) := by
  by_cases h0 : r.v < 0
  · clear h
    go_enter Try.func49, Try.ntmps49
    go_wp2
    go_ret
    exact ⟨rfl, Ext.alloc1 _ _⟩
  · have g0 : 0 ≤ r.v := by omega
    by_cases h1 : r.b < r.v
    · clear h h0
      go_enter Try.func49, Try.ntmps49
      go_wp2
      go_ret
      exact ⟨rfl, Ext.alloc1 _ _⟩
    · have g1 : r.v ≤ r.b := by omega
      have g2 : 9999 < r.b := by omega
      clear h h0 h1
      go_enter Try.func49, Try.ntmps49
      go_wp2
      go_ret
      exact ⟨rfl, Ext.alloc1 _ _⟩

set_option maxHeartbeats 1000000 in
theorem isGood_else (n : Int) (r : RowD) (u : Value) (w : World) (g0 : 0 ≤ r.v) (g1 : r.v ≤ r.b) (g2 : r.b ≤ 9999) (e0 : (r.st == 0) = false) (e1 : (r.st == 1) = false) (e2 : (r.st == 2) = false) (e3 : (r.st == 3) = false) :
    Calls Try.prog 49 #[.int .i64 n, .agg #[.int .i64 r.b, .int .i64 r.v, .int .i64 r.st, .int .i64 r.k, .int .i64 r.i, .int .i64 r.f, .int .i64 r.t, .int .i64 r.a, .int .i64 r.s, u]] w (BoolExt false w) := by
  go_enter Try.func49, Try.ntmps49
  go_wp2
  go_ret
  exact ⟨rfl, Ext.alloc1 _ _⟩

set_option maxHeartbeats 2000000 in
theorem isGood_1 (n : Int) (r : RowD) (u : Value) (w : World) (hv : Ints w u r.l) (hn : isGrp n = true) (g0 : 0 ≤ r.v) (g1 : r.v ≤ r.b) (g2 : r.b ≤ 9999) (e0 : (r.st == 0) = false) (e1 : (r.st == 1) = true) :
    Calls Try.prog 49 #[.int .i64 n, .agg #[.int .i64 r.b, .int .i64 r.v, .int .i64 r.st, .int .i64 r.k, .int .i64 r.i, .int .i64 r.f, .int .i64 r.t, .int .i64 r.a, .int .i64 r.s, u]] w (BoolExt (fullB n r) w) := by
  have HE : Hid (goodD n r.s r.l = goodA n r.s r.l) := Lib.hid (by unfold goodA; rw [hn]; rfl)
  unfold fullB
  rw [HE.out]
  have HB := Lib.hid (rowAt_new w 57 r u)
  clear hn
  cases hg : goodB r.k r.i r.f r.t r.a with
  | false =>
    have HG := Lib.hid hg
    clear hg
    go_enter Try.func49, Try.ntmps49
    go_wp2_with fail
    refine (implGood_any _ _ _ _ _ _).mono ?_
    rintro e w1 ⟨rfl, x1⟩
    have hx := (Ext.alloc1 w _).trans x1
    clear x1 HB
    rw [HG.out]
    go_wp2
    go_ret
    exact ⟨rfl, hx⟩
  | true =>
    have HG := Lib.hid hg
    clear hg
    rw [Bool.true_and]
    go_enter Try.func49, Try.ntmps49
    go_wp2_with fail
    refine (implGood_any _ _ _ _ _ _).mono ?_
    rintro e w1 ⟨rfl, x1⟩
    have hx := (Ext.alloc1 w _).trans x1
    obtain ⟨q0, q1, q2, q3, q4, q5, q6, q7, q8, q9⟩ := HB.out.ext x1
    clear x1
    rw [HG.out]
    go_wp2_with fail
    refine (implGoodAttr_any _ _ _ r.l _ (hv.ext hx)).mono ?_
    rintro e w2 ⟨rfl, x2⟩
    have hy := hx.trans x2
    clear q0 q1 q2 q3 q4 q5 q6 q7 q8 q9 x2 hx g0 g1 g2
    cases hA : goodA n r.s r.l
    all_goals
      have HA := Lib.hid hA
      clear hA
      go_wp2
      go_ret
      exact ⟨by rw [HA.out]; rfl, hy⟩

set_option maxHeartbeats 2000000 in
theorem isGood_2 (n : Int) (r : RowD) (u : Value) (w : World) (hv : Ints w u r.l) (hn : isGrp n = true) (g0 : 0 ≤ r.v) (g1 : r.v ≤ r.b) (g2 : r.b ≤ 9999) (e0 : (r.st == 0) = false) (e1 : (r.st == 1) = false) (e2 : (r.st == 2) = true) :
    Calls Try.prog 49 #[.int .i64 n, .agg #[.int .i64 r.b, .int .i64 r.v, .int .i64 r.st, .int .i64 r.k, .int .i64 r.i, .int .i64 r.f, .int .i64 r.t, .int .i64 r.a, .int .i64 r.s, u]] w (BoolExt (fullB n r) w) := by
  have HE : Hid (goodD n r.s r.l = goodA n r.s r.l) := Lib.hid (by unfold goodA; rw [hn]; rfl)
  unfold fullB
  rw [HE.out]
  have HB := Lib.hid (rowAt_new w 57 r u)
  clear hn
  cases hg : goodB r.k r.i r.f r.t r.a with
  | false =>
    have HG := Lib.hid hg
    clear hg
    go_enter Try.func49, Try.ntmps49
    go_wp2_with fail
    refine (implGood_any _ _ _ _ _ _).mono ?_
    rintro e w1 ⟨rfl, x1⟩
    have hx := (Ext.alloc1 w _).trans x1
    clear x1 HB
    rw [HG.out]
    go_wp2
    go_ret
    exact ⟨rfl, hx⟩
  | true =>
    have HG := Lib.hid hg
    clear hg
    rw [Bool.true_and]
    go_enter Try.func49, Try.ntmps49
    go_wp2_with fail
    refine (implGood_any _ _ _ _ _ _).mono ?_
    rintro e w1 ⟨rfl, x1⟩
    have hx := (Ext.alloc1 w _).trans x1
    obtain ⟨q0, q1, q2, q3, q4, q5, q6, q7, q8, q9⟩ := HB.out.ext x1
    clear x1
    rw [HG.out]
    go_wp2_with fail
    refine (implGoodAttr_any _ _ _ r.l _ (hv.ext hx)).mono ?_
    rintro e w2 ⟨rfl, x2⟩
    have hy := hx.trans x2
    clear q0 q1 q2 q3 q4 q5 q6 q7 q8 q9 x2 hx g0 g1 g2
    cases hA : goodA n r.s r.l
    all_goals
      have HA := Lib.hid hA
      clear hA
      go_wp2
      go_ret
      exact ⟨by rw [HA.out]; rfl, hy⟩

set_option maxHeartbeats 2000000 in
theorem isGood_3 (n : Int) (r : RowD) (u : Value) (w : World) (hv : Ints w u r.l) (hn : isGrp n = true) (g0 : 0 ≤ r.v) (g1 : r.v ≤ r.b) (g2 : r.b ≤ 9999) (e0 : (r.st == 0) = false) (e1 : (r.st == 1) = false) (e2 : (r.st == 2) = false) (e3 : (r.st == 3) = true) :
    Calls Try.prog 49 #[.int .i64 n, .agg #[.int .i64 r.b, .int .i64 r.v, .int .i64 r.st, .int .i64 r.k, .int .i64 r.i, .int .i64 r.f, .int .i64 r.t, .int .i64 r.a, .int .i64 r.s, u]] w (BoolExt (fullB n r) w) := by
  have HE : Hid (goodD n r.s r.l = goodA n r.s r.l) := Lib.hid (by unfold goodA; rw [hn]; rfl)
  unfold fullB
  rw [HE.out]
  have HB := Lib.hid (rowAt_new w 57 r u)
  clear hn
  cases hg : goodB r.k r.i r.f r.t r.a with
  | false =>
    have HG := Lib.hid hg
    clear hg
    go_enter Try.func49, Try.ntmps49
    go_wp2_with fail
    refine (implGood_any _ _ _ _ _ _).mono ?_
    rintro e w1 ⟨rfl, x1⟩
    have hx := (Ext.alloc1 w _).trans x1
    clear x1 HB
    rw [HG.out]
    go_wp2
    go_ret
    exact ⟨rfl, hx⟩
  | true =>
    have HG := Lib.hid hg
    clear hg
    rw [Bool.true_and]
    go_enter Try.func49, Try.ntmps49
    go_wp2_with fail
    refine (implGood_any _ _ _ _ _ _).mono ?_
    rintro e w1 ⟨rfl, x1⟩
    have hx := (Ext.alloc1 w _).trans x1
    obtain ⟨q0, q1, q2, q3, q4, q5, q6, q7, q8, q9⟩ := HB.out.ext x1
    clear x1
    rw [HG.out]
    go_wp2_with fail
    refine (implGoodAttr_any _ _ _ r.l _ (hv.ext hx)).mono ?_
    rintro e w2 ⟨rfl, x2⟩
    have hy := hx.trans x2
    clear q0 q1 q2 q3 q4 q5 q6 q7 q8 q9 x2 hx g0 g1 g2
    cases hA : goodA n r.s r.l
    all_goals
      have HA := Lib.hid hA
      clear hA
      go_wp2
      go_ret
      exact ⟨by rw [HA.out]; rfl, hy⟩

set_option maxHeartbeats 2000000 in
theorem isGood_0 (n : Int) (r : RowD) (u : Value) (w : World) (hv : Ints w u r.l) (hsz : r.l.length ≤ 1099511627776) (hn : isGrp n = true) (g0 : 0 ≤ r.v) (g1 : r.v ≤ r.b) (g2 : r.b ≤ 9999) (h0 : (r.st == 0) = true) :
    Calls Try.prog 49 #[.int .i64 n, .agg #[.int .i64 r.b, .int .i64 r.v, .int .i64 r.st, .int .i64 r.k, .int .i64 r.i, .int .i64 r.f, .int .i64 r.t, .int .i64 r.a, .int .i64 r.s, u]] w (BoolExt (emptyB n r) w) := by
  unfold emptyB
  have HSZ := Lib.hid hsz
  clear hsz
  have HB := Lib.hid (rowAt_new w 57 r u)
  have HN := Lib.hid hn
  clear hn
  cases hv0 : (r.v == 0) with
  | false =>
    go_enter Try.func49, Try.ntmps49
    go_wp2_with fail
    go_quiet (fail)
    go_wp2
    go_ret
    exact ⟨rfl, by repeat (first | exact Ext.alloc1 _ _ | apply Ext.drewN)⟩
  | true =>
    have heq := fun W => eq_zero r.k r.i r.f r.t r.a W
    cases hz : zeroC r.k r.i r.f r.t r.a with
    | false =>
      rw [hz] at heq
      clear hz
      go_enter Try.func49, Try.ntmps49
      go_wp2_with fail
      go_quiet (fail)
      go_wp2
      go_ret
      exact ⟨rfl, by repeat (first | exact Ext.alloc1 _ _ | apply Ext.drewN)⟩
    | true =>
      rw [hz] at heq
      clear hz
      obtain ⟨wb, hwb⟩ : ∃ wb, wb = w.alloc (.cells #[.int .i64 r.b, .int .i64 r.v, .int .i64 r.st, .int .i64 r.k, .int .i64 r.i, .int .i64 r.f, .int .i64 r.t, .int .i64 r.a, .int .i64 r.s, u] 57) := ⟨_, rfl⟩
      have hb := HB.out
      rw [← hwb] at hb
      have xb : Ext w wb := by rw [hwb]; exact Ext.alloc1 _ _
      have HV := Lib.hid (hv.ext xb)
      have HWB := Lib.hid hwb
      have HBB := Lib.hid hb
      clear HB hwb hb hv
      go_enter Try.func49, Try.ntmps49
      go_wp2_with fail
      rw [← HWB.out]
      go_region_held3 (fun W => Ext wb W ∧ W.cell? ⟨w.heap.size, 0, none⟩ = some (.int .i64 r.b) ∧ W.cell? ⟨w.heap.size, 1, none⟩ = some (.int .i64 r.v) ∧ W.cell? ⟨w.heap.size, 2, none⟩ = some (.int .i64 r.st) ∧ W.cell? ⟨w.heap.size, 3, none⟩ = some (.int .i64 r.k) ∧ W.cell? ⟨w.heap.size, 4, none⟩ = some (.int .i64 r.i) ∧ W.cell? ⟨w.heap.size, 5, none⟩ = some (.int .i64 r.f) ∧ W.cell? ⟨w.heap.size, 6, none⟩ = some (.int .i64 r.t) ∧ W.cell? ⟨w.heap.size, 7, none⟩ = some (.int .i64 r.a) ∧ W.cell? ⟨w.heap.size, 8, none⟩ = some (.int .i64 r.s) ∧ W.cell? ⟨w.heap.size, 9, none⟩ = some u) (first | (exact stepRow (b := w.heap.size) (r := r) (u := u) (by assumption) (by assumption)) | (exact ⟨Ext.drew (Ext.refl _), HBB.out⟩)) (first | (go_at_call 74; refine (joinNone_any n _ HN.out).mono ?_; rintro e W ⟨z, rfl, f9, x9⟩; obtain ⟨az, cz, rfl⟩ := f9.form) | (go_at_call 73; refine (implSame_any _ _ _ _ r.l (noneL n) _ (HV.out.ext (And.left (by assumption))) (Fresh.ints (by assumption)) HSZ.out).mono ?_; rintro e W ⟨rfl, x8⟩))
      rename_i hH
      have hy : Ext w _ := xb.trans hH.1
      clear hH
      cases hs : sameA r.s 0 r.l (noneL n)
      all_goals
        have HS := Lib.hid hs
        clear hs
        go_wp2
        go_ret
        exact ⟨by rw [HS.out]; rfl, hy⟩

theorem isGoodRow_any (n : Int) (r : RowD) (u : Value) (w : World) (hv : Ints w u r.l) (hsz : r.l.length ≤ 1099511627776) (hn : isGrp n = true) :
    Calls Try.prog 49 #[.int .i64 n, .agg #[.int .i64 r.b, .int .i64 r.v, .int .i64 r.st, .int .i64 r.k, .int .i64 r.i, .int .i64 r.f, .int .i64 r.t, .int .i64 r.a, .int .i64 r.s, u]] w (BoolExt (goodRow n r) w) := by
  by_cases hb : r.v < 0 ∨ r.b < r.v ∨ 9999 < r.b
  · have e : headB r = false := by
      unfold headB
      rcases hb with h | h | h
      · rw [inB_no (n := r.v) (by omega), Bool.and_false, Bool.false_and]
      · rw [inB_no (n := r.v) (by omega), Bool.and_false, Bool.false_and]
      · rw [inB_no (n := r.b) (by omega), Bool.false_and, Bool.false_and]
    rw [goodRow_head e]
    exact isGood_early n r u w hb
  · have g0 : 0 ≤ r.v := by omega
    have g1 : r.v ≤ r.b := by omega
    have g2 : r.b ≤ 9999 := by omega
    have hh : headB r = inB r.st 0 3 := by unfold headB; rw [inB_yes (n := r.b) (by omega) g2, inB_yes (n := r.v) g0 g1]; rfl
    by_cases s0 : r.st = 0
    · have e0 : (r.st == 0) = true := by simp [s0]
      rw [goodRow_empty (by rw [hh]; exact inB_yes (by omega) (by omega)) e0]
      exact isGood_0 n r u w hv hsz hn g0 g1 g2 e0
    · have e0 : (r.st == 0) = false := by simp [s0]
      by_cases s1 : r.st = 1
      · rw [goodRow_full (by rw [hh]; exact inB_yes (by omega) (by omega)) e0]
        exact isGood_1 n r u w hv hn g0 g1 g2 e0 (by simp [s1])
      · by_cases s2 : r.st = 2
        · rw [goodRow_full (by rw [hh]; exact inB_yes (by omega) (by omega)) e0]
          exact isGood_2 n r u w hv hn g0 g1 g2 e0 (by simp [s1]) (by simp [s2])
        · by_cases s3 : r.st = 3
          · rw [goodRow_full (by rw [hh]; exact inB_yes (by omega) (by omega)) e0]
            exact isGood_3 n r u w hv hn g0 g1 g2 e0 (by simp [s1]) (by simp [s2]) (by simp [s3])
          · rw [goodRow_head (by rw [hh]; exact inB_no (by omega))]
            exact isGood_else n r u w g0 g1 g2 e0 (by simp [s1]) (by simp [s2]) (by simp [s3])

end Go.Proofs.Ytbffkidkfannhaa
