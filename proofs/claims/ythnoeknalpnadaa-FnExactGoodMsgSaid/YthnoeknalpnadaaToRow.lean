/- Contract of the laws' copy of a row. -/
import Derived.Test.YthnoeknalpnadaaSzRow
import Derived.Test.YthnoeknalpnadaaToCmd
namespace Go.Proofs.Ythnoeknalpnadaa
open Go.RowKit
set_option linter.unusedVariables false

/-- Ten cells of the block b may be written. -/
def FreeAt (w : World) (b : Nat) : Prop :=
  w.frozen? ⟨b, 0, none⟩ = false ∧ w.frozen? ⟨b, 1, none⟩ = false ∧ w.frozen? ⟨b, 2, none⟩ = false ∧ w.frozen? ⟨b, 3, none⟩ = false ∧ w.frozen? ⟨b, 4, none⟩ = false ∧ w.frozen? ⟨b, 5, none⟩ = false ∧ w.frozen? ⟨b, 6, none⟩ = false ∧ w.frozen? ⟨b, 7, none⟩ = false ∧ w.frozen? ⟨b, 8, none⟩ = false ∧ w.frozen? ⟨b, 9, none⟩ = false
theorem FreeAt.ext {w w' : World} {b : Nat} (hl : b < w.heap.size) (h : FreeAt w b) (e : Ext w w') : FreeAt w' b := by
  obtain ⟨h0, h1, h2, h3, h4, h5, h6, h7, h8, h9⟩ := h
  exact ⟨e.frozen hl h0, e.frozen hl h1, e.frozen hl h2, e.frozen hl h3, e.frozen hl h4, e.frozen hl h5, e.frozen hl h6, e.frozen hl h7, e.frozen hl h8, e.frozen hl h9⟩
def zeroR : RowD := ⟨0, 0, 0, 0, 0, 0, 0, 0, 0, []⟩
/-- A row comes back whose list lies in new memory. -/
def NewRow (r : RowD) (w : World) (e : Ending) (w' : World) : Prop :=
  ∃ u, e = .returned (.agg #[.int .i64 r.b, .int .i64 r.v, .int .i64 r.st, .int .i64 r.k, .int .i64 r.i, .int .i64 r.f, .int .i64 r.t, .int .i64 r.a, .int .i64 r.s, u]) ∧ Fresh w.heap.size w' u r.l ∧ Ext w w'
/-- .. and a Bool. -/
def TwoRow (r : RowD) (b : Bool) (w : World) (e : Ending) (w' : World) : Prop :=
  ∃ u, e = .returned (.tuple #[.agg #[.int .i64 r.b, .int .i64 r.v, .int .i64 r.st, .int .i64 r.k, .int .i64 r.i, .int .i64 r.f, .int .i64 r.t, .int .i64 r.a, .int .i64 r.s, u], .bool b]) ∧ Fresh w.heap.size w' u r.l ∧ Ext w w'

theorem row_three (w : World) (T T' : TypeId) (a : Obj) (b v st k i f t c s b' v' st' k' i' f' t' c' s' : Int) (u u' : Value) :
    (RowAt (((w.alloc a).alloc (.cells #[.int .i64 b, .int .i64 v, .int .i64 st, .int .i64 k, .int .i64 i, .int .i64 f, .int .i64 t, .int .i64 c, .int .i64 s, u] T)).alloc (.cells #[.int .i64 b', .int .i64 v', .int .i64 st', .int .i64 k', .int .i64 i', .int .i64 f', .int .i64 t', .int .i64 c', .int .i64 s', u'] T')) (w.heap.size + 1) ⟨b, v, st, k, i, f, t, c, s, []⟩ u ∧
     FreeAt (((w.alloc a).alloc (.cells #[.int .i64 b, .int .i64 v, .int .i64 st, .int .i64 k, .int .i64 i, .int .i64 f, .int .i64 t, .int .i64 c, .int .i64 s, u] T)).alloc (.cells #[.int .i64 b', .int .i64 v', .int .i64 st', .int .i64 k', .int .i64 i', .int .i64 f', .int .i64 t', .int .i64 c', .int .i64 s', u'] T')) (w.heap.size + 1)) ∧
    (RowAt (((w.alloc a).alloc (.cells #[.int .i64 b, .int .i64 v, .int .i64 st, .int .i64 k, .int .i64 i, .int .i64 f, .int .i64 t, .int .i64 c, .int .i64 s, u] T)).alloc (.cells #[.int .i64 b', .int .i64 v', .int .i64 st', .int .i64 k', .int .i64 i', .int .i64 f', .int .i64 t', .int .i64 c', .int .i64 s', u'] T')) (w.heap.size + 1 + 1) ⟨b', v', st', k', i', f', t', c', s', []⟩ u' ∧
     FreeAt (((w.alloc a).alloc (.cells #[.int .i64 b, .int .i64 v, .int .i64 st, .int .i64 k, .int .i64 i, .int .i64 f, .int .i64 t, .int .i64 c, .int .i64 s, u] T)).alloc (.cells #[.int .i64 b', .int .i64 v', .int .i64 st', .int .i64 k', .int .i64 i', .int .i64 f', .int .i64 t', .int .i64 c', .int .i64 s', u'] T')) (w.heap.size + 1 + 1)) := by
  refine ⟨⟨⟨?_, ?_, ?_, ?_, ?_, ?_, ?_, ?_, ?_, ?_⟩, ⟨?_, ?_, ?_, ?_, ?_, ?_, ?_, ?_, ?_, ?_⟩⟩, ⟨⟨?_, ?_, ?_, ?_, ?_, ?_, ?_, ?_, ?_, ?_⟩, ⟨?_, ?_, ?_, ?_, ?_, ?_, ?_, ?_, ?_, ?_⟩⟩⟩ <;> go_simp

theorem row_set5 {w : World} {b : Nat} {d : RowD} {y : Value} (k i f t a : Int) (h : RowAt w b d y) :
    RowAt (((((w.setCell ⟨b, 3, none⟩ (.int .i64 k)).setCell ⟨b, 4, none⟩ (.int .i64 i)).setCell ⟨b, 5, none⟩ (.int .i64 f)).setCell ⟨b, 6, none⟩ (.int .i64 t)).setCell ⟨b, 7, none⟩ (.int .i64 a)) b ⟨d.b, d.v, d.st, k, i, f, t, a, d.s, d.l⟩ y := by
  obtain ⟨h0, h1, h2, h3, h4, h5, h6, h7, h8, h9⟩ := h
  refine ⟨?_, ?_, ?_, ?_, ?_, ?_, ?_, ?_, ?_, ?_⟩ <;> go_simp
theorem free_set {w : World} {b : Nat} (a : Addr) (v : Value) (h : FreeAt w b) : FreeAt (w.setCell a v) b := by
  obtain ⟨h0, h1, h2, h3, h4, h5, h6, h7, h8, h9⟩ := h
  refine ⟨?_, ?_, ?_, ?_, ?_, ?_, ?_, ?_, ?_, ?_⟩ <;> (rw [World.frozen?_setCell]; assumption)
theorem row_apart {w : World} {b : Nat} {d : RowD} {y : Value} (a : Addr) (v : Value) (hne : a.block ≠ b) (h : RowAt w b d y) : RowAt (w.setCell a v) b d y := by
  obtain ⟨h0, h1, h2, h3, h4, h5, h6, h7, h8, h9⟩ := h
  refine ⟨?_, ?_, ?_, ?_, ?_, ?_, ?_, ?_, ?_, ?_⟩ <;> (rw [World.cell?_setCell_other _ _ _ _ (fun e => hne (by rw [e]))]; assumption)

set_option maxHeartbeats 2000000 in
set_option maxRecDepth 100000 in
theorem toRow_any (r : RowD) (u : Value) (w : World) (hv : Ints w u r.l) (hs : r.l.length ≤ 35184372088831) :
    Calls Try.prog 40 #[.agg #[.int .i64 r.b, .int .i64 r.v, .int .i64 r.st, .int .i64 r.k, .int .i64 r.i, .int .i64 r.f, .int .i64 r.t, .int .i64 r.a, .int .i64 r.s, u]] w (NewRow r w) := by
  have HS := Lib.hid hs
  have hb := rowAt_new w 64 r u
  clear hs
  obtain ⟨wb, hwb⟩ : ∃ wb, wb = ((w.alloc (.cells #[.int .i64 r.b, .int .i64 r.v, .int .i64 r.st, .int .i64 r.k, .int .i64 r.i, .int .i64 r.f, .int .i64 r.t, .int .i64 r.a, .int .i64 r.s, u] 64)).alloc (.cells #[.int .i64 0, .int .i64 0, .int .i64 0, .int .i64 0, .int .i64 0, .int .i64 0, .int .i64 0, .int .i64 0, .int .i64 0, .slice none 0 0] 71)).alloc (.cells #[.int .i64 r.b, .int .i64 r.v, .int .i64 r.st, .int .i64 0, .int .i64 0, .int .i64 0, .int .i64 0, .int .i64 0, .int .i64 0, .slice none 0 0] 71) := ⟨_, rfl⟩
  have h3 := row_three w 71 71 (.cells #[.int .i64 r.b, .int .i64 r.v, .int .i64 r.st, .int .i64 r.k, .int .i64 r.i, .int .i64 r.f, .int .i64 r.t, .int .i64 r.a, .int .i64 r.s, u] 64) 0 0 0 0 0 0 0 0 0 r.b r.v r.st 0 0 0 0 0 0 (.slice none 0 0) (.slice none 0 0)
  have xb : Ext w wb := by rw [hwb]; exact Ext.alloc3 _ _ _ _
  have sb : wb.heap.size = w.heap.size + 3 := by rw [hwb]; exact size3 _ _ _ _
  have rb : RowAt wb w.heap.size r u := by rw [hwb]; exact hb.ext (((Ext.refl _).alloc _).alloc _)
  rw [← hwb] at h3
  have HWB := Lib.hid hwb
  have H3 := Lib.hid h3
  have SB := Lib.hid sb
  have RB := Lib.hid rb
  clear hwb h3 sb rb hb
  go_enter Try.func40, Try.ntmps40
  go_wp2_with fail
  rw [← HWB.out]
  refine (toCmd_any _ _ _ _ _ _).mono ?_
  rintro e w1 ⟨rfl, x1⟩
  have hsz : w.heap.size + 3 ≤ w1.heap.size := by have := x1.size; have := SB.out; omega
  obtain ⟨⟨⟨o0, o1, o2, o3, o4, o5, o6, o7, o8, o9⟩, ⟨z0, z1, z2, z3, z4, z5, z6, z7, z8, z9⟩⟩, ⟨⟨p0, p1, p2, p3, p4, p5, p6, p7, p8, p9⟩, ⟨y0, y1, y2, y3, y4, y5, y6, y7, y8, y9⟩⟩⟩ : (RowAt w1 (w.heap.size + 1) _ _ ∧ FreeAt w1 (w.heap.size + 1)) ∧ (RowAt w1 (w.heap.size + 1 + 1) _ _ ∧ FreeAt w1 (w.heap.size + 1 + 1)) :=
    ⟨⟨H3.out.1.1.ext x1, H3.out.1.2.ext (by have := SB.out; omega) x1⟩, ⟨H3.out.2.1.ext x1, H3.out.2.2.ext (by have := SB.out; omega) x1⟩⟩
  obtain ⟨q0, q1, q2, q3, q4, q5, q6, q7, q8, q9⟩ := RB.out.ext x1
  go_wp2_with fail
  have xc : Ext w (((((w1.setCell ⟨w.heap.size + 1 + 1, 3, none⟩ (.int .i64 r.k)).setCell ⟨w.heap.size + 1 + 1, 4, none⟩ (.int .i64 r.i)).setCell ⟨w.heap.size + 1 + 1, 5, none⟩ (.int .i64 r.f)).setCell ⟨w.heap.size + 1 + 1, 6, none⟩ (.int .i64 r.t)).setCell ⟨w.heap.size + 1 + 1, 7, none⟩ (.int .i64 r.a)) :=
    (((((xb.trans x1).setc (by dsimp only; omega)).setc (by dsimp only; omega)).setc (by dsimp only; omega)).setc (by dsimp only; omega)).setc (by dsimp only; omega)
  have rp := row_set5 r.k r.i r.f r.t r.a (show RowAt w1 (w.heap.size + 1 + 1) ⟨r.b, r.v, r.st, 0, 0, 0, 0, 0, 0, []⟩ _ from ⟨p0, p1, p2, p3, p4, p5, p6, p7, p8, p9⟩)
  have fp : FreeAt (((((w1.setCell ⟨w.heap.size + 1 + 1, 3, none⟩ (.int .i64 r.k)).setCell ⟨w.heap.size + 1 + 1, 4, none⟩ (.int .i64 r.i)).setCell ⟨w.heap.size + 1 + 1, 5, none⟩ (.int .i64 r.f)).setCell ⟨w.heap.size + 1 + 1, 6, none⟩ (.int .i64 r.t)).setCell ⟨w.heap.size + 1 + 1, 7, none⟩ (.int .i64 r.a)) (w.heap.size + 1 + 1) :=
    free_set _ _ (free_set _ _ (free_set _ _ (free_set _ _ (free_set _ _ ⟨y0, y1, y2, y3, y4, y5, y6, y7, y8, y9⟩))))
  have ro : RowAt (((((w1.setCell ⟨w.heap.size + 1 + 1, 3, none⟩ (.int .i64 r.k)).setCell ⟨w.heap.size + 1 + 1, 4, none⟩ (.int .i64 r.i)).setCell ⟨w.heap.size + 1 + 1, 5, none⟩ (.int .i64 r.f)).setCell ⟨w.heap.size + 1 + 1, 6, none⟩ (.int .i64 r.t)).setCell ⟨w.heap.size + 1 + 1, 7, none⟩ (.int .i64 r.a)) (w.heap.size + 1) zeroR (.slice none 0 0) :=
    row_apart _ _ (by simp) (row_apart _ _ (by simp) (row_apart _ _ (by simp) (row_apart _ _ (by simp) (row_apart _ _ (by simp) ⟨o0, o1, o2, o3, o4, o5, o6, o7, o8, o9⟩))))
  have fo : FreeAt (((((w1.setCell ⟨w.heap.size + 1 + 1, 3, none⟩ (.int .i64 r.k)).setCell ⟨w.heap.size + 1 + 1, 4, none⟩ (.int .i64 r.i)).setCell ⟨w.heap.size + 1 + 1, 5, none⟩ (.int .i64 r.f)).setCell ⟨w.heap.size + 1 + 1, 6, none⟩ (.int .i64 r.t)).setCell ⟨w.heap.size + 1 + 1, 7, none⟩ (.int .i64 r.a)) (w.heap.size + 1) :=
    free_set _ _ (free_set _ _ (free_set _ _ (free_set _ _ (free_set _ _ ⟨z0, z1, z2, z3, z4, z5, z6, z7, z8, z9⟩))))
  have hsz2 : w.heap.size + 3 ≤ (((((w1.setCell ⟨w.heap.size + 1 + 1, 3, none⟩ (.int .i64 r.k)).setCell ⟨w.heap.size + 1 + 1, 4, none⟩ (.int .i64 r.i)).setCell ⟨w.heap.size + 1 + 1, 5, none⟩ (.int .i64 r.f)).setCell ⟨w.heap.size + 1 + 1, 6, none⟩ (.int .i64 r.t)).setCell ⟨w.heap.size + 1 + 1, 7, none⟩ (.int .i64 r.a)).heap.size := by simp only [World.size_setCell]; exact hsz
  refine (toAttr_any _ _ r.l _ (hv.ext xc) HS.out).mono ?_
  clear p0 p1 p2 p3 p4 p5 p6 p7 p8 p9 o0 o1 o2 o3 o4 o5 o6 o7 o8 o9 q0 q1 q2 q3 q4 q5 q6 q7 q8 q9 z0 z1 z2 z3 z4 z5 z6 z7 z8 z9 y0 y1 y2 y3 y4 y5 y6 y7 y8 y9
  obtain ⟨wc, hwc⟩ : ∃ wc, wc = (((((w1.setCell ⟨w.heap.size + 1 + 1, 3, none⟩ (.int .i64 r.k)).setCell ⟨w.heap.size + 1 + 1, 4, none⟩ (.int .i64 r.i)).setCell ⟨w.heap.size + 1 + 1, 5, none⟩ (.int .i64 r.f)).setCell ⟨w.heap.size + 1 + 1, 6, none⟩ (.int .i64 r.t)).setCell ⟨w.heap.size + 1 + 1, 7, none⟩ (.int .i64 r.a)) := ⟨_, rfl⟩
  rw [← hwc] at xc rp fp ro fo hsz2 ⊢
  clear hwc
  rintro e w2 ⟨v, rfl, f2, x2⟩
  have hy : Ext w w2 := xc.trans x2
  obtain ⟨p0, p1, p2, p3, p4, p5, p6, p7, p8, p9⟩ := rp.ext x2
  obtain ⟨o0, o1, o2, o3, o4, o5, o6, o7, o8, o9⟩ := ro.ext x2
  obtain ⟨y0, y1, y2, y3, y4, y5, y6, y7, y8, y9⟩ := fp.ext (by omega) x2
  obtain ⟨z0, z1, z2, z3, z4, z5, z6, z7, z8, z9⟩ := fo.ext (by omega) x2
  obtain ⟨au, cu, rfl⟩ := f2.form
  have F := Lib.hid f2
  have HZ := Lib.hid hsz2
  clear f2 rp ro fp fo xc xb x1 x2 hsz2
  go_wp2
  refine bodyPost_ret (v := .agg #[.int .i64 r.b, .int .i64 r.v, .int .i64 r.st, .int .i64 r.k, .int .i64 r.i, .int .i64 r.f, .int .i64 r.t, .int .i64 r.a, .int .i64 r.s, .slice au r.l.length cu]) (by simp [results, Try.results40, go_sem, o0, o1, o2, o3, o4, o5, o6, o7, o8, o9]) rfl ⟨_, rfl, ?_, ?_⟩
  · exact ((((((((((((F.out.set _ _ _ (by have := HZ.out; omega)).set _ _ _ (by have := HZ.out; omega)).set _ _ _ (by have := HZ.out; omega)).set _ _ _ (by have := HZ.out; omega)).set _ _ _ (by have := HZ.out; omega)).set _ _ _ (by have := HZ.out; omega)).set _ _ _ (by have := HZ.out; omega)).set _ _ _ (by have := HZ.out; omega)).set _ _ _ (by have := HZ.out; omega)).set _ _ _ (by have := HZ.out; omega)).set _ _ _ (by have := HZ.out; omega)).set _ _ _ (by have := HZ.out; omega)).more (by have := HZ.out; omega)
  · exact (((((((((((hy.setc (by dsimp only; omega)).setc (by dsimp only; omega)).setc (by dsimp only; omega)).setc (by dsimp only; omega)).setc (by dsimp only; omega)).setc (by dsimp only; omega)).setc (by dsimp only; omega)).setc (by dsimp only; omega)).setc (by dsimp only; omega)).setc (by dsimp only; omega)).setc (by dsimp only; omega)).setc (by dsimp only; omega)

end Go.Proofs.Ythnoeknalpnadaa
