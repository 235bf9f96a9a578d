/- Texts of this proof, part d: words, plain facts, contracts. -/
import Derived.Test.YtcpmfcigciknlaaGreatNBookOfc
import Derived.Test.YtcpmfcigciknlaaGreatNBookOfa
set_option linter.unusedVariables false
set_option linter.unusedSimpArgs false

namespace Go.Proofs.YtcpmfcigciknlaaGreat
open Go.RowKit
set_option linter.unusedVariables false
def FreeAt (w : World) (b : Nat) : Prop :=
  w.frozen? ⟨b, 0, none⟩ = false ∧ w.frozen? ⟨b, 1, none⟩ = false ∧ w.frozen? ⟨b, 2, none⟩ = false ∧ w.frozen? ⟨b, 3, none⟩ = false ∧ w.frozen? ⟨b, 4, none⟩ = false ∧ w.frozen? ⟨b, 5, none⟩ = false ∧ w.frozen? ⟨b, 6, none⟩ = false ∧ w.frozen? ⟨b, 7, none⟩ = false ∧ w.frozen? ⟨b, 8, none⟩ = false ∧ w.frozen? ⟨b, 9, none⟩ = false
theorem FreeAt.ext {w w' : World} {b : Nat} (hl : b < w.heap.size) (h : FreeAt w b) (e : Ext w w') : FreeAt w' b := by
  obtain ⟨h0, h1, h2, h3, h4, h5, h6, h7, h8, h9⟩ := h
  exact ⟨e.frozen hl h0, e.frozen hl h1, e.frozen hl h2, e.frozen hl h3, e.frozen hl h4, e.frozen hl h5, e.frozen hl h6, e.frozen hl h7, e.frozen hl h8, e.frozen hl h9⟩
def zeroR : RowD := ⟨0, 0, 0, 0, 0, 0, 0, 0, 0, []⟩
def NewRow (r : RowD) (w : World) (e : Ending) (w' : World) : Prop :=
  ∃ u, e = .returned (.agg #[.int .i64 r.b, .int .i64 r.v, .int .i64 r.st, .int .i64 r.k, .int .i64 r.i, .int .i64 r.f, .int .i64 r.t, .int .i64 r.a, .int .i64 r.s, u]) ∧ Fresh w.heap.size w' u r.l ∧ Ext w w'
theorem row_three (w : World) (T T' : TypeId) (a : Obj) (b v st k i f t c s b' v' st' k' i' f' t' c' s' : Int) (u u' : Value) :
    (RowAt (((w.alloc a).alloc (.cells #[.int .i64 b, .int .i64 v, .int .i64 st, .int .i64 k, .int .i64 i, .int .i64 f, .int .i64 t, .int .i64 c, .int .i64 s, u] T)).alloc (.cells #[.int .i64 b', .int .i64 v', .int .i64 st', .int .i64 k', .int .i64 i', .int .i64 f', .int .i64 t', .int .i64 c', .int .i64 s', u'] T')) (w.heap.size + 1) ⟨b, v, st, k, i, f, t, c, s, []⟩ u ∧
     FreeAt (((w.alloc a).alloc (.cells #[.int .i64 b, .int .i64 v, .int .i64 st, .int .i64 k, .int .i64 i, .int .i64 f, .int .i64 t, .int .i64 c, .int .i64 s, u] T)).alloc (.cells #[.int .i64 b', .int .i64 v', .int .i64 st', .int .i64 k', .int .i64 i', .int .i64 f', .int .i64 t', .int .i64 c', .int .i64 s', u'] T')) (w.heap.size + 1)) ∧
    (RowAt (((w.alloc a).alloc (.cells #[.int .i64 b, .int .i64 v, .int .i64 st, .int .i64 k, .int .i64 i, .int .i64 f, .int .i64 t, .int .i64 c, .int .i64 s, u] T)).alloc (.cells #[.int .i64 b', .int .i64 v', .int .i64 st', .int .i64 k', .int .i64 i', .int .i64 f', .int .i64 t', .int .i64 c', .int .i64 s', u'] T')) (w.heap.size + 1 + 1) ⟨b', v', st', k', i', f', t', c', s', []⟩ u' ∧
     FreeAt (((w.alloc a).alloc (.cells #[.int .i64 b, .int .i64 v, .int .i64 st, .int .i64 k, .int .i64 i, .int .i64 f, .int .i64 t, .int .i64 c, .int .i64 s, u] T)).alloc (.cells #[.int .i64 b', .int .i64 v', .int .i64 st', .int .i64 k', .int .i64 i', .int .i64 f', .int .i64 t', .int .i64 c', .int .i64 s', u'] T')) (w.heap.size + 1 + 1)) := by
  refine ⟨⟨⟨?_, ?_, ?_, ?_, ?_, ?_, ?_, ?_, ?_, ?_⟩, ⟨?_, ?_, ?_, ?_, ?_, ?_, ?_, ?_, ?_, ?_⟩⟩, ⟨⟨?_, ?_, ?_, ?_, ?_, ?_, ?_, ?_, ?_, ?_⟩, ⟨?_, ?_, ?_, ?_, ?_, ?_, ?_, ?_, ?_, ?_⟩⟩⟩ <;> go_simp
theorem row_set5 {w : World} {b : Nat} {d : RowD} {y : Value} (k i f t a : Int) (h : RowAt w b d y) :
    RowAt (((((w.setCell ⟨b, 3, none⟩ (.int .i64 k)).setCell ⟨b, 4, none⟩ (.int .i64 i)).setCell ⟨b, 5, none⟩ (.int .i64 f)).setCell ⟨b, 6, none⟩ (.int .i64 t)).setCell ⟨b, 7, none⟩ (.int .i64 a)) b ⟨d.b, d.v, d.st, k, i, f, t, a, d.s, d.l⟩ y := by
  obtain ⟨h0, h1, h2, h3, h4, h5, h6, h7, h8, h9⟩ := h
  refine ⟨?_, ?_, ?_, ?_, ?_, ?_, ?_, ?_, ?_, ?_⟩ <;> go_simp
theorem free_set {w : World} {b : Nat} (a : Addr) (v : Value) (h : FreeAt w b) : FreeAt (w.setCell a v) b := by
  obtain ⟨h0, h1, h2, h3, h4, h5, h6, h7, h8, h9⟩ := h
  refine ⟨?_, ?_, ?_, ?_, ?_, ?_, ?_, ?_, ?_, ?_⟩ <;> (rw [World.frozen?_setCell]; assumption)
theorem row_apart {w : World} {b : Nat} {d : RowD} {y : Value} (a : Addr) (v : Value) (hne : a.block ≠ b) (h : RowAt w b d y) : RowAt (w.setCell a v) b d y := by
  obtain ⟨h0, h1, h2, h3, h4, h5, h6, h7, h8, h9⟩ := h
  refine ⟨?_, ?_, ?_, ?_, ?_, ?_, ?_, ?_, ?_, ?_⟩ <;> (rw [World.cell?_setCell_other _ _ _ _ (fun e => hne (by rw [e]))]; assumption)
set_option maxHeartbeats 2000000 in
set_option maxRecDepth 100000 in
theorem toRow_any (r : RowD) (u : Value) (w : World) (hv : Ints w u r.l) (hs : r.l.length ≤ 35184372088831) :
    Calls Tryz.prog 117 #[.agg #[.int .i64 r.b, .int .i64 r.v, .int .i64 r.st, .int .i64 r.k, .int .i64 r.i, .int .i64 r.f, .int .i64 r.t, .int .i64 r.a, .int .i64 r.s, u]] w (NewRow r w) := by
  have HS := Lib.hid hs
  have hb := rowAt_new w 179 r u
  clear hs
  obtain ⟨wb, hwb⟩ : ∃ wb, wb = ((w.alloc (.cells #[.int .i64 r.b, .int .i64 r.v, .int .i64 r.st, .int .i64 r.k, .int .i64 r.i, .int .i64 r.f, .int .i64 r.t, .int .i64 r.a, .int .i64 r.s, u] 179)).alloc (.cells #[.int .i64 0, .int .i64 0, .int .i64 0, .int .i64 0, .int .i64 0, .int .i64 0, .int .i64 0, .int .i64 0, .int .i64 0, .slice none 0 0] 83)).alloc (.cells #[.int .i64 r.b, .int .i64 r.v, .int .i64 r.st, .int .i64 0, .int .i64 0, .int .i64 0, .int .i64 0, .int .i64 0, .int .i64 0, .slice none 0 0] 83) := ⟨_, rfl⟩
  have h3 := row_three w 83 83 (.cells #[.int .i64 r.b, .int .i64 r.v, .int .i64 r.st, .int .i64 r.k, .int .i64 r.i, .int .i64 r.f, .int .i64 r.t, .int .i64 r.a, .int .i64 r.s, u] 179) 0 0 0 0 0 0 0 0 0 r.b r.v r.st 0 0 0 0 0 0 (.slice none 0 0) (.slice none 0 0)
  have xb : Ext w wb := by rw [hwb]; exact Ext.alloc3 _ _ _ _
  have sb : wb.heap.size = w.heap.size + 3 := by rw [hwb]; exact size3 _ _ _ _
  have rb : RowAt wb w.heap.size r u := by rw [hwb]; exact hb.ext (((Ext.refl _).alloc _).alloc _)
  rw [← hwb] at h3
  have HWB := Lib.hid hwb
  have H3 := Lib.hid h3
  have SB := Lib.hid sb
  have RB := Lib.hid rb
  clear hwb h3 sb rb hb
  go_enter Tryz.func117, Tryz.ntmps117
  go_wp2_with fail
  rw [← HWB.out]
  refine (toCmd_any _ _ _ _ _ _).mono ?_
  rintro e w1 ⟨rfl, x1⟩
  have hsz : w.heap.size + 3 ≤ w1.heap.size := by have := x1.size; have := SB.out; omega
  obtain ⟨⟨⟨o0, o1, o2, o3, o4, o5, o6, o7, o8, o9⟩, ⟨z0, z1, z2, z3, z4, z5, z6, z7, z8, z9⟩⟩, ⟨⟨p0, p1, p2, p3, p4, p5, p6, p7, p8, p9⟩, ⟨y0, y1, y2, y3, y4, y5, y6, y7, y8, y9⟩⟩⟩ : (RowAt w1 (w.heap.size + 1) _ _ ∧ FreeAt w1 (w.heap.size + 1)) ∧ (RowAt w1 (w.heap.size + 1 + 1) _ _ ∧ FreeAt w1 (w.heap.size + 1 + 1)) :=
    ⟨⟨H3.out.1.1.ext x1, H3.out.1.2.ext (by have := SB.out; omega) x1⟩, ⟨H3.out.2.1.ext x1, H3.out.2.2.ext (by have := SB.out; omega) x1⟩⟩
  obtain ⟨q0, q1, q2, q3, q4, q5, q6, q7, q8, q9⟩ := RB.out.ext x1
  go_wp2_with fail
  have xc : Ext w (((((w1.setCell ⟨w.heap.size + 1 + 1, 3, none⟩ (.int .i64 r.k)).setCell ⟨w.heap.size + 1 + 1, 4, none⟩ (.int .i64 r.i)).setCell ⟨w.heap.size + 1 + 1, 5, none⟩ (.int .i64 r.f)).setCell ⟨w.heap.size + 1 + 1, 6, none⟩ (.int .i64 r.t)).setCell ⟨w.heap.size + 1 + 1, 7, none⟩ (.int .i64 r.a)) :=
    (((((xb.trans x1).setc (by dsimp only; omega)).setc (by dsimp only; omega)).setc (by dsimp only; omega)).setc (by dsimp only; omega)).setc (by dsimp only; omega)
  have rp := row_set5 r.k r.i r.f r.t r.a (show RowAt w1 (w.heap.size + 1 + 1) ⟨r.b, r.v, r.st, 0, 0, 0, 0, 0, 0, []⟩ _ from ⟨p0, p1, p2, p3, p4, p5, p6, p7, p8, p9⟩)
  have fp : FreeAt (((((w1.setCell ⟨w.heap.size + 1 + 1, 3, none⟩ (.int .i64 r.k)).setCell ⟨w.heap.size + 1 + 1, 4, none⟩ (.int .i64 r.i)).setCell ⟨w.heap.size + 1 + 1, 5, none⟩ (.int .i64 r.f)).setCell ⟨w.heap.size + 1 + 1, 6, none⟩ (.int .i64 r.t)).setCell ⟨w.heap.size + 1 + 1, 7, none⟩ (.int .i64 r.a)) (w.heap.size + 1 + 1) :=
    free_set _ _ (free_set _ _ (free_set _ _ (free_set _ _ (free_set _ _ ⟨y0, y1, y2, y3, y4, y5, y6, y7, y8, y9⟩))))
  have ro : RowAt (((((w1.setCell ⟨w.heap.size + 1 + 1, 3, none⟩ (.int .i64 r.k)).setCell ⟨w.heap.size + 1 + 1, 4, none⟩ (.int .i64 r.i)).setCell ⟨w.heap.size + 1 + 1, 5, none⟩ (.int .i64 r.f)).setCell ⟨w.heap.size + 1 + 1, 6, none⟩ (.int .i64 r.t)).setCell ⟨w.heap.size + 1 + 1, 7, none⟩ (.int .i64 r.a)) (w.heap.size + 1) zeroR (.slice none 0 0) :=
    row_apart _ _ (by simp) (row_apart _ _ (by simp) (row_apart _ _ (by simp) (row_apart _ _ (by simp) (row_apart _ _ (by simp) ⟨o0, o1, o2, o3, o4, o5, o6, o7, o8, o9⟩))))
  have fo : FreeAt (((((w1.setCell ⟨w.heap.size + 1 + 1, 3, none⟩ (.int .i64 r.k)).setCell ⟨w.heap.size + 1 + 1, 4, none⟩ (.int .i64 r.i)).setCell ⟨w.heap.size + 1 + 1, 5, none⟩ (.int .i64 r.f)).setCell ⟨w.heap.size + 1 + 1, 6, none⟩ (.int .i64 r.t)).setCell ⟨w.heap.size + 1 + 1, 7, none⟩ (.int .i64 r.a)) (w.heap.size + 1) :=
    free_set _ _ (free_set _ _ (free_set _ _ (free_set _ _ (free_set _ _ ⟨z0, z1, z2, z3, z4, z5, z6, z7, z8, z9⟩))))
  have hsz2 : w.heap.size + 3 ≤ (((((w1.setCell ⟨w.heap.size + 1 + 1, 3, none⟩ (.int .i64 r.k)).setCell ⟨w.heap.size + 1 + 1, 4, none⟩ (.int .i64 r.i)).setCell ⟨w.heap.size + 1 + 1, 5, none⟩ (.int .i64 r.f)).setCell ⟨w.heap.size + 1 + 1, 6, none⟩ (.int .i64 r.t)).setCell ⟨w.heap.size + 1 + 1, 7, none⟩ (.int .i64 r.a)).heap.size := by simp only [World.size_setCell]; exact hsz
  refine (toAttr_any _ _ r.l _ (hv.ext xc) HS.out).mono ?_
  clear p0 p1 p2 p3 p4 p5 p6 p7 p8 p9 o0 o1 o2 o3 o4 o5 o6 o7 o8 o9 q0 q1 q2 q3 q4 q5 q6 q7 q8 q9 z0 z1 z2 z3 z4 z5 z6 z7 z8 z9 y0 y1 y2 y3 y4 y5 y6 y7 y8 y9
  obtain ⟨wc, hwc⟩ : ∃ wc, wc = (((((w1.setCell ⟨w.heap.size + 1 + 1, 3, none⟩ (.int .i64 r.k)).setCell ⟨w.heap.size + 1 + 1, 4, none⟩ (.int .i64 r.i)).setCell ⟨w.heap.size + 1 + 1, 5, none⟩ (.int .i64 r.f)).setCell ⟨w.heap.size + 1 + 1, 6, none⟩ (.int .i64 r.t)).setCell ⟨w.heap.size + 1 + 1, 7, none⟩ (.int .i64 r.a)) := ⟨_, rfl⟩
  rw [← hwc] at xc rp fp ro fo hsz2 ⊢
  clear hwc
  rintro e w2 ⟨v, rfl, f2, x2⟩
  have hy : Ext w w2 := xc.trans x2
  obtain ⟨p0, p1, p2, p3, p4, p5, p6, p7, p8, p9⟩ := rp.ext x2
  obtain ⟨o0, o1, o2, o3, o4, o5, o6, o7, o8, o9⟩ := ro.ext x2
  obtain ⟨y0, y1, y2, y3, y4, y5, y6, y7, y8, y9⟩ := fp.ext (by omega) x2
  obtain ⟨z0, z1, z2, z3, z4, z5, z6, z7, z8, z9⟩ := fo.ext (by omega) x2
  obtain ⟨au, cu, rfl⟩ := f2.form
  have F := Lib.hid f2
  have HZ := Lib.hid hsz2
  clear f2 rp ro fp fo xc xb x1 x2 hsz2
  go_wp2
  refine bodyPost_ret (v := .agg #[.int .i64 r.b, .int .i64 r.v, .int .i64 r.st, .int .i64 r.k, .int .i64 r.i, .int .i64 r.f, .int .i64 r.t, .int .i64 r.a, .int .i64 r.s, .slice au r.l.length cu]) (by simp [results, Tryz.results117, go_sem, o0, o1, o2, o3, o4, o5, o6, o7, o8, o9]) rfl ⟨_, rfl, ?_, ?_⟩
  · exact ((((((((((((F.out.set _ _ _ (by have := HZ.out; omega)).set _ _ _ (by have := HZ.out; omega)).set _ _ _ (by have := HZ.out; omega)).set _ _ _ (by have := HZ.out; omega)).set _ _ _ (by have := HZ.out; omega)).set _ _ _ (by have := HZ.out; omega)).set _ _ _ (by have := HZ.out; omega)).set _ _ _ (by have := HZ.out; omega)).set _ _ _ (by have := HZ.out; omega)).set _ _ _ (by have := HZ.out; omega)).set _ _ _ (by have := HZ.out; omega)).set _ _ _ (by have := HZ.out; omega)).more (by have := HZ.out; omega)
  · exact (((((((((((hy.setc (by dsimp only; omega)).setc (by dsimp only; omega)).setc (by dsimp only; omega)).setc (by dsimp only; omega)).setc (by dsimp only; omega)).setc (by dsimp only; omega)).setc (by dsimp only; omega)).setc (by dsimp only; omega)).setc (by dsimp only; omega)).setc (by dsimp only; omega)).setc (by dsimp only; omega)).setc (by dsimp only; omega)
end Go.Proofs.YtcpmfcigciknlaaGreat

namespace Go.Proofs.YtcpmfcigciknlaaGreat
open Go.RowKit
set_option linter.unusedVariables false
theorem ownsRow_stores {base e size g n cap : Nat} : ∀ (vs : List Value) (o : Nat) (w : World) (xs : List Value), w.ownsRow base e size (.slice (some ⟨g, 0, none⟩) n cap) n xs →
    (w.setCells g o vs).ownsRow base e size (.slice (some ⟨g, 0, none⟩) n cap) n (putL xs o vs) ∧ w.grownBy (w.setCells g o vs) (some g)
  | [], _, w, _, h => ⟨h, World.grownBy.refl _ _⟩
  | v :: r, o, w, xs, h => by
    have h1 := h.stored o v
    have h2 := ownsRow_stores r (o + 1) _ _ h1.1
    exact ⟨h2.1, h1.2.trans h2.2⟩
def XRow (xs : List Value) (o : Nat) (r : RowD) (u : Value) : Prop :=
  xs[o]? = some (.int .i64 r.b) ∧ xs[o + 1]? = some (.int .i64 r.v) ∧ xs[o + 2]? = some (.int .i64 r.st) ∧ xs[o + 3]? = some (.int .i64 r.k) ∧ xs[o + 4]? = some (.int .i64 r.i) ∧ xs[o + 5]? = some (.int .i64 r.f) ∧ xs[o + 6]? = some (.int .i64 r.t) ∧ xs[o + 7]? = some (.int .i64 r.a) ∧ xs[o + 8]? = some (.int .i64 r.s) ∧ xs[o + 9]? = some u
def rowL (r : RowD) (u : Value) : List Value := [.int .i64 r.b, .int .i64 r.v, .int .i64 r.st, .int .i64 r.k, .int .i64 r.i, .int .i64 r.f, .int .i64 r.t, .int .i64 r.a, .int .i64 r.s, u]
theorem XRow.put_other {xs : List Value} {o p : Nat} {r d : RowD} {u z : Value} (h : XRow xs o r u) (hap : o + 10 ≤ p ∨ p + 10 ≤ o) : XRow (putL xs p (rowL d z)) o r u := by
  obtain ⟨h0, h1, h2, h3, h4, h5, h6, h7, h8, h9⟩ := h
  have hl : (rowL d z).length = 10 := rfl
  refine ⟨?_, ?_, ?_, ?_, ?_, ?_, ?_, ?_, ?_, ?_⟩ <;> (rw [putL_out _ _ _ _ (by rw [hl]; omega)]; assumption)
theorem XRow.put {xs : List Value} {o : Nat} {d : RowD} {z : Value} (h : o + 10 ≤ xs.length) : XRow (putL xs o (rowL d z)) o d z := by
  have hl : (rowL d z).length = 10 := rfl
  refine ⟨?_, ?_, ?_, ?_, ?_, ?_, ?_, ?_, ?_, ?_⟩
  · exact putL_in _ o xs 0 (by rw [hl]; omega) (by rw [hl]; exact h)
  · exact putL_in _ o xs 1 (by rw [hl]; omega) (by rw [hl]; exact h)
  · exact putL_in _ o xs 2 (by rw [hl]; omega) (by rw [hl]; exact h)
  · exact putL_in _ o xs 3 (by rw [hl]; omega) (by rw [hl]; exact h)
  · exact putL_in _ o xs 4 (by rw [hl]; omega) (by rw [hl]; exact h)
  · exact putL_in _ o xs 5 (by rw [hl]; omega) (by rw [hl]; exact h)
  · exact putL_in _ o xs 6 (by rw [hl]; omega) (by rw [hl]; exact h)
  · exact putL_in _ o xs 7 (by rw [hl]; omega) (by rw [hl]; exact h)
  · exact putL_in _ o xs 8 (by rw [hl]; omega) (by rw [hl]; exact h)
  · exact putL_in _ o xs 9 (by rw [hl]; omega) (by rw [hl]; exact h)
theorem XRow.rowIn {w : World} {B e g n cap j : Nat} {xs : List Value} {r : RowD} {u : Value} (h : w.ownsRow B e 10 (.slice (some ⟨g, 0, none⟩) n cap) n xs) (hj : j < n) (hx : XRow xs (j * 10) r u) : RowIn w g (j * 10) r u := by
  obtain ⟨h0, h1, h2, h3, h4, h5, h6, h7, h8, h9⟩ := hx
  refine ⟨?_, ?_, ?_, ?_, ?_, ?_, ?_, ?_, ?_, ?_⟩ <;> (rw [h.cellAt _ (by omega)]; assumption)
def Cells (xs : List Value) (us : List Value) (R : List RowD) : Prop := ∀ j (h : j < R.length) (h' : j < us.length), XRow xs (j * 10) R[j] us[j]
theorem Cells.nil (xs : List Value) : Cells xs [] [] := fun j h _ => by simp at h
theorem Cells.snoc {xs us : List Value} {R : List RowD} {d : RowD} {z : Value} (h : Cells xs us R) (hl : us.length = R.length) (hx : R.length * 10 + 10 ≤ xs.length) :
    Cells (putL xs (R.length * 10) (rowL d z)) (us ++ [z]) (R ++ [d]) := by
  intro j hj hj'
  by_cases hlt : j < R.length
  · rw [List.getElem_append_left hlt, List.getElem_append_left (by omega)]
    exact (h j hlt (by omega)).put_other (.inl (by omega))
  · have e : j = R.length := by simp at hj; omega
    subst e
    rw [List.getElem_append_right (Nat.le_refl _), List.getElem_append_right (by omega)]
    simp only [Nat.sub_self, hl, List.getElem_cons_zero]
    exact XRow.put hx
def FreshR (B : Nat) (w : World) (v : Value) (R : List RowD) : Prop :=
  ∃ xs us, w.ownsRow B 83 10 v R.length xs ∧ Cells xs us R ∧ Rows_ B w us (R.map fun r => r.l) ∧ ∀ (j : Nat) (u : Value), us[j]? = some u → u.ownBlock = none ∨ u.ownBlock ≠ v.ownBlock
theorem FreshR.ext {B : Nat} {w w' : World} {v : Value} {R : List RowD} (h : FreshR B w v R) (e : Ext w w') : FreshR B w' v R := by
  obtain ⟨xs, us, h1, h2, h3, h4⟩ := h
  exact ⟨xs, us, e.ownsRow h1, h2, h3.ext e, h4⟩
theorem FreshR.more {B B' : Nat} {w : World} {v : Value} {R : List RowD} (h : FreshR B w v R) (hb : B' ≤ B) : FreshR B' w v R := by
  obtain ⟨xs, us, h1, h2, h3, h4⟩ := h
  exact ⟨xs, us, ownsRow_more h1 hb, h2, h3.more hb, h4⟩
theorem FreshR.nil (B : Nat) (w : World) : FreshR B w (.slice none 0 0) [] := ⟨[], [], World.ownsRow_nil _ _ _ _, Cells.nil _, Rows_.nil _ _, fun _ _ h => by simp at h⟩
theorem FreshR.rows {B : Nat} {w : World} {v : Value} {R : List RowD} (h : FreshR B w v R) : Rowz w v R := by
  obtain ⟨xs, us, h1, h2, h3, h4⟩ := h
  have hlen : us.length = R.length := by have := h3.len; simpa using this
  rcases id h1.2 with ⟨rfl, hn⟩ | ⟨g, cap, cur, rfl, hb, hg, hnc, hcm, hcs, htake⟩
  · obtain rfl : R = [] := List.eq_nil_of_length_eq_zero hn
    exact Rowz.nil w
  · refine ⟨some ⟨g, 0, none⟩, cap, rfl, by omega, ⟨by omega, by omega, fun h => by cases h⟩, fun _ => ⟨g, 0, rfl, fun j hj => ?_⟩⟩
    refine ⟨us[j]'(by omega), ?_, ?_⟩
    · rw [Nat.zero_add]; exact (h2 j hj (by omega)).rowIn h1 hj
    · exact (h3.row j _ _ (List.getElem?_eq_getElem (by omega)) (by simp [List.getElem?_eq_getElem hj])).ints
theorem FreshR.form {B : Nat} {w : World} {v : Value} {R : List RowD} (h : FreshR B w v R) : ∃ ao cap, v = .slice ao R.length cap := by
  obtain ⟨ao, cap, hv, _⟩ := h.rows
  exact ⟨ao, cap, hv⟩
def NewRows (R : List RowD) (w : World) (e : Ending) (w' : World) : Prop := ∃ v, e = .returned v ∧ FreshR w.heap.size w' v R ∧ Ext w w'
theorem Tryz.infoRow : (Tryz.prog.info? 83).map (fun i => (i.zero, i.size, i.bytes)) = some (some (.agg #[.int .i64 0, .int .i64 0, .int .i64 0, .int .i64 0, .int .i64 0, .int .i64 0, .int .i64 0, .int .i64 0, .int .i64 0, .slice none 0 0]), 10, 96) := by kernel_rfl
theorem made_row (n j : Nat) (h : j < n) : XRow (madeCells #[.int .i64 0, .int .i64 0, .int .i64 0, .int .i64 0, .int .i64 0, .int .i64 0, .int .i64 0, .int .i64 0, .int .i64 0, .slice none 0 0] (n * 10)).toList (j * 10) zeroR (.slice none 0 0) := by
  have e : ∀ c, c < 10 → (madeCells #[.int .i64 0, .int .i64 0, .int .i64 0, .int .i64 0, .int .i64 0, .int .i64 0, .int .i64 0, .int .i64 0, .int .i64 0, .slice none 0 0] (n * 10)).toList[j * 10 + c]? = some ((#[Value.int .i64 0, .int .i64 0, .int .i64 0, .int .i64 0, .int .i64 0, .int .i64 0, .int .i64 0, .int .i64 0, .int .i64 0, .slice none 0 0] : Array Value)[c]!) := by
    intro c hc
    have h1 : j * 10 + c < n * 10 := by omega
    have h2 : (j * 10 + c) % 10 = c := by omega
    simp [madeCells, h1, h2]
  exact ⟨e 0 (by omega), e 1 (by omega), e 2 (by omega), e 3 (by omega), e 4 (by omega), e 5 (by omega), e 6 (by omega), e 7 (by omega), e 8 (by omega), e 9 (by omega)⟩
end Go.Proofs.YtcpmfcigciknlaaGreat

namespace Go.Proofs.YtcpmfcigciknlaaGreat
open Go.RowKit
set_option linter.unusedVariables false
theorem setCells_row (w : World) (g o : Nat) (r : RowD) (u : Value) :
    w.setCells g o (rowL r u) = ((((((((((w.setCell ⟨g, o, none⟩ (.int .i64 r.b)).setCell ⟨g, o + 1, none⟩ (.int .i64 r.v)).setCell ⟨g, o + 2, none⟩ (.int .i64 r.st)).setCell ⟨g, o + 3, none⟩ (.int .i64 r.k)).setCell ⟨g, o + 4, none⟩ (.int .i64 r.i)).setCell ⟨g, o + 5, none⟩ (.int .i64 r.f)).setCell ⟨g, o + 6, none⟩ (.int .i64 r.t)).setCell ⟨g, o + 7, none⟩ (.int .i64 r.a)).setCell ⟨g, o + 8, none⟩ (.int .i64 r.s)).setCell ⟨g, o + 9, none⟩ u) := rfl
set_option maxHeartbeats 2000000 in
set_option maxRecDepth 100000 in
theorem toRowS_any (u : Value) (R : List RowD) (w : World) (hu : Rowz w u R) (hs : bulkR R ≤ 1099511627776) :
    Calls Tryz.prog 67 #[u] w (NewRows R w) := by
  obtain ⟨au, cu, rfl, hlu, _, hcu⟩ := hu
  unfold maxLen at hlu
  have hL : R.length ≤ 1099511627776 := by unfold bulkR at hs; omega
  obtain ⟨i0, hi, hz0, hz1, hz2⟩ := info_parts Tryz.infoRow
  have HS := Lib.hid hs
  clear hs
  go_enter Tryz.func67, Tryz.ntmps67
  go_wp2_with (at_make; refine wpList_make_full _ rfl _ _ 117 rfl w.heap.size 83 i0 _ 10 Tryz.underlying117 hi hz0 hz1 _ _ _ _ R.length rfl rfl rfl rfl ?c1 ?c2 ?c3 ?_)
  case c1 => rw [hz2]; omega
  case c2 => unfold maxLen; omega
  case c3 => simp
  intro w1 ho1 hg1
  have hx1 : Ext w w1 := ext_of_grown hg1
  have hz : ∀ j, 0 ≤ j → j < R.length → XRow (madeCells #[.int .i64 0, .int .i64 0, .int .i64 0, .int .i64 0, .int .i64 0, .int .i64 0, .int .i64 0, .int .i64 0, .int .i64 0, .slice none 0 0] (R.length * 10)).toList (j * 10) zeroR (.slice none 0 0) := fun j _ hj => made_row _ j hj
  have hsz : w.heap.size < w1.heap.size := by
    rcases ho1.2 with ⟨h, _⟩ | ⟨g, cap, cur, h, hb, hg, _⟩
    · cases h
    · simp only [Value.slice.injEq, Option.some.injEq, Addr.mk.injEq, and_true, true_and] at h
      obtain ⟨rfl, _⟩ := h
      exact (Array.getElem?_eq_some_iff.1 hg).1
  obtain ⟨xs0, hxs⟩ : ∃ xs, xs = (madeCells #[.int .i64 0, .int .i64 0, .int .i64 0, .int .i64 0, .int .i64 0, .int .i64 0, .int .i64 0, .int .i64 0, .int .i64 0, .slice none 0 0] (R.length * 10)).toList := ⟨_, rfl⟩
  rw [← hxs] at ho1 hz
  clear hg1 hz0 hz1 hz2 hi hxs
  have HZ := Lib.hid hz
  clear hz
  go_wp2
  go_loopw [4] (fun i wr => ∃ (k : Nat) (xs us : List Value), k ≤ R.length ∧ i = .int .i64 k ∧ wr.ownsRow w.heap.size 83 10 (.slice (some ⟨w.heap.size, 0, none⟩) R.length R.length) R.length xs ∧ Hid (Cells xs us (R.take k)) ∧ Hid (∀ j, k ≤ j → j < R.length → XRow xs (j * 10) zeroR (.slice none 0 0)) ∧ Rows_ (w.heap.size + 1) wr us ((R.take k).map fun r => r.l) ∧ w.heap.size < wr.heap.size ∧ Ext w wr) (fun i _ => R.length - (intOf i).toNat)
  case atStart => exact ⟨0, xs0, [], Nat.zero_le _, rfl, ho1, Lib.hid (by simpa using Cells.nil _), HZ, by simpa using Rows_.nil _ _, hsz, hx1⟩
  case round =>
    clear ho1 hx1 hsz HZ
    obtain ⟨k, xs, us, hk, rfl, ho, hC, hZ, hR, hsz, hx⟩ := hrel
    have hul : us.length = k := by rw [hR.len]; simp; omega
    by_cases hlt : k < R.length
    · obtain ⟨bu, ou, rfl, du⟩ := hcu (by omega)
      obtain ⟨y, hy, iy⟩ := du k hlt
      obtain ⟨d, hd⟩ : ∃ d, d = R[k] := ⟨_, rfl⟩
      have hrow : d.l.length ≤ 35184372088831 := by rw [hd]; have := bulkR_row hlt; have := HS.out; omega
      rw [← hd] at hy iy
      obtain ⟨c0, c1, c2, c3, c4, c5, c6, c7, c8, c9⟩ := hy.ext hx
      have IY := Lib.hid (iy.ext hx)
      have HD := Lib.hid hd
      have HO := Lib.hid ho
      have HR := Lib.hid hR
      have HV := Lib.hid hul
      clear hcu du hy iy ho hR hul hd
      go_wp2_with fail
      refine (toRow_any d y _ IY.out hrow).mono ?_
      rintro e w2 ⟨z, rfl, f2, x2⟩
      clear c0 c1 c2 c3 c4 c5 c6 c7 c8 c9
      have ho2 := x2.ownsRow HO.out
      obtain ⟨g0, g1, g2, g3, g4, g5, g6, g7, g8, g9⟩ := XRow.rowIn ho2 hlt (hZ.out k (Nat.le_refl _) hlt)
      have gf : ∀ q, w2.frozen? ⟨w.heap.size, q, none⟩ = false := fun q => ho2.frozenAt q
      have HST := Lib.hid (ownsRow_stores (rowL d z) (k * 10) _ _ ho2)
      have F2 := Lib.hid f2
      obtain ⟨ax, cx, hz'⟩ := f2.form
      have HXL := Lib.hid (show xs.length = R.length * 10 from ho2.1)
      clear ho2 f2
      subst hz'
      go_wp2
      go_roundw
      case rel =>
        have hst := HST.out
        rw [setCells_row] at hst
        have hsn := HR.out.snoc x2 F2.out (by omega)
        have htk : R.take k ++ [d] = R.take (k + 1) := by rw [HD.out, List.take_add_one, List.getElem?_eq_getElem hlt]; rfl
        have htm : ((R.take k).map fun r => r.l) ++ [d.l] = (R.take (k + 1)).map fun r => r.l := by rw [← htk]; simp
        rw [htm] at hsn
        have hlk : (R.take k).length = k := by simp; omega
        have hcs := hC.out.snoc (d := d) (z := .slice ax d.l.length cx) (by rw [HV.out, hlk]) (by rw [hlk, HXL.out]; omega)
        rw [hlk, htk] at hcs
        refine ⟨k + 1, _, _, by omega, by go_num, hst.1, Lib.hid hcs, Lib.hid fun j hj hj' => (hZ.out j (by omega) hj').put_other (.inr (by omega)), hsn.touch hst.2 (hsn.low (by omega)), ?_, ?_⟩
        · have := x2.size
          simp only [World.size_setCell]; omega
        · exact ((((((((((hx.trans x2).setc (Nat.le_refl _)).setc (Nat.le_refl _)).setc (Nat.le_refl _)).setc (Nat.le_refl _)).setc (Nat.le_refl _)).setc (Nat.le_refl _)).setc (Nat.le_refl _)).setc (Nat.le_refl _)).setc (Nat.le_refl _)).setc (Nat.le_refl _)
      case measure => simp [intOf]; omega
    · obtain rfl : k = R.length := by omega
      have HO := Lib.hid ho
      have HR := Lib.hid hR
      clear ho hR
      go_wp2
      go_ret
      have hC' := hC.out
      have hR' := HR.out
      rw [List.take_length] at hC' hR'
      exact ⟨_, rfl, ⟨xs, us, HO.out, hC', hR'.more (by omega), hR'.low (g := w.heap.size) (by omega)⟩, hx⟩
end Go.Proofs.YtcpmfcigciknlaaGreat

namespace Go.Proofs.YtcpmfcigciknlaaGreat
open Go.RowKit
set_option linter.unusedVariables false
def FreshI (lo hi : Nat) (w : World) (v : Value) (R : List RowD) : Prop :=
  ∃ xs us, w.ownsRow lo 83 10 v R.length xs ∧ Cells xs us R ∧ Rows_ lo w us (R.map fun r => r.l) ∧ (∀ (j : Nat) (u : Value), us[j]? = some u → u.ownBlock = none ∨ u.ownBlock ≠ v.ownBlock) ∧ Und hi v ∧ ∀ (j : Nat) (u : Value), us[j]? = some u → Und hi u
theorem FreshI.fresh {lo hi : Nat} {w : World} {v : Value} {R : List RowD} (h : FreshI lo hi w v R) : FreshR lo w v R := by
  obtain ⟨xs, us, h1, h2, h3, h4, _⟩ := h
  exact ⟨xs, us, h1, h2, h3, h4⟩
theorem FreshR.within {lo hi : Nat} {w : World} {v : Value} {R : List RowD} (h : FreshR lo w v R) (hb : w.heap.size ≤ hi) : FreshI lo hi w v R := by
  obtain ⟨xs, us, h1, h2, h3, h4⟩ := h
  refine ⟨xs, us, h1, h2, h3, h4, fun b e => Nat.lt_of_lt_of_le (World.ownsRow.lt h1 b e).2 hb, fun j u hu => ?_⟩
  have hj : j < us.length := (List.getElem?_eq_some_iff.1 hu).1
  have hr := h3.row j u _ hu (List.getElem?_eq_getElem (by rw [← h3.len]; exact hj))
  exact hr.und.more hb
theorem FreshI.kept {lo hi : Nat} {w w' : World} {v : Value} {R : List RowD} (h : FreshI lo hi w v R) (k : Stood lo hi w w') : FreshI lo hi w' v R := by
  obtain ⟨xs, us, h1, h2, h3, h4, h5, h6⟩ := h
  refine ⟨xs, us, k.row h1 (fun b e => ⟨(World.ownsRow.lt h1 b e).1, h5 b e⟩), h2, ⟨h3.len, fun j u l hu hl => ?_, h3.apart⟩, h4, h5, h6⟩
  have hr := h3.row j u l hu hl
  exact k.row hr (fun b e => ⟨(World.ownsRow.lt hr b e).1, h6 j u hu b e⟩)
def FreshT (lo hi : Nat) (w : World) (v : Value) (T : List (List RowD)) : Prop :=
  ∃ (vs : List Value) (cut : Nat → Nat), w.ownsRow lo 117 1 v T.length vs ∧ Und (cut 0) v ∧ (∀ j, j < T.length → cut j ≤ cut (j + 1)) ∧ lo ≤ cut 0 ∧ cut T.length ≤ hi ∧
    ∀ j (h : j < T.length) (h' : j < vs.length), FreshI (cut j) (cut (j + 1)) w vs[j] T[j]
theorem FreshT.form {lo hi : Nat} {w : World} {v : Value} {T : List (List RowD)} (h : FreshT lo hi w v T) : ∃ ao cap, v = .slice ao T.length cap := by
  obtain ⟨vs, cut, h1, _⟩ := h
  rcases h1.2 with ⟨rfl, hn⟩ | ⟨g, cap, cur, rfl, _⟩
  · exact ⟨none, 0, by rw [hn]⟩
  · exact ⟨_, _, rfl⟩
theorem cut_mono {cut : Nat → Nat} {n : Nat} (h : ∀ j, j < n → cut j ≤ cut (j + 1)) : ∀ i j, i ≤ j → j ≤ n → cut i ≤ cut j := by
  intro i j hij hj
  induction hd : j - i generalizing i with
  | zero => obtain rfl : i = j := by omega
            exact Nat.le_refl _
  | succ d ih =>
    exact Nat.le_trans (h i (by omega)) (ih (i + 1) (by omega) (by omega))
theorem FreshT.kept {lo hi : Nat} {w w' : World} {v : Value} {T : List (List RowD)} (h : FreshT lo hi w v T) (k : Stood lo hi w w') : FreshT lo hi w' v T := by
  obtain ⟨vs, cut, h1, h2, h3, h4, h5, h6⟩ := h
  have hm := cut_mono h3
  refine ⟨vs, cut, k.row h1 (fun b e => ⟨(World.ownsRow.lt h1 b e).1, ?_⟩), h2, h3, h4, h5, fun j hj hj' => (h6 j hj hj').kept ⟨k.1, fun b b1 b2 => k.2 b ?_ ?_⟩⟩
  · have := h2 b e; have := hm 0 T.length (by omega) (Nat.le_refl _); omega
  · have := hm 0 j (by omega) (by omega); omega
  · have := hm (j + 1) T.length (by omega) (Nat.le_refl _); omega
theorem FreshT.more {lo lo' hi hi' : Nat} {w : World} {v : Value} {T : List (List RowD)} (h : FreshT lo hi w v T) (k : lo' ≤ lo) (k' : hi ≤ hi') : FreshT lo' hi' w v T := by
  obtain ⟨vs, cut, h1, h2, h3, h4, h5, h6⟩ := h
  exact ⟨vs, cut, ownsRow_more h1 k, h2, h3, by omega, by omega, h6⟩
theorem FreshT.rows {lo hi : Nat} {w : World} {v : Value} {T : List (List RowD)} (h : FreshT lo hi w v T) : Rowzz w v T := by
  obtain ⟨vs, cut, h1, h2, h3, h4, h5, h6⟩ := h
  have hlen := h1.1
  rcases id h1.2 with ⟨rfl, hn⟩ | ⟨g, cap, cur, rfl, hb, hg, hnc, hcm, hcs, htake⟩
  · obtain rfl : T = [] := List.eq_nil_of_length_eq_zero hn
    exact Rowzz.nil w
  · refine ⟨some ⟨g, 0, none⟩, cap, rfl, by omega, ⟨by omega, by omega, fun h => by cases h⟩, fun _ => ⟨g, 0, rfl, fun j hj => ?_⟩⟩
    have hc := World.ownsRow.cellAt h1 j (by omega)
    have hu : vs[j]? = some (vs[j]'(by omega)) := List.getElem?_eq_getElem (by omega)
    exact ⟨vs[j]'(by omega), by rw [Nat.zero_add, hc, hu], (h6 j hj (by omega)).fresh.rows⟩
def NewTab (T : List (List RowD)) (w : World) (e : Ending) (w' : World) : Prop := ∃ v, e = .returned v ∧ FreshT w.heap.size w'.heap.size w' v T ∧ Ext w w'
def NewTable (n : Int) (T : List (List RowD)) (w : World) (e : Ending) (w' : World) : Prop := ∃ v, e = .returned (.agg #[.int .i64 n, v]) ∧ FreshT w.heap.size w'.heap.size w' v T ∧ Ext w w'
theorem Tryz.infoRows : (Tryz.prog.info? 117).map (fun i => (i.zero, i.size, i.bytes)) = some (some (.slice none 0 0), 1, 24) := by kernel_rfl
theorem set_next (vs : List Value) (z n : Value) (k m : Nat) (hk : vs.length = k) (hm : k < m) : (vs ++ List.replicate (m - k) n).set k z = (vs ++ [z]) ++ List.replicate (m - (k + 1)) n := by
  rw [List.set_append_right _ _ (by omega), hk, Nat.sub_self]
  have e : m - k = (m - (k + 1)) + 1 := by omega
  rw [e, List.replicate_succ, List.set_cons_zero]
  simp
def Laid (w : World) (T : List (List RowD)) (k : Nat) (vs : List Value) (cut : Nat → Nat) : Prop :=
  (∀ j, j < k → cut j ≤ cut (j + 1)) ∧ cut k ≤ w.heap.size ∧ ∀ j (h : j < k) (h1 : j < T.length) (h' : j < vs.length), FreshI (cut j) (cut (j + 1)) w vs[j] T[j]
theorem Laid.next {w w1 w2 : World} {T : List (List RowD)} {k g : Nat} {vs : List Value} {cut : Nat → Nat} {z : Value} {d : List RowD} (h : Laid w T k vs cut) (hk : k < T.length) (hv : vs.length = k) (x : Ext w w1) (f : FreshR w.heap.size w1 z d) (hd : d = T[k])
    (t : w1.grownBy w2 (some g)) (hg : g < cut 0) : Laid w2 T (k + 1) (vs ++ [z]) (fun j => if j ≤ k then cut j else w1.heap.size) := by
  subst hd
  obtain ⟨h1, h2, h3⟩ := h
  have hm := cut_mono h1
  have hx := x.size
  have st : ∀ a b, cut 0 ≤ a → b ≤ w1.heap.size → Stood a b w1 w2 := fun a b ha hb => ⟨t.size, fun q q1 q2 => t.block q (by omega) (fun e => by have := Option.some.inj e; omega)⟩
  refine ⟨fun j hj => ?_, ?_, fun j hj hj1 hj' => ?_⟩
  · by_cases e : j = k
    · subst e
      simp only [Nat.le_refl, if_true, show ¬ (j + 1 ≤ j) by omega, if_false]
      omega
    · have hjk : j < k := by omega
      have hjk' : j + 1 ≤ k := by omega
      have hjk2 : j ≤ k := by omega
      simp only [hjk', hjk2, if_true]
      exact h1 j hjk
  · have := t.size
    simp only [show ¬ (k + 1 ≤ k) by omega, if_false]
    omega
  · by_cases e : j = k
    · subst e
      have c0 := hm 0 j (by omega) (Nat.le_refl _)
      have hzz : (vs ++ [z])[j] = z := by rw [List.getElem_append_right (by omega)]; simp [hv]
      rw [hzz]
      have n1 : ¬ (j + 1 ≤ j) := by omega
      simp only [Nat.le_refl, if_true, n1, if_false]
      refine FreshI.kept (w := w1) ?_ (st _ _ (by omega) (Nat.le_refl _))
      obtain ⟨xs, us, q1, q2, q3, q4⟩ := f
      exact FreshR.within ⟨xs, us, ownsRow_more q1 h2, q2, q3.more h2, q4⟩ (Nat.le_refl _)
    · have hjk : j < k := by omega
      have hjk' : j + 1 ≤ k := by omega
      have hjk2 : j ≤ k := by omega
      simp only [hjk', hjk2, if_true]
      rw [List.getElem_append_left (by omega)]
      have c0 := hm 0 j (by omega) (by omega)
      have c1 := hm (j + 1) k (by omega) (Nat.le_refl _)
      exact ((h3 j hjk hj1 (by omega)).kept (Stood.of_ext x (by omega))).kept (st _ _ (by omega) (by omega))
set_option maxHeartbeats 2000000 in
theorem toRowSS_any (u : Value) (T : List (List RowD)) (w : World) (hu : Rowzz w u T) (hs : bulkT T ≤ 1099511627776) :
    Calls Tryz.prog 35 #[u] w (NewTab T w) := by
  obtain ⟨au, cu, rfl, hlu, _, hcu⟩ := hu
  unfold maxLen at hlu
  have hL : T.length ≤ 1099511627776 := by unfold bulkT at hs; omega
  obtain ⟨i0, hi, hz0, hz1, hz2⟩ := info_parts Tryz.infoRows
  have HS := Lib.hid hs
  clear hs
  go_enter Tryz.func35, Tryz.ntmps35
  go_wp2_with (at_make; refine wpList_make_full _ rfl _ _ 30 rfl w.heap.size 117 i0 _ 1 Tryz.underlying30 hi hz0 hz1 _ _ _ _ T.length rfl rfl rfl rfl ?c1 ?c2 ?c3 ?_)
  case c1 => rw [hz2]; omega
  case c2 => unfold maxLen; omega
  case c3 => simp
  intro w1 ho1 hg1
  have hx1 : Ext w w1 := ext_of_grown hg1
  have ho : w1.ownsRow w.heap.size 117 1 (.slice (some ⟨w.heap.size, 0, none⟩) T.length T.length) T.length (([] : List Value) ++ List.replicate (T.length - 0) (.slice none 0 0)) := by
    rw [toList_madeCells_one] at ho1
    simpa using ho1
  have hsz : w.heap.size < w1.heap.size := by
    rcases ho1.2 with ⟨h, _⟩ | ⟨g, cap, cur, h, hb, hg, _⟩
    · cases h
    · simp only [Value.slice.injEq, Option.some.injEq, Addr.mk.injEq, and_true, true_and] at h
      obtain ⟨rfl, _⟩ := h
      exact (Array.getElem?_eq_some_iff.1 hg).1
  clear ho1 hg1 hz0 hz1 hz2 hi
  have hlaid : Hid (Laid w1 T 0 [] (fun _ => w.heap.size + 1)) := Lib.hid ⟨fun j h => by omega, hsz, fun j h => by omega⟩
  go_wp2
  go_loopw [4] (fun i wr => ∃ (k : Nat) (vs : List Value) (cut : Nat → Nat), k ≤ T.length ∧ i = .int .i64 k ∧ wr.ownsRow w.heap.size 117 1 (.slice (some ⟨w.heap.size, 0, none⟩) T.length T.length) T.length (vs ++ List.replicate (T.length - k) (.slice none 0 0)) ∧ Hid (Laid wr T k vs cut) ∧ Hid (cut 0 = w.heap.size + 1) ∧ Hid (vs.length = k) ∧ Ext w wr) (fun i _ => T.length - (intOf i).toNat)
  case atStart => exact ⟨0, [], _, Nat.zero_le _, rfl, ho, hlaid, Lib.hid rfl, Lib.hid rfl, hx1⟩
  case round =>
    clear ho hx1 hsz hlaid
    obtain ⟨k, vs, cut, hk, rfl, ho, hL, hC, hV, hx⟩ := hrel
    by_cases hlt : k < T.length
    · obtain ⟨bu, ou, rfl, du⟩ := hcu (by omega)
      obtain ⟨y, hy, iy⟩ := du k hlt
      obtain ⟨d, hd⟩ : ∃ d, d = T[k] := ⟨_, rfl⟩
      have hrow : bulkR d ≤ 1099511627776 := by rw [hd]; have := bulkT_row hlt; have := HS.out; omega
      rw [← hd] at iy
      have gu := hx.cell hy
      have IY := Lib.hid (iy.ext hx)
      have HD := Lib.hid hd
      have HO := Lib.hid ho
      clear hcu du hy iy ho hd
      go_wp2_with fail
      refine (toRowS_any _ d _ IY.out hrow).mono ?_
      rintro e w2 ⟨z, rfl, f2, x2⟩
      clear gu
      have ho2 := x2.ownsRow HO.out
      have hlen2 : (vs ++ List.replicate (T.length - k) (Value.slice none 0 0)).length = T.length := by simp [hV.out]; omega
      have go := (ho2.cellAt k (by omega)).trans (show _ = some (Value.slice none 0 0) by
        rw [List.getElem?_append_right (by have := hV.out; omega)]
        rw [List.getElem?_replicate, if_pos (by have := hV.out; omega)])
      have gf := ho2.frozenAt k
      clear hlen2
      have HST := Lib.hid (ho2.stored k z)
      have F2 := Lib.hid f2
      obtain ⟨ax, cx, hz'⟩ := f2.form
      clear ho2 f2
      subst hz'
      go_wp2
      go_roundw
      case rel =>
        have hst := HST.out
        rw [set_next vs _ _ k T.length hV.out hlt] at hst
        have hn := hL.out.next hlt hV.out x2 F2.out HD.out hst.2 (by rw [hC.out]; omega)
        refine ⟨k + 1, _, _, by omega, by go_num, hst.1, Lib.hid hn, Lib.hid (by simp only [Nat.zero_le, if_true]; exact hC.out), Lib.hid (by simp [hV.out]), Below.setCell (hx.trans x2) (Nat.le_refl _) _⟩
      case measure => simp [intOf]; omega
    · obtain rfl : k = T.length := by omega
      have HO := Lib.hid ho
      clear ho
      go_wp2
      go_ret
      have h := HO.out
      rw [Nat.sub_self] at h
      obtain ⟨q1, q2, q3⟩ := hL.out
      refine ⟨_, rfl, ⟨vs, cut, by simpa using h, fun b e => ?_, q1, by rw [hC.out]; omega, q2, fun j hj hj' => q3 j hj hj hj'⟩, hx⟩
      rw [hC.out]
      have := Option.some.inj e
      simp at this; omega
set_option maxHeartbeats 1000000 in
theorem toTable_any (n : Int) (u : Value) (T : List (List RowD)) (w : World) (hv : Rowzz w u T) (hs : bulkT T ≤ 1099511627776) :
    Calls Tryz.prog 9 #[.agg #[.int .i64 n, u]] w (NewTable n T w) := by
  have HS := Lib.hid hs
  have HO := Lib.hid (open_three w (.cells #[.int .i64 n, u] 24) 32 32 0 n (.slice none 0 0) (.slice none 0 0))
  clear hs
  go_enter Tryz.func9, Tryz.ntmps9
  go_wp2_with fail
  refine (toRowSS_any _ _ _ (hv.ext (Ext.alloc3 _ _ _ _)) HS.out).mono ?_
  rintro e w1 ⟨v, rfl, f1, x1⟩
  obtain ⟨⟨c0, c1⟩, z0, z1⟩ := HO.out.1.ext x1
  obtain ⟨⟨d0, d1⟩, y0, y1⟩ := HO.out.2.ext x1
  have hx : Ext w w1 := (Ext.alloc3 _ _ _ _).trans x1
  rw [size3] at f1
  obtain ⟨av, cv, rfl⟩ := f1.form
  have F := Lib.hid f1
  clear f1 x1 hv
  go_wp2
  refine bodyPost_ret (v := .agg #[.int .i64 n, .slice av T.length cv]) (by simp [results, Tryz.results9, go_sem, c0, c1]) rfl ⟨_, rfl, ?_, ?_⟩
  · simp only [World.size_setCell]
    refine FreshT.more (F.out.kept ⟨by simp only [World.size_setCell]; exact Nat.le_refl _, fun b b1 b2 => ?_⟩) (by omega) (Nat.le_refl _)
    rw [Below.heap_setCell _ _ _ b (by dsimp only; omega), Below.heap_setCell _ _ _ b (by dsimp only; omega), Below.heap_setCell _ _ _ b (by dsimp only; omega)]
  · exact ((hx.setc (by dsimp only; omega)).setc (by dsimp only; omega)).setc (by dsimp only; omega)
end Go.Proofs.YtcpmfcigciknlaaGreat

namespace Go.Proofs.YtcpmfcigciknlaaGreat
open Go.RowKit
set_option linter.unusedVariables false
set_option maxHeartbeats 1000000 in
theorem eqCmd_same (k i f t a : Int) (w : World) :
    Calls Tryz.prog 73 #[.agg #[.int .i64 k, .int .i64 i, .int .i64 f, .int .i64 t, .int .i64 a], .agg #[.int .i64 k, .int .i64 i, .int .i64 f, .int .i64 t, .int .i64 a]] w (BoolExt true w) := by
  have e0 : (k != k) = false := by simp
  have e1 : (i != i) = false := by simp
  have e2 : (f != f) = false := by simp
  have e3 : (t != t) = false := by simp
  have e4 : (a != a) = false := by simp
  go_enter Tryz.func73, Tryz.ntmps73
  go_wp2
  go_ret
  exact ⟨rfl, ((Ext.refl w).alloc _).alloc _⟩
end Go.Proofs.YtcpmfcigciknlaaGreat

namespace Go.Proofs.YtcpmfcigciknlaaGreat
open Go.RowKit
set_option linter.unusedVariables false
theorem two_rows (w : World) (T T' : TypeId) (r d : RowD) (u v : Value) :
    RowAt ((w.alloc (.cells #[.int .i64 r.b, .int .i64 r.v, .int .i64 r.st, .int .i64 r.k, .int .i64 r.i, .int .i64 r.f, .int .i64 r.t, .int .i64 r.a, .int .i64 r.s, u] T)).alloc (.cells #[.int .i64 d.b, .int .i64 d.v, .int .i64 d.st, .int .i64 d.k, .int .i64 d.i, .int .i64 d.f, .int .i64 d.t, .int .i64 d.a, .int .i64 d.s, v] T')) w.heap.size r u ∧
    RowAt ((w.alloc (.cells #[.int .i64 r.b, .int .i64 r.v, .int .i64 r.st, .int .i64 r.k, .int .i64 r.i, .int .i64 r.f, .int .i64 r.t, .int .i64 r.a, .int .i64 r.s, u] T)).alloc (.cells #[.int .i64 d.b, .int .i64 d.v, .int .i64 d.st, .int .i64 d.k, .int .i64 d.i, .int .i64 d.f, .int .i64 d.t, .int .i64 d.a, .int .i64 d.s, v] T')) (w.heap.size + 1) d v := by
  refine ⟨⟨?_, ?_, ?_, ?_, ?_, ?_, ?_, ?_, ?_, ?_⟩, ⟨?_, ?_, ?_, ?_, ?_, ?_, ?_, ?_, ?_, ?_⟩⟩ <;> go_simp
set_option maxHeartbeats 2000000 in
theorem eqRow_same (r : RowD) (u v : Value) (w : World) (hu : Ints w u r.l) (hv : Ints w v r.l) :
    Calls Tryz.prog 120 #[.agg #[.int .i64 r.b, .int .i64 r.v, .int .i64 r.st, .int .i64 r.k, .int .i64 r.i, .int .i64 r.f, .int .i64 r.t, .int .i64 r.a, .int .i64 r.s, u], .agg #[.int .i64 r.b, .int .i64 r.v, .int .i64 r.st, .int .i64 r.k, .int .i64 r.i, .int .i64 r.f, .int .i64 r.t, .int .i64 r.a, .int .i64 r.s, v]] w (BoolExt true w) := by
  have h2 := two_rows w 83 83 r r u v
  obtain ⟨wb, hwb⟩ : ∃ wb, wb = (w.alloc (.cells #[.int .i64 r.b, .int .i64 r.v, .int .i64 r.st, .int .i64 r.k, .int .i64 r.i, .int .i64 r.f, .int .i64 r.t, .int .i64 r.a, .int .i64 r.s, u] 83)).alloc (.cells #[.int .i64 r.b, .int .i64 r.v, .int .i64 r.st, .int .i64 r.k, .int .i64 r.i, .int .i64 r.f, .int .i64 r.t, .int .i64 r.a, .int .i64 r.s, v] 83) := ⟨_, rfl⟩
  have xb : Ext w wb := by rw [hwb]; exact ((Ext.refl w).alloc _).alloc _
  rw [← hwb] at h2
  have HWB := Lib.hid hwb
  have H2 := Lib.hid h2
  have e0 : (r.b != r.b) = false := by simp
  have e1 : (r.v != r.v) = false := by simp
  have e2 : (r.st != r.st) = false := by simp
  clear hwb h2
  go_enter Tryz.func120, Tryz.ntmps120
  go_wp2_with fail
  rw [← HWB.out]
  refine (eqCmd_same _ _ _ _ _ _).mono ?_
  rintro e w1 ⟨rfl, x1⟩
  obtain ⟨p0, p1, p2, p3, p4, p5, p6, p7, p8, p9⟩ := H2.out.1.ext x1
  obtain ⟨q0, q1, q2, q3, q4, q5, q6, q7, q8, q9⟩ := H2.out.2.ext x1
  go_wp2_with fail
  refine (eqAttr_same _ _ _ r.l _ (hu.ext (xb.trans x1)) (hv.ext (xb.trans x1))).mono ?_
  rintro e w2 ⟨rfl, x2⟩
  have hx := (xb.trans x1).trans x2
  clear p0 p1 p2 p3 p4 p5 p6 p7 p8 p9 q0 q1 q2 q3 q4 q5 q6 q7 q8 q9 x1 x2 xb
  go_wp2
  go_ret
  exact ⟨rfl, hx⟩
theorem stepR {wb W W' : World} {b o b' o' : Nat} {r d : RowD} {u v : Value} (x : Ext W W') (h : Ext wb W ∧ RowIn W b o r u ∧ RowIn W b' o' d v) : Ext wb W' ∧ RowIn W' b o r u ∧ RowIn W' b' o' d v :=
  ⟨h.1.trans x, h.2.1.ext x, h.2.2.ext x⟩
set_option maxHeartbeats 2000000 in
theorem eqRowS_same (u v : Value) (R : List RowD) (w : World) (hu : Rowz w u R) (hv : Rowz w v R) :
    Calls Tryz.prog 74 #[u, v] w (BoolExt true w) := by
  obtain ⟨au, cu, rfl, hlu, _, hcu⟩ := hu
  obtain ⟨av, cv, rfl, hlv, _, hcv⟩ := hv
  unfold maxLen at hlu hlv
  have e0 : ((R.length : Int) != (R.length : Int)) = false := by simp
  go_enter Tryz.func74, Tryz.ntmps74
  go_wp2
  go_loopw [5] (fun i wr => ∃ k : Nat, k ≤ R.length ∧ i = .int .i64 k ∧ Ext w wr) (fun i _ => R.length - (intOf i).toNat)
  case atStart => exact ⟨0, Nat.zero_le _, rfl, Ext.refl _⟩
  case round =>
    obtain ⟨k, hk, rfl, hx⟩ := hrel
    by_cases hlt : k < R.length
    · obtain ⟨bu, ou, rfl, du⟩ := hcu (by omega)
      obtain ⟨bv, ov, rfl, dv⟩ := hcv (by omega)
      obtain ⟨x, hx1, ix⟩ := du k hlt
      obtain ⟨y, hy1, iy⟩ := dv k hlt
      obtain ⟨d, hd⟩ : ∃ d, d = R[k] := ⟨_, rfl⟩
      rw [← hd] at hx1 ix hy1 iy
      have gu := hx1.ext hx
      have gv := hy1.ext hx
      have IX := Lib.hid (ix.ext hx)
      have IY := Lib.hid (iy.ext hx)
      clear hcu hcv du dv hx1 hy1 ix iy hd
      have IXY : Hid (RowIn wr bu (ou + k * 10) d x ∧ RowIn wr bv (ov + k * 10) d y) := Lib.hid ⟨gu, gv⟩
      clear gu gv
      go_wp2_with fail
      go_region_held3 (fun W => Ext wr W ∧ (W.cell? ⟨bu, ou + k * 10, none⟩ = some (.int .i64 d.b) ∧ W.cell? ⟨bu, ou + k * 10 + 1, none⟩ = some (.int .i64 d.v) ∧ W.cell? ⟨bu, ou + k * 10 + 2, none⟩ = some (.int .i64 d.st) ∧ W.cell? ⟨bu, ou + k * 10 + 3, none⟩ = some (.int .i64 d.k) ∧ W.cell? ⟨bu, ou + k * 10 + 4, none⟩ = some (.int .i64 d.i) ∧ W.cell? ⟨bu, ou + k * 10 + 5, none⟩ = some (.int .i64 d.f) ∧ W.cell? ⟨bu, ou + k * 10 + 6, none⟩ = some (.int .i64 d.t) ∧ W.cell? ⟨bu, ou + k * 10 + 7, none⟩ = some (.int .i64 d.a) ∧ W.cell? ⟨bu, ou + k * 10 + 8, none⟩ = some (.int .i64 d.s) ∧ W.cell? ⟨bu, ou + k * 10 + 9, none⟩ = some x) ∧ (W.cell? ⟨bv, ov + k * 10, none⟩ = some (.int .i64 d.b) ∧ W.cell? ⟨bv, ov + k * 10 + 1, none⟩ = some (.int .i64 d.v) ∧ W.cell? ⟨bv, ov + k * 10 + 2, none⟩ = some (.int .i64 d.st) ∧ W.cell? ⟨bv, ov + k * 10 + 3, none⟩ = some (.int .i64 d.k) ∧ W.cell? ⟨bv, ov + k * 10 + 4, none⟩ = some (.int .i64 d.i) ∧ W.cell? ⟨bv, ov + k * 10 + 5, none⟩ = some (.int .i64 d.f) ∧ W.cell? ⟨bv, ov + k * 10 + 6, none⟩ = some (.int .i64 d.t) ∧ W.cell? ⟨bv, ov + k * 10 + 7, none⟩ = some (.int .i64 d.a) ∧ W.cell? ⟨bv, ov + k * 10 + 8, none⟩ = some (.int .i64 d.s) ∧ W.cell? ⟨bv, ov + k * 10 + 9, none⟩ = some y)) (first | (exact stepR (b := bu) (o := ou + k * 10) (b' := bv) (o' := ov + k * 10) (r := d) (d := d) (u := x) (v := y) (by assumption) (by assumption)) | (exact ⟨Ext.drew (Ext.refl _), IXY.out⟩)) (first | (go_at_call 120; refine (eqRow_same d _ _ _ (IX.out.ext (Ext.drew (Ext.refl _))) (IY.out.ext (Ext.drew (Ext.refl _)))).mono ?_; rintro e W ⟨rfl, x9⟩))
      rename_i hH
      have hx2 : Ext w W := hx.trans hH.1
      clear hH x9 hx
      go_wp2
      go_roundw
      case rel => exact ⟨k + 1, by omega, by go_num, hx2⟩
      case measure => simp [intOf]; omega
    · obtain rfl : k = R.length := by omega
      go_wp2
      go_ret
      exact ⟨rfl, hx⟩
end Go.Proofs.YtcpmfcigciknlaaGreat

namespace Go.Proofs.YtcpmfcigciknlaaGreat
open Go.RowKit
set_option linter.unusedVariables false
set_option maxHeartbeats 2000000 in
theorem eqRowSS_same (u v : Value) (T : List (List RowD)) (w : World) (hu : Rowzz w u T) (hv : Rowzz w v T) :
    Calls Tryz.prog 40 #[u, v] w (BoolExt true w) := by
  obtain ⟨au, cu, rfl, hlu, _, hcu⟩ := hu
  obtain ⟨av, cv, rfl, hlv, _, hcv⟩ := hv
  unfold maxLen at hlu hlv
  have e0 : ((T.length : Int) != (T.length : Int)) = false := by simp
  go_enter Tryz.func40, Tryz.ntmps40
  go_wp2
  go_loopw [5] (fun i wr => ∃ k : Nat, k ≤ T.length ∧ i = .int .i64 k ∧ Ext w wr) (fun i _ => T.length - (intOf i).toNat)
  case atStart => exact ⟨0, Nat.zero_le _, rfl, Ext.refl _⟩
  case round =>
    obtain ⟨k, hk, rfl, hx⟩ := hrel
    by_cases hlt : k < T.length
    · obtain ⟨bu, ou, rfl, du⟩ := hcu (by omega)
      obtain ⟨bv, ov, rfl, dv⟩ := hcv (by omega)
      obtain ⟨x, hx1, ix⟩ := du k hlt
      obtain ⟨y, hy1, iy⟩ := dv k hlt
      obtain ⟨d, hd⟩ : ∃ d, d = T[k] := ⟨_, rfl⟩
      rw [← hd] at ix iy
      have gu := hx.cell hx1
      have gv := hx.cell hy1
      have IX := Lib.hid (ix.ext hx)
      have IY := Lib.hid (iy.ext hx)
      clear hcu hcv du dv hx1 hy1 ix iy hd
      go_wp2_with fail
      go_region_held3 (fun W => Ext wr W ∧ W.cell? ⟨bu, ou + k, none⟩ = some x ∧ W.cell? ⟨bv, ov + k, none⟩ = some y) (first | (exact step2 (by assumption) (by assumption)) | (exact ⟨Ext.drew (Ext.refl _), gu, gv⟩)) (first | (go_at_call 74; refine (eqRowS_same _ _ d _ (IX.out.ext (Ext.drew (Ext.refl _))) (IY.out.ext (Ext.drew (Ext.refl _)))).mono ?_; rintro e W ⟨rfl, x9⟩))
      rename_i hH
      have hx2 : Ext w W := hx.trans hH.1
      clear hH x9 gu gv hx
      go_wp2
      go_roundw
      case rel => exact ⟨k + 1, by omega, by go_num, hx2⟩
      case measure => simp [intOf]; omega
    · obtain rfl : k = T.length := by omega
      go_wp2
      go_ret
      exact ⟨rfl, hx⟩
set_option maxHeartbeats 1000000 in
theorem eqTable_same (n : Int) (u v : Value) (T : List (List RowD)) (w : World) (hu : Rowzz w u T) (hv : Rowzz w v T) :
    Calls Tryz.prog 13 #[.agg #[.int .i64 n, u], .agg #[.int .i64 n, v]] w (BoolExt true w) := by
  have hx : Ext w ((w.alloc (.cells #[.int .i64 n, u] 32)).alloc (.cells #[.int .i64 n, v] 32)) := ((Ext.refl w).alloc _).alloc _
  have e0 : ((n : Int) != n) = false := by simp
  go_enter Tryz.func13, Tryz.ntmps13
  go_wp2_with fail
  refine (eqRowSS_same _ _ _ _ (hu.ext hx) (hv.ext hx)).mono ?_
  rintro e w1 ⟨rfl, x1⟩
  have hy := hx.trans x1
  clear hx x1
  go_wp2
  go_ret
  exact ⟨rfl, hy⟩
end Go.Proofs.YtcpmfcigciknlaaGreat

namespace Go.Proofs.YtcpmfcigciknlaaGreat
open Go.RowKit
set_option linter.unusedVariables false
theorem allx_take_succ {α : Type} {l : List α} {k : Nat} (h : k < l.length) (p : α → Bool) (ht : (l.take k).all p = true) (hp : p l[k] = true) : (l.take (k + 1)).all p = true := by
  rw [List.take_add_one, List.all_append, ht, List.getElem?_eq_getElem h]
  simpa using hp
theorem allx_false_at {α : Type} {l : List α} {k : Nat} (h : k < l.length) (p : α → Bool) (hp : p l[k] = false) : l.all p = false := by
  rw [List.all_eq_false]
  exact ⟨l[k], List.getElem_mem h, by rw [hp]; simp⟩
def goodList (n : Int) (R : List RowD) : Bool := decide (R.length ≤ 6) && R.all (goodRow n)
def goodTab (n : Int) (T : List (List RowD)) : Bool := (isGrp n && decide ((T.length : Int) = n)) && T.all (goodList n)
theorem goodTab_grp {n : Int} {T : List (List RowD)} (h : isGrp n = false) : goodTab n T = false := by unfold goodTab; rw [h]; rfl
theorem goodTab_len {n : Int} {T : List (List RowD)} (h : (T.length : Int) ≠ n) : goodTab n T = false := by unfold goodTab; rw [decide_eq_false h, Bool.and_false]; rfl
theorem goodTab_all {n : Int} {T : List (List RowD)} (h : isGrp n = true) (hl : (T.length : Int) = n) : goodTab n T = T.all (goodList n) := by unfold goodTab; rw [h, decide_eq_true hl]; rfl
theorem goodList_long {n : Int} {R : List RowD} (h : 6 < R.length) : goodList n R = false := by unfold goodList; rw [decide_eq_false (by omega)]; rfl
theorem goodList_all {n : Int} {R : List RowD} (h : R.length ≤ 6) : goodList n R = R.all (goodRow n) := by unfold goodList; rw [decide_eq_true h]; rfl
theorem goodList_row {n : Int} {R : List RowD} (h : R.all (goodRow n) = false) : goodList n R = false := by unfold goodList; rw [h, Bool.and_false]
set_option maxHeartbeats 4000000 in
theorem specGoodTable_any (n : Int) (u : Value) (T : List (List RowD)) (w : World) (hu : Rowzz w u T) :
    Calls Tryz.prog 33 #[.agg #[.int .i64 n, u]] w (BoolExt (goodTab n T) w) := by
  obtain ⟨au, cu, rfl, hlu, _, hcu⟩ := hu
  unfold maxLen at hlu
  cases hg : isGrp n with
  | false =>
    rw [goodTab_grp hg]
    have HG := Lib.hid hg
    clear hg hcu
    go_enter Tryz.func33, Tryz.ntmps33
    go_wp2_with fail
    refine (specIsGroup_any _ _).mono ?_
    rintro e w' ⟨rfl, rfl⟩
    rw [HG.out]
    go_wp2
    go_ret
    exact ⟨rfl, Ext.alloc1 _ _⟩
  | true =>
    have HG := Lib.hid hg
    by_cases hl : (T.length : Int) = n
    · rw [goodTab_all hg hl]
      have e0 : ((T.length : Int) != n) = false := by simp [hl]
      have HL := Lib.hid hl
      obtain ⟨wb, hwb⟩ : ∃ wb, wb = w.alloc (.cells #[.int .i64 n, .slice au T.length cu] 32) := ⟨_, rfl⟩
      have hb := attrAt_new w 32 n (.slice au T.length cu)
      rw [← hwb] at hb
      have xb : Ext w wb := by rw [hwb]; exact Ext.alloc1 _ _
      have HWB := Lib.hid hwb
      have HBB := Lib.hid hb
      clear hg hl hwb hb
      go_enter Tryz.func33, Tryz.ntmps33
      go_wp2_with fail
      refine (specIsGroup_any _ _).mono ?_
      rintro e w' ⟨rfl, rfl⟩
      rw [HG.out]
      go_wp2
      rw [← HWB.out]
      go_loopw [22] (fun i wr => ∃ k : Nat, k ≤ T.length ∧ i = .int .i64 k ∧ Hid ((T.take k).all (goodList n) = true) ∧ Ext wb wr) (fun i _ => T.length - (intOf i).toNat)
      case atStart => exact ⟨0, Nat.zero_le _, rfl, Lib.hid (by simp), Ext.refl _⟩
      case round =>
        obtain ⟨k, hk, rfl, HT, hx⟩ := hrel
        by_cases hlt : k < T.length
        · obtain ⟨bu, ou, rfl, du⟩ := hcu (by omega)
          obtain ⟨x, hx1, ix⟩ := du k hlt
          have gu := (xb.trans hx).cell hx1
          have ixr := ix.ext (xb.trans hx)
          obtain ⟨R, hR⟩ : ∃ R, R = T[k] := ⟨_, rfl⟩
          rw [← hR] at ixr
          obtain ⟨ax, cx, rfl, hlx, _, hcx⟩ := ixr
          unfold maxLen at hlx
          have HR := Lib.hid hR
          clear hcu du hx1 ix hR
          obtain ⟨wo, hwo⟩ : ∃ wo : World, wo = wr := ⟨_, rfl⟩
          subst hwo
          go_wp2
          go_loopw [28] (fun i wr => ∃ j : Nat, j ≤ R.length ∧ i = .int .i64 j ∧ Hid ((R.take j).all (goodRow n) = true) ∧ Ext wo wr) (fun i _ => R.length - (intOf i).toNat)
          case atStart => exact ⟨0, Nat.zero_le _, rfl, Lib.hid (by simp), Ext.refl _⟩
          case round =>
            obtain ⟨j, hj, rfl, HS, hy⟩ := hrel
            by_cases hjt : j < R.length
            · obtain ⟨bx, ox, rfl, dx⟩ := hcx (by omega)
              obtain ⟨y, hy1, iy⟩ := dx j hjt
              obtain ⟨d, hd⟩ : ∃ d, d = R[j] := ⟨_, rfl⟩
              rw [← hd] at hy1 iy
              have gy := hy1.ext hy
              have iy2 := iy.ext hy
              obtain ⟨ay, cy, rfl, _⟩ := id iy2
              have IY := Lib.hid iy2
              have HD := Lib.hid hd
              obtain ⟨wp, hwp⟩ : ∃ wp : World, wp = wr := ⟨_, rfl⟩
              subst hwp
              have gn := ((hx.trans hy).trans (Ext.alloc1 wp (.cells #[.int .i64 d.b, .int .i64 d.v, .int .i64 d.st, .int .i64 d.k, .int .i64 d.i, .int .i64 d.f, .int .i64 d.t, .int .i64 d.a, .int .i64 d.s, .slice ay d.l.length cy] 83))).cell HBB.out.1
              clear hcx dx hy1 iy iy2 hd
              obtain ⟨g0, g1, g2, g3, g4, g5, g6, g7, g8, g9⟩ := gy
              go_wp2_with fail
              cases hq : goodRow n d with
              | false =>
                have HQ := Lib.hid hq
                clear hq
                refine (l4Row_any n d _ _ (IY.out.ext (Ext.alloc1 _ _)) HG.out).mono ?_
                rintro e w3 ⟨rfl, x3⟩
                have hz := (xb.trans ((hx.trans hy).trans (Ext.alloc1 _ _))).trans x3
                clear x3 gn g0 g1 g2 g3 g4 g5 g6 g7 g8 g9
                rw [HQ.out]
                go_wp2
                go_ret
                refine ⟨?_, hz⟩
                have h1 : R.all (goodRow n) = false := allx_false_at hjt _ (by rw [← HD.out]; exact HQ.out)
                have h2 : T.all (goodList n) = false := allx_false_at hlt _ (by rw [← HR.out]; exact goodList_row h1)
                rw [h2]; rfl
              | true =>
                have HQ := Lib.hid hq
                clear hq
                refine (l4Row_any n d _ _ (IY.out.ext (Ext.alloc1 _ _)) HG.out).mono ?_
                rintro e w3 ⟨rfl, x3⟩
                have hz := (hy.trans (Ext.alloc1 _ _)).trans x3
                clear x3 gn g0 g1 g2 g3 g4 g5 g6 g7 g8 g9
                rw [HQ.out]
                go_wp2
                go_roundw
                case rel => exact ⟨j + 1, by omega, by go_num, Lib.hid (allx_take_succ hjt _ HS.out (by rw [← HD.out]; exact HQ.out)), hz⟩
                case measure => simp [intOf]; omega
            · obtain rfl : j = R.length := by omega
              have hfull : R.all (goodRow n) = true := by have h := HS.out; rwa [List.take_length] at h
              have HF := Lib.hid hfull
              clear hfull
              by_cases h6 : 6 < R.length
              · go_wp2
                go_ret
                refine ⟨?_, xb.trans (hx.trans hy)⟩
                have h2 : T.all (goodList n) = false := allx_false_at hlt _ (by rw [← HR.out]; exact goodList_long h6)
                rw [h2]; rfl
              · go_wp2
                go_roundw
                case rel => exact ⟨k + 1, by omega, by go_num, Lib.hid (allx_take_succ hlt _ HT.out (by rw [← HR.out, goodList_all (by omega)]; exact HF.out)), hx.trans hy⟩
                case measure => simp [intOf]; omega
        · obtain rfl : k = T.length := by omega
          go_wp2
          go_ret
          refine ⟨?_, xb.trans hx⟩
          have h2 : T.all (goodList n) = true := by have h := HT.out; rwa [List.take_length] at h
          rw [h2]; rfl
    · rw [goodTab_len hl]
      have e0 : ((T.length : Int) != n) = true := by simp [hl]
      clear hg hcu hl
      go_enter Tryz.func33, Tryz.ntmps33
      go_wp2_with fail
      refine (specIsGroup_any _ _).mono ?_
      rintro e w' ⟨rfl, rfl⟩
      rw [HG.out]
      go_wp2
      go_ret
      exact ⟨rfl, Ext.alloc1 _ _⟩
end Go.Proofs.YtcpmfcigciknlaaGreat
