/- Texts of this proof, part d: words, plain facts, contracts. -/
import Derived.Test.YtfffddhfagibpaaMPlayCmdsb
import Derived.Test.YtfffddhfagibpaaMPlayCmdsa
import Derived.Test.YtfffddhfagibpaaMPlayCmdsc

namespace Go.Proofs.Ytfffddhfagibpaa
open Go.RowKit
set_option linter.unusedVariables false

/-- Ten cells of the block b may be written. -/
def FreeAt (w : World) (b : Nat) : Prop :=
  w.frozen? ⟨b, 0, none⟩ = false ∧ w.frozen? ⟨b, 1, none⟩ = false ∧ w.frozen? ⟨b, 2, none⟩ = false ∧ w.frozen? ⟨b, 3, none⟩ = false ∧ w.frozen? ⟨b, 4, none⟩ = false ∧ w.frozen? ⟨b, 5, none⟩ = false ∧ w.frozen? ⟨b, 6, none⟩ = false ∧ w.frozen? ⟨b, 7, none⟩ = false ∧ w.frozen? ⟨b, 8, none⟩ = false ∧ w.frozen? ⟨b, 9, none⟩ = false
theorem FreeAt.ext {w w' : World} {b : Nat} (hl : b < w.heap.size) (h : FreeAt w b) (e : Ext w w') : FreeAt w' b := by
  obtain ⟨h0, h1, h2, h3, h4, h5, h6, h7, h8, h9⟩ := h
  exact ⟨e.frozen hl h0, e.frozen hl h1, e.frozen hl h2, e.frozen hl h3, e.frozen hl h4, e.frozen hl h5, e.frozen hl h6, e.frozen hl h7, e.frozen hl h8, e.frozen hl h9⟩
def zeroR : RowD := ⟨0, 0, 0, 0, 0, 0, 0, 0, 0, []⟩
/-- A row comes back whose list lies in new memory. -/
def NewRow (r : RowD) (w : World) (e : Ending) (w' : World) : Prop :=
  ∃ u, e = .returned (.agg #[.int .i64 r.b, .int .i64 r.v, .int .i64 r.st, .int .i64 r.k, .int .i64 r.i, .int .i64 r.f, .int .i64 r.t, .int .i64 r.a, .int .i64 r.s, u]) ∧ Fresh w.heap.size w' u r.l ∧ Ext w w'
/-- .. and a Bool. -/
def TwoRow (r : RowD) (b : Bool) (w : World) (e : Ending) (w' : World) : Prop :=
  ∃ u, e = .returned (.tuple #[.agg #[.int .i64 r.b, .int .i64 r.v, .int .i64 r.st, .int .i64 r.k, .int .i64 r.i, .int .i64 r.f, .int .i64 r.t, .int .i64 r.a, .int .i64 r.s, u], .bool b]) ∧ Fresh w.heap.size w' u r.l ∧ Ext w w'

theorem row_three (w : World) (T T' : TypeId) (a : Obj) (b v st k i f t c s b' v' st' k' i' f' t' c' s' : Int) (u u' : Value) :
    (RowAt (((w.alloc a).alloc (.cells #[.int .i64 b, .int .i64 v, .int .i64 st, .int .i64 k, .int .i64 i, .int .i64 f, .int .i64 t, .int .i64 c, .int .i64 s, u] T)).alloc (.cells #[.int .i64 b', .int .i64 v', .int .i64 st', .int .i64 k', .int .i64 i', .int .i64 f', .int .i64 t', .int .i64 c', .int .i64 s', u'] T')) (w.heap.size + 1) ⟨b, v, st, k, i, f, t, c, s, []⟩ u ∧
     FreeAt (((w.alloc a).alloc (.cells #[.int .i64 b, .int .i64 v, .int .i64 st, .int .i64 k, .int .i64 i, .int .i64 f, .int .i64 t, .int .i64 c, .int .i64 s, u] T)).alloc (.cells #[.int .i64 b', .int .i64 v', .int .i64 st', .int .i64 k', .int .i64 i', .int .i64 f', .int .i64 t', .int .i64 c', .int .i64 s', u'] T')) (w.heap.size + 1)) ∧
    (RowAt (((w.alloc a).alloc (.cells #[.int .i64 b, .int .i64 v, .int .i64 st, .int .i64 k, .int .i64 i, .int .i64 f, .int .i64 t, .int .i64 c, .int .i64 s, u] T)).alloc (.cells #[.int .i64 b', .int .i64 v', .int .i64 st', .int .i64 k', .int .i64 i', .int .i64 f', .int .i64 t', .int .i64 c', .int .i64 s', u'] T')) (w.heap.size + 1 + 1) ⟨b', v', st', k', i', f', t', c', s', []⟩ u' ∧
     FreeAt (((w.alloc a).alloc (.cells #[.int .i64 b, .int .i64 v, .int .i64 st, .int .i64 k, .int .i64 i, .int .i64 f, .int .i64 t, .int .i64 c, .int .i64 s, u] T)).alloc (.cells #[.int .i64 b', .int .i64 v', .int .i64 st', .int .i64 k', .int .i64 i', .int .i64 f', .int .i64 t', .int .i64 c', .int .i64 s', u'] T')) (w.heap.size + 1 + 1)) := by
  refine ⟨⟨⟨?_, ?_, ?_, ?_, ?_, ?_, ?_, ?_, ?_, ?_⟩, ⟨?_, ?_, ?_, ?_, ?_, ?_, ?_, ?_, ?_, ?_⟩⟩, ⟨⟨?_, ?_, ?_, ?_, ?_, ?_, ?_, ?_, ?_, ?_⟩, ⟨?_, ?_, ?_, ?_, ?_, ?_, ?_, ?_, ?_, ?_⟩⟩⟩ <;> go_simp

theorem row_set5 {w : World} {b : Nat} {d : RowD} {y : Value} (k i f t a : Int) (h : RowAt w b d y) :
    RowAt (((((w.setCell ⟨b, 3, none⟩ (.int .i64 k)).setCell ⟨b, 4, none⟩ (.int .i64 i)).setCell ⟨b, 5, none⟩ (.int .i64 f)).setCell ⟨b, 6, none⟩ (.int .i64 t)).setCell ⟨b, 7, none⟩ (.int .i64 a)) b ⟨d.b, d.v, d.st, k, i, f, t, a, d.s, d.l⟩ y := by
  obtain ⟨h0, h1, h2, h3, h4, h5, h6, h7, h8, h9⟩ := h
  refine ⟨?_, ?_, ?_, ?_, ?_, ?_, ?_, ?_, ?_, ?_⟩ <;> go_simp
theorem free_set {w : World} {b : Nat} (a : Addr) (v : Value) (h : FreeAt w b) : FreeAt (w.setCell a v) b := by
  obtain ⟨h0, h1, h2, h3, h4, h5, h6, h7, h8, h9⟩ := h
  refine ⟨?_, ?_, ?_, ?_, ?_, ?_, ?_, ?_, ?_, ?_⟩ <;> (rw [World.frozen?_setCell]; assumption)
theorem row_apart {w : World} {b : Nat} {d : RowD} {y : Value} (a : Addr) (v : Value) (hne : a.block ≠ b) (h : RowAt w b d y) : RowAt (w.setCell a v) b d y := by
  obtain ⟨h0, h1, h2, h3, h4, h5, h6, h7, h8, h9⟩ := h
  refine ⟨?_, ?_, ?_, ?_, ?_, ?_, ?_, ?_, ?_, ?_⟩ <;> (rw [World.cell?_setCell_other _ _ _ _ (fun e => hne (by rw [e]))]; assumption)

set_option maxHeartbeats 2000000 in
set_option maxRecDepth 100000 in
theorem toRow_any (r : RowD) (u : Value) (w : World) (hv : Ints w u r.l) (hs : r.l.length ≤ 35184372088831) :
    Calls Try.prog 39 #[.agg #[.int .i64 r.b, .int .i64 r.v, .int .i64 r.st, .int .i64 r.k, .int .i64 r.i, .int .i64 r.f, .int .i64 r.t, .int .i64 r.a, .int .i64 r.s, u]] w (NewRow r w) := by
  have HS := Lib.hid hs
  have hb := rowAt_new w 62 r u
  clear hs
  obtain ⟨wb, hwb⟩ : ∃ wb, wb = ((w.alloc (.cells #[.int .i64 r.b, .int .i64 r.v, .int .i64 r.st, .int .i64 r.k, .int .i64 r.i, .int .i64 r.f, .int .i64 r.t, .int .i64 r.a, .int .i64 r.s, u] 62)).alloc (.cells #[.int .i64 0, .int .i64 0, .int .i64 0, .int .i64 0, .int .i64 0, .int .i64 0, .int .i64 0, .int .i64 0, .int .i64 0, .slice none 0 0] 73)).alloc (.cells #[.int .i64 r.b, .int .i64 r.v, .int .i64 r.st, .int .i64 0, .int .i64 0, .int .i64 0, .int .i64 0, .int .i64 0, .int .i64 0, .slice none 0 0] 73) := ⟨_, rfl⟩
  have h3 := row_three w 73 73 (.cells #[.int .i64 r.b, .int .i64 r.v, .int .i64 r.st, .int .i64 r.k, .int .i64 r.i, .int .i64 r.f, .int .i64 r.t, .int .i64 r.a, .int .i64 r.s, u] 62) 0 0 0 0 0 0 0 0 0 r.b r.v r.st 0 0 0 0 0 0 (.slice none 0 0) (.slice none 0 0)
  have xb : Ext w wb := by rw [hwb]; exact Ext.alloc3 _ _ _ _
  have sb : wb.heap.size = w.heap.size + 3 := by rw [hwb]; exact size3 _ _ _ _
  have rb : RowAt wb w.heap.size r u := by rw [hwb]; exact hb.ext (((Ext.refl _).alloc _).alloc _)
  rw [← hwb] at h3
  have HWB := Lib.hid hwb
  have H3 := Lib.hid h3
  have SB := Lib.hid sb
  have RB := Lib.hid rb
  clear hwb h3 sb rb hb
  go_enter Try.func39, Try.ntmps39
  go_wp2_with fail
  rw [← HWB.out]
  refine (toCmd_any _ _ _ _ _ _).mono ?_
  rintro e w1 ⟨rfl, x1⟩
  have hsz : w.heap.size + 3 ≤ w1.heap.size := by have := x1.size; have := SB.out; omega
  obtain ⟨⟨⟨o0, o1, o2, o3, o4, o5, o6, o7, o8, o9⟩, ⟨z0, z1, z2, z3, z4, z5, z6, z7, z8, z9⟩⟩, ⟨⟨p0, p1, p2, p3, p4, p5, p6, p7, p8, p9⟩, ⟨y0, y1, y2, y3, y4, y5, y6, y7, y8, y9⟩⟩⟩ : (RowAt w1 (w.heap.size + 1) _ _ ∧ FreeAt w1 (w.heap.size + 1)) ∧ (RowAt w1 (w.heap.size + 1 + 1) _ _ ∧ FreeAt w1 (w.heap.size + 1 + 1)) :=
    ⟨⟨H3.out.1.1.ext x1, H3.out.1.2.ext (by have := SB.out; omega) x1⟩, ⟨H3.out.2.1.ext x1, H3.out.2.2.ext (by have := SB.out; omega) x1⟩⟩
  obtain ⟨q0, q1, q2, q3, q4, q5, q6, q7, q8, q9⟩ := RB.out.ext x1
  go_wp2_with fail
  have xc : Ext w (((((w1.setCell ⟨w.heap.size + 1 + 1, 3, none⟩ (.int .i64 r.k)).setCell ⟨w.heap.size + 1 + 1, 4, none⟩ (.int .i64 r.i)).setCell ⟨w.heap.size + 1 + 1, 5, none⟩ (.int .i64 r.f)).setCell ⟨w.heap.size + 1 + 1, 6, none⟩ (.int .i64 r.t)).setCell ⟨w.heap.size + 1 + 1, 7, none⟩ (.int .i64 r.a)) :=
    (((((xb.trans x1).setc (by dsimp only; omega)).setc (by dsimp only; omega)).setc (by dsimp only; omega)).setc (by dsimp only; omega)).setc (by dsimp only; omega)
  have rp := row_set5 r.k r.i r.f r.t r.a (show RowAt w1 (w.heap.size + 1 + 1) ⟨r.b, r.v, r.st, 0, 0, 0, 0, 0, 0, []⟩ _ from ⟨p0, p1, p2, p3, p4, p5, p6, p7, p8, p9⟩)
  have fp : FreeAt (((((w1.setCell ⟨w.heap.size + 1 + 1, 3, none⟩ (.int .i64 r.k)).setCell ⟨w.heap.size + 1 + 1, 4, none⟩ (.int .i64 r.i)).setCell ⟨w.heap.size + 1 + 1, 5, none⟩ (.int .i64 r.f)).setCell ⟨w.heap.size + 1 + 1, 6, none⟩ (.int .i64 r.t)).setCell ⟨w.heap.size + 1 + 1, 7, none⟩ (.int .i64 r.a)) (w.heap.size + 1 + 1) :=
    free_set _ _ (free_set _ _ (free_set _ _ (free_set _ _ (free_set _ _ ⟨y0, y1, y2, y3, y4, y5, y6, y7, y8, y9⟩))))
  have ro : RowAt (((((w1.setCell ⟨w.heap.size + 1 + 1, 3, none⟩ (.int .i64 r.k)).setCell ⟨w.heap.size + 1 + 1, 4, none⟩ (.int .i64 r.i)).setCell ⟨w.heap.size + 1 + 1, 5, none⟩ (.int .i64 r.f)).setCell ⟨w.heap.size + 1 + 1, 6, none⟩ (.int .i64 r.t)).setCell ⟨w.heap.size + 1 + 1, 7, none⟩ (.int .i64 r.a)) (w.heap.size + 1) zeroR (.slice none 0 0) :=
    row_apart _ _ (by simp) (row_apart _ _ (by simp) (row_apart _ _ (by simp) (row_apart _ _ (by simp) (row_apart _ _ (by simp) ⟨o0, o1, o2, o3, o4, o5, o6, o7, o8, o9⟩))))
  have fo : FreeAt (((((w1.setCell ⟨w.heap.size + 1 + 1, 3, none⟩ (.int .i64 r.k)).setCell ⟨w.heap.size + 1 + 1, 4, none⟩ (.int .i64 r.i)).setCell ⟨w.heap.size + 1 + 1, 5, none⟩ (.int .i64 r.f)).setCell ⟨w.heap.size + 1 + 1, 6, none⟩ (.int .i64 r.t)).setCell ⟨w.heap.size + 1 + 1, 7, none⟩ (.int .i64 r.a)) (w.heap.size + 1) :=
    free_set _ _ (free_set _ _ (free_set _ _ (free_set _ _ (free_set _ _ ⟨z0, z1, z2, z3, z4, z5, z6, z7, z8, z9⟩))))
  have hsz2 : w.heap.size + 3 ≤ (((((w1.setCell ⟨w.heap.size + 1 + 1, 3, none⟩ (.int .i64 r.k)).setCell ⟨w.heap.size + 1 + 1, 4, none⟩ (.int .i64 r.i)).setCell ⟨w.heap.size + 1 + 1, 5, none⟩ (.int .i64 r.f)).setCell ⟨w.heap.size + 1 + 1, 6, none⟩ (.int .i64 r.t)).setCell ⟨w.heap.size + 1 + 1, 7, none⟩ (.int .i64 r.a)).heap.size := by simp only [World.size_setCell]; exact hsz
  refine (toAttr_any _ _ r.l _ (hv.ext xc) HS.out).mono ?_
  clear p0 p1 p2 p3 p4 p5 p6 p7 p8 p9 o0 o1 o2 o3 o4 o5 o6 o7 o8 o9 q0 q1 q2 q3 q4 q5 q6 q7 q8 q9 z0 z1 z2 z3 z4 z5 z6 z7 z8 z9 y0 y1 y2 y3 y4 y5 y6 y7 y8 y9
  obtain ⟨wc, hwc⟩ : ∃ wc, wc = (((((w1.setCell ⟨w.heap.size + 1 + 1, 3, none⟩ (.int .i64 r.k)).setCell ⟨w.heap.size + 1 + 1, 4, none⟩ (.int .i64 r.i)).setCell ⟨w.heap.size + 1 + 1, 5, none⟩ (.int .i64 r.f)).setCell ⟨w.heap.size + 1 + 1, 6, none⟩ (.int .i64 r.t)).setCell ⟨w.heap.size + 1 + 1, 7, none⟩ (.int .i64 r.a)) := ⟨_, rfl⟩
  rw [← hwc] at xc rp fp ro fo hsz2 ⊢
  clear hwc
  rintro e w2 ⟨v, rfl, f2, x2⟩
  have hy : Ext w w2 := xc.trans x2
  obtain ⟨p0, p1, p2, p3, p4, p5, p6, p7, p8, p9⟩ := rp.ext x2
  obtain ⟨o0, o1, o2, o3, o4, o5, o6, o7, o8, o9⟩ := ro.ext x2
  obtain ⟨y0, y1, y2, y3, y4, y5, y6, y7, y8, y9⟩ := fp.ext (by omega) x2
  obtain ⟨z0, z1, z2, z3, z4, z5, z6, z7, z8, z9⟩ := fo.ext (by omega) x2
  obtain ⟨au, cu, rfl⟩ := f2.form
  have F := Lib.hid f2
  have HZ := Lib.hid hsz2
  clear f2 rp ro fp fo xc xb x1 x2 hsz2
  go_wp2
  refine bodyPost_ret (v := .agg #[.int .i64 r.b, .int .i64 r.v, .int .i64 r.st, .int .i64 r.k, .int .i64 r.i, .int .i64 r.f, .int .i64 r.t, .int .i64 r.a, .int .i64 r.s, .slice au r.l.length cu]) (by simp [results, Try.results39, go_sem, o0, o1, o2, o3, o4, o5, o6, o7, o8, o9]) rfl ⟨_, rfl, ?_, ?_⟩
  · exact ((((((((((((F.out.set _ _ _ (by have := HZ.out; omega)).set _ _ _ (by have := HZ.out; omega)).set _ _ _ (by have := HZ.out; omega)).set _ _ _ (by have := HZ.out; omega)).set _ _ _ (by have := HZ.out; omega)).set _ _ _ (by have := HZ.out; omega)).set _ _ _ (by have := HZ.out; omega)).set _ _ _ (by have := HZ.out; omega)).set _ _ _ (by have := HZ.out; omega)).set _ _ _ (by have := HZ.out; omega)).set _ _ _ (by have := HZ.out; omega)).set _ _ _ (by have := HZ.out; omega)).more (by have := HZ.out; omega)
  · exact (((((((((((hy.setc (by dsimp only; omega)).setc (by dsimp only; omega)).setc (by dsimp only; omega)).setc (by dsimp only; omega)).setc (by dsimp only; omega)).setc (by dsimp only; omega)).setc (by dsimp only; omega)).setc (by dsimp only; omega)).setc (by dsimp only; omega)).setc (by dsimp only; omega)).setc (by dsimp only; omega)).setc (by dsimp only; omega)

end Go.Proofs.Ytfffddhfagibpaa

namespace Go.Proofs.Ytfffddhfagibpaa
open Go.RowKit
set_option linter.unusedVariables false

/-- The list xs with the values of vs from place o on. -/
def putL (xs : List Value) : Nat → List Value → List Value
  | _, [] => xs
  | o, v :: r => putL (xs.set o v) (o + 1) r
theorem putL_len : ∀ (vs : List Value) (o : Nat) (xs : List Value), (putL xs o vs).length = xs.length
  | [], _, _ => rfl
  | v :: r, o, xs => by
    show (putL (xs.set o v) (o + 1) r).length = _
    rw [putL_len r]; simp
theorem putL_out : ∀ (vs : List Value) (o : Nat) (xs : List Value) (j : Nat), (j < o ∨ o + vs.length ≤ j) → (putL xs o vs)[j]? = xs[j]?
  | [], _, _, _, _ => rfl
  | v :: r, o, xs, j, h => by
    show (putL (xs.set o v) (o + 1) r)[j]? = _
    rw [putL_out r (o + 1) _ j (by simp at h; omega), List.getElem?_set, if_neg (by simp at h; omega)]
theorem putL_in : ∀ (vs : List Value) (o : Nat) (xs : List Value) (j : Nat), j < vs.length → o + vs.length ≤ xs.length → (putL xs o vs)[o + j]? = vs[j]?
  | v :: r, o, xs, 0, _, h => by
    show (putL (xs.set o v) (o + 1) r)[o + 0]? = _
    rw [List.length_cons] at h
    rw [putL_out r (o + 1) _ _ (by omega), Nat.add_zero, List.getElem?_set_self (by omega)]
    rfl
  | v :: r, o, xs, j + 1, hj, h => by
    show (putL (xs.set o v) (o + 1) r)[o + (j + 1)]? = _
    have := putL_in r (o + 1) (xs.set o v) j (by simpa using hj) (by simp at h ⊢; omega)
    rw [show o + (j + 1) = o + 1 + j by omega, this]
    simp

theorem ownsRow_stores {base e size g n cap : Nat} : ∀ (vs : List Value) (o : Nat) (w : World) (xs : List Value), w.ownsRow base e size (.slice (some ⟨g, 0, none⟩) n cap) n xs →
    (w.setCells g o vs).ownsRow base e size (.slice (some ⟨g, 0, none⟩) n cap) n (putL xs o vs) ∧ w.grownBy (w.setCells g o vs) (some g)
  | [], _, w, _, h => ⟨h, World.grownBy.refl _ _⟩
  | v :: r, o, w, xs, h => by
    have h1 := h.stored o v
    have h2 := ownsRow_stores r (o + 1) _ _ h1.1
    exact ⟨h2.1, h1.2.trans h2.2⟩

/-- From place o on the list xs has the ten cells of the row r. -/
def XRow (xs : List Value) (o : Nat) (r : RowD) (u : Value) : Prop :=
  xs[o]? = some (.int .i64 r.b) ∧ xs[o + 1]? = some (.int .i64 r.v) ∧ xs[o + 2]? = some (.int .i64 r.st) ∧ xs[o + 3]? = some (.int .i64 r.k) ∧ xs[o + 4]? = some (.int .i64 r.i) ∧ xs[o + 5]? = some (.int .i64 r.f) ∧ xs[o + 6]? = some (.int .i64 r.t) ∧ xs[o + 7]? = some (.int .i64 r.a) ∧ xs[o + 8]? = some (.int .i64 r.s) ∧ xs[o + 9]? = some u
def rowL (r : RowD) (u : Value) : List Value := [.int .i64 r.b, .int .i64 r.v, .int .i64 r.st, .int .i64 r.k, .int .i64 r.i, .int .i64 r.f, .int .i64 r.t, .int .i64 r.a, .int .i64 r.s, u]
theorem XRow.put_other {xs : List Value} {o p : Nat} {r d : RowD} {u z : Value} (h : XRow xs o r u) (hap : o + 10 ≤ p ∨ p + 10 ≤ o) : XRow (putL xs p (rowL d z)) o r u := by
  obtain ⟨h0, h1, h2, h3, h4, h5, h6, h7, h8, h9⟩ := h
  have hl : (rowL d z).length = 10 := rfl
  refine ⟨?_, ?_, ?_, ?_, ?_, ?_, ?_, ?_, ?_, ?_⟩ <;> (rw [putL_out _ _ _ _ (by rw [hl]; omega)]; assumption)
theorem XRow.put {xs : List Value} {o : Nat} {d : RowD} {z : Value} (h : o + 10 ≤ xs.length) : XRow (putL xs o (rowL d z)) o d z := by
  have hl : (rowL d z).length = 10 := rfl
  refine ⟨?_, ?_, ?_, ?_, ?_, ?_, ?_, ?_, ?_, ?_⟩
  · exact putL_in _ o xs 0 (by rw [hl]; omega) (by rw [hl]; exact h)
  · exact putL_in _ o xs 1 (by rw [hl]; omega) (by rw [hl]; exact h)
  · exact putL_in _ o xs 2 (by rw [hl]; omega) (by rw [hl]; exact h)
  · exact putL_in _ o xs 3 (by rw [hl]; omega) (by rw [hl]; exact h)
  · exact putL_in _ o xs 4 (by rw [hl]; omega) (by rw [hl]; exact h)
  · exact putL_in _ o xs 5 (by rw [hl]; omega) (by rw [hl]; exact h)
  · exact putL_in _ o xs 6 (by rw [hl]; omega) (by rw [hl]; exact h)
  · exact putL_in _ o xs 7 (by rw [hl]; omega) (by rw [hl]; exact h)
  · exact putL_in _ o xs 8 (by rw [hl]; omega) (by rw [hl]; exact h)
  · exact putL_in _ o xs 9 (by rw [hl]; omega) (by rw [hl]; exact h)
theorem XRow.rowIn {w : World} {B e g n cap j : Nat} {xs : List Value} {r : RowD} {u : Value} (h : w.ownsRow B e 10 (.slice (some ⟨g, 0, none⟩) n cap) n xs) (hj : j < n) (hx : XRow xs (j * 10) r u) : RowIn w g (j * 10) r u := by
  obtain ⟨h0, h1, h2, h3, h4, h5, h6, h7, h8, h9⟩ := hx
  refine ⟨?_, ?_, ?_, ?_, ?_, ?_, ?_, ?_, ?_, ?_⟩ <;> (rw [h.cellAt _ (by omega)]; assumption)

/-- The cells of a block of n rows: the first are R, with the lists us. -/
def Cells (xs : List Value) (us : List Value) (R : List RowD) : Prop := ∀ j (h : j < R.length) (h' : j < us.length), XRow xs (j * 10) R[j] us[j]
theorem Cells.nil (xs : List Value) : Cells xs [] [] := fun j h _ => by simp at h
theorem Cells.snoc {xs us : List Value} {R : List RowD} {d : RowD} {z : Value} (h : Cells xs us R) (hl : us.length = R.length) (hx : R.length * 10 + 10 ≤ xs.length) :
    Cells (putL xs (R.length * 10) (rowL d z)) (us ++ [z]) (R ++ [d]) := by
  intro j hj hj'
  by_cases hlt : j < R.length
  · rw [List.getElem_append_left hlt, List.getElem_append_left (by omega)]
    exact (h j hlt (by omega)).put_other (.inl (by omega))
  · have e : j = R.length := by simp at hj; omega
    subst e
    rw [List.getElem_append_right (Nat.le_refl _), List.getElem_append_right (by omega)]
    simp only [Nat.sub_self, hl, List.getElem_cons_zero]
    exact XRow.put hx

/-- v is a slice in new memory that reads as the rows R, their lists in new memory, each in a block of its own. -/
def FreshR (B : Nat) (w : World) (v : Value) (R : List RowD) : Prop :=
  ∃ xs us, w.ownsRow B 73 10 v R.length xs ∧ Cells xs us R ∧ Rows_ B w us (R.map fun r => r.l) ∧ ∀ (j : Nat) (u : Value), us[j]? = some u → u.ownBlock = none ∨ u.ownBlock ≠ v.ownBlock
theorem FreshR.ext {B : Nat} {w w' : World} {v : Value} {R : List RowD} (h : FreshR B w v R) (e : Ext w w') : FreshR B w' v R := by
  obtain ⟨xs, us, h1, h2, h3, h4⟩ := h
  exact ⟨xs, us, e.ownsRow h1, h2, h3.ext e, h4⟩
theorem FreshR.more {B B' : Nat} {w : World} {v : Value} {R : List RowD} (h : FreshR B w v R) (hb : B' ≤ B) : FreshR B' w v R := by
  obtain ⟨xs, us, h1, h2, h3, h4⟩ := h
  exact ⟨xs, us, ownsRow_more h1 hb, h2, h3.more hb, h4⟩
theorem FreshR.nil (B : Nat) (w : World) : FreshR B w (.slice none 0 0) [] := ⟨[], [], World.ownsRow_nil _ _ _ _, Cells.nil _, Rows_.nil _ _, fun _ _ h => by simp at h⟩
theorem FreshR.rows {B : Nat} {w : World} {v : Value} {R : List RowD} (h : FreshR B w v R) : Rowz w v R := by
  obtain ⟨xs, us, h1, h2, h3, h4⟩ := h
  have hlen : us.length = R.length := by have := h3.len; simpa using this
  rcases id h1.2 with ⟨rfl, hn⟩ | ⟨g, cap, cur, rfl, hb, hg, hnc, hcm, hcs, htake⟩
  · obtain rfl : R = [] := List.eq_nil_of_length_eq_zero hn
    exact Rowz.nil w
  · refine ⟨some ⟨g, 0, none⟩, cap, rfl, by omega, ⟨by omega, by omega, fun h => by cases h⟩, fun _ => ⟨g, 0, rfl, fun j hj => ?_⟩⟩
    refine ⟨us[j]'(by omega), ?_, ?_⟩
    · rw [Nat.zero_add]; exact (h2 j hj (by omega)).rowIn h1 hj
    · exact (h3.row j _ _ (List.getElem?_eq_getElem (by omega)) (by simp [List.getElem?_eq_getElem hj])).ints
theorem FreshR.form {B : Nat} {w : World} {v : Value} {R : List RowD} (h : FreshR B w v R) : ∃ ao cap, v = .slice ao R.length cap := by
  obtain ⟨ao, cap, hv, _⟩ := h.rows
  exact ⟨ao, cap, hv⟩

def NewRows (R : List RowD) (w : World) (e : Ending) (w' : World) : Prop := ∃ v, e = .returned v ∧ FreshR w.heap.size w' v R ∧ Ext w w'
theorem Try.infoRow : (Try.prog.info? 73).map (fun i => (i.zero, i.size, i.bytes)) = some (some (.agg #[.int .i64 0, .int .i64 0, .int .i64 0, .int .i64 0, .int .i64 0, .int .i64 0, .int .i64 0, .int .i64 0, .int .i64 0, .slice none 0 0]), 10, 96) := by kernel_rfl

theorem made_row (n j : Nat) (h : j < n) : XRow (madeCells #[.int .i64 0, .int .i64 0, .int .i64 0, .int .i64 0, .int .i64 0, .int .i64 0, .int .i64 0, .int .i64 0, .int .i64 0, .slice none 0 0] (n * 10)).toList (j * 10) zeroR (.slice none 0 0) := by
  have e : ∀ c, c < 10 → (madeCells #[.int .i64 0, .int .i64 0, .int .i64 0, .int .i64 0, .int .i64 0, .int .i64 0, .int .i64 0, .int .i64 0, .int .i64 0, .slice none 0 0] (n * 10)).toList[j * 10 + c]? = some ((#[Value.int .i64 0, .int .i64 0, .int .i64 0, .int .i64 0, .int .i64 0, .int .i64 0, .int .i64 0, .int .i64 0, .int .i64 0, .slice none 0 0] : Array Value)[c]!) := by
    intro c hc
    have h1 : j * 10 + c < n * 10 := by omega
    have h2 : (j * 10 + c) % 10 = c := by omega
    simp [madeCells, h1, h2]
  exact ⟨e 0 (by omega), e 1 (by omega), e 2 (by omega), e 3 (by omega), e 4 (by omega), e 5 (by omega), e 6 (by omega), e 7 (by omega), e 8 (by omega), e 9 (by omega)⟩

end Go.Proofs.Ytfffddhfagibpaa

namespace Go.Proofs.Ytfffddhfagibpaa
open Go.RowKit
set_option linter.unusedVariables false

theorem setCells_row (w : World) (g o : Nat) (r : RowD) (u : Value) :
    w.setCells g o (rowL r u) = ((((((((((w.setCell ⟨g, o, none⟩ (.int .i64 r.b)).setCell ⟨g, o + 1, none⟩ (.int .i64 r.v)).setCell ⟨g, o + 2, none⟩ (.int .i64 r.st)).setCell ⟨g, o + 3, none⟩ (.int .i64 r.k)).setCell ⟨g, o + 4, none⟩ (.int .i64 r.i)).setCell ⟨g, o + 5, none⟩ (.int .i64 r.f)).setCell ⟨g, o + 6, none⟩ (.int .i64 r.t)).setCell ⟨g, o + 7, none⟩ (.int .i64 r.a)).setCell ⟨g, o + 8, none⟩ (.int .i64 r.s)).setCell ⟨g, o + 9, none⟩ u) := rfl

set_option maxHeartbeats 2000000 in
set_option maxRecDepth 100000 in
theorem toRowS_any (u : Value) (R : List RowD) (w : World) (hu : Rowz w u R) (hs : bulkR R ≤ 1099511627776) :
    Calls Try.prog 93 #[u] w (NewRows R w) := by
  obtain ⟨au, cu, rfl, hlu, _, hcu⟩ := hu
  unfold maxLen at hlu
  have hL : R.length ≤ 1099511627776 := by unfold bulkR at hs; omega
  obtain ⟨i0, hi, hz0, hz1, hz2⟩ := info_parts Try.infoRow
  have HS := Lib.hid hs
  clear hs
  go_enter Try.func93, Try.ntmps93
  go_wp2_with (at_make; refine wpList_make_full _ rfl _ _ 127 rfl w.heap.size 73 i0 _ 10 Try.underlying127 hi hz0 hz1 _ _ _ _ R.length rfl rfl rfl rfl ?c1 ?c2 ?c3 ?_)
  case c1 => rw [hz2]; omega
  case c2 => unfold maxLen; omega
  case c3 => simp
  intro w1 ho1 hg1
  have hx1 : Ext w w1 := ext_of_grown hg1
  have hz : ∀ j, 0 ≤ j → j < R.length → XRow (madeCells #[.int .i64 0, .int .i64 0, .int .i64 0, .int .i64 0, .int .i64 0, .int .i64 0, .int .i64 0, .int .i64 0, .int .i64 0, .slice none 0 0] (R.length * 10)).toList (j * 10) zeroR (.slice none 0 0) := fun j _ hj => made_row _ j hj
  have hsz : w.heap.size < w1.heap.size := by
    rcases ho1.2 with ⟨h, _⟩ | ⟨g, cap, cur, h, hb, hg, _⟩
    · cases h
    · simp only [Value.slice.injEq, Option.some.injEq, Addr.mk.injEq, and_true, true_and] at h
      obtain ⟨rfl, _⟩ := h
      exact (Array.getElem?_eq_some_iff.1 hg).1
  obtain ⟨xs0, hxs⟩ : ∃ xs, xs = (madeCells #[.int .i64 0, .int .i64 0, .int .i64 0, .int .i64 0, .int .i64 0, .int .i64 0, .int .i64 0, .int .i64 0, .int .i64 0, .slice none 0 0] (R.length * 10)).toList := ⟨_, rfl⟩
  rw [← hxs] at ho1 hz
  clear hg1 hz0 hz1 hz2 hi hxs
  have HZ := Lib.hid hz
  clear hz
  go_wp2
  go_loopw [4] (fun i wr => ∃ (k : Nat) (xs us : List Value), k ≤ R.length ∧ i = .int .i64 k ∧ wr.ownsRow w.heap.size 73 10 (.slice (some ⟨w.heap.size, 0, none⟩) R.length R.length) R.length xs ∧ Hid (Cells xs us (R.take k)) ∧ Hid (∀ j, k ≤ j → j < R.length → XRow xs (j * 10) zeroR (.slice none 0 0)) ∧ Rows_ (w.heap.size + 1) wr us ((R.take k).map fun r => r.l) ∧ w.heap.size < wr.heap.size ∧ Ext w wr) (fun i _ => R.length - (intOf i).toNat)
  case atStart => exact ⟨0, xs0, [], Nat.zero_le _, rfl, ho1, Lib.hid (by simpa using Cells.nil _), HZ, by simpa using Rows_.nil _ _, hsz, hx1⟩
  case round =>
    clear ho1 hx1 hsz HZ
    obtain ⟨k, xs, us, hk, rfl, ho, hC, hZ, hR, hsz, hx⟩ := hrel
    have hul : us.length = k := by rw [hR.len]; simp; omega
    by_cases hlt : k < R.length
    · obtain ⟨bu, ou, rfl, du⟩ := hcu (by omega)
      obtain ⟨y, hy, iy⟩ := du k hlt
      obtain ⟨d, hd⟩ : ∃ d, d = R[k] := ⟨_, rfl⟩
      have hrow : d.l.length ≤ 35184372088831 := by rw [hd]; have := bulkR_row hlt; have := HS.out; omega
      rw [← hd] at hy iy
      obtain ⟨c0, c1, c2, c3, c4, c5, c6, c7, c8, c9⟩ := hy.ext hx
      have IY := Lib.hid (iy.ext hx)
      have HD := Lib.hid hd
      have HO := Lib.hid ho
      have HR := Lib.hid hR
      have HV := Lib.hid hul
      clear hcu du hy iy ho hR hul hd
      go_wp2_with fail
      refine (toRow_any d y _ IY.out hrow).mono ?_
      rintro e w2 ⟨z, rfl, f2, x2⟩
      clear c0 c1 c2 c3 c4 c5 c6 c7 c8 c9
      have ho2 := x2.ownsRow HO.out
      obtain ⟨g0, g1, g2, g3, g4, g5, g6, g7, g8, g9⟩ := XRow.rowIn ho2 hlt (hZ.out k (Nat.le_refl _) hlt)
      have gf : ∀ q, w2.frozen? ⟨w.heap.size, q, none⟩ = false := fun q => ho2.frozenAt q
      have HST := Lib.hid (ownsRow_stores (rowL d z) (k * 10) _ _ ho2)
      have F2 := Lib.hid f2
      obtain ⟨ax, cx, hz'⟩ := f2.form
      have HXL := Lib.hid (show xs.length = R.length * 10 from ho2.1)
      clear ho2 f2
      subst hz'
      go_wp2
      go_roundw
      case rel =>
        have hst := HST.out
        rw [setCells_row] at hst
        have hsn := HR.out.snoc x2 F2.out (by omega)
        have htk : R.take k ++ [d] = R.take (k + 1) := by rw [HD.out, List.take_add_one, List.getElem?_eq_getElem hlt]; rfl
        have htm : ((R.take k).map fun r => r.l) ++ [d.l] = (R.take (k + 1)).map fun r => r.l := by rw [← htk]; simp
        rw [htm] at hsn
        have hlk : (R.take k).length = k := by simp; omega
        have hcs := hC.out.snoc (d := d) (z := .slice ax d.l.length cx) (by rw [HV.out, hlk]) (by rw [hlk, HXL.out]; omega)
        rw [hlk, htk] at hcs
        refine ⟨k + 1, _, _, by omega, by go_num, hst.1, Lib.hid hcs, Lib.hid fun j hj hj' => (hZ.out j (by omega) hj').put_other (.inr (by omega)), hsn.touch hst.2 (hsn.low (by omega)), ?_, ?_⟩
        · have := x2.size
          simp only [World.size_setCell]; omega
        · exact ((((((((((hx.trans x2).setc (Nat.le_refl _)).setc (Nat.le_refl _)).setc (Nat.le_refl _)).setc (Nat.le_refl _)).setc (Nat.le_refl _)).setc (Nat.le_refl _)).setc (Nat.le_refl _)).setc (Nat.le_refl _)).setc (Nat.le_refl _)).setc (Nat.le_refl _)
      case measure => simp [intOf]; omega
    · obtain rfl : k = R.length := by omega
      have HO := Lib.hid ho
      have HR := Lib.hid hR
      clear ho hR
      go_wp2
      go_ret
      have hC' := hC.out
      have hR' := HR.out
      rw [List.take_length] at hC' hR'
      exact ⟨_, rfl, ⟨xs, us, HO.out, hC', hR'.more (by omega), hR'.low (g := w.heap.size) (by omega)⟩, hx⟩

end Go.Proofs.Ytfffddhfagibpaa

namespace Go.Proofs.Ytfffddhfagibpaa
open Go.RowKit
set_option linter.unusedVariables false


/-- As FreshR, all blocks from lo on, below hi. -/
def FreshI (lo hi : Nat) (w : World) (v : Value) (R : List RowD) : Prop :=
  ∃ xs us, w.ownsRow lo 73 10 v R.length xs ∧ Cells xs us R ∧ Rows_ lo w us (R.map fun r => r.l) ∧ (∀ (j : Nat) (u : Value), us[j]? = some u → u.ownBlock = none ∨ u.ownBlock ≠ v.ownBlock) ∧ Und hi v ∧ ∀ (j : Nat) (u : Value), us[j]? = some u → Und hi u
theorem FreshI.fresh {lo hi : Nat} {w : World} {v : Value} {R : List RowD} (h : FreshI lo hi w v R) : FreshR lo w v R := by
  obtain ⟨xs, us, h1, h2, h3, h4, _⟩ := h
  exact ⟨xs, us, h1, h2, h3, h4⟩
theorem FreshR.within {lo hi : Nat} {w : World} {v : Value} {R : List RowD} (h : FreshR lo w v R) (hb : w.heap.size ≤ hi) : FreshI lo hi w v R := by
  obtain ⟨xs, us, h1, h2, h3, h4⟩ := h
  refine ⟨xs, us, h1, h2, h3, h4, fun b e => Nat.lt_of_lt_of_le (World.ownsRow.lt h1 b e).2 hb, fun j u hu => ?_⟩
  have hj : j < us.length := (List.getElem?_eq_some_iff.1 hu).1
  have hr := h3.row j u _ hu (List.getElem?_eq_getElem (by rw [← h3.len]; exact hj))
  exact hr.und.more hb
theorem FreshI.kept {lo hi : Nat} {w w' : World} {v : Value} {R : List RowD} (h : FreshI lo hi w v R) (k : Stood lo hi w w') : FreshI lo hi w' v R := by
  obtain ⟨xs, us, h1, h2, h3, h4, h5, h6⟩ := h
  refine ⟨xs, us, k.row h1 (fun b e => ⟨(World.ownsRow.lt h1 b e).1, h5 b e⟩), h2, ⟨h3.len, fun j u l hu hl => ?_, h3.apart⟩, h4, h5, h6⟩
  have hr := h3.row j u l hu hl
  exact k.row hr (fun b e => ⟨(World.ownsRow.lt hr b e).1, h6 j u hu b e⟩)

/-- v is a slice in new memory, from lo on and below hi, that reads as the lists of rows T, each in blocks of its own. -/
def FreshT (lo hi : Nat) (w : World) (v : Value) (T : List (List RowD)) : Prop :=
  ∃ (vs : List Value) (cut : Nat → Nat), w.ownsRow lo 127 1 v T.length vs ∧ Und (cut 0) v ∧ (∀ j, j < T.length → cut j ≤ cut (j + 1)) ∧ lo ≤ cut 0 ∧ cut T.length ≤ hi ∧
    ∀ j (h : j < T.length) (h' : j < vs.length), FreshI (cut j) (cut (j + 1)) w vs[j] T[j]
theorem FreshT.form {lo hi : Nat} {w : World} {v : Value} {T : List (List RowD)} (h : FreshT lo hi w v T) : ∃ ao cap, v = .slice ao T.length cap := by
  obtain ⟨vs, cut, h1, _⟩ := h
  rcases h1.2 with ⟨rfl, hn⟩ | ⟨g, cap, cur, rfl, _⟩
  · exact ⟨none, 0, by rw [hn]⟩
  · exact ⟨_, _, rfl⟩
theorem cut_mono {cut : Nat → Nat} {n : Nat} (h : ∀ j, j < n → cut j ≤ cut (j + 1)) : ∀ i j, i ≤ j → j ≤ n → cut i ≤ cut j := by
  intro i j hij hj
  induction hd : j - i generalizing i with
  | zero => obtain rfl : i = j := by omega
            exact Nat.le_refl _
  | succ d ih =>
    exact Nat.le_trans (h i (by omega)) (ih (i + 1) (by omega) (by omega))
theorem FreshT.kept {lo hi : Nat} {w w' : World} {v : Value} {T : List (List RowD)} (h : FreshT lo hi w v T) (k : Stood lo hi w w') : FreshT lo hi w' v T := by
  obtain ⟨vs, cut, h1, h2, h3, h4, h5, h6⟩ := h
  have hm := cut_mono h3
  refine ⟨vs, cut, k.row h1 (fun b e => ⟨(World.ownsRow.lt h1 b e).1, ?_⟩), h2, h3, h4, h5, fun j hj hj' => (h6 j hj hj').kept ⟨k.1, fun b b1 b2 => k.2 b ?_ ?_⟩⟩
  · have := h2 b e; have := hm 0 T.length (by omega) (Nat.le_refl _); omega
  · have := hm 0 j (by omega) (by omega); omega
  · have := hm (j + 1) T.length (by omega) (Nat.le_refl _); omega
theorem FreshT.more {lo lo' hi hi' : Nat} {w : World} {v : Value} {T : List (List RowD)} (h : FreshT lo hi w v T) (k : lo' ≤ lo) (k' : hi ≤ hi') : FreshT lo' hi' w v T := by
  obtain ⟨vs, cut, h1, h2, h3, h4, h5, h6⟩ := h
  exact ⟨vs, cut, ownsRow_more h1 k, h2, h3, by omega, by omega, h6⟩
theorem FreshT.rows {lo hi : Nat} {w : World} {v : Value} {T : List (List RowD)} (h : FreshT lo hi w v T) : Rowzz w v T := by
  obtain ⟨vs, cut, h1, h2, h3, h4, h5, h6⟩ := h
  have hlen := h1.1
  rcases id h1.2 with ⟨rfl, hn⟩ | ⟨g, cap, cur, rfl, hb, hg, hnc, hcm, hcs, htake⟩
  · obtain rfl : T = [] := List.eq_nil_of_length_eq_zero hn
    exact Rowzz.nil w
  · refine ⟨some ⟨g, 0, none⟩, cap, rfl, by omega, ⟨by omega, by omega, fun h => by cases h⟩, fun _ => ⟨g, 0, rfl, fun j hj => ?_⟩⟩
    have hc := World.ownsRow.cellAt h1 j (by omega)
    have hu : vs[j]? = some (vs[j]'(by omega)) := List.getElem?_eq_getElem (by omega)
    exact ⟨vs[j]'(by omega), by rw [Nat.zero_add, hc, hu], (h6 j hj (by omega)).fresh.rows⟩

def NewTab (T : List (List RowD)) (w : World) (e : Ending) (w' : World) : Prop := ∃ v, e = .returned v ∧ FreshT w.heap.size w'.heap.size w' v T ∧ Ext w w'
def NewTable (n : Int) (T : List (List RowD)) (w : World) (e : Ending) (w' : World) : Prop := ∃ v, e = .returned (.agg #[.int .i64 n, v]) ∧ FreshT w.heap.size w'.heap.size w' v T ∧ Ext w w'
theorem Try.infoRows : (Try.prog.info? 127).map (fun i => (i.zero, i.size, i.bytes)) = some (some (.slice none 0 0), 1, 24) := by kernel_rfl
theorem set_next (vs : List Value) (z n : Value) (k m : Nat) (hk : vs.length = k) (hm : k < m) : (vs ++ List.replicate (m - k) n).set k z = (vs ++ [z]) ++ List.replicate (m - (k + 1)) n := by
  rw [List.set_append_right _ _ (by omega), hk, Nat.sub_self]
  have e : m - k = (m - (k + 1)) + 1 := by omega
  rw [e, List.replicate_succ, List.set_cons_zero]
  simp

/-- The first k lists lie in ranges of their own. -/
def Laid (w : World) (T : List (List RowD)) (k : Nat) (vs : List Value) (cut : Nat → Nat) : Prop :=
  (∀ j, j < k → cut j ≤ cut (j + 1)) ∧ cut k ≤ w.heap.size ∧ ∀ j (h : j < k) (h1 : j < T.length) (h' : j < vs.length), FreshI (cut j) (cut (j + 1)) w vs[j] T[j]
theorem Laid.next {w w1 w2 : World} {T : List (List RowD)} {k g : Nat} {vs : List Value} {cut : Nat → Nat} {z : Value} {d : List RowD} (h : Laid w T k vs cut) (hk : k < T.length) (hv : vs.length = k) (x : Ext w w1) (f : FreshR w.heap.size w1 z d) (hd : d = T[k])
    (t : w1.grownBy w2 (some g)) (hg : g < cut 0) : Laid w2 T (k + 1) (vs ++ [z]) (fun j => if j ≤ k then cut j else w1.heap.size) := by
  subst hd
  obtain ⟨h1, h2, h3⟩ := h
  have hm := cut_mono h1
  have hx := x.size
  have st : ∀ a b, cut 0 ≤ a → b ≤ w1.heap.size → Stood a b w1 w2 := fun a b ha hb => ⟨t.size, fun q q1 q2 => t.block q (by omega) (fun e => by have := Option.some.inj e; omega)⟩
  refine ⟨fun j hj => ?_, ?_, fun j hj hj1 hj' => ?_⟩
  · by_cases e : j = k
    · subst e
      simp only [Nat.le_refl, if_true, show ¬ (j + 1 ≤ j) by omega, if_false]
      omega
    · have hjk : j < k := by omega
      have hjk' : j + 1 ≤ k := by omega
      have hjk2 : j ≤ k := by omega
      simp only [hjk', hjk2, if_true]
      exact h1 j hjk
  · have := t.size
    simp only [show ¬ (k + 1 ≤ k) by omega, if_false]
    omega
  · by_cases e : j = k
    · subst e
      have c0 := hm 0 j (by omega) (Nat.le_refl _)
      have hzz : (vs ++ [z])[j] = z := by rw [List.getElem_append_right (by omega)]; simp [hv]
      rw [hzz]
      have n1 : ¬ (j + 1 ≤ j) := by omega
      simp only [Nat.le_refl, if_true, n1, if_false]
      refine FreshI.kept (w := w1) ?_ (st _ _ (by omega) (Nat.le_refl _))
      obtain ⟨xs, us, q1, q2, q3, q4⟩ := f
      exact FreshR.within ⟨xs, us, ownsRow_more q1 h2, q2, q3.more h2, q4⟩ (Nat.le_refl _)
    · have hjk : j < k := by omega
      have hjk' : j + 1 ≤ k := by omega
      have hjk2 : j ≤ k := by omega
      simp only [hjk', hjk2, if_true]
      rw [List.getElem_append_left (by omega)]
      have c0 := hm 0 j (by omega) (by omega)
      have c1 := hm (j + 1) k (by omega) (Nat.le_refl _)
      exact ((h3 j hjk hj1 (by omega)).kept (Stood.of_ext x (by omega))).kept (st _ _ (by omega) (by omega))

set_option maxHeartbeats 2000000 in
theorem toRowSS_any (u : Value) (T : List (List RowD)) (w : World) (hu : Rowzz w u T) (hs : bulkT T ≤ 1099511627776) :
    Calls Try.prog 68 #[u] w (NewTab T w) := by
  obtain ⟨au, cu, rfl, hlu, _, hcu⟩ := hu
  unfold maxLen at hlu
  have hL : T.length ≤ 1099511627776 := by unfold bulkT at hs; omega
  obtain ⟨i0, hi, hz0, hz1, hz2⟩ := info_parts Try.infoRows
  have HS := Lib.hid hs
  clear hs
  go_enter Try.func68, Try.ntmps68
  go_wp2_with (at_make; refine wpList_make_full _ rfl _ _ 65 rfl w.heap.size 127 i0 _ 1 Try.underlying65 hi hz0 hz1 _ _ _ _ T.length rfl rfl rfl rfl ?c1 ?c2 ?c3 ?_)
  case c1 => rw [hz2]; omega
  case c2 => unfold maxLen; omega
  case c3 => simp
  intro w1 ho1 hg1
  have hx1 : Ext w w1 := ext_of_grown hg1
  have ho : w1.ownsRow w.heap.size 127 1 (.slice (some ⟨w.heap.size, 0, none⟩) T.length T.length) T.length (([] : List Value) ++ List.replicate (T.length - 0) (.slice none 0 0)) := by
    rw [toList_madeCells_one] at ho1
    simpa using ho1
  have hsz : w.heap.size < w1.heap.size := by
    rcases ho1.2 with ⟨h, _⟩ | ⟨g, cap, cur, h, hb, hg, _⟩
    · cases h
    · simp only [Value.slice.injEq, Option.some.injEq, Addr.mk.injEq, and_true, true_and] at h
      obtain ⟨rfl, _⟩ := h
      exact (Array.getElem?_eq_some_iff.1 hg).1
  clear ho1 hg1 hz0 hz1 hz2 hi
  have hlaid : Hid (Laid w1 T 0 [] (fun _ => w.heap.size + 1)) := Lib.hid ⟨fun j h => by omega, hsz, fun j h => by omega⟩
  go_wp2
  go_loopw [4] (fun i wr => ∃ (k : Nat) (vs : List Value) (cut : Nat → Nat), k ≤ T.length ∧ i = .int .i64 k ∧ wr.ownsRow w.heap.size 127 1 (.slice (some ⟨w.heap.size, 0, none⟩) T.length T.length) T.length (vs ++ List.replicate (T.length - k) (.slice none 0 0)) ∧ Hid (Laid wr T k vs cut) ∧ Hid (cut 0 = w.heap.size + 1) ∧ Hid (vs.length = k) ∧ Ext w wr) (fun i _ => T.length - (intOf i).toNat)
  case atStart => exact ⟨0, [], _, Nat.zero_le _, rfl, ho, hlaid, Lib.hid rfl, Lib.hid rfl, hx1⟩
  case round =>
    clear ho hx1 hsz hlaid
    obtain ⟨k, vs, cut, hk, rfl, ho, hL, hC, hV, hx⟩ := hrel
    by_cases hlt : k < T.length
    · obtain ⟨bu, ou, rfl, du⟩ := hcu (by omega)
      obtain ⟨y, hy, iy⟩ := du k hlt
      obtain ⟨d, hd⟩ : ∃ d, d = T[k] := ⟨_, rfl⟩
      have hrow : bulkR d ≤ 1099511627776 := by rw [hd]; have := bulkT_row hlt; have := HS.out; omega
      rw [← hd] at iy
      have gu := hx.cell hy
      have IY := Lib.hid (iy.ext hx)
      have HD := Lib.hid hd
      have HO := Lib.hid ho
      clear hcu du hy iy ho hd
      go_wp2_with fail
      refine (toRowS_any _ d _ IY.out hrow).mono ?_
      rintro e w2 ⟨z, rfl, f2, x2⟩
      clear gu
      have ho2 := x2.ownsRow HO.out
      have hlen2 : (vs ++ List.replicate (T.length - k) (Value.slice none 0 0)).length = T.length := by simp [hV.out]; omega
      have go := (ho2.cellAt k (by omega)).trans (show _ = some (Value.slice none 0 0) by
        rw [List.getElem?_append_right (by have := hV.out; omega)]
        rw [List.getElem?_replicate, if_pos (by have := hV.out; omega)])
      have gf := ho2.frozenAt k
      clear hlen2
      have HST := Lib.hid (ho2.stored k z)
      have F2 := Lib.hid f2
      obtain ⟨ax, cx, hz'⟩ := f2.form
      clear ho2 f2
      subst hz'
      go_wp2
      go_roundw
      case rel =>
        have hst := HST.out
        rw [set_next vs _ _ k T.length hV.out hlt] at hst
        have hn := hL.out.next hlt hV.out x2 F2.out HD.out hst.2 (by rw [hC.out]; omega)
        refine ⟨k + 1, _, _, by omega, by go_num, hst.1, Lib.hid hn, Lib.hid (by simp only [Nat.zero_le, if_true]; exact hC.out), Lib.hid (by simp [hV.out]), Below.setCell (hx.trans x2) (Nat.le_refl _) _⟩
      case measure => simp [intOf]; omega
    · obtain rfl : k = T.length := by omega
      have HO := Lib.hid ho
      clear ho
      go_wp2
      go_ret
      have h := HO.out
      rw [Nat.sub_self] at h
      obtain ⟨q1, q2, q3⟩ := hL.out
      refine ⟨_, rfl, ⟨vs, cut, by simpa using h, fun b e => ?_, q1, by rw [hC.out]; omega, q2, fun j hj hj' => q3 j hj hj hj'⟩, hx⟩
      rw [hC.out]
      have := Option.some.inj e
      simp at this; omega

set_option maxHeartbeats 1000000 in
theorem toTable_any (n : Int) (u : Value) (T : List (List RowD)) (w : World) (hv : Rowzz w u T) (hs : bulkT T ≤ 1099511627776) :
    Calls Try.prog 38 #[.agg #[.int .i64 n, u]] w (NewTable n T w) := by
  have HS := Lib.hid hs
  have HO := Lib.hid (open_three w (.cells #[.int .i64 n, u] 58) 67 67 0 n (.slice none 0 0) (.slice none 0 0))
  clear hs
  go_enter Try.func38, Try.ntmps38
  go_wp2_with fail
  refine (toRowSS_any _ _ _ (hv.ext (Ext.alloc3 _ _ _ _)) HS.out).mono ?_
  rintro e w1 ⟨v, rfl, f1, x1⟩
  obtain ⟨⟨c0, c1⟩, z0, z1⟩ := HO.out.1.ext x1
  obtain ⟨⟨d0, d1⟩, y0, y1⟩ := HO.out.2.ext x1
  have hx : Ext w w1 := (Ext.alloc3 _ _ _ _).trans x1
  rw [size3] at f1
  obtain ⟨av, cv, rfl⟩ := f1.form
  have F := Lib.hid f1
  clear f1 x1 hv
  go_wp2
  refine bodyPost_ret (v := .agg #[.int .i64 n, .slice av T.length cv]) (by simp [results, Try.results38, go_sem, c0, c1]) rfl ⟨_, rfl, ?_, ?_⟩
  · simp only [World.size_setCell]
    refine FreshT.more (F.out.kept ⟨by simp only [World.size_setCell]; exact Nat.le_refl _, fun b b1 b2 => ?_⟩) (by omega) (Nat.le_refl _)
    rw [Below.heap_setCell _ _ _ b (by dsimp only; omega), Below.heap_setCell _ _ _ b (by dsimp only; omega), Below.heap_setCell _ _ _ b (by dsimp only; omega)]
  · exact ((hx.setc (by dsimp only; omega)).setc (by dsimp only; omega)).setc (by dsimp only; omega)

end Go.Proofs.Ytfffddhfagibpaa

namespace Go.Proofs.Ytfffddhfagibpaa
open Go.RowKit

def cutTo (cut : Nat → Nat) (k e : Nat) : Nat → Nat := fun j => if j ≤ k then cut j else e
theorem cutTo_old {cut : Nat → Nat} {k e j : Nat} (h : j ≤ k) : cutTo cut k e j = cut j := by unfold cutTo; rw [if_pos h]
theorem cutTo_new {cut : Nat → Nat} {k e : Nat} : cutTo cut k e (k + 1) = e := by unfold cutTo; rw [if_neg (by omega)]
structure CutOk (lo k hi : Nat) (cut : Nat → Nat) : Prop where
  mono : ∀ j, j < k → cut j ≤ cut (j + 1)
  lo : lo ≤ cut 0
  hi : cut k ≤ hi
theorem CutOk.start {lo a hi : Nat} (h1 : lo ≤ a) (h2 : a ≤ hi) : CutOk lo 0 hi (fun _ => a) := ⟨fun j h => by omega, h1, h2⟩
theorem CutOk.to {lo k hi e : Nat} {cut : Nat → Nat} (h : CutOk lo k hi cut) (he : hi ≤ e) : CutOk lo (k + 1) e (cutTo cut k e) := by
  refine ⟨fun j hj => ?_, by rw [cutTo_old (Nat.zero_le _)]; exact h.lo, by rw [cutTo_new]; exact Nat.le_refl _⟩
  by_cases hk : j < k
  · rw [cutTo_old (by omega), cutTo_old (by omega)]; exact h.mono j hk
  · obtain rfl : j = k := by omega
    rw [cutTo_old (Nat.le_refl _), cutTo_new]
    exact Nat.le_trans h.hi he
theorem CutOk.le {lo k hi : Nat} {cut : Nat → Nat} (h : CutOk lo k hi cut) {i j : Nat} (hij : i ≤ j) (hj : j ≤ k) : cut i ≤ cut j := cut_mono h.mono i j hij hj
theorem CutOk.low {lo k hi : Nat} {cut : Nat → Nat} (h : CutOk lo k hi cut) {j : Nat} (hj : j ≤ k) : lo ≤ cut j := Nat.le_trans h.lo (h.le (Nat.zero_le _) hj)
theorem CutOk.high {lo k hi : Nat} {cut : Nat → Nat} (h : CutOk lo k hi cut) {j : Nat} (hj : j ≤ k) : cut j ≤ hi := Nat.le_trans (h.le hj (Nat.le_refl _)) h.hi
theorem CutOk.more {lo lo' k hi hi' : Nat} {cut : Nat → Nat} (h : CutOk lo k hi cut) (h1 : lo' ≤ lo) (h2 : hi ≤ hi') : CutOk lo' k hi' cut := ⟨h.mono, Nat.le_trans h1 h.lo, Nat.le_trans h.hi h2⟩
theorem Stood.within {lo hi a b : Nat} {w w' : World} (k : Stood lo hi w w') (h1 : lo ≤ a) (h2 : b ≤ hi) : Stood a b w w' := ⟨k.1, fun x x1 x2 => k.2 x (by omega) (by omega)⟩
theorem BoxV.kept {w w' : World} {b lo hi : Nat} {vs : List Value} (h : BoxV w b vs) (k : Stood lo hi w w') (h1 : lo ≤ b) (h2 : b < hi) : BoxV w' b vs := by
  have hb := k.2 b h1 h2
  refine ⟨fun j v hj => ?_, fun j hj => ?_, Nat.lt_of_lt_of_le h.lt k.1⟩
  · exact (World.cell?_of_block (a := ⟨b, j, none⟩) hb).trans (h.cell j v hj)
  · have := h.free j hj
    unfold World.frozen? at this ⊢
    rw [hb]
    exact this
end Go.Proofs.Ytfffddhfagibpaa

namespace Go.Proofs.Ytfffddhfagibpaa
open Go.RowKit
set_option linter.unusedVariables false

theorem ins_set {lo hi b o : Nat} {w : World} {v : Value} (h1 : lo ≤ b) (h2 : b < hi) : Ins lo hi w (w.setCell ⟨b, o, none⟩ v) :=
  Ins.of_grown (grownBy_set w b o v) (fun g hg => by cases hg; exact ⟨h1, h2⟩)
/-- v is a list of numbers of a block from lo on, below hi; S is not above lo. -/
structure FrI (S lo hi : Nat) (w : World) (v : Value) (l : List Int) : Prop where
  fresh : Fresh lo w v l
  und : Und hi v
  low : S ≤ lo
  ord : lo ≤ hi
  high : hi ≤ w.heap.size
theorem FrI.ext {S lo hi : Nat} {w w' : World} {v : Value} {l : List Int} (h : FrI S lo hi w v l) (e : Ext w w') : FrI S lo hi w' v l := ⟨h.fresh.ext e, h.und, h.low, h.ord, Nat.le_trans h.high e.size⟩
theorem FrI.ins {S lo hi q : Nat} {w w' : World} {v : Value} {l : List Int} (h : FrI S lo hi w v l) (k : Ins q S w w') : FrI S lo hi w' v l := ⟨h.fresh.ins_high k h.low, h.und, h.low, h.ord, Nat.le_trans h.high k.size⟩
theorem FreshR.ins_high {B lo hi : Nat} {w w' : World} {v : Value} {R : List RowD} (h : FreshR B w v R) (k : Ins lo hi w w') (hb : hi ≤ B) : FreshR B w' v R := by
  obtain ⟨xs, us, h1, h2, h3, h4⟩ := h
  refine ⟨xs, us, k.row h1 (fun b e => .inr (Nat.le_trans hb (World.ownsRow.lt h1 b e).1)), h2, ⟨h3.len, fun j u l hu hl => k.row (h3.row j u l hu hl) (fun b e => .inr (Nat.le_trans hb (World.ownsRow.lt (h3.row j u l hu hl) b e).1)), h3.apart⟩, h4⟩
/-- A lead's lists lie in blocks from B on. -/
structure LeadF (B : Nat) (w : World) (d : LeadD) (u1 u2 u3 u4 : Value) : Prop where
  f1 : Fresh B w u1 d.l1
  f2 : Fresh B w u2 d.l2
  f3 : Fresh B w u3 d.who
  f4 : FreshR B w u4 d.seen
theorem LeadF.ext {B : Nat} {w w' : World} {d : LeadD} {u1 u2 u3 u4 : Value} (h : LeadF B w d u1 u2 u3 u4) (e : Ext w w') : LeadF B w' d u1 u2 u3 u4 := ⟨h.f1.ext e, h.f2.ext e, h.f3.ext e, h.f4.ext e⟩
theorem LeadF.ins {B lo hi : Nat} {w w' : World} {d : LeadD} {u1 u2 u3 u4 : Value} (h : LeadF B w d u1 u2 u3 u4) (k : Ins lo hi w w') (hb : hi ≤ B) : LeadF B w' d u1 u2 u3 u4 := ⟨h.f1.ins_high k hb, h.f2.ins_high k hb, h.f3.ins_high k hb, h.f4.ins_high k hb⟩
theorem LeadF.more {B B' : Nat} {w : World} {d : LeadD} {u1 u2 u3 u4 : Value} (h : LeadF B w d u1 u2 u3 u4) (hb : B' ≤ B) : LeadF B' w d u1 u2 u3 u4 := ⟨h.f1.more hb, h.f2.more hb, h.f3.more hb, h.f4.more hb⟩
theorem LeadF.reads {B : Nat} {w : World} {d : LeadD} {u1 u2 u3 u4 : Value} (h : LeadF B w d u1 u2 u3 u4) : LeadL w d u1 u2 u3 u4 := ⟨h.f1.ints, h.f2.ints, h.f3.ints, h.f4.rows⟩
/-- v is a list of numbers in a block from lo on, below hi. -/
structure FrR (lo hi : Nat) (w : World) (v : Value) (l : List Int) : Prop where
  fresh : Fresh lo w v l
  und : Und hi v
theorem FrR.kept {lo hi : Nat} {w w' : World} {v : Value} {l : List Int} (h : FrR lo hi w v l) (k : Stood lo hi w w') : FrR lo hi w' v l := ⟨k.row h.fresh (fun b e => ⟨(World.ownsRow.lt h.fresh b e).1, h.und b e⟩), h.und⟩
theorem FrR.more {lo lo' hi hi' : Nat} {w : World} {v : Value} {l : List Int} (h : FrR lo hi w v l) (a : lo' ≤ lo) (b : hi ≤ hi') : FrR lo' hi' w v l := ⟨h.fresh.more a, h.und.more b⟩
/-- A lead's lists lie in blocks from lo on, below hi, one behind the other. -/
def LeadC (lo hi : Nat) (w : World) (d : LeadD) (u1 u2 u3 u4 : Value) : Prop :=
  ∃ a b c, lo ≤ a ∧ a ≤ b ∧ b ≤ c ∧ c ≤ hi ∧ FrR lo a w u1 d.l1 ∧ FrR a b w u2 d.l2 ∧ FrR b c w u3 d.who ∧ FreshI c hi w u4 d.seen
theorem LeadC.kept {lo hi : Nat} {w w' : World} {d : LeadD} {u1 u2 u3 u4 : Value} (h : LeadC lo hi w d u1 u2 u3 u4) (k : Stood lo hi w w') : LeadC lo hi w' d u1 u2 u3 u4 := by
  obtain ⟨a, b, c, h1, h2, h3, h4, f1, f2, f3, f4⟩ := h
  exact ⟨a, b, c, h1, h2, h3, h4, f1.kept (k.within (Nat.le_refl _) (by omega)), f2.kept (k.within (by omega) (by omega)), f3.kept (k.within (by omega) (by omega)), f4.kept (k.within (by omega) (Nat.le_refl _))⟩
theorem FreshI.more_hi {lo hi hi' : Nat} {w : World} {v : Value} {R : List RowD} (h : FreshI lo hi w v R) (k : hi ≤ hi') : FreshI lo hi' w v R := by
  obtain ⟨xs, us, h1, h2, h3, h4, h5, h6⟩ := h
  exact ⟨xs, us, h1, h2, h3, h4, h5.more k, fun j u hu => (h6 j u hu).more k⟩
theorem LeadC.more {lo lo' hi hi' : Nat} {w : World} {d : LeadD} {u1 u2 u3 u4 : Value} (h : LeadC lo hi w d u1 u2 u3 u4) (p : lo' ≤ lo) (q : hi ≤ hi') : LeadC lo' hi' w d u1 u2 u3 u4 := by
  obtain ⟨a, b, c, h1, h2, h3, h4, f1, f2, f3, f4⟩ := h
  exact ⟨a, b, c, by omega, h2, h3, by omega, f1.more p (Nat.le_refl _), f2, f3, f4.more_hi q⟩
theorem LeadC.reads {lo hi : Nat} {w : World} {d : LeadD} {u1 u2 u3 u4 : Value} (h : LeadC lo hi w d u1 u2 u3 u4) : LeadL w d u1 u2 u3 u4 := by
  obtain ⟨a, b, c, _, _, _, _, f1, f2, f3, f4⟩ := h
  exact ⟨f1.fresh.ints, f2.fresh.ints, f3.fresh.ints, f4.fresh.rows⟩
/-- A lead comes back in new memory. -/
def NewLead (d : LeadD) (w : World) (e : Ending) (w' : World) : Prop := ∃ u1 u2 u3 u4, e = .returned (.agg #[.int .i64 d.rp, .int .i64 d.no, .int .i64 d.bl, .int .i64 d.ph, .int .i64 d.k, .int .i64 d.i, .int .i64 d.f, .int .i64 d.t, .int .i64 d.a, .int .i64 d.s1, u1, .int .i64 d.s2, u2, .bool d.sm, u3, u4]) ∧ LeadC w.heap.size w'.heap.size w' d u1 u2 u3 u4 ∧ Ext w w'
end Go.Proofs.Ytfffddhfagibpaa

namespace Go.Proofs.Ytfffddhfagibpaa
open Go.RowKit
set_option linter.unusedVariables false

theorem boxV_puts {b : Nat} : ∀ (vs : List Value) (o : Nat) (w : World) (xs : List Value), BoxV w b xs → o + vs.length ≤ xs.length → BoxV (w.setCells b o vs) b (putL xs o vs)
  | [], _, w, _, h, _ => h
  | v :: r, o, w, xs, h, hl => by
    rw [List.length_cons] at hl
    exact boxV_puts r (o + 1) _ _ (h.set o v (by omega)) (by rw [List.length_set]; omega)
theorem ins_puts {lo hi b : Nat} (h1 : lo ≤ b) (h2 : b < hi) : ∀ (vs : List Value) (o : Nat) (w : World), Ins lo hi w (w.setCells b o vs)
  | [], _, w => Ins.refl _ _ _
  | v :: r, o, w => (ins_set h1 h2).trans (ins_puts h1 h2 r (o + 1) _)
theorem leadVs_len (d : LeadD) (u1 u2 u3 u4 : Value) : (leadVs d u1 u2 u3 u4).length = 16 := rfl
/-- From o on the list xs has the cells of the lead. -/
def XLead (xs : List Value) (o : Nat) (d : LeadD) (u1 u2 u3 u4 : Value) : Prop := ∀ q v, (leadVs d u1 u2 u3 u4)[q]? = some v → xs[o + q]? = some v
theorem lead_lt {d : LeadD} {u1 u2 u3 u4 v : Value} {q : Nat} (h : (leadVs d u1 u2 u3 u4)[q]? = some v) : q < 16 := by
  have := (List.getElem?_eq_some_iff.1 h).1
  rwa [leadVs_len] at this
theorem XLead.put_other {xs vs : List Value} {o p : Nat} {d : LeadD} {u1 u2 u3 u4 : Value} (h : XLead xs o d u1 u2 u3 u4) (hv : vs.length = 16) (hap : o + 16 ≤ p ∨ p + 16 ≤ o) : XLead (putL xs p vs) o d u1 u2 u3 u4 := by
  intro q v hq
  have := lead_lt hq
  rw [putL_out _ _ _ _ (by omega)]
  exact h q v hq
theorem XLead.put {xs : List Value} {o : Nat} {d : LeadD} {u1 u2 u3 u4 : Value} (h : o + 16 ≤ xs.length) : XLead (putL xs o (leadVs d u1 u2 u3 u4)) o d u1 u2 u3 u4 := by
  intro q v hq
  have := lead_lt hq
  rw [putL_in _ o xs q (by rw [leadVs_len]; exact this) (by rw [leadVs_len]; exact h)]
  exact hq
theorem XLead.leadIn {w : World} {b o : Nat} {xs : List Value} {d : LeadD} {u1 u2 u3 u4 : Value} (h : BoxV w b xs) (hx : XLead xs o d u1 u2 u3 u4) : LeadIn w b o d u1 u2 u3 u4 := fun q v hq => h.cell _ _ (hx q v hq)
/-- The first k leads stand in the block's cells xs, their lists in ranges of blocks. -/
def LeadsTo (cut : Nat → Nat) (w : World) (xs : List Value) (L : List LeadD) (k : Nat) : Prop := ∀ j (h : j < L.length), j < k → ∃ u1 u2 u3 u4, XLead xs (j * 16) L[j] u1 u2 u3 u4 ∧ LeadC (cut j) (cut (j + 1)) w L[j] u1 u2 u3 u4
theorem LeadsTo.kept {lo hi k : Nat} {cut : Nat → Nat} {w w' : World} {xs : List Value} {L : List LeadD} (h : LeadsTo cut w xs L k) (c : CutOk lo k hi cut) (s : Stood lo hi w w') : LeadsTo cut w' xs L k := fun j hj hk => by
  obtain ⟨u1, u2, u3, u4, a, b⟩ := h j hj hk
  exact ⟨u1, u2, u3, u4, a, b.kept (s.within (c.low (by omega)) (c.high (by omega)))⟩
theorem LeadsTo.put {g k e : Nat} {cut : Nat → Nat} {w : World} {xs : List Value} {L : List LeadD} {u1 u2 u3 u4 : Value} (h : LeadsTo cut w xs L k) (c : CutOk (g + 1) k w.heap.size cut) (hk : k < L.length) (hl : xs.length = L.length * 16) (he : e ≤ w.heap.size) (hf : LeadC (cut k) e w L[k] u1 u2 u3 u4) :
    LeadsTo (cutTo cut k e) (w.setCells g (k * 16) (leadVs L[k] u1 u2 u3 u4)) (putL xs (k * 16) (leadVs L[k] u1 u2 u3 u4)) L (k + 1) := by
  have hs : Stood (g + 1) w.heap.size w (w.setCells g (k * 16) (leadVs L[k] u1 u2 u3 u4)) := (ins_puts (lo := g) (hi := g + 1) (Nat.le_refl g) (Nat.lt_succ_self g) (leadVs L[k] u1 u2 u3 u4) (k * 16) w).stood (Nat.le_refl _) (.inr (Nat.le_refl _))
  intro j hj hjk
  by_cases ej : j = k
  · subst ej
    rw [cutTo_old (Nat.le_refl _), cutTo_new]
    exact ⟨u1, u2, u3, u4, XLead.put (by omega), hf.kept (hs.within (c.low (Nat.le_refl _)) he)⟩
  · obtain ⟨v1, v2, v3, v4, a, b⟩ := h j hj (by omega)
    rw [cutTo_old (by omega), cutTo_old (by omega)]
    exact ⟨v1, v2, v3, v4, a.put_other (leadVs_len _ _ _ _ _) (by omega), b.kept (hs.within (c.low (by omega)) (c.high (by omega)))⟩
theorem setCells_lead (w : World) (g o : Nat) (d : LeadD) (u1 u2 u3 u4 : Value) :
    w.setCells g o (leadVs d u1 u2 u3 u4) = ((((((((((((((((w.setCell ⟨g, o, none⟩ (.int .i64 d.rp)).setCell ⟨g, o + 1, none⟩ (.int .i64 d.no)).setCell ⟨g, o + 2, none⟩ (.int .i64 d.bl)).setCell ⟨g, o + 3, none⟩ (.int .i64 d.ph)).setCell ⟨g, o + 4, none⟩ (.int .i64 d.k)).setCell ⟨g, o + 5, none⟩ (.int .i64 d.i)).setCell ⟨g, o + 6, none⟩ (.int .i64 d.f)).setCell ⟨g, o + 7, none⟩ (.int .i64 d.t)).setCell ⟨g, o + 8, none⟩ (.int .i64 d.a)).setCell ⟨g, o + 9, none⟩ (.int .i64 d.s1)).setCell ⟨g, o + 10, none⟩ u1).setCell ⟨g, o + 11, none⟩ (.int .i64 d.s2)).setCell ⟨g, o + 12, none⟩ u2).setCell ⟨g, o + 13, none⟩ (.bool d.sm)).setCell ⟨g, o + 14, none⟩ u3).setCell ⟨g, o + 15, none⟩ u4) := rfl
end Go.Proofs.Ytfffddhfagibpaa
