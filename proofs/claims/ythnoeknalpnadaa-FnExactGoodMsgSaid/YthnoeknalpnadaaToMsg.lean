/- Contract of the laws' copy of a message. -/
import Derived.Test.YthnoeknalpnadaaSzMsg
import Derived.Test.YthnoeknalpnadaaToRow
namespace Go.Proofs.Ythnoeknalpnadaa
open Go.RowKit
set_option linter.unusedVariables false

def zeroM : MsgD := ⟨0, 0, 0, 0, 0, 0, 0, 0, 0, 0, 0, 0, 0, 0, []⟩
def headM (r : MsgD) : MsgD := ⟨r.kd, r.fr, r.tt, r.rp, r.no, r.b, r.v, r.st, 0, 0, 0, 0, 0, 0, []⟩
theorem msg_three (w : World) (a : Obj) (r : MsgD) :
    (MsgAt (((w.alloc a).alloc (.cells #[.int .i64 0, .int .i64 0, .int .i64 0, .int .i64 0, .int .i64 0, .int .i64 0, .int .i64 0, .int .i64 0, .int .i64 0, .int .i64 0, .int .i64 0, .int .i64 0, .int .i64 0, .int .i64 0, .slice none 0 0] 110)).alloc (.cells #[.int .i64 r.kd, .int .i64 r.fr, .int .i64 r.tt, .int .i64 r.rp, .int .i64 r.no, .int .i64 r.b, .int .i64 r.v, .int .i64 r.st, .int .i64 0, .int .i64 0, .int .i64 0, .int .i64 0, .int .i64 0, .int .i64 0, .slice none 0 0] 110)) (w.heap.size + 1) zeroM (.slice none 0 0) ∧ FreeM (((w.alloc a).alloc (.cells #[.int .i64 0, .int .i64 0, .int .i64 0, .int .i64 0, .int .i64 0, .int .i64 0, .int .i64 0, .int .i64 0, .int .i64 0, .int .i64 0, .int .i64 0, .int .i64 0, .int .i64 0, .int .i64 0, .slice none 0 0] 110)).alloc (.cells #[.int .i64 r.kd, .int .i64 r.fr, .int .i64 r.tt, .int .i64 r.rp, .int .i64 r.no, .int .i64 r.b, .int .i64 r.v, .int .i64 r.st, .int .i64 0, .int .i64 0, .int .i64 0, .int .i64 0, .int .i64 0, .int .i64 0, .slice none 0 0] 110)) (w.heap.size + 1)) ∧
    (MsgAt (((w.alloc a).alloc (.cells #[.int .i64 0, .int .i64 0, .int .i64 0, .int .i64 0, .int .i64 0, .int .i64 0, .int .i64 0, .int .i64 0, .int .i64 0, .int .i64 0, .int .i64 0, .int .i64 0, .int .i64 0, .int .i64 0, .slice none 0 0] 110)).alloc (.cells #[.int .i64 r.kd, .int .i64 r.fr, .int .i64 r.tt, .int .i64 r.rp, .int .i64 r.no, .int .i64 r.b, .int .i64 r.v, .int .i64 r.st, .int .i64 0, .int .i64 0, .int .i64 0, .int .i64 0, .int .i64 0, .int .i64 0, .slice none 0 0] 110)) (w.heap.size + 1 + 1) (headM r) (.slice none 0 0) ∧ FreeM (((w.alloc a).alloc (.cells #[.int .i64 0, .int .i64 0, .int .i64 0, .int .i64 0, .int .i64 0, .int .i64 0, .int .i64 0, .int .i64 0, .int .i64 0, .int .i64 0, .int .i64 0, .int .i64 0, .int .i64 0, .int .i64 0, .slice none 0 0] 110)).alloc (.cells #[.int .i64 r.kd, .int .i64 r.fr, .int .i64 r.tt, .int .i64 r.rp, .int .i64 r.no, .int .i64 r.b, .int .i64 r.v, .int .i64 r.st, .int .i64 0, .int .i64 0, .int .i64 0, .int .i64 0, .int .i64 0, .int .i64 0, .slice none 0 0] 110)) (w.heap.size + 1 + 1)) := by
  refine ⟨⟨⟨?_, ?_, ?_, ?_, ?_, ?_, ?_, ?_, ?_, ?_, ?_, ?_, ?_, ?_, ?_⟩, ⟨?_, ?_, ?_, ?_, ?_, ?_, ?_, ?_, ?_, ?_, ?_, ?_, ?_, ?_, ?_⟩⟩, ⟨⟨?_, ?_, ?_, ?_, ?_, ?_, ?_, ?_, ?_, ?_, ?_, ?_, ?_, ?_, ?_⟩, ⟨?_, ?_, ?_, ?_, ?_, ?_, ?_, ?_, ?_, ?_, ?_, ?_, ?_, ?_, ?_⟩⟩⟩ <;> (first | (simp only [zeroM, headM]; go_simp) | go_simp)

set_option maxHeartbeats 4000000 in
set_option maxRecDepth 100000 in
theorem toMsg_any (r : MsgD) (u : Value) (w : World) (hv : Ints w u r.l) (hs : r.l.length ≤ 35184372088831) :
    Calls Try.prog 72 #[.agg #[.int .i64 r.kd, .int .i64 r.fr, .int .i64 r.tt, .int .i64 r.rp, .int .i64 r.no, .int .i64 r.b, .int .i64 r.v, .int .i64 r.st, .int .i64 r.k, .int .i64 r.i, .int .i64 r.f, .int .i64 r.t, .int .i64 r.a, .int .i64 r.s, u]] w (NewMsg r w) := by
  have HS := Lib.hid hs
  have hb := msgAt_new w 106 r u
  clear hs
  obtain ⟨wb, hwb⟩ : ∃ wb, wb = ((w.alloc (.cells #[.int .i64 r.kd, .int .i64 r.fr, .int .i64 r.tt, .int .i64 r.rp, .int .i64 r.no, .int .i64 r.b, .int .i64 r.v, .int .i64 r.st, .int .i64 r.k, .int .i64 r.i, .int .i64 r.f, .int .i64 r.t, .int .i64 r.a, .int .i64 r.s, u] 106)).alloc (.cells #[.int .i64 0, .int .i64 0, .int .i64 0, .int .i64 0, .int .i64 0, .int .i64 0, .int .i64 0, .int .i64 0, .int .i64 0, .int .i64 0, .int .i64 0, .int .i64 0, .int .i64 0, .int .i64 0, .slice none 0 0] 110)).alloc (.cells #[.int .i64 r.kd, .int .i64 r.fr, .int .i64 r.tt, .int .i64 r.rp, .int .i64 r.no, .int .i64 r.b, .int .i64 r.v, .int .i64 r.st, .int .i64 0, .int .i64 0, .int .i64 0, .int .i64 0, .int .i64 0, .int .i64 0, .slice none 0 0] 110) := ⟨_, rfl⟩
  have h3 := msg_three w (.cells #[.int .i64 r.kd, .int .i64 r.fr, .int .i64 r.tt, .int .i64 r.rp, .int .i64 r.no, .int .i64 r.b, .int .i64 r.v, .int .i64 r.st, .int .i64 r.k, .int .i64 r.i, .int .i64 r.f, .int .i64 r.t, .int .i64 r.a, .int .i64 r.s, u] 106) r
  have xb : Ext w wb := by rw [hwb]; exact Ext.alloc3 _ _ _ _
  have sb : wb.heap.size = w.heap.size + 3 := by rw [hwb]; exact size3 _ _ _ _
  have rb : MsgAt wb w.heap.size r u := by rw [hwb]; exact hb.ext (((Ext.refl _).alloc _).alloc _)
  rw [← hwb] at h3
  have HWB := Lib.hid hwb
  have H3 := Lib.hid h3
  have SB := Lib.hid sb
  have RB := Lib.hid rb
  clear hwb h3 sb rb hb
  go_enter Try.func72, Try.ntmps72
  go_wp2_with fail
  rw [← HWB.out]
  refine (toCmd_any _ _ _ _ _ _).mono ?_
  rintro e w1 ⟨rfl, x1⟩
  have hsz : w.heap.size + 3 ≤ w1.heap.size := by have := x1.size; have := SB.out; omega
  obtain ⟨⟨⟨o0, o1, o2, o3, o4, o5, o6, o7, o8, o9, o10, o11, o12, o13, o14⟩, ⟨z0, z1, z2, z3, z4, z5, z6, z7, z8, z9, z10, z11, z12, z13, z14⟩⟩, ⟨⟨p0, p1, p2, p3, p4, p5, p6, p7, p8, p9, p10, p11, p12, p13, p14⟩, ⟨y0, y1, y2, y3, y4, y5, y6, y7, y8, y9, y10, y11, y12, y13, y14⟩⟩⟩ : (MsgAt w1 (w.heap.size + 1) _ _ ∧ FreeM w1 (w.heap.size + 1)) ∧ (MsgAt w1 (w.heap.size + 1 + 1) _ _ ∧ FreeM w1 (w.heap.size + 1 + 1)) :=
    ⟨⟨H3.out.1.1.ext x1, H3.out.1.2.ext (by have := SB.out; omega) x1⟩, ⟨H3.out.2.1.ext x1, H3.out.2.2.ext (by have := SB.out; omega) x1⟩⟩
  obtain ⟨q0, q1, q2, q3, q4, q5, q6, q7, q8, q9, q10, q11, q12, q13, q14⟩ := RB.out.ext x1
  simp only [zeroM, headM] at o0 o1 o2 o3 o4 o5 o6 o7 o8 o9 o10 o11 o12 o13 p0 p1 p2 p3 p4 p5 p6 p7 p8 p9 p10 p11 p12 p13
  go_wp2_with fail
  have xc : Ext w (((((w1.setCell ⟨w.heap.size + 1 + 1, 8, none⟩ (.int .i64 r.k)).setCell ⟨w.heap.size + 1 + 1, 9, none⟩ (.int .i64 r.i)).setCell ⟨w.heap.size + 1 + 1, 10, none⟩ (.int .i64 r.f)).setCell ⟨w.heap.size + 1 + 1, 11, none⟩ (.int .i64 r.t)).setCell ⟨w.heap.size + 1 + 1, 12, none⟩ (.int .i64 r.a)) :=
    (((((xb.trans x1).setc (by dsimp only; omega)).setc (by dsimp only; omega)).setc (by dsimp only; omega)).setc (by dsimp only; omega)).setc (by dsimp only; omega)
  have rp := msg_set5 r.k r.i r.f r.t r.a (show MsgAt w1 (w.heap.size + 1 + 1) ⟨r.kd, r.fr, r.tt, r.rp, r.no, r.b, r.v, r.st, 0, 0, 0, 0, 0, 0, []⟩ _ from ⟨p0, p1, p2, p3, p4, p5, p6, p7, p8, p9, p10, p11, p12, p13, p14⟩)
  have fp : FreeM (((((w1.setCell ⟨w.heap.size + 1 + 1, 8, none⟩ (.int .i64 r.k)).setCell ⟨w.heap.size + 1 + 1, 9, none⟩ (.int .i64 r.i)).setCell ⟨w.heap.size + 1 + 1, 10, none⟩ (.int .i64 r.f)).setCell ⟨w.heap.size + 1 + 1, 11, none⟩ (.int .i64 r.t)).setCell ⟨w.heap.size + 1 + 1, 12, none⟩ (.int .i64 r.a)) (w.heap.size + 1 + 1) :=
    freeM_set _ _ (freeM_set _ _ (freeM_set _ _ (freeM_set _ _ (freeM_set _ _ ⟨y0, y1, y2, y3, y4, y5, y6, y7, y8, y9, y10, y11, y12, y13, y14⟩))))
  have ro : MsgAt (((((w1.setCell ⟨w.heap.size + 1 + 1, 8, none⟩ (.int .i64 r.k)).setCell ⟨w.heap.size + 1 + 1, 9, none⟩ (.int .i64 r.i)).setCell ⟨w.heap.size + 1 + 1, 10, none⟩ (.int .i64 r.f)).setCell ⟨w.heap.size + 1 + 1, 11, none⟩ (.int .i64 r.t)).setCell ⟨w.heap.size + 1 + 1, 12, none⟩ (.int .i64 r.a)) (w.heap.size + 1) zeroM (.slice none 0 0) :=
    msg_apart _ _ (by simp) (msg_apart _ _ (by simp) (msg_apart _ _ (by simp) (msg_apart _ _ (by simp) (msg_apart _ _ (by simp) ⟨o0, o1, o2, o3, o4, o5, o6, o7, o8, o9, o10, o11, o12, o13, o14⟩))))
  have fo : FreeM (((((w1.setCell ⟨w.heap.size + 1 + 1, 8, none⟩ (.int .i64 r.k)).setCell ⟨w.heap.size + 1 + 1, 9, none⟩ (.int .i64 r.i)).setCell ⟨w.heap.size + 1 + 1, 10, none⟩ (.int .i64 r.f)).setCell ⟨w.heap.size + 1 + 1, 11, none⟩ (.int .i64 r.t)).setCell ⟨w.heap.size + 1 + 1, 12, none⟩ (.int .i64 r.a)) (w.heap.size + 1) :=
    freeM_set _ _ (freeM_set _ _ (freeM_set _ _ (freeM_set _ _ (freeM_set _ _ ⟨z0, z1, z2, z3, z4, z5, z6, z7, z8, z9, z10, z11, z12, z13, z14⟩))))
  have hsz2 : w.heap.size + 3 ≤ (((((w1.setCell ⟨w.heap.size + 1 + 1, 8, none⟩ (.int .i64 r.k)).setCell ⟨w.heap.size + 1 + 1, 9, none⟩ (.int .i64 r.i)).setCell ⟨w.heap.size + 1 + 1, 10, none⟩ (.int .i64 r.f)).setCell ⟨w.heap.size + 1 + 1, 11, none⟩ (.int .i64 r.t)).setCell ⟨w.heap.size + 1 + 1, 12, none⟩ (.int .i64 r.a)).heap.size := by simp only [World.size_setCell]; exact hsz
  refine (toAttr_any _ _ r.l _ (hv.ext xc) HS.out).mono ?_
  clear p0 p1 p2 p3 p4 p5 p6 p7 p8 p9 p10 p11 p12 p13 p14 o0 o1 o2 o3 o4 o5 o6 o7 o8 o9 o10 o11 o12 o13 o14 z0 z1 z2 z3 z4 z5 z6 z7 z8 z9 z10 z11 z12 z13 z14 y0 y1 y2 y3 y4 y5 y6 y7 y8 y9 y10 y11 y12 y13 y14 q0 q1 q2 q3 q4 q5 q6 q7 q8 q9 q10 q11 q12 q13 q14
  obtain ⟨wc, hwc⟩ : ∃ wc, wc = (((((w1.setCell ⟨w.heap.size + 1 + 1, 8, none⟩ (.int .i64 r.k)).setCell ⟨w.heap.size + 1 + 1, 9, none⟩ (.int .i64 r.i)).setCell ⟨w.heap.size + 1 + 1, 10, none⟩ (.int .i64 r.f)).setCell ⟨w.heap.size + 1 + 1, 11, none⟩ (.int .i64 r.t)).setCell ⟨w.heap.size + 1 + 1, 12, none⟩ (.int .i64 r.a)) := ⟨_, rfl⟩
  rw [← hwc] at xc rp fp ro fo hsz2 ⊢
  clear hwc
  rintro e w2 ⟨v, rfl, f2, x2⟩
  have hy : Ext w w2 := xc.trans x2
  obtain ⟨p0, p1, p2, p3, p4, p5, p6, p7, p8, p9, p10, p11, p12, p13, p14⟩ := rp.ext x2
  obtain ⟨o0, o1, o2, o3, o4, o5, o6, o7, o8, o9, o10, o11, o12, o13, o14⟩ := ro.ext x2
  obtain ⟨y0, y1, y2, y3, y4, y5, y6, y7, y8, y9, y10, y11, y12, y13, y14⟩ := fp.ext (by omega) x2
  obtain ⟨z0, z1, z2, z3, z4, z5, z6, z7, z8, z9, z10, z11, z12, z13, z14⟩ := fo.ext (by omega) x2
  simp only [zeroM] at o0 o1 o2 o3 o4 o5 o6 o7 o8 o9 o10 o11 o12 o13 
  obtain ⟨au, cu, rfl⟩ := f2.form
  have F := Lib.hid f2
  have HZ := Lib.hid hsz2
  clear f2 rp ro fp fo xc xb x1 x2 hsz2
  go_wp2
  refine bodyPost_ret (v := .agg #[.int .i64 r.kd, .int .i64 r.fr, .int .i64 r.tt, .int .i64 r.rp, .int .i64 r.no, .int .i64 r.b, .int .i64 r.v, .int .i64 r.st, .int .i64 r.k, .int .i64 r.i, .int .i64 r.f, .int .i64 r.t, .int .i64 r.a, .int .i64 r.s, (.slice au r.l.length cu)]) (by simp [results, Try.results72, go_sem, o0, o1, o2, o3, o4, o5, o6, o7, o8, o9, o10, o11, o12, o13, o14]) rfl ⟨_, rfl, ?_, ?_⟩
  · exact ((((((((((((((((((F.out.set _ _ _ (by have := HZ.out; omega)).set _ _ _ (by have := HZ.out; omega)).set _ _ _ (by have := HZ.out; omega)).set _ _ _ (by have := HZ.out; omega)).set _ _ _ (by have := HZ.out; omega)).set _ _ _ (by have := HZ.out; omega)).set _ _ _ (by have := HZ.out; omega)).set _ _ _ (by have := HZ.out; omega)).set _ _ _ (by have := HZ.out; omega)).set _ _ _ (by have := HZ.out; omega)).set _ _ _ (by have := HZ.out; omega)).set _ _ _ (by have := HZ.out; omega)).set _ _ _ (by have := HZ.out; omega)).set _ _ _ (by have := HZ.out; omega)).set _ _ _ (by have := HZ.out; omega)).set _ _ _ (by have := HZ.out; omega)).set _ _ _ (by have := HZ.out; omega))).more (by have := HZ.out; omega)
  · exact (((((((((((((((((hy.setc (by dsimp only; omega)).setc (by dsimp only; omega)).setc (by dsimp only; omega)).setc (by dsimp only; omega)).setc (by dsimp only; omega)).setc (by dsimp only; omega)).setc (by dsimp only; omega)).setc (by dsimp only; omega)).setc (by dsimp only; omega)).setc (by dsimp only; omega)).setc (by dsimp only; omega)).setc (by dsimp only; omega)).setc (by dsimp only; omega)).setc (by dsimp only; omega)).setc (by dsimp only; omega)).setc (by dsimp only; omega)).setc (by dsimp only; omega))
end Go.Proofs.Ythnoeknalpnadaa
