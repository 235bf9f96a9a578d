/- Texts of this proof, part j: words, plain facts, contracts. -/
import Derived.Test.YtbffkidkfannhaaGreatMGoodNeti
import Derived.Test.YtbffkidkfannhaaGreatMGoodNetc
import Derived.Test.YtbffkidkfannhaaGreatMGoodNetg
import Derived.Deep.DeepCutAuto
import Derived.BigRegion

namespace Go.Proofs.YtbffkidkfannhaaGreat
open Go.RowKit
set_option linter.unusedVariables false

theorem msg_two (w : World) (r : MsgD) (u : Value) :
    (MsgAt ((w.alloc (.cells #[.int .i64 r.kd, .int .i64 r.fr, .int .i64 r.tt, .int .i64 r.rp, .int .i64 r.no, .int .i64 r.b, .int .i64 r.v, .int .i64 r.st, .int .i64 r.k, .int .i64 r.i, .int .i64 r.f, .int .i64 r.t, .int .i64 r.a, .int .i64 r.s, u] 77)).alloc (.cells #[.int .i64 0, .int .i64 0, .int .i64 0, .int .i64 0, .int .i64 0, .int .i64 0, .int .i64 0, .int .i64 0, .int .i64 0, .int .i64 0, .int .i64 0, .int .i64 0, .int .i64 0, .int .i64 0, .slice none 0 0] 77)) w.heap.size r u ∧ FreeM ((w.alloc (.cells #[.int .i64 r.kd, .int .i64 r.fr, .int .i64 r.tt, .int .i64 r.rp, .int .i64 r.no, .int .i64 r.b, .int .i64 r.v, .int .i64 r.st, .int .i64 r.k, .int .i64 r.i, .int .i64 r.f, .int .i64 r.t, .int .i64 r.a, .int .i64 r.s, u] 77)).alloc (.cells #[.int .i64 0, .int .i64 0, .int .i64 0, .int .i64 0, .int .i64 0, .int .i64 0, .int .i64 0, .int .i64 0, .int .i64 0, .int .i64 0, .int .i64 0, .int .i64 0, .int .i64 0, .int .i64 0, .slice none 0 0] 77)) w.heap.size) ∧
    (MsgAt ((w.alloc (.cells #[.int .i64 r.kd, .int .i64 r.fr, .int .i64 r.tt, .int .i64 r.rp, .int .i64 r.no, .int .i64 r.b, .int .i64 r.v, .int .i64 r.st, .int .i64 r.k, .int .i64 r.i, .int .i64 r.f, .int .i64 r.t, .int .i64 r.a, .int .i64 r.s, u] 77)).alloc (.cells #[.int .i64 0, .int .i64 0, .int .i64 0, .int .i64 0, .int .i64 0, .int .i64 0, .int .i64 0, .int .i64 0, .int .i64 0, .int .i64 0, .int .i64 0, .int .i64 0, .int .i64 0, .int .i64 0, .slice none 0 0] 77)) (w.heap.size + 1) zeroM (.slice none 0 0) ∧ FreeM ((w.alloc (.cells #[.int .i64 r.kd, .int .i64 r.fr, .int .i64 r.tt, .int .i64 r.rp, .int .i64 r.no, .int .i64 r.b, .int .i64 r.v, .int .i64 r.st, .int .i64 r.k, .int .i64 r.i, .int .i64 r.f, .int .i64 r.t, .int .i64 r.a, .int .i64 r.s, u] 77)).alloc (.cells #[.int .i64 0, .int .i64 0, .int .i64 0, .int .i64 0, .int .i64 0, .int .i64 0, .int .i64 0, .int .i64 0, .int .i64 0, .int .i64 0, .int .i64 0, .int .i64 0, .int .i64 0, .int .i64 0, .slice none 0 0] 77)) (w.heap.size + 1)) := by
  refine ⟨⟨⟨?_, ?_, ?_, ?_, ?_, ?_, ?_, ?_, ?_, ?_, ?_, ?_, ?_, ?_, ?_⟩, ⟨?_, ?_, ?_, ?_, ?_, ?_, ?_, ?_, ?_, ?_, ?_, ?_, ?_, ?_, ?_⟩⟩, ⟨⟨?_, ?_, ?_, ?_, ?_, ?_, ?_, ?_, ?_, ?_, ?_, ?_, ?_, ?_, ?_⟩, ⟨?_, ?_, ?_, ?_, ?_, ?_, ?_, ?_, ?_, ?_, ?_, ?_, ?_, ?_, ?_⟩⟩⟩ <;> (first | (simp only [zeroM]; go_simp) | go_simp)
theorem msg_set9 {w : World} {b : Nat} {d : MsgD} {y : Value} (v st k i f t a s : Int) (z : Value) {l : List Int} (h : MsgAt w b d y) :
    MsgAt (((((((((w.setCell ⟨b, 6, none⟩ (.int .i64 v)).setCell ⟨b, 7, none⟩ (.int .i64 st)).setCell ⟨b, 8, none⟩ (.int .i64 k)).setCell ⟨b, 9, none⟩ (.int .i64 i)).setCell ⟨b, 10, none⟩ (.int .i64 f)).setCell ⟨b, 11, none⟩ (.int .i64 t)).setCell ⟨b, 12, none⟩ (.int .i64 a)).setCell ⟨b, 13, none⟩ (.int .i64 s)).setCell ⟨b, 14, none⟩ z) b ⟨d.kd, d.fr, d.tt, d.rp, d.no, d.b, v, st, k, i, f, t, a, s, l⟩ z := by
  obtain ⟨h0, h1, h2, h3, h4, h5, h6, h7, h8, h9, h10, h11, h12, h13, h14⟩ := h
  refine ⟨?_, ?_, ?_, ?_, ?_, ?_, ?_, ?_, ?_, ?_, ?_, ?_, ?_, ?_, ?_⟩ <;> go_simp

/-- The message with so much of its content. -/
def onlyM (n : Int) (r : MsgD) : MsgD :=
  if r.kd = 2 then ⟨r.kd, r.fr, r.tt, r.rp, r.no, r.b, 0, 0, 0, 0, 0, 0, 0, r.s, r.l⟩
  else if r.kd = 7 then r
  else if r.kd = 4 ∨ r.kd = 6 then ⟨r.kd, r.fr, r.tt, r.rp, r.no, r.b, 0, 0, 0, 0, 0, 0, 0, 0, noneL n⟩
  else ⟨r.kd, r.fr, r.tt, r.rp, r.no, r.b, 0, 0, r.k, r.i, r.f, r.t, r.a, r.s, r.l⟩

set_option maxHeartbeats 8000000 in
set_option maxRecDepth 100000 in
theorem withOnly_nothing (n : Int) (r : MsgD) (u : Value) (w : World) (hv : Ints w u r.l) (hn : isGrp n = true) :
    Calls Tryz.prog 101 #[.int .i64 n, .agg #[.int .i64 r.kd, .int .i64 r.fr, .int .i64 r.tt, .int .i64 r.rp, .int .i64 r.no, .int .i64 r.b, .int .i64 r.v, .int .i64 r.st, .int .i64 r.k, .int .i64 r.i, .int .i64 r.f, .int .i64 r.t, .int .i64 r.a, .int .i64 r.s, u], .iface 182 (.agg #[])] w (fun e w' => ∃ z, e = .returned (.agg #[.int .i64 r.kd, .int .i64 r.fr, .int .i64 r.tt, .int .i64 r.rp, .int .i64 r.no, .int .i64 r.b, .int .i64 0, .int .i64 0, .int .i64 0, .int .i64 0, .int .i64 0, .int .i64 0, .int .i64 0, .int .i64 0, z]) ∧ Fresh w.heap.size w' z (noneL n) ∧ Ext w w') := by
  obtain ⟨au, cu, rfl, hlu⟩ := hv
  clear hlu
  obtain ⟨wb, hwb⟩ : ∃ wb, wb = (w.alloc (.cells #[.int .i64 r.kd, .int .i64 r.fr, .int .i64 r.tt, .int .i64 r.rp, .int .i64 r.no, .int .i64 r.b, .int .i64 r.v, .int .i64 r.st, .int .i64 r.k, .int .i64 r.i, .int .i64 r.f, .int .i64 r.t, .int .i64 r.a, .int .i64 r.s, (.slice au r.l.length cu)] 77)).alloc (.cells #[.int .i64 0, .int .i64 0, .int .i64 0, .int .i64 0, .int .i64 0, .int .i64 0, .int .i64 0, .int .i64 0, .int .i64 0, .int .i64 0, .int .i64 0, .int .i64 0, .int .i64 0, .int .i64 0, .slice none 0 0] 77) := ⟨_, rfl⟩
  have h3 := msg_two w r (.slice au r.l.length cu)
  have xb : Ext w wb := by rw [hwb]; exact Ext.alloc2 _ _ _
  have sb : wb.heap.size = w.heap.size + 2 := by rw [hwb]; simp
  rw [← hwb] at h3
  have HWB := Lib.hid hwb
  have H3 := Lib.hid h3
  have SB := Lib.hid sb
  clear hwb h3 sb
  have ta0 : ∀ W, (Instr.typeAssert (.iface 182 (.agg #[])) 150 174 true).run Tryz.prog W = .ok (.tuple #[(.agg #[.int .i64 0, .int .i64 0, .int .i64 0, .int .i64 0, .int .i64 0, .int .i64 0, .slice none 0 0]), .bool false]) W := fun W => by kernel_rfl
  have ta1 : ∀ W, (Instr.typeAssert (.iface 182 (.agg #[])) 150 176 true).run Tryz.prog W = .ok (.tuple #[(.agg #[.int .i64 0, .slice none 0 0]), .bool false]) W := fun W => by kernel_rfl
  have ta2 : ∀ W, (Instr.typeAssert (.iface 182 (.agg #[])) 150 177 true).run Tryz.prog W = .ok (.tuple #[(.agg #[.int .i64 0, .int .i64 0, .int .i64 0, .int .i64 0, .int .i64 0, .int .i64 0, .slice none 0 0]), .bool false]) W := fun W => by kernel_rfl
  have ta3 : ∀ W, (Instr.typeAssert (.iface 182 (.agg #[])) 150 179 true).run Tryz.prog W = .ok (.tuple #[(.agg #[.int .i64 0, .int .i64 0, .int .i64 0, .int .i64 0, .int .i64 0, .int .i64 0, .int .i64 0, .int .i64 0, .int .i64 0, .slice none 0 0]), .bool false]) W := fun W => by kernel_rfl
  go_enter Tryz.func101, Tryz.ntmps101
  go_wp2_with fail
  rw [← HWB.out]
  refine (joinNone_any n _ hn).mono ?_
  rintro e w1 ⟨z1, rfl, f1, x1⟩
  obtain ⟨a1, k1, rfl⟩ := f1.form
  have hsz : w.heap.size + 2 ≤ w1.heap.size := by have := x1.size; have := SB.out; omega
  have HX1 := Lib.hid (xb.trans x1)
  have F1 := Lib.hid f1
  have HP := Lib.hid (H3.out.1.1.ext x1)
  have HO := Lib.hid (H3.out.2.1.ext x1)
  have HY := Lib.hid (H3.out.1.2.ext (by have := SB.out; omega) x1)
  have HZ := Lib.hid (H3.out.2.2.ext (by have := SB.out; omega) x1)
  have HSZ := Lib.hid hsz
  clear f1 x1 H3 xb
  obtain ⟨p0, p1, p2, p3, p4, p5, p6, p7, p8, p9, p10, p11, p12, p13, p14⟩ := HP.out
  obtain ⟨y0, y1, y2, y3, y4, y5, y6, y7, y8, y9, y10, y11, y12, y13, y14⟩ := HY.out
  go_upto_region 2 with fail
  obtain ⟨w2, hw2⟩ : ∃ w2, w2 = (((((((((w1.setCell ⟨w.heap.size, 6, none⟩ (.int .i64 0)).setCell ⟨w.heap.size, 7, none⟩ (.int .i64 0)).setCell ⟨w.heap.size, 8, none⟩ (.int .i64 0)).setCell ⟨w.heap.size, 9, none⟩ (.int .i64 0)).setCell ⟨w.heap.size, 10, none⟩ (.int .i64 0)).setCell ⟨w.heap.size, 11, none⟩ (.int .i64 0)).setCell ⟨w.heap.size, 12, none⟩ (.int .i64 0)).setCell ⟨w.heap.size, 13, none⟩ (.int .i64 0)).setCell ⟨w.heap.size, 14, none⟩ (.slice a1 (noneL n).length k1)) := ⟨_, rfl⟩
  have m2 : MsgAt w2 w.heap.size ⟨r.kd, r.fr, r.tt, r.rp, r.no, r.b, 0, 0, 0, 0, 0, 0, 0, 0, noneL n⟩ (.slice a1 (noneL n).length k1) := by
    rw [hw2]
    exact msg_set9 0 0 0 0 0 0 0 0 _ HP.out
  have g2 : FreeM w2 w.heap.size := by rw [hw2]; exact freeM_set _ _ (freeM_set _ _ (freeM_set _ _ (freeM_set _ _ (freeM_set _ _ (freeM_set _ _ (freeM_set _ _ (freeM_set _ _ (freeM_set _ _ HY.out))))))))
  have o2 : MsgAt w2 (w.heap.size + 1) zeroM (.slice none 0 0) := by rw [hw2]; exact msg_apart _ _ (by simp) (msg_apart _ _ (by simp) (msg_apart _ _ (by simp) (msg_apart _ _ (by simp) (msg_apart _ _ (by simp) (msg_apart _ _ (by simp) (msg_apart _ _ (by simp) (msg_apart _ _ (by simp) (msg_apart _ _ (by simp) HO.out))))))))
  have q2 : FreeM w2 (w.heap.size + 1) := by rw [hw2]; exact freeM_set _ _ (freeM_set _ _ (freeM_set _ _ (freeM_set _ _ (freeM_set _ _ (freeM_set _ _ (freeM_set _ _ (freeM_set _ _ (freeM_set _ _ HZ.out))))))))
  have x2 : Ext w w2 := by rw [hw2]; exact (((((((((HX1.out.setc (by dsimp only; omega)).setc (by dsimp only; omega)).setc (by dsimp only; omega)).setc (by dsimp only; omega)).setc (by dsimp only; omega)).setc (by dsimp only; omega)).setc (by dsimp only; omega)).setc (by dsimp only; omega)).setc (by dsimp only; omega))
  have s2 : w.heap.size + 2 ≤ w2.heap.size := by rw [hw2]; simp only [World.size_setCell]; exact hsz
  have F2 : Hid (Fresh (w.heap.size + 2) w2 (.slice a1 (noneL n).length k1) (noneL n)) := Lib.hid (by
    rw [hw2]
    have h := F1.out
    rw [SB.out] at h
    exact (((((((((h.set _ _ _ (by omega)).set _ _ _ (by omega)).set _ _ _ (by omega)).set _ _ _ (by omega)).set _ _ _ (by omega)).set _ _ _ (by omega)).set _ _ _ (by omega)).set _ _ _ (by omega)).set _ _ _ (by omega)))
  rw [← hw2]
  clear hw2 hsz HP HO HY HZ HX1 F1 p0 p1 p2 p3 p4 p5 p6 p7 p8 p9 p10 p11 p12 p13 p14 y0 y1 y2 y3 y4 y5 y6 y7 y8 y9 y10 y11 y12 y13 y14
  have M2 := Lib.hid m2
  have X2 := Lib.hid x2
  clear x2
  obtain ⟨p0, p1, p2, p3, p4, p5, p6, p7, p8, p9, p10, p11, p12, p13, p14⟩ := m2
  obtain ⟨o0, o1, o2, o3, o4, o5, o6, o7, o8, o9, o10, o11, o12, o13, o14⟩ := o2
  obtain ⟨y0, y1, y2, y3, y4, y5, y6, y7, y8, y9, y10, y11, y12, y13, y14⟩ := q2
  simp only [zeroM] at o0 o1 o2 o3 o4 o5 o6 o7 o8 o9 o10 o11 o12 o13 p0 p1 p2 p3 p4 p5 p6 p7 p8 p9 p10 p11 p12 p13
  clear g2
  go_wp2
  refine bodyPost_ret (v := .agg #[.int .i64 r.kd, .int .i64 r.fr, .int .i64 r.tt, .int .i64 r.rp, .int .i64 r.no, .int .i64 r.b, .int .i64 0, .int .i64 0, .int .i64 0, .int .i64 0, .int .i64 0, .int .i64 0, .int .i64 0, .int .i64 0, .slice a1 (noneL n).length k1]) (by simp [results, Tryz.results101, go_sem, o0, o1, o2, o3, o4, o5, o6, o7, o8, o9, o10, o11, o12, o13, o14]) rfl ⟨_, rfl, ?_, ?_⟩
  · exact ((((((((((((((((F2.out.set _ _ _ (by omega)).set _ _ _ (by omega)).set _ _ _ (by omega)).set _ _ _ (by omega)).set _ _ _ (by omega)).set _ _ _ (by omega)).set _ _ _ (by omega)).set _ _ _ (by omega)).set _ _ _ (by omega)).set _ _ _ (by omega)).set _ _ _ (by omega)).set _ _ _ (by omega)).set _ _ _ (by omega)).set _ _ _ (by omega)).set _ _ _ (by omega))).more (by omega)
  · exact (((((((((((((((X2.out.setc (by dsimp only; omega)).setc (by dsimp only; omega)).setc (by dsimp only; omega)).setc (by dsimp only; omega)).setc (by dsimp only; omega)).setc (by dsimp only; omega)).setc (by dsimp only; omega)).setc (by dsimp only; omega)).setc (by dsimp only; omega)).setc (by dsimp only; omega)).setc (by dsimp only; omega)).setc (by dsimp only; omega)).setc (by dsimp only; omega)).setc (by dsimp only; omega)).setc (by dsimp only; omega))
theorem msg_set7 {w : World} {b : Nat} {d : MsgD} {y : Value} (k i f t a s : Int) (z : Value) {l : List Int} (h : MsgAt w b d y) :
    MsgAt (((((((w.setCell ⟨b, 8, none⟩ (.int .i64 k)).setCell ⟨b, 9, none⟩ (.int .i64 i)).setCell ⟨b, 10, none⟩ (.int .i64 f)).setCell ⟨b, 11, none⟩ (.int .i64 t)).setCell ⟨b, 12, none⟩ (.int .i64 a)).setCell ⟨b, 13, none⟩ (.int .i64 s)).setCell ⟨b, 14, none⟩ z) b ⟨d.kd, d.fr, d.tt, d.rp, d.no, d.b, d.v, d.st, k, i, f, t, a, s, l⟩ z := by
  obtain ⟨h0, h1, h2, h3, h4, h5, h6, h7, h8, h9, h10, h11, h12, h13, h14⟩ := h
  refine ⟨?_, ?_, ?_, ?_, ?_, ?_, ?_, ?_, ?_, ?_, ?_, ?_, ?_, ?_, ?_⟩ <;> go_simp
theorem msg_set2 {w : World} {b : Nat} {d : MsgD} {y : Value} (s : Int) (z : Value) {l : List Int} (h : MsgAt w b d y) :
    MsgAt ((w.setCell ⟨b, 13, none⟩ (.int .i64 s)).setCell ⟨b, 14, none⟩ z) b ⟨d.kd, d.fr, d.tt, d.rp, d.no, d.b, d.v, d.st, d.k, d.i, d.f, d.t, d.a, s, l⟩ z := by
  obtain ⟨h0, h1, h2, h3, h4, h5, h6, h7, h8, h9, h10, h11, h12, h13, h14⟩ := h
  refine ⟨?_, ?_, ?_, ?_, ?_, ?_, ?_, ?_, ?_, ?_, ?_, ?_, ?_, ?_, ?_⟩ <;> go_simp

set_option maxHeartbeats 8000000 in
set_option maxRecDepth 100000 in
theorem withOnly_proposal (n : Int) (r : MsgD) (u : Value) (w : World) (hv : Ints w u r.l) (hn : isGrp n = true) :
    Calls Tryz.prog 101 #[.int .i64 n, .agg #[.int .i64 r.kd, .int .i64 r.fr, .int .i64 r.tt, .int .i64 r.rp, .int .i64 r.no, .int .i64 r.b, .int .i64 r.v, .int .i64 r.st, .int .i64 r.k, .int .i64 r.i, .int .i64 r.f, .int .i64 r.t, .int .i64 r.a, .int .i64 r.s, u], .iface 174 (.agg #[.int .i64 r.k, .int .i64 r.i, .int .i64 r.f, .int .i64 r.t, .int .i64 r.a, .int .i64 r.s, u])] w (fun e w' => ∃ z, e = .returned (.agg #[.int .i64 r.kd, .int .i64 r.fr, .int .i64 r.tt, .int .i64 r.rp, .int .i64 r.no, .int .i64 r.b, .int .i64 0, .int .i64 0, .int .i64 r.k, .int .i64 r.i, .int .i64 r.f, .int .i64 r.t, .int .i64 r.a, .int .i64 r.s, z]) ∧ z = u ∧ Ext w w') := by
  obtain ⟨au, cu, rfl, hlu⟩ := hv
  clear hlu
  obtain ⟨wb, hwb⟩ : ∃ wb, wb = (w.alloc (.cells #[.int .i64 r.kd, .int .i64 r.fr, .int .i64 r.tt, .int .i64 r.rp, .int .i64 r.no, .int .i64 r.b, .int .i64 r.v, .int .i64 r.st, .int .i64 r.k, .int .i64 r.i, .int .i64 r.f, .int .i64 r.t, .int .i64 r.a, .int .i64 r.s, (.slice au r.l.length cu)] 77)).alloc (.cells #[.int .i64 0, .int .i64 0, .int .i64 0, .int .i64 0, .int .i64 0, .int .i64 0, .int .i64 0, .int .i64 0, .int .i64 0, .int .i64 0, .int .i64 0, .int .i64 0, .int .i64 0, .int .i64 0, .slice none 0 0] 77) := ⟨_, rfl⟩
  have h3 := msg_two w r (.slice au r.l.length cu)
  have xb : Ext w wb := by rw [hwb]; exact Ext.alloc2 _ _ _
  have sb : wb.heap.size = w.heap.size + 2 := by rw [hwb]; simp
  rw [← hwb] at h3
  have HWB := Lib.hid hwb
  have H3 := Lib.hid h3
  have SB := Lib.hid sb
  clear hwb h3 sb
  have ta0 : ∀ W, (Instr.typeAssert (.iface 174 (.agg #[.int .i64 r.k, .int .i64 r.i, .int .i64 r.f, .int .i64 r.t, .int .i64 r.a, .int .i64 r.s, (.slice au r.l.length cu)])) 150 174 true).run Tryz.prog W = .ok (.tuple #[(.agg #[.int .i64 r.k, .int .i64 r.i, .int .i64 r.f, .int .i64 r.t, .int .i64 r.a, .int .i64 r.s, (.slice au r.l.length cu)]), .bool true]) W := fun W => by kernel_rfl
  go_enter Tryz.func101, Tryz.ntmps101
  go_wp2_with fail
  rw [← HWB.out]
  refine (joinNone_any n _ hn).mono ?_
  rintro e w1 ⟨z1, rfl, f1, x1⟩
  obtain ⟨a1, k1, rfl⟩ := f1.form
  have hsz : w.heap.size + 2 ≤ w1.heap.size := by have := x1.size; have := SB.out; omega
  have HX1 := Lib.hid (xb.trans x1)
  have F1 := Lib.hid f1
  have HP := Lib.hid (H3.out.1.1.ext x1)
  have HO := Lib.hid (H3.out.2.1.ext x1)
  have HY := Lib.hid (H3.out.1.2.ext (by have := SB.out; omega) x1)
  have HZ := Lib.hid (H3.out.2.2.ext (by have := SB.out; omega) x1)
  have HSZ := Lib.hid hsz
  clear f1 x1 H3 xb
  obtain ⟨p0, p1, p2, p3, p4, p5, p6, p7, p8, p9, p10, p11, p12, p13, p14⟩ := HP.out
  obtain ⟨y0, y1, y2, y3, y4, y5, y6, y7, y8, y9, y10, y11, y12, y13, y14⟩ := HY.out
  go_upto_region 2 with fail
  obtain ⟨w2, hw2⟩ : ∃ w2, w2 = (((((((((w1.setCell ⟨w.heap.size, 6, none⟩ (.int .i64 0)).setCell ⟨w.heap.size, 7, none⟩ (.int .i64 0)).setCell ⟨w.heap.size, 8, none⟩ (.int .i64 0)).setCell ⟨w.heap.size, 9, none⟩ (.int .i64 0)).setCell ⟨w.heap.size, 10, none⟩ (.int .i64 0)).setCell ⟨w.heap.size, 11, none⟩ (.int .i64 0)).setCell ⟨w.heap.size, 12, none⟩ (.int .i64 0)).setCell ⟨w.heap.size, 13, none⟩ (.int .i64 0)).setCell ⟨w.heap.size, 14, none⟩ (.slice a1 (noneL n).length k1)) := ⟨_, rfl⟩
  have m2 : MsgAt w2 w.heap.size ⟨r.kd, r.fr, r.tt, r.rp, r.no, r.b, 0, 0, 0, 0, 0, 0, 0, 0, noneL n⟩ (.slice a1 (noneL n).length k1) := by
    rw [hw2]
    exact msg_set9 0 0 0 0 0 0 0 0 _ HP.out
  have g2 : FreeM w2 w.heap.size := by rw [hw2]; exact freeM_set _ _ (freeM_set _ _ (freeM_set _ _ (freeM_set _ _ (freeM_set _ _ (freeM_set _ _ (freeM_set _ _ (freeM_set _ _ (freeM_set _ _ HY.out))))))))
  have o2 : MsgAt w2 (w.heap.size + 1) zeroM (.slice none 0 0) := by rw [hw2]; exact msg_apart _ _ (by simp) (msg_apart _ _ (by simp) (msg_apart _ _ (by simp) (msg_apart _ _ (by simp) (msg_apart _ _ (by simp) (msg_apart _ _ (by simp) (msg_apart _ _ (by simp) (msg_apart _ _ (by simp) (msg_apart _ _ (by simp) HO.out))))))))
  have q2 : FreeM w2 (w.heap.size + 1) := by rw [hw2]; exact freeM_set _ _ (freeM_set _ _ (freeM_set _ _ (freeM_set _ _ (freeM_set _ _ (freeM_set _ _ (freeM_set _ _ (freeM_set _ _ (freeM_set _ _ HZ.out))))))))
  have x2 : Ext w w2 := by rw [hw2]; exact (((((((((HX1.out.setc (by dsimp only; omega)).setc (by dsimp only; omega)).setc (by dsimp only; omega)).setc (by dsimp only; omega)).setc (by dsimp only; omega)).setc (by dsimp only; omega)).setc (by dsimp only; omega)).setc (by dsimp only; omega)).setc (by dsimp only; omega))
  have s2 : w.heap.size + 2 ≤ w2.heap.size := by rw [hw2]; simp only [World.size_setCell]; exact hsz
  have F2 : Hid (Fresh (w.heap.size + 2) w2 (.slice a1 (noneL n).length k1) (noneL n)) := Lib.hid (by
    rw [hw2]
    have h := F1.out
    rw [SB.out] at h
    exact (((((((((h.set _ _ _ (by omega)).set _ _ _ (by omega)).set _ _ _ (by omega)).set _ _ _ (by omega)).set _ _ _ (by omega)).set _ _ _ (by omega)).set _ _ _ (by omega)).set _ _ _ (by omega)).set _ _ _ (by omega)))
  rw [← hw2]
  clear hw2 hsz HP HO HY HZ HX1 F1 p0 p1 p2 p3 p4 p5 p6 p7 p8 p9 p10 p11 p12 p13 p14 y0 y1 y2 y3 y4 y5 y6 y7 y8 y9 y10 y11 y12 y13 y14
  have M2 := Lib.hid m2
  have G2 := Lib.hid g2
  have O2 := Lib.hid o2
  have Q2 := Lib.hid q2
  have X2 := Lib.hid x2
  clear m2 g2 o2 q2 x2
  go_upto_region 5 with fail
  obtain ⟨w3, hw3⟩ : ∃ w3, w3 = w2.alloc (.cells #[.int .i64 r.k, .int .i64 r.i, .int .i64 r.f, .int .i64 r.t, .int .i64 r.a, .int .i64 r.s, .slice au r.l.length cu] 174) := ⟨_, rfl⟩
  have x23 : Ext w2 w3 := by rw [hw3]; exact Ext.alloc1 _ _
  have c0 : w3.cell? ⟨w2.heap.size, 0, none⟩ = some (.int .i64 r.k) := by rw [hw3]; go_simp
  have c1 : w3.cell? ⟨w2.heap.size, 1, none⟩ = some (.int .i64 r.i) := by rw [hw3]; go_simp
  have c2 : w3.cell? ⟨w2.heap.size, 2, none⟩ = some (.int .i64 r.f) := by rw [hw3]; go_simp
  have c3 : w3.cell? ⟨w2.heap.size, 3, none⟩ = some (.int .i64 r.t) := by rw [hw3]; go_simp
  have c4 : w3.cell? ⟨w2.heap.size, 4, none⟩ = some (.int .i64 r.a) := by rw [hw3]; go_simp
  have c5 : w3.cell? ⟨w2.heap.size, 5, none⟩ = some (.int .i64 r.s) := by rw [hw3]; go_simp
  have c6 : w3.cell? ⟨w2.heap.size, 6, none⟩ = some (.slice au r.l.length cu) := by rw [hw3]; go_simp
  obtain ⟨p0, p1, p2, p3, p4, p5, p6, p7, p8, p9, p10, p11, p12, p13, p14⟩ := M2.out.ext x23
  obtain ⟨o0, o1, o2, o3, o4, o5, o6, o7, o8, o9, o10, o11, o12, o13, o14⟩ := O2.out.ext x23
  obtain ⟨y0, y1, y2, y3, y4, y5, y6, y7, y8, y9, y10, y11, y12, y13, y14⟩ := G2.out.ext (by omega) x23
  obtain ⟨q0, q1, q2, q3, q4, q5, q6, q7, q8, q9, q10, q11, q12, q13, q14⟩ := Q2.out.ext (by omega) x23
  simp only [zeroM] at o0 o1 o2 o3 o4 o5 o6 o7 o8 o9 o10 o11 o12 o13 p0 p1 p2 p3 p4 p5 p6 p7 p8 p9 p10 p11 p12 p13
  have X3 := Lib.hid (X2.out.trans x23)
  rw [← hw3]
  clear hw3 F2
  go_region
  obtain ⟨w4, hw4⟩ : ∃ w4, w4 = ((((((((w3.setCell ⟨w.heap.size, 8, none⟩ (.int .i64 r.k)).setCell ⟨w.heap.size, 9, none⟩ (.int .i64 r.i)).setCell ⟨w.heap.size, 10, none⟩ (.int .i64 r.f)).setCell ⟨w.heap.size, 11, none⟩ (.int .i64 r.t)).setCell ⟨w.heap.size, 12, none⟩ (.int .i64 r.a)).setCell ⟨w.heap.size, 13, none⟩ (.int .i64 r.s)).setCell ⟨w.heap.size, 14, none⟩ (.slice au r.l.length cu))).drew := ⟨_, rfl⟩
  have x34 : Ext ((((((((w3.setCell ⟨w.heap.size, 8, none⟩ (.int .i64 r.k)).setCell ⟨w.heap.size, 9, none⟩ (.int .i64 r.i)).setCell ⟨w.heap.size, 10, none⟩ (.int .i64 r.f)).setCell ⟨w.heap.size, 11, none⟩ (.int .i64 r.t)).setCell ⟨w.heap.size, 12, none⟩ (.int .i64 r.a)).setCell ⟨w.heap.size, 13, none⟩ (.int .i64 r.s)).setCell ⟨w.heap.size, 14, none⟩ (.slice au r.l.length cu))) w4 := by rw [hw4]; exact Ext.drew (Ext.refl _)
  have m4 := (msg_set7 (l := r.l) r.k r.i r.f r.t r.a r.s (.slice au r.l.length cu) (M2.out.ext x23)).ext x34
  have mo4 : MsgAt w4 (w.heap.size + 1) zeroM (.slice none 0 0) := MsgAt.ext (msg_apart _ _ (by simp) (msg_apart _ _ (by simp) (msg_apart _ _ (by simp) (msg_apart _ _ (by simp) (msg_apart _ _ (by simp) (msg_apart _ _ (by simp) (msg_apart _ _ (by simp) (O2.out.ext x23)))))))) x34
  have mq4 : FreeM w4 (w.heap.size + 1) := FreeM.ext (by simp only [World.size_setCell]; have := x23.size; omega) (freeM_set _ _ (freeM_set _ _ (freeM_set _ _ (freeM_set _ _ (freeM_set _ _ (freeM_set _ _ (freeM_set _ _ (Q2.out.ext (by omega) x23)))))))) x34
  have x4 : Ext w w4 := by rw [hw4]; exact Ext.drew (((((((X3.out.setc (by dsimp only; omega)).setc (by dsimp only; omega)).setc (by dsimp only; omega)).setc (by dsimp only; omega)).setc (by dsimp only; omega)).setc (by dsimp only; omega)).setc (by dsimp only; omega))
  have s4 : w.heap.size + 2 ≤ w4.heap.size := by
    have h1 := x34.size
    simp only [World.size_setCell] at h1
    have h2 := x23.size
    omega
  rw [← hw4]
  have X4 := Lib.hid x4
  clear hw4 x34 x4 x23 X3 p0 p1 p2 p3 p4 p5 p6 p7 p8 p9 p10 p11 p12 p13 p14 o0 o1 o2 o3 o4 o5 o6 o7 o8 o9 o10 o11 o12 o13 o14 y0 y1 y2 y3 y4 y5 y6 y7 y8 y9 y10 y11 y12 y13 y14 q0 q1 q2 q3 q4 q5 q6 q7 q8 q9 q10 q11 q12 q13 q14 c0 c1 c2 c3 c4 c5 c6
  obtain ⟨p0, p1, p2, p3, p4, p5, p6, p7, p8, p9, p10, p11, p12, p13, p14⟩ := m4
  obtain ⟨o0, o1, o2, o3, o4, o5, o6, o7, o8, o9, o10, o11, o12, o13, o14⟩ := mo4
  obtain ⟨q0, q1, q2, q3, q4, q5, q6, q7, q8, q9, q10, q11, q12, q13, q14⟩ := mq4
  simp only [zeroM] at o0 o1 o2 o3 o4 o5 o6 o7 o8 o9 o10 o11 o12 o13 p0 p1 p2 p3 p4 p5 p6 p7 p8 p9 p10 p11 p12 p13
  go_wp2
  refine bodyPost_ret (v := .agg #[.int .i64 r.kd, .int .i64 r.fr, .int .i64 r.tt, .int .i64 r.rp, .int .i64 r.no, .int .i64 r.b, .int .i64 0, .int .i64 0, .int .i64 r.k, .int .i64 r.i, .int .i64 r.f, .int .i64 r.t, .int .i64 r.a, .int .i64 r.s, .slice au r.l.length cu]) (by simp [results, Tryz.results101, go_sem, o0, o1, o2, o3, o4, o5, o6, o7, o8, o9, o10, o11, o12, o13, o14]) rfl ⟨_, rfl, rfl, ?_⟩
  exact (((((((((((((((X4.out.setc (by dsimp only; omega)).setc (by dsimp only; omega)).setc (by dsimp only; omega)).setc (by dsimp only; omega)).setc (by dsimp only; omega)).setc (by dsimp only; omega)).setc (by dsimp only; omega)).setc (by dsimp only; omega)).setc (by dsimp only; omega)).setc (by dsimp only; omega)).setc (by dsimp only; omega)).setc (by dsimp only; omega)).setc (by dsimp only; omega)).setc (by dsimp only; omega)).setc (by dsimp only; omega))

set_option maxHeartbeats 8000000 in
set_option maxRecDepth 100000 in
theorem withOnly_outcome (n : Int) (r : MsgD) (u : Value) (w : World) (hv : Ints w u r.l) (hn : isGrp n = true) :
    Calls Tryz.prog 101 #[.int .i64 n, .agg #[.int .i64 r.kd, .int .i64 r.fr, .int .i64 r.tt, .int .i64 r.rp, .int .i64 r.no, .int .i64 r.b, .int .i64 r.v, .int .i64 r.st, .int .i64 r.k, .int .i64 r.i, .int .i64 r.f, .int .i64 r.t, .int .i64 r.a, .int .i64 r.s, u], .iface 177 (.agg #[.int .i64 r.k, .int .i64 r.i, .int .i64 r.f, .int .i64 r.t, .int .i64 r.a, .int .i64 r.s, u])] w (fun e w' => ∃ z, e = .returned (.agg #[.int .i64 r.kd, .int .i64 r.fr, .int .i64 r.tt, .int .i64 r.rp, .int .i64 r.no, .int .i64 r.b, .int .i64 0, .int .i64 0, .int .i64 r.k, .int .i64 r.i, .int .i64 r.f, .int .i64 r.t, .int .i64 r.a, .int .i64 r.s, z]) ∧ z = u ∧ Ext w w') := by
  obtain ⟨au, cu, rfl, hlu⟩ := hv
  clear hlu
  obtain ⟨wb, hwb⟩ : ∃ wb, wb = (w.alloc (.cells #[.int .i64 r.kd, .int .i64 r.fr, .int .i64 r.tt, .int .i64 r.rp, .int .i64 r.no, .int .i64 r.b, .int .i64 r.v, .int .i64 r.st, .int .i64 r.k, .int .i64 r.i, .int .i64 r.f, .int .i64 r.t, .int .i64 r.a, .int .i64 r.s, (.slice au r.l.length cu)] 77)).alloc (.cells #[.int .i64 0, .int .i64 0, .int .i64 0, .int .i64 0, .int .i64 0, .int .i64 0, .int .i64 0, .int .i64 0, .int .i64 0, .int .i64 0, .int .i64 0, .int .i64 0, .int .i64 0, .int .i64 0, .slice none 0 0] 77) := ⟨_, rfl⟩
  have h3 := msg_two w r (.slice au r.l.length cu)
  have xb : Ext w wb := by rw [hwb]; exact Ext.alloc2 _ _ _
  have sb : wb.heap.size = w.heap.size + 2 := by rw [hwb]; simp
  rw [← hwb] at h3
  have HWB := Lib.hid hwb
  have H3 := Lib.hid h3
  have SB := Lib.hid sb
  clear hwb h3 sb
  have ta0 : ∀ W, (Instr.typeAssert (.iface 177 (.agg #[.int .i64 r.k, .int .i64 r.i, .int .i64 r.f, .int .i64 r.t, .int .i64 r.a, .int .i64 r.s, (.slice au r.l.length cu)])) 150 174 true).run Tryz.prog W = .ok (.tuple #[(.agg #[.int .i64 0, .int .i64 0, .int .i64 0, .int .i64 0, .int .i64 0, .int .i64 0, .slice none 0 0]), .bool false]) W := fun W => by kernel_rfl
  have ta1 : ∀ W, (Instr.typeAssert (.iface 177 (.agg #[.int .i64 r.k, .int .i64 r.i, .int .i64 r.f, .int .i64 r.t, .int .i64 r.a, .int .i64 r.s, (.slice au r.l.length cu)])) 150 176 true).run Tryz.prog W = .ok (.tuple #[(.agg #[.int .i64 0, .slice none 0 0]), .bool false]) W := fun W => by kernel_rfl
  have ta2 : ∀ W, (Instr.typeAssert (.iface 177 (.agg #[.int .i64 r.k, .int .i64 r.i, .int .i64 r.f, .int .i64 r.t, .int .i64 r.a, .int .i64 r.s, (.slice au r.l.length cu)])) 150 177 true).run Tryz.prog W = .ok (.tuple #[(.agg #[.int .i64 r.k, .int .i64 r.i, .int .i64 r.f, .int .i64 r.t, .int .i64 r.a, .int .i64 r.s, (.slice au r.l.length cu)]), .bool true]) W := fun W => by kernel_rfl
  go_enter Tryz.func101, Tryz.ntmps101
  go_wp2_with fail
  rw [← HWB.out]
  refine (joinNone_any n _ hn).mono ?_
  rintro e w1 ⟨z1, rfl, f1, x1⟩
  obtain ⟨a1, k1, rfl⟩ := f1.form
  have hsz : w.heap.size + 2 ≤ w1.heap.size := by have := x1.size; have := SB.out; omega
  have HX1 := Lib.hid (xb.trans x1)
  have F1 := Lib.hid f1
  have HP := Lib.hid (H3.out.1.1.ext x1)
  have HO := Lib.hid (H3.out.2.1.ext x1)
  have HY := Lib.hid (H3.out.1.2.ext (by have := SB.out; omega) x1)
  have HZ := Lib.hid (H3.out.2.2.ext (by have := SB.out; omega) x1)
  have HSZ := Lib.hid hsz
  clear f1 x1 H3 xb
  obtain ⟨p0, p1, p2, p3, p4, p5, p6, p7, p8, p9, p10, p11, p12, p13, p14⟩ := HP.out
  obtain ⟨y0, y1, y2, y3, y4, y5, y6, y7, y8, y9, y10, y11, y12, y13, y14⟩ := HY.out
  go_upto_region 2 with fail
  obtain ⟨w2, hw2⟩ : ∃ w2, w2 = (((((((((w1.setCell ⟨w.heap.size, 6, none⟩ (.int .i64 0)).setCell ⟨w.heap.size, 7, none⟩ (.int .i64 0)).setCell ⟨w.heap.size, 8, none⟩ (.int .i64 0)).setCell ⟨w.heap.size, 9, none⟩ (.int .i64 0)).setCell ⟨w.heap.size, 10, none⟩ (.int .i64 0)).setCell ⟨w.heap.size, 11, none⟩ (.int .i64 0)).setCell ⟨w.heap.size, 12, none⟩ (.int .i64 0)).setCell ⟨w.heap.size, 13, none⟩ (.int .i64 0)).setCell ⟨w.heap.size, 14, none⟩ (.slice a1 (noneL n).length k1)) := ⟨_, rfl⟩
  have m2 : MsgAt w2 w.heap.size ⟨r.kd, r.fr, r.tt, r.rp, r.no, r.b, 0, 0, 0, 0, 0, 0, 0, 0, noneL n⟩ (.slice a1 (noneL n).length k1) := by
    rw [hw2]
    exact msg_set9 0 0 0 0 0 0 0 0 _ HP.out
  have g2 : FreeM w2 w.heap.size := by rw [hw2]; exact freeM_set _ _ (freeM_set _ _ (freeM_set _ _ (freeM_set _ _ (freeM_set _ _ (freeM_set _ _ (freeM_set _ _ (freeM_set _ _ (freeM_set _ _ HY.out))))))))
  have o2 : MsgAt w2 (w.heap.size + 1) zeroM (.slice none 0 0) := by rw [hw2]; exact msg_apart _ _ (by simp) (msg_apart _ _ (by simp) (msg_apart _ _ (by simp) (msg_apart _ _ (by simp) (msg_apart _ _ (by simp) (msg_apart _ _ (by simp) (msg_apart _ _ (by simp) (msg_apart _ _ (by simp) (msg_apart _ _ (by simp) HO.out))))))))
  have q2 : FreeM w2 (w.heap.size + 1) := by rw [hw2]; exact freeM_set _ _ (freeM_set _ _ (freeM_set _ _ (freeM_set _ _ (freeM_set _ _ (freeM_set _ _ (freeM_set _ _ (freeM_set _ _ (freeM_set _ _ HZ.out))))))))
  have x2 : Ext w w2 := by rw [hw2]; exact (((((((((HX1.out.setc (by dsimp only; omega)).setc (by dsimp only; omega)).setc (by dsimp only; omega)).setc (by dsimp only; omega)).setc (by dsimp only; omega)).setc (by dsimp only; omega)).setc (by dsimp only; omega)).setc (by dsimp only; omega)).setc (by dsimp only; omega))
  have s2 : w.heap.size + 2 ≤ w2.heap.size := by rw [hw2]; simp only [World.size_setCell]; exact hsz
  have F2 : Hid (Fresh (w.heap.size + 2) w2 (.slice a1 (noneL n).length k1) (noneL n)) := Lib.hid (by
    rw [hw2]
    have h := F1.out
    rw [SB.out] at h
    exact (((((((((h.set _ _ _ (by omega)).set _ _ _ (by omega)).set _ _ _ (by omega)).set _ _ _ (by omega)).set _ _ _ (by omega)).set _ _ _ (by omega)).set _ _ _ (by omega)).set _ _ _ (by omega)).set _ _ _ (by omega)))
  rw [← hw2]
  clear hw2 hsz HP HO HY HZ HX1 F1 p0 p1 p2 p3 p4 p5 p6 p7 p8 p9 p10 p11 p12 p13 p14 y0 y1 y2 y3 y4 y5 y6 y7 y8 y9 y10 y11 y12 y13 y14
  have M2 := Lib.hid m2
  have G2 := Lib.hid g2
  have O2 := Lib.hid o2
  have Q2 := Lib.hid q2
  have X2 := Lib.hid x2
  clear m2 g2 o2 q2 x2
  go_upto_region 11 with fail
  obtain ⟨w3, hw3⟩ : ∃ w3, w3 = w2.alloc (.cells #[.int .i64 r.k, .int .i64 r.i, .int .i64 r.f, .int .i64 r.t, .int .i64 r.a, .int .i64 r.s, .slice au r.l.length cu] 177) := ⟨_, rfl⟩
  have x23 : Ext w2 w3 := by rw [hw3]; exact Ext.alloc1 _ _
  have c0 : w3.cell? ⟨w2.heap.size, 0, none⟩ = some (.int .i64 r.k) := by rw [hw3]; go_simp
  have c1 : w3.cell? ⟨w2.heap.size, 1, none⟩ = some (.int .i64 r.i) := by rw [hw3]; go_simp
  have c2 : w3.cell? ⟨w2.heap.size, 2, none⟩ = some (.int .i64 r.f) := by rw [hw3]; go_simp
  have c3 : w3.cell? ⟨w2.heap.size, 3, none⟩ = some (.int .i64 r.t) := by rw [hw3]; go_simp
  have c4 : w3.cell? ⟨w2.heap.size, 4, none⟩ = some (.int .i64 r.a) := by rw [hw3]; go_simp
  have c5 : w3.cell? ⟨w2.heap.size, 5, none⟩ = some (.int .i64 r.s) := by rw [hw3]; go_simp
  have c6 : w3.cell? ⟨w2.heap.size, 6, none⟩ = some (.slice au r.l.length cu) := by rw [hw3]; go_simp
  obtain ⟨p0, p1, p2, p3, p4, p5, p6, p7, p8, p9, p10, p11, p12, p13, p14⟩ := M2.out.ext x23
  obtain ⟨o0, o1, o2, o3, o4, o5, o6, o7, o8, o9, o10, o11, o12, o13, o14⟩ := O2.out.ext x23
  obtain ⟨y0, y1, y2, y3, y4, y5, y6, y7, y8, y9, y10, y11, y12, y13, y14⟩ := G2.out.ext (by omega) x23
  obtain ⟨q0, q1, q2, q3, q4, q5, q6, q7, q8, q9, q10, q11, q12, q13, q14⟩ := Q2.out.ext (by omega) x23
  simp only [zeroM] at o0 o1 o2 o3 o4 o5 o6 o7 o8 o9 o10 o11 o12 o13 p0 p1 p2 p3 p4 p5 p6 p7 p8 p9 p10 p11 p12 p13
  have X3 := Lib.hid (X2.out.trans x23)
  rw [← hw3]
  clear hw3 F2
  go_region
  obtain ⟨w4, hw4⟩ : ∃ w4, w4 = ((((((((w3.setCell ⟨w.heap.size, 8, none⟩ (.int .i64 r.k)).setCell ⟨w.heap.size, 9, none⟩ (.int .i64 r.i)).setCell ⟨w.heap.size, 10, none⟩ (.int .i64 r.f)).setCell ⟨w.heap.size, 11, none⟩ (.int .i64 r.t)).setCell ⟨w.heap.size, 12, none⟩ (.int .i64 r.a)).setCell ⟨w.heap.size, 13, none⟩ (.int .i64 r.s)).setCell ⟨w.heap.size, 14, none⟩ (.slice au r.l.length cu))).drew := ⟨_, rfl⟩
  have x34 : Ext ((((((((w3.setCell ⟨w.heap.size, 8, none⟩ (.int .i64 r.k)).setCell ⟨w.heap.size, 9, none⟩ (.int .i64 r.i)).setCell ⟨w.heap.size, 10, none⟩ (.int .i64 r.f)).setCell ⟨w.heap.size, 11, none⟩ (.int .i64 r.t)).setCell ⟨w.heap.size, 12, none⟩ (.int .i64 r.a)).setCell ⟨w.heap.size, 13, none⟩ (.int .i64 r.s)).setCell ⟨w.heap.size, 14, none⟩ (.slice au r.l.length cu))) w4 := by rw [hw4]; exact Ext.drew (Ext.refl _)
  have m4 := (msg_set7 (l := r.l) r.k r.i r.f r.t r.a r.s (.slice au r.l.length cu) (M2.out.ext x23)).ext x34
  have mo4 : MsgAt w4 (w.heap.size + 1) zeroM (.slice none 0 0) := MsgAt.ext (msg_apart _ _ (by simp) (msg_apart _ _ (by simp) (msg_apart _ _ (by simp) (msg_apart _ _ (by simp) (msg_apart _ _ (by simp) (msg_apart _ _ (by simp) (msg_apart _ _ (by simp) (O2.out.ext x23)))))))) x34
  have mq4 : FreeM w4 (w.heap.size + 1) := FreeM.ext (by simp only [World.size_setCell]; have := x23.size; omega) (freeM_set _ _ (freeM_set _ _ (freeM_set _ _ (freeM_set _ _ (freeM_set _ _ (freeM_set _ _ (freeM_set _ _ (Q2.out.ext (by omega) x23)))))))) x34
  have x4 : Ext w w4 := by rw [hw4]; exact Ext.drew (((((((X3.out.setc (by dsimp only; omega)).setc (by dsimp only; omega)).setc (by dsimp only; omega)).setc (by dsimp only; omega)).setc (by dsimp only; omega)).setc (by dsimp only; omega)).setc (by dsimp only; omega))
  have s4 : w.heap.size + 2 ≤ w4.heap.size := by
    have h1 := x34.size
    simp only [World.size_setCell] at h1
    have h2 := x23.size
    omega
  rw [← hw4]
  have X4 := Lib.hid x4
  clear hw4 x34 x4 x23 X3 p0 p1 p2 p3 p4 p5 p6 p7 p8 p9 p10 p11 p12 p13 p14 o0 o1 o2 o3 o4 o5 o6 o7 o8 o9 o10 o11 o12 o13 o14 y0 y1 y2 y3 y4 y5 y6 y7 y8 y9 y10 y11 y12 y13 y14 q0 q1 q2 q3 q4 q5 q6 q7 q8 q9 q10 q11 q12 q13 q14 c0 c1 c2 c3 c4 c5 c6
  obtain ⟨p0, p1, p2, p3, p4, p5, p6, p7, p8, p9, p10, p11, p12, p13, p14⟩ := m4
  obtain ⟨o0, o1, o2, o3, o4, o5, o6, o7, o8, o9, o10, o11, o12, o13, o14⟩ := mo4
  obtain ⟨q0, q1, q2, q3, q4, q5, q6, q7, q8, q9, q10, q11, q12, q13, q14⟩ := mq4
  simp only [zeroM] at o0 o1 o2 o3 o4 o5 o6 o7 o8 o9 o10 o11 o12 o13 p0 p1 p2 p3 p4 p5 p6 p7 p8 p9 p10 p11 p12 p13
  go_wp2
  refine bodyPost_ret (v := .agg #[.int .i64 r.kd, .int .i64 r.fr, .int .i64 r.tt, .int .i64 r.rp, .int .i64 r.no, .int .i64 r.b, .int .i64 0, .int .i64 0, .int .i64 r.k, .int .i64 r.i, .int .i64 r.f, .int .i64 r.t, .int .i64 r.a, .int .i64 r.s, .slice au r.l.length cu]) (by simp [results, Tryz.results101, go_sem, o0, o1, o2, o3, o4, o5, o6, o7, o8, o9, o10, o11, o12, o13, o14]) rfl ⟨_, rfl, rfl, ?_⟩
  exact (((((((((((((((X4.out.setc (by dsimp only; omega)).setc (by dsimp only; omega)).setc (by dsimp only; omega)).setc (by dsimp only; omega)).setc (by dsimp only; omega)).setc (by dsimp only; omega)).setc (by dsimp only; omega)).setc (by dsimp only; omega)).setc (by dsimp only; omega)).setc (by dsimp only; omega)).setc (by dsimp only; omega)).setc (by dsimp only; omega)).setc (by dsimp only; omega)).setc (by dsimp only; omega)).setc (by dsimp only; omega))

set_option maxHeartbeats 8000000 in
set_option maxRecDepth 100000 in
theorem withOnly_report (n : Int) (r : MsgD) (u : Value) (w : World) (hv : Ints w u r.l) (hn : isGrp n = true) :
    Calls Tryz.prog 101 #[.int .i64 n, .agg #[.int .i64 r.kd, .int .i64 r.fr, .int .i64 r.tt, .int .i64 r.rp, .int .i64 r.no, .int .i64 r.b, .int .i64 r.v, .int .i64 r.st, .int .i64 r.k, .int .i64 r.i, .int .i64 r.f, .int .i64 r.t, .int .i64 r.a, .int .i64 r.s, u], .iface 179 (.agg #[.int .i64 r.b, .int .i64 r.v, .int .i64 r.st, .int .i64 r.k, .int .i64 r.i, .int .i64 r.f, .int .i64 r.t, .int .i64 r.a, .int .i64 r.s, u])] w (fun e w' => ∃ z, e = .returned (.agg #[.int .i64 r.kd, .int .i64 r.fr, .int .i64 r.tt, .int .i64 r.rp, .int .i64 r.no, .int .i64 r.b, .int .i64 r.v, .int .i64 r.st, .int .i64 r.k, .int .i64 r.i, .int .i64 r.f, .int .i64 r.t, .int .i64 r.a, .int .i64 r.s, z]) ∧ z = u ∧ Ext w w') := by
  obtain ⟨au, cu, rfl, hlu⟩ := hv
  clear hlu
  obtain ⟨wb, hwb⟩ : ∃ wb, wb = (w.alloc (.cells #[.int .i64 r.kd, .int .i64 r.fr, .int .i64 r.tt, .int .i64 r.rp, .int .i64 r.no, .int .i64 r.b, .int .i64 r.v, .int .i64 r.st, .int .i64 r.k, .int .i64 r.i, .int .i64 r.f, .int .i64 r.t, .int .i64 r.a, .int .i64 r.s, (.slice au r.l.length cu)] 77)).alloc (.cells #[.int .i64 0, .int .i64 0, .int .i64 0, .int .i64 0, .int .i64 0, .int .i64 0, .int .i64 0, .int .i64 0, .int .i64 0, .int .i64 0, .int .i64 0, .int .i64 0, .int .i64 0, .int .i64 0, .slice none 0 0] 77) := ⟨_, rfl⟩
  have h3 := msg_two w r (.slice au r.l.length cu)
  have xb : Ext w wb := by rw [hwb]; exact Ext.alloc2 _ _ _
  have sb : wb.heap.size = w.heap.size + 2 := by rw [hwb]; simp
  rw [← hwb] at h3
  have HWB := Lib.hid hwb
  have H3 := Lib.hid h3
  have SB := Lib.hid sb
  clear hwb h3 sb
  have ta0 : ∀ W, (Instr.typeAssert (.iface 179 (.agg #[.int .i64 r.b, .int .i64 r.v, .int .i64 r.st, .int .i64 r.k, .int .i64 r.i, .int .i64 r.f, .int .i64 r.t, .int .i64 r.a, .int .i64 r.s, (.slice au r.l.length cu)])) 150 174 true).run Tryz.prog W = .ok (.tuple #[(.agg #[.int .i64 0, .int .i64 0, .int .i64 0, .int .i64 0, .int .i64 0, .int .i64 0, .slice none 0 0]), .bool false]) W := fun W => by kernel_rfl
  have ta1 : ∀ W, (Instr.typeAssert (.iface 179 (.agg #[.int .i64 r.b, .int .i64 r.v, .int .i64 r.st, .int .i64 r.k, .int .i64 r.i, .int .i64 r.f, .int .i64 r.t, .int .i64 r.a, .int .i64 r.s, (.slice au r.l.length cu)])) 150 176 true).run Tryz.prog W = .ok (.tuple #[(.agg #[.int .i64 0, .slice none 0 0]), .bool false]) W := fun W => by kernel_rfl
  have ta2 : ∀ W, (Instr.typeAssert (.iface 179 (.agg #[.int .i64 r.b, .int .i64 r.v, .int .i64 r.st, .int .i64 r.k, .int .i64 r.i, .int .i64 r.f, .int .i64 r.t, .int .i64 r.a, .int .i64 r.s, (.slice au r.l.length cu)])) 150 177 true).run Tryz.prog W = .ok (.tuple #[(.agg #[.int .i64 0, .int .i64 0, .int .i64 0, .int .i64 0, .int .i64 0, .int .i64 0, .slice none 0 0]), .bool false]) W := fun W => by kernel_rfl
  have ta3 : ∀ W, (Instr.typeAssert (.iface 179 (.agg #[.int .i64 r.b, .int .i64 r.v, .int .i64 r.st, .int .i64 r.k, .int .i64 r.i, .int .i64 r.f, .int .i64 r.t, .int .i64 r.a, .int .i64 r.s, (.slice au r.l.length cu)])) 150 179 true).run Tryz.prog W = .ok (.tuple #[(.agg #[.int .i64 r.b, .int .i64 r.v, .int .i64 r.st, .int .i64 r.k, .int .i64 r.i, .int .i64 r.f, .int .i64 r.t, .int .i64 r.a, .int .i64 r.s, (.slice au r.l.length cu)]), .bool true]) W := fun W => by kernel_rfl
  go_enter Tryz.func101, Tryz.ntmps101
  go_wp2_with fail
  rw [← HWB.out]
  refine (joinNone_any n _ hn).mono ?_
  rintro e w1 ⟨z1, rfl, f1, x1⟩
  obtain ⟨a1, k1, rfl⟩ := f1.form
  have hsz : w.heap.size + 2 ≤ w1.heap.size := by have := x1.size; have := SB.out; omega
  have HX1 := Lib.hid (xb.trans x1)
  have F1 := Lib.hid f1
  have HP := Lib.hid (H3.out.1.1.ext x1)
  have HO := Lib.hid (H3.out.2.1.ext x1)
  have HY := Lib.hid (H3.out.1.2.ext (by have := SB.out; omega) x1)
  have HZ := Lib.hid (H3.out.2.2.ext (by have := SB.out; omega) x1)
  have HSZ := Lib.hid hsz
  clear f1 x1 H3 xb
  obtain ⟨p0, p1, p2, p3, p4, p5, p6, p7, p8, p9, p10, p11, p12, p13, p14⟩ := HP.out
  obtain ⟨y0, y1, y2, y3, y4, y5, y6, y7, y8, y9, y10, y11, y12, y13, y14⟩ := HY.out
  go_upto_region 2 with fail
  obtain ⟨w2, hw2⟩ : ∃ w2, w2 = (((((((((w1.setCell ⟨w.heap.size, 6, none⟩ (.int .i64 0)).setCell ⟨w.heap.size, 7, none⟩ (.int .i64 0)).setCell ⟨w.heap.size, 8, none⟩ (.int .i64 0)).setCell ⟨w.heap.size, 9, none⟩ (.int .i64 0)).setCell ⟨w.heap.size, 10, none⟩ (.int .i64 0)).setCell ⟨w.heap.size, 11, none⟩ (.int .i64 0)).setCell ⟨w.heap.size, 12, none⟩ (.int .i64 0)).setCell ⟨w.heap.size, 13, none⟩ (.int .i64 0)).setCell ⟨w.heap.size, 14, none⟩ (.slice a1 (noneL n).length k1)) := ⟨_, rfl⟩
  have m2 : MsgAt w2 w.heap.size ⟨r.kd, r.fr, r.tt, r.rp, r.no, r.b, 0, 0, 0, 0, 0, 0, 0, 0, noneL n⟩ (.slice a1 (noneL n).length k1) := by
    rw [hw2]
    exact msg_set9 0 0 0 0 0 0 0 0 _ HP.out
  have g2 : FreeM w2 w.heap.size := by rw [hw2]; exact freeM_set _ _ (freeM_set _ _ (freeM_set _ _ (freeM_set _ _ (freeM_set _ _ (freeM_set _ _ (freeM_set _ _ (freeM_set _ _ (freeM_set _ _ HY.out))))))))
  have o2 : MsgAt w2 (w.heap.size + 1) zeroM (.slice none 0 0) := by rw [hw2]; exact msg_apart _ _ (by simp) (msg_apart _ _ (by simp) (msg_apart _ _ (by simp) (msg_apart _ _ (by simp) (msg_apart _ _ (by simp) (msg_apart _ _ (by simp) (msg_apart _ _ (by simp) (msg_apart _ _ (by simp) (msg_apart _ _ (by simp) HO.out))))))))
  have q2 : FreeM w2 (w.heap.size + 1) := by rw [hw2]; exact freeM_set _ _ (freeM_set _ _ (freeM_set _ _ (freeM_set _ _ (freeM_set _ _ (freeM_set _ _ (freeM_set _ _ (freeM_set _ _ (freeM_set _ _ HZ.out))))))))
  have x2 : Ext w w2 := by rw [hw2]; exact (((((((((HX1.out.setc (by dsimp only; omega)).setc (by dsimp only; omega)).setc (by dsimp only; omega)).setc (by dsimp only; omega)).setc (by dsimp only; omega)).setc (by dsimp only; omega)).setc (by dsimp only; omega)).setc (by dsimp only; omega)).setc (by dsimp only; omega))
  have s2 : w.heap.size + 2 ≤ w2.heap.size := by rw [hw2]; simp only [World.size_setCell]; exact hsz
  have F2 : Hid (Fresh (w.heap.size + 2) w2 (.slice a1 (noneL n).length k1) (noneL n)) := Lib.hid (by
    rw [hw2]
    have h := F1.out
    rw [SB.out] at h
    exact (((((((((h.set _ _ _ (by omega)).set _ _ _ (by omega)).set _ _ _ (by omega)).set _ _ _ (by omega)).set _ _ _ (by omega)).set _ _ _ (by omega)).set _ _ _ (by omega)).set _ _ _ (by omega)).set _ _ _ (by omega)))
  rw [← hw2]
  clear hw2 hsz HP HO HY HZ HX1 F1 p0 p1 p2 p3 p4 p5 p6 p7 p8 p9 p10 p11 p12 p13 p14 y0 y1 y2 y3 y4 y5 y6 y7 y8 y9 y10 y11 y12 y13 y14
  have M2 := Lib.hid m2
  have G2 := Lib.hid g2
  have O2 := Lib.hid o2
  have Q2 := Lib.hid q2
  have X2 := Lib.hid x2
  clear m2 g2 o2 q2 x2
  go_upto_region 14 with fail
  obtain ⟨w3, hw3⟩ : ∃ w3, w3 = w2.alloc (.cells #[.int .i64 r.b, .int .i64 r.v, .int .i64 r.st, .int .i64 r.k, .int .i64 r.i, .int .i64 r.f, .int .i64 r.t, .int .i64 r.a, .int .i64 r.s, .slice au r.l.length cu] 179) := ⟨_, rfl⟩
  have x23 : Ext w2 w3 := by rw [hw3]; exact Ext.alloc1 _ _
  have c0 : w3.cell? ⟨w2.heap.size, 0, none⟩ = some (.int .i64 r.b) := by rw [hw3]; go_simp
  have c1 : w3.cell? ⟨w2.heap.size, 1, none⟩ = some (.int .i64 r.v) := by rw [hw3]; go_simp
  have c2 : w3.cell? ⟨w2.heap.size, 2, none⟩ = some (.int .i64 r.st) := by rw [hw3]; go_simp
  have c3 : w3.cell? ⟨w2.heap.size, 3, none⟩ = some (.int .i64 r.k) := by rw [hw3]; go_simp
  have c4 : w3.cell? ⟨w2.heap.size, 4, none⟩ = some (.int .i64 r.i) := by rw [hw3]; go_simp
  have c5 : w3.cell? ⟨w2.heap.size, 5, none⟩ = some (.int .i64 r.f) := by rw [hw3]; go_simp
  have c6 : w3.cell? ⟨w2.heap.size, 6, none⟩ = some (.int .i64 r.t) := by rw [hw3]; go_simp
  have c7 : w3.cell? ⟨w2.heap.size, 7, none⟩ = some (.int .i64 r.a) := by rw [hw3]; go_simp
  have c8 : w3.cell? ⟨w2.heap.size, 8, none⟩ = some (.int .i64 r.s) := by rw [hw3]; go_simp
  have c9 : w3.cell? ⟨w2.heap.size, 9, none⟩ = some (.slice au r.l.length cu) := by rw [hw3]; go_simp
  obtain ⟨p0, p1, p2, p3, p4, p5, p6, p7, p8, p9, p10, p11, p12, p13, p14⟩ := M2.out.ext x23
  obtain ⟨o0, o1, o2, o3, o4, o5, o6, o7, o8, o9, o10, o11, o12, o13, o14⟩ := O2.out.ext x23
  obtain ⟨y0, y1, y2, y3, y4, y5, y6, y7, y8, y9, y10, y11, y12, y13, y14⟩ := G2.out.ext (by omega) x23
  obtain ⟨q0, q1, q2, q3, q4, q5, q6, q7, q8, q9, q10, q11, q12, q13, q14⟩ := Q2.out.ext (by omega) x23
  simp only [zeroM] at o0 o1 o2 o3 o4 o5 o6 o7 o8 o9 o10 o11 o12 o13 p0 p1 p2 p3 p4 p5 p6 p7 p8 p9 p10 p11 p12 p13
  have X3 := Lib.hid (X2.out.trans x23)
  rw [← hw3]
  clear hw3 F2
  go_region
  obtain ⟨w4, hw4⟩ : ∃ w4, w4 = ((((((((((w3.setCell ⟨w.heap.size, 6, none⟩ (.int .i64 r.v)).setCell ⟨w.heap.size, 7, none⟩ (.int .i64 r.st)).setCell ⟨w.heap.size, 8, none⟩ (.int .i64 r.k)).setCell ⟨w.heap.size, 9, none⟩ (.int .i64 r.i)).setCell ⟨w.heap.size, 10, none⟩ (.int .i64 r.f)).setCell ⟨w.heap.size, 11, none⟩ (.int .i64 r.t)).setCell ⟨w.heap.size, 12, none⟩ (.int .i64 r.a)).setCell ⟨w.heap.size, 13, none⟩ (.int .i64 r.s)).setCell ⟨w.heap.size, 14, none⟩ (.slice au r.l.length cu))).drew := ⟨_, rfl⟩
  have x34 : Ext ((((((((((w3.setCell ⟨w.heap.size, 6, none⟩ (.int .i64 r.v)).setCell ⟨w.heap.size, 7, none⟩ (.int .i64 r.st)).setCell ⟨w.heap.size, 8, none⟩ (.int .i64 r.k)).setCell ⟨w.heap.size, 9, none⟩ (.int .i64 r.i)).setCell ⟨w.heap.size, 10, none⟩ (.int .i64 r.f)).setCell ⟨w.heap.size, 11, none⟩ (.int .i64 r.t)).setCell ⟨w.heap.size, 12, none⟩ (.int .i64 r.a)).setCell ⟨w.heap.size, 13, none⟩ (.int .i64 r.s)).setCell ⟨w.heap.size, 14, none⟩ (.slice au r.l.length cu))) w4 := by rw [hw4]; exact Ext.drew (Ext.refl _)
  have m4 := (msg_set9 (l := r.l) r.v r.st r.k r.i r.f r.t r.a r.s (.slice au r.l.length cu) (M2.out.ext x23)).ext x34
  have mo4 : MsgAt w4 (w.heap.size + 1) zeroM (.slice none 0 0) := MsgAt.ext (msg_apart _ _ (by simp) (msg_apart _ _ (by simp) (msg_apart _ _ (by simp) (msg_apart _ _ (by simp) (msg_apart _ _ (by simp) (msg_apart _ _ (by simp) (msg_apart _ _ (by simp) (msg_apart _ _ (by simp) (msg_apart _ _ (by simp) (O2.out.ext x23)))))))))) x34
  have mq4 : FreeM w4 (w.heap.size + 1) := FreeM.ext (by simp only [World.size_setCell]; have := x23.size; omega) (freeM_set _ _ (freeM_set _ _ (freeM_set _ _ (freeM_set _ _ (freeM_set _ _ (freeM_set _ _ (freeM_set _ _ (freeM_set _ _ (freeM_set _ _ (Q2.out.ext (by omega) x23)))))))))) x34
  have x4 : Ext w w4 := by rw [hw4]; exact Ext.drew (((((((((X3.out.setc (by dsimp only; omega)).setc (by dsimp only; omega)).setc (by dsimp only; omega)).setc (by dsimp only; omega)).setc (by dsimp only; omega)).setc (by dsimp only; omega)).setc (by dsimp only; omega)).setc (by dsimp only; omega)).setc (by dsimp only; omega))
  have s4 : w.heap.size + 2 ≤ w4.heap.size := by
    have h1 := x34.size
    simp only [World.size_setCell] at h1
    have h2 := x23.size
    omega
  rw [← hw4]
  have X4 := Lib.hid x4
  clear hw4 x34 x4 x23 X3 p0 p1 p2 p3 p4 p5 p6 p7 p8 p9 p10 p11 p12 p13 p14 o0 o1 o2 o3 o4 o5 o6 o7 o8 o9 o10 o11 o12 o13 o14 y0 y1 y2 y3 y4 y5 y6 y7 y8 y9 y10 y11 y12 y13 y14 q0 q1 q2 q3 q4 q5 q6 q7 q8 q9 q10 q11 q12 q13 q14 c0 c1 c2 c3 c4 c5 c6 c7 c8 c9
  obtain ⟨p0, p1, p2, p3, p4, p5, p6, p7, p8, p9, p10, p11, p12, p13, p14⟩ := m4
  obtain ⟨o0, o1, o2, o3, o4, o5, o6, o7, o8, o9, o10, o11, o12, o13, o14⟩ := mo4
  obtain ⟨q0, q1, q2, q3, q4, q5, q6, q7, q8, q9, q10, q11, q12, q13, q14⟩ := mq4
  simp only [zeroM] at o0 o1 o2 o3 o4 o5 o6 o7 o8 o9 o10 o11 o12 o13 p0 p1 p2 p3 p4 p5 p6 p7 p8 p9 p10 p11 p12 p13
  go_wp2
  refine bodyPost_ret (v := .agg #[.int .i64 r.kd, .int .i64 r.fr, .int .i64 r.tt, .int .i64 r.rp, .int .i64 r.no, .int .i64 r.b, .int .i64 r.v, .int .i64 r.st, .int .i64 r.k, .int .i64 r.i, .int .i64 r.f, .int .i64 r.t, .int .i64 r.a, .int .i64 r.s, .slice au r.l.length cu]) (by simp [results, Tryz.results101, go_sem, o0, o1, o2, o3, o4, o5, o6, o7, o8, o9, o10, o11, o12, o13, o14]) rfl ⟨_, rfl, rfl, ?_⟩
  exact (((((((((((((((X4.out.setc (by dsimp only; omega)).setc (by dsimp only; omega)).setc (by dsimp only; omega)).setc (by dsimp only; omega)).setc (by dsimp only; omega)).setc (by dsimp only; omega)).setc (by dsimp only; omega)).setc (by dsimp only; omega)).setc (by dsimp only; omega)).setc (by dsimp only; omega)).setc (by dsimp only; omega)).setc (by dsimp only; omega)).setc (by dsimp only; omega)).setc (by dsimp only; omega)).setc (by dsimp only; omega))
end Go.Proofs.YtbffkidkfannhaaGreat

namespace Go.Proofs.YtbffkidkfannhaaGreat
open Go.RowKit
set_option linter.unusedVariables false

set_option maxHeartbeats 8000000 in
set_option maxRecDepth 100000 in
theorem withOnly_opinion (n : Int) (r : MsgD) (u : Value) (w : World) (hv : Ints w u r.l) (hn : isGrp n = true) :
    Calls Tryz.prog 101 #[.int .i64 n, .agg #[.int .i64 r.kd, .int .i64 r.fr, .int .i64 r.tt, .int .i64 r.rp, .int .i64 r.no, .int .i64 r.b, .int .i64 r.v, .int .i64 r.st, .int .i64 r.k, .int .i64 r.i, .int .i64 r.f, .int .i64 r.t, .int .i64 r.a, .int .i64 r.s, u], .iface 176 (.agg #[.int .i64 r.s, u])] w (fun e w' => ∃ z, e = .returned (.agg #[.int .i64 r.kd, .int .i64 r.fr, .int .i64 r.tt, .int .i64 r.rp, .int .i64 r.no, .int .i64 r.b, .int .i64 0, .int .i64 0, .int .i64 0, .int .i64 0, .int .i64 0, .int .i64 0, .int .i64 0, .int .i64 r.s, z]) ∧ z = u ∧ Ext w w') := by
  obtain ⟨au, cu, rfl, hlu⟩ := hv
  clear hlu
  obtain ⟨wb, hwb⟩ : ∃ wb, wb = (w.alloc (.cells #[.int .i64 r.kd, .int .i64 r.fr, .int .i64 r.tt, .int .i64 r.rp, .int .i64 r.no, .int .i64 r.b, .int .i64 r.v, .int .i64 r.st, .int .i64 r.k, .int .i64 r.i, .int .i64 r.f, .int .i64 r.t, .int .i64 r.a, .int .i64 r.s, (.slice au r.l.length cu)] 77)).alloc (.cells #[.int .i64 0, .int .i64 0, .int .i64 0, .int .i64 0, .int .i64 0, .int .i64 0, .int .i64 0, .int .i64 0, .int .i64 0, .int .i64 0, .int .i64 0, .int .i64 0, .int .i64 0, .int .i64 0, .slice none 0 0] 77) := ⟨_, rfl⟩
  have h3 := msg_two w r (.slice au r.l.length cu)
  have xb : Ext w wb := by rw [hwb]; exact Ext.alloc2 _ _ _
  have sb : wb.heap.size = w.heap.size + 2 := by rw [hwb]; simp
  rw [← hwb] at h3
  have HWB := Lib.hid hwb
  have H3 := Lib.hid h3
  have SB := Lib.hid sb
  clear hwb h3 sb
  have ta0 : ∀ W, (Instr.typeAssert (.iface 176 (.agg #[.int .i64 r.s, (.slice au r.l.length cu)])) 150 174 true).run Tryz.prog W = .ok (.tuple #[(.agg #[.int .i64 0, .int .i64 0, .int .i64 0, .int .i64 0, .int .i64 0, .int .i64 0, .slice none 0 0]), .bool false]) W := fun W => by kernel_rfl
  have ta1 : ∀ W, (Instr.typeAssert (.iface 176 (.agg #[.int .i64 r.s, (.slice au r.l.length cu)])) 150 176 true).run Tryz.prog W = .ok (.tuple #[(.agg #[.int .i64 r.s, (.slice au r.l.length cu)]), .bool true]) W := fun W => by kernel_rfl
  go_enter Tryz.func101, Tryz.ntmps101
  go_wp2_with fail
  rw [← HWB.out]
  refine (joinNone_any n _ hn).mono ?_
  rintro e w1 ⟨z1, rfl, f1, x1⟩
  obtain ⟨a1, k1, rfl⟩ := f1.form
  have hsz : w.heap.size + 2 ≤ w1.heap.size := by have := x1.size; have := SB.out; omega
  have HX1 := Lib.hid (xb.trans x1)
  have F1 := Lib.hid f1
  have HP := Lib.hid (H3.out.1.1.ext x1)
  have HO := Lib.hid (H3.out.2.1.ext x1)
  have HY := Lib.hid (H3.out.1.2.ext (by have := SB.out; omega) x1)
  have HZ := Lib.hid (H3.out.2.2.ext (by have := SB.out; omega) x1)
  have HSZ := Lib.hid hsz
  clear f1 x1 H3 xb
  obtain ⟨p0, p1, p2, p3, p4, p5, p6, p7, p8, p9, p10, p11, p12, p13, p14⟩ := HP.out
  obtain ⟨y0, y1, y2, y3, y4, y5, y6, y7, y8, y9, y10, y11, y12, y13, y14⟩ := HY.out
  go_upto_region 2 with fail
  obtain ⟨w2, hw2⟩ : ∃ w2, w2 = (((((((((w1.setCell ⟨w.heap.size, 6, none⟩ (.int .i64 0)).setCell ⟨w.heap.size, 7, none⟩ (.int .i64 0)).setCell ⟨w.heap.size, 8, none⟩ (.int .i64 0)).setCell ⟨w.heap.size, 9, none⟩ (.int .i64 0)).setCell ⟨w.heap.size, 10, none⟩ (.int .i64 0)).setCell ⟨w.heap.size, 11, none⟩ (.int .i64 0)).setCell ⟨w.heap.size, 12, none⟩ (.int .i64 0)).setCell ⟨w.heap.size, 13, none⟩ (.int .i64 0)).setCell ⟨w.heap.size, 14, none⟩ (.slice a1 (noneL n).length k1)) := ⟨_, rfl⟩
  have m2 : MsgAt w2 w.heap.size ⟨r.kd, r.fr, r.tt, r.rp, r.no, r.b, 0, 0, 0, 0, 0, 0, 0, 0, noneL n⟩ (.slice a1 (noneL n).length k1) := by
    rw [hw2]
    exact msg_set9 0 0 0 0 0 0 0 0 _ HP.out
  have g2 : FreeM w2 w.heap.size := by rw [hw2]; exact freeM_set _ _ (freeM_set _ _ (freeM_set _ _ (freeM_set _ _ (freeM_set _ _ (freeM_set _ _ (freeM_set _ _ (freeM_set _ _ (freeM_set _ _ HY.out))))))))
  have o2 : MsgAt w2 (w.heap.size + 1) zeroM (.slice none 0 0) := by rw [hw2]; exact msg_apart _ _ (by simp) (msg_apart _ _ (by simp) (msg_apart _ _ (by simp) (msg_apart _ _ (by simp) (msg_apart _ _ (by simp) (msg_apart _ _ (by simp) (msg_apart _ _ (by simp) (msg_apart _ _ (by simp) (msg_apart _ _ (by simp) HO.out))))))))
  have q2 : FreeM w2 (w.heap.size + 1) := by rw [hw2]; exact freeM_set _ _ (freeM_set _ _ (freeM_set _ _ (freeM_set _ _ (freeM_set _ _ (freeM_set _ _ (freeM_set _ _ (freeM_set _ _ (freeM_set _ _ HZ.out))))))))
  have x2 : Ext w w2 := by rw [hw2]; exact (((((((((HX1.out.setc (by dsimp only; omega)).setc (by dsimp only; omega)).setc (by dsimp only; omega)).setc (by dsimp only; omega)).setc (by dsimp only; omega)).setc (by dsimp only; omega)).setc (by dsimp only; omega)).setc (by dsimp only; omega)).setc (by dsimp only; omega))
  have s2 : w.heap.size + 2 ≤ w2.heap.size := by rw [hw2]; simp only [World.size_setCell]; exact hsz
  have F2 : Hid (Fresh (w.heap.size + 2) w2 (.slice a1 (noneL n).length k1) (noneL n)) := Lib.hid (by
    rw [hw2]
    have h := F1.out
    rw [SB.out] at h
    exact (((((((((h.set _ _ _ (by omega)).set _ _ _ (by omega)).set _ _ _ (by omega)).set _ _ _ (by omega)).set _ _ _ (by omega)).set _ _ _ (by omega)).set _ _ _ (by omega)).set _ _ _ (by omega)).set _ _ _ (by omega)))
  rw [← hw2]
  clear hw2 hsz HP HO HY HZ HX1 F1 p0 p1 p2 p3 p4 p5 p6 p7 p8 p9 p10 p11 p12 p13 p14 y0 y1 y2 y3 y4 y5 y6 y7 y8 y9 y10 y11 y12 y13 y14
  have M2 := Lib.hid m2
  have G2 := Lib.hid g2
  have O2 := Lib.hid o2
  have Q2 := Lib.hid q2
  have X2 := Lib.hid x2
  clear m2 g2 o2 q2 x2
  go_upto_region 8 with fail
  obtain ⟨w3, hw3⟩ : ∃ w3, w3 = w2.alloc (.cells #[.int .i64 r.s, .slice au r.l.length cu] 176) := ⟨_, rfl⟩
  have x23 : Ext w2 w3 := by rw [hw3]; exact Ext.alloc1 _ _
  have c0 : w3.cell? ⟨w2.heap.size, 0, none⟩ = some (.int .i64 r.s) := by rw [hw3]; go_simp
  have c1 : w3.cell? ⟨w2.heap.size, 1, none⟩ = some (.slice au r.l.length cu) := by rw [hw3]; go_simp
  obtain ⟨p0, p1, p2, p3, p4, p5, p6, p7, p8, p9, p10, p11, p12, p13, p14⟩ := M2.out.ext x23
  obtain ⟨o0, o1, o2, o3, o4, o5, o6, o7, o8, o9, o10, o11, o12, o13, o14⟩ := O2.out.ext x23
  obtain ⟨y0, y1, y2, y3, y4, y5, y6, y7, y8, y9, y10, y11, y12, y13, y14⟩ := G2.out.ext (by omega) x23
  obtain ⟨q0, q1, q2, q3, q4, q5, q6, q7, q8, q9, q10, q11, q12, q13, q14⟩ := Q2.out.ext (by omega) x23
  simp only [zeroM] at o0 o1 o2 o3 o4 o5 o6 o7 o8 o9 o10 o11 o12 o13 p0 p1 p2 p3 p4 p5 p6 p7 p8 p9 p10 p11 p12 p13
  have X3 := Lib.hid (X2.out.trans x23)
  rw [← hw3]
  clear hw3 F2
  go_upto_region 15 with fail
  obtain ⟨w4, hw4⟩ : ∃ w4, w4 = (((w3.setCell ⟨w.heap.size, 13, none⟩ (.int .i64 r.s)).setCell ⟨w.heap.size, 14, none⟩ (.slice au r.l.length cu))) := ⟨_, rfl⟩
  have x34 : Ext (((w3.setCell ⟨w.heap.size, 13, none⟩ (.int .i64 r.s)).setCell ⟨w.heap.size, 14, none⟩ (.slice au r.l.length cu))) w4 := by rw [hw4]; exact Ext.refl _
  have m4 := (msg_set2 (l := r.l) r.s (.slice au r.l.length cu) (M2.out.ext x23)).ext x34
  have mo4 : MsgAt w4 (w.heap.size + 1) zeroM (.slice none 0 0) := MsgAt.ext (msg_apart _ _ (by simp) (msg_apart _ _ (by simp) (O2.out.ext x23))) x34
  have mq4 : FreeM w4 (w.heap.size + 1) := FreeM.ext (by simp only [World.size_setCell]; have := x23.size; omega) (freeM_set _ _ (freeM_set _ _ (Q2.out.ext (by omega) x23))) x34
  have x4 : Ext w w4 := by rw [hw4]; exact ((X3.out.setc (by dsimp only; omega)).setc (by dsimp only; omega))
  have s4 : w.heap.size + 2 ≤ w4.heap.size := by
    have h1 := x34.size
    simp only [World.size_setCell] at h1
    have h2 := x23.size
    omega
  rw [← hw4]
  have X4 := Lib.hid x4
  clear hw4 x34 x4 x23 X3 p0 p1 p2 p3 p4 p5 p6 p7 p8 p9 p10 p11 p12 p13 p14 o0 o1 o2 o3 o4 o5 o6 o7 o8 o9 o10 o11 o12 o13 o14 y0 y1 y2 y3 y4 y5 y6 y7 y8 y9 y10 y11 y12 y13 y14 q0 q1 q2 q3 q4 q5 q6 q7 q8 q9 q10 q11 q12 q13 q14 c0 c1
  obtain ⟨p0, p1, p2, p3, p4, p5, p6, p7, p8, p9, p10, p11, p12, p13, p14⟩ := m4
  obtain ⟨o0, o1, o2, o3, o4, o5, o6, o7, o8, o9, o10, o11, o12, o13, o14⟩ := mo4
  obtain ⟨q0, q1, q2, q3, q4, q5, q6, q7, q8, q9, q10, q11, q12, q13, q14⟩ := mq4
  simp only [zeroM] at o0 o1 o2 o3 o4 o5 o6 o7 o8 o9 o10 o11 o12 o13 p0 p1 p2 p3 p4 p5 p6 p7 p8 p9 p10 p11 p12 p13
  go_wp2
  refine bodyPost_ret (v := .agg #[.int .i64 r.kd, .int .i64 r.fr, .int .i64 r.tt, .int .i64 r.rp, .int .i64 r.no, .int .i64 r.b, .int .i64 0, .int .i64 0, .int .i64 0, .int .i64 0, .int .i64 0, .int .i64 0, .int .i64 0, .int .i64 r.s, .slice au r.l.length cu]) (by simp [results, Tryz.results101, go_sem, o0, o1, o2, o3, o4, o5, o6, o7, o8, o9, o10, o11, o12, o13, o14]) rfl ⟨_, rfl, rfl, ?_⟩
  exact (((((((((((((((X4.out.setc (by dsimp only; omega)).setc (by dsimp only; omega)).setc (by dsimp only; omega)).setc (by dsimp only; omega)).setc (by dsimp only; omega)).setc (by dsimp only; omega)).setc (by dsimp only; omega)).setc (by dsimp only; omega)).setc (by dsimp only; omega)).setc (by dsimp only; omega)).setc (by dsimp only; omega)).setc (by dsimp only; omega)).setc (by dsimp only; omega)).setc (by dsimp only; omega)).setc (by dsimp only; omega))
end Go.Proofs.YtbffkidkfannhaaGreat
