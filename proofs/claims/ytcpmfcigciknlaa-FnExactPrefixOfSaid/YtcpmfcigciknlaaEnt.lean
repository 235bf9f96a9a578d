/- The law's copy of an entry; the comparison of two that read the same. -/
import Derived.Test.YtcpmfcigciknlaaLEnW
import Derived.Test.YtcpmfcigciknlaaToCmd
import Derived.Test.YtcpmfcigciknlaaEqCmd
import Derived.Test.YtcpmfcigciknlaaIns
import Derived.Test.YtcpmfcigciknlaaAsked0
import Derived.Test.YtcpmfcigciknlaaEqTold
namespace Go.Proofs.Ytcpmfcigciknlaa
open Go.RowKit
set_option linter.unusedVariables false

set_option maxHeartbeats 1000000 in
set_option maxRecDepth 100000 in
theorem toTold_any (c s : Int) (w : World) : Calls Try.prog 28 #[.agg #[.int .i64 c, .int .i64 s]] w (fun e w' => e = .returned (.agg #[.int .i64 c, .int .i64 s]) ∧ Ext w w') := by
  go_enter Try.func28, Try.ntmps28
  go_wp2
  refine bodyPost_ret (v := .agg #[.int .i64 c, .int .i64 s]) (by simp [results, Try.results28, go_sem]) rfl ⟨rfl, ?_⟩
  repeat (first | exact Ext.refl _ | (apply Ext.setc; · skip) | apply Ext.alloc | omega)

set_option maxHeartbeats 4000000 in
set_option maxRecDepth 100000 in
theorem eqEntry_same (d : EnD) (w : World) : Calls Try.prog 22 #[.agg #[.int .i64 d.r, .int .i64 d.n, .int .i64 d.k, .int .i64 d.i, .int .i64 d.f, .int .i64 d.t, .int .i64 d.a, .int .i64 d.c, .int .i64 d.s], .agg #[.int .i64 d.r, .int .i64 d.n, .int .i64 d.k, .int .i64 d.i, .int .i64 d.f, .int .i64 d.t, .int .i64 d.a, .int .i64 d.c, .int .i64 d.s]] w (BoolExt true w) := by
  obtain ⟨wb, hwb⟩ : ∃ wb, wb = (w.alloc (.cells #[.int .i64 d.r, .int .i64 d.n, .int .i64 d.k, .int .i64 d.i, .int .i64 d.f, .int .i64 d.t, .int .i64 d.a, .int .i64 d.c, .int .i64 d.s] 40)).alloc (.cells #[.int .i64 d.r, .int .i64 d.n, .int .i64 d.k, .int .i64 d.i, .int .i64 d.f, .int .i64 d.t, .int .i64 d.a, .int .i64 d.c, .int .i64 d.s] 40) := ⟨_, rfl⟩
  have xb : Ext w wb := by rw [hwb]; exact (Ext.alloc1 _ _).alloc _
  have hp : BoxV wb w.heap.size [.int .i64 d.r, .int .i64 d.n, .int .i64 d.k, .int .i64 d.i, .int .i64 d.f, .int .i64 d.t, .int .i64 d.a, .int .i64 d.c, .int .i64 d.s] := by rw [hwb]; exact (boxV_new w [.int .i64 d.r, .int .i64 d.n, .int .i64 d.k, .int .i64 d.i, .int .i64 d.f, .int .i64 d.t, .int .i64 d.a, .int .i64 d.c, .int .i64 d.s] 40).ext (Ext.alloc1 _ _)
  have hq : BoxV wb (w.heap.size + 1) [.int .i64 d.r, .int .i64 d.n, .int .i64 d.k, .int .i64 d.i, .int .i64 d.f, .int .i64 d.t, .int .i64 d.a, .int .i64 d.c, .int .i64 d.s] := by
    have h := boxV_new (w.alloc (.cells #[.int .i64 d.r, .int .i64 d.n, .int .i64 d.k, .int .i64 d.i, .int .i64 d.f, .int .i64 d.t, .int .i64 d.a, .int .i64 d.c, .int .i64 d.s] 40)) [.int .i64 d.r, .int .i64 d.n, .int .i64 d.k, .int .i64 d.i, .int .i64 d.f, .int .i64 d.t, .int .i64 d.a, .int .i64 d.c, .int .i64 d.s] 40
    rw [World.size_alloc, ← hwb] at h
    exact h
  have n0 : (d.r != d.r) = false := by simp
  have n1 : (d.n != d.n) = false := by simp
  have HX := Lib.hid xb
  have HWB := Lib.hid hwb
  have HP := Lib.hid hp
  have HQ := Lib.hid hq
  have p0 := hp.cell 0 _ rfl
  have q0 := hq.cell 0 _ rfl
  have p1 := hp.cell 1 _ rfl
  have q1 := hq.cell 1 _ rfl
  have p2 := hp.cell 2 _ rfl
  have q2 := hq.cell 2 _ rfl
  have p3 := hp.cell 3 _ rfl
  have q3 := hq.cell 3 _ rfl
  have p4 := hp.cell 4 _ rfl
  have q4 := hq.cell 4 _ rfl
  have p5 := hp.cell 5 _ rfl
  have q5 := hq.cell 5 _ rfl
  have p6 := hp.cell 6 _ rfl
  have q6 := hq.cell 6 _ rfl
  have p7 := hp.cell 7 _ rfl
  have q7 := hq.cell 7 _ rfl
  have p8 := hp.cell 8 _ rfl
  have q8 := hq.cell 8 _ rfl
  rw [hwb] at p0 q0 p1 q1 p2 q2 p3 q3 p4 q4 p5 q5 p6 q6 p7 q7 p8 q8
  clear hp hq xb hwb
  go_enter Try.func22, Try.ntmps22
  go_wp2_with fail
  rw [← HWB.out]
  refine (eqCmd_same _ _ _ _ _ _).mono ?_
  rintro e w1 ⟨rfl, x1⟩
  have hx := HX.out.trans x1
  have hp1 := HP.out.ext x1
  have hq1 := HQ.out.ext x1
  clear x1 HWB HP HQ p0 q0 p1 q1 p2 q2 p3 q3 p4 q4 p5 q5 p6 q6 p7 q7 p8 q8
  have p7 := hp1.cell 7 _ rfl
  have q7 := hq1.cell 7 _ rfl
  have p8 := hp1.cell 8 _ rfl
  have q8 := hq1.cell 8 _ rfl
  clear hp1 hq1
  go_wp2_with fail
  refine (eqTold_same _ _ _).mono ?_
  rintro e w2 ⟨rfl, x2⟩
  have hx2 := hx.trans x2
  clear x2 hx p7 q7 p8 q8
  go_wp2
  go_ret
  exact ⟨rfl, hx2⟩
set_option maxHeartbeats 4000000 in
set_option maxRecDepth 100000 in
theorem toEntry_any (d : EnD) (w : World) : Calls Try.prog 18 #[.agg #[.int .i64 d.r, .int .i64 d.n, .int .i64 d.k, .int .i64 d.i, .int .i64 d.f, .int .i64 d.t, .int .i64 d.a, .int .i64 d.c, .int .i64 d.s]] w (fun e w' => e = .returned (.agg #[.int .i64 d.r, .int .i64 d.n, .int .i64 d.k, .int .i64 d.i, .int .i64 d.f, .int .i64 d.t, .int .i64 d.a, .int .i64 d.c, .int .i64 d.s]) ∧ Ext w w') := by
  obtain ⟨w0, hw0⟩ : ∃ w0, w0 = ((w.alloc (.cells #[.int .i64 d.r, .int .i64 d.n, .int .i64 d.k, .int .i64 d.i, .int .i64 d.f, .int .i64 d.t, .int .i64 d.a, .int .i64 d.c, .int .i64 d.s] 49)).alloc (.cells #[.int .i64 0, .int .i64 0, .int .i64 0, .int .i64 0, .int .i64 0, .int .i64 0, .int .i64 0, .int .i64 0, .int .i64 0] 40)).alloc (.cells #[.int .i64 d.r, .int .i64 d.n, .int .i64 0, .int .i64 0, .int .i64 0, .int .i64 0, .int .i64 0, .int .i64 0, .int .i64 0] 40) := ⟨_, rfl⟩
  have x0 : Ext w w0 := by rw [hw0]; exact ((Ext.alloc1 _ _).alloc _).alloc _
  have s0 : w0.heap.size = w.heap.size + 3 := by rw [hw0]; simp
  have a0 : BoxV w0 w.heap.size [.int .i64 d.r, .int .i64 d.n, .int .i64 d.k, .int .i64 d.i, .int .i64 d.f, .int .i64 d.t, .int .i64 d.a, .int .i64 d.c, .int .i64 d.s] := by rw [hw0]; exact (boxV_new w [.int .i64 d.r, .int .i64 d.n, .int .i64 d.k, .int .i64 d.i, .int .i64 d.f, .int .i64 d.t, .int .i64 d.a, .int .i64 d.c, .int .i64 d.s] 49).ext ((Ext.alloc1 _ _).alloc _)
  have r0 : BoxV w0 (w.heap.size + 1) [.int .i64 0, .int .i64 0, .int .i64 0, .int .i64 0, .int .i64 0, .int .i64 0, .int .i64 0, .int .i64 0, .int .i64 0] := by
    have h := (boxV_new (w.alloc (.cells #[.int .i64 d.r, .int .i64 d.n, .int .i64 d.k, .int .i64 d.i, .int .i64 d.f, .int .i64 d.t, .int .i64 d.a, .int .i64 d.c, .int .i64 d.s] 49)) [.int .i64 0, .int .i64 0, .int .i64 0, .int .i64 0, .int .i64 0, .int .i64 0, .int .i64 0, .int .i64 0, .int .i64 0] 40).ext (Ext.alloc1 _ (.cells #[.int .i64 d.r, .int .i64 d.n, .int .i64 0, .int .i64 0, .int .i64 0, .int .i64 0, .int .i64 0, .int .i64 0, .int .i64 0] 40))
    rw [World.size_alloc] at h
    rw [hw0]; exact h
  have o0 : BoxV w0 (w.heap.size + 1 + 1) [.int .i64 d.r, .int .i64 d.n, .int .i64 0, .int .i64 0, .int .i64 0, .int .i64 0, .int .i64 0, .int .i64 0, .int .i64 0] := by
    have h := boxV_new ((w.alloc (.cells #[.int .i64 d.r, .int .i64 d.n, .int .i64 d.k, .int .i64 d.i, .int .i64 d.f, .int .i64 d.t, .int .i64 d.a, .int .i64 d.c, .int .i64 d.s] 49)).alloc (.cells #[.int .i64 0, .int .i64 0, .int .i64 0, .int .i64 0, .int .i64 0, .int .i64 0, .int .i64 0, .int .i64 0, .int .i64 0] 40)) [.int .i64 d.r, .int .i64 d.n, .int .i64 0, .int .i64 0, .int .i64 0, .int .i64 0, .int .i64 0, .int .i64 0, .int .i64 0] 40
    rw [World.size_alloc, World.size_alloc] at h
    rw [hw0]; exact h
  have HW0 := Lib.hid hw0
  have HA0 := Lib.hid a0
  have HR0 := Lib.hid r0
  have HO0 := Lib.hid o0
  have HX0 := Lib.hid x0
  clear hw0 a0 r0 o0 x0 s0
  go_enter Try.func18, Try.ntmps18
  go_wp2_with fail
  rw [← HW0.out]
  refine (toCmd_any _ _ _ _ _ _).mono ?_
  rintro e w1 ⟨rfl, x1⟩
  have HA1 := Lib.hid (HA0.out.ext x1)
  have HR1 := Lib.hid (HR0.out.ext x1)
  have HO1 := Lib.hid (HO0.out.ext x1)
  have HX1 := Lib.hid (HX0.out.trans x1)
  clear x1 HR0 HO0 HX0 HW0 HA0
  have o0 := (HO1.out).cell 0 _ rfl
  have z0 := (HO1.out).free 0 (of_decide_eq_true rfl)
  have o1 := (HO1.out).cell 1 _ rfl
  have z1 := (HO1.out).free 1 (of_decide_eq_true rfl)
  have o2 := (HO1.out).cell 2 _ rfl
  have z2 := (HO1.out).free 2 (of_decide_eq_true rfl)
  have o3 := (HO1.out).cell 3 _ rfl
  have z3 := (HO1.out).free 3 (of_decide_eq_true rfl)
  have o4 := (HO1.out).cell 4 _ rfl
  have z4 := (HO1.out).free 4 (of_decide_eq_true rfl)
  have o5 := (HO1.out).cell 5 _ rfl
  have z5 := (HO1.out).free 5 (of_decide_eq_true rfl)
  have o6 := (HO1.out).cell 6 _ rfl
  have z6 := (HO1.out).free 6 (of_decide_eq_true rfl)
  have o7 := (HO1.out).cell 7 _ rfl
  have z7 := (HO1.out).free 7 (of_decide_eq_true rfl)
  have o8 := (HO1.out).cell 8 _ rfl
  have z8 := (HO1.out).free 8 (of_decide_eq_true rfl)
  have a7 := (HA1.out).cell 7 _ rfl
  have a8 := (HA1.out).cell 8 _ rfl
  go_wp2_with fail
  clear o0 z0 o1 z1 o2 z2 o3 z3 o4 z4 o5 z5 o6 z6 o7 z7 o8 z8 a7 a8
  have hx1 : Ext w (((((w1.setCell ⟨w.heap.size + 1 + 1, 2, none⟩ (.int .i64 d.k)).setCell ⟨w.heap.size + 1 + 1, 3, none⟩ (.int .i64 d.i)).setCell ⟨w.heap.size + 1 + 1, 4, none⟩ (.int .i64 d.f)).setCell ⟨w.heap.size + 1 + 1, 5, none⟩ (.int .i64 d.t)).setCell ⟨w.heap.size + 1 + 1, 6, none⟩ (.int .i64 d.a)) := by
    have k1 : Ins w.heap.size (w.heap.size + 3) w1 (((((w1.setCell ⟨w.heap.size + 1 + 1, 2, none⟩ (.int .i64 d.k)).setCell ⟨w.heap.size + 1 + 1, 3, none⟩ (.int .i64 d.i)).setCell ⟨w.heap.size + 1 + 1, 4, none⟩ (.int .i64 d.f)).setCell ⟨w.heap.size + 1 + 1, 5, none⟩ (.int .i64 d.t)).setCell ⟨w.heap.size + 1 + 1, 6, none⟩ (.int .i64 d.a)) := ins_puts (b := w.heap.size + 1 + 1) (by omega) (by omega) [.int .i64 d.k, .int .i64 d.i, .int .i64 d.f, .int .i64 d.t, .int .i64 d.a] 2 w1
    exact k1.ext HX1.out (Nat.le_refl _)
  have ho1 : BoxV (((((w1.setCell ⟨w.heap.size + 1 + 1, 2, none⟩ (.int .i64 d.k)).setCell ⟨w.heap.size + 1 + 1, 3, none⟩ (.int .i64 d.i)).setCell ⟨w.heap.size + 1 + 1, 4, none⟩ (.int .i64 d.f)).setCell ⟨w.heap.size + 1 + 1, 5, none⟩ (.int .i64 d.t)).setCell ⟨w.heap.size + 1 + 1, 6, none⟩ (.int .i64 d.a)) (w.heap.size + 1 + 1) [.int .i64 d.r, .int .i64 d.n, .int .i64 d.k, .int .i64 d.i, .int .i64 d.f, .int .i64 d.t, .int .i64 d.a, .int .i64 0, .int .i64 0] := boxV_puts [.int .i64 d.k, .int .i64 d.i, .int .i64 d.f, .int .i64 d.t, .int .i64 d.a] 2 _ _ HO1.out (of_decide_eq_true rfl)
  have hr1 : BoxV (((((w1.setCell ⟨w.heap.size + 1 + 1, 2, none⟩ (.int .i64 d.k)).setCell ⟨w.heap.size + 1 + 1, 3, none⟩ (.int .i64 d.i)).setCell ⟨w.heap.size + 1 + 1, 4, none⟩ (.int .i64 d.f)).setCell ⟨w.heap.size + 1 + 1, 5, none⟩ (.int .i64 d.t)).setCell ⟨w.heap.size + 1 + 1, 6, none⟩ (.int .i64 d.a)) (w.heap.size + 1) [.int .i64 0, .int .i64 0, .int .i64 0, .int .i64 0, .int .i64 0, .int .i64 0, .int .i64 0, .int .i64 0, .int .i64 0] := boxV_other_puts (by omega) [.int .i64 d.k, .int .i64 d.i, .int .i64 d.f, .int .i64 d.t, .int .i64 d.a] 2 _ _ HR1.out
  obtain ⟨wz, hwz⟩ : ∃ wz, wz = (((((w1.setCell ⟨w.heap.size + 1 + 1, 2, none⟩ (.int .i64 d.k)).setCell ⟨w.heap.size + 1 + 1, 3, none⟩ (.int .i64 d.i)).setCell ⟨w.heap.size + 1 + 1, 4, none⟩ (.int .i64 d.f)).setCell ⟨w.heap.size + 1 + 1, 5, none⟩ (.int .i64 d.t)).setCell ⟨w.heap.size + 1 + 1, 6, none⟩ (.int .i64 d.a)) := ⟨_, rfl⟩
  rw [← hwz] at hx1 ho1 hr1 ⊢
  clear hwz HA1 HR1 HO1 HX1
  refine (toTold_any _ _ _).mono ?_
  rintro e w2 ⟨rfl, x2⟩
  have HR2 := Lib.hid (hr1.ext x2)
  have HO2 := Lib.hid (ho1.ext x2)
  have HX2 := Lib.hid (hx1.trans x2)
  clear x2 hr1 ho1 hx1
  have o0 := (HO2.out).cell 0 _ rfl
  have z0 := (HO2.out).free 0 (of_decide_eq_true rfl)
  have r0 := (HR2.out).cell 0 _ rfl
  have y0 := (HR2.out).free 0 (of_decide_eq_true rfl)
  have o1 := (HO2.out).cell 1 _ rfl
  have z1 := (HO2.out).free 1 (of_decide_eq_true rfl)
  have r1 := (HR2.out).cell 1 _ rfl
  have y1 := (HR2.out).free 1 (of_decide_eq_true rfl)
  have o2 := (HO2.out).cell 2 _ rfl
  have z2 := (HO2.out).free 2 (of_decide_eq_true rfl)
  have r2 := (HR2.out).cell 2 _ rfl
  have y2 := (HR2.out).free 2 (of_decide_eq_true rfl)
  have o3 := (HO2.out).cell 3 _ rfl
  have z3 := (HO2.out).free 3 (of_decide_eq_true rfl)
  have r3 := (HR2.out).cell 3 _ rfl
  have y3 := (HR2.out).free 3 (of_decide_eq_true rfl)
  have o4 := (HO2.out).cell 4 _ rfl
  have z4 := (HO2.out).free 4 (of_decide_eq_true rfl)
  have r4 := (HR2.out).cell 4 _ rfl
  have y4 := (HR2.out).free 4 (of_decide_eq_true rfl)
  have o5 := (HO2.out).cell 5 _ rfl
  have z5 := (HO2.out).free 5 (of_decide_eq_true rfl)
  have r5 := (HR2.out).cell 5 _ rfl
  have y5 := (HR2.out).free 5 (of_decide_eq_true rfl)
  have o6 := (HO2.out).cell 6 _ rfl
  have z6 := (HO2.out).free 6 (of_decide_eq_true rfl)
  have r6 := (HR2.out).cell 6 _ rfl
  have y6 := (HR2.out).free 6 (of_decide_eq_true rfl)
  have o7 := (HO2.out).cell 7 _ rfl
  have z7 := (HO2.out).free 7 (of_decide_eq_true rfl)
  have r7 := (HR2.out).cell 7 _ rfl
  have y7 := (HR2.out).free 7 (of_decide_eq_true rfl)
  have o8 := (HO2.out).cell 8 _ rfl
  have z8 := (HO2.out).free 8 (of_decide_eq_true rfl)
  have r8 := (HR2.out).cell 8 _ rfl
  have y8 := (HR2.out).free 8 (of_decide_eq_true rfl)
  go_wp2
  clear o0 z0 r0 y0 o1 z1 r1 y1 o2 z2 r2 y2 o3 z3 r3 y3 o4 z4 r4 y4 o5 z5 r5 y5 o6 z6 r6 y6 o7 z7 r7 y7 o8 z8 r8 y8
  have hx : Ext w (((((((((((w2.setCell ⟨w.heap.size + 1 + 1, 7, none⟩ (.int .i64 d.c)).setCell ⟨w.heap.size + 1 + 1, 8, none⟩ (.int .i64 d.s)).setCell ⟨w.heap.size + 1, 0, none⟩ (.int .i64 d.r)).setCell ⟨w.heap.size + 1, 1, none⟩ (.int .i64 d.n)).setCell ⟨w.heap.size + 1, 2, none⟩ (.int .i64 d.k)).setCell ⟨w.heap.size + 1, 3, none⟩ (.int .i64 d.i)).setCell ⟨w.heap.size + 1, 4, none⟩ (.int .i64 d.f)).setCell ⟨w.heap.size + 1, 5, none⟩ (.int .i64 d.t)).setCell ⟨w.heap.size + 1, 6, none⟩ (.int .i64 d.a)).setCell ⟨w.heap.size + 1, 7, none⟩ (.int .i64 d.c)).setCell ⟨w.heap.size + 1, 8, none⟩ (.int .i64 d.s)) := by
    have k1 : Ins w.heap.size (w.heap.size + 3) w2 (((((((((((w2.setCell ⟨w.heap.size + 1 + 1, 7, none⟩ (.int .i64 d.c)).setCell ⟨w.heap.size + 1 + 1, 8, none⟩ (.int .i64 d.s)).setCell ⟨w.heap.size + 1, 0, none⟩ (.int .i64 d.r)).setCell ⟨w.heap.size + 1, 1, none⟩ (.int .i64 d.n)).setCell ⟨w.heap.size + 1, 2, none⟩ (.int .i64 d.k)).setCell ⟨w.heap.size + 1, 3, none⟩ (.int .i64 d.i)).setCell ⟨w.heap.size + 1, 4, none⟩ (.int .i64 d.f)).setCell ⟨w.heap.size + 1, 5, none⟩ (.int .i64 d.t)).setCell ⟨w.heap.size + 1, 6, none⟩ (.int .i64 d.a)).setCell ⟨w.heap.size + 1, 7, none⟩ (.int .i64 d.c)).setCell ⟨w.heap.size + 1, 8, none⟩ (.int .i64 d.s)) := (ins_puts (b := w.heap.size + 1 + 1) (by omega) (by omega) [.int .i64 d.c, .int .i64 d.s] 7 w2).trans (ins_puts (b := w.heap.size + 1) (by omega) (by omega) [.int .i64 d.r, .int .i64 d.n, .int .i64 d.k, .int .i64 d.i, .int .i64 d.f, .int .i64 d.t, .int .i64 d.a, .int .i64 d.c, .int .i64 d.s] 0 _)
    exact k1.ext HX2.out (Nat.le_refl _)
  have hr : BoxV (((((((((((w2.setCell ⟨w.heap.size + 1 + 1, 7, none⟩ (.int .i64 d.c)).setCell ⟨w.heap.size + 1 + 1, 8, none⟩ (.int .i64 d.s)).setCell ⟨w.heap.size + 1, 0, none⟩ (.int .i64 d.r)).setCell ⟨w.heap.size + 1, 1, none⟩ (.int .i64 d.n)).setCell ⟨w.heap.size + 1, 2, none⟩ (.int .i64 d.k)).setCell ⟨w.heap.size + 1, 3, none⟩ (.int .i64 d.i)).setCell ⟨w.heap.size + 1, 4, none⟩ (.int .i64 d.f)).setCell ⟨w.heap.size + 1, 5, none⟩ (.int .i64 d.t)).setCell ⟨w.heap.size + 1, 6, none⟩ (.int .i64 d.a)).setCell ⟨w.heap.size + 1, 7, none⟩ (.int .i64 d.c)).setCell ⟨w.heap.size + 1, 8, none⟩ (.int .i64 d.s)) (w.heap.size + 1) [.int .i64 d.r, .int .i64 d.n, .int .i64 d.k, .int .i64 d.i, .int .i64 d.f, .int .i64 d.t, .int .i64 d.a, .int .i64 d.c, .int .i64 d.s] := boxV_puts [.int .i64 d.r, .int .i64 d.n, .int .i64 d.k, .int .i64 d.i, .int .i64 d.f, .int .i64 d.t, .int .i64 d.a, .int .i64 d.c, .int .i64 d.s] 0 _ _ (boxV_other_puts (by omega) [.int .i64 d.c, .int .i64 d.s] 7 _ _ HR2.out) (of_decide_eq_true rfl)
  obtain ⟨wz, hwz⟩ : ∃ wz, wz = (((((((((((w2.setCell ⟨w.heap.size + 1 + 1, 7, none⟩ (.int .i64 d.c)).setCell ⟨w.heap.size + 1 + 1, 8, none⟩ (.int .i64 d.s)).setCell ⟨w.heap.size + 1, 0, none⟩ (.int .i64 d.r)).setCell ⟨w.heap.size + 1, 1, none⟩ (.int .i64 d.n)).setCell ⟨w.heap.size + 1, 2, none⟩ (.int .i64 d.k)).setCell ⟨w.heap.size + 1, 3, none⟩ (.int .i64 d.i)).setCell ⟨w.heap.size + 1, 4, none⟩ (.int .i64 d.f)).setCell ⟨w.heap.size + 1, 5, none⟩ (.int .i64 d.t)).setCell ⟨w.heap.size + 1, 6, none⟩ (.int .i64 d.a)).setCell ⟨w.heap.size + 1, 7, none⟩ (.int .i64 d.c)).setCell ⟨w.heap.size + 1, 8, none⟩ (.int .i64 d.s)) := ⟨_, rfl⟩
  rw [← hwz] at hx hr ⊢
  clear hwz
  have r0 := hr.cell 0 _ rfl
  have r1 := hr.cell 1 _ rfl
  have r2 := hr.cell 2 _ rfl
  have r3 := hr.cell 3 _ rfl
  have r4 := hr.cell 4 _ rfl
  have r5 := hr.cell 5 _ rfl
  have r6 := hr.cell 6 _ rfl
  have r7 := hr.cell 7 _ rfl
  have r8 := hr.cell 8 _ rfl
  exact bodyPost_ret (v := .agg #[.int .i64 d.r, .int .i64 d.n, .int .i64 d.k, .int .i64 d.i, .int .i64 d.f, .int .i64 d.t, .int .i64 d.a, .int .i64 d.c, .int .i64 d.s]) (by simp [results, Try.results18, go_sem, r0, r1, r2, r3, r4, r5, r6, r7, r8]) rfl ⟨rfl, hx⟩
end Go.Proofs.Ytcpmfcigciknlaa
