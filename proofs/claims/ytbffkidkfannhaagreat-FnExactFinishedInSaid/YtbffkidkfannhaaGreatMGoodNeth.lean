/- Texts of this proof, part h: words, plain facts, contracts. -/
import Derived.Test.YtbffkidkfannhaaGreatMGoodNetg
import Derived.Test.YtbffkidkfannhaaGreatMGoodNetf
import Derived.Test.YtbffkidkfannhaaGreatMGoodNetd
import Derived.Test.YtbffkidkfannhaaGreatMGoodNete
import Derived.Test.YtbffkidkfannhaaGreatMGoodNetb
import Derived.Test.YtbffkidkfannhaaGreatMGoodNetc

namespace Go.Proofs.YtbffkidkfannhaaGreat
open Go.RowKit
set_option linter.unusedVariables false

set_option maxHeartbeats 4000000 in
set_option maxRecDepth 100000 in
theorem eqMesS_same (u v : Value) (L : List MsgD) (w : World) (hu : Mesz w u L) (hv : Mesz w v L) :
    Calls Tryz.prog 31 #[u, v] w (BoolExt true w) := by
  obtain ⟨au, cu, rfl, hlu, _, hcu⟩ := hu
  obtain ⟨av, cv, rfl, hlv, _, hcv⟩ := hv
  unfold maxLen at hlu hlv
  have e0 : ((L.length : Int) != (L.length : Int)) = false := by simp
  go_enter Tryz.func31, Tryz.ntmps31
  go_wp2
  go_loopw [5] (fun i wr => ∃ k : Nat, k ≤ L.length ∧ i = .int .i64 k ∧ Ext w wr) (fun i _ => L.length - (intOf i).toNat)
  case atStart => exact ⟨0, Nat.zero_le _, rfl, Ext.refl _⟩
  case round =>
    obtain ⟨k, hk, rfl, hx⟩ := hrel
    by_cases hlt : k < L.length
    · obtain ⟨bu, ou, rfl, du⟩ := hcu (by omega)
      obtain ⟨bv, ov, rfl, dv⟩ := hcv (by omega)
      obtain ⟨u1, hx1, ix⟩ := du k hlt
      obtain ⟨v1, hy1, iy⟩ := dv k hlt
      obtain ⟨d, hd⟩ : ∃ d, d = L[k] := ⟨_, rfl⟩
      rw [← hd] at hx1 hy1 ix iy
      obtain ⟨p0, p1, p2, p3, p4, p5, p6, p7, p8, p9, p10, p11, p12, p13, p14⟩ := mesIn_cells (hx1.ext hx)
      obtain ⟨q0, q1, q2, q3, q4, q5, q6, q7, q8, q9, q10, q11, q12, q13, q14⟩ := mesIn_cells (hy1.ext hx)
      have cE : ∀ E : ExtOf wr, Calls Tryz.prog 59 #[.agg #[.int .i64 d.kd, .int .i64 d.fr, .int .i64 d.tt, .int .i64 d.rp, .int .i64 d.no, .int .i64 d.b, .int .i64 d.v, .int .i64 d.st, .int .i64 d.k, .int .i64 d.i, .int .i64 d.f, .int .i64 d.t, .int .i64 d.a, .int .i64 d.s, u1], .agg #[.int .i64 d.kd, .int .i64 d.fr, .int .i64 d.tt, .int .i64 d.rp, .int .i64 d.no, .int .i64 d.b, .int .i64 d.v, .int .i64 d.st, .int .i64 d.k, .int .i64 d.i, .int .i64 d.f, .int .i64 d.t, .int .i64 d.a, .int .i64 d.s, v1]] E.1 (BoolExt true E.1) := fun E => eqMsg_same d _ _ _ ((ix.i1.ext hx).ext E.2) ((iy.i1.ext hx).ext E.2)
      have p0 := fun E : ExtOf wr => E.cell p0
      have q0 := fun E : ExtOf wr => E.cell q0
      have p1 := fun E : ExtOf wr => E.cell p1
      have q1 := fun E : ExtOf wr => E.cell q1
      have p2 := fun E : ExtOf wr => E.cell p2
      have q2 := fun E : ExtOf wr => E.cell q2
      have p3 := fun E : ExtOf wr => E.cell p3
      have q3 := fun E : ExtOf wr => E.cell q3
      have p4 := fun E : ExtOf wr => E.cell p4
      have q4 := fun E : ExtOf wr => E.cell q4
      have p5 := fun E : ExtOf wr => E.cell p5
      have q5 := fun E : ExtOf wr => E.cell q5
      have p6 := fun E : ExtOf wr => E.cell p6
      have q6 := fun E : ExtOf wr => E.cell q6
      have p7 := fun E : ExtOf wr => E.cell p7
      have q7 := fun E : ExtOf wr => E.cell q7
      have p8 := fun E : ExtOf wr => E.cell p8
      have q8 := fun E : ExtOf wr => E.cell q8
      have p9 := fun E : ExtOf wr => E.cell p9
      have q9 := fun E : ExtOf wr => E.cell q9
      have p10 := fun E : ExtOf wr => E.cell p10
      have q10 := fun E : ExtOf wr => E.cell q10
      have p11 := fun E : ExtOf wr => E.cell p11
      have q11 := fun E : ExtOf wr => E.cell q11
      have p12 := fun E : ExtOf wr => E.cell p12
      have q12 := fun E : ExtOf wr => E.cell q12
      have p13 := fun E : ExtOf wr => E.cell p13
      have q13 := fun E : ExtOf wr => E.cell q13
      have p14 := fun E : ExtOf wr => E.cell p14
      have q14 := fun E : ExtOf wr => E.cell q14
      have HX := Lib.hid hx
      have HLT := Lib.hid hlt
      clear hcu hcv du dv hx1 hy1 ix iy hd hx
      go_wp2_with fail
      refine wp_region_ext_lit (by kernel_rfl) (by kernel_rfl) ?_
      repeat (go_big_quiet_step (first | (go_at_call 59; with_reducible exact Calls.ext_of _ (cE _))))
      refine wpQuiet_nil ?_
      rintro _ ⟨E, rfl⟩
      have hx2 : Ext w E.1 := HX.out.trans E.2
      clear cE p0 p1 p2 p3 p4 p5 p6 p7 p8 p9 p10 p11 p12 p13 p14 q0 q1 q2 q3 q4 q5 q6 q7 q8 q9 q10 q11 q12 q13 q14
      go_wp2
      go_roundw
      case rel => exact ⟨k + 1, by have := HLT.out; omega, by go_num, hx2⟩
      case measure => simp [intOf]; have := HLT.out; omega
    · obtain rfl : k = L.length := by omega
      go_wp2
      go_ret
      exact ⟨rfl, hx⟩
end Go.Proofs.YtbffkidkfannhaaGreat

namespace Go.Proofs.YtbffkidkfannhaaGreat
open Go.RowKit
set_option linter.unusedVariables false

theorem boxV_other_puts {b b' : Nat} (hne : b' ≠ b) : ∀ (vs : List Value) (o : Nat) (w : World) (xs : List Value), BoxV w b xs → BoxV (w.setCells b' o vs) b xs
  | [], _, _, _, h => h
  | v :: r, o, w, xs, h => boxV_other_puts hne r (o + 1) _ _ (h.other _ _ hne)
set_option maxHeartbeats 4000000 in
set_option maxRecDepth 100000 in
theorem toAsked_any (d : AskD) (w : World) : Calls Tryz.prog 52 #[.agg #[.int .i64 d.rp, .int .i64 d.no, .int .i64 d.k, .int .i64 d.i, .int .i64 d.f, .int .i64 d.t, .int .i64 d.a]] w (fun e w' => e = .returned (.agg #[.int .i64 d.rp, .int .i64 d.no, .int .i64 d.k, .int .i64 d.i, .int .i64 d.f, .int .i64 d.t, .int .i64 d.a]) ∧ Ext w w') := by
  obtain ⟨w0, hw0⟩ : ∃ w0, w0 = ((w.alloc (.cells #[.int .i64 d.rp, .int .i64 d.no, .int .i64 d.k, .int .i64 d.i, .int .i64 d.f, .int .i64 d.t, .int .i64 d.a] 109)).alloc (.cells #[.int .i64 0, .int .i64 0, .int .i64 0, .int .i64 0, .int .i64 0, .int .i64 0, .int .i64 0] 106)).alloc (.cells #[.int .i64 d.rp, .int .i64 d.no, .int .i64 0, .int .i64 0, .int .i64 0, .int .i64 0, .int .i64 0] 106) := ⟨_, rfl⟩
  have x0 : Ext w w0 := by rw [hw0]; exact ((Ext.alloc1 _ _).alloc _).alloc _
  have s0 : w0.heap.size = w.heap.size + 3 := by rw [hw0]; simp
  have a0 : BoxV w0 w.heap.size [.int .i64 d.rp, .int .i64 d.no, .int .i64 d.k, .int .i64 d.i, .int .i64 d.f, .int .i64 d.t, .int .i64 d.a] := by rw [hw0]; exact (boxV_new w [.int .i64 d.rp, .int .i64 d.no, .int .i64 d.k, .int .i64 d.i, .int .i64 d.f, .int .i64 d.t, .int .i64 d.a] 109).ext ((Ext.alloc1 _ _).alloc _)
  have r0 : BoxV w0 (w.heap.size + 1) [.int .i64 0, .int .i64 0, .int .i64 0, .int .i64 0, .int .i64 0, .int .i64 0, .int .i64 0] := by
    have h := (boxV_new (w.alloc (.cells #[.int .i64 d.rp, .int .i64 d.no, .int .i64 d.k, .int .i64 d.i, .int .i64 d.f, .int .i64 d.t, .int .i64 d.a] 109)) [.int .i64 0, .int .i64 0, .int .i64 0, .int .i64 0, .int .i64 0, .int .i64 0, .int .i64 0] 106).ext (Ext.alloc1 _ (.cells #[.int .i64 d.rp, .int .i64 d.no, .int .i64 0, .int .i64 0, .int .i64 0, .int .i64 0, .int .i64 0] 106))
    rw [World.size_alloc] at h
    rw [hw0]; exact h
  have o0 : BoxV w0 (w.heap.size + 1 + 1) [.int .i64 d.rp, .int .i64 d.no, .int .i64 0, .int .i64 0, .int .i64 0, .int .i64 0, .int .i64 0] := by
    have h := boxV_new ((w.alloc (.cells #[.int .i64 d.rp, .int .i64 d.no, .int .i64 d.k, .int .i64 d.i, .int .i64 d.f, .int .i64 d.t, .int .i64 d.a] 109)).alloc (.cells #[.int .i64 0, .int .i64 0, .int .i64 0, .int .i64 0, .int .i64 0, .int .i64 0, .int .i64 0] 106)) [.int .i64 d.rp, .int .i64 d.no, .int .i64 0, .int .i64 0, .int .i64 0, .int .i64 0, .int .i64 0] 106
    rw [World.size_alloc, World.size_alloc] at h
    rw [hw0]; exact h
  have HW0 := Lib.hid hw0
  have HR0 := Lib.hid r0
  have HO0 := Lib.hid o0
  have HX0 := Lib.hid x0
  have HS0 := Lib.hid s0
  clear hw0 a0 r0 o0 x0 s0
  go_enter Tryz.func52, Tryz.ntmps52
  go_wp2_with fail
  rw [← HW0.out]
  refine (toCmd_any _ _ _ _ _ _).mono ?_
  rintro e w1 ⟨rfl, x1⟩
  have HR1 := Lib.hid (HR0.out.ext x1)
  have HO1 := Lib.hid (HO0.out.ext x1)
  have HX1 := Lib.hid (HX0.out.trans x1)
  clear x1 HR0 HO0 HX0 HS0 HW0
  have o0 := (HO1.out).cell 0 _ rfl
  have z0 := (HO1.out).free 0 (of_decide_eq_true rfl)
  have r0 := (HR1.out).cell 0 _ rfl
  have y0 := (HR1.out).free 0 (of_decide_eq_true rfl)
  have o1 := (HO1.out).cell 1 _ rfl
  have z1 := (HO1.out).free 1 (of_decide_eq_true rfl)
  have r1 := (HR1.out).cell 1 _ rfl
  have y1 := (HR1.out).free 1 (of_decide_eq_true rfl)
  have o2 := (HO1.out).cell 2 _ rfl
  have z2 := (HO1.out).free 2 (of_decide_eq_true rfl)
  have r2 := (HR1.out).cell 2 _ rfl
  have y2 := (HR1.out).free 2 (of_decide_eq_true rfl)
  have o3 := (HO1.out).cell 3 _ rfl
  have z3 := (HO1.out).free 3 (of_decide_eq_true rfl)
  have r3 := (HR1.out).cell 3 _ rfl
  have y3 := (HR1.out).free 3 (of_decide_eq_true rfl)
  have o4 := (HO1.out).cell 4 _ rfl
  have z4 := (HO1.out).free 4 (of_decide_eq_true rfl)
  have r4 := (HR1.out).cell 4 _ rfl
  have y4 := (HR1.out).free 4 (of_decide_eq_true rfl)
  have o5 := (HO1.out).cell 5 _ rfl
  have z5 := (HO1.out).free 5 (of_decide_eq_true rfl)
  have r5 := (HR1.out).cell 5 _ rfl
  have y5 := (HR1.out).free 5 (of_decide_eq_true rfl)
  have o6 := (HO1.out).cell 6 _ rfl
  have z6 := (HO1.out).free 6 (of_decide_eq_true rfl)
  have r6 := (HR1.out).cell 6 _ rfl
  have y6 := (HR1.out).free 6 (of_decide_eq_true rfl)
  go_wp2
  clear o0 z0 r0 y0 o1 z1 r1 y1 o2 z2 r2 y2 o3 z3 r3 y3 o4 z4 r4 y4 o5 z5 r5 y5 o6 z6 r6 y6
  have hx : Ext w ((((((((((((w1.setCell ⟨w.heap.size + 1 + 1, 2, none⟩ (.int .i64 d.k)).setCell ⟨w.heap.size + 1 + 1, 3, none⟩ (.int .i64 d.i)).setCell ⟨w.heap.size + 1 + 1, 4, none⟩ (.int .i64 d.f)).setCell ⟨w.heap.size + 1 + 1, 5, none⟩ (.int .i64 d.t)).setCell ⟨w.heap.size + 1 + 1, 6, none⟩ (.int .i64 d.a)).setCell ⟨w.heap.size + 1, 0, none⟩ (.int .i64 d.rp)).setCell ⟨w.heap.size + 1, 1, none⟩ (.int .i64 d.no)).setCell ⟨w.heap.size + 1, 2, none⟩ (.int .i64 d.k)).setCell ⟨w.heap.size + 1, 3, none⟩ (.int .i64 d.i)).setCell ⟨w.heap.size + 1, 4, none⟩ (.int .i64 d.f)).setCell ⟨w.heap.size + 1, 5, none⟩ (.int .i64 d.t)).setCell ⟨w.heap.size + 1, 6, none⟩ (.int .i64 d.a)) := by
    have k1 : Ins w.heap.size (w.heap.size + 3) w1 ((((((((((((w1.setCell ⟨w.heap.size + 1 + 1, 2, none⟩ (.int .i64 d.k)).setCell ⟨w.heap.size + 1 + 1, 3, none⟩ (.int .i64 d.i)).setCell ⟨w.heap.size + 1 + 1, 4, none⟩ (.int .i64 d.f)).setCell ⟨w.heap.size + 1 + 1, 5, none⟩ (.int .i64 d.t)).setCell ⟨w.heap.size + 1 + 1, 6, none⟩ (.int .i64 d.a)).setCell ⟨w.heap.size + 1, 0, none⟩ (.int .i64 d.rp)).setCell ⟨w.heap.size + 1, 1, none⟩ (.int .i64 d.no)).setCell ⟨w.heap.size + 1, 2, none⟩ (.int .i64 d.k)).setCell ⟨w.heap.size + 1, 3, none⟩ (.int .i64 d.i)).setCell ⟨w.heap.size + 1, 4, none⟩ (.int .i64 d.f)).setCell ⟨w.heap.size + 1, 5, none⟩ (.int .i64 d.t)).setCell ⟨w.heap.size + 1, 6, none⟩ (.int .i64 d.a)) := (ins_puts (b := w.heap.size + 1 + 1) (by omega) (by omega) [.int .i64 d.k, .int .i64 d.i, .int .i64 d.f, .int .i64 d.t, .int .i64 d.a] 2 w1).trans (ins_puts (b := w.heap.size + 1) (by omega) (by omega) [.int .i64 d.rp, .int .i64 d.no, .int .i64 d.k, .int .i64 d.i, .int .i64 d.f, .int .i64 d.t, .int .i64 d.a] 0 _)
    exact k1.ext HX1.out (Nat.le_refl _)
  have hr : BoxV ((((((((((((w1.setCell ⟨w.heap.size + 1 + 1, 2, none⟩ (.int .i64 d.k)).setCell ⟨w.heap.size + 1 + 1, 3, none⟩ (.int .i64 d.i)).setCell ⟨w.heap.size + 1 + 1, 4, none⟩ (.int .i64 d.f)).setCell ⟨w.heap.size + 1 + 1, 5, none⟩ (.int .i64 d.t)).setCell ⟨w.heap.size + 1 + 1, 6, none⟩ (.int .i64 d.a)).setCell ⟨w.heap.size + 1, 0, none⟩ (.int .i64 d.rp)).setCell ⟨w.heap.size + 1, 1, none⟩ (.int .i64 d.no)).setCell ⟨w.heap.size + 1, 2, none⟩ (.int .i64 d.k)).setCell ⟨w.heap.size + 1, 3, none⟩ (.int .i64 d.i)).setCell ⟨w.heap.size + 1, 4, none⟩ (.int .i64 d.f)).setCell ⟨w.heap.size + 1, 5, none⟩ (.int .i64 d.t)).setCell ⟨w.heap.size + 1, 6, none⟩ (.int .i64 d.a)) (w.heap.size + 1) [.int .i64 d.rp, .int .i64 d.no, .int .i64 d.k, .int .i64 d.i, .int .i64 d.f, .int .i64 d.t, .int .i64 d.a] := boxV_puts [.int .i64 d.rp, .int .i64 d.no, .int .i64 d.k, .int .i64 d.i, .int .i64 d.f, .int .i64 d.t, .int .i64 d.a] 0 _ _ (boxV_other_puts (by omega) [.int .i64 d.k, .int .i64 d.i, .int .i64 d.f, .int .i64 d.t, .int .i64 d.a] 2 _ _ HR1.out) (of_decide_eq_true rfl)
  obtain ⟨wz, hwz⟩ : ∃ wz, wz = ((((((((((((w1.setCell ⟨w.heap.size + 1 + 1, 2, none⟩ (.int .i64 d.k)).setCell ⟨w.heap.size + 1 + 1, 3, none⟩ (.int .i64 d.i)).setCell ⟨w.heap.size + 1 + 1, 4, none⟩ (.int .i64 d.f)).setCell ⟨w.heap.size + 1 + 1, 5, none⟩ (.int .i64 d.t)).setCell ⟨w.heap.size + 1 + 1, 6, none⟩ (.int .i64 d.a)).setCell ⟨w.heap.size + 1, 0, none⟩ (.int .i64 d.rp)).setCell ⟨w.heap.size + 1, 1, none⟩ (.int .i64 d.no)).setCell ⟨w.heap.size + 1, 2, none⟩ (.int .i64 d.k)).setCell ⟨w.heap.size + 1, 3, none⟩ (.int .i64 d.i)).setCell ⟨w.heap.size + 1, 4, none⟩ (.int .i64 d.f)).setCell ⟨w.heap.size + 1, 5, none⟩ (.int .i64 d.t)).setCell ⟨w.heap.size + 1, 6, none⟩ (.int .i64 d.a)) := ⟨_, rfl⟩
  rw [← hwz] at hx hr ⊢
  clear hwz
  have r0 := hr.cell 0 _ rfl
  have r1 := hr.cell 1 _ rfl
  have r2 := hr.cell 2 _ rfl
  have r3 := hr.cell 3 _ rfl
  have r4 := hr.cell 4 _ rfl
  have r5 := hr.cell 5 _ rfl
  have r6 := hr.cell 6 _ rfl
  exact bodyPost_ret (v := .agg #[.int .i64 d.rp, .int .i64 d.no, .int .i64 d.k, .int .i64 d.i, .int .i64 d.f, .int .i64 d.t, .int .i64 d.a]) (by simp [results, Tryz.results52, go_sem, r0, r1, r2, r3, r4, r5, r6]) rfl ⟨rfl, hx⟩
set_option maxHeartbeats 2000000 in
set_option maxRecDepth 100000 in
theorem eqAsked_same (d : AskD) (w : World) : Calls Tryz.prog 60 #[.agg #[.int .i64 d.rp, .int .i64 d.no, .int .i64 d.k, .int .i64 d.i, .int .i64 d.f, .int .i64 d.t, .int .i64 d.a], .agg #[.int .i64 d.rp, .int .i64 d.no, .int .i64 d.k, .int .i64 d.i, .int .i64 d.f, .int .i64 d.t, .int .i64 d.a]] w (BoolExt true w) := by
  obtain ⟨wb, hwb⟩ : ∃ wb, wb = (w.alloc (.cells #[.int .i64 d.rp, .int .i64 d.no, .int .i64 d.k, .int .i64 d.i, .int .i64 d.f, .int .i64 d.t, .int .i64 d.a] 106)).alloc (.cells #[.int .i64 d.rp, .int .i64 d.no, .int .i64 d.k, .int .i64 d.i, .int .i64 d.f, .int .i64 d.t, .int .i64 d.a] 106) := ⟨_, rfl⟩
  have xb : Ext w wb := by rw [hwb]; exact (Ext.alloc1 _ _).alloc _
  have hp : BoxV wb w.heap.size [.int .i64 d.rp, .int .i64 d.no, .int .i64 d.k, .int .i64 d.i, .int .i64 d.f, .int .i64 d.t, .int .i64 d.a] := by rw [hwb]; exact (boxV_new w [.int .i64 d.rp, .int .i64 d.no, .int .i64 d.k, .int .i64 d.i, .int .i64 d.f, .int .i64 d.t, .int .i64 d.a] 106).ext (Ext.alloc1 _ _)
  have hq : BoxV wb (w.heap.size + 1) [.int .i64 d.rp, .int .i64 d.no, .int .i64 d.k, .int .i64 d.i, .int .i64 d.f, .int .i64 d.t, .int .i64 d.a] := by
    have h := boxV_new (w.alloc (.cells #[.int .i64 d.rp, .int .i64 d.no, .int .i64 d.k, .int .i64 d.i, .int .i64 d.f, .int .i64 d.t, .int .i64 d.a] 106)) [.int .i64 d.rp, .int .i64 d.no, .int .i64 d.k, .int .i64 d.i, .int .i64 d.f, .int .i64 d.t, .int .i64 d.a] 106
    rw [World.size_alloc, ← hwb] at h
    exact h
  have n0 : (d.rp != d.rp) = false := by simp
  have n1 : (d.no != d.no) = false := by simp
  have HX := Lib.hid xb
  have HWB := Lib.hid hwb
  have p0 := hp.cell 0 _ rfl
  have q0 := hq.cell 0 _ rfl
  have p1 := hp.cell 1 _ rfl
  have q1 := hq.cell 1 _ rfl
  have p2 := hp.cell 2 _ rfl
  have q2 := hq.cell 2 _ rfl
  have p3 := hp.cell 3 _ rfl
  have q3 := hq.cell 3 _ rfl
  have p4 := hp.cell 4 _ rfl
  have q4 := hq.cell 4 _ rfl
  have p5 := hp.cell 5 _ rfl
  have q5 := hq.cell 5 _ rfl
  have p6 := hp.cell 6 _ rfl
  have q6 := hq.cell 6 _ rfl
  rw [hwb] at p0 q0 p1 q1 p2 q2 p3 q3 p4 q4 p5 q5 p6 q6
  clear hp hq xb hwb
  go_enter Tryz.func60, Tryz.ntmps60
  go_wp2_with fail
  rw [← HWB.out]
  refine (eqCmd_same _ _ _ _ _ _).mono ?_
  rintro e w1 ⟨rfl, x1⟩
  have hx := HX.out.trans x1
  clear x1 HWB p0 q0 p1 q1 p2 q2 p3 q3 p4 q4 p5 q5 p6 q6
  go_wp2
  go_ret
  exact ⟨rfl, hx⟩
end Go.Proofs.YtbffkidkfannhaaGreat

namespace Go.Proofs.YtbffkidkfannhaaGreat
open Go.RowKit
set_option linter.unusedVariables false

set_option maxHeartbeats 4000000 in
set_option maxRecDepth 100000 in
theorem eqAskS_same (u v : Value) (L : List AskD) (w : World) (hu : Askz w u L) (hv : Askz w v L) :
    Calls Tryz.prog 32 #[u, v] w (BoolExt true w) := by
  obtain ⟨au, cu, rfl, hlu, _, hcu⟩ := hu
  obtain ⟨av, cv, rfl, hlv, _, hcv⟩ := hv
  unfold maxLen at hlu hlv
  have e0 : ((L.length : Int) != (L.length : Int)) = false := by simp
  go_enter Tryz.func32, Tryz.ntmps32
  go_wp2
  go_loopw [5] (fun i wr => ∃ k : Nat, k ≤ L.length ∧ i = .int .i64 k ∧ Ext w wr) (fun i _ => L.length - (intOf i).toNat)
  case atStart => exact ⟨0, Nat.zero_le _, rfl, Ext.refl _⟩
  case round =>
    obtain ⟨k, hk, rfl, hx⟩ := hrel
    by_cases hlt : k < L.length
    · obtain ⟨bu, ou, rfl, du⟩ := hcu (by omega)
      obtain ⟨bv, ov, rfl, dv⟩ := hcv (by omega)
      have hx1 := du k hlt
      have hy1 := dv k hlt
      obtain ⟨d, hd⟩ : ∃ d, d = L[k] := ⟨_, rfl⟩
      rw [← hd] at hx1 hy1
      obtain ⟨p0, p1, p2, p3, p4, p5, p6⟩ := askIn_cells (hx1.ext hx)
      obtain ⟨q0, q1, q2, q3, q4, q5, q6⟩ := askIn_cells (hy1.ext hx)
      have cE : ∀ E : ExtOf wr, Calls Tryz.prog 60 #[.agg #[.int .i64 d.rp, .int .i64 d.no, .int .i64 d.k, .int .i64 d.i, .int .i64 d.f, .int .i64 d.t, .int .i64 d.a], .agg #[.int .i64 d.rp, .int .i64 d.no, .int .i64 d.k, .int .i64 d.i, .int .i64 d.f, .int .i64 d.t, .int .i64 d.a]] E.1 (BoolExt true E.1) := fun E => eqAsked_same d _
      have p0 := fun E : ExtOf wr => E.cell p0
      have q0 := fun E : ExtOf wr => E.cell q0
      have p1 := fun E : ExtOf wr => E.cell p1
      have q1 := fun E : ExtOf wr => E.cell q1
      have p2 := fun E : ExtOf wr => E.cell p2
      have q2 := fun E : ExtOf wr => E.cell q2
      have p3 := fun E : ExtOf wr => E.cell p3
      have q3 := fun E : ExtOf wr => E.cell q3
      have p4 := fun E : ExtOf wr => E.cell p4
      have q4 := fun E : ExtOf wr => E.cell q4
      have p5 := fun E : ExtOf wr => E.cell p5
      have q5 := fun E : ExtOf wr => E.cell q5
      have p6 := fun E : ExtOf wr => E.cell p6
      have q6 := fun E : ExtOf wr => E.cell q6
      have HX := Lib.hid hx
      have HLT := Lib.hid hlt
      clear hcu hcv du dv hx1 hy1 hd hx
      go_wp2_with fail
      refine wp_region_ext_lit (by kernel_rfl) (by kernel_rfl) ?_
      repeat (go_big_quiet_step (first | (go_at_call 60; with_reducible exact Calls.ext_of _ (cE _))))
      refine wpQuiet_nil ?_
      rintro _ ⟨E, rfl⟩
      have hx2 : Ext w E.1 := HX.out.trans E.2
      clear cE p0 p1 p2 p3 p4 p5 p6 q0 q1 q2 q3 q4 q5 q6
      go_wp2
      go_roundw
      case rel => exact ⟨k + 1, by have := HLT.out; omega, by go_num, hx2⟩
      case measure => simp [intOf]; have := HLT.out; omega
    · obtain rfl : k = L.length := by omega
      go_wp2
      go_ret
      exact ⟨rfl, hx⟩
end Go.Proofs.YtbffkidkfannhaaGreat

namespace Go.Proofs.YtbffkidkfannhaaGreat
open Go.RowKit
set_option linter.unusedVariables false

/-- What it is for three slices to read as a net. -/
structure NetL (w : World) (u v z : Value) (R : List RepD) (M : List MsgD) (K : List AskD) : Prop where
  i1 : Repz w u R
  i2 : Mesz w v M
  i3 : Askz w z K
theorem NetL.ext {w w' : World} {u v z : Value} {R : List RepD} {M : List MsgD} {K : List AskD} (h : NetL w u v z R M K) (e : Ext w w') : NetL w' u v z R M K := ⟨h.i1.ext e, h.i2.ext e, h.i3.ext e⟩
def bulkN (R : List RepD) (M : List MsgD) (K : List AskD) : Nat := bulkRep R + (bulkMes M + bulkAsk K)
set_option maxHeartbeats 2000000 in
theorem szNet_any (u v z : Value) (R : List RepD) (M : List MsgD) (K : List AskD) (left : Int) (w : World) (hn : NetL w u v z R M K) (h0 : 0 ≤ left) (h1 : left ≤ 1099511627776) :
    Calls Tryz.prog 6 #[.agg #[u, v, z], .int .i64 left] w (IntExt (lessened left (bulkN R M K)) w) := by
  unfold bulkN
  have xb := Ext.alloc1 w (.cells #[u, v, z] 26)
  have HB := Lib.hid (boxV_new w [u, v, z] 26)
  have HL := Lib.hid (hn.ext xb)
  have HX := Lib.hid xb
  clear hn xb
  have a0 := HB.out.cell 0 _ rfl
  have a1 := HB.out.cell 1 _ rfl
  have a2 := HB.out.cell 2 _ rfl
  go_enter Tryz.func6, Tryz.ntmps6
  go_wp2_with fail
  refine (szRepS_any _ R _ _ HL.out.i1 h0 h1).mono ?_
  rintro e w1 ⟨rfl, x1⟩
  have X1 := Lib.hid x1
  clear x1 a0 a1 a2
  by_cases g1 : left < bulkRep R
  · have HE : Hid (lessened left (bulkRep R + (bulkMes M + bulkAsk K)) = -1) := Lib.hid (lessened_no (by omega))
    rw [lessened_no g1]
    go_wp2
    go_ret
    exact ⟨by rw [HE.out]; first | done | rfl, HX.out.trans X1.out⟩
  rw [lessened_yes (n := bulkRep R) (by omega)]
  have hx1 : lessened left (bulkRep R + (bulkMes M + bulkAsk K)) = lessened (left - bulkRep R) (bulkMes M + bulkAsk K) := by unfold lessened; split <;> split <;> omega
  obtain ⟨r1, hr1⟩ : ∃ r1, r1 = left - (bulkRep R : Int) := ⟨_, rfl⟩
  rw [← hr1] at hx1 ⊢
  have r10 : 0 ≤ r1 := by omega
  have r11 : r1 ≤ 1099511627776 := by omega
  have HX1 := Lib.hid hx1
  clear hx1 hr1 g1
  have a0 := (HB.out.ext X1.out).cell 0 _ rfl
  have a1 := (HB.out.ext X1.out).cell 1 _ rfl
  have a2 := (HB.out.ext X1.out).cell 2 _ rfl
  go_wp2_with fail
  refine (szMesS_any _ M _ _ (HL.out.i2.ext X1.out) r10 r11).mono ?_
  rintro e w2 ⟨rfl, x2⟩
  have X2 := Lib.hid (X1.out.trans x2)
  clear x2 a0 a1 a2
  by_cases g1 : r1 < bulkMes M
  · have HE : Hid (lessened r1 (bulkMes M + bulkAsk K) = -1) := Lib.hid (lessened_no (by omega))
    rw [lessened_no g1]
    go_wp2
    go_ret
    exact ⟨by rw [HX1.out, HE.out]; first | done | rfl, HX.out.trans X2.out⟩
  rw [lessened_yes (n := bulkMes M) (by omega)]
  have hx2 : lessened r1 (bulkMes M + bulkAsk K) = lessened (r1 - bulkMes M) (bulkAsk K) := by unfold lessened; split <;> split <;> omega
  obtain ⟨r2, hr2⟩ : ∃ r2, r2 = r1 - (bulkMes M : Int) := ⟨_, rfl⟩
  rw [← hr2] at hx2 ⊢
  have r20 : 0 ≤ r2 := by omega
  have r21 : r2 ≤ 1099511627776 := by omega
  have HX2 := Lib.hid (HX1.out.trans hx2)
  clear hx2 hr2 g1
  have a0 := (HB.out.ext X2.out).cell 0 _ rfl
  have a1 := (HB.out.ext X2.out).cell 1 _ rfl
  have a2 := (HB.out.ext X2.out).cell 2 _ rfl
  go_wp2_with fail
  refine (szAskS_any _ K _ _ (HL.out.i3.ext X2.out) r20 r21).mono ?_
  rintro e w3 ⟨rfl, x3⟩
  have hx := HX.out.trans (X2.out.trans x3)
  clear x3 a0 a1 a2
  by_cases g1 : r2 < bulkAsk K
  · have e4 := lessened_no g1
    rw [e4]
    have HE := Lib.hid (HX2.out.trans e4)
    clear e4 g1
    go_wp2
    go_ret
    exact ⟨by rw [HE.out]; first | done | rfl, hx⟩
  · have e4 := lessened_yes (left := r2) (n := bulkAsk K) (by omega)
    have r40 : 0 ≤ r2 - (bulkAsk K : Int) := by omega
    obtain ⟨r4, hr4⟩ : ∃ r4, r4 = r2 - (bulkAsk K : Int) := ⟨_, rfl⟩
    rw [← hr4] at e4 r40
    rw [e4]
    have HE := Lib.hid (HX2.out.trans e4)
    clear hr4 e4 g1
    go_wp2
    go_ret
    exact ⟨by rw [HE.out]; first | done | rfl, hx⟩
set_option maxHeartbeats 2000000 in
theorem eqNet_same (u v z u' v' z' : Value) (R : List RepD) (M : List MsgD) (K : List AskD) (w : World) (hn : NetL w u v z R M K) (hn' : NetL w u' v' z' R M K) :
    Calls Tryz.prog 11 #[.agg #[u, v, z], .agg #[u', v', z']] w (BoolExt true w) := by
  obtain ⟨wb, hwb⟩ : ∃ wb, wb = (w.alloc (.cells #[u, v, z] 35)).alloc (.cells #[u', v', z'] 35) := ⟨_, rfl⟩
  have xb : Ext w wb := by rw [hwb]; exact (Ext.alloc1 _ _).alloc _
  have hp : BoxV wb w.heap.size [u, v, z] := by rw [hwb]; exact (boxV_new w [u, v, z] 35).ext (Ext.alloc1 _ _)
  have hq : BoxV wb (w.heap.size + 1) [u', v', z'] := by
    have h := boxV_new (w.alloc (.cells #[u, v, z] 35)) [u', v', z'] 35
    rw [World.size_alloc, ← hwb] at h
    exact h
  have HP := Lib.hid hp
  have HQ := Lib.hid hq
  have HX := Lib.hid xb
  have HWB := Lib.hid hwb
  have HU := Lib.hid (hn.ext xb)
  have HV := Lib.hid (hn'.ext xb)
  have p0 := (HP.out).cell 0 _ rfl
  have q0 := (HQ.out).cell 0 _ rfl
  have p1 := (HP.out).cell 1 _ rfl
  have q1 := (HQ.out).cell 1 _ rfl
  have p2 := (HP.out).cell 2 _ rfl
  have q2 := (HQ.out).cell 2 _ rfl
  rw [hwb] at p0 q0 p1 q1 p2 q2
  clear hp hq xb hwb hn hn'
  go_enter Tryz.func11, Tryz.ntmps11
  go_wp2_with fail
  rw [← HWB.out]
  refine (eqRepS_same _ _ R _ HU.out.i1 HV.out.i1).mono ?_
  rintro e w1 ⟨rfl, x1⟩
  have X1 := Lib.hid x1
  clear x1 HWB p0 q0 p1 q1 p2 q2
  have p0 := (HP.out.ext X1.out).cell 0 _ rfl
  have q0 := (HQ.out.ext X1.out).cell 0 _ rfl
  have p1 := (HP.out.ext X1.out).cell 1 _ rfl
  have q1 := (HQ.out.ext X1.out).cell 1 _ rfl
  have p2 := (HP.out.ext X1.out).cell 2 _ rfl
  have q2 := (HQ.out.ext X1.out).cell 2 _ rfl
  go_wp2_with fail
  refine (eqMesS_same _ _ M _ (HU.out.i2.ext X1.out) (HV.out.i2.ext X1.out)).mono ?_
  rintro e w2 ⟨rfl, x2⟩
  have X2 := Lib.hid (X1.out.trans x2)
  clear x2 p0 q0 p1 q1 p2 q2
  have p0 := (HP.out.ext X2.out).cell 0 _ rfl
  have q0 := (HQ.out.ext X2.out).cell 0 _ rfl
  have p1 := (HP.out.ext X2.out).cell 1 _ rfl
  have q1 := (HQ.out.ext X2.out).cell 1 _ rfl
  have p2 := (HP.out.ext X2.out).cell 2 _ rfl
  have q2 := (HQ.out.ext X2.out).cell 2 _ rfl
  go_wp2_with fail
  refine (eqAskS_same _ _ K _ (HU.out.i3.ext X2.out) (HV.out.i3.ext X2.out)).mono ?_
  rintro e w3 ⟨rfl, x3⟩
  have hx := HX.out.trans (X2.out.trans x3)
  clear x3 p0 q0 p1 q1 p2 q2
  go_wp2
  go_ret
  exact ⟨rfl, hx⟩
end Go.Proofs.YtbffkidkfannhaaGreat

namespace Go.Proofs.YtbffkidkfannhaaGreat
open Go.Joins Go.ChangeShapes Go.WideShapes Go.RowKit Go.Deep
set_option linter.unusedVariables false

section
variable {H : Type} {enc : TypeId × Value → H} {w : World} {base : Nat} {held : Bool}

set_option maxRecDepth 100000 in
set_option maxHeartbeats 2000000 in
theorem cells_mes {fuel : Nat} {cs : List Value} {y : DataW H × List MemPlace} (h : DataW.trod enc Tryz.prog w base (fun _ => true) held fuel 97 cs = some y) :
    ∃ (d : MsgD) (u1 : Value), cs = mesVs d u1 ∧ MesL w d u1 := by
  obtain ⟨xs, n, _, hx, hlen, hxl, hg⟩ := DataW.trod_struct Tryz.underlying97 h
  have q : Tryz.prog.cellsOf 3 = 1 := by kernel_rfl
  have q5 : Tryz.prog.cellsOf 94 = 5 := by kernel_rfl
  have q6 : Tryz.prog.cellsOf 95 = 2 := by kernel_rfl
  match cs, hlen.trans (show Tryz.prog.cellsOf 97 = 15 by kernel_rfl) with
  | [c0, c1, c2, c3, c4, c5, c6, c7, c8, c9, c10, c11, c12, c13, c14], _ =>
    match xs, hxl with
    | [y0, y1, y2, y3, y4, y5, y6, y7, y8, y9], _ =>
      obtain ⟨n0, rfl, _⟩ := cell_int (by simpa [q] using hg 0 _ rfl)
      obtain ⟨n1, rfl, _⟩ := cell_int (by simpa [q] using hg 1 _ rfl)
      obtain ⟨n2, rfl, _⟩ := cell_int (by simpa [q] using hg 2 _ rfl)
      obtain ⟨n3, rfl, _⟩ := cell_int (by simpa [q] using hg 3 _ rfl)
      obtain ⟨n4, rfl, _⟩ := cell_int (by simpa [q] using hg 4 _ rfl)
      obtain ⟨n5, rfl, _⟩ := cell_int (by simpa [q] using hg 5 _ rfl)
      obtain ⟨n6, rfl, _⟩ := cell_int (by simpa [q] using hg 6 _ rfl)
      obtain ⟨n7, rfl, _⟩ := cell_int (by simpa [q] using hg 7 _ rfl)
      have h8 := hg 8 _ rfl
      have h9 := hg 9 _ rfl
      simp [q5] at h8
      simp [q6] at h9
      obtain ⟨k, i, f, t, a, e8⟩ := cells_cmd h8 rfl
      obtain ⟨s1, u1, l1, e9, i1⟩ := cells_attr h9 rfl
      simp only [List.cons.injEq, and_true] at e8 e9
      obtain ⟨rfl, rfl, rfl, rfl, rfl⟩ := e8
      obtain ⟨rfl, rfl⟩ := e9
      exact ⟨⟨n0, n1, n2, n3, n4, n5, n6, n7, k, i, f, t, a, s1, l1⟩, _, rfl, ⟨i1⟩⟩
set_option maxRecDepth 100000 in
theorem cells_ask {fuel : Nat} {cs : List Value} {y : DataW H × List MemPlace} (h : DataW.trod enc Tryz.prog w base (fun _ => true) held fuel 109 cs = some y) :
    ∃ (d : AskD), cs = askVs d := by
  obtain ⟨xs, n, _, hx, hlen, hxl, hg⟩ := DataW.trod_struct Tryz.underlying109 h
  have q : Tryz.prog.cellsOf 3 = 1 := by kernel_rfl
  have q5 : Tryz.prog.cellsOf 94 = 5 := by kernel_rfl
  match cs, hlen.trans (show Tryz.prog.cellsOf 109 = 7 by kernel_rfl) with
  | [c0, c1, c2, c3, c4, c5, c6], _ =>
    match xs, hxl with
    | [y0, y1, y2], _ =>
      obtain ⟨n0, rfl, _⟩ := cell_int (by simpa [q] using hg 0 _ rfl)
      obtain ⟨n1, rfl, _⟩ := cell_int (by simpa [q] using hg 1 _ rfl)
      have h2 := hg 2 _ rfl
      simp [q5] at h2
      obtain ⟨k, i, f, t, a, e2⟩ := cells_cmd h2 rfl
      simp only [List.cons.injEq, and_true] at e2
      obtain ⟨rfl, rfl, rfl, rfl, rfl⟩ := e2
      exact ⟨⟨n0, n1, k, i, f, t, a⟩, rfl⟩
theorem cells_rep' {fuel : Nat} {cs : List Value} {y : DataW H × List MemPlace} (h : DataW.trod enc Tryz.prog w base (fun _ => true) held fuel 92 cs = some y) :
    ∃ (d : RepD) (u1 u2 : Value), cs = repVs d u1 u2 ∧ RepL w d u1 u2 := by
  obtain ⟨me, n, u, v, T, L, e, _, _, h1, h2⟩ := cells_rep h
  exact ⟨⟨me, n, T, L⟩, u, v, e, h1, h2⟩

set_option maxRecDepth 100000 in
theorem cells_reps {fuel : Nat} {c : Value} {y : DataW H × List MemPlace} (h : DataW.trod enc Tryz.prog w base (fun _ => true) held fuel 22 [c] = some y) : ∃ L, Repz w c L := by
  rcases open_slice Tryz.underlying22 h with ⟨hcs, _⟩ | ⟨a, len, cap', cap, n, D, Pl, hcs, _, hl, hm, hmm, _, hi⟩
  · simp at hcs
    subst hcs
    exact ⟨[], Repz.nil w⟩
  · simp at hcs hmm
    subst hcs hmm
    have q : Tryz.prog.cellsOf 92 = 4 := by kernel_rfl
    rw [q] at hi
    have hr : ∀ i, i < cap → ∃ ru : RepD × Value × Value, (∀ j, j < 4 → w.cell? ((a.add (i * 4)).add j) = (repVs ru.1 ru.2.1 ru.2.2)[j]?) ∧ RepL w ru.1 ru.2.1 ru.2.2 := fun i hic => by
      obtain ⟨cs', h1, h2⟩ := hi i hic
      obtain ⟨_, _, hat⟩ := World.cells?_some h1
      obtain ⟨d, u1, u2, rfl, hl⟩ := cells_rep' h2
      exact ⟨(d, u1, u2), hat, hl⟩
    have hinh : ∀ i, ∃ ru : RepD × Value × Value, i < cap → ((∀ j, j < 4 → w.cell? ((a.add (i * 4)).add j) = (repVs ru.1 ru.2.1 ru.2.2)[j]?) ∧ RepL w ru.1 ru.2.1 ru.2.2) := fun i => by
      by_cases hic : i < cap
      · obtain ⟨ru, h⟩ := hr i hic
        exact ⟨ru, fun _ => h⟩
      · exact ⟨(⟨0, 0, [], []⟩, .slice none 0 0, .slice none 0 0), fun h => absurd h hic⟩
    have hF := Classical.axiomOfChoice hinh
    obtain ⟨F, hF⟩ := hF
    have hlen : ((List.range len).map fun i => (F i).1).length = len := by simp
    refine ⟨(List.range len).map fun i => (F i).1, some a, cap, by rw [hlen], by omega, ⟨by omega, hm, fun h => by cases h⟩, fun hp => ?_⟩
    rw [hlen] at hp
    have h0 := (hF 0 (by omega)).1 0 (by omega)
    obtain ⟨b, off, rfl⟩ : ∃ b off, a = ⟨b, off, none⟩ := by
      rw [Go.Deep.add_add] at h0
      exact spot_none (v := .int .i64 (F 0).1.me) h0
    refine ⟨b, off, rfl, fun j hj => ⟨(F j).2.1, (F j).2.2, ?_, ?_⟩⟩
    · rw [hlen] at hj
      have e : ((List.range len).map fun i => (F i).1)[j]'(by rw [hlen]; exact hj) = (F j).1 := by simp
      rw [e]
      have hc := (hF j (by omega)).1
      have ha : ∀ t, (((⟨b, off, none⟩ : Addr).add (j * 4)).add t) = ⟨b, off + j * 4 + t, none⟩ := fun t => by
        rw [Go.Deep.add_add, Go.WideShapes.add_plain, Nat.add_assoc]
      simp only [ha] at hc
      intro i v hv
      have hi16 : i < 4 := (List.getElem?_eq_some_iff.1 hv).1
      rw [hc i hi16]
      exact hv
    · rw [hlen] at hj
      have e : ((List.range len).map fun i => (F i).1)[j]'(by rw [hlen]; exact hj) = (F j).1 := by simp
      rw [e]
      exact (hF j (by omega)).2

set_option maxRecDepth 100000 in
theorem cells_mess {fuel : Nat} {c : Value} {y : DataW H × List MemPlace} (h : DataW.trod enc Tryz.prog w base (fun _ => true) held fuel 23 [c] = some y) : ∃ L, Mesz w c L := by
  rcases open_slice Tryz.underlying23 h with ⟨hcs, _⟩ | ⟨a, len, cap', cap, n, D, Pl, hcs, _, hl, hm, hmm, _, hi⟩
  · simp at hcs
    subst hcs
    exact ⟨[], Mesz.nil w⟩
  · simp at hcs hmm
    subst hcs hmm
    have q : Tryz.prog.cellsOf 97 = 15 := by kernel_rfl
    rw [q] at hi
    have hr : ∀ i, i < cap → ∃ ru : MsgD × Value, (∀ j, j < 15 → w.cell? ((a.add (i * 15)).add j) = (mesVs ru.1 ru.2)[j]?) ∧ MesL w ru.1 ru.2 := fun i hic => by
      obtain ⟨cs', h1, h2⟩ := hi i hic
      obtain ⟨_, _, hat⟩ := World.cells?_some h1
      obtain ⟨d, u1, rfl, hl⟩ := cells_mes h2
      exact ⟨(d, u1), hat, hl⟩
    have hinh : ∀ i, ∃ ru : MsgD × Value, i < cap → ((∀ j, j < 15 → w.cell? ((a.add (i * 15)).add j) = (mesVs ru.1 ru.2)[j]?) ∧ MesL w ru.1 ru.2) := fun i => by
      by_cases hic : i < cap
      · obtain ⟨ru, h⟩ := hr i hic
        exact ⟨ru, fun _ => h⟩
      · exact ⟨(⟨0, 0, 0, 0, 0, 0, 0, 0, 0, 0, 0, 0, 0, 0, []⟩, .slice none 0 0), fun h => absurd h hic⟩
    have hF := Classical.axiomOfChoice hinh
    obtain ⟨F, hF⟩ := hF
    have hlen : ((List.range len).map fun i => (F i).1).length = len := by simp
    refine ⟨(List.range len).map fun i => (F i).1, some a, cap, by rw [hlen], by omega, ⟨by omega, hm, fun h => by cases h⟩, fun hp => ?_⟩
    rw [hlen] at hp
    have h0 := (hF 0 (by omega)).1 0 (by omega)
    obtain ⟨b, off, rfl⟩ : ∃ b off, a = ⟨b, off, none⟩ := by
      rw [Go.Deep.add_add] at h0
      exact spot_none (v := .int .i64 (F 0).1.kd) h0
    refine ⟨b, off, rfl, fun j hj => ⟨(F j).2, ?_, ?_⟩⟩
    · rw [hlen] at hj
      have e : ((List.range len).map fun i => (F i).1)[j]'(by rw [hlen]; exact hj) = (F j).1 := by simp
      rw [e]
      have hc := (hF j (by omega)).1
      have ha : ∀ t, (((⟨b, off, none⟩ : Addr).add (j * 15)).add t) = ⟨b, off + j * 15 + t, none⟩ := fun t => by
        rw [Go.Deep.add_add, Go.WideShapes.add_plain, Nat.add_assoc]
      simp only [ha] at hc
      intro i v hv
      have hi16 : i < 15 := (List.getElem?_eq_some_iff.1 hv).1
      rw [hc i hi16]
      exact hv
    · rw [hlen] at hj
      have e : ((List.range len).map fun i => (F i).1)[j]'(by rw [hlen]; exact hj) = (F j).1 := by simp
      rw [e]
      exact (hF j (by omega)).2

set_option maxRecDepth 100000 in
theorem cells_asks {fuel : Nat} {c : Value} {y : DataW H × List MemPlace} (h : DataW.trod enc Tryz.prog w base (fun _ => true) held fuel 24 [c] = some y) : ∃ L, Askz w c L := by
  rcases open_slice Tryz.underlying24 h with ⟨hcs, _⟩ | ⟨a, len, cap', cap, n, D, Pl, hcs, _, hl, hm, hmm, _, hi⟩
  · simp at hcs
    subst hcs
    exact ⟨[], Askz.nil w⟩
  · simp at hcs hmm
    subst hcs hmm
    have q : Tryz.prog.cellsOf 109 = 7 := by kernel_rfl
    rw [q] at hi
    have hr : ∀ i, i < cap → ∃ ru : AskD, (∀ j, j < 7 → w.cell? ((a.add (i * 7)).add j) = (askVs ru )[j]?) := fun i hic => by
      obtain ⟨cs', h1, h2⟩ := hi i hic
      obtain ⟨_, _, hat⟩ := World.cells?_some h1
      obtain ⟨d, rfl⟩ := cells_ask h2
      exact ⟨d, hat⟩
    have hinh : ∀ i, ∃ ru : AskD, i < cap → ((∀ j, j < 7 → w.cell? ((a.add (i * 7)).add j) = (askVs ru )[j]?)) := fun i => by
      by_cases hic : i < cap
      · obtain ⟨ru, h⟩ := hr i hic
        exact ⟨ru, fun _ => h⟩
      · exact ⟨⟨0, 0, 0, 0, 0, 0, 0⟩, fun h => absurd h hic⟩
    have hF := Classical.axiomOfChoice hinh
    obtain ⟨F, hF⟩ := hF
    have hlen : ((List.range len).map fun i => (F i)).length = len := by simp
    refine ⟨(List.range len).map fun i => (F i), some a, cap, by rw [hlen], by omega, ⟨by omega, hm, fun h => by cases h⟩, fun hp => ?_⟩
    rw [hlen] at hp
    have h0 := hF 0 (by omega) 0 (by omega)
    obtain ⟨b, off, rfl⟩ : ∃ b off, a = ⟨b, off, none⟩ := by
      rw [Go.Deep.add_add] at h0
      exact spot_none (v := .int .i64 (F 0).rp) h0
    refine ⟨b, off, rfl, fun j hj => ?_⟩
    · rw [hlen] at hj
      have e : ((List.range len).map fun i => (F i))[j]'(by rw [hlen]; exact hj) = (F j) := by simp
      rw [e]
      have hc := hF j (by omega)
      have ha : ∀ t, (((⟨b, off, none⟩ : Addr).add (j * 7)).add t) = ⟨b, off + j * 7 + t, none⟩ := fun t => by
        rw [Go.Deep.add_add, Go.WideShapes.add_plain, Nat.add_assoc]
      simp only [ha] at hc
      intro i v hv
      have hi16 : i < 7 := (List.getElem?_eq_some_iff.1 hv).1
      rw [hc i hi16]
      exact hv

set_option maxRecDepth 100000 in
theorem open_net {r : Reach} {b0 : Nat} {v : Value} {d : DataW H} {p : List MemPlace}
    (hv : Value.okWide Tryz.prog w r b0 26 v) (h : DataW.Trod enc Tryz.prog w base (fun _ => true) held 26 v d p) :
    ∃ (u v' z : Value) (R : List RepD) (M : List MsgD) (K : List AskD), v = .agg #[u, v', z] ∧ NetL w u v' z R M K := by
  obtain ⟨cs, rfl, hsz⟩ := okWide_struct Tryz.underlying26 hv
  obtain ⟨l⟩ := cs
  match l, hsz.trans (show Tryz.prog.cellsOf 26 = 3 by kernel_rfl) with
  | [c0, c1, c2], _ =>
    obtain ⟨fuel, hf⟩ := h
    obtain ⟨xs, n, _, hx, _, hlen, hg⟩ := DataW.trod_struct Tryz.underlying26 hf
    have q1 : Tryz.prog.cellsOf 22 = 1 := by kernel_rfl
    have q2 : Tryz.prog.cellsOf 23 = 1 := by kernel_rfl
    have q3 : Tryz.prog.cellsOf 24 = 1 := by kernel_rfl
    match xs, hlen with
    | [y0, y1, y2], _ =>
      obtain ⟨R, hR⟩ := cells_reps (by simpa [Value.cells, q1] using hg 0 _ rfl)
      obtain ⟨M, hM⟩ := cells_mess (by simpa [Value.cells, q2] using hg 1 _ rfl)
      obtain ⟨K, hK⟩ := cells_asks (by simpa [Value.cells, q3] using hg 2 _ rfl)
      exact ⟨c0, c1, c2, R, M, K, rfl, hR, hM, hK⟩
end

end Go.Proofs.YtbffkidkfannhaaGreat

namespace Go.Proofs.YtbffkidkfannhaaGreat
open Go.RowKit
set_option linter.unusedVariables false

/-- Whether it is an instance of a group of n. -/
def instB (n rep no : Int) : Bool := inB rep 0 (n - 1) && inB no 1 6
theorem isGrp_bd {n : Int} (h : isGrp n = true) : 3 ≤ n ∧ n ≤ 5 := by rcases isGrp_of h with rfl | rfl <;> omega

set_option maxHeartbeats 400000 in
theorem l3Inst_any (n rep no : Int) (w : World) (h3 : 3 ≤ n) (h5 : n ≤ 5) :
    Calls Tryz.prog 61 #[.int .i64 n, .int .i64 rep, .int .i64 no] w fun e w' => e = .returned (.bool (instB n rep no)) ∧ w = w' := by
  unfold instB
  cases h1 : inB rep 0 (n - 1)
  · have H1 := Lib.hid h1
    clear h1
    go_enter Tryz.func61, Tryz.ntmps61
    go_wp2_with fail
    refine (l1In_any _ _ _ _).mono ?_
    rintro e w' ⟨rfl, rfl⟩
    rw [H1.out]
    go_wp2
    go_ret
    exact ⟨rfl, rfl⟩
  · have H1 := Lib.hid h1
    clear h1
    cases h2 : inB no 1 6
    all_goals
      have H2 := Lib.hid h2
      clear h2
      go_enter Tryz.func61, Tryz.ntmps61
      go_wp2_with fail
      refine (l1In_any _ _ _ _).mono ?_
      rintro e w' ⟨rfl, rfl⟩
      rw [H1.out]
      go_wp2_with fail
      refine (l1In_any _ _ _ _).mono ?_
      rintro e w' ⟨rfl, rfl⟩
      rw [H2.out]
      go_wp2
      go_ret
      exact ⟨rfl, rfl⟩

def repB (n k : Int) : Bool := isGrp n && inB k 0 (n - 1)
set_option maxHeartbeats 1000000 in
theorem isReplica_any (n k : Int) (w : World) :
    Calls Tryz.prog 42 #[.int .i64 n, .int .i64 k] w fun e w' => e = .returned (.bool (repB n k)) ∧ w = w' := by
  unfold repB
  cases hg : isGrp n with
  | false =>
    have HG := Lib.hid hg
    clear hg
    go_enter Tryz.func42, Tryz.ntmps42
    go_wp2_with fail
    refine (implIsGroup_any _ _).mono ?_
    rintro e w' ⟨rfl, rfl⟩
    rw [HG.out]
    go_wp2
    go_ret
    exact ⟨rfl, rfl⟩
  | true =>
    have HG := Lib.hid hg
    clear hg
    by_cases h1 : k < 0
    · have hr : inB k 0 (n - 1) = false := inB_no (by omega)
      rw [hr]
      clear hr
      go_enter Tryz.func42, Tryz.ntmps42
      go_wp2_with fail
      refine (implIsGroup_any _ _).mono ?_
      rintro e w' ⟨rfl, rfl⟩
      rw [HG.out]
      go_wp2
      go_ret
      exact ⟨rfl, rfl⟩
    · by_cases h2 : k < n
      · have h3 : 0 ≤ k := by omega
        have hr : inB k 0 (n - 1) = true := inB_yes h3 (by omega)
        rw [hr]
        clear hr h1
        go_enter Tryz.func42, Tryz.ntmps42
        go_wp2_with fail
        refine (implIsGroup_any _ _).mono ?_
        rintro e w' ⟨rfl, rfl⟩
        rw [HG.out]
        go_wp2
        go_ret
        exact ⟨rfl, rfl⟩
      · have h3 : 0 ≤ k := by omega
        have h4 : n ≤ k := by omega
        have hr : inB k 0 (n - 1) = false := inB_no (by omega)
        have nk : decide (k < n) = false := decide_eq_false h2
        rw [hr]
        clear hr h1 h2 h4
        go_enter Tryz.func42, Tryz.ntmps42
        go_wp2_with fail
        refine (implIsGroup_any _ _).mono ?_
        rintro e w' ⟨rfl, rfl⟩
        rw [HG.out]
        go_wp2
        go_ret
        exact ⟨rfl, rfl⟩

set_option maxHeartbeats 1000000 in
/-- Whether it is an instance, of a group or of none. -/
theorem isInstance_all (n rep no : Int) (w : World) :
    Calls Tryz.prog 71 #[.int .i64 n, .int .i64 rep, .int .i64 no] w fun e w' => e = .returned (.bool (repB n rep && inB no 1 6)) ∧ w = w' := by
  cases hg : repB n rep with
  | false =>
    have HG := Lib.hid hg
    clear hg
    go_enter Tryz.func71, Tryz.ntmps71
    go_wp2_with fail
    refine (isReplica_any _ _ _).mono ?_
    rintro e w' ⟨rfl, rfl⟩
    rw [HG.out]
    go_wp2
    go_ret
    exact ⟨rfl, rfl⟩
  | true =>
    have HG := Lib.hid hg
    clear hg
    by_cases h1 : no < 1
    · have hr : inB no 1 6 = false := inB_no (by omega)
      rw [hr]
      clear hr
      go_enter Tryz.func71, Tryz.ntmps71
      go_wp2_with fail
      refine (isReplica_any _ _ _).mono ?_
      rintro e w' ⟨rfl, rfl⟩
      rw [HG.out]
      go_wp2
      go_ret
      exact ⟨rfl, rfl⟩
    · by_cases h2 : 6 < no
      · have h3 : 1 ≤ no := by omega
        have hr : inB no 1 6 = false := inB_no (by omega)
        have nk : decide (no ≤ 6) = false := decide_eq_false (by omega)
        rw [hr]
        clear hr h1 h2
        go_enter Tryz.func71, Tryz.ntmps71
        go_wp2_with fail
        refine (isReplica_any _ _ _).mono ?_
        rintro e w' ⟨rfl, rfl⟩
        rw [HG.out]
        go_wp2
        go_ret
        exact ⟨rfl, rfl⟩
      · have h3 : 1 ≤ no := by omega
        have h4 : no ≤ 6 := by omega
        have hr : inB no 1 6 = true := inB_yes h3 h4
        rw [hr]
        clear hr h1 h2
        go_enter Tryz.func71, Tryz.ntmps71
        go_wp2_with fail
        refine (isReplica_any _ _ _).mono ?_
        rintro e w' ⟨rfl, rfl⟩
        rw [HG.out]
        go_wp2
        go_ret
        exact ⟨rfl, rfl⟩
theorem isInstance_any (n rep no : Int) (w : World) (hg : isGrp n = true) :
    Calls Tryz.prog 71 #[.int .i64 n, .int .i64 rep, .int .i64 no] w fun e w' => e = .returned (.bool (instB n rep no)) ∧ w = w' := by
  have h := isInstance_all n rep no w
  unfold repB at h
  rw [hg, Bool.true_and] at h
  exact h

/-- Does it hang on the instance? -/
def hangsB (n s : Int) (l : List Int) (rep no : Int) : Bool := goodA n s l && instB n rep no && decide (no ≤ l[rep.toNat]?.getD 0)
def hangsOk (n s : Int) (l : List Int) (rep no : Int) : Bool := goodA n s l && instB n rep no
end Go.Proofs.YtbffkidkfannhaaGreat

namespace Go.Proofs.YtbffkidkfannhaaGreat
open Go.RowKit
set_option linter.unusedVariables false

set_option maxHeartbeats 1000000 in
theorem isGood_early (n : Int) (r : RowD) (u : Value) (w : World) (h : r.v < 0 ∨ r.b < r.v ∨ 9999 < r.b) :
    Calls Tryz.prog 130 #[.int .i64 n, .agg #[.int .i64 r.b, .int .i64 r.v, .int .i64 r.st, .int .i64 r.k, .int .i64 r.i, .int .i64 r.f, .int .i64 r.t, .int .i64 r.a, .int .i64 r.s, u]] w (BoolExt false w) := by
  by_cases h0 : r.v < 0
  · clear h
    go_enter Tryz.func130, Tryz.ntmps130
    go_wp2
    go_ret
    exact ⟨rfl, Ext.alloc1 _ _⟩
  · have g0 : 0 ≤ r.v := by omega
    by_cases h1 : r.b < r.v
    · clear h h0
      go_enter Tryz.func130, Tryz.ntmps130
      go_wp2
      go_ret
      exact ⟨rfl, Ext.alloc1 _ _⟩
    · have g1 : r.v ≤ r.b := by omega
      have g2 : 9999 < r.b := by omega
      clear h h0 h1
      go_enter Tryz.func130, Tryz.ntmps130
      go_wp2
      go_ret
      exact ⟨rfl, Ext.alloc1 _ _⟩

set_option maxHeartbeats 1000000 in
theorem isGood_else (n : Int) (r : RowD) (u : Value) (w : World) (g0 : 0 ≤ r.v) (g1 : r.v ≤ r.b) (g2 : r.b ≤ 9999) (e0 : (r.st == 0) = false) (e1 : (r.st == 1) = false) (e2 : (r.st == 2) = false) (e3 : (r.st == 3) = false) :
    Calls Tryz.prog 130 #[.int .i64 n, .agg #[.int .i64 r.b, .int .i64 r.v, .int .i64 r.st, .int .i64 r.k, .int .i64 r.i, .int .i64 r.f, .int .i64 r.t, .int .i64 r.a, .int .i64 r.s, u]] w (BoolExt false w) := by
  go_enter Tryz.func130, Tryz.ntmps130
  go_wp2
  go_ret
  exact ⟨rfl, Ext.alloc1 _ _⟩

set_option maxHeartbeats 2000000 in
theorem isGood_1 (n : Int) (r : RowD) (u : Value) (w : World) (hv : Ints w u r.l) (hn : isGrp n = true) (g0 : 0 ≤ r.v) (g1 : r.v ≤ r.b) (g2 : r.b ≤ 9999) (e0 : (r.st == 0) = false) (e1 : (r.st == 1) = true) :
    Calls Tryz.prog 130 #[.int .i64 n, .agg #[.int .i64 r.b, .int .i64 r.v, .int .i64 r.st, .int .i64 r.k, .int .i64 r.i, .int .i64 r.f, .int .i64 r.t, .int .i64 r.a, .int .i64 r.s, u]] w (BoolExt (fullB n r) w) := by
  have HE : Hid (goodD n r.s r.l = goodA n r.s r.l) := Lib.hid (by unfold goodA; rw [hn]; rfl)
  unfold fullB
  rw [HE.out]
  have HB := Lib.hid (rowAt_new w 101 r u)
  clear hn
  cases hg : goodB r.k r.i r.f r.t r.a with
  | false =>
    have HG := Lib.hid hg
    clear hg
    go_enter Tryz.func130, Tryz.ntmps130
    go_wp2_with fail
    refine (implGood_any _ _ _ _ _ _).mono ?_
    rintro e w1 ⟨rfl, x1⟩
    have hx := (Ext.alloc1 w _).trans x1
    clear x1 HB
    rw [HG.out]
    go_wp2
    go_ret
    exact ⟨rfl, hx⟩
  | true =>
    have HG := Lib.hid hg
    clear hg
    rw [Bool.true_and]
    go_enter Tryz.func130, Tryz.ntmps130
    go_wp2_with fail
    refine (implGood_any _ _ _ _ _ _).mono ?_
    rintro e w1 ⟨rfl, x1⟩
    have hx := (Ext.alloc1 w _).trans x1
    obtain ⟨q0, q1, q2, q3, q4, q5, q6, q7, q8, q9⟩ := HB.out.ext x1
    clear x1
    rw [HG.out]
    go_wp2_with fail
    refine (implGoodAttr_any _ _ _ r.l _ (hv.ext hx)).mono ?_
    rintro e w2 ⟨rfl, x2⟩
    have hy := hx.trans x2
    clear q0 q1 q2 q3 q4 q5 q6 q7 q8 q9 x2 hx g0 g1 g2
    cases hA : goodA n r.s r.l
    all_goals
      have HA := Lib.hid hA
      clear hA
      go_wp2
      go_ret
      exact ⟨by rw [HA.out]; rfl, hy⟩

set_option maxHeartbeats 2000000 in
theorem isGood_2 (n : Int) (r : RowD) (u : Value) (w : World) (hv : Ints w u r.l) (hn : isGrp n = true) (g0 : 0 ≤ r.v) (g1 : r.v ≤ r.b) (g2 : r.b ≤ 9999) (e0 : (r.st == 0) = false) (e1 : (r.st == 1) = false) (e2 : (r.st == 2) = true) :
    Calls Tryz.prog 130 #[.int .i64 n, .agg #[.int .i64 r.b, .int .i64 r.v, .int .i64 r.st, .int .i64 r.k, .int .i64 r.i, .int .i64 r.f, .int .i64 r.t, .int .i64 r.a, .int .i64 r.s, u]] w (BoolExt (fullB n r) w) := by
  have HE : Hid (goodD n r.s r.l = goodA n r.s r.l) := Lib.hid (by unfold goodA; rw [hn]; rfl)
  unfold fullB
  rw [HE.out]
  have HB := Lib.hid (rowAt_new w 101 r u)
  clear hn
  cases hg : goodB r.k r.i r.f r.t r.a with
  | false =>
    have HG := Lib.hid hg
    clear hg
    go_enter Tryz.func130, Tryz.ntmps130
    go_wp2_with fail
    refine (implGood_any _ _ _ _ _ _).mono ?_
    rintro e w1 ⟨rfl, x1⟩
    have hx := (Ext.alloc1 w _).trans x1
    clear x1 HB
    rw [HG.out]
    go_wp2
    go_ret
    exact ⟨rfl, hx⟩
  | true =>
    have HG := Lib.hid hg
    clear hg
    rw [Bool.true_and]
    go_enter Tryz.func130, Tryz.ntmps130
    go_wp2_with fail
    refine (implGood_any _ _ _ _ _ _).mono ?_
    rintro e w1 ⟨rfl, x1⟩
    have hx := (Ext.alloc1 w _).trans x1
    obtain ⟨q0, q1, q2, q3, q4, q5, q6, q7, q8, q9⟩ := HB.out.ext x1
    clear x1
    rw [HG.out]
    go_wp2_with fail
    refine (implGoodAttr_any _ _ _ r.l _ (hv.ext hx)).mono ?_
    rintro e w2 ⟨rfl, x2⟩
    have hy := hx.trans x2
    clear q0 q1 q2 q3 q4 q5 q6 q7 q8 q9 x2 hx g0 g1 g2
    cases hA : goodA n r.s r.l
    all_goals
      have HA := Lib.hid hA
      clear hA
      go_wp2
      go_ret
      exact ⟨by rw [HA.out]; rfl, hy⟩

set_option maxHeartbeats 2000000 in
theorem isGood_3 (n : Int) (r : RowD) (u : Value) (w : World) (hv : Ints w u r.l) (hn : isGrp n = true) (g0 : 0 ≤ r.v) (g1 : r.v ≤ r.b) (g2 : r.b ≤ 9999) (e0 : (r.st == 0) = false) (e1 : (r.st == 1) = false) (e2 : (r.st == 2) = false) (e3 : (r.st == 3) = true) :
    Calls Tryz.prog 130 #[.int .i64 n, .agg #[.int .i64 r.b, .int .i64 r.v, .int .i64 r.st, .int .i64 r.k, .int .i64 r.i, .int .i64 r.f, .int .i64 r.t, .int .i64 r.a, .int .i64 r.s, u]] w (BoolExt (fullB n r) w) := by
  have HE : Hid (goodD n r.s r.l = goodA n r.s r.l) := Lib.hid (by unfold goodA; rw [hn]; rfl)
  unfold fullB
  rw [HE.out]
  have HB := Lib.hid (rowAt_new w 101 r u)
  clear hn
  cases hg : goodB r.k r.i r.f r.t r.a with
  | false =>
    have HG := Lib.hid hg
    clear hg
    go_enter Tryz.func130, Tryz.ntmps130
    go_wp2_with fail
    refine (implGood_any _ _ _ _ _ _).mono ?_
    rintro e w1 ⟨rfl, x1⟩
    have hx := (Ext.alloc1 w _).trans x1
    clear x1 HB
    rw [HG.out]
    go_wp2
    go_ret
    exact ⟨rfl, hx⟩
  | true =>
    have HG := Lib.hid hg
    clear hg
    rw [Bool.true_and]
    go_enter Tryz.func130, Tryz.ntmps130
    go_wp2_with fail
    refine (implGood_any _ _ _ _ _ _).mono ?_
    rintro e w1 ⟨rfl, x1⟩
    have hx := (Ext.alloc1 w _).trans x1
    obtain ⟨q0, q1, q2, q3, q4, q5, q6, q7, q8, q9⟩ := HB.out.ext x1
    clear x1
    rw [HG.out]
    go_wp2_with fail
    refine (implGoodAttr_any _ _ _ r.l _ (hv.ext hx)).mono ?_
    rintro e w2 ⟨rfl, x2⟩
    have hy := hx.trans x2
    clear q0 q1 q2 q3 q4 q5 q6 q7 q8 q9 x2 hx g0 g1 g2
    cases hA : goodA n r.s r.l
    all_goals
      have HA := Lib.hid hA
      clear hA
      go_wp2
      go_ret
      exact ⟨by rw [HA.out]; rfl, hy⟩

set_option maxHeartbeats 2000000 in
theorem isGood_0 (n : Int) (r : RowD) (u : Value) (w : World) (hv : Ints w u r.l) (hsz : r.l.length ≤ 1099511627776) (hn : isGrp n = true) (g0 : 0 ≤ r.v) (g1 : r.v ≤ r.b) (g2 : r.b ≤ 9999) (h0 : (r.st == 0) = true) :
    Calls Tryz.prog 130 #[.int .i64 n, .agg #[.int .i64 r.b, .int .i64 r.v, .int .i64 r.st, .int .i64 r.k, .int .i64 r.i, .int .i64 r.f, .int .i64 r.t, .int .i64 r.a, .int .i64 r.s, u]] w (BoolExt (emptyB n r) w) := by
  unfold emptyB
  have HSZ := Lib.hid hsz
  clear hsz
  have HB := Lib.hid (rowAt_new w 101 r u)
  have HN := Lib.hid hn
  clear hn
  cases hv0 : (r.v == 0) with
  | false =>
    go_enter Tryz.func130, Tryz.ntmps130
    go_wp2_with fail
    go_quiet (fail)
    go_wp2
    go_ret
    exact ⟨rfl, by repeat (first | exact Ext.alloc1 _ _ | apply Ext.drewN)⟩
  | true =>
    have heq := fun W => eq_zero r.k r.i r.f r.t r.a W
    cases hz : zeroC r.k r.i r.f r.t r.a with
    | false =>
      rw [hz] at heq
      clear hz
      go_enter Tryz.func130, Tryz.ntmps130
      go_wp2_with fail
      go_quiet (fail)
      go_wp2
      go_ret
      exact ⟨rfl, by repeat (first | exact Ext.alloc1 _ _ | apply Ext.drewN)⟩
    | true =>
      rw [hz] at heq
      clear hz
      obtain ⟨wb, hwb⟩ : ∃ wb, wb = w.alloc (.cells #[.int .i64 r.b, .int .i64 r.v, .int .i64 r.st, .int .i64 r.k, .int .i64 r.i, .int .i64 r.f, .int .i64 r.t, .int .i64 r.a, .int .i64 r.s, u] 101) := ⟨_, rfl⟩
      have hb := HB.out
      rw [← hwb] at hb
      have xb : Ext w wb := by rw [hwb]; exact Ext.alloc1 _ _
      have HV := Lib.hid (hv.ext xb)
      have HWB := Lib.hid hwb
      have HBB := Lib.hid hb
      clear HB hwb hb hv
      go_enter Tryz.func130, Tryz.ntmps130
      go_wp2_with fail
      rw [← HWB.out]
      go_region_held3 (fun W => Ext wb W ∧ W.cell? ⟨w.heap.size, 0, none⟩ = some (.int .i64 r.b) ∧ W.cell? ⟨w.heap.size, 1, none⟩ = some (.int .i64 r.v) ∧ W.cell? ⟨w.heap.size, 2, none⟩ = some (.int .i64 r.st) ∧ W.cell? ⟨w.heap.size, 3, none⟩ = some (.int .i64 r.k) ∧ W.cell? ⟨w.heap.size, 4, none⟩ = some (.int .i64 r.i) ∧ W.cell? ⟨w.heap.size, 5, none⟩ = some (.int .i64 r.f) ∧ W.cell? ⟨w.heap.size, 6, none⟩ = some (.int .i64 r.t) ∧ W.cell? ⟨w.heap.size, 7, none⟩ = some (.int .i64 r.a) ∧ W.cell? ⟨w.heap.size, 8, none⟩ = some (.int .i64 r.s) ∧ W.cell? ⟨w.heap.size, 9, none⟩ = some u) (first | (exact stepRow (b := w.heap.size) (r := r) (u := u) (by assumption) (by assumption)) | (exact ⟨Ext.drew (Ext.refl _), HBB.out⟩)) (first | (go_at_call 121; refine (joinNone_any n _ HN.out).mono ?_; rintro e W ⟨z, rfl, f9, x9⟩; obtain ⟨az, cz, rfl⟩ := f9.form) | (go_at_call 120; refine (implSame_any _ _ _ _ r.l (noneL n) _ (HV.out.ext (And.left (by assumption))) (Fresh.ints (by assumption)) HSZ.out).mono ?_; rintro e W ⟨rfl, x8⟩))
      rename_i hH
      have hy : Ext w _ := xb.trans hH.1
      clear hH
      cases hs : sameA r.s 0 r.l (noneL n)
      all_goals
        have HS := Lib.hid hs
        clear hs
        go_wp2
        go_ret
        exact ⟨by rw [HS.out]; rfl, hy⟩

theorem isGoodRow_any (n : Int) (r : RowD) (u : Value) (w : World) (hv : Ints w u r.l) (hsz : r.l.length ≤ 1099511627776) (hn : isGrp n = true) :
    Calls Tryz.prog 130 #[.int .i64 n, .agg #[.int .i64 r.b, .int .i64 r.v, .int .i64 r.st, .int .i64 r.k, .int .i64 r.i, .int .i64 r.f, .int .i64 r.t, .int .i64 r.a, .int .i64 r.s, u]] w (BoolExt (goodRow n r) w) := by
  by_cases hb : r.v < 0 ∨ r.b < r.v ∨ 9999 < r.b
  · have e : headB r = false := by
      unfold headB
      rcases hb with h | h | h
      · rw [inB_no (n := r.v) (by omega), Bool.and_false, Bool.false_and]
      · rw [inB_no (n := r.v) (by omega), Bool.and_false, Bool.false_and]
      · rw [inB_no (n := r.b) (by omega), Bool.false_and, Bool.false_and]
    rw [goodRow_head e]
    exact isGood_early n r u w hb
  · have g0 : 0 ≤ r.v := by omega
    have g1 : r.v ≤ r.b := by omega
    have g2 : r.b ≤ 9999 := by omega
    have hh : headB r = inB r.st 0 3 := by unfold headB; rw [inB_yes (n := r.b) (by omega) g2, inB_yes (n := r.v) g0 g1]; rfl
    by_cases s0 : r.st = 0
    · have e0 : (r.st == 0) = true := by simp [s0]
      rw [goodRow_empty (by rw [hh]; exact inB_yes (by omega) (by omega)) e0]
      exact isGood_0 n r u w hv hsz hn g0 g1 g2 e0
    · have e0 : (r.st == 0) = false := by simp [s0]
      by_cases s1 : r.st = 1
      · rw [goodRow_full (by rw [hh]; exact inB_yes (by omega) (by omega)) e0]
        exact isGood_1 n r u w hv hn g0 g1 g2 e0 (by simp [s1])
      · by_cases s2 : r.st = 2
        · rw [goodRow_full (by rw [hh]; exact inB_yes (by omega) (by omega)) e0]
          exact isGood_2 n r u w hv hn g0 g1 g2 e0 (by simp [s1]) (by simp [s2])
        · by_cases s3 : r.st = 3
          · rw [goodRow_full (by rw [hh]; exact inB_yes (by omega) (by omega)) e0]
            exact isGood_3 n r u w hv hn g0 g1 g2 e0 (by simp [s1]) (by simp [s2]) (by simp [s3])
          · rw [goodRow_head (by rw [hh]; exact inB_no (by omega))]
            exact isGood_else n r u w g0 g1 g2 e0 (by simp [s1]) (by simp [s2]) (by simp [s3])

end Go.Proofs.YtbffkidkfannhaaGreat
