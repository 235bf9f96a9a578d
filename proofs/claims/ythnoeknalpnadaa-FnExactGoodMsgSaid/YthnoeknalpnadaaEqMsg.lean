/- Contract of the laws' comparison of two messages that read the same. -/
import Derived.Test.YthnoeknalpnadaaMsg
import Derived.Test.YthnoeknalpnadaaEqRow
namespace Go.Proofs.Ythnoeknalpnadaa
open Go.RowKit
set_option linter.unusedVariables false

set_option maxHeartbeats 4000000 in
theorem eqMsg_same (r : MsgD) (u v : Value) (w : World) (hu : Ints w u r.l) (hv : Ints w v r.l) :
    Calls Try.prog 74 #[.agg #[.int .i64 r.kd, .int .i64 r.fr, .int .i64 r.tt, .int .i64 r.rp, .int .i64 r.no, .int .i64 r.b, .int .i64 r.v, .int .i64 r.st, .int .i64 r.k, .int .i64 r.i, .int .i64 r.f, .int .i64 r.t, .int .i64 r.a, .int .i64 r.s, u], .agg #[.int .i64 r.kd, .int .i64 r.fr, .int .i64 r.tt, .int .i64 r.rp, .int .i64 r.no, .int .i64 r.b, .int .i64 r.v, .int .i64 r.st, .int .i64 r.k, .int .i64 r.i, .int .i64 r.f, .int .i64 r.t, .int .i64 r.a, .int .i64 r.s, v]] w (BoolExt true w) := by
  have h2 := two_msgs w 110 110 r r u v
  obtain ⟨wb, hwb⟩ : ∃ wb, wb = (w.alloc (.cells #[.int .i64 r.kd, .int .i64 r.fr, .int .i64 r.tt, .int .i64 r.rp, .int .i64 r.no, .int .i64 r.b, .int .i64 r.v, .int .i64 r.st, .int .i64 r.k, .int .i64 r.i, .int .i64 r.f, .int .i64 r.t, .int .i64 r.a, .int .i64 r.s, u] 110)).alloc (.cells #[.int .i64 r.kd, .int .i64 r.fr, .int .i64 r.tt, .int .i64 r.rp, .int .i64 r.no, .int .i64 r.b, .int .i64 r.v, .int .i64 r.st, .int .i64 r.k, .int .i64 r.i, .int .i64 r.f, .int .i64 r.t, .int .i64 r.a, .int .i64 r.s, v] 110) := ⟨_, rfl⟩
  have xb : Ext w wb := by rw [hwb]; exact ((Ext.refl w).alloc _).alloc _
  rw [← hwb] at h2
  have HWB := Lib.hid hwb
  have H2 := Lib.hid h2
  have e0 : (r.kd != r.kd) = false := by simp
  have e1 : (r.fr != r.fr) = false := by simp
  have e2 : (r.tt != r.tt) = false := by simp
  have e3 : (r.rp != r.rp) = false := by simp
  have e4 : (r.no != r.no) = false := by simp
  have e5 : (r.b != r.b) = false := by simp
  have e6 : (r.v != r.v) = false := by simp
  have e7 : (r.st != r.st) = false := by simp
  clear hwb h2
  go_enter Try.func74, Try.ntmps74
  go_wp2_with fail
  rw [← HWB.out]
  refine (eqCmd_same _ _ _ _ _ _).mono ?_
  rintro e w1 ⟨rfl, x1⟩
  obtain ⟨p0, p1, p2, p3, p4, p5, p6, p7, p8, p9, p10, p11, p12, p13, p14⟩ := H2.out.1.ext x1
  obtain ⟨q0, q1, q2, q3, q4, q5, q6, q7, q8, q9, q10, q11, q12, q13, q14⟩ := H2.out.2.ext x1
  go_wp2_with fail
  refine (eqAttr_same _ _ _ r.l _ (hu.ext (xb.trans x1)) (hv.ext (xb.trans x1))).mono ?_
  rintro e w2 ⟨rfl, x2⟩
  have hx := (xb.trans x1).trans x2
  clear p0 p1 p2 p3 p4 p5 p6 p7 p8 p9 p10 p11 p12 p13 p14 q0 q1 q2 q3 q4 q5 q6 q7 q8 q9 q10 q11 q12 q13 q14 x1 x2 xb
  go_wp2
  go_ret
  exact ⟨rfl, hx⟩
end Go.Proofs.Ythnoeknalpnadaa
