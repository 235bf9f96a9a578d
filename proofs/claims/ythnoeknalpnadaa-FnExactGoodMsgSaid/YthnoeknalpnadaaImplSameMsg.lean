/- Contract of the program's SameMsg. -/
import Derived.Test.YthnoeknalpnadaaMsg
import Derived.Test.YthnoeknalpnadaaL4Row
import Derived.Test.YthnoeknalpnadaaRegionExt
import Derived.Deep.Quiet
namespace Go.Proofs.Ythnoeknalpnadaa
open Go.RowKit
set_option linter.unusedVariables false

set_option maxHeartbeats 2000000 in
set_option maxRecDepth 100000 in
theorem numbersOf_any (r : MsgD) (u : Value) (w : World) :
    Calls Try.prog 171 #[.agg #[.int .i64 r.kd, .int .i64 r.fr, .int .i64 r.tt, .int .i64 r.rp, .int .i64 r.no, .int .i64 r.b, .int .i64 r.v, .int .i64 r.st, .int .i64 r.k, .int .i64 r.i, .int .i64 r.f, .int .i64 r.t, .int .i64 r.a, .int .i64 r.s, u]] w fun e w' => e = .returned (.agg #[.int .i64 r.kd, .int .i64 r.fr, .int .i64 r.tt, .int .i64 r.rp, .int .i64 r.no, .int .i64 r.b, .int .i64 r.v, .int .i64 r.st]) ∧ Ext w w' := by
  go_enter Try.func171, Try.ntmps171
  go_wp2
  exact bodyPost_ret (v := .agg #[.int .i64 r.kd, .int .i64 r.fr, .int .i64 r.tt, .int .i64 r.rp, .int .i64 r.no, .int .i64 r.b, .int .i64 r.v, .int .i64 r.st]) (by simp [results, Try.results171, go_sem]) rfl ⟨rfl, by repeat (first | exact Ext.refl _ | apply Ext.drew | apply Ext.alloc)⟩

set_option maxHeartbeats 8000000 in
set_option maxRecDepth 100000 in
theorem implSameMsg_any (r d : MsgD) (u v : Value) (w : World) (hu : Ints w u r.l) (hv : Ints w v d.l) (hs : r.l.length ≤ 1099511627776) :
    Calls Try.prog 139 #[.agg #[.int .i64 r.kd, .int .i64 r.fr, .int .i64 r.tt, .int .i64 r.rp, .int .i64 r.no, .int .i64 r.b, .int .i64 r.v, .int .i64 r.st, .int .i64 r.k, .int .i64 r.i, .int .i64 r.f, .int .i64 r.t, .int .i64 r.a, .int .i64 r.s, u], .agg #[.int .i64 d.kd, .int .i64 d.fr, .int .i64 d.tt, .int .i64 d.rp, .int .i64 d.no, .int .i64 d.b, .int .i64 d.v, .int .i64 d.st, .int .i64 d.k, .int .i64 d.i, .int .i64 d.f, .int .i64 d.t, .int .i64 d.a, .int .i64 d.s, v]] w (BoolExt (sameM r d) w) := by
  have h2 := two_msgs w 110 110 r d u v
  obtain ⟨wb, hwb⟩ : ∃ wb, wb = (w.alloc (.cells #[.int .i64 r.kd, .int .i64 r.fr, .int .i64 r.tt, .int .i64 r.rp, .int .i64 r.no, .int .i64 r.b, .int .i64 r.v, .int .i64 r.st, .int .i64 r.k, .int .i64 r.i, .int .i64 r.f, .int .i64 r.t, .int .i64 r.a, .int .i64 r.s, u] 110)).alloc (.cells #[.int .i64 d.kd, .int .i64 d.fr, .int .i64 d.tt, .int .i64 d.rp, .int .i64 d.no, .int .i64 d.b, .int .i64 d.v, .int .i64 d.st, .int .i64 d.k, .int .i64 d.i, .int .i64 d.f, .int .i64 d.t, .int .i64 d.a, .int .i64 d.s, v] 110) := ⟨_, rfl⟩
  have xb : Ext w wb := by rw [hwb]; exact Ext.alloc2 _ _ _
  rw [← hwb] at h2
  have HWB := Lib.hid hwb
  obtain ⟨⟨p0, p1, p2, p3, p4, p5, p6, p7, p8, p9, p10, p11, p12, p13, p14⟩, ⟨q0, q1, q2, q3, q4, q5, q6, q7, q8, q9, q10, q11, q12, q13, q14⟩⟩ := h2
  have p0 := fun E : ExtOf wb => E.cell p0
  have p1 := fun E : ExtOf wb => E.cell p1
  have p2 := fun E : ExtOf wb => E.cell p2
  have p3 := fun E : ExtOf wb => E.cell p3
  have p4 := fun E : ExtOf wb => E.cell p4
  have p5 := fun E : ExtOf wb => E.cell p5
  have p6 := fun E : ExtOf wb => E.cell p6
  have p7 := fun E : ExtOf wb => E.cell p7
  have p8 := fun E : ExtOf wb => E.cell p8
  have p9 := fun E : ExtOf wb => E.cell p9
  have p10 := fun E : ExtOf wb => E.cell p10
  have p11 := fun E : ExtOf wb => E.cell p11
  have p12 := fun E : ExtOf wb => E.cell p12
  have p13 := fun E : ExtOf wb => E.cell p13
  have p14 := fun E : ExtOf wb => E.cell p14
  have q0 := fun E : ExtOf wb => E.cell q0
  have q1 := fun E : ExtOf wb => E.cell q1
  have q2 := fun E : ExtOf wb => E.cell q2
  have q3 := fun E : ExtOf wb => E.cell q3
  have q4 := fun E : ExtOf wb => E.cell q4
  have q5 := fun E : ExtOf wb => E.cell q5
  have q6 := fun E : ExtOf wb => E.cell q6
  have q7 := fun E : ExtOf wb => E.cell q7
  have q8 := fun E : ExtOf wb => E.cell q8
  have q9 := fun E : ExtOf wb => E.cell q9
  have q10 := fun E : ExtOf wb => E.cell q10
  have q11 := fun E : ExtOf wb => E.cell q11
  have q12 := fun E : ExtOf wb => E.cell q12
  have q13 := fun E : ExtOf wb => E.cell q13
  have q14 := fun E : ExtOf wb => E.cell q14
  have cN : ∀ E : ExtOf wb, Calls Try.prog 171 #[.agg #[.int .i64 r.kd, .int .i64 r.fr, .int .i64 r.tt, .int .i64 r.rp, .int .i64 r.no, .int .i64 r.b, .int .i64 r.v, .int .i64 r.st, .int .i64 r.k, .int .i64 r.i, .int .i64 r.f, .int .i64 r.t, .int .i64 r.a, .int .i64 r.s, u]] E.1 (fun x w' => x = .returned (.agg #[.int .i64 r.kd, .int .i64 r.fr, .int .i64 r.tt, .int .i64 r.rp, .int .i64 r.no, .int .i64 r.b, .int .i64 r.v, .int .i64 r.st]) ∧ Ext E.1 w') := fun E => numbersOf_any _ _ _
  have cM : ∀ E : ExtOf wb, Calls Try.prog 171 #[.agg #[.int .i64 d.kd, .int .i64 d.fr, .int .i64 d.tt, .int .i64 d.rp, .int .i64 d.no, .int .i64 d.b, .int .i64 d.v, .int .i64 d.st, .int .i64 d.k, .int .i64 d.i, .int .i64 d.f, .int .i64 d.t, .int .i64 d.a, .int .i64 d.s, v]] E.1 (fun x w' => x = .returned (.agg #[.int .i64 d.kd, .int .i64 d.fr, .int .i64 d.tt, .int .i64 d.rp, .int .i64 d.no, .int .i64 d.b, .int .i64 d.v, .int .i64 d.st]) ∧ Ext E.1 w') := fun E => numbersOf_any _ _ _
  obtain ⟨bb, hbb⟩ : ∃ bb, bb = sameA r.s d.s r.l d.l := ⟨_, rfl⟩
  have cS : ∀ E : ExtOf wb, Calls Try.prog 149 #[.agg #[.int .i64 r.s, u], .agg #[.int .i64 d.s, v]] E.1 (fun x w' => x = .returned (.bool bb) ∧ Ext E.1 w') := fun E => by
    rw [hbb]
    exact implSame_any _ _ _ _ r.l d.l _ ((hu.ext xb).ext E.2) ((hv.ext xb).ext E.2) hs
  have h8 := fun W => eq_eight r d W
  have h5 := fun W => eq_cmd r.k r.i r.f r.t r.a d.k d.i d.f d.t d.a W
  unfold sameM
  rw [← hbb]
  clear hwb hu hv hs hbb
  cases hH : sameH r d
  · rw [hH] at h8
    clear hH
    go_enter Try.func139, Try.ntmps139
    go_wp2_with fail
    rw [← HWB.out]
    refine wp_region_ext_lit (by kernel_rfl) (by kernel_rfl) ?_
    repeat (go_big_quiet_step (first | (go_at_call 171; first | (with_reducible exact Calls.ext_of _ (cN _)) | (with_reducible exact Calls.ext_of _ (cM _))) | (go_at_call 149; with_reducible exact Calls.ext_of _ (cS _))))
    refine wpQuiet_nil ?_
    rintro _ ⟨E, rfl⟩
    clear p0 p1 p2 p3 p4 p5 p6 p7 p8 p9 p10 p11 p12 p13 p14 q0 q1 q2 q3 q4 q5 q6 q7 q8 q9 q10 q11 q12 q13 q14 cN cM cS h8 h5
    go_wp2
    go_ret
    exact ⟨rfl, xb.trans E.2⟩
  · rw [hH] at h8
    rw [Bool.true_and]
    clear hH
    cases hC : sameC r.k r.i r.f r.t r.a d.k d.i d.f d.t d.a
    · rw [hC] at h5
      clear hC
      go_enter Try.func139, Try.ntmps139
      go_wp2_with fail
      rw [← HWB.out]
      refine wp_region_ext_lit (by kernel_rfl) (by kernel_rfl) ?_
      repeat (go_big_quiet_step (first | (go_at_call 171; first | (with_reducible exact Calls.ext_of _ (cN _)) | (with_reducible exact Calls.ext_of _ (cM _))) | (go_at_call 149; with_reducible exact Calls.ext_of _ (cS _))))
      refine wpQuiet_nil ?_
      rintro _ ⟨E, rfl⟩
      clear p0 p1 p2 p3 p4 p5 p6 p7 p8 p9 p10 p11 p12 p13 p14 q0 q1 q2 q3 q4 q5 q6 q7 q8 q9 q10 q11 q12 q13 q14 cN cM cS h8 h5
      go_wp2
      go_ret
      exact ⟨rfl, xb.trans E.2⟩
    · rw [hC] at h5
      rw [Bool.true_and]
      clear hC
      cases bb with
      | false =>
        go_enter Try.func139, Try.ntmps139
        go_wp2_with fail
        rw [← HWB.out]
        refine wp_region_ext_lit (by kernel_rfl) (by kernel_rfl) ?_
        repeat (go_big_quiet_step (first | (go_at_call 171; first | (with_reducible exact Calls.ext_of _ (cN _)) | (with_reducible exact Calls.ext_of _ (cM _))) | (go_at_call 149; with_reducible exact Calls.ext_of _ (cS _))))
        refine wpQuiet_nil ?_
        rintro _ ⟨E, rfl⟩
        clear p0 p1 p2 p3 p4 p5 p6 p7 p8 p9 p10 p11 p12 p13 p14 q0 q1 q2 q3 q4 q5 q6 q7 q8 q9 q10 q11 q12 q13 q14 cN cM cS h8 h5
        go_wp2
        go_ret
        exact ⟨rfl, xb.trans E.2⟩
      | true =>
        go_enter Try.func139, Try.ntmps139
        go_wp2_with fail
        rw [← HWB.out]
        refine wp_region_ext_lit (by kernel_rfl) (by kernel_rfl) ?_
        repeat (go_big_quiet_step (first | (go_at_call 171; first | (with_reducible exact Calls.ext_of _ (cN _)) | (with_reducible exact Calls.ext_of _ (cM _))) | (go_at_call 149; with_reducible exact Calls.ext_of _ (cS _))))
        refine wpQuiet_nil ?_
        rintro _ ⟨E, rfl⟩
        clear p0 p1 p2 p3 p4 p5 p6 p7 p8 p9 p10 p11 p12 p13 p14 q0 q1 q2 q3 q4 q5 q6 q7 q8 q9 q10 q11 q12 q13 q14 cN cM cS h8 h5
        go_wp2
        go_ret
        exact ⟨rfl, xb.trans E.2⟩
end Go.Proofs.Ythnoeknalpnadaa
