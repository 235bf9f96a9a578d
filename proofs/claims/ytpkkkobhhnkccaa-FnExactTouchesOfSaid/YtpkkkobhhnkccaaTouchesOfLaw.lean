/- What is proved: at every command the function TouchesOf of the program answers as its model does, and its answer owns its memory. Conditions: none. -/
import Derived.Test.YtpkkkobhhnkccaaRows
import Derived.Test.YtpkkkobhhnkccaaTouchOf
import Derived.Test.YtpkkkobhhnkccaaInter
import Derived.Test.YtpkkkobhhnkccaaFrameArgs
import Derived.WalkKit
import Derived.ProofKit
import Derived.OpenShut
import Derived.ShutString
import Derived.ChangeOld
import Derived.Below
namespace Go.Proofs.Ytpkkkobhhnkccaa.fnExactTouchesOf
open Go.ChangeShapes Go.WideShapes Go.ChangeAt Go.RowKit
set_option linter.unusedVariables false

theorem own : ownKnob Try.prog.godebug = none := by kernel_rfl
theorem laidOut : laidOutB Try.prog = true := by kernel_rfl

/-! ### The walk: the law's text returns true, and nothing that was there is turned. -/
set_option maxHeartbeats 2000000 in
theorem walk (k i f t a : Int) (w : World) (w0 : wf64 k ∧ wf64 i ∧ wf64 f ∧ wf64 t ∧ wf64 a) :
    Calls Try.prog 8 #[.agg #[.int .i64 k, .int .i64 i, .int .i64 f, .int .i64 t, .int .i64 a]] w fun e w' => e = .returned (.bool true) ∧ Ext w w' := by
  clear w0
  obtain ⟨A, hAe⟩ : ∃ A, A = touchesOf k i f t a := ⟨_, rfl⟩
  obtain ⟨b, hbe⟩ : ∃ b, b = goodB k i f t a := ⟨_, rfl⟩
  have hAl : A.length ≤ 2 := by
    rw [hAe]; unfold touchesOf
    split
    · exact touchesL_len _ _ _
    · simp
  have cS : ∀ W, Calls Try.prog 37 #[.agg #[.int .i64 k, .int .i64 i, .int .i64 f, .int .i64 t, .int .i64 a]] W (TwoInts A b W) := fun W => by rw [hAe, hbe]; exact specTouches_any _ _ _ _ _ _
  have cI : ∀ W, Calls Try.prog 38 #[.agg #[.int .i64 k, .int .i64 i, .int .i64 f, .int .i64 t, .int .i64 a]] W (TwoInts A b W) := fun W => by rw [hAe, hbe]; exact implTouches_any _ _ _ _ _ _
  have CS := Lib.hid cS
  have CI := Lib.hid cI
  clear cS cI hAe hbe
  have hb0 := cmdAt_new w 48 k i f t a
  have x0 : Ext w (w.alloc (.cells #[.int .i64 k, .int .i64 i, .int .i64 f, .int .i64 t, .int .i64 a] 48)) := Ext.alloc (Ext.refl _) _
  obtain ⟨wb, hwb⟩ : ∃ wb, wb = w.alloc (.cells #[.int .i64 k, .int .i64 i, .int .i64 f, .int .i64 t, .int .i64 a] 48) := ⟨_, rfl⟩
  rw [← hwb] at hb0 x0
  have HW := Lib.hid hwb
  have HB := Lib.hid hb0
  clear hwb hb0
  go_enter Try.func8, Try.ntmps8
  go_wp2_with fail
  rw [← HW.out]
  refine (toCmd_any _ _ _ _ _ _).mono ?_
  rintro e W1 ⟨rfl, x1⟩
  go_wp2_with fail
  refine (CS.out _).mono ?_
  rintro e W2 ⟨s0, rfl, f2, x2⟩
  have b2 := HB.out.ext (x1.trans x2)
  obtain ⟨c0, c1, c2, c3, c4⟩ := b2
  go_wp2_with fail
  refine (toCmd_any _ _ _ _ _ _).mono ?_
  rintro e W3 ⟨rfl, x3⟩
  clear c0 c1 c2 c3 c4
  go_wp2_with fail
  refine (CI.out _).mono ?_
  rintro e W4 ⟨g0, rfl, f4, x4⟩
  go_wp2_with fail
  refine (eqIntS_any _ _ _ _ _ f4.ints ((f2.ext x3).ext x4).ints).mono ?_
  rintro e W5 ⟨rfl, x5⟩
  rw [decide_eq_true rfl]
  have s5 : Fresh W1.heap.size W5 s0 A := ((f2.ext x3).ext x4).ext x5
  have e2 : Ext wb W2 := x1.trans x2
  have e5 : Ext W2 W5 := (x3.trans x4).trans x5
  have ew5 : Ext wb W5 := e2.trans e5
  go_wp2_with fail
  have f5 := f4.ext x5
  refine (markIntS_any _ _ A 1 _ f5 (by omega) (by omega)).mono ?_
  rintro e W6 ⟨rfl, f6, t6⟩
  have s6 : Fresh W1.heap.size W6 s0 A := s5.touch t6 ((f2.ext x3).apart' f4 (Nat.le_refl _))
  have e6 : Ext wb W6 := ew5.touch (f5.more (Nat.le_trans e2.size x3.size)) t6
  clear t6
  go_wp2_with fail
  refine (heldIntS_yes _ _ _ _ f6.ints (by omega) (by omega)).mono ?_
  rintro e W7 ⟨rfl, x7⟩
  obtain ⟨c0, c1, c2, c3, c4⟩ := HB.out.ext (e6.trans x7)
  go_wp2_with fail
  refine (toCmd_any _ _ _ _ _ _).mono ?_
  rintro e W8 ⟨rfl, x8⟩
  clear c0 c1 c2 c3 c4
  go_wp2_with fail
  refine (CI.out _).mono ?_
  rintro e W9 ⟨h0, rfl, f9, x9⟩
  go_wp2_with fail
  refine (eqIntS_any _ _ _ _ _ f9.ints (s6.ext ((x7.trans x8).trans x9)).ints).mono ?_
  rintro e W10 ⟨rfl, x10⟩
  rw [decide_eq_true rfl]
  have y10 : Ext W6 W10 := ((x7.trans x8).trans x9).trans x10
  go_wp2_with fail
  refine (heldIntS_yes _ _ _ _ (f6.ext y10).ints (by omega) (by omega)).mono ?_
  rintro e W11 ⟨rfl, x11⟩
  have e11 : Ext w W11 := x0.trans ((e6.trans y10).trans x11)
  clear x0 x1 x2 x3 x4 x5 x7 x8 x9 x10 x11 e2 e5 ew5 e6 y10 s5 s6 f2 f4 f5 f6 f9
  go_wp2
  go_ret
  exact ⟨rfl, e11⟩

/-! ### The frame -/
set_option maxRecDepth 100000 in
theorem lifted (os : Os) (started : os.Started) (H : Type) (enc : TypeId × Value → H) :
    ReturnsInHanded {} Try.checked os 8 .any (Rows.fnExactTouchesOfSpec.pre6 enc Try.prog Try.f8 Rows.fnExactTouchesOfRow.domain false) (Rows.fnExactTouchesOfSpec.post enc Try.prog Try.f8 false true false false) := by
  refine returnsInHanded_of_change (C := Try.checked) own started (by kernel_rfl) Try.func8
    (ChangeSpec.witness6 (enc := enc) (C := Try.checked) false ⟨#[], #[.agg #[.int .i64 0, .int .i64 0, .int .i64 0, .int .i64 0, .int .i64 0]], []⟩ 8 (by kernel_rfl) (by kernel_rfl) (by kernel_rfl) (by kernel_rfl)) ?_
  intro W base args ds gs before hval0 hW hcnd _
  have hval : ∀ (j : Nat) t v, Try.f8.params[j]? = some t → args[j]? = some v → Value.okWide Try.prog W .any base t v := hval0
  have hW' := hW
  obtain ⟨p, q, hA0, hV, rfl, hfz, hnd⟩ := hW
  have hA : DataW.TrodAll enc Try.prog W 0 (fun _ => true) true Try.f8.params.toList args.toList ds p := hA0
  rw [Try.params8] at hA hval
  obtain ⟨v0, vs0, d0, ds0, p0, q0, hargs, rfl, rfl, h0, r0⟩ := trodAll_cons hA
  obtain ⟨rfl, rfl, rfl⟩ := trodAll_nil r0
  obtain rfl : args = #[v0] := by cases args; simp_all
  obtain ⟨rfl, rfl⟩ := trodVars_none hV
  have k0 := h0
  have lt0 : ∀ x ∈ p0, x.block < W.heap.size := by obtain ⟨m, hm⟩ := k0; exact DataW.trod_lt m _ _ _ hm
  obtain ⟨k0', i0, f0, t0, m0, rfl, w0⟩ := open_cmd (hval 0 48 v0 rfl rfl) h0
  clear hA0 hval0
  refine (walk k0' i0 f0 t0 m0 W w0).mono fun e W' ⟨he, bel⟩ => ?_
  subst he
  exact ⟨_, rfl, _, _, _, [], _, [], hW', trodAll_mk1 (shut_bool Try.underlying4 _), (trodAll_cons_mk (Below.trod laidOut (by kernel_rfl) (of_decide_eq_true (by kernel_rfl)) k0 bel lt0) trodAll_mk0), rfl, bel.frame _, fun h => by cases h⟩

theorem over : Rows.fnExactTouchesOfRow.holds Try.pinned (OpenSpec.ofChange Rows.fnExactTouchesOfSpec) :=
  OpenClaim.holds_of_wide 8 Try.f8 rfl rfl rfl rfl rfl rfl rfl ⟨rfl, rfl, rfl, rfl, rfl⟩ rfl rfl rfl rfl rfl (by kernel_rfl) Try.func8 (by kernel_rfl)
    (of_decide_eq_true (by kernel_rfl)) (by unfold Func.isWrapper; first | (rw [if_pos (by decide +kernel)]; kernel_rfl) | (rw [if_neg (by decide +kernel)]; exact ⟨rfl, rfl⟩))
    (fun os started H enc _ => lifted os started H enc)

/-- THE STATEMENT -/
theorem proved : Rows.FnExactTouchesOfSaid := over
#print axioms proved
end Go.Proofs.Ytpkkkobhhnkccaa.fnExactTouchesOf
