/- What is proved: at every two commands the function Interfere of the program answers as its model does, both results. Conditions: none. -/
import Derived.Test.YtpkkkobhhnkccaaRows
import Derived.Test.YtpkkkobhhnkccaaInter2
import Derived.Test.YtpkkkobhhnkccaaFrameArgs
import Derived.WalkKit
import Derived.Deep.RegionWith
import Derived.ProofKit
import Derived.OpenShut
import Derived.ShutString
import Derived.ChangeOld
import Derived.Below
namespace Go.Proofs.Ytpkkkobhhnkccaa.fnExactInterfere
open Go.ChangeShapes Go.WideShapes Go.ChangeAt Go.RowKit
set_option linter.unusedVariables false

theorem own : ownKnob Try.prog.godebug = none := by kernel_rfl
theorem laidOut : laidOutB Try.prog = true := by kernel_rfl

/-! ### The walk: the law's text returns true, and nothing that was there is turned. -/
set_option maxHeartbeats 2000000 in
theorem walk (k i f t a k' i' f' t' a' : Int) (w : World) (w0 : wf64 k ∧ wf64 i ∧ wf64 f ∧ wf64 t ∧ wf64 a) (w1 : wf64 k' ∧ wf64 i' ∧ wf64 f' ∧ wf64 t' ∧ wf64 a') :
    Calls Try.prog 9 #[.agg #[.int .i64 k, .int .i64 i, .int .i64 f, .int .i64 t, .int .i64 a], .agg #[.int .i64 k', .int .i64 i', .int .i64 f', .int .i64 t', .int .i64 a']] w fun e w' => e = .returned (.bool true) ∧ Ext w w' := by
  clear w0 w1
  obtain ⟨z, hx⟩ : ∃ x, x = ((goodB k i f t a && goodB k' i' f' t' a') && interB k f t k' f' t') := ⟨_, rfl⟩
  obtain ⟨y, hy⟩ : ∃ y, y = (goodB k i f t a && goodB k' i' f' t' a') := ⟨_, rfl⟩
  have cS : ∀ W, Calls Try.prog 42 #[.agg #[.int .i64 k, .int .i64 i, .int .i64 f, .int .i64 t, .int .i64 a], .agg #[.int .i64 k', .int .i64 i', .int .i64 f', .int .i64 t', .int .i64 a']] W (TwoB z y W) := fun W => by rw [hx, hy]; exact specInterfere_any _ _ _ _ _ _ _ _ _ _ _
  have cI : ∀ W, Calls Try.prog 43 #[.agg #[.int .i64 k, .int .i64 i, .int .i64 f, .int .i64 t, .int .i64 a], .agg #[.int .i64 k', .int .i64 i', .int .i64 f', .int .i64 t', .int .i64 a']] W (TwoB z y W) := fun W => by rw [hx, hy]; exact implInterfere_any _ _ _ _ _ _ _ _ _ _ _
  have CS := Lib.hid cS
  have CI := Lib.hid cI
  clear cS cI hx hy
  have hb := cmdAt_new2 w (.cells #[.int .i64 k, .int .i64 i, .int .i64 f, .int .i64 t, .int .i64 a] 48) 48 k' i' f' t' a'
  have ha := (cmdAt_new w 48 k i f t a).ext (Ext.alloc (Ext.refl _) (.cells #[.int .i64 k', .int .i64 i', .int .i64 f', .int .i64 t', .int .i64 a'] 48))
  have x0 : Ext w ((w.alloc (.cells #[.int .i64 k, .int .i64 i, .int .i64 f, .int .i64 t, .int .i64 a] 48)).alloc (.cells #[.int .i64 k', .int .i64 i', .int .i64 f', .int .i64 t', .int .i64 a'] 48)) := (Ext.alloc (Ext.refl _) _).alloc _
  obtain ⟨wb, hwb⟩ : ∃ wb, wb = ((w.alloc (.cells #[.int .i64 k, .int .i64 i, .int .i64 f, .int .i64 t, .int .i64 a] 48)).alloc (.cells #[.int .i64 k', .int .i64 i', .int .i64 f', .int .i64 t', .int .i64 a'] 48)) := ⟨_, rfl⟩
  rw [← hwb] at hb ha x0
  have HW := Lib.hid hwb
  have HA := Lib.hid ha
  have HB := Lib.hid hb
  clear hwb ha hb
  go_enter Try.func9, Try.ntmps9
  go_wp2_with fail
  rw [← HW.out]
  have hy : Ext wb wb := Ext.refl _
  obtain ⟨c0, c1, c2, c3, c4⟩ := HB.out
  obtain ⟨d0, d1, d2, d3, d4⟩ := HA.out
  go_region_with (first | (go_at_call 35; refine (toCmd_any _ _ _ _ _ _).mono ?_; rintro e W ⟨rfl, x⟩; (first | replace hy := hy.trans x | replace hy := (Ext.drew hy).trans x); obtain ⟨c0, c1, c2, c3, c4⟩ := HB.out.ext hy; obtain ⟨d0, d1, d2, d3, d4⟩ := HA.out.ext hy) | (go_at_call 42; refine (CS.out _).mono ?_; rintro e W ⟨rfl, x⟩; (first | replace hy := hy.trans x | replace hy := (Ext.drew hy).trans x); obtain ⟨c0, c1, c2, c3, c4⟩ := HB.out.ext hy; obtain ⟨d0, d1, d2, d3, d4⟩ := HA.out.ext hy))
  all_goals
    clear c0 c1 c2 c3 c4 d0 d1 d2 d3 d4 x
    obtain ⟨c0, c1, c2, c3, c4⟩ := HB.out.ext hy
    obtain ⟨d0, d1, d2, d3, d4⟩ := HA.out.ext hy
    go_wp2_with fail
    go_region_with (first | (go_at_call 35; refine (toCmd_any _ _ _ _ _ _).mono ?_; rintro e W ⟨rfl, x⟩; (first | replace hy := hy.trans x | replace hy := (Ext.drew hy).trans x); obtain ⟨c0, c1, c2, c3, c4⟩ := HB.out.ext hy; obtain ⟨d0, d1, d2, d3, d4⟩ := HA.out.ext hy) | (go_at_call 43; refine (CI.out _).mono ?_; rintro e W ⟨rfl, x⟩; (first | replace hy := hy.trans x | replace hy := (Ext.drew hy).trans x); obtain ⟨c0, c1, c2, c3, c4⟩ := HB.out.ext hy; obtain ⟨d0, d1, d2, d3, d4⟩ := HA.out.ext hy))
    all_goals
      have e6 : Ext w _ := x0.trans hy
      clear c0 c1 c2 c3 c4 d0 d1 d2 d3 d4 x hy
      cases z
      all_goals
        cases y
        all_goals
          go_wp2
          go_ret
          exact ⟨rfl, e6⟩

/-! ### The frame -/
set_option maxRecDepth 100000 in
theorem lifted (os : Os) (started : os.Started) (H : Type) (enc : TypeId × Value → H) :
    ReturnsInHanded {} Try.checked os 9 .any (Rows.fnExactInterfereSpec.pre6 enc Try.prog Try.f9 Rows.fnExactInterfereRow.domain false) (Rows.fnExactInterfereSpec.post enc Try.prog Try.f9 false true false false) := by
  refine returnsInHanded_of_change (C := Try.checked) own started (by kernel_rfl) Try.func9
    (ChangeSpec.witness6 (enc := enc) (C := Try.checked) false ⟨#[], #[.agg #[.int .i64 0, .int .i64 0, .int .i64 0, .int .i64 0, .int .i64 0], .agg #[.int .i64 0, .int .i64 0, .int .i64 0, .int .i64 0, .int .i64 0]], []⟩ 8 (by kernel_rfl) (by kernel_rfl) (by kernel_rfl) (by kernel_rfl)) ?_
  intro W base args ds gs before hval0 hW hcnd _
  have hval : ∀ (j : Nat) t v, Try.f9.params[j]? = some t → args[j]? = some v → Value.okWide Try.prog W .any base t v := hval0
  have hW' := hW
  obtain ⟨p, q, hA0, hV, rfl, hfz, hnd⟩ := hW
  have hA : DataW.TrodAll enc Try.prog W 0 (fun _ => true) true Try.f9.params.toList args.toList ds p := hA0
  rw [Try.params9] at hA hval
  obtain ⟨v0, vs0, d0, ds0, p0, q0, hargs, rfl, rfl, h0, r0⟩ := trodAll_cons hA
  obtain ⟨v1, vs1, d1, ds1, p1, q1, rfl, rfl, rfl, h1, r1⟩ := trodAll_cons r0
  obtain ⟨rfl, rfl, rfl⟩ := trodAll_nil r1
  obtain rfl : args = #[v0, v1] := by cases args; simp_all
  obtain ⟨rfl, rfl⟩ := trodVars_none hV
  have k0 := h0
  have lt0 : ∀ x ∈ p0, x.block < W.heap.size := by obtain ⟨m, hm⟩ := k0; exact DataW.trod_lt m _ _ _ hm
  obtain ⟨k0', i0, f0, t0, m0, rfl, w0⟩ := open_cmd (hval 0 48 v0 rfl rfl) h0
  have k1 := h1
  have lt1 : ∀ x ∈ p1, x.block < W.heap.size := by obtain ⟨m, hm⟩ := k1; exact DataW.trod_lt m _ _ _ hm
  obtain ⟨k1', i1, f1, t1, m1, rfl, w1⟩ := open_cmd (hval 1 48 v1 rfl rfl) h1
  clear hA0 hval0
  refine (walk k0' i0 f0 t0 m0 k1' i1 f1 t1 m1 W w0 w1).mono fun e W' ⟨he, bel⟩ => ?_
  subst he
  exact ⟨_, rfl, _, _, _, [], _, [], hW', trodAll_mk1 (shut_bool Try.underlying4 _), (trodAll_cons_mk (Below.trod laidOut (by kernel_rfl) (of_decide_eq_true (by kernel_rfl)) k0 bel lt0) (trodAll_cons_mk (Below.trod laidOut (by kernel_rfl) (of_decide_eq_true (by kernel_rfl)) k1 bel lt1) trodAll_mk0)), rfl, bel.frame _, fun h => by cases h⟩

theorem over : Rows.fnExactInterfereRow.holds Try.pinned (OpenSpec.ofChange Rows.fnExactInterfereSpec) :=
  OpenClaim.holds_of_wide 9 Try.f9 rfl rfl rfl rfl rfl rfl rfl ⟨rfl, rfl, rfl, rfl, rfl⟩ rfl rfl rfl rfl rfl (by kernel_rfl) Try.func9 (by kernel_rfl)
    (of_decide_eq_true (by kernel_rfl)) (by unfold Func.isWrapper; first | (rw [if_pos (by decide +kernel)]; kernel_rfl) | (rw [if_neg (by decide +kernel)]; exact ⟨rfl, rfl⟩))
    (fun os started H enc _ => lifted os started H enc)

/-- THE STATEMENT -/
theorem proved : Rows.FnExactInterfereSaid := over
#print axioms proved
end Go.Proofs.Ytpkkkobhhnkccaa.fnExactInterfere
