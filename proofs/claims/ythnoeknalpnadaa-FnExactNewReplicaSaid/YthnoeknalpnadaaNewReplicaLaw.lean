/- What is proved: at every two numbers the function NewReplica of the program answers as its model does, and its answer owns its memory. Conditions: none. -/
import Derived.Test.YthnoeknalpnadaaRows
import Derived.Test.YthnoeknalpnadaaNewRep
import Derived.WalkKit
import Derived.ProofKit
import Derived.OpenShut
import Derived.ShutString
import Derived.ChangeOld
import Derived.Below
namespace Go.Proofs.Ythnoeknalpnadaa.fnExactNewReplica
open Go.ChangeShapes Go.WideShapes Go.ChangeAt Go.RowKit
set_option linter.unusedVariables false

theorem own : ownKnob Try.prog.godebug = none := by kernel_rfl
theorem laidOut : laidOutB Try.prog = true := by kernel_rfl

/-! ### The walk: the law's text returns true, and nothing that was there is turned. -/
set_option maxHeartbeats 4000000 in
set_option maxRecDepth 100000 in
theorem walk (n : Int) (e0 : Int) (w : World) (w1 : wf64 n) (w2 : wf64 e0) :
    Calls Try.prog 3 #[.int .i64 n, .int .i64 e0] w fun e w' => e = .returned (.bool true) ∧ Ext w w' := by
  clear w1 w2
  obtain ⟨g, hg⟩ : ∃ g, g = repB n e0 := ⟨_, rfl⟩
  obtain ⟨m, hm⟩ : ∃ m, m = nR n e0 := ⟨_, rfl⟩
  obtain ⟨T, hT⟩ : ∃ T, T = tR n e0 := ⟨_, rfl⟩
  obtain ⟨q, hq⟩ : ∃ q, q = meR n e0 := ⟨_, rfl⟩
  have hnil : ∀ R ∈ T, R = [] := by rw [hT]; exact tR_nil n e0
  have cS : ∀ W, Calls Try.prog 15 #[.int .i64 n, .int .i64 e0] W (TwoRep q m T g W) := fun W => by rw [hg, hm, hT, hq]; exact specNewReplica_any n e0 W
  have cI : ∀ W, Calls Try.prog 16 #[.int .i64 n, .int .i64 e0] W (TwoRep q m T g W) := fun W => by rw [hg, hm, hT, hq]; exact implNewReplica_any n e0 W
  have CS := Lib.hid cS
  have CI := Lib.hid cI
  have HN := Lib.hid hnil
  clear cS cI hnil hg hm hT hq
  have ng : (g != g) = false := by simp
  have n1 : ((1 : Int) != 1) = false := rfl
  go_enter Try.func3, Try.ntmps3
  go_wp2_with fail
  refine (CS.out _).mono ?_
  rintro e W1 ⟨v1, h1, rfl, f1, x1⟩
  obtain ⟨a1, k1, rfl⟩ := f1.form
  have B1 := Lib.hid (repAt_new W1 27 q m (.slice a1 T.length k1) (.slice none 0 0))
  have R1 := Lib.hid f1.rows
  have X1 := Lib.hid x1
  clear f1 x1
  go_wp2_with fail
  refine (CI.out _).mono ?_
  obtain ⟨w1, hw1⟩ : ∃ w1, w1 = W1.alloc (.cells #[.int .i64 q, .int .i64 m, .slice a1 T.length k1, .slice none 0 0] 27) := ⟨_, rfl⟩
  have x11 : Ext W1 w1 := by rw [hw1]; exact Ext.alloc (Ext.refl _) _
  have b1 := B1.out
  rw [← hw1] at b1 ⊢
  have B1' := Lib.hid b1
  have Y1 := Lib.hid (X1.out.trans x11)
  have R1' := Lib.hid (R1.out.ext x11)
  clear hw1 x11 b1 B1 R1 X1
  rintro e W2 ⟨v2, h2, rfl, f2, x2⟩
  obtain ⟨a2, k2, rfl⟩ := f2.form
  have B2 := Lib.hid (repAt_new W2 27 q m (.slice a2 T.length k2) (.slice none 0 0))
  have R2 := Lib.hid f2.rows
  have X2 := Lib.hid x2
  obtain ⟨c0, c1, c2, c3⟩ := B1'.out.ext (x2.trans (Ext.alloc (Ext.refl W2) (.cells #[.int .i64 q, .int .i64 m, .slice a2 T.length k2, .slice none 0 0] 27)))
  clear f2 x2
  go_wp2_with fail
  refine (eqReplica_nil _ _ _ _ T _ (R2.out.ext (Ext.alloc (Ext.refl _) _)) ((R1'.out.ext X2.out).ext (Ext.alloc (Ext.refl _) _))).mono ?_
  obtain ⟨w2, hw2⟩ : ∃ w2, w2 = W2.alloc (.cells #[.int .i64 q, .int .i64 m, .slice a2 T.length k2, .slice none 0 0] 27) := ⟨_, rfl⟩
  have x22 : Ext W2 w2 := by rw [hw2]; exact Ext.alloc (Ext.refl _) _
  have b2 := B2.out
  rw [← hw2] at b2 c0 c1 c2 c3 ⊢
  have B2' := Lib.hid b2
  have B1'' : Hid (RepAt w2 W1.heap.size q m (.slice a1 T.length k1) (.slice none 0 0)) := Lib.hid ⟨c0, c1, c2, c3⟩
  have Y2 := Lib.hid ((Y1.out.trans X2.out).trans x22)
  have R2' := Lib.hid (R2.out.ext x22)
  have R1'' := Lib.hid (R1'.out.ext (X2.out.trans x22))
  clear hw2 x22 b2 B2 R2 X2 c0 c1 c2 c3 B1' R1' Y1
  rintro e W3 ⟨rfl, x3⟩
  obtain ⟨d0, d1, d2, d3⟩ := B2'.out.ext x3
  have X3 := Lib.hid x3
  clear x3
  go_wp2_with fail
  refine (markReplica_nil _ _ _ T _ _ (R2'.out.ext X3.out) HN.out).mono ?_
  rintro e W4 ⟨rfl, x4⟩
  clear d0 d1 d2 d3
  obtain ⟨d0, d1, d2, d3⟩ := B2'.out.ext (X3.out.trans x4)
  have X4 := Lib.hid (X3.out.trans x4)
  clear x4 X3
  go_wp2_with fail
  refine (heldReplica_nil _ _ _ T _ _ (R2'.out.ext X4.out) HN.out (by omega)).mono ?_
  rintro e W5 ⟨rfl, x5⟩
  clear d0 d1 d2 d3
  have X5 := Lib.hid (X4.out.trans x5)
  clear x5 X4
  go_wp2_with fail
  refine (CI.out _).mono ?_
  rintro e W6 ⟨v6, h6, rfl, f6, x6⟩
  obtain ⟨a6, k6, rfl⟩ := f6.form
  obtain ⟨c0, c1, c2, c3⟩ := B1''.out.ext ((X5.out.trans x6).trans (Ext.alloc (Ext.refl W6) (.cells #[.int .i64 q, .int .i64 m, .slice a6 T.length k6, .slice none 0 0] 27)))
  have R6 := Lib.hid f6.rows
  have X6 := Lib.hid (X5.out.trans x6)
  clear f6 x6 X5
  go_wp2_with fail
  refine (eqReplica_nil _ _ _ _ T _ (R6.out.ext (Ext.alloc (Ext.refl _) _)) ((R1''.out.ext X6.out).ext (Ext.alloc (Ext.refl _) _))).mono ?_
  rintro e W7 ⟨rfl, x7⟩
  have X7 := Lib.hid (X6.out.trans ((Ext.alloc (Ext.refl _) _).trans x7))
  clear x7 c0 c1 c2 c3 R6
  obtain ⟨d0, d1, d2, d3⟩ := B2'.out.ext X7.out
  go_wp2_with fail
  refine (heldReplica_nil _ _ _ T _ _ (R2'.out.ext X7.out) HN.out (by omega)).mono ?_
  rintro e W8 ⟨rfl, x8⟩
  have hx := Y2.out.trans (X7.out.trans x8)
  clear x8 d0 d1 d2 d3
  go_wp2
  go_ret
  exact ⟨rfl, hx⟩

/-! ### The frame -/
set_option maxRecDepth 100000 in
theorem lifted (os : Os) (started : os.Started) (H : Type) (enc : TypeId × Value → H) :
    ReturnsInHanded {} Try.checked os 3 .any (Rows.fnExactNewReplicaSpec.pre6 enc Try.prog Try.f3 Rows.fnExactNewReplicaRow.domain false) (Rows.fnExactNewReplicaSpec.post enc Try.prog Try.f3 false true false false) := by
  refine returnsInHanded_of_change (C := Try.checked) own started (by kernel_rfl) Try.func3
    (ChangeSpec.witness6 (enc := enc) (C := Try.checked) false ⟨#[], #[.int .i64 0, .int .i64 0], []⟩ 8 (by kernel_rfl) (by kernel_rfl) (by kernel_rfl) (by kernel_rfl)) ?_
  intro W base args ds gs before hval0 hW hcnd _
  have hval : ∀ (j : Nat) t v, Try.f3.params[j]? = some t → args[j]? = some v → Value.okWide Try.prog W .any base t v := hval0
  have hW' := hW
  obtain ⟨p, q, hA0, hV, rfl, hfz, hnd⟩ := hW
  have hA : DataW.TrodAll enc Try.prog W 0 (fun _ => true) true Try.f3.params.toList args.toList ds p := hA0
  rw [Try.params3] at hA hval
  obtain ⟨v0, vs0, d0, ds0, p0, q0, hargs, rfl, rfl, h0, r0⟩ := trodAll_cons hA
  obtain ⟨v1, vs1, d1, ds1, p1, q1, rfl, rfl, rfl, h1, r1⟩ := trodAll_cons r0
  obtain ⟨rfl, rfl, rfl⟩ := trodAll_nil r1
  obtain rfl : args = #[v0, v1] := by cases args; simp_all
  obtain ⟨rfl, rfl⟩ := trodVars_none hV
  have k0 := h0
  have lt0 : ∀ x ∈ p0, x.block < W.heap.size := by obtain ⟨m, hm⟩ := k0; exact DataW.trod_lt m _ _ _ hm
  obtain ⟨a0, rfl, _, _, w0⟩ := open_int Try.underlying3 (hval 0 3 v0 rfl rfl) h0
  have k1 := h1
  have lt1 : ∀ x ∈ p1, x.block < W.heap.size := by obtain ⟨m, hm⟩ := k1; exact DataW.trod_lt m _ _ _ hm
  obtain ⟨a1, rfl, _, _, w1⟩ := open_int Try.underlying3 (hval 1 3 v1 rfl rfl) h1
  clear hA0 hval0
  refine (walk a0 a1 W w0 w1).mono fun e W' ⟨he, bel⟩ => ?_
  subst he
  exact ⟨_, rfl, _, _, _, [], _, [], hW', trodAll_mk1 (shut_bool Try.underlying4 _), (trodAll_cons_mk (Below.trod laidOut (by kernel_rfl) (of_decide_eq_true (by kernel_rfl)) k0 bel lt0) (trodAll_cons_mk (Below.trod laidOut (by kernel_rfl) (of_decide_eq_true (by kernel_rfl)) k1 bel lt1) trodAll_mk0)), rfl, bel.frame _, fun h => by cases h⟩

theorem over : Rows.fnExactNewReplicaRow.holds Try.pinned (OpenSpec.ofChange Rows.fnExactNewReplicaSpec) :=
  OpenClaim.holds_of_wide 3 Try.f3 rfl rfl rfl rfl rfl rfl rfl ⟨rfl, rfl, rfl, rfl, rfl⟩ rfl rfl rfl rfl rfl (by kernel_rfl) Try.func3 (by kernel_rfl)
    (of_decide_eq_true (by kernel_rfl)) (by unfold Func.isWrapper; first | (rw [if_pos (by decide +kernel)]; kernel_rfl) | (rw [if_neg (by decide +kernel)]; exact ⟨rfl, rfl⟩))
    (fun os started H enc _ => lifted os started H enc)

/-- THE STATEMENT -/
theorem proved : Rows.FnExactNewReplicaSaid := over
#print axioms proved
end Go.Proofs.Ythnoeknalpnadaa.fnExactNewReplica
