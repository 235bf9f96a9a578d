/- What is proved: at every group size the function NoneAttr of the program answers as its model does, both results, in memory of its own. Conditions: none. -/
import Derived.Test.YtfadmcgaojnghaaRows
import Derived.Test.YtfadmcgaojnghaaNone
import Derived.WalkKit
import Derived.ProofKit
import Derived.OpenShut
import Derived.ShutString
import Derived.ChangeOld
import Derived.Below
namespace Go.Proofs.Ytfadmcgaojnghaa.fnExactNoneAttr
open Go.ChangeShapes Go.WideShapes Go.ChangeAt Go.RowKit
set_option linter.unusedVariables false

theorem own : ownKnob Try.prog.godebug = none := by kernel_rfl
theorem laidOut : laidOutB Try.prog = true := by kernel_rfl

/-! ### The walk: the law's text returns true, and nothing that was there is turned. -/
set_option maxHeartbeats 4000000 in
theorem walk (a0 : Int) (w : World) (w0 : wf64 a0) :
    Calls Try.prog 4 #[.int .i64 a0] w fun e w' => e = .returned (.bool true) ∧ Ext w w' := by
  clear w0
  obtain ⟨A, hA⟩ : ∃ A, A = noneL a0 := ⟨_, rfl⟩
  obtain ⟨b, hb⟩ : ∃ b, b = isGrp a0 := ⟨_, rfl⟩
  have hAl : A.length ≤ 5 := by rw [hA]; exact noneL_len _
  have cS : ∀ W, Calls Try.prog 13 #[.int .i64 a0] W (TwoAttr 0 A b W) := fun W => by rw [hA, hb]; exact specNone_any _ _
  have cI : ∀ W, Calls Try.prog 14 #[.int .i64 a0] W (TwoAttr 0 A b W) := fun W => by rw [hA, hb]; exact implNone_any _ _
  have CS := Lib.hid cS
  have CI := Lib.hid cI
  have HAL := Lib.hid hAl
  have nb : (b != b) = false := by simp
  clear cS cI hA hb hAl
  go_enter Try.func4, Try.ntmps4
  go_wp2_with fail
  refine (CS.out _).mono ?_
  rintro e W1 ⟨v1, rfl, f1, x1⟩
  obtain ⟨a1, k1, rfl⟩ := f1.form
  have b1 := attrAt_new W1 27 0 (.slice a1 A.length k1)
  have F1 := Lib.hid f1
  have hsz : w.heap.size ≤ W1.heap.size := x1.size
  clear f1
  go_wp2_with fail
  refine (CI.out _).mono ?_
  rintro e W2 ⟨v2, rfl, f2, x2⟩
  obtain ⟨a2, k2, rfl⟩ := f2.form
  have z1 : (W1.alloc (.cells #[.int .i64 0, .slice a1 A.length k1] 27)).heap.size = W1.heap.size + 1 := by simp
  have xx : Ext W1 W2 := (Ext.alloc (Ext.refl _) _).trans x2
  have b1 := b1.ext x2
  rw [z1] at f2
  have F2 := Lib.hid f2
  have b2 := attrAt_new W2 27 0 (.slice a2 A.length k2)
  have b1' := b1.ext (Ext.alloc (Ext.refl W2) (.cells #[.int .i64 0, .slice a2 A.length k2] 27))
  have q1 : W1.heap.size < W2.heap.size := World.block_lt_of_cell? W2 _ b1.1
  have q2 : W1.heap.size ≠ W2.heap.size := by omega
  have S2 := Lib.hid (F1.out.ext (xx.trans (Ext.alloc (Ext.refl W2) (.cells #[.int .i64 0, .slice a2 A.length k2] 27))))
  have G2 := Lib.hid (F2.out.ext (Ext.alloc (Ext.refl W2) (.cells #[.int .i64 0, .slice a2 A.length k2] 27)))
  have X2 := Lib.hid ((x1.trans xx).trans (Ext.alloc (Ext.refl W2) (.cells #[.int .i64 0, .slice a2 A.length k2] 27)))
  have B1 := Lib.hid b1'
  have B2 := Lib.hid b2
  have ap := F1.out.apart' F2.out (by omega)
  have AP := Lib.hid ap
  obtain ⟨c0, c1⟩ := b1
  clear f2 x1 x2 xx z1 b1' b2 ap
  go_wp2_with fail
  refine (eqAttr_same _ _ _ A _ G2.out.ints S2.out.ints).mono ?_
  rintro e W3 ⟨rfl, x3⟩
  have S3 := Lib.hid (S2.out.ext x3)
  have G3 := Lib.hid (G2.out.ext x3)
  have X3 := Lib.hid (X2.out.trans x3)
  have B13 := Lib.hid (B1.out.ext x3)
  have B23 := Lib.hid (B2.out.ext x3)
  clear c0 c1 x3
  obtain ⟨c0, c1⟩ := B13.out
  obtain ⟨d0, d1⟩ := B23.out
  go_wp2_with fail
  refine (markAttr_any _ _ _ A 1 _ G3.out (by omega) (by have := HAL.out; omega)).mono ?_
  rintro e W4 ⟨rfl, f4, t4⟩
  have hm0 : (0 : Int) ≤ 1 + (A.length : Int) := by omega
  have hm1 : (A.length : Int) ≤ 5 := by have := HAL.out; omega
  have c0 := cell_marked F2.out t4 c0 (.inl (by omega))
  have c1 := cell_marked F2.out t4 c1 (.inl (by omega))
  have d0 := cell_marked F2.out t4 d0 (.inr (Nat.le_refl _))
  have d1 := cell_marked F2.out t4 d1 (.inr (Nat.le_refl _))
  have S4 := Lib.hid (S3.out.touch t4 AP.out)
  have X4 := Lib.hid (X3.out.touch (G3.out.more (by omega)) t4)
  have F4 := Lib.hid f4
  clear f4 t4
  go_wp2_with fail
  refine (heldAttr_yes _ _ _ _ _ F4.out.ints (by omega) (by omega)).mono ?_
  rintro e W5 ⟨rfl, x5⟩
  have c0 := x5.cell c0
  have c1 := x5.cell c1
  have d0 := x5.cell d0
  have d1 := x5.cell d1
  have n1 : ((1 + (A.length : Int)) != 1 + (A.length : Int)) = false := by simp
  go_wp2_with fail
  refine (CI.out _).mono ?_
  rintro e W6 ⟨v6, rfl, f6, x6⟩
  obtain ⟨a6, k6, rfl⟩ := f6.form
  have b6 := attrAt_new W6 27 0 (.slice a6 A.length k6)
  have c0 := x6.cell c0
  have c1 := x6.cell c1
  have d0 := x6.cell d0
  have d1 := x6.cell d1
  have q3 : W1.heap.size < W6.heap.size := World.block_lt_of_cell? W6 _ c0
  have q4 : W1.heap.size ≠ W6.heap.size := by omega
  have q5 : W2.heap.size < W6.heap.size := World.block_lt_of_cell? W6 _ d0
  have q6 : W2.heap.size ≠ W6.heap.size := by omega
  have xx := (x5.trans x6).trans (Ext.alloc (Ext.refl W6) (.cells #[.int .i64 0, .slice a6 A.length k6] 27))
  have S6 := Lib.hid (S4.out.ext xx)
  have G6 := Lib.hid (F4.out.ext xx)
  have X6 := Lib.hid (X4.out.trans xx)
  have H6 := Lib.hid (f6.ext (Ext.alloc (Ext.refl W6) (.cells #[.int .i64 0, .slice a6 A.length k6] 27)))
  have D := Lib.hid (And.intro ((Ext.alloc (Ext.refl W6) (.cells #[.int .i64 0, .slice a6 A.length k6] 27)).cell d0) ((Ext.alloc (Ext.refl W6) (.cells #[.int .i64 0, .slice a6 A.length k6] 27)).cell d1))
  clear x5 x6 f6 xx
  go_wp2_with fail
  refine (eqAttr_same _ _ _ A _ H6.out.ints S6.out.ints).mono ?_
  rintro e W7 ⟨rfl, x7⟩
  have d0' := x7.cell D.out.1
  have d1' := x7.cell D.out.2
  have G7 := Lib.hid (G6.out.ext x7)
  have X7 := Lib.hid (X6.out.trans x7)
  clear x7 c0 c1 d0 d1 b6
  go_wp2_with fail
  refine (heldAttr_yes _ _ _ _ _ G7.out.ints (by omega) (by omega)).mono ?_
  rintro e W8 ⟨rfl, x8⟩
  have X8 := Lib.hid (X7.out.trans x8)
  clear x8 d0' d1'
  go_wp2
  go_ret
  exact ⟨rfl, X8.out⟩

/-! ### The frame -/
set_option maxRecDepth 100000 in
theorem lifted (os : Os) (started : os.Started) (H : Type) (enc : TypeId × Value → H) :
    ReturnsInHanded {} Try.checked os 4 .any (Rows.fnExactNoneAttrSpec.pre6 enc Try.prog Try.f4 Rows.fnExactNoneAttrRow.domain false) (Rows.fnExactNoneAttrSpec.post enc Try.prog Try.f4 false true false false) := by
  refine returnsInHanded_of_change (C := Try.checked) own started (by kernel_rfl) Try.func4
    (ChangeSpec.witness6 (enc := enc) (C := Try.checked) false ⟨#[], #[.int .i64 0], []⟩ 8 (by kernel_rfl) (by kernel_rfl) (by kernel_rfl) (by kernel_rfl)) ?_
  intro W base args ds gs before hval0 hW hcnd _
  have hval : ∀ (j : Nat) t v, Try.f4.params[j]? = some t → args[j]? = some v → Value.okWide Try.prog W .any base t v := hval0
  have hW' := hW
  obtain ⟨p, q, hA0, hV, rfl, hfz, hnd⟩ := hW
  have hA : DataW.TrodAll enc Try.prog W 0 (fun _ => true) true Try.f4.params.toList args.toList ds p := hA0
  rw [Try.params4] at hA hval
  obtain ⟨v0, vs0, d0, ds0, p0, q0, hargs, rfl, rfl, h0, r0⟩ := trodAll_cons hA
  obtain ⟨rfl, rfl, rfl⟩ := trodAll_nil r0
  obtain rfl : args = #[v0] := by cases args; simp_all
  obtain ⟨rfl, rfl⟩ := trodVars_none hV
  have k0 := h0
  have lt0 : ∀ x ∈ p0, x.block < W.heap.size := by obtain ⟨m, hm⟩ := k0; exact DataW.trod_lt m _ _ _ hm
  obtain ⟨a0, rfl, _, _, w0⟩ := open_int Try.underlying3 (hval 0 3 v0 rfl rfl) h0
  clear hA0 hval0
  refine (walk a0 W w0).mono fun e W' ⟨he, bel⟩ => ?_
  subst he
  exact ⟨_, rfl, _, _, _, [], _, [], hW', trodAll_mk1 (shut_bool Try.underlying4 _), (trodAll_cons_mk (Below.trod laidOut (by kernel_rfl) (of_decide_eq_true (by kernel_rfl)) k0 bel lt0) trodAll_mk0), rfl, bel.frame _, fun h => by cases h⟩

theorem over : Rows.fnExactNoneAttrRow.holds Try.pinned (OpenSpec.ofChange Rows.fnExactNoneAttrSpec) :=
  OpenClaim.holds_of_wide 4 Try.f4 rfl rfl rfl rfl rfl rfl rfl ⟨rfl, rfl, rfl, rfl, rfl⟩ rfl rfl rfl rfl rfl (by kernel_rfl) Try.func4 (by kernel_rfl)
    (of_decide_eq_true (by kernel_rfl)) (by unfold Func.isWrapper; first | (rw [if_pos (by decide +kernel)]; kernel_rfl) | (rw [if_neg (by decide +kernel)]; exact ⟨rfl, rfl⟩))
    (fun os started H enc _ => lifted os started H enc)

/-- THE STATEMENT -/
theorem proved : Rows.FnExactNoneAttrSaid := over
#print axioms proved
end Go.Proofs.Ytfadmcgaojnghaa.fnExactNoneAttr
