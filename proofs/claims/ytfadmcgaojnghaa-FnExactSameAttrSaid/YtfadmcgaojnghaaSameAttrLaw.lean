/- What is proved: at every two attributes the function SameAttr of the program answers as its model does, and writes into no argument. Conditions: none. -/
import Derived.Test.YtfadmcgaojnghaaRows
import Derived.Test.YtfadmcgaojnghaaSame2
import Derived.Test.YtfadmcgaojnghaaFrameAttr
import Derived.WalkKit
import Derived.ProofKit
import Derived.OpenShut
import Derived.ShutString
import Derived.ChangeOld
import Derived.Below
namespace Go.Proofs.Ytfadmcgaojnghaa.fnExactSameAttr
open Go.ChangeShapes Go.WideShapes Go.ChangeAt Go.RowKit
set_option linter.unusedVariables false

theorem own : ownKnob Try.prog.godebug = none := by kernel_rfl
theorem laidOut : laidOutB Try.prog = true := by kernel_rfl

/-! ### The walk: the law's text returns true, and nothing that was there is turned. -/
set_option maxHeartbeats 4000000 in
theorem walk (s0 : Int) (u0 : Value) (l0 : List Int) (s1 : Int) (u1 : Value) (l1 : List Int) (w : World) (w0 : wf64 s0 ∧ Ints w u0 l0 ∧ ∀ x ∈ l0, wf64 x) (w1 : wf64 s1 ∧ Ints w u1 l1 ∧ ∀ x ∈ l1, wf64 x) :
    Calls Try.prog 6 #[.agg #[.int .i64 s0, u0], .agg #[.int .i64 s1, u1]] w fun e w' => e = .returned (.bool true) ∧ Ext w w' := by
  obtain ⟨_, hA, _⟩ := w0
  obtain ⟨_, hB, _⟩ := w1
  have xb : Ext w ((w.alloc (.cells #[.int .i64 s0, u0] 24)).alloc (.cells #[.int .i64 s1, u1] 24)) := Ext.alloc2 _ _ _
  have bb := box2 w s0 s1 u0 u1 24
  obtain ⟨wb, hwb⟩ : ∃ wb, wb = (w.alloc (.cells #[.int .i64 s0, u0] 24)).alloc (.cells #[.int .i64 s1, u1] 24) := ⟨_, rfl⟩
  rw [← hwb] at xb bb
  have hA := hA.ext xb
  have hB := hB.ext xb
  obtain ⟨⟨c0, c1⟩, d0, d1⟩ := bb
  have HW := Lib.hid hwb
  have HX := Lib.hid xb
  clear hwb xb
  by_cases h1 : (1048576 : Int) < l0.length
  · have L1 := Lib.hid (lessened_no h1)
    clear h1
    go_enter Try.func6, Try.ntmps6
    go_wp2_with fail
    rw [← HW.out]
    refine (szAttr_any _ _ _ _ _ hA (by omega) (by omega)).mono ?_
    rintro e W1 ⟨rfl, x1⟩
    rw [L1.out]
    have y1 := HX.out.trans x1
    clear x1 c0 c1 d0 d1
    go_wp2
    go_ret
    exact ⟨rfl, y1⟩
  · obtain ⟨r, hr⟩ : ∃ r, r = (1048576 : Int) - l0.length := ⟨_, rfl⟩
    have hr0 : 0 ≤ r := by omega
    have hr1 : r ≤ 1048576 := by omega
    have hl0 : l0.length ≤ 1048576 := by omega
    have L1 : Hid (lessened 1048576 l0.length = r) := Lib.hid (by rw [hr]; exact lessened_yes (by omega))
    have HL0 := Lib.hid hl0
    clear h1 hr hl0
    by_cases h2 : r < l1.length
    · have L2 := Lib.hid (lessened_no h2)
      clear h2
      go_enter Try.func6, Try.ntmps6
      go_wp2_with fail
      rw [← HW.out]
      refine (szAttr_any _ _ _ _ _ hA (by omega) (by omega)).mono ?_
      rintro e W1 ⟨rfl, x1⟩
      rw [L1.out]
      have d0' := x1.cell d0
      have d1' := x1.cell d1
      clear c0 c1 d0 d1
      go_wp2_with fail
      refine (szAttr_any _ _ _ _ _ (hB.ext x1) hr0 (by omega)).mono ?_
      rintro e W2 ⟨rfl, x2⟩
      rw [L2.out]
      have y2 := (HX.out.trans x1).trans x2
      clear x1 x2 d0' d1'
      go_wp2
      go_ret
      exact ⟨rfl, y2⟩
    · obtain ⟨q, hq⟩ : ∃ q, q = r - (l1.length : Int) := ⟨_, rfl⟩
      have hq0 : 0 ≤ q := by omega
      have hl1 : l1.length ≤ 1048576 := by omega
      have L2 : Hid (lessened r l1.length = q) := Lib.hid (by rw [hq]; exact lessened_yes (by omega))
      have HL1 := Lib.hid hl1
      clear h2 hq hl1
      obtain ⟨g, hg⟩ : ∃ g, g = sameA s0 s1 l0 l1 := ⟨_, rfl⟩
      have cS : ∀ u v W, Ints W u l0 → Ints W v l1 → Calls Try.prog 19 #[.agg #[.int .i64 s0, u], .agg #[.int .i64 s1, v]] W (BoolExt g W) := fun u v W h h' => by rw [hg]; exact specSame_any _ _ _ _ _ _ _ h h'
      have cI : ∀ u v W, Ints W u l0 → Ints W v l1 → Calls Try.prog 20 #[.agg #[.int .i64 s0, u], .agg #[.int .i64 s1, v]] W (BoolExt g W) := fun u v W h h' => by rw [hg]; exact implSame_any _ _ _ _ _ _ _ h h' (by have := HL0.out; omega)
      have tA : ∀ W, Ints W u0 l0 → Calls Try.prog 10 #[.agg #[.int .i64 s0, u0]] W (NewAttr s0 l0 W) := fun W h => toAttr_any _ _ _ _ h (by have := HL0.out; omega)
      have tB : ∀ W, Ints W u1 l1 → Calls Try.prog 10 #[.agg #[.int .i64 s1, u1]] W (NewAttr s1 l1 W) := fun W h => toAttr_any _ _ _ _ h (by have := HL1.out; omega)
      have CS := Lib.hid cS
      have CI := Lib.hid cI
      have TA := Lib.hid tA
      have TB := Lib.hid tB
      clear cS cI tA tB hg
      have ng : (g != g) = false := by simp
      go_enter Try.func6, Try.ntmps6
      go_wp2_with fail
      rw [← HW.out]
      refine (szAttr_any _ _ _ _ _ hA (by omega) (by omega)).mono ?_
      rintro e W1 ⟨rfl, x1⟩
      rw [L1.out]
      have c0 := x1.cell c0
      have c1 := x1.cell c1
      have d0 := x1.cell d0
      have d1 := x1.cell d1
      go_wp2_with fail
      refine (szAttr_any _ _ _ _ _ (hB.ext x1) hr0 (by omega)).mono ?_
      rintro e W2 ⟨rfl, x2⟩
      rw [L2.out]
      have c0 := x2.cell c0
      have c1 := x2.cell c1
      have d0 := x2.cell d0
      have d1 := x2.cell d1
      have A2 := Lib.hid ((hA.ext x1).ext x2)
      have B2 := Lib.hid ((hB.ext x1).ext x2)
      have X2 := Lib.hid ((HX.out.trans x1).trans x2)
      clear x1 x2 hA hB
      go_wp2
      go_region_held3 (fun W => Ext W2 W ∧ W.cell? ⟨w.heap.size, 0, none⟩ = some (.int .i64 s0) ∧ W.cell? ⟨w.heap.size, 1, none⟩ = some u0 ∧ W.cell? ⟨w.heap.size + 1, 0, none⟩ = some (.int .i64 s1) ∧ W.cell? ⟨w.heap.size + 1, 1, none⟩ = some u1) (first | (exact keep4 (by assumption) (by assumption)) | (exact ⟨Ext.drew (Ext.refl _), c0, c1, d0, d1⟩)) (first | (go_at_call_of 10 (Value.agg #[Value.int IntKind.i64 s0, u0]); refine (TA.out _ (A2.out.ext (And.left (by assumption)))).mono ?_; rintro e W3 ⟨u3, rfl, f3, x3⟩) | (go_at_call_of 10 (Value.agg #[Value.int IntKind.i64 s1, u1]); refine (TB.out _ (B2.out.ext (And.left (by assumption)))).mono ?_; rintro e W4 ⟨u4, rfl, f4, x4⟩) | (go_at_call 19; refine (CS.out _ _ _ ((Fresh.ints f3).ext (by assumption)) (Fresh.ints f4)).mono ?_; rintro e W5 ⟨rfl, x5⟩))
      rename_i hH
      obtain ⟨e5, c0, c1, d0, d1⟩ := hH
      have A5 := Lib.hid (A2.out.ext e5)
      have B5 := Lib.hid (B2.out.ext e5)
      have X5 := Lib.hid (X2.out.trans e5)
      have q1 : w.heap.size < W5.heap.size := World.block_lt_of_cell? W5 _ c0
      have q2 : w.heap.size + 1 < W5.heap.size := World.block_lt_of_cell? W5 _ d0
      clear x3 x4 x5 f3 f4 e5
      go_wp2_with fail
      refine (TA.out _ A5.out).mono ?_
      rintro e W6 ⟨u6, rfl, f6, x6⟩
      obtain ⟨a6, k6, rfl⟩ := f6.form
      have b6 := attrAt_new W6 27 s0 (.slice a6 l0.length k6)
      have d0 := x6.cell d0
      have d1 := x6.cell d1
      have c0 := x6.cell c0
      have c1 := x6.cell c1
      have F6 := Lib.hid f6
      have X6 := Lib.hid (X5.out.trans x6)
      have B6 := Lib.hid (B5.out.ext x6)
      have A6 := Lib.hid (A5.out.ext x6)
      have q3 : w.heap.size < W6.heap.size := World.block_lt_of_cell? W6 _ c0
      have q4 : w.heap.size + 1 < W6.heap.size := World.block_lt_of_cell? W6 _ d0
      have q5 : w.heap.size ≠ W6.heap.size := by omega
      have q6 : w.heap.size + 1 ≠ W6.heap.size := by omega
      clear f6 x6
      go_wp2_with fail
      refine (TB.out _ (B6.out.ext (Ext.alloc (Ext.refl _) _))).mono ?_
      rintro e W8 ⟨u8, rfl, f8, x8⟩
      obtain ⟨a8, k8, rfl⟩ := f8.form
      have xx := (Ext.alloc (Ext.refl W6) _).trans x8
      have m0 := (b6.ext x8).1
      have m1 := (b6.ext x8).2
      have c0 := xx.cell c0
      have c1 := xx.cell c1
      have d0 := xx.cell d0
      have d1 := xx.cell d1
      have F8 := Lib.hid f8
      have X8 := Lib.hid (X6.out.trans xx)
      have I6 := Lib.hid (F6.out.ints.ext xx)
      have A8 := Lib.hid (A6.out.ext xx)
      have B8 := Lib.hid (B6.out.ext xx)
      have q7 : W6.heap.size < W8.heap.size := World.block_lt_of_cell? W8 _ m0
      have q8 : W6.heap.size ≠ W8.heap.size := by omega
      have b8 := attrAt_new W8 27 s1 (.slice a8 l1.length k8)
      clear f8 x8 xx b6
      go_wp2_with fail
      refine (CI.out _ _ _ (I6.out.ext (Ext.alloc (Ext.refl _) _)) (F8.out.ints.ext (Ext.alloc (Ext.refl _) _))).mono ?_
      rintro e W9 ⟨rfl, x9⟩
      have xx := (Ext.alloc (Ext.refl W8) _).trans x9
      have m0 := xx.cell m0
      have m1 := xx.cell m1
      have c0 := xx.cell c0
      have c1 := xx.cell c1
      have d0 := xx.cell d0
      have d1 := xx.cell d1
      have n0 := (b8.ext x9).1
      have n1 := (b8.ext x9).2
      have A9 := Lib.hid (A8.out.ext xx)
      have B9 := Lib.hid (B8.out.ext xx)
      have I9 := Lib.hid (I6.out.ext xx)
      have J9 := Lib.hid (F8.out.ints.ext xx)
      have X9 := Lib.hid (X8.out.trans xx)
      clear x9 xx b8 q1 q2 q3 q4 q5 q6 q7 q8
      go_wp2
      go_region_held3 (fun W => Ext W9 W ∧ W.cell? ⟨w.heap.size, 0, none⟩ = some (.int .i64 s0) ∧ W.cell? ⟨w.heap.size, 1, none⟩ = some u0 ∧ W.cell? ⟨W6.heap.size, 0, none⟩ = some (.int .i64 s0) ∧ W.cell? ⟨W6.heap.size, 1, none⟩ = some (.slice a6 l0.length k6)) (first | (exact keep4 (by assumption) (by assumption)) | (exact ⟨Ext.drew (Ext.refl _), c0, c1, m0, m1⟩)) (first | (go_at_call 10; refine (TA.out _ (A9.out.ext (And.left (by assumption)))).mono ?_; rintro e W10 ⟨u10, rfl, f10, x10⟩) | (go_at_call 12; refine (eqAttr_same _ _ _ l0 _ (I9.out.ext (And.left (by assumption))) (Fresh.ints f10)).mono ?_; rintro e W11 ⟨rfl, x11⟩))
      rename_i hH
      obtain ⟨e11, -, -, -, -⟩ := hH
      have B11 := Lib.hid (B9.out.ext e11)
      have J11 := Lib.hid (J9.out.ext e11)
      have X11 := Lib.hid (X9.out.trans e11)
      have d0 := e11.cell d0
      have d1 := e11.cell d1
      have n0 := e11.cell n0
      have n1 := e11.cell n1
      clear x10 x11 f10 e11 c0 c1 m0 m1
      go_wp2
      go_region_held3 (fun W => Ext W11 W ∧ W.cell? ⟨w.heap.size + 1, 0, none⟩ = some (.int .i64 s1) ∧ W.cell? ⟨w.heap.size + 1, 1, none⟩ = some u1 ∧ W.cell? ⟨W8.heap.size, 0, none⟩ = some (.int .i64 s1) ∧ W.cell? ⟨W8.heap.size, 1, none⟩ = some (.slice a8 l1.length k8)) (first | (exact keep4 (by assumption) (by assumption)) | (exact ⟨Ext.drew (Ext.refl _), d0, d1, n0, n1⟩)) (first | (go_at_call 10; refine (TB.out _ (B11.out.ext (And.left (by assumption)))).mono ?_; rintro e W12 ⟨u12, rfl, f12, x12⟩) | (go_at_call 12; refine (eqAttr_same _ _ _ l1 _ (J11.out.ext (And.left (by assumption))) (Fresh.ints f12)).mono ?_; rintro e W13 ⟨rfl, x13⟩))
      rename_i hH
      have hx : Ext w W13 := X11.out.trans hH.1
      clear hH x12 x13 f12 d0 d1 n0 n1
      go_wp2
      go_ret
      exact ⟨rfl, hx⟩

/-! ### The frame -/
set_option maxRecDepth 100000 in
theorem lifted (os : Os) (started : os.Started) (H : Type) (enc : TypeId × Value → H) :
    ReturnsInHanded {} Try.checked os 6 .any (Rows.fnExactSameAttrSpec.pre6 enc Try.prog Try.f6 Rows.fnExactSameAttrRow.domain false) (Rows.fnExactSameAttrSpec.post enc Try.prog Try.f6 false true false false) := by
  refine returnsInHanded_of_change (C := Try.checked) own started (by kernel_rfl) Try.func6
    (ChangeSpec.witness6 (enc := enc) (C := Try.checked) false ⟨#[], #[.agg #[.int .i64 0, .slice none 0 0], .agg #[.int .i64 0, .slice none 0 0]], []⟩ 8 (by kernel_rfl) (by kernel_rfl) (by kernel_rfl) (by kernel_rfl)) ?_
  intro W base args ds gs before hval0 hW hcnd _
  have hval : ∀ (j : Nat) t v, Try.f6.params[j]? = some t → args[j]? = some v → Value.okWide Try.prog W .any base t v := hval0
  have hW' := hW
  obtain ⟨p, q, hA0, hV, rfl, hfz, hnd⟩ := hW
  have hA : DataW.TrodAll enc Try.prog W 0 (fun _ => true) true Try.f6.params.toList args.toList ds p := hA0
  rw [Try.params6] at hA hval
  obtain ⟨v0, vs0, d0, ds0, p0, q0, hargs, rfl, rfl, h0, r0⟩ := trodAll_cons hA
  obtain ⟨v1, vs1, d1, ds1, p1, q1, rfl, rfl, rfl, h1, r1⟩ := trodAll_cons r0
  obtain ⟨rfl, rfl, rfl⟩ := trodAll_nil r1
  obtain rfl : args = #[v0, v1] := by cases args; simp_all
  obtain ⟨rfl, rfl⟩ := trodVars_none hV
  have k0 := h0
  have lt0 : ∀ x ∈ p0, x.block < W.heap.size := by obtain ⟨m, hm⟩ := k0; exact DataW.trod_lt m _ _ _ hm
  obtain ⟨s0, u0, l0, rfl, w0⟩ := open_attr (hval 0 24 v0 rfl rfl) h0
  have k1 := h1
  have lt1 : ∀ x ∈ p1, x.block < W.heap.size := by obtain ⟨m, hm⟩ := k1; exact DataW.trod_lt m _ _ _ hm
  obtain ⟨s1, u1, l1, rfl, w1⟩ := open_attr (hval 1 24 v1 rfl rfl) h1
  clear hA0 hval0
  refine (walk s0 u0 l0 s1 u1 l1 W w0 w1).mono fun e W' ⟨he, bel⟩ => ?_
  subst he
  exact ⟨_, rfl, _, _, _, [], _, [], hW', trodAll_mk1 (shut_bool Try.underlying4 _), (trodAll_cons_mk (Below.trod laidOut (by kernel_rfl) (of_decide_eq_true (by kernel_rfl)) k0 bel lt0) (trodAll_cons_mk (Below.trod laidOut (by kernel_rfl) (of_decide_eq_true (by kernel_rfl)) k1 bel lt1) trodAll_mk0)), rfl, bel.frame _, fun h => by cases h⟩

theorem over : Rows.fnExactSameAttrRow.holds Try.pinned (OpenSpec.ofChange Rows.fnExactSameAttrSpec) :=
  OpenClaim.holds_of_wide 6 Try.f6 rfl rfl rfl rfl rfl rfl rfl ⟨rfl, rfl, rfl, rfl, rfl⟩ rfl rfl rfl rfl rfl (by kernel_rfl) Try.func6 (by kernel_rfl)
    (of_decide_eq_true (by kernel_rfl)) (by unfold Func.isWrapper; first | (rw [if_pos (by decide +kernel)]; kernel_rfl) | (rw [if_neg (by decide +kernel)]; exact ⟨rfl, rfl⟩))
    (fun os started H enc _ => lifted os started H enc)

/-- THE STATEMENT -/
theorem proved : Rows.FnExactSameAttrSaid := over
#print axioms proved
end Go.Proofs.Ytfadmcgaojnghaa.fnExactSameAttr
