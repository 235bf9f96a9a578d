/- What is proved: at every number and every message the function GoodMsg of the program answers as its model does, and writes into no argument. Conditions: none. -/
import Derived.Test.YthnoeknalpnadaaRows
import Derived.Test.YthnoeknalpnadaaGoodMsgAny
import Derived.Test.YthnoeknalpnadaaToMsg
import Derived.Test.YthnoeknalpnadaaEqMsg
import Derived.Test.YthnoeknalpnadaaSzMsg
import Derived.Test.YthnoeknalpnadaaLiveMsg
import Derived.Test.YthnoeknalpnadaaFrameMsg
import Derived.Deep.DeepCutAuto
import Derived.WalkKit
import Derived.ProofKit
import Derived.OpenShut
import Derived.ShutString
import Derived.ChangeOld
import Derived.Below
namespace Go.Proofs.Ythnoeknalpnadaa.fnExactGoodMsg
open Go.ChangeShapes Go.WideShapes Go.ChangeAt Go.RowKit
set_option linter.unusedVariables false

theorem own : ownKnob Try.prog.godebug = none := by kernel_rfl
theorem laidOut : laidOutB Try.prog = true := by kernel_rfl

/-! ### The walk: the law's text returns true, and nothing that was there is turned. -/
set_option maxHeartbeats 8000000 in
set_option maxRecDepth 100000 in
theorem walk (n : Int) (r0 : MsgD) (u0 : Value) (w : World) (wn : wf64 n) (w0 : Ints w u0 r0.l) :
    Calls Try.prog 14 #[.int .i64 n, .agg #[.int .i64 r0.kd, .int .i64 r0.fr, .int .i64 r0.tt, .int .i64 r0.rp, .int .i64 r0.no, .int .i64 r0.b, .int .i64 r0.v, .int .i64 r0.st, .int .i64 r0.k, .int .i64 r0.i, .int .i64 r0.f, .int .i64 r0.t, .int .i64 r0.a, .int .i64 r0.s, u0]] w fun e w' => e = .returned (.bool true) ∧ Ext w w' := by
  have h2 := msgAt_new w 106 r0 u0
  obtain ⟨wb, hwb⟩ : ∃ wb, wb = w.alloc (.cells #[.int .i64 r0.kd, .int .i64 r0.fr, .int .i64 r0.tt, .int .i64 r0.rp, .int .i64 r0.no, .int .i64 r0.b, .int .i64 r0.v, .int .i64 r0.st, .int .i64 r0.k, .int .i64 r0.i, .int .i64 r0.f, .int .i64 r0.t, .int .i64 r0.a, .int .i64 r0.s, u0] 106) := ⟨_, rfl⟩
  have xb : Ext w wb := by rw [hwb]; exact Ext.alloc1 _ _
  rw [← hwb] at h2
  have hA := w0.ext xb
  have HW := Lib.hid hwb
  have HX := Lib.hid xb
  have H2 := Lib.hid h2
  clear hwb xb h2 w0
  by_cases h1 : (1048576 : Int) < r0.l.length
  · have L1 := Lib.hid (lessened_no h1)
    clear h1
    go_enter Try.func14, Try.ntmps14
    go_wp2_with fail
    rw [← HW.out]
    refine (szMsg_any r0 _ _ _ hA (by omega) (by omega)).mono ?_
    rintro e W1 ⟨rfl, x1⟩
    rw [L1.out]
    have y1 := HX.out.trans x1
    clear x1
    go_wp2
    go_ret
    exact ⟨rfl, y1⟩
  · obtain ⟨r, hr⟩ : ∃ r, r = (1048576 : Int) - r0.l.length := ⟨_, rfl⟩
    have hr0 : 0 ≤ r := by omega
    have hl0 : r0.l.length ≤ 1048576 := by omega
    have L1 : Hid (lessened 1048576 r0.l.length = r) := Lib.hid (by rw [hr]; exact lessened_yes (by omega))
    have HL0 := Lib.hid hl0
    clear h1 hr hl0
    obtain ⟨g, hg⟩ : ∃ g, g = goodM n r0 := ⟨_, rfl⟩
    have cS : ∀ u W, Ints W u r0.l → Calls Try.prog 71 #[.int .i64 n, .agg #[.int .i64 r0.kd, .int .i64 r0.fr, .int .i64 r0.tt, .int .i64 r0.rp, .int .i64 r0.no, .int .i64 r0.b, .int .i64 r0.v, .int .i64 r0.st, .int .i64 r0.k, .int .i64 r0.i, .int .i64 r0.f, .int .i64 r0.t, .int .i64 r0.a, .int .i64 r0.s, u]] W (BoolExt g W) := fun u W h => by rw [hg]; exact specGoodMsg_any _ _ _ _ h
    have cI : ∀ u W, Ints W u r0.l → Calls Try.prog 73 #[.int .i64 n, .agg #[.int .i64 r0.kd, .int .i64 r0.fr, .int .i64 r0.tt, .int .i64 r0.rp, .int .i64 r0.no, .int .i64 r0.b, .int .i64 r0.v, .int .i64 r0.st, .int .i64 r0.k, .int .i64 r0.i, .int .i64 r0.f, .int .i64 r0.t, .int .i64 r0.a, .int .i64 r0.s, u]] W (BoolExt g W) := fun u W h => by rw [hg]; exact implGoodMsg_any _ _ _ _ h (by have := HL0.out; omega)
    have tA : ∀ W, Ints W u0 r0.l → Calls Try.prog 72 #[.agg #[.int .i64 r0.kd, .int .i64 r0.fr, .int .i64 r0.tt, .int .i64 r0.rp, .int .i64 r0.no, .int .i64 r0.b, .int .i64 r0.v, .int .i64 r0.st, .int .i64 r0.k, .int .i64 r0.i, .int .i64 r0.f, .int .i64 r0.t, .int .i64 r0.a, .int .i64 r0.s, u0]] W (NewMsg r0 W) := fun W h => toMsg_any _ _ _ h (by have := HL0.out; omega)
    have CS := Lib.hid cS
    have CI := Lib.hid cI
    have TA := Lib.hid tA
    clear cS cI tA hg
    have ng : (g != g) = false := by simp
    go_enter Try.func14, Try.ntmps14
    go_wp2_with fail
    rw [← HW.out]
    refine (szMsg_any r0 _ _ _ hA (by omega) (by omega)).mono ?_
    rintro e W1 ⟨rfl, x1⟩
    rw [L1.out]
    obtain ⟨c0, c1, c2, c3, c4, c5, c6, c7, c8, c9, c10, c11, c12, c13, c14⟩ := H2.out.ext x1
    go_wp2_with fail
    refine (TA.out _ (hA.ext x1)).mono ?_
    rintro e W2 ⟨u2, rfl, f2, x2⟩
    clear c0 c1 c2 c3 c4 c5 c6 c7 c8 c9 c10 c11 c12 c13 c14
    go_wp2_with fail
    refine (CS.out _ _ f2.ints).mono ?_
    rintro e W5 ⟨rfl, x5⟩
    have A5 := Lib.hid (hA.ext ((x1.trans x2).trans x5))
    have X5 := Lib.hid (HX.out.trans ((x1.trans x2).trans x5))
    have M5 := Lib.hid (H2.out.ext ((x1.trans x2).trans x5))
    clear x1 x2 x5 f2 hA H2
    obtain ⟨c0, c1, c2, c3, c4, c5, c6, c7, c8, c9, c10, c11, c12, c13, c14⟩ := M5.out
    go_wp2_with fail
    refine (TA.out _ A5.out).mono ?_
    rintro e W6 ⟨u6, rfl, f6, x6⟩
    obtain ⟨a6, k6, rfl⟩ := f6.form
    have F6 := Lib.hid f6
    have X6 := Lib.hid (X5.out.trans x6)
    have A6 := Lib.hid (A5.out.ext x6)
    have M6 := Lib.hid (M5.out.ext x6)
    have N6 := Lib.hid (msgAt_new W6 110 r0 (.slice a6 r0.l.length k6))
    clear f6 x6 M5 c0 c1 c2 c3 c4 c5 c6 c7 c8 c9 c10 c11 c12 c13 c14
    obtain ⟨w6, hw6⟩ : ∃ w6, w6 = W6.alloc (.cells #[.int .i64 r0.kd, .int .i64 r0.fr, .int .i64 r0.tt, .int .i64 r0.rp, .int .i64 r0.no, .int .i64 r0.b, .int .i64 r0.v, .int .i64 r0.st, .int .i64 r0.k, .int .i64 r0.i, .int .i64 r0.f, .int .i64 r0.t, .int .i64 r0.a, .int .i64 r0.s, (.slice a6 r0.l.length k6)] 110) := ⟨_, rfl⟩
    have x66 : Ext W6 w6 := by rw [hw6]; exact Ext.alloc1 _ _
    have n6 := N6.out
    rw [← hw6] at n6
    have HW6 := Lib.hid hw6
    have X66 := Lib.hid x66
    have N66 := Lib.hid n6
    clear hw6 x66 n6 N6
    as_aux_lemma =>
      go_wp2_with fail
      rw [← HW6.out]
      refine (CI.out _ _ (F6.out.ints.ext X66.out)).mono ?_
      rintro e W9 ⟨rfl, x9⟩
      have xx := X66.out.trans x9
      have A9 := Lib.hid (A6.out.ext xx)
      have I9 := Lib.hid (F6.out.ints.ext xx)
      have X9 := Lib.hid (X6.out.trans xx)
      have K9 := Lib.hid (And.intro (M6.out.ext xx) (N66.out.ext x9))
      clear x9 xx X66 HW6 N66 M6 F6
      as_aux_lemma =>
        go_wp2
        go_region_held3 (fun W => Ext W9 W ∧ (W.cell? ⟨w.heap.size, 0, none⟩ = some (.int .i64 r0.kd) ∧ W.cell? ⟨w.heap.size, 1, none⟩ = some (.int .i64 r0.fr) ∧ W.cell? ⟨w.heap.size, 2, none⟩ = some (.int .i64 r0.tt) ∧ W.cell? ⟨w.heap.size, 3, none⟩ = some (.int .i64 r0.rp) ∧ W.cell? ⟨w.heap.size, 4, none⟩ = some (.int .i64 r0.no) ∧ W.cell? ⟨w.heap.size, 5, none⟩ = some (.int .i64 r0.b) ∧ W.cell? ⟨w.heap.size, 6, none⟩ = some (.int .i64 r0.v) ∧ W.cell? ⟨w.heap.size, 7, none⟩ = some (.int .i64 r0.st) ∧ W.cell? ⟨w.heap.size, 8, none⟩ = some (.int .i64 r0.k) ∧ W.cell? ⟨w.heap.size, 9, none⟩ = some (.int .i64 r0.i) ∧ W.cell? ⟨w.heap.size, 10, none⟩ = some (.int .i64 r0.f) ∧ W.cell? ⟨w.heap.size, 11, none⟩ = some (.int .i64 r0.t) ∧ W.cell? ⟨w.heap.size, 12, none⟩ = some (.int .i64 r0.a) ∧ W.cell? ⟨w.heap.size, 13, none⟩ = some (.int .i64 r0.s) ∧ W.cell? ⟨w.heap.size, 14, none⟩ = some u0) ∧ (W.cell? ⟨W6.heap.size, 0, none⟩ = some (.int .i64 r0.kd) ∧ W.cell? ⟨W6.heap.size, 1, none⟩ = some (.int .i64 r0.fr) ∧ W.cell? ⟨W6.heap.size, 2, none⟩ = some (.int .i64 r0.tt) ∧ W.cell? ⟨W6.heap.size, 3, none⟩ = some (.int .i64 r0.rp) ∧ W.cell? ⟨W6.heap.size, 4, none⟩ = some (.int .i64 r0.no) ∧ W.cell? ⟨W6.heap.size, 5, none⟩ = some (.int .i64 r0.b) ∧ W.cell? ⟨W6.heap.size, 6, none⟩ = some (.int .i64 r0.v) ∧ W.cell? ⟨W6.heap.size, 7, none⟩ = some (.int .i64 r0.st) ∧ W.cell? ⟨W6.heap.size, 8, none⟩ = some (.int .i64 r0.k) ∧ W.cell? ⟨W6.heap.size, 9, none⟩ = some (.int .i64 r0.i) ∧ W.cell? ⟨W6.heap.size, 10, none⟩ = some (.int .i64 r0.f) ∧ W.cell? ⟨W6.heap.size, 11, none⟩ = some (.int .i64 r0.t) ∧ W.cell? ⟨W6.heap.size, 12, none⟩ = some (.int .i64 r0.a) ∧ W.cell? ⟨W6.heap.size, 13, none⟩ = some (.int .i64 r0.s) ∧ W.cell? ⟨W6.heap.size, 14, none⟩ = some (.slice a6 r0.l.length k6))) (first | (exact stepM (b := w.heap.size) (b' := W6.heap.size) (r := r0) (d := r0) (u := u0) (v := (.slice a6 r0.l.length k6)) (by assumption) (by assumption)) | (exact ⟨Ext.drew (Ext.refl _), K9.out⟩)) (first | (go_at_call 72; refine (TA.out _ (A9.out.ext (And.left (by assumption)))).mono ?_; rintro e W10 ⟨u10, rfl, f10, x10⟩) | (go_at_call 74; refine (eqMsg_same r0 _ _ _ (I9.out.ext (And.left (by assumption))) (Fresh.ints f10)).mono ?_; rintro e W11 ⟨rfl, x11⟩))
        rename_i hH
        have hx : Ext w W11 := X9.out.trans hH.1
        clear hH x10 x11 f10 K9
        go_wp2
        go_ret
        exact ⟨rfl, hx⟩

/-! ### The frame -/
set_option maxRecDepth 100000 in
theorem lifted (os : Os) (started : os.Started) (H : Type) (enc : TypeId × Value → H) :
    ReturnsInHanded {} Try.checked os 14 .any (Rows.fnExactGoodMsgSpec.pre6 enc Try.prog Try.f14 Rows.fnExactGoodMsgRow.domain false) (Rows.fnExactGoodMsgSpec.post enc Try.prog Try.f14 false true false false) := by
  refine returnsInHanded_of_change (C := Try.checked) own started (by kernel_rfl) Try.func14
    (ChangeSpec.witness6 (enc := enc) (C := Try.checked) false ⟨#[], #[.int .i64 0, .agg #[.int .i64 0, .int .i64 0, .int .i64 0, .int .i64 0, .int .i64 0, .int .i64 0, .int .i64 0, .int .i64 0, .int .i64 0, .int .i64 0, .int .i64 0, .int .i64 0, .int .i64 0, .int .i64 0, .slice none 0 0]], []⟩ 8 (by kernel_rfl) (by kernel_rfl) (by kernel_rfl) (by kernel_rfl)) ?_
  intro W base args ds gs before hval0 hW hcnd _
  have hval : ∀ (j : Nat) t v, Try.f14.params[j]? = some t → args[j]? = some v → Value.okWide Try.prog W .any base t v := hval0
  have hW' := hW
  obtain ⟨p, q, hA0, hV, rfl, hfz, hnd⟩ := hW
  have hA : DataW.TrodAll enc Try.prog W 0 (fun _ => true) true Try.f14.params.toList args.toList ds p := hA0
  rw [Try.params14] at hA hval
  obtain ⟨v0, vs0, d0, ds0, p0, q0, hargs, rfl, rfl, h0, r0⟩ := trodAll_cons hA
  obtain ⟨v1, vs1, d1, ds1, p1, q1, rfl, rfl, rfl, h1, r1⟩ := trodAll_cons r0
  obtain ⟨rfl, rfl, rfl⟩ := trodAll_nil r1
  obtain rfl : args = #[v0, v1] := by cases args; simp_all
  obtain ⟨rfl, rfl⟩ := trodVars_none hV
  have k0 := h0
  have lt0 : ∀ x ∈ p0, x.block < W.heap.size := by obtain ⟨m, hm⟩ := k0; exact DataW.trod_lt m _ _ _ hm
  obtain ⟨a0, rfl, _, _, w0⟩ := open_int Try.underlying3 (hval 0 3 v0 rfl rfl) h0
  have k1 := h1
  have lt1 : ∀ x ∈ p1, x.block < W.heap.size := by obtain ⟨m, hm⟩ := k1; exact DataW.trod_lt m _ _ _ hm
  obtain ⟨g1, u1, rfl, w1⟩ := open_msg (hval 1 106 v1 rfl rfl) h1
  clear hA0 hval0
  refine (walk a0 g1 u1 W w0 w1).mono fun e W' ⟨he, bel⟩ => ?_
  subst he
  exact ⟨_, rfl, _, _, _, [], _, [], hW', trodAll_mk1 (shut_bool Try.underlying4 _), (trodAll_cons_mk (Below.trod laidOut (by kernel_rfl) (of_decide_eq_true (by kernel_rfl)) k0 bel lt0) (trodAll_cons_mk (Below.trod laidOut (by kernel_rfl) (of_decide_eq_true (by kernel_rfl)) k1 bel lt1) trodAll_mk0)), rfl, bel.frame _, fun h => by cases h⟩

theorem over : Rows.fnExactGoodMsgRow.holds Try.pinned (OpenSpec.ofChange Rows.fnExactGoodMsgSpec) :=
  OpenClaim.holds_of_wide 14 Try.f14 rfl rfl rfl rfl rfl rfl rfl ⟨rfl, rfl, rfl, rfl, rfl⟩ rfl rfl rfl rfl rfl (by kernel_rfl) Try.func14 (by kernel_rfl)
    (of_decide_eq_true (by kernel_rfl)) (by unfold Func.isWrapper; first | (rw [if_pos (by decide +kernel)]; kernel_rfl) | (rw [if_neg (by decide +kernel)]; exact ⟨rfl, rfl⟩))
    (fun os started H enc _ => lifted os started H enc)

/-- THE STATEMENT -/
theorem proved : Rows.FnExactGoodMsgSaid := over
#print axioms proved
end Go.Proofs.Ythnoeknalpnadaa.fnExactGoodMsg
