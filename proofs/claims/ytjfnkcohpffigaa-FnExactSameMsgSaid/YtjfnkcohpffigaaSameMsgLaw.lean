/- What is proved: at every two messages the function SameMsg of the program answers as its model does, and writes into no argument. Conditions: none. -/
import Derived.Test.YtjfnkcohpffigaaRows
import Derived.Test.YtjfnkcohpffigaaSpecSameMsg
import Derived.Test.YtjfnkcohpffigaaImplSameMsg
import Derived.Test.YtjfnkcohpffigaaToMsg
import Derived.Test.YtjfnkcohpffigaaEqMsg
import Derived.Test.YtjfnkcohpffigaaSzMsg
import Derived.Test.YtjfnkcohpffigaaLiveMsg
import Derived.Test.YtjfnkcohpffigaaFrameMsg
import Derived.Deep.DeepCutAuto
import Derived.WalkKit
import Derived.ProofKit
import Derived.OpenShut
import Derived.ShutString
import Derived.ChangeOld
import Derived.Below
namespace Go.Proofs.Ytjfnkcohpffigaa.fnExactSameMsg
open Go.ChangeShapes Go.WideShapes Go.ChangeAt Go.RowKit
set_option linter.unusedVariables false

theorem own : ownKnob Try.prog.godebug = none := by kernel_rfl
theorem laidOut : laidOutB Try.prog = true := by kernel_rfl

/-! ### The walk: the law's text returns true, and nothing that was there is turned. -/
set_option maxHeartbeats 8000000 in
set_option maxRecDepth 100000 in
theorem walk (r0 : MsgD) (u0 : Value) (r1 : MsgD) (u1 : Value) (w : World) (w0 : Ints w u0 r0.l) (w1 : Ints w u1 r1.l) :
    Calls Try.prog 7 #[.agg #[.int .i64 r0.kd, .int .i64 r0.fr, .int .i64 r0.tt, .int .i64 r0.rp, .int .i64 r0.no, .int .i64 r0.b, .int .i64 r0.v, .int .i64 r0.st, .int .i64 r0.k, .int .i64 r0.i, .int .i64 r0.f, .int .i64 r0.t, .int .i64 r0.a, .int .i64 r0.s, u0], .agg #[.int .i64 r1.kd, .int .i64 r1.fr, .int .i64 r1.tt, .int .i64 r1.rp, .int .i64 r1.no, .int .i64 r1.b, .int .i64 r1.v, .int .i64 r1.st, .int .i64 r1.k, .int .i64 r1.i, .int .i64 r1.f, .int .i64 r1.t, .int .i64 r1.a, .int .i64 r1.s, u1]] w fun e w' => e = .returned (.bool true) ∧ Ext w w' := by
  have h2 := two_msgs w 50 50 r0 r1 u0 u1
  obtain ⟨wb, hwb⟩ : ∃ wb, wb = (w.alloc (.cells #[.int .i64 r0.kd, .int .i64 r0.fr, .int .i64 r0.tt, .int .i64 r0.rp, .int .i64 r0.no, .int .i64 r0.b, .int .i64 r0.v, .int .i64 r0.st, .int .i64 r0.k, .int .i64 r0.i, .int .i64 r0.f, .int .i64 r0.t, .int .i64 r0.a, .int .i64 r0.s, u0] 50)).alloc (.cells #[.int .i64 r1.kd, .int .i64 r1.fr, .int .i64 r1.tt, .int .i64 r1.rp, .int .i64 r1.no, .int .i64 r1.b, .int .i64 r1.v, .int .i64 r1.st, .int .i64 r1.k, .int .i64 r1.i, .int .i64 r1.f, .int .i64 r1.t, .int .i64 r1.a, .int .i64 r1.s, u1] 50) := ⟨_, rfl⟩
  have xb : Ext w wb := by rw [hwb]; exact Ext.alloc2 _ _ _
  rw [← hwb] at h2
  have hA := w0.ext xb
  have hB := w1.ext xb
  have HW := Lib.hid hwb
  have HX := Lib.hid xb
  have H2 := Lib.hid h2
  clear hwb xb h2 w0 w1
  by_cases h1 : (1048576 : Int) < r0.l.length
  · have L1 := Lib.hid (lessened_no h1)
    clear h1
    go_enter Try.func7, Try.ntmps7
    go_wp2_with fail
    rw [← HW.out]
    refine (szMsg_any r0 _ _ _ hA (by omega) (by omega)).mono ?_
    rintro e W1 ⟨rfl, x1⟩
    rw [L1.out]
    have y1 := HX.out.trans x1
    clear x1
    go_wp2
    go_ret
    exact ⟨rfl, y1⟩
  · obtain ⟨r, hr⟩ : ∃ r, r = (1048576 : Int) - r0.l.length := ⟨_, rfl⟩
    have hr0 : 0 ≤ r := by omega
    have hr1 : r ≤ 1048576 := by omega
    have hl0 : r0.l.length ≤ 1048576 := by omega
    have L1 : Hid (lessened 1048576 r0.l.length = r) := Lib.hid (by rw [hr]; exact lessened_yes (by omega))
    have HL0 := Lib.hid hl0
    clear h1 hr hl0
    by_cases h2 : r < r1.l.length
    · have L2 := Lib.hid (lessened_no h2)
      clear h2
      go_enter Try.func7, Try.ntmps7
      go_wp2_with fail
      rw [← HW.out]
      refine (szMsg_any r0 _ _ _ hA (by omega) (by omega)).mono ?_
      rintro e W1 ⟨rfl, x1⟩
      rw [L1.out]
      obtain ⟨d0, d1, d2, d3, d4, d5, d6, d7, d8, d9, d10, d11, d12, d13, d14⟩ := H2.out.2.ext x1
      go_wp2_with fail
      refine (szMsg_any r1 _ _ _ (hB.ext x1) hr0 (by omega)).mono ?_
      rintro e W2 ⟨rfl, x2⟩
      rw [L2.out]
      have y2 := (HX.out.trans x1).trans x2
      clear x1 x2 d0 d1 d2 d3 d4 d5 d6 d7 d8 d9 d10 d11 d12 d13 d14
      go_wp2
      go_ret
      exact ⟨rfl, y2⟩
    · obtain ⟨q, hq⟩ : ∃ q, q = r - (r1.l.length : Int) := ⟨_, rfl⟩
      have hq0 : 0 ≤ q := by omega
      have hl1 : r1.l.length ≤ 1048576 := by omega
      have L2 : Hid (lessened r r1.l.length = q) := Lib.hid (by rw [hq]; exact lessened_yes (by omega))
      have HL1 := Lib.hid hl1
      clear h2 hq hl1
      obtain ⟨g, hg⟩ : ∃ g, g = sameM r0 r1 := ⟨_, rfl⟩
      have cS : ∀ u v W, Ints W u r0.l → Ints W v r1.l → Calls Try.prog 28 #[.agg #[.int .i64 r0.kd, .int .i64 r0.fr, .int .i64 r0.tt, .int .i64 r0.rp, .int .i64 r0.no, .int .i64 r0.b, .int .i64 r0.v, .int .i64 r0.st, .int .i64 r0.k, .int .i64 r0.i, .int .i64 r0.f, .int .i64 r0.t, .int .i64 r0.a, .int .i64 r0.s, u], .agg #[.int .i64 r1.kd, .int .i64 r1.fr, .int .i64 r1.tt, .int .i64 r1.rp, .int .i64 r1.no, .int .i64 r1.b, .int .i64 r1.v, .int .i64 r1.st, .int .i64 r1.k, .int .i64 r1.i, .int .i64 r1.f, .int .i64 r1.t, .int .i64 r1.a, .int .i64 r1.s, v]] W (BoolExt g W) := fun u v W h h' => by rw [hg]; exact specSameMsg_any _ _ _ _ _ h h'
      have cI : ∀ u v W, Ints W u r0.l → Ints W v r1.l → Calls Try.prog 29 #[.agg #[.int .i64 r0.kd, .int .i64 r0.fr, .int .i64 r0.tt, .int .i64 r0.rp, .int .i64 r0.no, .int .i64 r0.b, .int .i64 r0.v, .int .i64 r0.st, .int .i64 r0.k, .int .i64 r0.i, .int .i64 r0.f, .int .i64 r0.t, .int .i64 r0.a, .int .i64 r0.s, u], .agg #[.int .i64 r1.kd, .int .i64 r1.fr, .int .i64 r1.tt, .int .i64 r1.rp, .int .i64 r1.no, .int .i64 r1.b, .int .i64 r1.v, .int .i64 r1.st, .int .i64 r1.k, .int .i64 r1.i, .int .i64 r1.f, .int .i64 r1.t, .int .i64 r1.a, .int .i64 r1.s, v]] W (BoolExt g W) := fun u v W h h' => by rw [hg]; exact implSameMsg_any _ _ _ _ _ h h' (by have := HL0.out; omega)
      have tA : ∀ W, Ints W u0 r0.l → Calls Try.prog 25 #[.agg #[.int .i64 r0.kd, .int .i64 r0.fr, .int .i64 r0.tt, .int .i64 r0.rp, .int .i64 r0.no, .int .i64 r0.b, .int .i64 r0.v, .int .i64 r0.st, .int .i64 r0.k, .int .i64 r0.i, .int .i64 r0.f, .int .i64 r0.t, .int .i64 r0.a, .int .i64 r0.s, u0]] W (NewMsg r0 W) := fun W h => toMsg_any _ _ _ h (by have := HL0.out; omega)
      have tB : ∀ W, Ints W u1 r1.l → Calls Try.prog 25 #[.agg #[.int .i64 r1.kd, .int .i64 r1.fr, .int .i64 r1.tt, .int .i64 r1.rp, .int .i64 r1.no, .int .i64 r1.b, .int .i64 r1.v, .int .i64 r1.st, .int .i64 r1.k, .int .i64 r1.i, .int .i64 r1.f, .int .i64 r1.t, .int .i64 r1.a, .int .i64 r1.s, u1]] W (NewMsg r1 W) := fun W h => toMsg_any _ _ _ h (by have := HL1.out; omega)
      have CS := Lib.hid cS
      have CI := Lib.hid cI
      have TA := Lib.hid tA
      have TB := Lib.hid tB
      clear cS cI tA tB hg
      have ng : (g != g) = false := by simp
      go_enter Try.func7, Try.ntmps7
      go_wp2_with fail
      rw [← HW.out]
      refine (szMsg_any r0 _ _ _ hA (by omega) (by omega)).mono ?_
      rintro e W1 ⟨rfl, x1⟩
      rw [L1.out]
      obtain ⟨d0, d1, d2, d3, d4, d5, d6, d7, d8, d9, d10, d11, d12, d13, d14⟩ := H2.out.2.ext x1
      go_wp2_with fail
      refine (szMsg_any r1 _ _ _ (hB.ext x1) hr0 (by omega)).mono ?_
      rintro e W2 ⟨rfl, x2⟩
      rw [L2.out]
      have A2 := Lib.hid ((hA.ext x1).ext x2)
      have B2 := Lib.hid ((hB.ext x1).ext x2)
      have X2 := Lib.hid ((HX.out.trans x1).trans x2)
      have M2 := Lib.hid (And.intro (H2.out.1.ext (x1.trans x2)) (H2.out.2.ext (x1.trans x2)))
      clear x1 x2 hA hB H2 d0 d1 d2 d3 d4 d5 d6 d7 d8 d9 d10 d11 d12 d13 d14
      go_wp2
      go_region_held3 (fun W => Ext W2 W ∧ (W.cell? ⟨w.heap.size, 0, none⟩ = some (.int .i64 r0.kd) ∧ W.cell? ⟨w.heap.size, 1, none⟩ = some (.int .i64 r0.fr) ∧ W.cell? ⟨w.heap.size, 2, none⟩ = some (.int .i64 r0.tt) ∧ W.cell? ⟨w.heap.size, 3, none⟩ = some (.int .i64 r0.rp) ∧ W.cell? ⟨w.heap.size, 4, none⟩ = some (.int .i64 r0.no) ∧ W.cell? ⟨w.heap.size, 5, none⟩ = some (.int .i64 r0.b) ∧ W.cell? ⟨w.heap.size, 6, none⟩ = some (.int .i64 r0.v) ∧ W.cell? ⟨w.heap.size, 7, none⟩ = some (.int .i64 r0.st) ∧ W.cell? ⟨w.heap.size, 8, none⟩ = some (.int .i64 r0.k) ∧ W.cell? ⟨w.heap.size, 9, none⟩ = some (.int .i64 r0.i) ∧ W.cell? ⟨w.heap.size, 10, none⟩ = some (.int .i64 r0.f) ∧ W.cell? ⟨w.heap.size, 11, none⟩ = some (.int .i64 r0.t) ∧ W.cell? ⟨w.heap.size, 12, none⟩ = some (.int .i64 r0.a) ∧ W.cell? ⟨w.heap.size, 13, none⟩ = some (.int .i64 r0.s) ∧ W.cell? ⟨w.heap.size, 14, none⟩ = some u0) ∧ (W.cell? ⟨w.heap.size + 1, 0, none⟩ = some (.int .i64 r1.kd) ∧ W.cell? ⟨w.heap.size + 1, 1, none⟩ = some (.int .i64 r1.fr) ∧ W.cell? ⟨w.heap.size + 1, 2, none⟩ = some (.int .i64 r1.tt) ∧ W.cell? ⟨w.heap.size + 1, 3, none⟩ = some (.int .i64 r1.rp) ∧ W.cell? ⟨w.heap.size + 1, 4, none⟩ = some (.int .i64 r1.no) ∧ W.cell? ⟨w.heap.size + 1, 5, none⟩ = some (.int .i64 r1.b) ∧ W.cell? ⟨w.heap.size + 1, 6, none⟩ = some (.int .i64 r1.v) ∧ W.cell? ⟨w.heap.size + 1, 7, none⟩ = some (.int .i64 r1.st) ∧ W.cell? ⟨w.heap.size + 1, 8, none⟩ = some (.int .i64 r1.k) ∧ W.cell? ⟨w.heap.size + 1, 9, none⟩ = some (.int .i64 r1.i) ∧ W.cell? ⟨w.heap.size + 1, 10, none⟩ = some (.int .i64 r1.f) ∧ W.cell? ⟨w.heap.size + 1, 11, none⟩ = some (.int .i64 r1.t) ∧ W.cell? ⟨w.heap.size + 1, 12, none⟩ = some (.int .i64 r1.a) ∧ W.cell? ⟨w.heap.size + 1, 13, none⟩ = some (.int .i64 r1.s) ∧ W.cell? ⟨w.heap.size + 1, 14, none⟩ = some u1)) (first | (exact stepM (b := w.heap.size) (b' := w.heap.size + 1) (r := r0) (d := r1) (u := u0) (v := u1) (by assumption) (by assumption)) | (exact ⟨Ext.drew (Ext.refl _), M2.out⟩)) (first | (go_at_call_of 25 (Value.agg #[Value.int IntKind.i64 r0.kd, Value.int IntKind.i64 r0.fr, Value.int IntKind.i64 r0.tt, Value.int IntKind.i64 r0.rp, Value.int IntKind.i64 r0.no, Value.int IntKind.i64 r0.b, Value.int IntKind.i64 r0.v, Value.int IntKind.i64 r0.st, Value.int IntKind.i64 r0.k, Value.int IntKind.i64 r0.i, Value.int IntKind.i64 r0.f, Value.int IntKind.i64 r0.t, Value.int IntKind.i64 r0.a, Value.int IntKind.i64 r0.s, u0]); refine (TA.out _ (A2.out.ext (And.left (by assumption)))).mono ?_; rintro e W3 ⟨u3, rfl, f3, x3⟩) | (go_at_call_of 25 (Value.agg #[Value.int IntKind.i64 r1.kd, Value.int IntKind.i64 r1.fr, Value.int IntKind.i64 r1.tt, Value.int IntKind.i64 r1.rp, Value.int IntKind.i64 r1.no, Value.int IntKind.i64 r1.b, Value.int IntKind.i64 r1.v, Value.int IntKind.i64 r1.st, Value.int IntKind.i64 r1.k, Value.int IntKind.i64 r1.i, Value.int IntKind.i64 r1.f, Value.int IntKind.i64 r1.t, Value.int IntKind.i64 r1.a, Value.int IntKind.i64 r1.s, u1]); refine (TB.out _ (B2.out.ext (And.left (by assumption)))).mono ?_; rintro e W4 ⟨u4, rfl, f4, x4⟩) | (go_at_call 28; refine (CS.out _ _ _ ((Fresh.ints f3).ext (by assumption)) (Fresh.ints f4)).mono ?_; rintro e W5 ⟨rfl, x5⟩))
      as_aux_lemma =>
        rename_i hH
        have A5 := Lib.hid (A2.out.ext hH.1)
        have B5 := Lib.hid (B2.out.ext hH.1)
        have X5 := Lib.hid (X2.out.trans hH.1)
        have M5 := Lib.hid (show MsgAt W5 w.heap.size r0 u0 ∧ MsgAt W5 (w.heap.size + 1) r1 u1 from hH.2)
        clear x3 x4 x5 f3 f4 hH
        obtain ⟨c0, c1, c2, c3, c4, c5, c6, c7, c8, c9, c10, c11, c12, c13, c14⟩ := M5.out.1
        go_wp2_with fail
        refine (TA.out _ A5.out).mono ?_
        rintro e W6 ⟨u6, rfl, f6, x6⟩
        obtain ⟨a6, k6, rfl⟩ := f6.form
        have F6 := Lib.hid f6
        have X6 := Lib.hid (X5.out.trans x6)
        have B6 := Lib.hid (B5.out.ext x6)
        have A6 := Lib.hid (A5.out.ext x6)
        have M6 := Lib.hid (And.intro (M5.out.1.ext x6) (M5.out.2.ext x6))
        have N6 := Lib.hid (msgAt_new W6 56 r0 (.slice a6 r0.l.length k6))
        clear f6 x6 M5 c0 c1 c2 c3 c4 c5 c6 c7 c8 c9 c10 c11 c12 c13 c14
        obtain ⟨w6, hw6⟩ : ∃ w6, w6 = W6.alloc (.cells #[.int .i64 r0.kd, .int .i64 r0.fr, .int .i64 r0.tt, .int .i64 r0.rp, .int .i64 r0.no, .int .i64 r0.b, .int .i64 r0.v, .int .i64 r0.st, .int .i64 r0.k, .int .i64 r0.i, .int .i64 r0.f, .int .i64 r0.t, .int .i64 r0.a, .int .i64 r0.s, (.slice a6 r0.l.length k6)] 56) := ⟨_, rfl⟩
        have x66 : Ext W6 w6 := by rw [hw6]; exact Ext.alloc1 _ _
        have n6 := N6.out
        rw [← hw6] at n6
        have HW6 := Lib.hid hw6
        have X66 := Lib.hid x66
        have N66 := Lib.hid n6
        obtain ⟨d0, d1, d2, d3, d4, d5, d6, d7, d8, d9, d10, d11, d12, d13, d14⟩ := M6.out.2
        have q3 : w.heap.size < W6.heap.size := M6.out.1.lt
        have q4 : w.heap.size + 1 < W6.heap.size := M6.out.2.lt
        have q5 : w.heap.size ≠ W6.heap.size := by omega
        have q6 : w.heap.size + 1 ≠ W6.heap.size := by omega
        clear hw6 x66 n6 N6
        go_wp2_with fail
        rw [← HW6.out]
        refine (TB.out _ (B6.out.ext X66.out)).mono ?_
        rintro e W8 ⟨u8, rfl, f8, x8⟩
        obtain ⟨a8, k8, rfl⟩ := f8.form
        have xx := X66.out.trans x8
        have F8 := Lib.hid f8
        have X8 := Lib.hid (X6.out.trans xx)
        have I6 := Lib.hid (F6.out.ints.ext xx)
        have A8 := Lib.hid (A6.out.ext xx)
        have B8 := Lib.hid (B6.out.ext xx)
        have M8 := Lib.hid (And.intro (M6.out.1.ext xx) (M6.out.2.ext xx))
        have N8 := Lib.hid (N66.out.ext x8)
        have N8b := Lib.hid (msgAt_new W8 56 r1 (.slice a8 r1.l.length k8))
        clear f8 x8 xx X66 HW6 N66 M6 F6 d0 d1 d2 d3 d4 d5 d6 d7 d8 d9 d10 d11 d12 d13 d14
        obtain ⟨w8, hw8⟩ : ∃ w8, w8 = W8.alloc (.cells #[.int .i64 r1.kd, .int .i64 r1.fr, .int .i64 r1.tt, .int .i64 r1.rp, .int .i64 r1.no, .int .i64 r1.b, .int .i64 r1.v, .int .i64 r1.st, .int .i64 r1.k, .int .i64 r1.i, .int .i64 r1.f, .int .i64 r1.t, .int .i64 r1.a, .int .i64 r1.s, (.slice a8 r1.l.length k8)] 56) := ⟨_, rfl⟩
        have x88 : Ext W8 w8 := by rw [hw8]; exact Ext.alloc1 _ _
        have n8 := N8b.out
        rw [← hw8] at n8
        have HW8 := Lib.hid hw8
        have X88 := Lib.hid x88
        have N88 := Lib.hid n8
        as_aux_lemma =>
          obtain ⟨m0, m1, m2, m3, m4, m5, m6, m7, m8, m9, m10, m11, m12, m13, m14⟩ := N8.out
          have q7 : W6.heap.size < W8.heap.size := N8.out.lt
          have q8 : W6.heap.size ≠ W8.heap.size := by omega
          clear hw8 x88 N8b n8 q3 q4 q5 q6
          go_wp2_with fail
          rw [← HW8.out]
          refine (CI.out _ _ _ (I6.out.ext X88.out) (F8.out.ints.ext X88.out)).mono ?_
          rintro e W9 ⟨rfl, x9⟩
          have xx := X88.out.trans x9
          have A9 := Lib.hid (A8.out.ext xx)
          have B9 := Lib.hid (B8.out.ext xx)
          have I9 := Lib.hid (I6.out.ext xx)
          have J9 := Lib.hid (F8.out.ints.ext xx)
          have X9 := Lib.hid (X8.out.trans xx)
          have M9 := Lib.hid (And.intro (M8.out.1.ext xx) (M8.out.2.ext xx))
          have N9 := Lib.hid (N8.out.ext xx)
          have P9 := Lib.hid (N88.out.ext x9)
          have K9 := Lib.hid (And.intro M9.out.1 N9.out)
          clear x9 xx X88 HW8 N88 N8 M8 q7 q8 m0 m1 m2 m3 m4 m5 m6 m7 m8 m9 m10 m11 m12 m13 m14
          as_aux_lemma =>
            go_wp2
            go_region_held3 (fun W => Ext W9 W ∧ (W.cell? ⟨w.heap.size, 0, none⟩ = some (.int .i64 r0.kd) ∧ W.cell? ⟨w.heap.size, 1, none⟩ = some (.int .i64 r0.fr) ∧ W.cell? ⟨w.heap.size, 2, none⟩ = some (.int .i64 r0.tt) ∧ W.cell? ⟨w.heap.size, 3, none⟩ = some (.int .i64 r0.rp) ∧ W.cell? ⟨w.heap.size, 4, none⟩ = some (.int .i64 r0.no) ∧ W.cell? ⟨w.heap.size, 5, none⟩ = some (.int .i64 r0.b) ∧ W.cell? ⟨w.heap.size, 6, none⟩ = some (.int .i64 r0.v) ∧ W.cell? ⟨w.heap.size, 7, none⟩ = some (.int .i64 r0.st) ∧ W.cell? ⟨w.heap.size, 8, none⟩ = some (.int .i64 r0.k) ∧ W.cell? ⟨w.heap.size, 9, none⟩ = some (.int .i64 r0.i) ∧ W.cell? ⟨w.heap.size, 10, none⟩ = some (.int .i64 r0.f) ∧ W.cell? ⟨w.heap.size, 11, none⟩ = some (.int .i64 r0.t) ∧ W.cell? ⟨w.heap.size, 12, none⟩ = some (.int .i64 r0.a) ∧ W.cell? ⟨w.heap.size, 13, none⟩ = some (.int .i64 r0.s) ∧ W.cell? ⟨w.heap.size, 14, none⟩ = some u0) ∧ (W.cell? ⟨W6.heap.size, 0, none⟩ = some (.int .i64 r0.kd) ∧ W.cell? ⟨W6.heap.size, 1, none⟩ = some (.int .i64 r0.fr) ∧ W.cell? ⟨W6.heap.size, 2, none⟩ = some (.int .i64 r0.tt) ∧ W.cell? ⟨W6.heap.size, 3, none⟩ = some (.int .i64 r0.rp) ∧ W.cell? ⟨W6.heap.size, 4, none⟩ = some (.int .i64 r0.no) ∧ W.cell? ⟨W6.heap.size, 5, none⟩ = some (.int .i64 r0.b) ∧ W.cell? ⟨W6.heap.size, 6, none⟩ = some (.int .i64 r0.v) ∧ W.cell? ⟨W6.heap.size, 7, none⟩ = some (.int .i64 r0.st) ∧ W.cell? ⟨W6.heap.size, 8, none⟩ = some (.int .i64 r0.k) ∧ W.cell? ⟨W6.heap.size, 9, none⟩ = some (.int .i64 r0.i) ∧ W.cell? ⟨W6.heap.size, 10, none⟩ = some (.int .i64 r0.f) ∧ W.cell? ⟨W6.heap.size, 11, none⟩ = some (.int .i64 r0.t) ∧ W.cell? ⟨W6.heap.size, 12, none⟩ = some (.int .i64 r0.a) ∧ W.cell? ⟨W6.heap.size, 13, none⟩ = some (.int .i64 r0.s) ∧ W.cell? ⟨W6.heap.size, 14, none⟩ = some (.slice a6 r0.l.length k6))) (first | (exact stepM (b := w.heap.size) (b' := W6.heap.size) (r := r0) (d := r0) (u := u0) (v := (.slice a6 r0.l.length k6)) (by assumption) (by assumption)) | (exact ⟨Ext.drew (Ext.refl _), K9.out⟩)) (first | (go_at_call 25; refine (TA.out _ (A9.out.ext (And.left (by assumption)))).mono ?_; rintro e W10 ⟨u10, rfl, f10, x10⟩) | (go_at_call 27; refine (eqMsg_same r0 _ _ _ (I9.out.ext (And.left (by assumption))) (Fresh.ints f10)).mono ?_; rintro e W11 ⟨rfl, x11⟩))
            rename_i hH
            have B11 := Lib.hid (B9.out.ext hH.1)
            have J11 := Lib.hid (J9.out.ext hH.1)
            have X11 := Lib.hid (X9.out.trans hH.1)
            have K11 := Lib.hid (And.intro (M9.out.2.ext hH.1) (P9.out.ext hH.1))
            clear x10 x11 f10 hH K9 M9 N9 P9
            as_aux_lemma =>
              go_wp2
              go_region_held3 (fun W => Ext W11 W ∧ (W.cell? ⟨w.heap.size + 1, 0, none⟩ = some (.int .i64 r1.kd) ∧ W.cell? ⟨w.heap.size + 1, 1, none⟩ = some (.int .i64 r1.fr) ∧ W.cell? ⟨w.heap.size + 1, 2, none⟩ = some (.int .i64 r1.tt) ∧ W.cell? ⟨w.heap.size + 1, 3, none⟩ = some (.int .i64 r1.rp) ∧ W.cell? ⟨w.heap.size + 1, 4, none⟩ = some (.int .i64 r1.no) ∧ W.cell? ⟨w.heap.size + 1, 5, none⟩ = some (.int .i64 r1.b) ∧ W.cell? ⟨w.heap.size + 1, 6, none⟩ = some (.int .i64 r1.v) ∧ W.cell? ⟨w.heap.size + 1, 7, none⟩ = some (.int .i64 r1.st) ∧ W.cell? ⟨w.heap.size + 1, 8, none⟩ = some (.int .i64 r1.k) ∧ W.cell? ⟨w.heap.size + 1, 9, none⟩ = some (.int .i64 r1.i) ∧ W.cell? ⟨w.heap.size + 1, 10, none⟩ = some (.int .i64 r1.f) ∧ W.cell? ⟨w.heap.size + 1, 11, none⟩ = some (.int .i64 r1.t) ∧ W.cell? ⟨w.heap.size + 1, 12, none⟩ = some (.int .i64 r1.a) ∧ W.cell? ⟨w.heap.size + 1, 13, none⟩ = some (.int .i64 r1.s) ∧ W.cell? ⟨w.heap.size + 1, 14, none⟩ = some u1) ∧ (W.cell? ⟨W8.heap.size, 0, none⟩ = some (.int .i64 r1.kd) ∧ W.cell? ⟨W8.heap.size, 1, none⟩ = some (.int .i64 r1.fr) ∧ W.cell? ⟨W8.heap.size, 2, none⟩ = some (.int .i64 r1.tt) ∧ W.cell? ⟨W8.heap.size, 3, none⟩ = some (.int .i64 r1.rp) ∧ W.cell? ⟨W8.heap.size, 4, none⟩ = some (.int .i64 r1.no) ∧ W.cell? ⟨W8.heap.size, 5, none⟩ = some (.int .i64 r1.b) ∧ W.cell? ⟨W8.heap.size, 6, none⟩ = some (.int .i64 r1.v) ∧ W.cell? ⟨W8.heap.size, 7, none⟩ = some (.int .i64 r1.st) ∧ W.cell? ⟨W8.heap.size, 8, none⟩ = some (.int .i64 r1.k) ∧ W.cell? ⟨W8.heap.size, 9, none⟩ = some (.int .i64 r1.i) ∧ W.cell? ⟨W8.heap.size, 10, none⟩ = some (.int .i64 r1.f) ∧ W.cell? ⟨W8.heap.size, 11, none⟩ = some (.int .i64 r1.t) ∧ W.cell? ⟨W8.heap.size, 12, none⟩ = some (.int .i64 r1.a) ∧ W.cell? ⟨W8.heap.size, 13, none⟩ = some (.int .i64 r1.s) ∧ W.cell? ⟨W8.heap.size, 14, none⟩ = some (.slice a8 r1.l.length k8))) (first | (exact stepM (b := w.heap.size + 1) (b' := W8.heap.size) (r := r1) (d := r1) (u := u1) (v := (.slice a8 r1.l.length k8)) (by assumption) (by assumption)) | (exact ⟨Ext.drew (Ext.refl _), K11.out⟩)) (first | (go_at_call 25; refine (TB.out _ (B11.out.ext (And.left (by assumption)))).mono ?_; rintro e W12 ⟨u12, rfl, f12, x12⟩) | (go_at_call 27; refine (eqMsg_same r1 _ _ _ (J11.out.ext (And.left (by assumption))) (Fresh.ints f12)).mono ?_; rintro e W13 ⟨rfl, x13⟩))
              rename_i hH
              have hx : Ext w W13 := X11.out.trans hH.1
              clear hH x12 x13 f12 K11
              go_wp2
              go_ret
              exact ⟨rfl, hx⟩

/-! ### The frame -/
set_option maxRecDepth 100000 in
theorem lifted (os : Os) (started : os.Started) (H : Type) (enc : TypeId × Value → H) :
    ReturnsInHanded {} Try.checked os 7 .any (Rows.fnExactSameMsgSpec.pre6 enc Try.prog Try.f7 Rows.fnExactSameMsgRow.domain false) (Rows.fnExactSameMsgSpec.post enc Try.prog Try.f7 false true false false) := by
  refine returnsInHanded_of_change (C := Try.checked) own started (by kernel_rfl) Try.func7
    (ChangeSpec.witness6 (enc := enc) (C := Try.checked) false ⟨#[], #[.agg #[.int .i64 0, .int .i64 0, .int .i64 0, .int .i64 0, .int .i64 0, .int .i64 0, .int .i64 0, .int .i64 0, .int .i64 0, .int .i64 0, .int .i64 0, .int .i64 0, .int .i64 0, .int .i64 0, .slice none 0 0], .agg #[.int .i64 0, .int .i64 0, .int .i64 0, .int .i64 0, .int .i64 0, .int .i64 0, .int .i64 0, .int .i64 0, .int .i64 0, .int .i64 0, .int .i64 0, .int .i64 0, .int .i64 0, .int .i64 0, .slice none 0 0]], []⟩ 8 (by kernel_rfl) (by kernel_rfl) (by kernel_rfl) (by kernel_rfl)) ?_
  intro W base args ds gs before hval0 hW hcnd _
  have hval : ∀ (j : Nat) t v, Try.f7.params[j]? = some t → args[j]? = some v → Value.okWide Try.prog W .any base t v := hval0
  have hW' := hW
  obtain ⟨p, q, hA0, hV, rfl, hfz, hnd⟩ := hW
  have hA : DataW.TrodAll enc Try.prog W 0 (fun _ => true) true Try.f7.params.toList args.toList ds p := hA0
  rw [Try.params7] at hA hval
  obtain ⟨v0, vs0, d0, ds0, p0, q0, hargs, rfl, rfl, h0, r0⟩ := trodAll_cons hA
  obtain ⟨v1, vs1, d1, ds1, p1, q1, rfl, rfl, rfl, h1, r1⟩ := trodAll_cons r0
  obtain ⟨rfl, rfl, rfl⟩ := trodAll_nil r1
  obtain rfl : args = #[v0, v1] := by cases args; simp_all
  obtain ⟨rfl, rfl⟩ := trodVars_none hV
  have k0 := h0
  have lt0 : ∀ x ∈ p0, x.block < W.heap.size := by obtain ⟨m, hm⟩ := k0; exact DataW.trod_lt m _ _ _ hm
  obtain ⟨g0, u0, rfl, w0⟩ := open_msg (hval 0 50 v0 rfl rfl) h0
  have k1 := h1
  have lt1 : ∀ x ∈ p1, x.block < W.heap.size := by obtain ⟨m, hm⟩ := k1; exact DataW.trod_lt m _ _ _ hm
  obtain ⟨g1, u1, rfl, w1⟩ := open_msg (hval 1 50 v1 rfl rfl) h1
  clear hA0 hval0
  refine (walk g0 u0 g1 u1 W w0 w1).mono fun e W' ⟨he, bel⟩ => ?_
  subst he
  exact ⟨_, rfl, _, _, _, [], _, [], hW', trodAll_mk1 (shut_bool Try.underlying4 _), (trodAll_cons_mk (Below.trod laidOut (by kernel_rfl) (of_decide_eq_true (by kernel_rfl)) k0 bel lt0) (trodAll_cons_mk (Below.trod laidOut (by kernel_rfl) (of_decide_eq_true (by kernel_rfl)) k1 bel lt1) trodAll_mk0)), rfl, bel.frame _, fun h => by cases h⟩

theorem over : Rows.fnExactSameMsgRow.holds Try.pinned (OpenSpec.ofChange Rows.fnExactSameMsgSpec) :=
  OpenClaim.holds_of_wide 7 Try.f7 rfl rfl rfl rfl rfl rfl rfl ⟨rfl, rfl, rfl, rfl, rfl⟩ rfl rfl rfl rfl rfl (by kernel_rfl) Try.func7 (by kernel_rfl)
    (of_decide_eq_true (by kernel_rfl)) (by unfold Func.isWrapper; first | (rw [if_pos (by decide +kernel)]; kernel_rfl) | (rw [if_neg (by decide +kernel)]; exact ⟨rfl, rfl⟩))
    (fun os started H enc _ => lifted os started H enc)

/-- THE STATEMENT -/
theorem proved : Rows.FnExactSameMsgSaid := over
#print axioms proved
end Go.Proofs.Ytjfnkcohpffigaa.fnExactSameMsg
