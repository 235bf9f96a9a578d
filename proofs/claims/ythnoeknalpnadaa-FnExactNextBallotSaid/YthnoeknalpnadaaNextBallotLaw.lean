/- What is proved: at every table and every three numbers the function NextBallot of the program answers as its model does, and writes into no argument. Conditions: none. -/
import Derived.Test.YthnoeknalpnadaaRows
import Derived.Test.YthnoeknalpnadaaBallot2
import Derived.Test.YthnoeknalpnadaaEqTab
import Derived.Test.YthnoeknalpnadaaSzRowS
import Derived.Test.YthnoeknalpnadaaFrameTab
import Derived.WalkKit
import Derived.ProofKit
import Derived.OpenShut
import Derived.ShutString
import Derived.ChangeOld
import Derived.Below
namespace Go.Proofs.Ythnoeknalpnadaa.fnExactNextBallot
open Go.ChangeShapes Go.WideShapes Go.ChangeAt Go.RowKit
set_option linter.unusedVariables false

theorem own : ownKnob Try.prog.godebug = none := by kernel_rfl
theorem laidOut : laidOutB Try.prog = true := by kernel_rfl

/-! ### The walk: the law's text returns true, and nothing that was there is turned. -/
set_option maxHeartbeats 2000000 in
theorem walk (n : Int) (v1 : Value) (T : List (List RowD)) (rep no me : Int) (w : World) (w1 : wf64 n ∧ Rowzz w v1 T) (w2 : wf64 rep) (w3 : wf64 no) (w4 : wf64 me) :
    Calls Try.prog 10 #[.agg #[.int .i64 n, v1], .int .i64 rep, .int .i64 no, .int .i64 me] w fun e w' => e = .returned (.bool true) ∧ Ext w w' := by
  obtain ⟨_, hA⟩ := w1
  clear w2 w3 w4
  have x0 : Ext w (w.alloc (.cells #[.int .i64 n, v1] 52)) := Ext.alloc (Ext.refl _) _
  have b0 := attrAt_new w 52 n v1
  obtain ⟨wb, hwb⟩ : ∃ wb, wb = w.alloc (.cells #[.int .i64 n, v1] 52) := ⟨_, rfl⟩
  rw [← hwb] at x0 b0
  have HW := Lib.hid hwb
  clear hwb
  have hA := hA.ext x0
  by_cases h1 : (1048576 : Int) < bulkT T
  · have L1 := Lib.hid (lessened_no h1)
    clear h1
    go_enter Try.func10, Try.ntmps10
    obtain ⟨c0, c1⟩ := b0
    go_wp2_with fail
    rw [← HW.out]
    refine (szTable_any _ _ _ _ _ hA (by omega) (by omega)).mono ?_
    rintro e W1 ⟨rfl, x1⟩
    rw [L1.out]
    have y1 := x0.trans x1
    clear x0 x1 c0 c1
    go_wp2
    go_ret
    exact ⟨rfl, y1⟩
  · obtain ⟨r, hr⟩ : ∃ r, r = (1048576 : Int) - bulkT T := ⟨_, rfl⟩
    have hr0 : 0 ≤ r := by omega
    have hl : bulkT T ≤ 1099511627776 := by omega
    have L1 : Hid (lessened 1048576 (bulkT T) = r) := Lib.hid (by rw [hr]; exact lessened_yes (by omega))
    have HL := Lib.hid hl
    clear h1 hr hl
    obtain ⟨g, hg⟩ : ∃ g, g = okB n T rep no me := ⟨_, rfl⟩
    obtain ⟨x, hxv⟩ : ∃ x, x = balR n T rep no me := ⟨_, rfl⟩
    have cS : ∀ u W, Rowzz W u T → Calls Try.prog 55 #[.agg #[.int .i64 n, u], .int .i64 rep, .int .i64 no, .int .i64 me] W (TwoInt x g W) := fun u W h => by rw [hg, hxv]; exact specBallot_any _ _ _ _ _ _ _ h
    have cI : ∀ u W, Rowzz W u T → Calls Try.prog 56 #[.agg #[.int .i64 n, u], .int .i64 rep, .int .i64 no, .int .i64 me] W (TwoInt x g W) := fun u W h => by rw [hg, hxv]; exact implBallot_any _ _ _ _ _ _ _ h HL.out
    have CS := Lib.hid cS
    have CI := Lib.hid cI
    have HB := Lib.hid b0
    clear cS cI hg hxv b0
    go_enter Try.func10, Try.ntmps10
    go_wp2_with fail
    rw [← HW.out]
    refine (szTable_any _ _ _ _ _ hA (by omega) (by omega)).mono ?_
    rintro e W1 ⟨rfl, x1⟩
    rw [L1.out]
    obtain ⟨c0, c1⟩ := HB.out.ext x1
    go_wp2_with fail
    refine (toTable_any _ _ _ _ (hA.ext x1) HL.out).mono ?_
    rintro e W2 ⟨u2, rfl, f2, x2⟩
    clear c0 c1
    go_wp2_with fail
    refine (CS.out _ _ f2.rows).mono ?_
    rintro e W3 ⟨rfl, x3⟩
    have y3 : Ext wb W3 := (x1.trans x2).trans x3
    clear f2 x1 x2 x3
    obtain ⟨c0, c1⟩ := HB.out.ext y3
    go_wp2_with fail
    refine (toTable_any _ _ _ _ (hA.ext y3) HL.out).mono ?_
    rintro e W4 ⟨u4, rfl, f4, x4⟩
    clear c0 c1
    obtain ⟨a4, k4, rfl⟩ := f4.form
    have F4 := Lib.hid f4.rows
    have b4 := attrAt_new W4 24 n (.slice a4 T.length k4)
    go_wp2_with fail
    refine (CI.out _ _ (F4.out.ext (Ext.alloc (Ext.refl _) _))).mono ?_
    rintro e W5 ⟨rfl, x5⟩
    have y5 : Ext wb W5 := ((y3.trans x4).trans (Ext.alloc (Ext.refl _) _)).trans x5
    obtain ⟨c0, c1⟩ := HB.out.ext y5
    obtain ⟨d0, d1⟩ := b4.ext x5
    have i5 : Rowzz W5 (.slice a4 T.length k4) T := (F4.out.ext (Ext.alloc (Ext.refl _) _)).ext x5
    have j5 : Rowzz W5 v1 T := hA.ext y5
    have HI5 := Lib.hid i5
    have HJ5 := Lib.hid j5
    have X5 := Lib.hid (x0.trans y5)
    clear x4 x5 y3 y5 f4 b4 i5 j5 hA x0
    have ng : (g != g) = false := by simp
    have nx : (x != x) = false := by simp
    go_wp2
    go_region_held3 (fun W => Ext W5 W ∧ W.cell? ⟨w.heap.size, 0, none⟩ = some (.int .i64 n) ∧ W.cell? ⟨w.heap.size, 1, none⟩ = some v1 ∧ W.cell? ⟨W4.heap.size, 0, none⟩ = some (.int .i64 n) ∧ W.cell? ⟨W4.heap.size, 1, none⟩ = some (.slice a4 T.length k4)) (first | (exact keep4 (by assumption) (by assumption)) | (exact ⟨Ext.drew (Ext.refl _), c0, c1, d0, d1⟩)) (first | (go_at_call 39; refine (toTable_any _ _ _ _ (HJ5.out.ext (And.left (by assumption))) HL.out).mono ?_; rintro e W6 ⟨u6, rfl, f6, x6⟩) | (go_at_call 42; refine (eqTable_same _ _ _ T _ (HI5.out.ext (And.left (by assumption))) (FreshT.rows (by assumption))).mono ?_; rintro e W7 ⟨rfl, x7⟩))
    rename_i hH
    have hx : Ext w W7 := X5.out.trans hH.1
    clear hH x6 x7 f6 c0 c1 d0 d1
    go_wp2
    go_ret
    exact ⟨rfl, hx⟩

/-! ### The frame -/
set_option maxRecDepth 100000 in
theorem lifted (os : Os) (started : os.Started) (H : Type) (enc : TypeId × Value → H) :
    ReturnsInHanded {} Try.checked os 10 .any (Rows.fnExactNextBallotSpec.pre6 enc Try.prog Try.f10 Rows.fnExactNextBallotRow.domain false) (Rows.fnExactNextBallotSpec.post enc Try.prog Try.f10 false true false false) := by
  refine returnsInHanded_of_change (C := Try.checked) own started (by kernel_rfl) Try.func10
    (ChangeSpec.witness6 (enc := enc) (C := Try.checked) false ⟨#[], #[.agg #[.int .i64 0, .slice none 0 0], .int .i64 0, .int .i64 0, .int .i64 0], []⟩ 8 (by kernel_rfl) (by kernel_rfl) (by kernel_rfl) (by kernel_rfl)) ?_
  intro W base args ds gs before hval0 hW hcnd _
  have hval : ∀ (j : Nat) t v, Try.f10.params[j]? = some t → args[j]? = some v → Value.okWide Try.prog W .any base t v := hval0
  have hW' := hW
  obtain ⟨p, q, hA0, hV, rfl, hfz, hnd⟩ := hW
  have hA : DataW.TrodAll enc Try.prog W 0 (fun _ => true) true Try.f10.params.toList args.toList ds p := hA0
  rw [Try.params10] at hA hval
  obtain ⟨v0, vs0, d0, ds0, p0, q0, hargs, rfl, rfl, h0, r0⟩ := trodAll_cons hA
  obtain ⟨v1, vs1, d1, ds1, p1, q1, rfl, rfl, rfl, h1, r1⟩ := trodAll_cons r0
  obtain ⟨v2, vs2, d2, ds2, p2, q2, rfl, rfl, rfl, h2, r2⟩ := trodAll_cons r1
  obtain ⟨v3, vs3, d3, ds3, p3, q3, rfl, rfl, rfl, h3, r3⟩ := trodAll_cons r2
  obtain ⟨rfl, rfl, rfl⟩ := trodAll_nil r3
  obtain rfl : args = #[v0, v1, v2, v3] := by cases args; simp_all
  obtain ⟨rfl, rfl⟩ := trodVars_none hV
  have k0 := h0
  have lt0 : ∀ x ∈ p0, x.block < W.heap.size := by obtain ⟨m, hm⟩ := k0; exact DataW.trod_lt m _ _ _ hm
  obtain ⟨n0, u0, l0, rfl, w0⟩ := open_table (hval 0 52 v0 rfl rfl) h0
  have k1 := h1
  have lt1 : ∀ x ∈ p1, x.block < W.heap.size := by obtain ⟨m, hm⟩ := k1; exact DataW.trod_lt m _ _ _ hm
  obtain ⟨a1, rfl, _, _, w1⟩ := open_int Try.underlying3 (hval 1 3 v1 rfl rfl) h1
  have k2 := h2
  have lt2 : ∀ x ∈ p2, x.block < W.heap.size := by obtain ⟨m, hm⟩ := k2; exact DataW.trod_lt m _ _ _ hm
  obtain ⟨a2, rfl, _, _, w2⟩ := open_int Try.underlying3 (hval 2 3 v2 rfl rfl) h2
  have k3 := h3
  have lt3 : ∀ x ∈ p3, x.block < W.heap.size := by obtain ⟨m, hm⟩ := k3; exact DataW.trod_lt m _ _ _ hm
  obtain ⟨a3, rfl, _, _, w3⟩ := open_int Try.underlying3 (hval 3 3 v3 rfl rfl) h3
  clear hA0 hval0
  refine (walk n0 u0 l0 a1 a2 a3 W w0 w1 w2 w3).mono fun e W' ⟨he, bel⟩ => ?_
  subst he
  exact ⟨_, rfl, _, _, _, [], _, [], hW', trodAll_mk1 (shut_bool Try.underlying4 _), (trodAll_cons_mk (Below.trod laidOut (by kernel_rfl) (of_decide_eq_true (by kernel_rfl)) k0 bel lt0) (trodAll_cons_mk (Below.trod laidOut (by kernel_rfl) (of_decide_eq_true (by kernel_rfl)) k1 bel lt1) (trodAll_cons_mk (Below.trod laidOut (by kernel_rfl) (of_decide_eq_true (by kernel_rfl)) k2 bel lt2) (trodAll_cons_mk (Below.trod laidOut (by kernel_rfl) (of_decide_eq_true (by kernel_rfl)) k3 bel lt3) trodAll_mk0)))), rfl, bel.frame _, fun h => by cases h⟩

theorem over : Rows.fnExactNextBallotRow.holds Try.pinned (OpenSpec.ofChange Rows.fnExactNextBallotSpec) :=
  OpenClaim.holds_of_wide 10 Try.f10 rfl rfl rfl rfl rfl rfl rfl ⟨rfl, rfl, rfl, rfl, rfl⟩ rfl rfl rfl rfl rfl (by kernel_rfl) Try.func10 (by kernel_rfl)
    (of_decide_eq_true (by kernel_rfl)) (by unfold Func.isWrapper; first | (rw [if_pos (by decide +kernel)]; kernel_rfl) | (rw [if_neg (by decide +kernel)]; exact ⟨rfl, rfl⟩))
    (fun os started H enc _ => lifted os started H enc)

/-- THE STATEMENT -/
theorem proved : Rows.FnExactNextBallotSaid := over
#print axioms proved
end Go.Proofs.Ythnoeknalpnadaa.fnExactNextBallot
