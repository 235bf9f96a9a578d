/- What is proved: at every table the function DepsHold of the program answers as its model does, and writes into no argument. Conditions: none. -/
import Derived.Test.YtihknedmkkakhaaRows
import Derived.Test.YtihknedmkkakhaaMDepsHoldh
import Derived.Test.YtihknedmkkakhaaMDepsHoldd
import Derived.Test.YtihknedmkkakhaaMDepsHolda
import Derived.Deep.DeepCutAuto
import Derived.WalkKit
import Derived.ProofKit
import Derived.OpenShut
import Derived.ShutString
import Derived.ChangeOld
import Derived.Below
namespace Go.Proofs.Ytihknedmkkakhaa.fnExactDepsHold
open Go.ChangeShapes Go.WideShapes Go.ChangeAt Go.RowKit
set_option linter.unusedVariables false

theorem own : ownKnob Try.prog.godebug = none := by kernel_rfl
theorem laidOut : laidOutB Try.prog = true := by kernel_rfl

/-! ### The walk: the law's text returns true, and nothing that was there is turned. -/
set_option maxHeartbeats 2000000 in
theorem walk (n : Int) (v1 : Value) (T : List (List RowD)) (w : World) (w1 : wf64 n ∧ Rowzz w v1 T) :
    Calls Try.prog 8 #[.agg #[.int .i64 n, v1]] w fun e w' => e = .returned (.bool true) ∧ Ext w w' := by
  obtain ⟨_, hA⟩ := w1
  have x0 : Ext w (w.alloc (.cells #[.int .i64 n, v1] 42)) := Ext.alloc (Ext.refl _) _
  have b0 := attrAt_new w 42 n v1
  obtain ⟨wb, hwb⟩ : ∃ wb, wb = w.alloc (.cells #[.int .i64 n, v1] 42) := ⟨_, rfl⟩
  rw [← hwb] at x0 b0
  have HW := Lib.hid hwb
  clear hwb
  have hA := hA.ext x0
  by_cases h1 : (1048576 : Int) < bulkT T
  · have L1 := Lib.hid (lessened_no h1)
    clear h1
    go_enter Try.func8, Try.ntmps8
    obtain ⟨c0, c1⟩ := b0
    go_wp2_with fail
    rw [← HW.out]
    refine (szTable_any _ _ _ _ _ hA (by omega) (by omega)).mono ?_
    rintro e W1 ⟨rfl, x1⟩
    rw [L1.out]
    have y1 := x0.trans x1
    clear x0 x1 c0 c1
    go_wp2
    go_ret
    exact ⟨rfl, y1⟩
  · obtain ⟨r, hr⟩ : ∃ r, r = (1048576 : Int) - bulkT T := ⟨_, rfl⟩
    have hr0 : 0 ≤ r := by omega
    have hl : bulkT T ≤ 1099511627776 := by omega
    have L1 : Hid (lessened 1048576 (bulkT T) = r) := Lib.hid (by rw [hr]; exact lessened_yes (by omega))
    have HL := Lib.hid hl
    clear h1 hr hl
    obtain ⟨g, hg⟩ : ∃ g, g = goodTab n T := ⟨_, rfl⟩
    obtain ⟨x, hxv⟩ : ∃ x, x = (goodTab n T && holdB n T) := ⟨_, rfl⟩
    have cS : ∀ u W, Rowzz W u T → Calls Try.prog 41 #[.agg #[.int .i64 n, u]] W (TwoB x g W) := fun u W h => by rw [hg, hxv]; exact specHold_any _ _ _ _ h
    have cI : ∀ u W, Rowzz W u T → Calls Try.prog 42 #[.agg #[.int .i64 n, u]] W (TwoB x g W) := fun u W h => by rw [hg, hxv]; exact implHold_any _ _ _ _ h HL.out
    have CS := Lib.hid cS
    have CI := Lib.hid cI
    have HB := Lib.hid b0
    clear cS cI hg hxv b0
    go_enter Try.func8, Try.ntmps8
    go_wp2_with fail
    rw [← HW.out]
    refine (szTable_any _ _ _ _ _ hA (by omega) (by omega)).mono ?_
    rintro e W1 ⟨rfl, x1⟩
    rw [L1.out]
    obtain ⟨c0, c1⟩ := HB.out.ext x1
    go_wp2_with fail
    refine (toTable_any _ _ _ _ (hA.ext x1) HL.out).mono ?_
    rintro e W2 ⟨u2, rfl, f2, x2⟩
    clear c0 c1
    go_wp2_with fail
    refine (CS.out _ _ f2.rows).mono ?_
    rintro e W3 ⟨rfl, x3⟩
    have y3 : Ext wb W3 := (x1.trans x2).trans x3
    clear f2 x1 x2 x3
    obtain ⟨c0, c1⟩ := HB.out.ext y3
    go_wp2_with fail
    refine (toTable_any _ _ _ _ (hA.ext y3) HL.out).mono ?_
    rintro e W4 ⟨u4, rfl, f4, x4⟩
    clear c0 c1
    obtain ⟨a4, k4, rfl⟩ := f4.form
    have F4 := Lib.hid f4.rows
    have b4 := attrAt_new W4 48 n (.slice a4 T.length k4)
    go_wp2_with fail
    refine (CI.out _ _ (F4.out.ext (Ext.alloc (Ext.refl _) _))).mono ?_
    rintro e W5 ⟨rfl, x5⟩
    have y5 : Ext wb W5 := ((y3.trans x4).trans (Ext.alloc (Ext.refl _) _)).trans x5
    obtain ⟨c0, c1⟩ := HB.out.ext y5
    obtain ⟨d0, d1⟩ := b4.ext x5
    have i5 : Rowzz W5 (.slice a4 T.length k4) T := (F4.out.ext (Ext.alloc (Ext.refl _) _)).ext x5
    have j5 : Rowzz W5 v1 T := hA.ext y5
    have HI5 := Lib.hid i5
    have HJ5 := Lib.hid j5
    have X5 := Lib.hid (x0.trans y5)
    clear x4 x5 y3 y5 f4 b4 i5 j5 hA x0
    have ng : (g != g) = false := by simp
    have nx : (x != x) = false := by simp
    go_wp2
    go_region_held3 (fun W => Ext W5 W ∧ W.cell? ⟨w.heap.size, 0, none⟩ = some (.int .i64 n) ∧ W.cell? ⟨w.heap.size, 1, none⟩ = some v1 ∧ W.cell? ⟨W4.heap.size, 0, none⟩ = some (.int .i64 n) ∧ W.cell? ⟨W4.heap.size, 1, none⟩ = some (.slice a4 T.length k4)) (first | (exact keep4 (by assumption) (by assumption)) | (exact ⟨Ext.drew (Ext.refl _), c0, c1, d0, d1⟩)) (first | (go_at_call 26; refine (toTable_any _ _ _ _ (HJ5.out.ext (And.left (by assumption))) HL.out).mono ?_; rintro e W6 ⟨u6, rfl, f6, x6⟩) | (go_at_call 29; refine (eqTable_same _ _ _ T _ (HI5.out.ext (And.left (by assumption))) (FreshT.rows (by assumption))).mono ?_; rintro e W7 ⟨rfl, x7⟩))
    rename_i hH
    have hx : Ext w W7 := X5.out.trans hH.1
    clear hH x6 x7 f6 c0 c1 d0 d1
    go_wp2
    go_ret
    exact ⟨rfl, hx⟩

/-! ### The frame -/
set_option maxRecDepth 100000 in
theorem lifted (os : Os) (started : os.Started) (H : Type) (enc : TypeId × Value → H) :
    ReturnsInHanded {} Try.checked os 8 .any (Rows.fnExactDepsHoldSpec.pre6 enc Try.prog Try.f8 Rows.fnExactDepsHoldRow.domain false) (Rows.fnExactDepsHoldSpec.post enc Try.prog Try.f8 false true false false) := by
  refine returnsInHanded_of_change (C := Try.checked) own started (by kernel_rfl) Try.func8
    (ChangeSpec.witness6 (enc := enc) (C := Try.checked) false ⟨#[], #[.agg #[.int .i64 0, .slice none 0 0]], []⟩ 8 (by kernel_rfl) (by kernel_rfl) (by kernel_rfl) (by kernel_rfl)) ?_
  intro W base args ds gs before hval0 hW hcnd _
  have hval : ∀ (j : Nat) t v, Try.f8.params[j]? = some t → args[j]? = some v → Value.okWide Try.prog W .any base t v := hval0
  have hW' := hW
  obtain ⟨p, q, hA0, hV, rfl, hfz, hnd⟩ := hW
  have hA : DataW.TrodAll enc Try.prog W 0 (fun _ => true) true Try.f8.params.toList args.toList ds p := hA0
  rw [Try.params8] at hA hval
  obtain ⟨v0, vs0, d0, ds0, p0, q0, hargs, rfl, rfl, h0, r0⟩ := trodAll_cons hA
  obtain ⟨rfl, rfl, rfl⟩ := trodAll_nil r0
  obtain rfl : args = #[v0] := by cases args; simp_all
  obtain ⟨rfl, rfl⟩ := trodVars_none hV
  have k0 := h0
  have lt0 : ∀ x ∈ p0, x.block < W.heap.size := by obtain ⟨m, hm⟩ := k0; exact DataW.trod_lt m _ _ _ hm
  obtain ⟨n0, u0, l0, rfl, w0⟩ := open_table (hval 0 42 v0 rfl rfl) h0
  clear hA0 hval0
  refine (walk n0 u0 l0 W w0).mono fun e W' ⟨he, bel⟩ => ?_
  subst he
  exact ⟨_, rfl, _, _, _, [], _, [], hW', trodAll_mk1 (shut_bool Try.underlying4 _), (trodAll_cons_mk (Below.trod laidOut (by kernel_rfl) (of_decide_eq_true (by kernel_rfl)) k0 bel lt0) trodAll_mk0), rfl, bel.frame _, fun h => by cases h⟩

theorem over : Rows.fnExactDepsHoldRow.holds Try.pinned (OpenSpec.ofChange Rows.fnExactDepsHoldSpec) :=
  OpenClaim.holds_of_wide 8 Try.f8 rfl rfl rfl rfl rfl rfl rfl ⟨rfl, rfl, rfl, rfl, rfl⟩ rfl rfl rfl rfl rfl (by kernel_rfl) Try.func8 (by kernel_rfl)
    (of_decide_eq_true (by kernel_rfl)) (by unfold Func.isWrapper; first | (rw [if_pos (by decide +kernel)]; kernel_rfl) | (rw [if_neg (by decide +kernel)]; exact ⟨rfl, rfl⟩))
    (fun os started H enc _ => lifted os started H enc)

/-- THE STATEMENT -/
theorem proved : Rows.FnExactDepsHoldSaid := over
#print axioms proved
end Go.Proofs.Ytihknedmkkakhaa.fnExactDepsHold
