/- What is proved: at every two lists of instances and every table the function SameOrders of the program answers as its model does, both results, and writes into no argument. Conditions: none. -/
import Derived.Test.YthnoeknalpnadaaRows
import Derived.Test.YthnoeknalpnadaaMSameOrdersm
import Derived.Test.YthnoeknalpnadaaMSameOrdersk
import Derived.Test.YthnoeknalpnadaaMSameOrderse
import Derived.Test.YthnoeknalpnadaaMSameOrdersa
import Derived.Test.YthnoeknalpnadaaMSameOrdersb
import Derived.Deep.DeepCutAuto
import Derived.WalkKit
import Derived.ProofKit
import Derived.OpenShut
import Derived.ShutString
import Derived.ChangeOld
import Derived.Below
namespace Go.Proofs.Ythnoeknalpnadaa.fnExactSameOrders
open Go.ChangeShapes Go.WideShapes Go.ChangeAt Go.RowKit
set_option linter.unusedVariables false

theorem own : ownKnob Try.prog.godebug = none := by kernel_rfl
theorem laidOut : laidOutB Try.prog = true := by kernel_rfl

/-! ### The walk: the law's text returns true, and nothing that was there is turned. -/
set_option maxHeartbeats 4000000 in
set_option maxRecDepth 100000 in
theorem walk (ua : Value) (A : List (List Int)) (ub : Value) (B : List (List Int)) (n : Int) (v1 : Value) (T : List (List RowD)) (w : World) (wa : Intss w ua A ∧ ∀ l ∈ A, ∀ x ∈ l, wf64 x) (wc : Intss w ub B ∧ ∀ l ∈ B, ∀ x ∈ l, wf64 x) (w1 : wf64 n ∧ Rowzz w v1 T) :
    Calls Try.prog 8 #[ua, ub, .agg #[.int .i64 n, v1]] w fun e w' => e = .returned (.bool true) ∧ Ext w w' := by
  obtain ⟨hA, _⟩ := wa
  obtain ⟨hB, _⟩ := wc
  obtain ⟨_, hT⟩ := w1
  have x0 : Ext w (w.alloc (.cells #[.int .i64 n, v1] 52)) := Ext.alloc (Ext.refl _) _
  have b0 := attrAt_new w 52 n v1
  obtain ⟨wb, hwb⟩ : ∃ wb, wb = w.alloc (.cells #[.int .i64 n, v1] 52) := ⟨_, rfl⟩
  rw [← hwb] at x0 b0
  have HW := Lib.hid hwb
  have HA := Lib.hid (hA.ext x0)
  have HBB := Lib.hid (hB.ext x0)
  have HT := Lib.hid (hT.ext x0)
  have HB0 := Lib.hid b0
  clear hwb hA hB hT b0
  by_cases h1 : (1048576 : Int) < bulk A
  · have L1 := Lib.hid (lessened_no h1)
    clear h1
    go_enter Try.func8, Try.ntmps8
    go_wp2_with fail
    rw [← HW.out]
    refine (szIntSS_any _ _ _ _ HA.out (by omega) (by omega)).mono ?_
    rintro e W1 ⟨rfl, x1⟩
    rw [L1.out]
    have y1 := x0.trans x1
    clear x0 x1
    go_wp2
    go_ret
    exact ⟨rfl, y1⟩
  · obtain ⟨r, hr⟩ : ∃ r, r = (1048576 : Int) - bulk A := ⟨_, rfl⟩
    have hr0 : 0 ≤ r := by omega
    have hr1 : r ≤ 1048576 := by omega
    have L1 : Hid (lessened 1048576 (bulk A) = r) := Lib.hid (by rw [hr]; exact lessened_yes (by omega))
    have HLA : Hid (bulk A ≤ 1099511627776) := Lib.hid (by omega)
    clear h1 hr
    by_cases h2 : r < bulk B
    · have L2 := Lib.hid (lessened_no h2)
      clear h2
      go_enter Try.func8, Try.ntmps8
      go_wp2_with fail
      rw [← HW.out]
      refine (szIntSS_any _ _ _ _ HA.out (by omega) (by omega)).mono ?_
      rintro e W1 ⟨rfl, x1⟩
      rw [L1.out]
      go_wp2_with fail
      refine (szIntSS_any _ _ _ _ (HBB.out.ext x1) hr0 (by omega)).mono ?_
      rintro e W2 ⟨rfl, x2⟩
      rw [L2.out]
      have y2 := x0.trans (x1.trans x2)
      clear x0 x1 x2
      go_wp2
      go_ret
      exact ⟨rfl, y2⟩
    · obtain ⟨s, hs⟩ : ∃ s, s = r - (bulk B : Int) := ⟨_, rfl⟩
      have hs0 : 0 ≤ s := by omega
      have hs1 : s ≤ 1048576 := by omega
      have L2 : Hid (lessened r (bulk B) = s) := Lib.hid (by rw [hs]; exact lessened_yes (by omega))
      have HLB : Hid (bulk B ≤ 1099511627776) := Lib.hid (by omega)
      clear h2 hs
      by_cases h3 : s < bulkT T
      · have L3 := Lib.hid (lessened_no h3)
        clear h3
        go_enter Try.func8, Try.ntmps8
        go_wp2_with fail
        rw [← HW.out]
        refine (szIntSS_any _ _ _ _ HA.out (by omega) (by omega)).mono ?_
        rintro e W1 ⟨rfl, x1⟩
        rw [L1.out]
        go_wp2_with fail
        refine (szIntSS_any _ _ _ _ (HBB.out.ext x1) hr0 (by omega)).mono ?_
        rintro e W2 ⟨rfl, x2⟩
        rw [L2.out]
        have y2 := x1.trans x2
        obtain ⟨c0, c1⟩ := HB0.out.ext y2
        clear x1 x2
        go_wp2_with fail
        refine (szTable_any _ _ _ _ _ (HT.out.ext y2) hs0 (by omega)).mono ?_
        rintro e W3 ⟨rfl, x3⟩
        rw [L3.out]
        have y3 := x0.trans (y2.trans x3)
        clear x0 x3 y2 c0 c1
        go_wp2
        go_ret
        exact ⟨rfl, y3⟩
      · obtain ⟨z, hz⟩ : ∃ z, z = s - (bulkT T : Int) := ⟨_, rfl⟩
        have hz0 : 0 ≤ z := by omega
        have L3 : Hid (lessened s (bulkT T) = z) := Lib.hid (by rw [hz]; exact lessened_yes (by omega))
        have HLT : Hid (bulkT T ≤ 1099511627776) := Lib.hid (by omega)
        clear h3 hz
        obtain ⟨g, hg⟩ : ∃ g, g = okS n T A B := ⟨_, rfl⟩
        obtain ⟨x, hxv⟩ : ∃ x, x = ordS n T A B := ⟨_, rfl⟩
        have CS : Hid (∀ u p q W, Rowzz W u T → Intss W p A → Intss W q B → Calls Try.prog 48 #[p, q, .agg #[.int .i64 n, u]] W (TwoB x g W)) := Lib.hid (fun u p q W h h' h'' => by rw [hg, hxv]; exact specSameOrd_any _ _ _ _ _ _ _ _ h h' h'')
        have CI : Hid (∀ u p q W, Rowzz W u T → Intss W p A → Intss W q B → Calls Try.prog 50 #[p, q, .agg #[.int .i64 n, u]] W (TwoB x g W)) := Lib.hid (fun u p q W h h' h'' => by rw [hg, hxv]; exact implSameOrd_any _ _ _ _ _ _ _ _ h h' h'' HLT.out)
        clear hg hxv
        go_enter Try.func8, Try.ntmps8
        go_wp2_with fail
        rw [← HW.out]
        refine (szIntSS_any _ _ _ _ HA.out (by omega) (by omega)).mono ?_
        rintro e W1 ⟨rfl, x1⟩
        rw [L1.out]
        go_wp2_with fail
        refine (szIntSS_any _ _ _ _ (HBB.out.ext x1) hr0 (by omega)).mono ?_
        rintro e W2 ⟨rfl, x2⟩
        rw [L2.out]
        have y2 := x1.trans x2
        obtain ⟨c0, c1⟩ := HB0.out.ext y2
        clear x1 x2
        go_wp2_with fail
        refine (szTable_any _ _ _ _ _ (HT.out.ext y2) hs0 (by omega)).mono ?_
        rintro e W3 ⟨rfl, x3⟩
        rw [L3.out]
        have y3 := y2.trans x3
        clear x3 y2 c0 c1
        obtain ⟨c0, c1⟩ := HB0.out.ext y3
        go_wp2_with fail
        have HCA : Hid (∀ W, Ext wb W → Calls Try.prog 49 #[ua] W (NewIntss A W)) := Lib.hid (fun W x => toIntSS_any ua A W (HA.out.ext x) HLA.out)
        have HCB : Hid (∀ W, Ext wb W → Calls Try.prog 49 #[ub] W (NewIntss B W)) := Lib.hid (fun W x => toIntSS_any ub B W (HBB.out.ext x) HLB.out)
        go_region_with (first | (go_at_call 49; first | ((with_reducible refine (HCA.out _ (Ext.drew y3)).mono ?_); rintro e W4 ⟨p4, rfl, f4, x4⟩; obtain ⟨c0, c1⟩ := HB0.out.ext ((Ext.drew y3).trans x4)) | ((with_reducible refine (HCB.out _ ((Ext.drew y3).trans x4)).mono ?_); rintro e W5 ⟨p5, rfl, f5, x5⟩; obtain ⟨c0, c1⟩ := HB0.out.ext (((Ext.drew y3).trans x4).trans x5))) | (go_at_call 39; (with_reducible refine (toTable_any _ _ _ _ (HT.out.ext (((Ext.drew y3).trans x4).trans x5)) HLT.out).mono ?_); rintro e W6 ⟨u6, rfl, f6, x6⟩) | (go_at_call 48; (with_reducible refine (CS.out _ _ _ _ f6.rows ((f4.ext x5).ext x6).intss (f5.ext x6).intss).mono ?_); rintro e W7 ⟨rfl, x7⟩))
        all_goals
          have y7 := ((((Ext.drew y3).trans x4).trans x5).trans x6).trans x7
          clear f4 f5 f6 x4 x5 x6 x7 y3 c0 c1
          go_wp2_with fail
          refine (toIntSS_any _ _ _ (HA.out.ext y7) HLA.out).mono ?_
          rintro e W8 ⟨p8, rfl, f8, x8⟩
          go_wp2_with fail
          refine (toIntSS_any _ _ _ (HBB.out.ext (y7.trans x8)) HLB.out).mono ?_
          rintro e W9 ⟨p9, rfl, f9, x9⟩
          have y9 := (y7.trans x8).trans x9
          have I8 := Lib.hid (f8.ext x9).intss
          have I9 := Lib.hid f9.intss
          obtain ⟨c0, c1⟩ := HB0.out.ext y9
          clear f8 f9 x8 x9 y7
          go_wp2_with fail
          refine (toTable_any _ _ _ _ (HT.out.ext y9) HLT.out).mono ?_
          rintro e W10 ⟨u10, rfl, f10, x10⟩
          clear c0 c1
          obtain ⟨a10, k10, rfl⟩ := f10.form
          have F10 := Lib.hid f10.rows
          have b10 := attrAt_new W10 24 n (.slice a10 T.length k10)
          have xa := Ext.alloc1 W10 (.cells #[.int .i64 n, .slice a10 T.length k10] 24)
          have J8 := Lib.hid (I8.out.ext (x10.trans xa))
          have J9 := Lib.hid (I9.out.ext (x10.trans xa))
          have J10 := Lib.hid (F10.out.ext xa)
          have B10 := Lib.hid b10
          have Y10 := Lib.hid ((y9.trans x10).trans xa)
          clear b10 xa f10 x10 y9 I8 I9 F10
          go_wp2_with fail
          refine (CI.out _ _ _ _ J10.out J8.out J9.out).mono ?_
          rintro e W11 ⟨rfl, x11⟩
          have y11 := Y10.out.trans x11
          have K8 := Lib.hid (J8.out.ext x11)
          have K9 := Lib.hid (J9.out.ext x11)
          have K10 := Lib.hid (J10.out.ext x11)
          have B11 := Lib.hid (B10.out.ext x11)
          clear x11 Y10 J8 J9 J10 B10
          have ng : (g != g) = false := by simp
          have nx : (x != x) = false := by simp
          go_wp2_with fail
          refine (toIntSS_any _ _ _ (HA.out.ext y11) HLA.out).mono ?_
          rintro e W12 ⟨p12, rfl, f12, x12⟩
          go_wp2_with fail
          refine (eqIntSS_self _ _ A _ (K8.out.ext x12) f12.intss).mono ?_
          rintro e W13 ⟨rfl, x13⟩
          have y13 := x12.trans x13
          clear f12 x12 x13 K8
          go_wp2_with fail
          refine (toIntSS_any _ _ _ (HBB.out.ext (y11.trans y13)) HLB.out).mono ?_
          rintro e W14 ⟨p14, rfl, f14, x14⟩
          go_wp2_with fail
          refine (eqIntSS_self _ _ B _ (K9.out.ext (y13.trans x14)) f14.intss).mono ?_
          rintro e W15 ⟨rfl, x15⟩
          have z15 := (y13.trans x14).trans x15
          have y15 := y11.trans z15
          have HI5 := Lib.hid (K10.out.ext z15)
          have HJ5 := Lib.hid (HT.out.ext y15)
          have X5 := Lib.hid (x0.trans y15)
          obtain ⟨c0, c1⟩ := HB0.out.ext y15
          obtain ⟨d0, d1⟩ := B11.out.ext z15
          clear f14 x14 x15 z15 y15 y13 y11 K9 K10 B11 x0
          go_wp2
          go_region_held3 (fun W => Ext W15 W ∧ W.cell? ⟨w.heap.size, 0, none⟩ = some (.int .i64 n) ∧ W.cell? ⟨w.heap.size, 1, none⟩ = some v1 ∧ W.cell? ⟨W10.heap.size, 0, none⟩ = some (.int .i64 n) ∧ W.cell? ⟨W10.heap.size, 1, none⟩ = some (.slice a10 T.length k10)) (first | (exact keep4 (by assumption) (by assumption)) | (exact ⟨Ext.drew (Ext.refl _), c0, c1, d0, d1⟩)) (first | (go_at_call 39; refine (toTable_any _ _ _ _ (HJ5.out.ext (And.left (by assumption))) HLT.out).mono ?_; rintro e W16 ⟨u16, rfl, f16, x16⟩) | (go_at_call 42; refine (eqTable_same _ _ _ T _ (HI5.out.ext (And.left (by assumption))) (FreshT.rows (by assumption))).mono ?_; rintro e W17 ⟨rfl, x17⟩))
          rename_i hH
          have hx : Ext w W17 := X5.out.trans hH.1
          clear hH x16 x17 f16 c0 c1 d0 d1
          go_wp2
          go_ret
          exact ⟨rfl, hx⟩

/-! ### The frame -/
set_option maxRecDepth 100000 in
theorem lifted (os : Os) (started : os.Started) (H : Type) (enc : TypeId × Value → H) :
    ReturnsInHanded {} Try.checked os 8 .any (Rows.fnExactSameOrdersSpec.pre6 enc Try.prog Try.f8 Rows.fnExactSameOrdersRow.domain false) (Rows.fnExactSameOrdersSpec.post enc Try.prog Try.f8 false true false false) := by
  refine returnsInHanded_of_change (C := Try.checked) own started (by kernel_rfl) Try.func8
    (ChangeSpec.witness6 (enc := enc) (C := Try.checked) false ⟨#[], #[.slice none 0 0, .slice none 0 0, .agg #[.int .i64 0, .slice none 0 0]], []⟩ 8 (by kernel_rfl) (by kernel_rfl) (by kernel_rfl) (by kernel_rfl)) ?_
  intro W base args ds gs before hval0 hW hcnd _
  have hval : ∀ (j : Nat) t v, Try.f8.params[j]? = some t → args[j]? = some v → Value.okWide Try.prog W .any base t v := hval0
  have hW' := hW
  obtain ⟨p, q, hA0, hV, rfl, hfz, hnd⟩ := hW
  have hA : DataW.TrodAll enc Try.prog W 0 (fun _ => true) true Try.f8.params.toList args.toList ds p := hA0
  rw [Try.params8] at hA hval
  obtain ⟨v0, vs0, d0, ds0, p0, q0, hargs, rfl, rfl, h0, r0⟩ := trodAll_cons hA
  obtain ⟨v1, vs1, d1, ds1, p1, q1, rfl, rfl, rfl, h1, r1⟩ := trodAll_cons r0
  obtain ⟨v2, vs2, d2, ds2, p2, q2, rfl, rfl, rfl, h2, r2⟩ := trodAll_cons r1
  obtain ⟨rfl, rfl, rfl⟩ := trodAll_nil r2
  obtain rfl : args = #[v0, v1, v2] := by cases args; simp_all
  obtain ⟨rfl, rfl⟩ := trodVars_none hV
  have k0 := h0
  have lt0 : ∀ x ∈ p0, x.block < W.heap.size := by obtain ⟨m, hm⟩ := k0; exact DataW.trod_lt m _ _ _ hm
  obtain ⟨l0, w0⟩ := open_intSS (hval 0 78 v0 rfl rfl) h0
  have k1 := h1
  have lt1 : ∀ x ∈ p1, x.block < W.heap.size := by obtain ⟨m, hm⟩ := k1; exact DataW.trod_lt m _ _ _ hm
  obtain ⟨l1, w1⟩ := open_intSS (hval 1 78 v1 rfl rfl) h1
  have k2 := h2
  have lt2 : ∀ x ∈ p2, x.block < W.heap.size := by obtain ⟨m, hm⟩ := k2; exact DataW.trod_lt m _ _ _ hm
  obtain ⟨n2, u2, l2, rfl, w2⟩ := open_table (hval 2 52 v2 rfl rfl) h2
  clear hA0 hval0
  refine (walk v0 l0 v1 l1 n2 u2 l2 W w0 w1 w2).mono fun e W' ⟨he, bel⟩ => ?_
  subst he
  exact ⟨_, rfl, _, _, _, [], _, [], hW', trodAll_mk1 (shut_bool Try.underlying4 _), (trodAll_cons_mk (Below.trod laidOut (by kernel_rfl) (of_decide_eq_true (by kernel_rfl)) k0 bel lt0) (trodAll_cons_mk (Below.trod laidOut (by kernel_rfl) (of_decide_eq_true (by kernel_rfl)) k1 bel lt1) (trodAll_cons_mk (Below.trod laidOut (by kernel_rfl) (of_decide_eq_true (by kernel_rfl)) k2 bel lt2) trodAll_mk0))), rfl, bel.frame _, fun h => by cases h⟩

theorem over : Rows.fnExactSameOrdersRow.holds Try.pinned (OpenSpec.ofChange Rows.fnExactSameOrdersSpec) :=
  OpenClaim.holds_of_wide 8 Try.f8 rfl rfl rfl rfl rfl rfl rfl ⟨rfl, rfl, rfl, rfl, rfl⟩ rfl rfl rfl rfl rfl (by kernel_rfl) Try.func8 (by kernel_rfl)
    (of_decide_eq_true (by kernel_rfl)) (by unfold Func.isWrapper; first | (rw [if_pos (by decide +kernel)]; kernel_rfl) | (rw [if_neg (by decide +kernel)]; exact ⟨rfl, rfl⟩))
    (fun os started H enc _ => lifted os started H enc)

/-- THE STATEMENT -/
theorem proved : Rows.FnExactSameOrdersSaid := over
#print axioms proved
end Go.Proofs.Ythnoeknalpnadaa.fnExactSameOrders
