/- What is proved: FnExactIsOrder holds of every list of lists of integers and every two lists of integers: IsOrder of the program answers as the model's and turns nothing that was there. Conditions: none. -/
import Derived.Test.YtnmnbeklofnonaaRows
import Derived.Test.YtnmnbeklofnonaaMIsOrderj
import Derived.Test.YtnmnbeklofnonaaMIsOrderk
import Derived.Test.YtnmnbeklofnonaaMIsOrdera
import Derived.WalkKit
import Derived.ProofKit
import Derived.OpenShut
import Derived.ShutString
import Derived.ChangeOld
import Derived.Below
namespace Go.Proofs.Ytnmnbeklofnonaa.fnExactIsOrder
open Go.ChangeShapes Go.WideShapes Go.ChangeAt Go.RowKit
set_option linter.unusedVariables false

theorem own : ownKnob Try.prog.godebug = none := by kernel_rfl
theorem laidOut : laidOutB Try.prog = true := by kernel_rfl

/-! ### The walk: the law's text returns true, and nothing that was there is turned. -/
set_option maxHeartbeats 4000000 in
set_option maxRecDepth 100000 in
theorem walk (v0 : Value) (A : List (List Int)) (v1 : Value) (K : List Int) (v2 : Value) (l : List Int) (w : World) (w0 : Intss w v0 A ∧ ∀ l ∈ A, ∀ x ∈ l, wf64 x) (w1 : Ints w v1 K ∧ ∀ x ∈ K, wf64 x) (w2 : Ints w v2 l ∧ ∀ x ∈ l, wf64 x) :
    Calls Try.prog 8 #[v0, v1, v2] w fun e w' => e = .returned (.bool true) ∧ Ext w w' := by
  obtain ⟨hA, _⟩ := w0
  obtain ⟨hK, _⟩ := w1
  obtain ⟨hl, _⟩ := w2
  have HA := Lib.hid hA
  have HK := Lib.hid hK
  have HL := Lib.hid hl
  obtain ⟨ak, ck, rfl, hlk, _, _⟩ := hK
  obtain ⟨al, cl, rfl, hll, _, _⟩ := hl
  unfold maxLen at hlk hll
  clear hA
  by_cases hk0 : (1048576 : Int) < K.length
  · go_enter Try.func8, Try.ntmps8
    go_wp2
    go_ret
    exact ⟨rfl, Ext.refl _⟩
  · by_cases hl0 : (1048576 : Int) < l.length
    · go_enter Try.func8, Try.ntmps8
      go_wp2
      go_ret
      exact ⟨rfl, Ext.refl _⟩
    · by_cases h1 : (1048576 : Int) < bulk A
      · have L1 := Lib.hid (lessened_no h1)
        clear h1
        go_enter Try.func8, Try.ntmps8
        go_wp2_with fail
        refine (szIntSS_any _ _ _ _ HA.out (by omega) (by omega)).mono ?_
        rintro e W1 ⟨rfl, x1⟩
        rw [L1.out]
        go_wp2
        go_ret
        exact ⟨rfl, x1⟩
      · obtain ⟨r, hr⟩ : ∃ r, r = (1048576 : Int) - bulk A := ⟨_, rfl⟩
        have hr0 : 0 ≤ r := by omega
        have L1 : Hid (lessened 1048576 (bulk A) = r) := Lib.hid (by rw [hr]; exact lessened_yes (by omega))
        have HB := Lib.hid (show bulk A ≤ 1099511627776 by omega)
        have HBK := Lib.hid (show K.length ≤ 35184372088831 by omega)
        have HBL := Lib.hid (show l.length ≤ 35184372088831 by omega)
        obtain ⟨x, hx⟩ : ∃ x, x = ordV A K l := ⟨_, rfl⟩
        obtain ⟨y, hy⟩ : ∃ y, y = ordOk A K l := ⟨_, rfl⟩
        have cS : ∀ p q t W, Intss W p A → Ints W q K → Ints W t l → Calls Try.prog 38 #[p, q, t] W (TwoB x y W) := fun p q t W h h' h'' => by rw [hx, hy]; exact specIsOrder_any _ _ _ _ _ _ _ h h' h''
        have cI : ∀ p q t W, Intss W p A → Ints W q K → Ints W t l → Calls Try.prog 39 #[p, q, t] W (TwoB x y W) := fun p q t W h h' h'' => by rw [hx, hy]; exact implIsOrder_any _ _ _ _ _ _ _ h h' h''
        have CS := Lib.hid cS
        have CI := Lib.hid cI
        clear cS cI hx hy h1 hr
        go_enter Try.func8, Try.ntmps8
        go_wp2_with fail
        refine (szIntSS_any _ _ _ _ HA.out (by omega) (by omega)).mono ?_
        rintro e W1 ⟨rfl, x1⟩
        rw [L1.out]
        go_wp2_with fail
        refine (toIntSS_any _ _ _ (HA.out.ext x1) HB.out).mono ?_
        rintro e W2 ⟨p2, rfl, f2, x2⟩
        have F2 := Lib.hid f2.intss
        have Y2 := Lib.hid (x1.trans x2)
        clear x1 x2 f2
        go_wp2_with fail
        refine (toIntS_any _ _ _ (HK.out.ext Y2.out) HBK.out).mono ?_
        rintro e W3 ⟨p3, rfl, f3, x3⟩
        have F23 := Lib.hid (F2.out.ext x3)
        have F3 := Lib.hid f3.ints
        have Y3 := Lib.hid (Y2.out.trans x3)
        clear x3 f3
        go_wp2_with fail
        refine (toIntS_any _ _ _ (HL.out.ext Y3.out) HBL.out).mono ?_
        rintro e W4 ⟨p4, rfl, f4, x4⟩
        have F24 := Lib.hid (F23.out.ext x4)
        have F34 := Lib.hid (F3.out.ext x4)
        have F4 := Lib.hid f4.ints
        have Y4 := Lib.hid (Y3.out.trans x4)
        clear x4 f4
        go_wp2_with fail
        refine (CS.out _ _ _ _ F24.out F34.out F4.out).mono ?_
        rintro e W5 ⟨rfl, x5⟩
        have Y5 := Lib.hid (Y4.out.trans x5)
        clear x5 F2 F23 F24 F3 F34 F4 Y2 Y3 Y4
        go_wp2_with fail
        refine (toIntSS_any _ _ _ (HA.out.ext Y5.out) HB.out).mono ?_
        rintro e W6 ⟨p6, rfl, f6, x6⟩
        have F6 := Lib.hid f6.intss
        have Y6 := Lib.hid (Y5.out.trans x6)
        clear x6 f6
        go_wp2_with fail
        refine (toIntS_any _ _ _ (HK.out.ext Y6.out) HBK.out).mono ?_
        rintro e W7 ⟨p7, rfl, f7, x7⟩
        have F67 := Lib.hid (F6.out.ext x7)
        have F7 := Lib.hid f7.ints
        have Y7 := Lib.hid (Y6.out.trans x7)
        clear x7 f7
        go_wp2_with fail
        refine (toIntS_any _ _ _ (HL.out.ext Y7.out) HBL.out).mono ?_
        rintro e W8 ⟨p8, rfl, f8, x8⟩
        have F68 := Lib.hid (F67.out.ext x8)
        have F78 := Lib.hid (F7.out.ext x8)
        have F8 := Lib.hid f8.ints
        have Y8 := Lib.hid (Y7.out.trans x8)
        clear x8 f8
        go_wp2_with fail
        refine (CI.out _ _ _ _ F68.out F78.out F8.out).mono ?_
        rintro e W9 ⟨rfl, x9⟩
        have F69 := Lib.hid (F68.out.ext x9)
        have F79 := Lib.hid (F78.out.ext x9)
        have F89 := Lib.hid (F8.out.ext x9)
        have Y9 := Lib.hid (Y8.out.trans x9)
        have nx : (x != x) = false := by simp
        have ny : (y != y) = false := by simp
        clear x9 F6 F67 F68 F7 F78 F8 Y6 Y7 Y8 Y5
        go_wp2_with fail
        refine (toIntSS_any _ _ _ (HA.out.ext Y9.out) HB.out).mono ?_
        rintro e W10 ⟨p10, rfl, f10, x10⟩
        have F10 := Lib.hid f10.intss
        have G10 := Lib.hid (And.intro (F69.out.ext x10) (And.intro (F79.out.ext x10) (F89.out.ext x10)))
        have Y10 := Lib.hid (Y9.out.trans x10)
        clear x10 f10 F69 F79 F89
        go_wp2_with fail
        refine (eqIntSS_one _ _ A _ G10.out.1 F10.out).mono ?_
        rintro e W11 ⟨rfl, x11⟩
        have G11 := Lib.hid (And.intro (G10.out.2.1.ext x11) (G10.out.2.2.ext x11))
        have Y11 := Lib.hid (Y10.out.trans x11)
        clear x11 F10 G10
        go_wp2_with fail
        refine (toIntS_any _ _ _ (HK.out.ext Y11.out) HBK.out).mono ?_
        rintro e W12 ⟨p12, rfl, f12, x12⟩
        have F12 := Lib.hid f12.ints
        have G12 := Lib.hid (And.intro (G11.out.1.ext x12) (G11.out.2.ext x12))
        have Y12 := Lib.hid (Y11.out.trans x12)
        clear x12 f12 G11
        go_wp2_with fail
        refine (eqIntS_self _ _ K _ G12.out.1 F12.out).mono ?_
        rintro e W13 ⟨rfl, x13⟩
        have G13 := Lib.hid (G12.out.2.ext x13)
        have Y13 := Lib.hid (Y12.out.trans x13)
        clear x13 F12 G12
        go_wp2_with fail
        refine (toIntS_any _ _ _ (HL.out.ext Y13.out) HBL.out).mono ?_
        rintro e W14 ⟨p14, rfl, f14, x14⟩
        have F14 := Lib.hid f14.ints
        have G14 := Lib.hid (G13.out.ext x14)
        have Y14 := Lib.hid (Y13.out.trans x14)
        clear x14 f14 G13
        go_wp2_with fail
        refine (eqIntS_self _ _ l _ G14.out F14.out).mono ?_
        rintro e W15 ⟨rfl, x15⟩
        have Y15 := Lib.hid (Y14.out.trans x15)
        clear x15 F14 G14
        go_wp2
        go_ret
        exact ⟨rfl, Y15.out⟩

/-! ### The frame -/
set_option maxRecDepth 100000 in
theorem lifted (os : Os) (started : os.Started) (H : Type) (enc : TypeId × Value → H) :
    ReturnsInHanded {} Try.checked os 8 .any (Rows.fnExactIsOrderSpec.pre6 enc Try.prog Try.f8 Rows.fnExactIsOrderRow.domain false) (Rows.fnExactIsOrderSpec.post enc Try.prog Try.f8 false true false false) := by
  refine returnsInHanded_of_change (C := Try.checked) own started (by kernel_rfl) Try.func8
    (ChangeSpec.witness6 (enc := enc) (C := Try.checked) false ⟨#[], #[.slice none 0 0, .slice none 0 0, .slice none 0 0], []⟩ 8 (by kernel_rfl) (by kernel_rfl) (by kernel_rfl) (by kernel_rfl)) ?_
  intro W base args ds gs before hval0 hW hcnd _
  have hval : ∀ (j : Nat) t v, Try.f8.params[j]? = some t → args[j]? = some v → Value.okWide Try.prog W .any base t v := hval0
  have hW' := hW
  obtain ⟨p, q, hA0, hV, rfl, hfz, hnd⟩ := hW
  have hA : DataW.TrodAll enc Try.prog W 0 (fun _ => true) true Try.f8.params.toList args.toList ds p := hA0
  rw [Try.params8] at hA hval
  obtain ⟨v0, vs0, d0, ds0, p0, q0, hargs, rfl, rfl, h0, r0⟩ := trodAll_cons hA
  obtain ⟨v1, vs1, d1, ds1, p1, q1, rfl, rfl, rfl, h1, r1⟩ := trodAll_cons r0
  obtain ⟨v2, vs2, d2, ds2, p2, q2, rfl, rfl, rfl, h2, r2⟩ := trodAll_cons r1
  obtain ⟨rfl, rfl, rfl⟩ := trodAll_nil r2
  obtain rfl : args = #[v0, v1, v2] := by cases args; simp_all
  obtain ⟨rfl, rfl⟩ := trodVars_none hV
  have k0 := h0
  have lt0 : ∀ x ∈ p0, x.block < W.heap.size := by obtain ⟨m, hm⟩ := k0; exact DataW.trod_lt m _ _ _ hm
  obtain ⟨l0, w0⟩ := open_intSS (hval 0 50 v0 rfl rfl) h0
  have k1 := h1
  have lt1 : ∀ x ∈ p1, x.block < W.heap.size := by obtain ⟨m, hm⟩ := k1; exact DataW.trod_lt m _ _ _ hm
  obtain ⟨l1, w1⟩ := open_intS (hval 1 27 v1 rfl rfl) h1
  have k2 := h2
  have lt2 : ∀ x ∈ p2, x.block < W.heap.size := by obtain ⟨m, hm⟩ := k2; exact DataW.trod_lt m _ _ _ hm
  obtain ⟨l2, w2⟩ := open_intS (hval 2 27 v2 rfl rfl) h2
  clear hA0 hval0
  refine (walk v0 l0 v1 l1 v2 l2 W w0 w1 w2).mono fun e W' ⟨he, bel⟩ => ?_
  subst he
  exact ⟨_, rfl, _, _, _, [], _, [], hW', trodAll_mk1 (shut_bool Try.underlying4 _), (trodAll_cons_mk (Below.trod laidOut (by kernel_rfl) (of_decide_eq_true (by kernel_rfl)) k0 bel lt0) (trodAll_cons_mk (Below.trod laidOut (by kernel_rfl) (of_decide_eq_true (by kernel_rfl)) k1 bel lt1) (trodAll_cons_mk (Below.trod laidOut (by kernel_rfl) (of_decide_eq_true (by kernel_rfl)) k2 bel lt2) trodAll_mk0))), rfl, bel.frame _, fun h => by cases h⟩

theorem over : Rows.fnExactIsOrderRow.holds Try.pinned (OpenSpec.ofChange Rows.fnExactIsOrderSpec) :=
  OpenClaim.holds_of_wide 8 Try.f8 rfl rfl rfl rfl rfl rfl rfl ⟨rfl, rfl, rfl, rfl, rfl⟩ rfl rfl rfl rfl rfl (by kernel_rfl) Try.func8 (by kernel_rfl)
    (of_decide_eq_true (by kernel_rfl)) (by unfold Func.isWrapper; first | (rw [if_pos (by decide +kernel)]; kernel_rfl) | (rw [if_neg (by decide +kernel)]; exact ⟨rfl, rfl⟩))
    (fun os started H enc _ => lifted os started H enc)

/-- THE STATEMENT -/
theorem proved : Rows.FnExactIsOrderSaid := over
#print axioms proved
end Go.Proofs.Ytnmnbeklofnonaa.fnExactIsOrder
