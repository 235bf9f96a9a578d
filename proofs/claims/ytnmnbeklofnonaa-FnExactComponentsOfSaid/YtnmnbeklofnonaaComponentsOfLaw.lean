/- What is proved: FnExactComponentsOf holds of every list of lists of integers: ComponentsOf of the program answers as the model's, in memory of its own, and turns nothing that was there. Conditions: none. -/
import Derived.Test.YtnmnbeklofnonaaRows
import Derived.Test.YtnmnbeklofnonaaImplComp2
import Derived.Test.YtnmnbeklofnonaaLiveSG
import Derived.Test.YtnmnbeklofnonaaFrameSS
import Derived.WalkKit
import Derived.ProofKit
import Derived.OpenShut
import Derived.ShutString
import Derived.ChangeOld
import Derived.Below
namespace Go.Proofs.Ytnmnbeklofnonaa.fnExactComponentsOf
open Go.ChangeShapes Go.WideShapes Go.ChangeAt Go.RowKit
set_option linter.unusedVariables false

theorem own : ownKnob Try.prog.godebug = none := by kernel_rfl
theorem laidOut : laidOutB Try.prog = true := by kernel_rfl

/-! ### The walk: the law's text returns true, and nothing that was there is turned. -/
set_option maxHeartbeats 4000000 in
set_option maxRecDepth 100000 in
theorem walk (v0 : Value) (A : List (List Int)) (w : World) (w0 : Intss w v0 A ∧ ∀ l ∈ A, ∀ x ∈ l, wf64 x) :
    Calls Try.prog 5 #[v0] w fun e w' => e = .returned (.bool true) ∧ Ext w w' := by
  obtain ⟨hA, _⟩ := w0
  by_cases h1 : (1048576 : Int) < bulk A
  · have L1 := Lib.hid (lessened_no h1)
    clear h1
    go_enter Try.func5, Try.ntmps5
    go_wp2_with fail
    refine (szIntSS_any _ _ _ _ hA (by omega) (by omega)).mono ?_
    rintro e W1 ⟨rfl, x1⟩
    rw [L1.out]
    go_wp2
    go_ret
    exact ⟨rfl, x1⟩
  · obtain ⟨r, hr⟩ : ∃ r, r = (1048576 : Int) - bulk A := ⟨_, rfl⟩
    have hr0 : 0 ≤ r := by omega
    have hb : bulk A ≤ 1099511627776 := by omega
    have L1 : Hid (lessened 1048576 (bulk A) = r) := Lib.hid (by rw [hr]; exact lessened_yes (by omega))
    have HB := Lib.hid hb
    obtain ⟨g, hg⟩ : ∃ g, g = goodG A := ⟨_, rfl⟩
    obtain ⟨L, hL⟩ : ∃ L, L = compsA A := ⟨_, rfl⟩
    have hbk : bulk L ≤ 1640 := by rw [hL]; exact compsA_bulk A
    have cS : ∀ u W, Intss W u A → Calls Try.prog 26 #[u] W (TwoIntss L g W) := fun u W h => by rw [hg, hL]; exact specComponents_any _ _ _ h
    have cI : ∀ u W, Intss W u A → Calls Try.prog 27 #[u] W (TwoIntss L g W) := fun u W h => by rw [hg, hL]; exact implComponents_any _ _ _ h
    have CS := Lib.hid cS
    have CI := Lib.hid cI
    have HA := Lib.hid hA
    have HBK := Lib.hid hbk
    clear cS cI hg hL hA hbk h1 hr hb
    go_enter Try.func5, Try.ntmps5
    go_wp2_with fail
    refine (szIntSS_any _ _ _ _ HA.out (by omega) (by omega)).mono ?_
    rintro e W1 ⟨rfl, x1⟩
    rw [L1.out]
    go_wp2_with fail
    refine (toIntSS_any _ _ _ (HA.out.ext x1) HB.out).mono ?_
    rintro e W2 ⟨u2, rfl, f2, x2⟩
    go_wp2_with fail
    refine (CS.out _ _ f2.intss).mono ?_
    rintro e W3 ⟨v3, rfl, f3, x3⟩
    obtain ⟨a3, k3, rfl⟩ := f3.form
    have y3 := Lib.hid ((x1.trans x2).trans x3)
    have F3 := Lib.hid (f3.below (Nat.le_refl _))
    clear x1 x2 x3 f2 f3
    go_wp2_with fail
    refine (toIntSS_any _ _ _ (HA.out.ext y3.out) HB.out).mono ?_
    rintro e W4 ⟨u4, rfl, f4, x4⟩
    have F4 := Lib.hid (f4.range (Nat.le_refl _))
    have X4 := Lib.hid x4
    clear f4 x4
    go_wp2_with fail
    refine (CI.out _ _ F4.out.intss).mono ?_
    rintro e W5 ⟨v5, rfl, f5, x5⟩
    obtain ⟨a5, k5, rfl⟩ := f5.form
    have hz : w.heap.size ≤ W3.heap.size ∧ W3.heap.size ≤ W4.heap.size ∧ W4.heap.size ≤ W5.heap.size := ⟨y3.out.size, X4.out.size, x5.size⟩
    have l5 : LiveG w W5 W3.heap.size W4.heap.size (.slice a3 L.length k3) (.slice a5 L.length k5) L L := ⟨(y3.out.trans X4.out).trans x5, F3.out.ext (X4.out.trans x5), f5⟩
    have f45 := F4.out.ext x5
    have L5 := Lib.hid l5
    have F45 := Lib.hid f45
    have HZ := Lib.hid hz
    clear f5 x5 l5 f45 hz F3 F4 X4 y3
    go_wp2_with fail
    refine (eqIntSS_self _ _ L _ L5.out.2.2.intss L5.out.2.1.intss).mono ?_
    rintro e W6 ⟨rfl, x6⟩
    have L6 := Lib.hid (L5.out.ext x6)
    have F6 := Lib.hid (F45.out.ext x6)
    have Z6 : Hid (W4.heap.size ≤ W6.heap.size) := Lib.hid (Nat.le_trans HZ.out.2.2 x6.size)
    clear x6 L5 F45
    have ng : (g != g) = false := by simp
    go_wp2_with fail
    refine (toIntSS_any _ _ _ (HA.out.ext L6.out.1) HB.out).mono ?_
    rintro e W7 ⟨u7, rfl, f7, x7⟩
    have L7 := Lib.hid (L6.out.ext x7)
    have F7 := Lib.hid (F6.out.ext x7)
    have U7 := Lib.hid f7.intss
    have Z7 : Hid (W4.heap.size ≤ W7.heap.size) := Lib.hid (Nat.le_trans Z6.out x7.size)
    clear x7 f7 L6 F6 Z6
    go_wp2_with fail
    refine (eqIntSS_self _ _ A _ F7.out.intss U7.out).mono ?_
    rintro e W8 ⟨rfl, x8⟩
    have L8 := Lib.hid (L7.out.ext x8)
    have F8 := Lib.hid (F7.out.ext x8)
    have Z8 : Hid (W4.heap.size ≤ W8.heap.size) := Lib.hid (Nat.le_trans Z7.out x8.size)
    clear x8 L7 F7 U7 Z7
    go_wp2_with fail
    refine (markIntSS_ins W3.heap.size W4.heap.size _ A 1 _ F8.out (by omega) (by omega) HB.out).mono ?_
    rintro e W9 ⟨rfl, k9⟩
    obtain ⟨q, hq⟩ : ∃ q, q = (1 : Int) + ((A.map List.length).sum : Int) := ⟨_, rfl⟩
    have hq0 : 0 ≤ q := by omega
    rw [← hq]
    have L9 := Lib.hid (L8.out.ins k9 HZ.out.1 (Nat.le_refl _) (Nat.le_refl _) (Nat.le_trans HZ.out.2.1 Z8.out))
    have Z9 : Hid (W4.heap.size ≤ W9.heap.size) := Lib.hid (Nat.le_trans Z8.out k9.size)
    clear k9 hq L8 F8 Z8
    go_wp2_with fail
    refine (eqIntSS_self _ _ L _ L9.out.2.2.intss L9.out.2.1.intss).mono ?_
    rintro e W10 ⟨rfl, x10⟩
    have L10 := Lib.hid (L9.out.ext x10)
    have Z10 : Hid (W4.heap.size ≤ W10.heap.size) := Lib.hid (Nat.le_trans Z9.out x10.size)
    clear x10 L9 Z9
    go_wp2_with fail
    refine (markIntSS_any W4.heap.size _ L 1 _ L10.out.2.2 Z10.out (by omega) (by omega) (by have := HBK.out; omega)).mono ?_
    rintro e W11 ⟨rfl, m11, t11⟩
    have L11 := Lib.hid (L10.out.mark t11 m11 (by have := HZ.out; omega) HZ.out.2.1)
    obtain ⟨m, hm⟩ : ∃ m, m = (1 : Int) + ((L.map List.length).sum : Int) := ⟨_, rfl⟩
    have hm0 : 0 ≤ m := by omega
    rw [← hm]
    have HM := Lib.hid hm
    clear t11 m11 hm L10 Z10
    go_wp2_with fail
    refine (heldIntSS_yes _ L 1 _ L11.out.2.2.intss (by omega) (by omega) (by have := HBK.out; omega)).mono ?_
    rintro e W12 ⟨rfl, x12⟩
    rw [← HM.out]
    have nm : (m != m) = false := by simp
    have L12 := Lib.hid (L11.out.ext x12)
    clear x12 L11
    go_wp2_with fail
    refine (toIntSS_any _ _ _ (HA.out.ext L12.out.1) HB.out).mono ?_
    rintro e W13 ⟨u13, rfl, f13, x13⟩
    have L13 := Lib.hid (L12.out.ext x13)
    clear x13 L12
    go_wp2_with fail
    refine (CI.out _ _ f13.intss).mono ?_
    rintro e W14 ⟨v14, rfl, f14, x14⟩
    obtain ⟨a14, k14, rfl⟩ := f14.form
    have L14 := Lib.hid (L13.out.ext x14)
    have F14 := Lib.hid f14
    clear f13 x14 f14 L13
    go_wp2_with fail
    refine (eqIntSS_self _ _ L _ F14.out.intss L14.out.2.1.intss).mono ?_
    rintro e W15 ⟨rfl, x15⟩
    have L15 := Lib.hid (L14.out.ext x15)
    clear x15 L14 F14
    go_wp2_with fail
    refine (heldIntSS_yes _ L 1 _ L15.out.2.2.intss (by omega) (by omega) (by have := HBK.out; omega)).mono ?_
    rintro e W16 ⟨rfl, x16⟩
    rw [← HM.out]
    have hx := L15.out.1.trans x16
    clear x16
    go_wp2
    go_ret
    exact ⟨rfl, hx⟩

/-! ### The frame -/
set_option maxRecDepth 100000 in
theorem lifted (os : Os) (started : os.Started) (H : Type) (enc : TypeId × Value → H) :
    ReturnsInHanded {} Try.checked os 5 .any (Rows.fnExactComponentsOfSpec.pre6 enc Try.prog Try.f5 Rows.fnExactComponentsOfRow.domain false) (Rows.fnExactComponentsOfSpec.post enc Try.prog Try.f5 false true false false) := by
  refine returnsInHanded_of_change (C := Try.checked) own started (by kernel_rfl) Try.func5
    (ChangeSpec.witness6 (enc := enc) (C := Try.checked) false ⟨#[], #[.slice none 0 0], []⟩ 8 (by kernel_rfl) (by kernel_rfl) (by kernel_rfl) (by kernel_rfl)) ?_
  intro W base args ds gs before hval0 hW hcnd _
  have hval : ∀ (j : Nat) t v, Try.f5.params[j]? = some t → args[j]? = some v → Value.okWide Try.prog W .any base t v := hval0
  have hW' := hW
  obtain ⟨p, q, hA0, hV, rfl, hfz, hnd⟩ := hW
  have hA : DataW.TrodAll enc Try.prog W 0 (fun _ => true) true Try.f5.params.toList args.toList ds p := hA0
  rw [Try.params5] at hA hval
  obtain ⟨v0, vs0, d0, ds0, p0, q0, hargs, rfl, rfl, h0, r0⟩ := trodAll_cons hA
  obtain ⟨rfl, rfl, rfl⟩ := trodAll_nil r0
  obtain rfl : args = #[v0] := by cases args; simp_all
  obtain ⟨rfl, rfl⟩ := trodVars_none hV
  have k0 := h0
  have lt0 : ∀ x ∈ p0, x.block < W.heap.size := by obtain ⟨m, hm⟩ := k0; exact DataW.trod_lt m _ _ _ hm
  obtain ⟨l0, w0⟩ := open_intSS (hval 0 50 v0 rfl rfl) h0
  clear hA0 hval0
  refine (walk v0 l0 W w0).mono fun e W' ⟨he, bel⟩ => ?_
  subst he
  exact ⟨_, rfl, _, _, _, [], _, [], hW', trodAll_mk1 (shut_bool Try.underlying4 _), (trodAll_cons_mk (Below.trod laidOut (by kernel_rfl) (of_decide_eq_true (by kernel_rfl)) k0 bel lt0) trodAll_mk0), rfl, bel.frame _, fun h => by cases h⟩

theorem over : Rows.fnExactComponentsOfRow.holds Try.pinned (OpenSpec.ofChange Rows.fnExactComponentsOfSpec) :=
  OpenClaim.holds_of_wide 5 Try.f5 rfl rfl rfl rfl rfl rfl rfl ⟨rfl, rfl, rfl, rfl, rfl⟩ rfl rfl rfl rfl rfl (by kernel_rfl) Try.func5 (by kernel_rfl)
    (of_decide_eq_true (by kernel_rfl)) (by unfold Func.isWrapper; first | (rw [if_pos (by decide +kernel)]; kernel_rfl) | (rw [if_neg (by decide +kernel)]; exact ⟨rfl, rfl⟩))
    (fun os started H enc _ => lifted os started H enc)

/-- THE STATEMENT -/
theorem proved : Rows.FnExactComponentsOfSaid := over
#print axioms proved
end Go.Proofs.Ytnmnbeklofnonaa.fnExactComponentsOf
