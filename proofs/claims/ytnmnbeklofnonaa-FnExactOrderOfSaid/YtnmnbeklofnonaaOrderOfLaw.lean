/- What is proved: FnExactOrderOf holds of every list of lists of integers and every list of keys: OrderOf of the program answers as the model's, in memory of its own, and turns nothing that was there. Conditions: none. -/
import Derived.Test.YtnmnbeklofnonaaRows
import Derived.Test.YtnmnbeklofnonaaMOrderOfi
import Derived.Test.YtnmnbeklofnonaaMOrderOfj
import Derived.Test.YtnmnbeklofnonaaMOrderOfa
import Derived.WalkKit
import Derived.ProofKit
import Derived.OpenShut
import Derived.ShutString
import Derived.ChangeOld
import Derived.Below
namespace Go.Proofs.Ytnmnbeklofnonaa.fnExactOrderOf
open Go.ChangeShapes Go.WideShapes Go.ChangeAt Go.RowKit
set_option linter.unusedVariables false

theorem own : ownKnob Try.prog.godebug = none := by kernel_rfl
theorem laidOut : laidOutB Try.prog = true := by kernel_rfl

/-! ### The walk: the law's text returns true, and nothing that was there is turned. -/
set_option maxHeartbeats 4000000 in
set_option maxRecDepth 100000 in
theorem walk (v0 : Value) (A : List (List Int)) (v1 : Value) (l : List Int) (w : World) (w0 : Intss w v0 A ∧ ∀ l ∈ A, ∀ x ∈ l, wf64 x) (w1 : Ints w v1 l ∧ ∀ x ∈ l, wf64 x) :
    Calls Try.prog 7 #[v0, v1] w fun e w' => e = .returned (.bool true) ∧ Ext w w' := by
  obtain ⟨hA, _⟩ := w0
  obtain ⟨hl, _⟩ := w1
  have HL0 := Lib.hid hl
  obtain ⟨av, cv, rfl, hlv, _, _⟩ := hl
  unfold maxLen at hlv
  by_cases h0 : (1048576 : Int) < l.length
  · go_enter Try.func7, Try.ntmps7
    go_wp2
    go_ret
    exact ⟨rfl, Ext.refl _⟩
  · by_cases h1 : (1048576 : Int) < bulk A
    · have L1 := Lib.hid (lessened_no h1)
      clear h1
      go_enter Try.func7, Try.ntmps7
      go_wp2_with fail
      refine (szIntSS_any _ _ _ _ hA (by omega) (by omega)).mono ?_
      rintro e W1 ⟨rfl, x1⟩
      rw [L1.out]
      go_wp2
      go_ret
      exact ⟨rfl, x1⟩
    · obtain ⟨r, hr⟩ : ∃ r, r = (1048576 : Int) - bulk A := ⟨_, rfl⟩
      have hr0 : 0 ≤ r := by omega
      have hb : bulk A ≤ 1099511627776 := by omega
      have hb1 : l.length ≤ 1048576 := by omega
      have L1 : Hid (lessened 1048576 (bulk A) = r) := Lib.hid (by rw [hr]; exact lessened_yes (by omega))
      have HB := Lib.hid (show bulk A ≤ 1048576 by omega)
      have HB1 := Lib.hid hb1
      have hlenR : (orderA A l).length ≤ 1048576 := by
        have := orderA_len A l
        omega
      obtain ⟨g, hg⟩ : ∃ g, g = keysB A l := ⟨_, rfl⟩
      obtain ⟨L, hL⟩ : ∃ L, L = orderA A l := ⟨_, rfl⟩
      have cS : ∀ u p W, Intss W u A → Ints W p l → Calls Try.prog 35 #[u, p] W (TwoInts L g W) := fun u p W h h' => by rw [hg, hL]; exact specOrder_any _ _ _ _ _ h h'
      have cI : ∀ u p W, Intss W u A → Ints W p l → Calls Try.prog 37 #[u, p] W (TwoInts L g W) := fun u p W h h' => by rw [hg, hL]; exact implOrder_any _ _ _ _ _ h h'
      rw [← hL] at hlenR
      have CS := Lib.hid cS
      have CI := Lib.hid cI
      have HA := Lib.hid hA
      have HLR := Lib.hid hlenR
      clear cS cI hg hL hA hlenR h1 hr hb hb1
      go_enter Try.func7, Try.ntmps7
      go_wp2_with fail
      refine (szIntSS_any _ _ _ _ HA.out (by omega) (by omega)).mono ?_
      rintro e W1 ⟨rfl, x1⟩
      rw [L1.out]
      go_wp2_with fail
      refine (toIntSS_any _ _ _ (HA.out.ext x1) (by have := HB.out; omega)).mono ?_
      rintro e W2 ⟨u2, rfl, f2, x2⟩
      go_wp2_with fail
      refine (toIntS_any _ _ _ (HL0.out.ext (x1.trans x2)) (by have := HB1.out; omega)).mono ?_
      rintro e W2b ⟨u2b, rfl, f2b, x2b⟩
      go_wp2_with fail
      refine (CS.out _ _ _ (f2.ext x2b).intss f2b.ints).mono ?_
      rintro e W3 ⟨v3, rfl, f3, x3⟩
      have y3 := Lib.hid (((x1.trans x2).trans x2b).trans x3)
      have F3 := Lib.hid (And.intro (f3.more (Nat.zero_le _)) f3.und)
      clear x1 x2 x2b x3 f2 f2b f3
      go_wp2_with fail
      refine (toIntSS_any _ _ _ (HA.out.ext y3.out) (by have := HB.out; omega)).mono ?_
      rintro e W4 ⟨u4, rfl, f4, x4⟩
      have F4 := Lib.hid (f4.range (Nat.le_refl _))
      have X4 := Lib.hid x4
      clear f4 x4
      go_wp2_with fail
      refine (toIntS_any _ _ _ (HL0.out.ext (y3.out.trans X4.out)) (by have := HB1.out; omega)).mono ?_
      rintro e W4b ⟨u4b, rfl, f4b, x4b⟩
      have F4b := Lib.hid (And.intro f4b f4b.und)
      have X4b := Lib.hid x4b
      clear f4b x4b
      go_wp2_with fail
      refine (CI.out _ _ _ (F4.out.ext X4b.out).intss F4b.out.1.ints).mono ?_
      rintro e W5 ⟨v5, rfl, f5, x5⟩
      have hz : w.heap.size ≤ W3.heap.size ∧ W3.heap.size ≤ W4.heap.size ∧ W4.heap.size ≤ W4b.heap.size ∧ W4b.heap.size ≤ W5.heap.size := ⟨y3.out.size, X4.out.size, X4b.out.size, x5.size⟩
      have l5 : LiveI w W5 W3.heap.size W4b.heap.size v3 v5 L L := ⟨((y3.out.trans X4.out).trans X4b.out).trans x5, ⟨F3.out.1.ext ((X4.out.trans X4b.out).trans x5), F3.out.2⟩, f5⟩
      have f45 := F4.out.ext (X4b.out.trans x5)
      have f45b := F4b.out.1.ext x5
      have U4b := Lib.hid F4b.out.2
      have L5 := Lib.hid l5
      have F45 := Lib.hid f45
      have F45b := Lib.hid f45b
      have HZ := Lib.hid hz
      clear f5 x5 l5 f45 f45b hz F3 F4 F4b X4 X4b y3
      go_wp2_with fail
      refine (eqIntS_self _ _ L _ L5.out.2.2.ints L5.out.2.1.1.ints).mono ?_
      rintro e W6 ⟨rfl, x6⟩
      have L6 := Lib.hid (L5.out.ext x6)
      have F6 := Lib.hid (F45.out.ext x6)
      have F6b := Lib.hid (F45b.out.ext x6)
      clear x6 L5 F45 F45b
      have ng : (g != g) = false := by simp
      go_wp2_with fail
      refine (toIntSS_any _ _ _ (HA.out.ext L6.out.1) (by have := HB.out; omega)).mono ?_
      rintro e W7 ⟨u7, rfl, f7, x7⟩
      have L7 := Lib.hid (L6.out.ext x7)
      have F7 := Lib.hid (F6.out.ext x7)
      have F7b := Lib.hid (F6b.out.ext x7)
      have U7 := Lib.hid f7.intss
      clear x7 f7 L6 F6 F6b
      go_wp2_with fail
      refine (eqIntSS_one _ _ A _ F7.out.intss U7.out).mono ?_
      rintro e W8 ⟨rfl, x8⟩
      have L8 := Lib.hid (L7.out.ext x8)
      have F8 := Lib.hid (F7.out.ext x8)
      have F8b := Lib.hid (F7b.out.ext x8)
      clear x8 L7 F7 F7b U7
      go_wp2_with fail
      refine (toIntS_any _ _ _ (HL0.out.ext L8.out.1) (by have := HB1.out; omega)).mono ?_
      rintro e W8a ⟨u8a, rfl, f8a, x8a⟩
      have L8a := Lib.hid (L8.out.ext x8a)
      have F8a := Lib.hid (F8.out.ext x8a)
      have F8ab := Lib.hid (F8b.out.ext x8a)
      have U8a := Lib.hid f8a.ints
      clear x8a f8a L8 F8 F8b
      go_wp2_with fail
      refine (eqIntS_self _ _ l _ F8ab.out.ints U8a.out).mono ?_
      rintro e W8c ⟨rfl, x8c⟩
      have L8c := Lib.hid (L8a.out.ext x8c)
      have F8c := Lib.hid (F8a.out.ext x8c)
      have F8cb := Lib.hid (F8ab.out.ext x8c)
      clear x8c L8a F8a F8ab U8a
      go_wp2_with fail
      refine (markIntSS_ins W3.heap.size W4.heap.size _ A 1 _ F8c.out (by omega) (by omega) (by have := HB.out; omega)).mono ?_
      rintro e W9 ⟨rfl, k9⟩
      obtain ⟨q, hq⟩ : ∃ q, q = (1 : Int) + ((A.map List.length).sum : Int) := ⟨_, rfl⟩
      have hq0 : 0 ≤ q := by omega
      have hq1 : q ≤ 1048577 := by have := HB.out; unfold bulk at this; omega
      rw [← hq]
      have L9 := Lib.hid (L8c.out.ins k9 HZ.out.1 (Nat.le_refl _) HZ.out.2.2.1)
      have F9b := Lib.hid (F8cb.out.ins_high k9 (Nat.le_refl _))
      clear k9 hq L8c F8c F8cb
      go_wp2_with fail
      refine (markIntS_any W4.heap.size _ l q _ F9b.out hq0 (by have := HB1.out; omega)).mono ?_
      rintro e W9a ⟨rfl, m9a, t9a⟩
      have k9a : Ins W4.heap.size W4b.heap.size W9 W9a := Ins.of_grown t9a (fun b e => ⟨(World.ownsRow.lt F9b.out b e).1, U4b.out b e⟩)
      obtain ⟨q2, hq2⟩ : ∃ q2, q2 = q + (l.length : Int) := ⟨_, rfl⟩
      have hq20 : 0 ≤ q2 := by omega
      rw [← hq2]
      have L9a := Lib.hid (L9.out.ins k9a (by have := HZ.out; omega) HZ.out.2.1 (Nat.le_refl _))
      clear m9a t9a k9a hq2 F9b L9
      go_wp2_with fail
      refine (eqIntS_self _ _ L _ L9a.out.2.2.ints L9a.out.2.1.1.ints).mono ?_
      rintro e W10 ⟨rfl, x10⟩
      have L10 := Lib.hid (L9a.out.ext x10)
      clear x10 L9a
      go_wp2_with fail
      refine (markIntS_any W4b.heap.size _ L 1 _ L10.out.2.2 (by omega) (by have := HLR.out; omega)).mono ?_
      rintro e W11 ⟨rfl, m11, t11⟩
      have L11 := Lib.hid (L10.out.mark t11 m11 (by have := HZ.out; omega) (by have := HZ.out; omega))
      obtain ⟨m, hm⟩ : ∃ m, m = (1 : Int) + (L.length : Int) := ⟨_, rfl⟩
      have hm0 : 0 ≤ m := by omega
      rw [← hm]
      have HM := Lib.hid hm
      clear t11 m11 hm L10
      go_wp2_with fail
      refine (heldIntS_yes _ L.length 1 _ L11.out.2.2.ints (by omega) (by have := HLR.out; omega)).mono ?_
      rintro e W12 ⟨rfl, x12⟩
      rw [← HM.out]
      have nm : (m != m) = false := by simp
      have L12 := Lib.hid (L11.out.ext x12)
      clear x12 L11
      go_wp2_with fail
      refine (toIntSS_any _ _ _ (HA.out.ext L12.out.1) (by have := HB.out; omega)).mono ?_
      rintro e W13 ⟨u13, rfl, f13, x13⟩
      have L13 := Lib.hid (L12.out.ext x13)
      clear x13 L12
      go_wp2_with fail
      refine (toIntS_any _ _ _ (HL0.out.ext L13.out.1) (by have := HB1.out; omega)).mono ?_
      rintro e W13b ⟨u13b, rfl, f13b, x13b⟩
      have L13b := Lib.hid (L13.out.ext x13b)
      have F13 := Lib.hid (f13.ext x13b).intss
      clear x13b L13 f13
      go_wp2_with fail
      refine (CI.out _ _ _ F13.out f13b.ints).mono ?_
      rintro e W14 ⟨v14, rfl, f14, x14⟩
      have L14 := Lib.hid (L13b.out.ext x14)
      have F14 := Lib.hid f14
      clear f13b x14 f14 L13b F13
      go_wp2_with fail
      refine (eqIntS_self _ _ L _ F14.out.ints L14.out.2.1.1.ints).mono ?_
      rintro e W15 ⟨rfl, x15⟩
      have L15 := Lib.hid (L14.out.ext x15)
      clear x15 L14 F14
      go_wp2_with fail
      refine (heldIntS_yes _ L.length 1 _ L15.out.2.2.ints (by omega) (by have := HLR.out; omega)).mono ?_
      rintro e W16 ⟨rfl, x16⟩
      rw [← HM.out]
      have hx := L15.out.1.trans x16
      clear x16
      go_wp2
      go_ret
      exact ⟨rfl, hx⟩

/-! ### The frame -/
set_option maxRecDepth 100000 in
theorem lifted (os : Os) (started : os.Started) (H : Type) (enc : TypeId × Value → H) :
    ReturnsInHanded {} Try.checked os 7 .any (Rows.fnExactOrderOfSpec.pre6 enc Try.prog Try.f7 Rows.fnExactOrderOfRow.domain false) (Rows.fnExactOrderOfSpec.post enc Try.prog Try.f7 false true false false) := by
  refine returnsInHanded_of_change (C := Try.checked) own started (by kernel_rfl) Try.func7
    (ChangeSpec.witness6 (enc := enc) (C := Try.checked) false ⟨#[], #[.slice none 0 0, .slice none 0 0], []⟩ 8 (by kernel_rfl) (by kernel_rfl) (by kernel_rfl) (by kernel_rfl)) ?_
  intro W base args ds gs before hval0 hW hcnd _
  have hval : ∀ (j : Nat) t v, Try.f7.params[j]? = some t → args[j]? = some v → Value.okWide Try.prog W .any base t v := hval0
  have hW' := hW
  obtain ⟨p, q, hA0, hV, rfl, hfz, hnd⟩ := hW
  have hA : DataW.TrodAll enc Try.prog W 0 (fun _ => true) true Try.f7.params.toList args.toList ds p := hA0
  rw [Try.params7] at hA hval
  obtain ⟨v0, vs0, d0, ds0, p0, q0, hargs, rfl, rfl, h0, r0⟩ := trodAll_cons hA
  obtain ⟨v1, vs1, d1, ds1, p1, q1, rfl, rfl, rfl, h1, r1⟩ := trodAll_cons r0
  obtain ⟨rfl, rfl, rfl⟩ := trodAll_nil r1
  obtain rfl : args = #[v0, v1] := by cases args; simp_all
  obtain ⟨rfl, rfl⟩ := trodVars_none hV
  have k0 := h0
  have lt0 : ∀ x ∈ p0, x.block < W.heap.size := by obtain ⟨m, hm⟩ := k0; exact DataW.trod_lt m _ _ _ hm
  obtain ⟨l0, w0⟩ := open_intSS (hval 0 50 v0 rfl rfl) h0
  have k1 := h1
  have lt1 : ∀ x ∈ p1, x.block < W.heap.size := by obtain ⟨m, hm⟩ := k1; exact DataW.trod_lt m _ _ _ hm
  obtain ⟨l1, w1⟩ := open_intS (hval 1 27 v1 rfl rfl) h1
  clear hA0 hval0
  refine (walk v0 l0 v1 l1 W w0 w1).mono fun e W' ⟨he, bel⟩ => ?_
  subst he
  exact ⟨_, rfl, _, _, _, [], _, [], hW', trodAll_mk1 (shut_bool Try.underlying4 _), (trodAll_cons_mk (Below.trod laidOut (by kernel_rfl) (of_decide_eq_true (by kernel_rfl)) k0 bel lt0) (trodAll_cons_mk (Below.trod laidOut (by kernel_rfl) (of_decide_eq_true (by kernel_rfl)) k1 bel lt1) trodAll_mk0)), rfl, bel.frame _, fun h => by cases h⟩

theorem over : Rows.fnExactOrderOfRow.holds Try.pinned (OpenSpec.ofChange Rows.fnExactOrderOfSpec) :=
  OpenClaim.holds_of_wide 7 Try.f7 rfl rfl rfl rfl rfl rfl rfl ⟨rfl, rfl, rfl, rfl, rfl⟩ rfl rfl rfl rfl rfl (by kernel_rfl) Try.func7 (by kernel_rfl)
    (of_decide_eq_true (by kernel_rfl)) (by unfold Func.isWrapper; first | (rw [if_pos (by decide +kernel)]; kernel_rfl) | (rw [if_neg (by decide +kernel)]; exact ⟨rfl, rfl⟩))
    (fun os started H enc _ => lifted os started H enc)

/-- THE STATEMENT -/
theorem proved : Rows.FnExactOrderOfSaid := over
#print axioms proved
end Go.Proofs.Ytnmnbeklofnonaa.fnExactOrderOf
