/- What is proved: at every list of entries and every account AccountOf of the program answers as its model does, every field, writes into no argument, and its answer owns its memory. Conditions: none. -/
import Derived.Test.YtcpmfcigciknlaaRows
import Derived.Test.YtcpmfcigciknlaaAcctI
import Derived.Test.YtcpmfcigciknlaaLEnSz
import Derived.Test.YtcpmfcigciknlaaLEnTo
import Derived.Test.YtcpmfcigciknlaaLEnEq
import Derived.Test.YtcpmfcigciknlaaMarkEntryS
import Derived.Test.YtcpmfcigciknlaaEnMark
import Derived.Test.YtcpmfcigciknlaaFrameEnS
import Derived.Deep.DeepCutAuto
import Derived.WalkKit
import Derived.ProofKit
import Derived.OpenShut
import Derived.ShutString
import Derived.ChangeOld
import Derived.Below
namespace Go.Proofs.Ytcpmfcigciknlaa.fnExactAccountOf
open Go.ChangeShapes Go.WideShapes Go.ChangeAt Go.RowKit
set_option linter.unusedVariables false

theorem own : ownKnob Try.prog.godebug = none := by kernel_rfl
theorem laidOut : laidOutB Try.prog = true := by kernel_rfl

/-! ### The walk: the law's text returns true, and nothing that was there is turned. -/
set_option maxHeartbeats 8000000 in
set_option maxRecDepth 100000 in
theorem walk (v0 : Value) (L : List EnD) (a : Int) (w : World) (w0 : Enz w v0 L) (w1 : wf64 a) :
    Calls Try.prog 3 #[v0, .int .i64 a] w fun e w' => e = .returned (.bool true) ∧ Ext w w' := by
  have hbk : bulkEn L = L.length := by
    unfold bulkEn
    have := weighEn_zero L
    omega
  have HA := Lib.hid w0
  obtain ⟨av, cv, rfl, _⟩ := id w0
  clear w0 w1
  by_cases hbig : (1048576 : Int) < L.length
  · have L1 := Lib.hid (show lessened 1048576 (bulkEn L) = -1 from lessened_no (by rw [hbk]; exact hbig))
    clear hbig hbk
    go_enter Try.func3, Try.ntmps3
    go_wp2_with fail
    refine (szEnS_any _ L _ _ HA.out (by omega) (by omega)).mono ?_
    rintro e W1 ⟨rfl, x1⟩
    rw [L1.out]
    go_wp2
    go_ret
    exact ⟨rfl, x1⟩
  obtain ⟨r, hr⟩ : ∃ r, r = (1048576 : Int) - L.length := ⟨_, rfl⟩
  have hr0 : 0 ≤ r := by omega
  have L1 := Lib.hid (show lessened 1048576 (bulkEn L) = r by rw [hr, ← hbk]; exact lessened_yes (by rw [hbk]; omega))
  have hl : L.length ≤ 1048576 := by omega
  have HBK : Hid (bulkEn L ≤ 1048576) := Lib.hid (by rw [hbk]; exact hl)
  have HBL : Hid (bulkEn L ≤ 549755813888) := Lib.hid (by rw [hbk]; omega)
  clear hbig hbk hr
  obtain ⟨D, hD⟩ : ∃ D, D = acctL L a := ⟨_, rfl⟩
  obtain ⟨b, hb⟩ : ∃ b, b = acctOk L a := ⟨_, rfl⟩
  have hDl : D.length ≤ 1048576 := by
    rw [hD]
    exact Nat.le_trans (acctL_len L a) hl
  have cS : ∀ v W, Enz W v L → Calls Try.prog 6 #[v, .int .i64 a] W (AcctI D b W) := fun v W h => by rw [hD, hb]; exact specAcct_any v L a W h
  have cI : ∀ v W, Enz W v L → Calls Try.prog 8 #[v, .int .i64 a] W (AcctI D b W) := fun v W h => by rw [hD, hb]; exact implAcct_any v L a W h
  have CS := Lib.hid cS
  have CI := Lib.hid cI
  obtain ⟨m2, hm2⟩ : ∃ m, m = 1 + 9 * (D.length : Int) := ⟨_, rfl⟩
  have hm20 : 1 ≤ m2 := by omega
  have HM2 := Lib.hid hm2
  have nd2 : decide (m2 < 0) = false := decide_eq_false (by omega)
  have nm : (m2 != m2) = false := by simp
  have nb : (b != b) = false := by simp
  have HDL := Lib.hid hDl
  clear cS cI hD hb hm2 hDl hl
  go_enter Try.func3, Try.ntmps3
  go_wp2_with fail
  refine (szEnS_any _ L _ _ HA.out (by omega) (by omega)).mono ?_
  rintro e W1 ⟨rfl, x1⟩
  rw [L1.out]
  go_wp2_with fail
  refine (toEnS_any _ L _ (HA.out.ext x1) HBL.out).mono ?_
  rintro e W2 ⟨t2, rfl, f2, x2⟩
  go_wp2_with fail
  refine (CS.out _ _ f2.reads).mono ?_
  rintro e W3 ⟨d0, rfl, hd0, x3⟩
  have D0 := Lib.hid hd0.reads
  have X3 := Lib.hid ((x1.trans x2).trans x3)
  clear f2 x1 x2 x3 hd0
  go_wp2_with fail
  refine (toEnS_any _ L _ (HA.out.ext X3.out) HBL.out).mono ?_
  rintro e W4 ⟨t4, rfl, f4, x4⟩
  have F4 := Lib.hid f4
  have X4 := Lib.hid x4
  clear f4 x4
  go_wp2_with fail
  refine (CI.out _ _ F4.out.reads).mono ?_
  rintro e W5 ⟨g1, rfl, d5, x5⟩
  have D5 := Lib.hid d5
  have X5 := Lib.hid x5
  have Y5 := Lib.hid (X4.out.trans x5)
  clear d5 x5
  go_wp2_with fail
  refine (eqEnS_same _ _ D _ D5.out.reads (D0.out.ext Y5.out)).mono ?_
  rintro e W7 ⟨rfl, x7⟩
  have X7 := Lib.hid x7
  clear x7
  go_wp2_with fail
  refine (toEnS_any _ L _ (HA.out.ext (X3.out.trans (Y5.out.trans X7.out))) HBL.out).mono ?_
  rintro e W8 ⟨t8, rfl, f8, x8⟩
  go_wp2_with fail
  refine (eqEnS_same _ _ L _ (F4.out.reads.ext (X5.out.trans (X7.out.trans x8))) f8.reads).mono ?_
  rintro e W9 ⟨rfl, x9⟩
  have X9 := Lib.hid (X7.out.trans (x8.trans x9))
  clear f8 x8 x9 X7
  have Z4 := Lib.hid (And.intro X4.out.size (And.intro X5.out.size X9.out.size))
  go_wp2_with fail
  refine (markEntryS_any W3.heap.size W4.heap.size _ L 1 _ (F4.out.kept (Stood.of_ext (X5.out.trans X9.out) (Nat.le_refl _))) (Nat.le_trans Z4.out.2.1 Z4.out.2.2) (by omega) (by omega) HBK.out).mono ?_
  rintro e W10 ⟨k, rfl, hk, _, i10⟩
  have kd : decide (k < 0) = false := decide_eq_false (by omega)
  have D10 := Lib.hid ((D5.out.kept (Stood.of_ext X9.out (Nat.le_refl _))).kept (i10.stood Z4.out.2.2 (.inr (Nat.le_refl _))))
  have Y10 := Lib.hid (i10.ext (Y5.out.trans X9.out) (Nat.le_refl _))
  have Z10 := Lib.hid (Nat.le_trans Z4.out.2.2 i10.size)
  clear i10 X9
  go_wp2_with fail
  refine (eqEnS_same _ _ D _ D10.out.reads (D0.out.ext Y10.out)).mono ?_
  rintro e W12 ⟨rfl, x12⟩
  have D12 := Lib.hid (D10.out.kept (Stood.of_ext x12 Z10.out))
  have Y12 := Lib.hid (Y10.out.trans x12)
  have Z12 := Lib.hid (Nat.le_trans Z10.out x12.size)
  clear x12
  go_wp2_with fail
  refine (ansEn_mark (k := 1) D12.out (by omega) (by omega) HDL.out).mono ?_
  rintro e W14 ⟨rfl, d14, i14⟩
  rw [← HM2.out]
  have D14 := Lib.hid d14
  have Y14 : Hid (Ext W3 W14) := Lib.hid (i14.ext Y12.out Z4.out.1)
  have Z14 := Lib.hid (Nat.le_trans Z12.out i14.size)
  clear d14 i14
  go_wp2_with fail
  refine (heldEnS_yes _ D.length 1 _ D14.out.reads (by omega) (by omega) HDL.out).mono ?_
  rintro e W16 ⟨rfl, x16⟩
  rw [← HM2.out]
  have Y16 := Lib.hid (Y14.out.trans x16)
  have D16 := Lib.hid (D14.out.kept (Stood.of_ext x16 Z14.out))
  have Z16 := Lib.hid (Nat.le_trans Z14.out x16.size)
  clear x16
  go_wp2_with fail
  refine (toEnS_any _ L _ (HA.out.ext (X3.out.trans Y16.out)) HBL.out).mono ?_
  rintro e W17 ⟨t17, rfl, f17, x17⟩
  go_wp2_with fail
  refine (CI.out _ _ f17.reads).mono ?_
  rintro e W18 ⟨h1, rfl, d18, x18⟩
  have D18 := Lib.hid d18.reads
  have X18 := Lib.hid (x17.trans x18)
  clear f17 x17 d18 x18
  go_wp2_with fail
  refine (eqEnS_same _ _ D _ D18.out (D0.out.ext (Y16.out.trans X18.out))).mono ?_
  rintro e W20 ⟨rfl, x20⟩
  have X20 := Lib.hid (X18.out.trans x20)
  clear x20
  go_wp2_with fail
  refine (heldEnS_yes _ D.length 1 _ (D16.out.kept (Stood.of_ext X20.out Z16.out)).reads (by omega) (by omega) HDL.out).mono ?_
  rintro e W22 ⟨rfl, x22⟩
  rw [← HM2.out]
  have e22 : Ext w W22 := X3.out.trans (Y16.out.trans (X20.out.trans x22))
  clear x22
  go_wp2
  go_ret
  exact ⟨rfl, e22⟩

/-! ### The frame -/
set_option maxRecDepth 100000 in
theorem lifted (os : Os) (started : os.Started) (H : Type) (enc : TypeId × Value → H) :
    ReturnsInHanded {} Try.checked os 3 .any (Rows.fnExactAccountOfSpec.pre6 enc Try.prog Try.f3 Rows.fnExactAccountOfRow.domain false) (Rows.fnExactAccountOfSpec.post enc Try.prog Try.f3 false true false false) := by
  refine returnsInHanded_of_change (C := Try.checked) own started (by kernel_rfl) Try.func3
    (ChangeSpec.witness6 (enc := enc) (C := Try.checked) false ⟨#[], #[.slice none 0 0, .int .i64 0], []⟩ 8 (by kernel_rfl) (by kernel_rfl) (by kernel_rfl) (by kernel_rfl)) ?_
  intro W base args ds gs before hval0 hW hcnd _
  have hval : ∀ (j : Nat) t v, Try.f3.params[j]? = some t → args[j]? = some v → Value.okWide Try.prog W .any base t v := hval0
  have hW' := hW
  obtain ⟨p, q, hA0, hV, rfl, hfz, hnd⟩ := hW
  have hA : DataW.TrodAll enc Try.prog W 0 (fun _ => true) true Try.f3.params.toList args.toList ds p := hA0
  rw [Try.params3] at hA hval
  obtain ⟨v0, vs0, d0, ds0, p0, q0, hargs, rfl, rfl, h0, r0⟩ := trodAll_cons hA
  obtain ⟨v1, vs1, d1, ds1, p1, q1, rfl, rfl, rfl, h1, r1⟩ := trodAll_cons r0
  obtain ⟨rfl, rfl, rfl⟩ := trodAll_nil r1
  obtain rfl : args = #[v0, v1] := by cases args; simp_all
  obtain ⟨rfl, rfl⟩ := trodVars_none hV
  have k0 := h0
  have lt0 : ∀ x ∈ p0, x.block < W.heap.size := by obtain ⟨m, hm⟩ := k0; exact DataW.trod_lt m _ _ _ hm
  obtain ⟨l0, w0⟩ := open_entryS (hval 0 22 v0 rfl rfl) h0
  have k1 := h1
  have lt1 : ∀ x ∈ p1, x.block < W.heap.size := by obtain ⟨m, hm⟩ := k1; exact DataW.trod_lt m _ _ _ hm
  obtain ⟨a1, rfl, _, _, w1⟩ := open_int Try.underlying3 (hval 1 3 v1 rfl rfl) h1
  clear hA0 hval0
  refine (walk v0 l0 a1 W w0 w1).mono fun e W' ⟨he, bel⟩ => ?_
  subst he
  exact ⟨_, rfl, _, _, _, [], _, [], hW', trodAll_mk1 (shut_bool Try.underlying4 _), (trodAll_cons_mk (Below.trod laidOut (by kernel_rfl) (of_decide_eq_true (by kernel_rfl)) k0 bel lt0) (trodAll_cons_mk (Below.trod laidOut (by kernel_rfl) (of_decide_eq_true (by kernel_rfl)) k1 bel lt1) trodAll_mk0)), rfl, bel.frame _, fun h => by cases h⟩

theorem over : Rows.fnExactAccountOfRow.holds Try.pinned (OpenSpec.ofChange Rows.fnExactAccountOfSpec) :=
  OpenClaim.holds_of_wide 3 Try.f3 rfl rfl rfl rfl rfl rfl rfl ⟨rfl, rfl, rfl, rfl, rfl⟩ rfl rfl rfl rfl rfl (by kernel_rfl) Try.func3 (by kernel_rfl)
    (of_decide_eq_true (by kernel_rfl)) (by unfold Func.isWrapper; first | (rw [if_pos (by decide +kernel)]; kernel_rfl) | (rw [if_neg (by decide +kernel)]; exact ⟨rfl, rfl⟩))
    (fun os started H enc _ => lifted os started H enc)

/-- THE STATEMENT -/
theorem proved : Rows.FnExactAccountOfSaid := over
#print axioms proved
end Go.Proofs.Ytcpmfcigciknlaa.fnExactAccountOf
