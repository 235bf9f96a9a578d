/- What is proved: at every two lists of entries PrefixOf of the program answers as its model does, and writes into no argument. Conditions: none. -/
import Derived.Test.YtcpmfcigciknlaaRows
import Derived.Test.YtcpmfcigciknlaaPrefI
import Derived.Test.YtcpmfcigciknlaaLEnSz
import Derived.Test.YtcpmfcigciknlaaLEnTo
import Derived.Test.YtcpmfcigciknlaaLEnEq
import Derived.Test.YtcpmfcigciknlaaFrameEnS
import Derived.Deep.DeepCutAuto
import Derived.WalkKit
import Derived.ProofKit
import Derived.OpenShut
import Derived.ShutString
import Derived.ChangeOld
import Derived.Below
namespace Go.Proofs.Ytcpmfcigciknlaa.fnExactPrefixOf
open Go.ChangeShapes Go.WideShapes Go.ChangeAt Go.RowKit
set_option linter.unusedVariables false

theorem own : ownKnob Try.prog.godebug = none := by kernel_rfl
theorem laidOut : laidOutB Try.prog = true := by kernel_rfl

/-! ### The walk: the law's text returns true, and nothing that was there is turned. -/
set_option maxHeartbeats 8000000 in
set_option maxRecDepth 100000 in
theorem walk (v0 : Value) (A : List EnD) (v1 : Value) (B : List EnD) (w : World) (w0 : Enz w v0 A) (w1 : Enz w v1 B) :
    Calls Try.prog 4 #[v0, v1] w fun e w' => e = .returned (.bool true) ∧ Ext w w' := by
  have hba : bulkEn A = A.length := by
    unfold bulkEn
    have := weighEn_zero A
    omega
  have hbb : bulkEn B = B.length := by
    unfold bulkEn
    have := weighEn_zero B
    omega
  have HA := Lib.hid w0
  have HB := Lib.hid w1
  obtain ⟨av, cv, rfl, _⟩ := id w0
  obtain ⟨bv, dv, rfl, _⟩ := id w1
  clear w0 w1
  by_cases hbig : (1048576 : Int) < A.length
  · have L1 := Lib.hid (show lessened 1048576 (bulkEn A) = -1 from lessened_no (by rw [hba]; exact hbig))
    clear hbig hba hbb
    go_enter Try.func4, Try.ntmps4
    go_wp2_with fail
    refine (szEnS_any _ A _ _ HA.out (by omega) (by omega)).mono ?_
    rintro e W1 ⟨rfl, x1⟩
    rw [L1.out]
    go_wp2
    go_ret
    exact ⟨rfl, x1⟩
  obtain ⟨r, hr⟩ : ∃ r, r = (1048576 : Int) - A.length := ⟨_, rfl⟩
  have hr0 : 0 ≤ r := by omega
  have hr1 : r ≤ 1048576 := by omega
  have L1 := Lib.hid (show lessened 1048576 (bulkEn A) = r by rw [hr, ← hba]; exact lessened_yes (by rw [hba]; omega))
  have HBA : Hid (bulkEn A ≤ 549755813888) := Lib.hid (by rw [hba]; omega)
  clear hbig hba
  by_cases hbig : r < B.length
  · have L2 := Lib.hid (show lessened r (bulkEn B) = -1 from lessened_no (by rw [hbb]; exact hbig))
    clear hbig hbb hr
    go_enter Try.func4, Try.ntmps4
    go_wp2_with fail
    refine (szEnS_any _ A _ _ HA.out (by omega) (by omega)).mono ?_
    rintro e W1 ⟨rfl, x1⟩
    rw [L1.out]
    go_wp2_with fail
    refine (szEnS_any _ B _ _ (HB.out.ext x1) hr0 (by omega)).mono ?_
    rintro e W2 ⟨rfl, x2⟩
    rw [L2.out]
    go_wp2
    go_ret
    exact ⟨rfl, x1.trans x2⟩
  obtain ⟨r2, hr2⟩ : ∃ r2, r2 = r - B.length := ⟨_, rfl⟩
  have hr20 : 0 ≤ r2 := by omega
  have L2 := Lib.hid (show lessened r (bulkEn B) = r2 by rw [hr2, ← hbb]; exact lessened_yes (by rw [hbb]; omega))
  have HBB : Hid (bulkEn B ≤ 549755813888) := Lib.hid (by rw [hbb]; omega)
  clear hbig hbb hr hr2
  obtain ⟨p, hp⟩ : ∃ p, p = (prefOk A B && prefE A B) := ⟨_, rfl⟩
  obtain ⟨q, hq⟩ : ∃ q, q = prefOk A B := ⟨_, rfl⟩
  have cS : ∀ u v W, Enz W u A → Enz W v B → Calls Try.prog 12 #[u, v] W (TwoB p q W) := fun u v W h h' => by rw [hp, hq]; exact specPrefix_any u v A B W h h'
  have cI : ∀ u v W, Enz W u A → Enz W v B → Calls Try.prog 13 #[u, v] W (TwoB p q W) := fun u v W h h' => by rw [hp, hq]; exact implPrefix_any u v A B W h h'
  have CS := Lib.hid cS
  have CI := Lib.hid cI
  have np : (p != p) = false := by simp
  have nq : (q != q) = false := by simp
  clear cS cI hp hq
  go_enter Try.func4, Try.ntmps4
  go_wp2_with fail
  refine (szEnS_any _ A _ _ HA.out (by omega) (by omega)).mono ?_
  rintro e W1 ⟨rfl, x1⟩
  rw [L1.out]
  go_wp2_with fail
  refine (szEnS_any _ B _ _ (HB.out.ext x1) hr0 (by omega)).mono ?_
  rintro e W2 ⟨rfl, x2⟩
  rw [L2.out]
  have X2 := Lib.hid (x1.trans x2)
  clear x1 x2
  go_wp2_with fail
  refine (toEnS_any _ A _ (HA.out.ext X2.out) HBA.out).mono ?_
  rintro e W3 ⟨t3, rfl, f3, x3⟩
  go_wp2_with fail
  refine (toEnS_any _ B _ (HB.out.ext (X2.out.trans x3)) HBB.out).mono ?_
  rintro e W4 ⟨t4, rfl, f4, x4⟩
  go_wp2_with fail
  refine (CS.out _ _ _ (f3.reads.ext x4) f4.reads).mono ?_
  rintro e W5 ⟨rfl, x5⟩
  have X5 := Lib.hid (X2.out.trans (x3.trans (x4.trans x5)))
  clear f3 f4 x3 x4 x5
  go_wp2_with fail
  refine (toEnS_any _ A _ (HA.out.ext X5.out) HBA.out).mono ?_
  rintro e W6 ⟨t6, rfl, f6, x6⟩
  have F6 := Lib.hid f6.reads
  have X6 := Lib.hid x6
  clear f6 x6
  go_wp2_with fail
  refine (toEnS_any _ B _ (HB.out.ext (X5.out.trans X6.out)) HBB.out).mono ?_
  rintro e W7 ⟨t7, rfl, f7, x7⟩
  have F7 := Lib.hid f7.reads
  have X7 := Lib.hid x7
  clear f7 x7
  go_wp2_with fail
  refine (CI.out _ _ _ (F6.out.ext X7.out) F7.out).mono ?_
  rintro e W8 ⟨rfl, x8⟩
  have X8 := Lib.hid x8
  have Y8 := Lib.hid (X5.out.trans (X6.out.trans (X7.out.trans x8)))
  clear x8
  go_wp2_with fail
  refine (toEnS_any _ A _ (HA.out.ext Y8.out) HBA.out).mono ?_
  rintro e W9 ⟨t9, rfl, f9, x9⟩
  go_wp2_with fail
  refine (eqEnS_same _ _ A _ (F6.out.ext (X7.out.trans (X8.out.trans x9))) f9.reads).mono ?_
  rintro e W10 ⟨rfl, x10⟩
  have X10 := Lib.hid (x9.trans x10)
  clear f9 x9 x10
  go_wp2_with fail
  refine (toEnS_any _ B _ (HB.out.ext (Y8.out.trans X10.out)) HBB.out).mono ?_
  rintro e W11 ⟨t11, rfl, f11, x11⟩
  go_wp2_with fail
  refine (eqEnS_same _ _ B _ (F7.out.ext (X8.out.trans (X10.out.trans x11))) f11.reads).mono ?_
  rintro e W12 ⟨rfl, x12⟩
  have e12 : Ext w W12 := Y8.out.trans (X10.out.trans (x11.trans x12))
  clear f11 x11 x12
  go_wp2
  go_ret
  exact ⟨rfl, e12⟩

/-! ### The frame -/
set_option maxRecDepth 100000 in
theorem lifted (os : Os) (started : os.Started) (H : Type) (enc : TypeId × Value → H) :
    ReturnsInHanded {} Try.checked os 4 .any (Rows.fnExactPrefixOfSpec.pre6 enc Try.prog Try.f4 Rows.fnExactPrefixOfRow.domain false) (Rows.fnExactPrefixOfSpec.post enc Try.prog Try.f4 false true false false) := by
  refine returnsInHanded_of_change (C := Try.checked) own started (by kernel_rfl) Try.func4
    (ChangeSpec.witness6 (enc := enc) (C := Try.checked) false ⟨#[], #[.slice none 0 0, .slice none 0 0], []⟩ 8 (by kernel_rfl) (by kernel_rfl) (by kernel_rfl) (by kernel_rfl)) ?_
  intro W base args ds gs before hval0 hW hcnd _
  have hval : ∀ (j : Nat) t v, Try.f4.params[j]? = some t → args[j]? = some v → Value.okWide Try.prog W .any base t v := hval0
  have hW' := hW
  obtain ⟨p, q, hA0, hV, rfl, hfz, hnd⟩ := hW
  have hA : DataW.TrodAll enc Try.prog W 0 (fun _ => true) true Try.f4.params.toList args.toList ds p := hA0
  rw [Try.params4] at hA hval
  obtain ⟨v0, vs0, d0, ds0, p0, q0, hargs, rfl, rfl, h0, r0⟩ := trodAll_cons hA
  obtain ⟨v1, vs1, d1, ds1, p1, q1, rfl, rfl, rfl, h1, r1⟩ := trodAll_cons r0
  obtain ⟨rfl, rfl, rfl⟩ := trodAll_nil r1
  obtain rfl : args = #[v0, v1] := by cases args; simp_all
  obtain ⟨rfl, rfl⟩ := trodVars_none hV
  have k0 := h0
  have lt0 : ∀ x ∈ p0, x.block < W.heap.size := by obtain ⟨m, hm⟩ := k0; exact DataW.trod_lt m _ _ _ hm
  obtain ⟨l0, w0⟩ := open_entryS (hval 0 22 v0 rfl rfl) h0
  have k1 := h1
  have lt1 : ∀ x ∈ p1, x.block < W.heap.size := by obtain ⟨m, hm⟩ := k1; exact DataW.trod_lt m _ _ _ hm
  obtain ⟨l1, w1⟩ := open_entryS (hval 1 22 v1 rfl rfl) h1
  clear hA0 hval0
  refine (walk v0 l0 v1 l1 W w0 w1).mono fun e W' ⟨he, bel⟩ => ?_
  subst he
  exact ⟨_, rfl, _, _, _, [], _, [], hW', trodAll_mk1 (shut_bool Try.underlying4 _), (trodAll_cons_mk (Below.trod laidOut (by kernel_rfl) (of_decide_eq_true (by kernel_rfl)) k0 bel lt0) (trodAll_cons_mk (Below.trod laidOut (by kernel_rfl) (of_decide_eq_true (by kernel_rfl)) k1 bel lt1) trodAll_mk0)), rfl, bel.frame _, fun h => by cases h⟩

theorem over : Rows.fnExactPrefixOfRow.holds Try.pinned (OpenSpec.ofChange Rows.fnExactPrefixOfSpec) :=
  OpenClaim.holds_of_wide 4 Try.f4 rfl rfl rfl rfl rfl rfl rfl ⟨rfl, rfl, rfl, rfl, rfl⟩ rfl rfl rfl rfl rfl (by kernel_rfl) Try.func4 (by kernel_rfl)
    (of_decide_eq_true (by kernel_rfl)) (by unfold Func.isWrapper; first | (rw [if_pos (by decide +kernel)]; kernel_rfl) | (rw [if_neg (by decide +kernel)]; exact ⟨rfl, rfl⟩))
    (fun os started H enc _ => lifted os started H enc)

/-- THE STATEMENT -/
theorem proved : Rows.FnExactPrefixOfSaid := over
#print axioms proved
end Go.Proofs.Ytcpmfcigciknlaa.fnExactPrefixOf
