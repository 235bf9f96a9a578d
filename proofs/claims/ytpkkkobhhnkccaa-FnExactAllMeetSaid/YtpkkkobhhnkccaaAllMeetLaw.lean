/- What is proved: at every two lists of lists of numbers the function AllMeet of the program answers as its model does, both results, and writes into no argument. Conditions: none. -/
import Derived.Test.YtpkkkobhhnkccaaRows
import Derived.Test.YtpkkkobhhnkccaaMeet
import Derived.Test.YtpkkkobhhnkccaaIntSS2
import Derived.Test.YtpkkkobhhnkccaaFrameSS

import Derived.WalkKit
import Derived.ProofKit
import Derived.OpenShut
import Derived.ShutString
import Derived.ChangeOld
import Derived.Below
namespace Go.Proofs.Ytpkkkobhhnkccaa.fnExactAllMeet
open Go.ChangeShapes Go.WideShapes Go.ChangeAt Go.RowKit
set_option linter.unusedVariables false

theorem own : ownKnob Try.prog.godebug = none := by kernel_rfl
theorem laidOut : laidOutB Try.prog = true := by kernel_rfl

/-! ### The walk: the law's text returns true, and nothing that was there is turned. -/
set_option maxHeartbeats 2000000 in
theorem walk (u : Value) (A : List (List Int)) (v : Value) (B : List (List Int)) (w : World) (w0 : Intss w u A ∧ ∀ l ∈ A, ∀ x ∈ l, wf64 x) (w1 : Intss w v B ∧ ∀ l ∈ B, ∀ x ∈ l, wf64 x) :
    Calls Try.prog 5 #[u, v] w fun e w' => e = .returned (.bool true) ∧ Ext w w' := by
  obtain ⟨hA, wA⟩ := w0
  obtain ⟨hB, wB⟩ := w1
  have HWA := Lib.hid (show AllWf A from wA)
  have HWB := Lib.hid (show AllWf B from wB)
  clear wA wB
  by_cases h1 : (1048576 : Int) < bulk A
  · have l1 := lessened_no h1
    have L1 := Lib.hid l1
    clear l1 h1
    go_enter Try.func5, Try.ntmps5
    go_wp2_with fail
    refine (szIntSS_any _ _ _ _ hA (by omega) (by omega)).mono ?_
    rintro e W1 ⟨rfl, x1⟩
    rw [L1.out]
    go_wp2
    go_ret
    exact ⟨rfl, x1⟩
  · have l1 := lessened_yes (left := 1048576) (n := bulk A) (by omega)
    obtain ⟨r, hr⟩ : ∃ r, r = (1048576 : Int) - bulk A := ⟨_, rfl⟩
    rw [← hr] at l1
    have hr0 : 0 ≤ r := by omega
    have hr1 : r ≤ 1048576 := by omega
    have L1 := Lib.hid l1
    by_cases h2 : r < bulk B
    · have L2 := Lib.hid (lessened_no h2)
      clear l1 h1 h2 hr
      go_enter Try.func5, Try.ntmps5
      go_wp2_with fail
      refine (szIntSS_any _ _ _ _ hA (by omega) (by omega)).mono ?_
      rintro e W1 ⟨rfl, x1⟩
      rw [L1.out]
      go_wp2_with fail
      refine (szIntSS_any _ _ _ _ (hB.ext x1) hr0 (by omega)).mono ?_
      rintro e W2 ⟨rfl, x2⟩
      rw [L2.out]
      go_wp2
      go_ret
      exact ⟨rfl, x1.trans x2⟩
    · have hbA : bulk A ≤ 1099511627776 := by omega
      have hbB : bulk B ≤ 1099511627776 := by omega
      obtain ⟨s, hs⟩ : ∃ s, s = r - (bulk B : Int) := ⟨_, rfl⟩
      have l2 := lessened_yes (left := r) (n := bulk B) (by omega)
      rw [← hs] at l2
      have hs0 : 0 ≤ s := by omega
      have L2 := Lib.hid l2
      obtain ⟨x, hx⟩ : ∃ x, x = (fewB A B && meetAll A B) := ⟨_, rfl⟩
      obtain ⟨y, hy⟩ : ∃ y, y = fewB A B := ⟨_, rfl⟩
      have cS : ∀ p q W, Intss W p A → Intss W q B → Calls Try.prog 23 #[p, q] W (TwoB x y W) := fun p q W h h' => by rw [hx, hy]; exact specAllMeet_any _ _ _ _ _ h h'
      have cI : ∀ p q W, Intss W p A → Intss W q B → Calls Try.prog 19 #[p, q] W (TwoB x y W) := fun p q W h h' => by rw [hx, hy]; exact implAllMeet_any _ _ _ _ _ h h' HWA.out HWB.out hbA
      have CS := Lib.hid cS
      have CI := Lib.hid cI
      have HBA := Lib.hid hbA
      have HBB := Lib.hid hbB
      clear l1 l2 h1 h2 hr hs cS cI hx hy hbA hbB
      go_enter Try.func5, Try.ntmps5
      go_wp2_with fail
      refine (szIntSS_any _ _ _ _ hA (by omega) (by omega)).mono ?_
      rintro e W1 ⟨rfl, x1⟩
      rw [L1.out]
      go_wp2_with fail
      refine (szIntSS_any _ _ _ _ (hB.ext x1) hr0 (by omega)).mono ?_
      rintro e W2 ⟨rfl, x2⟩
      rw [L2.out]
      have y2 : Ext w W2 := x1.trans x2
      clear x1 x2
      go_wp2_with fail
      refine (toIntSS_any _ _ _ (hA.ext y2) HBA.out).mono ?_
      rintro e W3 ⟨p3, rfl, f3, x3⟩
      go_wp2_with fail
      refine (toIntSS_any _ _ _ (hB.ext (y2.trans x3)) HBB.out).mono ?_
      rintro e W4 ⟨p4, rfl, f4, x4⟩
      go_wp2_with fail
      refine (CS.out _ _ _ (f3.ext x4).intss f4.intss).mono ?_
      rintro e W5 ⟨rfl, x5⟩
      have y5 : Ext w W5 := ((y2.trans x3).trans x4).trans x5
      clear f3 f4 x3 x4 x5 y2
      go_wp2_with fail
      refine (toIntSS_any _ _ _ (hA.ext y5) HBA.out).mono ?_
      rintro e W6 ⟨p6, rfl, f6, x6⟩
      go_wp2_with fail
      refine (toIntSS_any _ _ _ (hB.ext (y5.trans x6)) HBB.out).mono ?_
      rintro e W7 ⟨p7, rfl, f7, x7⟩
      go_wp2_with fail
      refine (CI.out _ _ _ (f6.ext x7).intss f7.intss).mono ?_
      rintro e W8 ⟨rfl, x8⟩
      have y8 : Ext w W8 := ((y5.trans x6).trans x7).trans x8
      have g6 := (f6.ext (x7.trans x8)).intss
      have g7 := (f7.ext x8).intss
      clear f6 f7 x6 x7 x8 y5
      cases x
      all_goals
        cases y
        all_goals
          go_wp2_with fail
          refine (toIntSS_any _ _ _ (hA.ext y8) HBA.out).mono ?_
          rintro e W9 ⟨p9, rfl, f9, x9⟩
          go_wp2_with fail
          refine (eqIntSS_any _ _ _ _ _ (g6.ext x9) f9.intss).mono ?_
          rintro e W10 ⟨rfl, x10⟩
          rw [decide_eq_true rfl]
          go_wp2_with fail
          refine (toIntSS_any _ _ _ (hB.ext ((y8.trans x9).trans x10)) HBB.out).mono ?_
          rintro e W11 ⟨p11, rfl, f11, x11⟩
          go_wp2_with fail
          refine (eqIntSS_any _ _ _ _ _ (((g7.ext x9).ext x10).ext x11) f11.intss).mono ?_
          rintro e W12 ⟨rfl, x12⟩
          rw [decide_eq_true rfl]
          have y12 : Ext w W12 := (((y8.trans x9).trans x10).trans x11).trans x12
          clear x9 x10 x11 x12 y8 f9 f11 g6 g7
          go_wp2
          go_ret
          exact ⟨rfl, y12⟩

/-! ### The frame -/
set_option maxRecDepth 100000 in
theorem lifted (os : Os) (started : os.Started) (H : Type) (enc : TypeId × Value → H) :
    ReturnsInHanded {} Try.checked os 5 .any (Rows.fnExactAllMeetSpec.pre6 enc Try.prog Try.f5 Rows.fnExactAllMeetRow.domain false) (Rows.fnExactAllMeetSpec.post enc Try.prog Try.f5 false true false false) := by
  refine returnsInHanded_of_change (C := Try.checked) own started (by kernel_rfl) Try.func5
    (ChangeSpec.witness6 (enc := enc) (C := Try.checked) false ⟨#[], #[.slice none 0 0, .slice none 0 0], []⟩ 8 (by kernel_rfl) (by kernel_rfl) (by kernel_rfl) (by kernel_rfl)) ?_
  intro W base args ds gs before hval0 hW hcnd _
  have hval : ∀ (j : Nat) t v, Try.f5.params[j]? = some t → args[j]? = some v → Value.okWide Try.prog W .any base t v := hval0
  have hW' := hW
  obtain ⟨p, q, hA0, hV, rfl, hfz, hnd⟩ := hW
  have hA : DataW.TrodAll enc Try.prog W 0 (fun _ => true) true Try.f5.params.toList args.toList ds p := hA0
  rw [Try.params5] at hA hval
  obtain ⟨v0, vs0, d0, ds0, p0, q0, hargs, rfl, rfl, h0, r0⟩ := trodAll_cons hA
  obtain ⟨v1, vs1, d1, ds1, p1, q1, rfl, rfl, rfl, h1, r1⟩ := trodAll_cons r0
  obtain ⟨rfl, rfl, rfl⟩ := trodAll_nil r1
  obtain rfl : args = #[v0, v1] := by cases args; simp_all
  obtain ⟨rfl, rfl⟩ := trodVars_none hV
  have k0 := h0
  have lt0 : ∀ x ∈ p0, x.block < W.heap.size := by obtain ⟨m, hm⟩ := k0; exact DataW.trod_lt m _ _ _ hm
  obtain ⟨l0, w0⟩ := open_intSS (hval 0 28 v0 rfl rfl) h0
  have k1 := h1
  have lt1 : ∀ x ∈ p1, x.block < W.heap.size := by obtain ⟨m, hm⟩ := k1; exact DataW.trod_lt m _ _ _ hm
  obtain ⟨l1, w1⟩ := open_intSS (hval 1 28 v1 rfl rfl) h1
  clear hA0 hval0
  refine (walk v0 l0 v1 l1 W w0 w1).mono fun e W' ⟨he, bel⟩ => ?_
  subst he
  exact ⟨_, rfl, _, _, _, [], _, [], hW', trodAll_mk1 (shut_bool Try.underlying4 _), (trodAll_cons_mk (Below.trod laidOut (by kernel_rfl) (of_decide_eq_true (by kernel_rfl)) k0 bel lt0) (trodAll_cons_mk (Below.trod laidOut (by kernel_rfl) (of_decide_eq_true (by kernel_rfl)) k1 bel lt1) trodAll_mk0)), rfl, bel.frame _, fun h => by cases h⟩

theorem over : Rows.fnExactAllMeetRow.holds Try.pinned (OpenSpec.ofChange Rows.fnExactAllMeetSpec) :=
  OpenClaim.holds_of_wide 5 Try.f5 rfl rfl rfl rfl rfl rfl rfl ⟨rfl, rfl, rfl, rfl, rfl⟩ rfl rfl rfl rfl rfl (by kernel_rfl) Try.func5 (by kernel_rfl)
    (of_decide_eq_true (by kernel_rfl)) (by unfold Func.isWrapper; first | (rw [if_pos (by decide +kernel)]; kernel_rfl) | (rw [if_neg (by decide +kernel)]; exact ⟨rfl, rfl⟩))
    (fun os started H enc _ => lifted os started H enc)

/-- THE STATEMENT -/
theorem proved : Rows.FnExactAllMeetSaid := over
#print axioms proved
end Go.Proofs.Ytpkkkobhhnkccaa.fnExactAllMeet
