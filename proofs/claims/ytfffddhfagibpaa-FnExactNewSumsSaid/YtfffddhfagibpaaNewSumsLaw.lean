/- What is proved: NewSums of the program answers as its model does, in memory of its own. Conditions: none. -/
import Derived.Test.YtfffddhfagibpaaRows
import Derived.Test.YtfffddhfagibpaaMGoodSumsb
import Derived.Test.YtfffddhfagibpaaMGoodSumsa
import Derived.WalkKit
import Derived.ProofKit
import Derived.OpenShut
import Derived.ShutString
import Derived.ChangeOld
import Derived.Below
namespace Go.Proofs.Ytfffddhfagibpaa.fnExactNewSums
open Go.ChangeShapes Go.WideShapes Go.ChangeAt Go.RowKit
set_option linter.unusedVariables false

theorem own : ownKnob Try.prog.godebug = none := by kernel_rfl
theorem laidOut : laidOutB Try.prog = true := by kernel_rfl

/-! ### The walk: the law's text returns true, and nothing that was there is turned. -/
set_option maxHeartbeats 1000000 in
theorem walk (w : World) :
    Calls Try.prog 4 #[] w fun e w' => e = .returned (.bool true) ∧ Ext w w' := by
  obtain ⟨A, hAe⟩ : ∃ A : List Int, A = [100, 100, 100, 100] := ⟨_, rfl⟩
  have cS : ∀ W, Calls Try.prog 14 #[] W (NewInts A W) := fun W => by rw [hAe]; exact specNewSums_any W
  have cI : ∀ W, Calls Try.prog 15 #[] W (NewInts A W) := fun W => by rw [hAe]; exact implNewSums_any W
  have hAl : A.length = 4 := by rw [hAe]; rfl
  have CS := Lib.hid cS
  have CI := Lib.hid cI
  have HAL := Lib.hid hAl
  clear cS cI hAe hAl
  have hA0 : (0 : Int) ≤ 1 + (A.length : Int) ∧ 1 + (A.length : Int) ≤ 4611686018427387904 := by have := HAL.out; omega
  have HA0 := Lib.hid hA0
  clear hA0
  go_enter Try.func4, Try.ntmps4
  go_wp2_with fail
  refine (CS.out _).mono ?_
  rintro e W2 ⟨s0, rfl, f2, x2⟩
  go_wp2_with fail
  refine (CI.out _).mono ?_
  rintro e W4 ⟨g0, rfl, f4, x4⟩
  go_wp2_with fail
  refine (eqIntS_any _ _ _ _ _ f4.ints (f2.ext x4).ints).mono ?_
  rintro e W9 ⟨rfl, x9⟩
  rw [decide_eq_true rfl]
  go_wp2_with fail
  have g9 := f4.ext x9
  have s9 := (f2.ext x4).ext x9
  have e9 := (x2.trans x4).trans x9
  refine (markIntS_any _ _ A 1 _ g9 (by omega) HA0.out.2).mono ?_
  rintro e W10 ⟨rfl, f10, t10⟩
  have s10 : Fresh w.heap.size W10 s0 A := s9.touch t10 (f2.apart' f4 (Nat.le_refl _))
  have e10 : Ext w W10 := e9.touch (g9.more x2.size) t10
  clear t10
  go_wp2_with fail
  refine (heldIntS_yes _ _ _ _ f10.ints (by omega) HA0.out.2).mono ?_
  rintro e W11 ⟨rfl, x11⟩
  have n1 : ((1 + (A.length : Int)) != 1 + (A.length : Int)) = false := by simp
  have n2 : ¬ (1 + (A.length : Int)) < 0 := by have := HA0.out.1; omega
  go_wp2_with fail
  refine (CI.out _).mono ?_
  rintro e W13 ⟨h0, rfl, f13, x13⟩
  go_wp2_with fail
  refine (eqIntS_any _ _ _ _ _ f13.ints (s10.ext (x11.trans x13)).ints).mono ?_
  rintro e W14 ⟨rfl, x14⟩
  rw [decide_eq_true rfl]
  go_wp2_with fail
  have y14 : Ext W10 W14 := (x11.trans x13).trans x14
  refine (heldIntS_yes _ _ _ _ (f10.ext y14).ints (by omega) HA0.out.2).mono ?_
  rintro e W15 ⟨rfl, x15⟩
  have e15 : Ext w W15 := e10.trans (y14.trans x15)
  go_wp2
  go_ret
  exact ⟨rfl, e15⟩

/-! ### The frame -/
set_option maxRecDepth 100000 in
theorem lifted (os : Os) (started : os.Started) (H : Type) (enc : TypeId × Value → H) :
    ReturnsInHanded {} Try.checked os 4 .any (Rows.fnExactNewSumsSpec.pre6 enc Try.prog Try.f4 Rows.fnExactNewSumsRow.domain false) (Rows.fnExactNewSumsSpec.post enc Try.prog Try.f4 false true false false) := by
  refine returnsInHanded_of_change (C := Try.checked) own started (by kernel_rfl) Try.func4
    (ChangeSpec.witness6 (enc := enc) (C := Try.checked) false ⟨#[], #[], []⟩ 8 (by kernel_rfl) (by kernel_rfl) (by kernel_rfl) (by kernel_rfl)) ?_
  intro W base args ds gs before hval0 hW hcnd _
  have hval : ∀ (j : Nat) t v, Try.f4.params[j]? = some t → args[j]? = some v → Value.okWide Try.prog W .any base t v := hval0
  have hW' := hW
  obtain ⟨p, q, hA0, hV, rfl, hfz, hnd⟩ := hW
  have hA : DataW.TrodAll enc Try.prog W 0 (fun _ => true) true Try.f4.params.toList args.toList ds p := hA0
  rw [Try.params4] at hA hval
  obtain ⟨hargs, rfl, rfl⟩ := trodAll_nil hA
  obtain rfl : args = #[] := by cases args; simp_all
  obtain ⟨rfl, rfl⟩ := trodVars_none hV
  clear hA0 hval0
  refine (walk  W ).mono fun e W' ⟨he, bel⟩ => ?_
  subst he
  exact ⟨_, rfl, _, _, _, [], _, [], hW', trodAll_mk1 (shut_bool Try.underlying4 _), trodAll_mk0, rfl, bel.frame _, fun h => by cases h⟩

theorem over : Rows.fnExactNewSumsRow.holds Try.pinned (OpenSpec.ofChange Rows.fnExactNewSumsSpec) :=
  OpenClaim.holds_of_wide 4 Try.f4 rfl rfl rfl rfl rfl rfl rfl ⟨rfl, rfl, rfl, rfl, rfl⟩ rfl rfl rfl rfl rfl (by kernel_rfl) Try.func4 (by kernel_rfl)
    (of_decide_eq_true (by kernel_rfl)) (by unfold Func.isWrapper; first | (rw [if_pos (by decide +kernel)]; kernel_rfl) | (rw [if_neg (by decide +kernel)]; exact ⟨rfl, rfl⟩))
    (fun os started H enc _ => lifted os started H enc)

/-- THE STATEMENT -/
theorem proved : Rows.FnExactNewSumsSaid := over
#print axioms proved
end Go.Proofs.Ytfffddhfagibpaa.fnExactNewSums
