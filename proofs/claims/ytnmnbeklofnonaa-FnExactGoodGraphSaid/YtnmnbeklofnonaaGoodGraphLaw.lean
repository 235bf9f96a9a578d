/- What is proved: FnExactGoodGraph holds of every list of lists of integers: GoodGraph of the program answers as the model's, and turns nothing that was there. Conditions: none. -/
import Derived.Test.YtnmnbeklofnonaaRows
import Derived.Test.YtnmnbeklofnonaaImplGraph
import Derived.Test.YtnmnbeklofnonaaLiveI
import Derived.Test.YtnmnbeklofnonaaFrameSS
import Derived.WalkKit
import Derived.ProofKit
import Derived.OpenShut
import Derived.ShutString
import Derived.ChangeOld
import Derived.Below
namespace Go.Proofs.Ytnmnbeklofnonaa.fnExactGoodGraph
open Go.ChangeShapes Go.WideShapes Go.ChangeAt Go.RowKit
set_option linter.unusedVariables false

theorem own : ownKnob Try.prog.godebug = none := by kernel_rfl
theorem laidOut : laidOutB Try.prog = true := by kernel_rfl

/-! ### The walk: the law's text returns true, and nothing that was there is turned. -/
set_option maxHeartbeats 2000000 in
set_option maxRecDepth 100000 in
theorem walk (v0 : Value) (A : List (List Int)) (w : World) (w0 : Intss w v0 A ∧ ∀ l ∈ A, ∀ x ∈ l, wf64 x) :
    Calls Try.prog 4 #[v0] w fun e w' => e = .returned (.bool true) ∧ Ext w w' := by
  obtain ⟨hA, _⟩ := w0
  by_cases h1 : (1048576 : Int) < bulk A
  · have L1 := Lib.hid (lessened_no h1)
    clear h1
    go_enter Try.func4, Try.ntmps4
    go_wp2_with fail
    refine (szIntSS_any _ _ _ _ hA (by omega) (by omega)).mono ?_
    rintro e W1 ⟨rfl, x1⟩
    rw [L1.out]
    go_wp2
    go_ret
    exact ⟨rfl, x1⟩
  · obtain ⟨r, hr⟩ : ∃ r, r = (1048576 : Int) - bulk A := ⟨_, rfl⟩
    have hr0 : 0 ≤ r := by omega
    have hb : bulk A ≤ 1099511627776 := by omega
    have L1 : Hid (lessened 1048576 (bulk A) = r) := Lib.hid (by rw [hr]; exact lessened_yes (by omega))
    have HB := Lib.hid hb
    obtain ⟨g, hg⟩ : ∃ g, g = goodG A := ⟨_, rfl⟩
    have cS : ∀ u W, Intss W u A → Calls Try.prog 22 #[u] W (BoolExt g W) := fun u W h => by rw [hg]; exact specGoodGraph_any _ _ _ h
    have cI : ∀ u W, Intss W u A → Calls Try.prog 24 #[u] W (BoolExt g W) := fun u W h => by rw [hg]; exact implGoodGraph_any _ _ _ h
    have CS := Lib.hid cS
    have CI := Lib.hid cI
    have HA := Lib.hid hA
    clear cS cI hg hA h1 hr hb
    go_enter Try.func4, Try.ntmps4
    go_wp2_with fail
    refine (szIntSS_any _ _ _ _ HA.out (by omega) (by omega)).mono ?_
    rintro e W1 ⟨rfl, x1⟩
    rw [L1.out]
    go_wp2_with fail
    refine (toIntSS_any _ _ _ (HA.out.ext x1) HB.out).mono ?_
    rintro e W2 ⟨u2, rfl, f2, x2⟩
    go_wp2_with fail
    refine (CS.out _ _ f2.intss).mono ?_
    rintro e W3 ⟨rfl, x3⟩
    have y3 := Lib.hid ((x1.trans x2).trans x3)
    clear x1 x2 x3 f2
    go_wp2_with fail
    refine (toIntSS_any _ _ _ (HA.out.ext y3.out) HB.out).mono ?_
    rintro e W4 ⟨u4, rfl, f4, x4⟩
    have F4 := Lib.hid f4.intss
    have Y4 := Lib.hid (y3.out.trans x4)
    clear f4 x4 y3
    go_wp2_with fail
    refine (CI.out _ _ F4.out).mono ?_
    rintro e W5 ⟨rfl, x5⟩
    have Y5 := Lib.hid (Y4.out.trans x5)
    have F5 := Lib.hid (F4.out.ext x5)
    clear x5 F4 Y4
    have ng : (g != g) = false := by simp
    go_wp2_with fail
    refine (toIntSS_any _ _ _ (HA.out.ext Y5.out) HB.out).mono ?_
    rintro e W7 ⟨u7, rfl, f7, x7⟩
    have Y7 := Lib.hid (Y5.out.trans x7)
    have F7 := Lib.hid (F5.out.ext x7)
    have U7 := Lib.hid f7.intss
    clear x7 f7 Y5 F5
    go_wp2_with fail
    refine (eqIntSS_one _ _ A _ F7.out U7.out).mono ?_
    rintro e W8 ⟨rfl, x8⟩
    have hx := Y7.out.trans x8
    clear x8
    go_wp2
    go_ret
    exact ⟨rfl, hx⟩

/-! ### The frame -/
set_option maxRecDepth 100000 in
theorem lifted (os : Os) (started : os.Started) (H : Type) (enc : TypeId × Value → H) :
    ReturnsInHanded {} Try.checked os 4 .any (Rows.fnExactGoodGraphSpec.pre6 enc Try.prog Try.f4 Rows.fnExactGoodGraphRow.domain false) (Rows.fnExactGoodGraphSpec.post enc Try.prog Try.f4 false true false false) := by
  refine returnsInHanded_of_change (C := Try.checked) own started (by kernel_rfl) Try.func4
    (ChangeSpec.witness6 (enc := enc) (C := Try.checked) false ⟨#[], #[.slice none 0 0], []⟩ 8 (by kernel_rfl) (by kernel_rfl) (by kernel_rfl) (by kernel_rfl)) ?_
  intro W base args ds gs before hval0 hW hcnd _
  have hval : ∀ (j : Nat) t v, Try.f4.params[j]? = some t → args[j]? = some v → Value.okWide Try.prog W .any base t v := hval0
  have hW' := hW
  obtain ⟨p, q, hA0, hV, rfl, hfz, hnd⟩ := hW
  have hA : DataW.TrodAll enc Try.prog W 0 (fun _ => true) true Try.f4.params.toList args.toList ds p := hA0
  rw [Try.params4] at hA hval
  obtain ⟨v0, vs0, d0, ds0, p0, q0, hargs, rfl, rfl, h0, r0⟩ := trodAll_cons hA
  obtain ⟨rfl, rfl, rfl⟩ := trodAll_nil r0
  obtain rfl : args = #[v0] := by cases args; simp_all
  obtain ⟨rfl, rfl⟩ := trodVars_none hV
  have k0 := h0
  have lt0 : ∀ x ∈ p0, x.block < W.heap.size := by obtain ⟨m, hm⟩ := k0; exact DataW.trod_lt m _ _ _ hm
  obtain ⟨l0, w0⟩ := open_intSS (hval 0 50 v0 rfl rfl) h0
  clear hA0 hval0
  refine (walk v0 l0 W w0).mono fun e W' ⟨he, bel⟩ => ?_
  subst he
  exact ⟨_, rfl, _, _, _, [], _, [], hW', trodAll_mk1 (shut_bool Try.underlying4 _), (trodAll_cons_mk (Below.trod laidOut (by kernel_rfl) (of_decide_eq_true (by kernel_rfl)) k0 bel lt0) trodAll_mk0), rfl, bel.frame _, fun h => by cases h⟩

theorem over : Rows.fnExactGoodGraphRow.holds Try.pinned (OpenSpec.ofChange Rows.fnExactGoodGraphSpec) :=
  OpenClaim.holds_of_wide 4 Try.f4 rfl rfl rfl rfl rfl rfl rfl ⟨rfl, rfl, rfl, rfl, rfl⟩ rfl rfl rfl rfl rfl (by kernel_rfl) Try.func4 (by kernel_rfl)
    (of_decide_eq_true (by kernel_rfl)) (by unfold Func.isWrapper; first | (rw [if_pos (by decide +kernel)]; kernel_rfl) | (rw [if_neg (by decide +kernel)]; exact ⟨rfl, rfl⟩))
    (fun os started H enc _ => lifted os started H enc)

/-- THE STATEMENT -/
theorem proved : Rows.FnExactGoodGraphSaid := over
#print axioms proved
end Go.Proofs.Ytnmnbeklofnonaa.fnExactGoodGraph
