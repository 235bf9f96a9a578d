/- What is proved: at every list of sums TotalOf of the program answers as its model does, both results. Conditions: none. -/
import Derived.Test.YtfffddhfagibpaaRows
import Derived.Test.YtfffddhfagibpaaMGoodSumsa
import Derived.WalkKit
import Derived.ProofKit
import Derived.OpenShut
import Derived.ShutString
import Derived.ChangeOld
import Derived.Below
namespace Go.Proofs.Ytfffddhfagibpaa.fnExactTotalOf
open Go.ChangeShapes Go.WideShapes Go.ChangeAt Go.RowKit
set_option linter.unusedVariables false

theorem own : ownKnob Try.prog.godebug = none := by kernel_rfl
theorem laidOut : laidOutB Try.prog = true := by kernel_rfl

/-! ### The walk: the law's text returns true, and nothing that was there is turned. -/
set_option maxHeartbeats 1000000 in
theorem walk (a1 : Value) (l : List Int) (w : World) (w1 : Ints w a1 l ∧ ∀ x ∈ l, wf64 x) :
    Calls Try.prog 7 #[a1] w fun e w' => e = .returned (.bool true) ∧ Ext w w' := by
  obtain ⟨hA, _⟩ := w1
  obtain ⟨a1, len1, cap1, rfl, hlen⟩ : ∃ (a : Option Addr) (k c : Nat), a1 = .slice a k c ∧ l.length = k := by
    obtain ⟨a, c, rfl, _⟩ := hA
    exact ⟨a, l.length, c, rfl, rfl⟩
  by_cases hbig : 1048576 < len1
  · clear hlen
    go_enter Try.func7, Try.ntmps7
    go_wp2
    go_ret
    exact ⟨rfl, Ext.refl _⟩
  · have hl : l.length ≤ 1048576 := by omega
    have hlen1 : len1 ≤ 1048576 := by omega
    have HL := Lib.hid hlen
    clear hlen hbig
    obtain ⟨b, hb⟩ : ∃ b, b = goodS l := ⟨_, rfl⟩
    obtain ⟨n, hn⟩ : ∃ n, n = totS l := ⟨_, rfl⟩
    have cS : ∀ v W, Ints W v l → Calls Try.prog 31 #[v] W (IntB n b W) := fun v W hv => by rw [hb, hn]; exact specTotal_any v l W hv (by omega)
    have cI : ∀ v W, Ints W v l → Calls Try.prog 32 #[v] W (IntB n b W) := fun v W hv => by rw [hb, hn]; exact implTotal_any v l W hv
    have CS := Lib.hid cS
    have CI := Lib.hid cI
    have nb : (b != b) = false := by simp
    have nn : (n != n) = false := by simp
    clear hb hn
    clear cS cI
    go_enter Try.func7, Try.ntmps7
    go_wp2_with fail
    refine (toIntS_any _ _ _ hA (by omega)).mono ?_
    rintro e W1 ⟨v1, rfl, f1, x1⟩
    go_wp2_with fail
    refine (CS.out _ _ f1.ints).mono ?_
    rintro e W2 ⟨rfl, x2⟩
    go_wp2_with fail
    refine (toIntS_any _ _ _ ((hA.ext x1).ext x2) (by omega)).mono ?_
    rintro e W3 ⟨x1v, rfl, f3, x3⟩
    go_wp2_with fail
    refine (CI.out _ _ f3.ints).mono ?_
    rintro e W4 ⟨rfl, x4⟩

    go_wp2_with fail
    refine (toIntS_any _ _ _ (hA.ext (((x1.trans x2).trans x3).trans x4)) (by omega)).mono ?_
    rintro e W6 ⟨t6, rfl, f6, x6⟩
    go_wp2_with fail
    refine (eqIntS_any _ _ _ _ _ (f3.ext (x4.trans x6)).ints f6.ints).mono ?_
    rintro e W7 ⟨rfl, x7⟩
    rw [decide_eq_true rfl]
    have e7 := ((((x1.trans x2).trans x3).trans x4).trans x6).trans x7
    go_wp2
    go_ret
    exact ⟨rfl, e7⟩

/-! ### The frame -/
set_option maxRecDepth 100000 in
theorem lifted (os : Os) (started : os.Started) (H : Type) (enc : TypeId × Value → H) :
    ReturnsInHanded {} Try.checked os 7 .any (Rows.fnExactTotalOfSpec.pre6 enc Try.prog Try.f7 Rows.fnExactTotalOfRow.domain false) (Rows.fnExactTotalOfSpec.post enc Try.prog Try.f7 false true false false) := by
  refine returnsInHanded_of_change (C := Try.checked) own started (by kernel_rfl) Try.func7
    (ChangeSpec.witness6 (enc := enc) (C := Try.checked) false ⟨#[], #[.slice none 0 0], []⟩ 8 (by kernel_rfl) (by kernel_rfl) (by kernel_rfl) (by kernel_rfl)) ?_
  intro W base args ds gs before hval0 hW hcnd _
  have hval : ∀ (j : Nat) t v, Try.f7.params[j]? = some t → args[j]? = some v → Value.okWide Try.prog W .any base t v := hval0
  have hW' := hW
  obtain ⟨p, q, hA0, hV, rfl, hfz, hnd⟩ := hW
  have hA : DataW.TrodAll enc Try.prog W 0 (fun _ => true) true Try.f7.params.toList args.toList ds p := hA0
  rw [Try.params7] at hA hval
  obtain ⟨v0, vs0, d0, ds0, p0, q0, hargs, rfl, rfl, h0, r0⟩ := trodAll_cons hA
  obtain ⟨rfl, rfl, rfl⟩ := trodAll_nil r0
  obtain rfl : args = #[v0] := by cases args; simp_all
  obtain ⟨rfl, rfl⟩ := trodVars_none hV
  have k0 := h0
  have lt0 : ∀ x ∈ p0, x.block < W.heap.size := by obtain ⟨m, hm⟩ := k0; exact DataW.trod_lt m _ _ _ hm
  obtain ⟨l0, w0⟩ := open_intS (hval 0 22 v0 rfl rfl) h0
  clear hA0 hval0
  refine (walk v0 l0 W w0).mono fun e W' ⟨he, bel⟩ => ?_
  subst he
  exact ⟨_, rfl, _, _, _, [], _, [], hW', trodAll_mk1 (shut_bool Try.underlying4 _), (trodAll_cons_mk (Below.trod laidOut (by kernel_rfl) (of_decide_eq_true (by kernel_rfl)) k0 bel lt0) trodAll_mk0), rfl, bel.frame _, fun h => by cases h⟩

theorem over : Rows.fnExactTotalOfRow.holds Try.pinned (OpenSpec.ofChange Rows.fnExactTotalOfSpec) :=
  OpenClaim.holds_of_wide 7 Try.f7 rfl rfl rfl rfl rfl rfl rfl ⟨rfl, rfl, rfl, rfl, rfl⟩ rfl rfl rfl rfl rfl (by kernel_rfl) Try.func7 (by kernel_rfl)
    (of_decide_eq_true (by kernel_rfl)) (by unfold Func.isWrapper; first | (rw [if_pos (by decide +kernel)]; kernel_rfl) | (rw [if_neg (by decide +kernel)]; exact ⟨rfl, rfl⟩))
    (fun os started H enc _ => lifted os started H enc)

/-- THE STATEMENT -/
theorem proved : Rows.FnExactTotalOfSaid := over
#print axioms proved
end Go.Proofs.Ytfffddhfagibpaa.fnExactTotalOf
