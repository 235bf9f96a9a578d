/- What is proved: at every number and every slice of numbers the function WithoutOnes of the program answers as its model does, writes into no argument, and its answer owns its memory. Conditions: none. -/
import Derived.Test.YthnoeknalpnadaaRows
import Derived.Test.YthnoeknalpnadaaWithout
import Derived.Test.YthnoeknalpnadaaIntS
import Derived.Test.YthnoeknalpnadaaFrameSS
import Derived.WalkKit
import Derived.ProofKit
import Derived.OpenShut
import Derived.ShutString
import Derived.ChangeOld
import Derived.Below
namespace Go.Proofs.Ythnoeknalpnadaa.fnExactWithoutOnes
open Go.ChangeShapes Go.WideShapes Go.ChangeAt Go.RowKit
set_option linter.unusedVariables false

theorem own : ownKnob Try.prog.godebug = none := by kernel_rfl
theorem laidOut : laidOutB Try.prog = true := by kernel_rfl

/-! ### The walk: the law's text returns true, and nothing that was there is turned. -/
set_option maxHeartbeats 1000000 in
theorem walk (a0 : Int) (a1 : Value) (l : List Int) (w : World) (w0 : wf64 a0) (w1 : Ints w a1 l ∧ ∀ x ∈ l, wf64 x) :
    Calls Try.prog 12 #[.int .i64 a0, a1] w fun e w' => e = .returned (.bool true) ∧ Ext w w' := by
  obtain ⟨hA, _⟩ := w1
  obtain ⟨a1, len1, cap1, rfl, hlen⟩ : ∃ (a : Option Addr) (k c : Nat), a1 = .slice a k c ∧ l.length = k := by
    obtain ⟨a, c, rfl, _⟩ := hA
    exact ⟨a, l.length, c, rfl, rfl⟩
  by_cases hbig : 1048576 < len1
  · clear hlen
    go_enter Try.func12, Try.ntmps12
    go_wp2
    go_ret
    exact ⟨rfl, Ext.refl _⟩
  · have hl : l.length ≤ 1048576 := by omega
    have hlen1 : len1 ≤ 1048576 := by omega
    have HL := Lib.hid hlen
    clear hlen hbig
    obtain ⟨A, hAe⟩ : ∃ A, A = without a0 l := ⟨_, rfl⟩
    obtain ⟨b, hbe⟩ : ∃ b, b = (isGrp a0 && allIn l 0 (a0 - 1)) := ⟨_, rfl⟩
    have cS : ∀ v W, Ints W v l → Calls Try.prog 60 #[.int .i64 a0, v] W (TwoInts A b W) := fun v W hv => by rw [hAe, hbe]; exact specWithout_any v l a0 W hv w0
    have cI : ∀ v W, Ints W v l → Calls Try.prog 62 #[.int .i64 a0, v] W (TwoInts A b W) := fun v W hv => by rw [hAe, hbe]; exact implWithout_any v l a0 W hv
    have hAl : A.length ≤ 5 := by
      rw [hAe]
      unfold without
      cases hc : (isGrp a0 && allIn l 0 (a0 - 1)) with
      | false => simp
      | true =>
        obtain ⟨hg, _⟩ := (Bool.and_eq_true _ _ ▸ hc : isGrp a0 = true ∧ allIn l 0 (a0 - 1) = true)
        have := keepOnes_len l a0.toNat
        have h5 : a0.toNat ≤ 5 := by rcases isGrp_of hg with h | h <;> omega
        simp only [if_true]
        omega
    have CS := Lib.hid cS
    have CI := Lib.hid cI
    clear cS cI hAe hbe
    go_enter Try.func12, Try.ntmps12
    go_wp2_with fail
    refine (toIntS_any _ _ _ hA (by omega)).mono ?_
    rintro e W1 ⟨v1, rfl, f1, x1⟩
    go_wp2_with fail
    refine (CS.out _ _ f1.ints).mono ?_
    rintro e W2 ⟨s0, rfl, f2, x2⟩
    go_wp2_with fail
    refine (toIntS_any _ _ _ ((hA.ext x1).ext x2) (by omega)).mono ?_
    rintro e W3 ⟨x1v, rfl, f3, x3⟩
    go_wp2_with fail
    refine (CI.out _ _ f3.ints).mono ?_
    rintro e W4 ⟨g0, rfl, f4, x4⟩
    go_wp2_with fail
    refine (eqIntS_any _ _ _ _ _ f4.ints ((f2.ext x3).ext x4).ints).mono ?_
    rintro e W5 ⟨rfl, x5⟩
    rw [decide_eq_true rfl]
    go_wp2_with fail
    refine (toIntS_any _ _ _ ((((hA.ext x1).ext x2).ext x3).ext (x4.trans x5)) (by omega)).mono ?_
    rintro e W6 ⟨t6, rfl, f6, x6⟩
    go_wp2_with fail
    refine (eqIntS_any _ _ _ _ _ (((f3.ext x4).ext x5).ext x6).ints f6.ints).mono ?_
    rintro e W7 ⟨rfl, x7⟩
    rw [decide_eq_true rfl]
    go_wp2_with fail
    -- the marks in the copy that was handed in
    have y7 : Ext W4 W7 := (x5.trans x6).trans x7
    have e7 : Ext w W7 := (((x1.trans x2).trans x3).trans x4).trans y7
    have f3' := f3.ext (x4.trans y7)
    refine (markIntS_any _ _ l 1 _ f3' (by omega) (by omega)).mono ?_
    rintro e W8 ⟨rfl, f8, t8⟩
    have g8 : Fresh W3.heap.size W8 g0 A := (f4.ext y7).touch t8 (f3.apart f4 (Nat.le_refl _))
    have s8 : Fresh W1.heap.size W8 s0 A := ((f2.ext (x3.trans x4)).ext y7).touch t8 (f2.apart' f3 (Nat.le_refl _))
    have e8 : Ext w W8 := e7.touch (f3'.more ((x1.trans x2).size)) t8
    clear f8 t8
    go_wp2_with fail
    refine (eqIntS_any _ _ _ _ _ g8.ints s8.ints).mono ?_
    rintro e W9 ⟨rfl, x9⟩
    rw [decide_eq_true rfl]
    go_wp2_with fail
    have g9 := g8.ext x9
    have s9 := s8.ext x9
    have e9 := e8.trans x9
    refine (markIntS_any _ _ A 1 _ g9 (by omega) (by omega)).mono ?_
    rintro e W10 ⟨rfl, f10, t10⟩
    have s10 : Fresh W1.heap.size W10 s0 A := s9.touch t10 ((f2.ext x3).apart' f4 (Nat.le_refl _))
    have e10 : Ext w W10 := e9.touch (g9.more (((x1.trans x2).trans x3).size)) t10
    clear t10
    go_wp2_with fail
    refine (heldIntS_yes _ _ _ _ f10.ints (by omega) (by omega)).mono ?_
    rintro e W11 ⟨rfl, x11⟩
    go_wp2_with fail
    refine (toIntS_any _ _ _ (hA.ext (e10.trans x11)) (by omega)).mono ?_
    rintro e W12 ⟨t12, rfl, f12, x12⟩
    go_wp2_with fail
    refine (CI.out _ _ f12.ints).mono ?_
    rintro e W13 ⟨h0, rfl, f13, x13⟩
    go_wp2_with fail
    refine (eqIntS_any _ _ _ _ _ f13.ints (s10.ext ((x11.trans x12).trans x13)).ints).mono ?_
    rintro e W14 ⟨rfl, x14⟩
    rw [decide_eq_true rfl]
    go_wp2_with fail
    have y14 : Ext W10 W14 := ((x11.trans x12).trans x13).trans x14
    refine (heldIntS_yes _ _ _ _ (f10.ext y14).ints (by omega) (by omega)).mono ?_
    rintro e W15 ⟨rfl, x15⟩
    have e15 : Ext w W15 := e10.trans (y14.trans x15)
    go_wp2
    go_ret
    exact ⟨rfl, e15⟩

/-! ### The frame -/
set_option maxRecDepth 100000 in
theorem lifted (os : Os) (started : os.Started) (H : Type) (enc : TypeId × Value → H) :
    ReturnsInHanded {} Try.checked os 12 .any (Rows.fnExactWithoutOnesSpec.pre6 enc Try.prog Try.f12 Rows.fnExactWithoutOnesRow.domain false) (Rows.fnExactWithoutOnesSpec.post enc Try.prog Try.f12 false true false false) := by
  refine returnsInHanded_of_change (C := Try.checked) own started (by kernel_rfl) Try.func12
    (ChangeSpec.witness6 (enc := enc) (C := Try.checked) false ⟨#[], #[.int .i64 0, .slice none 0 0], []⟩ 8 (by kernel_rfl) (by kernel_rfl) (by kernel_rfl) (by kernel_rfl)) ?_
  intro W base args ds gs before hval0 hW hcnd _
  have hval : ∀ (j : Nat) t v, Try.f12.params[j]? = some t → args[j]? = some v → Value.okWide Try.prog W .any base t v := hval0
  have hW' := hW
  obtain ⟨p, q, hA0, hV, rfl, hfz, hnd⟩ := hW
  have hA : DataW.TrodAll enc Try.prog W 0 (fun _ => true) true Try.f12.params.toList args.toList ds p := hA0
  rw [Try.params12] at hA hval
  obtain ⟨v0, vs0, d0, ds0, p0, q0, hargs, rfl, rfl, h0, r0⟩ := trodAll_cons hA
  obtain ⟨v1, vs1, d1, ds1, p1, q1, rfl, rfl, rfl, h1, r1⟩ := trodAll_cons r0
  obtain ⟨rfl, rfl, rfl⟩ := trodAll_nil r1
  obtain rfl : args = #[v0, v1] := by cases args; simp_all
  obtain ⟨rfl, rfl⟩ := trodVars_none hV
  have k0 := h0
  have lt0 : ∀ x ∈ p0, x.block < W.heap.size := by obtain ⟨m, hm⟩ := k0; exact DataW.trod_lt m _ _ _ hm
  obtain ⟨a0, rfl, _, _, w0⟩ := open_int Try.underlying3 (hval 0 3 v0 rfl rfl) h0
  have k1 := h1
  have lt1 : ∀ x ∈ p1, x.block < W.heap.size := by obtain ⟨m, hm⟩ := k1; exact DataW.trod_lt m _ _ _ hm
  obtain ⟨l1, w1⟩ := open_intS (hval 1 37 v1 rfl rfl) h1
  clear hA0 hval0
  refine (walk a0 v1 l1 W w0 w1).mono fun e W' ⟨he, bel⟩ => ?_
  subst he
  exact ⟨_, rfl, _, _, _, [], _, [], hW', trodAll_mk1 (shut_bool Try.underlying4 _), (trodAll_cons_mk (Below.trod laidOut (by kernel_rfl) (of_decide_eq_true (by kernel_rfl)) k0 bel lt0) (trodAll_cons_mk (Below.trod laidOut (by kernel_rfl) (of_decide_eq_true (by kernel_rfl)) k1 bel lt1) trodAll_mk0)), rfl, bel.frame _, fun h => by cases h⟩

theorem over : Rows.fnExactWithoutOnesRow.holds Try.pinned (OpenSpec.ofChange Rows.fnExactWithoutOnesSpec) :=
  OpenClaim.holds_of_wide 12 Try.f12 rfl rfl rfl rfl rfl rfl rfl ⟨rfl, rfl, rfl, rfl, rfl⟩ rfl rfl rfl rfl rfl (by kernel_rfl) Try.func12 (by kernel_rfl)
    (of_decide_eq_true (by kernel_rfl)) (by unfold Func.isWrapper; first | (rw [if_pos (by decide +kernel)]; kernel_rfl) | (rw [if_neg (by decide +kernel)]; exact ⟨rfl, rfl⟩))
    (fun os started H enc _ => lifted os started H enc)

/-- THE STATEMENT -/
theorem proved : Rows.FnExactWithoutOnesSaid := over
#print axioms proved
end Go.Proofs.Ythnoeknalpnadaa.fnExactWithoutOnes
