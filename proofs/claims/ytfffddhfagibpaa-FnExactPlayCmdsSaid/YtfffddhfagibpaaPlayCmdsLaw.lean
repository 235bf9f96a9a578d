/- What is proved: at every list of commands PlayCmds of the program answers as its model does, every field, in memory of its own. Conditions: none. -/
import Derived.Test.YtfffddhfagibpaaRows
import Derived.Test.YtfffddhfagibpaaMPlayCmdsg
import Derived.Test.YtfffddhfagibpaaMPlayCmdsh
import Derived.Test.YtfffddhfagibpaaMPlayCmdse
import Derived.Deep.DeepCutAuto
import Derived.WalkKit
import Derived.ProofKit
import Derived.OpenShut
import Derived.ShutString
import Derived.ChangeOld
import Derived.Below
namespace Go.Proofs.Ytfffddhfagibpaa.fnExactPlayCmds
open Go.ChangeShapes Go.WideShapes Go.ChangeAt Go.RowKit
set_option linter.unusedVariables false

theorem own : ownKnob Try.prog.godebug = none := by kernel_rfl
theorem laidOut : laidOutB Try.prog = true := by kernel_rfl

/-! ### The walk: the law's text returns true, and nothing that was there is turned. -/
set_option maxHeartbeats 8000000 in
set_option maxRecDepth 100000 in
theorem walk (v0 : Value) (L : List CmdD) (w : World) (w0 : Cdz w v0 L) :
    Calls Try.prog 6 #[v0] w fun e w' => e = .returned (.bool true) ∧ Ext w w' := by
  have hbk : bulkCd L = L.length := by
    unfold bulkCd
    have := weighCd_zero L
    omega
  have HA := Lib.hid w0
  obtain ⟨av, cv, rfl, _⟩ := id w0
  clear w0
  by_cases hbig : (1048576 : Int) < L.length
  · have L1 := Lib.hid (show lessened 1048576 (bulkCd L) = -1 from lessened_no (by rw [hbk]; exact hbig))
    clear hbig hbk
    go_enter Try.func6, Try.ntmps6
    go_wp2_with fail
    refine (szCdS_any _ L _ _ HA.out (by omega) (by omega)).mono ?_
    rintro e W1 ⟨rfl, x1⟩
    rw [L1.out]
    go_wp2
    go_ret
    exact ⟨rfl, x1⟩
  obtain ⟨r, hr⟩ : ∃ r, r = (1048576 : Int) - L.length := ⟨_, rfl⟩
  have hr0 : 0 ≤ r := by omega
  have L1 := Lib.hid (show lessened 1048576 (bulkCd L) = r by rw [hr, ← hbk]; exact lessened_yes (by rw [hbk]; omega))
  have hl : L.length ≤ 1048576 := by omega
  have HBK : Hid (bulkCd L ≤ 1048576) := Lib.hid (by rw [hbk]; exact hl)
  have HBL : Hid (bulkCd L ≤ 549755813888) := Lib.hid (by rw [hbk]; omega)
  clear hbig hbk hr
  obtain ⟨S, hS⟩ : ∃ S, S = playS L := ⟨_, rfl⟩
  obtain ⟨D, hD⟩ : ∃ D, D = playT L := ⟨_, rfl⟩
  obtain ⟨b, hb⟩ : ∃ b, b = cmdsB L := ⟨_, rfl⟩
  have hSl : S.length ≤ 4 := by
    rw [hS]
    unfold playS
    cases h : cmdsB L with
    | false => simp
    | true => rw [if_pos rfl]; exact Nat.le_of_eq (goodS_get (sumsAt_good (cmdsB_yes h).2 _ (Nat.le_refl _))).1
  have hDl : D.length ≤ 60 := by
    rw [hD]
    unfold playT
    cases h : cmdsB L with
    | false => simp
    | true => rw [if_pos rfl, toldN_len]; exact (cmdsB_yes h).1
  have cS : ∀ v W, Cdz W v L → Calls Try.prog 23 #[v] W (PlayedS S D b W) := fun v W h => by rw [hS, hD, hb]; exact specPlay_any v L W h
  have cI : ∀ v W, Cdz W v L → Calls Try.prog 25 #[v] W (PlayedI S D b W) := fun v W h => by rw [hS, hD, hb]; exact implPlay_any v L W h
  have CS := Lib.hid cS
  have CI := Lib.hid cI
  obtain ⟨m1, hm1⟩ : ∃ m, m = (1 : Int) + (S.length : Int) := ⟨_, rfl⟩
  obtain ⟨m2, hm2⟩ : ∃ m, m = m1 + 2 * (D.length : Int) := ⟨_, rfl⟩
  have hm10 : 1 ≤ m1 ∧ m1 ≤ 5 := by omega
  have hm20 : 1 ≤ m2 := by omega
  have HM1 := Lib.hid hm1
  have HM2 := Lib.hid hm2
  have HB1 := Lib.hid hm10
  have nd1 : decide (m1 < 0) = false := decide_eq_false (by omega)
  have nd2 : decide (m2 < 0) = false := decide_eq_false (by omega)
  have nm : (m2 != m2) = false := by simp
  have nb : (b != b) = false := by simp
  have HSL := Lib.hid hSl
  have HDL := Lib.hid hDl
  clear cS cI hS hD hb hm1 hm2 hSl hDl hm10 hl
  go_enter Try.func6, Try.ntmps6
  go_wp2_with fail
  refine (szCdS_any _ L _ _ HA.out (by omega) (by omega)).mono ?_
  rintro e W1 ⟨rfl, x1⟩
  rw [L1.out]
  go_wp2_with fail
  refine (toCdS_any _ L _ (HA.out.ext x1) HBL.out).mono ?_
  rintro e W2 ⟨t2, rfl, f2, x2⟩
  go_wp2_with fail
  refine (CS.out _ _ f2.reads).mono ?_
  rintro e W3 ⟨s0, d0, rfl, hs0, hd0, x3⟩
  have S0 := Lib.hid hs0
  have D0 := Lib.hid hd0
  have X3 := Lib.hid ((x1.trans x2).trans x3)
  clear f2 x1 x2 x3 hs0 hd0
  go_wp2_with fail
  refine (toCdS_any _ L _ (HA.out.ext X3.out) HBL.out).mono ?_
  rintro e W4 ⟨t4, rfl, f4, x4⟩
  have F4 := Lib.hid f4
  have X4 := Lib.hid x4
  clear f4 x4
  go_wp2_with fail
  refine (CI.out _ _ F4.out.reads).mono ?_
  rintro e W5 ⟨g0, g1, rfl, f5, d5, x5⟩
  have F5 := Lib.hid f5
  have D5 := Lib.hid d5
  have X5 := Lib.hid x5
  have Y5 := Lib.hid (X4.out.trans x5)
  clear f5 d5 x5
  go_wp2_with fail
  refine (eqIntS_any _ _ _ _ _ F5.out.ints (S0.out.ext Y5.out)).mono ?_
  rintro e W6 ⟨rfl, x6⟩
  rw [decide_eq_true rfl]
  go_wp2_with fail
  refine (eqTdS_same _ _ D _ (D5.out.ext x6).reads (D0.out.ext (Y5.out.trans x6))).mono ?_
  rintro e W7 ⟨rfl, x7⟩
  have X7 := Lib.hid (x6.trans x7)
  clear x6 x7
  go_wp2_with fail
  refine (toCdS_any _ L _ (HA.out.ext (X3.out.trans (Y5.out.trans X7.out))) HBL.out).mono ?_
  rintro e W8 ⟨t8, rfl, f8, x8⟩
  go_wp2_with fail
  refine (eqCdS_same _ _ L _ (F4.out.reads.ext (X5.out.trans (X7.out.trans x8))) f8.reads).mono ?_
  rintro e W9 ⟨rfl, x9⟩
  have X9 := Lib.hid (X7.out.trans (x8.trans x9))
  clear f8 x8 x9 X7
  have Z4 := Lib.hid (And.intro X4.out.size (Ext.size (X5.out.trans X9.out)))
  go_wp2_with fail
  refine (markCmdS_any W3.heap.size W4.heap.size _ L 1 _ (F4.out.kept (Stood.of_ext (X5.out.trans X9.out) (Nat.le_refl _))) Z4.out.2 (by omega) (by omega) HBK.out).mono ?_
  rintro e W10 ⟨k, rfl, hk, _, i10⟩
  have kd : decide (k < 0) = false := decide_eq_false (by omega)
  have F10 := Lib.hid (Fresh.ins_high (F5.out.ext X9.out) i10 (Nat.le_refl _))
  have D10 := Lib.hid ((D5.out.ext X9.out).ins i10 (Nat.le_refl _))
  have Y10 := Lib.hid (i10.ext (Y5.out.trans X9.out) (Nat.le_refl _))
  clear i10 X9
  go_wp2_with fail
  refine (eqIntS_any _ _ _ _ _ F10.out.ints (S0.out.ext Y10.out)).mono ?_
  rintro e W11 ⟨rfl, x11⟩
  rw [decide_eq_true rfl]
  go_wp2_with fail
  refine (eqTdS_same _ _ D _ (D10.out.ext x11).reads (D0.out.ext (Y10.out.trans x11))).mono ?_
  rintro e W12 ⟨rfl, x12⟩
  have X12 := Lib.hid (x11.trans x12)
  have F12 := Lib.hid (F10.out.ext (x11.trans x12))
  clear x11 x12
  go_wp2_with fail
  refine (markIntS_any _ _ S 1 _ F12.out (by omega) (by have := HSL.out; omega)).mono ?_
  rintro e W13 ⟨rfl, f13, t13⟩
  rw [← HM1.out]
  have F13 := Lib.hid f13
  have D13 := Lib.hid ((D10.out.ext X12.out).grown t13)
  have Y13 := Lib.hid (Ext.touch (Y10.out.trans X12.out) (F12.out.more Z4.out.1) t13)
  clear f13 t13 X12
  go_wp2_with fail
  refine (tdApart_mark D13.out (by have := HB1.out; omega) (by have := HB1.out; omega) (by have := HDL.out; omega)).mono ?_
  rintro e W14 ⟨rfl, d14, q14, t14, hq14, ha14⟩
  rw [← HM2.out]
  have F14 := Lib.hid (show Fresh W4.heap.size W14 g0 (marks 1 S.length) from World.ownsRow.kept F13.out t14 ha14)
  have D14 := Lib.hid d14
  have Y14 : Hid (Ext W3 W14) := Lib.hid (Below.grown Y13.out t14 (Ext.size Y13.out) (fun q hq => Nat.le_trans Z4.out.1 (hq14 q hq)))
  clear d14 t14 hq14 ha14
  go_wp2_with fail
  refine (heldIntS_yes _ S.length 1 _ F14.out.ints (by omega) (by have := HSL.out; omega)).mono ?_
  rintro e W15 ⟨rfl, x15⟩
  rw [← HM1.out]
  have D15 := Lib.hid (D14.out.ext x15)
  have F15 := Lib.hid (F14.out.ext x15)
  have Y15 := Lib.hid (Y14.out.trans x15)
  clear x15
  go_wp2_with fail
  refine (heldTdS_yes _ D.length m1 _ D15.out.reads (by have := HB1.out; omega) (by have := HB1.out; omega) (by have := HDL.out; omega)).mono ?_
  rintro e W16 ⟨rfl, x16⟩
  rw [← HM2.out]
  have Y16 := Lib.hid (Y15.out.trans x16)
  have F16 := Lib.hid (F15.out.ext x16)
  have D16 := Lib.hid (D15.out.ext x16)
  clear x16
  go_wp2_with fail
  refine (toCdS_any _ L _ (HA.out.ext (X3.out.trans Y16.out)) HBL.out).mono ?_
  rintro e W17 ⟨t17, rfl, f17, x17⟩
  go_wp2_with fail
  refine (CI.out _ _ f17.reads).mono ?_
  rintro e W18 ⟨h0, h1, rfl, f18, d18, x18⟩
  have F18 := Lib.hid f18.ints
  have D18 := Lib.hid d18.reads
  have X18 := Lib.hid (x17.trans x18)
  clear f17 x17 f18 d18 x18
  go_wp2_with fail
  refine (eqIntS_any _ _ _ _ _ F18.out (S0.out.ext (Y16.out.trans X18.out))).mono ?_
  rintro e W19 ⟨rfl, x19⟩
  rw [decide_eq_true rfl]
  go_wp2_with fail
  refine (eqTdS_same _ _ D _ (D18.out.ext x19) (D0.out.ext (Y16.out.trans (X18.out.trans x19)))).mono ?_
  rintro e W20 ⟨rfl, x20⟩
  have X20 := Lib.hid (X18.out.trans (x19.trans x20))
  clear x19 x20
  go_wp2_with fail
  refine (heldIntS_yes _ S.length 1 _ (F16.out.ext X20.out).ints (by omega) (by have := HSL.out; omega)).mono ?_
  rintro e W21 ⟨rfl, x21⟩
  rw [← HM1.out]
  have X21 := Lib.hid (X20.out.trans x21)
  clear x21
  go_wp2_with fail
  refine (heldTdS_yes _ D.length m1 _ ((D16.out.ext X21.out).reads) (by have := HB1.out; omega) (by have := HB1.out; omega) (by have := HDL.out; omega)).mono ?_
  rintro e W22 ⟨rfl, x22⟩
  rw [← HM2.out]
  have e22 : Ext w W22 := X3.out.trans (Y16.out.trans (X21.out.trans x22))
  clear x22
  go_wp2
  go_ret
  exact ⟨rfl, e22⟩

/-! ### The frame -/
set_option maxRecDepth 100000 in
theorem lifted (os : Os) (started : os.Started) (H : Type) (enc : TypeId × Value → H) :
    ReturnsInHanded {} Try.checked os 6 .any (Rows.fnExactPlayCmdsSpec.pre6 enc Try.prog Try.f6 Rows.fnExactPlayCmdsRow.domain false) (Rows.fnExactPlayCmdsSpec.post enc Try.prog Try.f6 false true false false) := by
  refine returnsInHanded_of_change (C := Try.checked) own started (by kernel_rfl) Try.func6
    (ChangeSpec.witness6 (enc := enc) (C := Try.checked) false ⟨#[], #[.slice none 0 0], []⟩ 8 (by kernel_rfl) (by kernel_rfl) (by kernel_rfl) (by kernel_rfl)) ?_
  intro W base args ds gs before hval0 hW hcnd _
  have hval : ∀ (j : Nat) t v, Try.f6.params[j]? = some t → args[j]? = some v → Value.okWide Try.prog W .any base t v := hval0
  have hW' := hW
  obtain ⟨p, q, hA0, hV, rfl, hfz, hnd⟩ := hW
  have hA : DataW.TrodAll enc Try.prog W 0 (fun _ => true) true Try.f6.params.toList args.toList ds p := hA0
  rw [Try.params6] at hA hval
  obtain ⟨v0, vs0, d0, ds0, p0, q0, hargs, rfl, rfl, h0, r0⟩ := trodAll_cons hA
  obtain ⟨rfl, rfl, rfl⟩ := trodAll_nil r0
  obtain rfl : args = #[v0] := by cases args; simp_all
  obtain ⟨rfl, rfl⟩ := trodVars_none hV
  have k0 := h0
  have lt0 : ∀ x ∈ p0, x.block < W.heap.size := by obtain ⟨m, hm⟩ := k0; exact DataW.trod_lt m _ _ _ hm
  obtain ⟨l0, w0⟩ := open_cmdS (hval 0 39 v0 rfl rfl) h0
  clear hA0 hval0
  refine (walk v0 l0 W w0).mono fun e W' ⟨he, bel⟩ => ?_
  subst he
  exact ⟨_, rfl, _, _, _, [], _, [], hW', trodAll_mk1 (shut_bool Try.underlying4 _), (trodAll_cons_mk (Below.trod laidOut (by kernel_rfl) (of_decide_eq_true (by kernel_rfl)) k0 bel lt0) trodAll_mk0), rfl, bel.frame _, fun h => by cases h⟩

theorem over : Rows.fnExactPlayCmdsRow.holds Try.pinned (OpenSpec.ofChange Rows.fnExactPlayCmdsSpec) :=
  OpenClaim.holds_of_wide 6 Try.f6 rfl rfl rfl rfl rfl rfl rfl ⟨rfl, rfl, rfl, rfl, rfl⟩ rfl rfl rfl rfl rfl (by kernel_rfl) Try.func6 (by kernel_rfl)
    (of_decide_eq_true (by kernel_rfl)) (by unfold Func.isWrapper; first | (rw [if_pos (by decide +kernel)]; kernel_rfl) | (rw [if_neg (by decide +kernel)]; exact ⟨rfl, rfl⟩))
    (fun os started H enc _ => lifted os started H enc)

/-- THE STATEMENT -/
theorem proved : Rows.FnExactPlayCmdsSaid := over
#print axioms proved
end Go.Proofs.Ytfffddhfagibpaa.fnExactPlayCmds
