/- What is proved: at every net and every number the function BagFor of the program answers as its model does, writes into no argument, and its answer owns its memory. Conditions: none. -/
import Derived.Test.YtbffkidkfannhaaGreatRows
import Derived.Test.YtbffkidkfannhaaGreatMGoodNetu
import Derived.Test.YtbffkidkfannhaaGreatMGoodNetv
import Derived.Test.YtbffkidkfannhaaGreatMGoodNeth
import Derived.Deep.DeepCutAuto
import Derived.WalkKit
import Derived.ProofKit
import Derived.OpenShut
import Derived.ShutString
import Derived.ChangeOld
import Derived.Below
namespace Go.Proofs.YtbffkidkfannhaaGreat.fnExactBagFor
open Go.ChangeShapes Go.WideShapes Go.ChangeAt Go.RowKit
set_option linter.unusedVariables false

theorem own : ownKnob Tryz.prog.godebug = none := by kernel_rfl
theorem laidOut : laidOutB Tryz.prog = true := by kernel_rfl

/-! ### The walk: the law's text returns true, and nothing that was there is turned. -/
theorem keep6 {wb W W' : World} {a b c a' b' c' : Addr} {u v r u' v' r' : Value} (x : Ext W W') (h : Ext wb W ∧ W.cell? a = some u ∧ W.cell? b = some v ∧ W.cell? c = some r ∧ W.cell? a' = some u' ∧ W.cell? b' = some v' ∧ W.cell? c' = some r') : Ext wb W' ∧ W'.cell? a = some u ∧ W'.cell? b = some v ∧ W'.cell? c = some r ∧ W'.cell? a' = some u' ∧ W'.cell? b' = some v' ∧ W'.cell? c' = some r' :=
  ⟨h.1.trans x, x.cell h.2.1, x.cell h.2.2.1, x.cell h.2.2.2.1, x.cell h.2.2.2.2.1, x.cell h.2.2.2.2.2.1, x.cell h.2.2.2.2.2.2⟩
set_option maxHeartbeats 8000000 in
set_option maxRecDepth 100000 in
theorem walk (v1 v2 v3 : Value) (R : List RepD) (M : List MsgD) (K : List AskD) (n : Int) (w : World) (w1 : NetL w v1 v2 v3 R M K) (wn : wf64 n) :
    Calls Tryz.prog 5 #[.agg #[v1, v2, v3], .int .i64 n] w fun e w' => e = .returned (.bool true) ∧ Ext w w' := by
  have x0 : Ext w (w.alloc (.cells #[v1, v2, v3] 26)) := Ext.alloc (Ext.refl _) _
  have b0 := boxV_new w [v1, v2, v3] 26
  obtain ⟨wb, hwb⟩ : ∃ wb, wb = w.alloc (.cells #[v1, v2, v3] 26) := ⟨_, rfl⟩
  have b0 : BoxV wb w.heap.size [v1, v2, v3] := by rw [hwb]; exact b0
  rw [← hwb] at x0
  have HW := Lib.hid hwb
  have HB := Lib.hid b0
  have HA := Lib.hid (w1.ext x0)
  have X0 := Lib.hid x0
  clear hwb b0 w1 x0
  have c0 := HB.out.cell 0 _ rfl
  have c1 := HB.out.cell 1 _ rfl
  have c2 := HB.out.cell 2 _ rfl
  by_cases h1 : (1048576 : Int) < (bulkN R M K : Nat)
  · have L1 := Lib.hid (lessened_no h1)
    clear h1
    go_enter Tryz.func5, Tryz.ntmps5
    rw [HW.out] at c0 c1 c2
    go_wp2_with fail
    rw [← HW.out]
    refine (szNet_any _ _ _ _ _ _ _ _ HA.out (by omega) (by omega)).mono ?_
    rintro e W1 ⟨rfl, x1⟩
    rw [L1.out]
    have y1 := X0.out.trans x1
    clear x1 c0 c1 c2
    go_wp2
    go_ret
    exact ⟨rfl, y1⟩
  · obtain ⟨r, hr⟩ : ∃ r, r = (1048576 : Int) - (bulkN R M K : Nat) := ⟨_, rfl⟩
    have hr0 : 0 ≤ r := by omega
    have hl : bulkRep R ≤ 549755813888 ∧ bulkMes M ≤ 549755813888 ∧ bulkAsk K ≤ 549755813888 ∧ bulkN R M K ≤ 1048576 := by unfold bulkN at h1 ⊢; omega
    have L1 : Hid (lessened 1048576 (bulkN R M K) = r) := Lib.hid (by rw [hr]; exact lessened_yes (by omega))
    have HL := Lib.hid hl
    obtain ⟨A, hAe⟩ : ∃ A, A = bagOf R M K n := ⟨_, rfl⟩
    obtain ⟨b, hbe⟩ : ∃ b, b = bagB R M K n := ⟨_, rfl⟩
    have hAl : A.length ≤ 1048576 := by rw [hAe]; have h2 := bagOf_len R M K n; have h3 := hl.2.2.2; unfold bulkN bulkMes at h3; omega
    have cS : ∀ u v z W, NetL W u v z R M K → Calls Tryz.prog 15 #[.agg #[u, v, z], .int .i64 n] W (TwoInts A b W) := fun u v z W h => by rw [hAe, hbe]; exact specBagFor_any _ _ _ _ _ _ _ _ h HL.out.2.1 wn
    have cI : ∀ u v z W, NetL W u v z R M K → Calls Tryz.prog 16 #[.agg #[u, v, z], .int .i64 n] W (TwoInts A b W) := fun u v z W h => by rw [hAe, hbe]; exact implBagFor_any _ _ _ _ _ _ _ _ h HL.out.1 HL.out.2.1
    have CS := Lib.hid cS
    have CI := Lib.hid cI
    clear cS cI hAe hbe h1 hr hl wn
    have ng : (b != b) = false := by simp
    go_enter Tryz.func5, Tryz.ntmps5
    rw [HW.out] at c0 c1 c2
    go_wp2_with fail
    rw [← HW.out]
    refine (szNet_any _ _ _ _ _ _ _ _ HA.out (by omega) (by omega)).mono ?_
    rintro e W1 ⟨rfl, x1⟩
    rw [L1.out]
    clear c0 c1 c2
    have c0 := (HB.out.ext x1).cell 0 _ rfl
    have c1 := (HB.out.ext x1).cell 1 _ rfl
    have c2 := (HB.out.ext x1).cell 2 _ rfl
    go_wp2_with fail
    refine (toNet_any _ _ _ R M K _ (HA.out.ext x1) HL.out.1 HL.out.2.1 HL.out.2.2.1).mono ?_
    rintro e W2 ⟨p2, q2, s2, rfl, f2, x2⟩
    clear c0 c1 c2
    go_wp2_with fail
    refine (CS.out _ _ _ _ f2.reads).mono ?_
    rintro e W3 ⟨s0, rfl, fs, x3⟩
    have y3 : Ext wb W3 := (x1.trans x2).trans x3
    have S3 := Lib.hid fs
    have ZS : Hid (W2.heap.size ≤ W3.heap.size ∧ wb.heap.size ≤ W2.heap.size) := Lib.hid ⟨x3.size, (x1.trans x2).size⟩
    clear f2 x1 x2 x3 fs
    have c0 := (HB.out.ext y3).cell 0 _ rfl
    have c1 := (HB.out.ext y3).cell 1 _ rfl
    have c2 := (HB.out.ext y3).cell 2 _ rfl
    go_wp2_with fail
    refine (toNet_any _ _ _ R M K _ (HA.out.ext y3) HL.out.1 HL.out.2.1 HL.out.2.2.1).mono ?_
    rintro e W4 ⟨p4, q4, s4, rfl, f4, x4⟩
    clear c0 c1 c2
    obtain ⟨⟨a4, k4, rfl⟩, ⟨a5, k5, rfl⟩, ⟨a6, k6, rfl⟩⟩ := f4.form
    have x45 : Ext W4 (W4.alloc (.cells #[.slice a4 R.length k4, .slice a5 M.length k5, .slice a6 K.length k6] 35)) := Ext.alloc1 _ _
    have b4 := boxV_new W4 [.slice a4 R.length k4, .slice a5 M.length k5, .slice a6 K.length k6] 35
    have d0 : (W4.alloc (.cells #[.slice a4 R.length k4, .slice a5 M.length k5, .slice a6 K.length k6] 35)).cell? ⟨W4.heap.size, 0, none⟩ = some (.slice a4 R.length k4) := b4.cell 0 _ rfl
    have d1 : (W4.alloc (.cells #[.slice a4 R.length k4, .slice a5 M.length k5, .slice a6 K.length k6] 35)).cell? ⟨W4.heap.size, 1, none⟩ = some (.slice a5 M.length k5) := b4.cell 1 _ rfl
    have d2 : (W4.alloc (.cells #[.slice a4 R.length k4, .slice a5 M.length k5, .slice a6 K.length k6] 35)).cell? ⟨W4.heap.size, 2, none⟩ = some (.slice a6 K.length k6) := b4.cell 2 _ rfl
    have Y4 := Lib.hid ((y3.trans x4).trans x45)
    have Y34 := Lib.hid (x4.trans x45)
    have G4 := Lib.hid (f4.kept (Stood.of_ext x45 (Nat.le_refl _)))
    have ZG : Hid (W4.heap.size ≤ (W4.alloc (.cells #[.slice a4 R.length k4, .slice a5 M.length k5, .slice a6 K.length k6] 35)).heap.size) := Lib.hid x45.size
    have HB4 := Lib.hid (show BoxV (W4.alloc (.cells #[.slice a4 R.length k4, .slice a5 M.length k5, .slice a6 K.length k6] 35)) W4.heap.size [.slice a4 R.length k4, .slice a5 M.length k5, .slice a6 K.length k6] from b4)
    clear f4 x4 y3 x45 b4
    go_wp2_with fail
    refine (CI.out _ _ _ _ G4.out.reads).mono ?_
    rintro e W5 ⟨g0, rfl, fg, x5⟩
    have X5 := Lib.hid x5
    have F5 := Lib.hid fg
    clear fg x5 d0 d1 d2
    go_wp2_with fail
    refine (eqIntS_any _ _ _ _ _ F5.out.ints (S3.out.ext (Y34.out.trans X5.out)).ints).mono ?_
    rintro e W6 ⟨rfl, x6⟩
    rw [decide_eq_true rfl]
    have X6 := Lib.hid (X5.out.trans x6)
    have y6 : Ext wb W6 := Y4.out.trans X6.out
    have c0 := (HB.out.ext y6).cell 0 _ rfl
    have c1 := (HB.out.ext y6).cell 1 _ rfl
    have c2 := (HB.out.ext y6).cell 2 _ rfl
    have d0 := (HB4.out.ext X6.out).cell 0 _ rfl
    have d1 := (HB4.out.ext X6.out).cell 1 _ rfl
    have d2 := (HB4.out.ext X6.out).cell 2 _ rfl
    have HI6 := Lib.hid (G4.out.reads.ext X6.out)
    have HJ6 := Lib.hid (HA.out.ext y6)
    have F6 := Lib.hid (F5.out.ext x6)
    clear x6 y6 X5 F5
    go_wp2
    go_region_held3 (fun W => Ext W6 W ∧ W.cell? ⟨w.heap.size, 0, none⟩ = some v1 ∧ W.cell? ⟨w.heap.size, 1, none⟩ = some v2 ∧ W.cell? ⟨w.heap.size, 2, none⟩ = some v3 ∧ W.cell? ⟨W4.heap.size, 0, none⟩ = some (.slice a4 R.length k4) ∧ W.cell? ⟨W4.heap.size, 1, none⟩ = some (.slice a5 M.length k5) ∧ W.cell? ⟨W4.heap.size, 2, none⟩ = some (.slice a6 K.length k6)) (first | (with_reducible exact keep6 (by assumption) (by assumption)) | (exact ⟨Ext.drew (Ext.refl _), c0, c1, c2, d0, d1, d2⟩)) (first | (go_at_call 8; refine (toNet_any _ _ _ R M K _ (HJ6.out.ext (And.left (by assumption))) HL.out.1 HL.out.2.1 HL.out.2.2.1).mono ?_; rintro e W71 ⟨p6, q6, s6, rfl, f6, x71⟩) | (go_at_call 11; refine (eqNet_same _ _ _ _ _ _ R M K _ (HI6.out.ext (And.left (by assumption))) (NetM.reads (by assumption))).mono ?_; rintro e W7 ⟨rfl, x7⟩))
    rename_i hH
    have X7 := Lib.hid (X6.out.trans hH.1)
    have F7 := Lib.hid (F6.out.ext hH.1)
    clear hH x71 x7 f6 c0 c1 c2 d0 d1 d2
    have d0 := (HB4.out.ext X7.out).cell 0 _ rfl
    have d1 := (HB4.out.ext X7.out).cell 1 _ rfl
    have d2 := (HB4.out.ext X7.out).cell 2 _ rfl
    go_wp2_with fail
    refine (markNet_any W3.heap.size W4.heap.size _ _ _ R M K 1 _ (G4.out.kept (Stood.of_ext X7.out ZG.out)) (Nat.le_trans ZG.out X7.out.size) (by omega) (by omega) HL.out.2.2.2).mono ?_
    rintro e W8 ⟨kk, rfl, kl, _, i8⟩
    clear d0 d1 d2
    have S8 := Lib.hid (S3.out.ins_low (S3.out.ext (Y34.out.trans X7.out)) i8 (Nat.le_refl _))
    have F8 := Lib.hid (F7.out.ins_high i8 ZG.out)
    have Y8 := Lib.hid (i8.ext (Y4.out.trans X7.out) (Nat.le_trans ZS.out.2 ZS.out.1))
    have kn : 0 ≤ kk := by omega
    have kd : decide (kk < 0) = false := decide_eq_false (by omega)
    have B8 : Hid (W3.heap.size ≤ W8.heap.size) := Lib.hid (Nat.le_trans (Y34.out.trans X7.out).size i8.size)
    clear i8 kl X6 F6 HI6 HJ6 F7
    go_wp2_with fail
    refine (eqIntS_any _ _ _ _ _ F8.out.ints S8.out.ints).mono ?_
    rintro e W9 ⟨rfl, x9⟩
    rw [decide_eq_true rfl]
    have F9 := Lib.hid (F8.out.ext x9)
    have S9 := Lib.hid (S8.out.ext x9)
    have Y9 := Lib.hid (Y8.out.trans x9)
    clear x9 F8 S8 Y8
    go_wp2_with fail
    refine (markIntS_any _ _ A 1 _ F9.out (by omega) (by omega)).mono ?_
    rintro e W10 ⟨rfl, f10, t10⟩
    have S10 := Lib.hid (S9.out.touch t10 (S3.out.apart' F9.out Y34.out.size))
    have Y10 := Lib.hid (Y9.out.touch (F9.out.more Y4.out.size) t10)
    have F10 := Lib.hid f10
    clear f10 t10 S9 F9 Y9
    go_wp2_with fail
    refine (heldIntS_yes _ _ _ _ F10.out.ints (by omega) (by omega)).mono ?_
    rintro e W11 ⟨rfl, x11⟩
    have X11 := Lib.hid x11
    have y11 : Ext wb W11 := Y10.out.trans x11
    have Y11 := Lib.hid y11
    have c0 := (HB.out.ext y11).cell 0 _ rfl
    have c1 := (HB.out.ext y11).cell 1 _ rfl
    have c2 := (HB.out.ext y11).cell 2 _ rfl
    clear x11 y11
    go_wp2_with fail
    refine (toNet_any _ _ _ R M K _ (HA.out.ext Y11.out) HL.out.1 HL.out.2.1 HL.out.2.2.1).mono ?_
    rintro e W12 ⟨p12, q12, s12, rfl, f12, x12⟩
    clear c0 c1 c2
    go_wp2_with fail
    refine (CI.out _ _ _ _ f12.reads).mono ?_
    rintro e W13 ⟨h0, rfl, f13, x13⟩
    have F13 := Lib.hid f13
    have X13 := Lib.hid ((X11.out.trans x12).trans x13)
    clear f12 f13 x12 x13
    go_wp2_with fail
    refine (eqIntS_any _ _ _ _ _ F13.out.ints (S10.out.ext X13.out).ints).mono ?_
    rintro e W14 ⟨rfl, x14⟩
    rw [decide_eq_true rfl]
    have X14 := Lib.hid (X13.out.trans x14)
    clear x14
    go_wp2_with fail
    refine (heldIntS_yes _ _ _ _ (F10.out.ext X14.out).ints (by omega) (by omega)).mono ?_
    rintro e W15 ⟨rfl, x15⟩
    have e15 : Ext w W15 := X0.out.trans (Y10.out.trans (X14.out.trans x15))
    clear x15
    go_wp2
    go_ret
    exact ⟨rfl, e15⟩

/-! ### The frame -/
set_option maxRecDepth 100000 in
theorem lifted (os : Os) (started : os.Started) (H : Type) (enc : TypeId × Value → H) :
    ReturnsInHanded {} Tryz.checked os 5 .any (Rows.fnExactBagForSpec.pre6 enc Tryz.prog Tryz.f5 Rows.fnExactBagForRow.domain false) (Rows.fnExactBagForSpec.post enc Tryz.prog Tryz.f5 false true false false) := by
  refine returnsInHanded_of_change (C := Tryz.checked) own started (by kernel_rfl) Tryz.func5
    (ChangeSpec.witness6 (enc := enc) (C := Tryz.checked) false ⟨#[], #[.agg #[.slice none 0 0, .slice none 0 0, .slice none 0 0], .int .i64 0], []⟩ 8 (by kernel_rfl) (by kernel_rfl) (by kernel_rfl) (by kernel_rfl)) ?_
  intro W base args ds gs before hval0 hW hcnd _
  have hval : ∀ (j : Nat) t v, Tryz.f5.params[j]? = some t → args[j]? = some v → Value.okWide Tryz.prog W .any base t v := hval0
  have hW' := hW
  obtain ⟨p, q, hA0, hV, rfl, hfz, hnd⟩ := hW
  have hA : DataW.TrodAll enc Tryz.prog W 0 (fun _ => true) true Tryz.f5.params.toList args.toList ds p := hA0
  rw [Tryz.params5] at hA hval
  obtain ⟨v0, vs0, d0, ds0, p0, q0, hargs, rfl, rfl, h0, r0⟩ := trodAll_cons hA
  obtain ⟨v1, vs1, d1, ds1, p1, q1, rfl, rfl, rfl, h1, r1⟩ := trodAll_cons r0
  obtain ⟨rfl, rfl, rfl⟩ := trodAll_nil r1
  obtain rfl : args = #[v0, v1] := by cases args; simp_all
  obtain ⟨rfl, rfl⟩ := trodVars_none hV
  have k0 := h0
  have lt0 : ∀ x ∈ p0, x.block < W.heap.size := by obtain ⟨m, hm⟩ := k0; exact DataW.trod_lt m _ _ _ hm
  obtain ⟨u0, x0, z0, l0, e0, g0, rfl, w0⟩ := open_net (hval 0 26 v0 rfl rfl) h0
  have k1 := h1
  have lt1 : ∀ x ∈ p1, x.block < W.heap.size := by obtain ⟨m, hm⟩ := k1; exact DataW.trod_lt m _ _ _ hm
  obtain ⟨a1, rfl, _, _, w1⟩ := open_int Tryz.underlying3 (hval 1 3 v1 rfl rfl) h1
  clear hA0 hval0
  refine (walk u0 x0 z0 l0 e0 g0 a1 W w0 w1).mono fun e W' ⟨he, bel⟩ => ?_
  subst he
  exact ⟨_, rfl, _, _, _, [], _, [], hW', trodAll_mk1 (shut_bool Tryz.underlying4 _), (trodAll_cons_mk (Below.trod laidOut (by kernel_rfl) (of_decide_eq_true (by kernel_rfl)) k0 bel lt0) (trodAll_cons_mk (Below.trod laidOut (by kernel_rfl) (of_decide_eq_true (by kernel_rfl)) k1 bel lt1) trodAll_mk0)), rfl, bel.frame _, fun h => by cases h⟩

theorem over : Rows.fnExactBagForRow.holds Tryz.pinned (OpenSpec.ofChange Rows.fnExactBagForSpec) :=
  OpenClaim.holds_of_wide 5 Tryz.f5 rfl rfl rfl rfl rfl rfl rfl ⟨rfl, rfl, rfl, rfl, rfl⟩ rfl rfl rfl rfl rfl (by kernel_rfl) Tryz.func5 (by kernel_rfl)
    (of_decide_eq_true (by kernel_rfl)) (by unfold Func.isWrapper; first | (rw [if_pos (by decide +kernel)]; kernel_rfl) | (rw [if_neg (by decide +kernel)]; exact ⟨rfl, rfl⟩))
    (fun os started H enc _ => lifted os started H enc)

/-- THE STATEMENT -/
theorem proved : Rows.FnExactBagForSaid := over
#print axioms proved
end Go.Proofs.YtbffkidkfannhaaGreat.fnExactBagFor
