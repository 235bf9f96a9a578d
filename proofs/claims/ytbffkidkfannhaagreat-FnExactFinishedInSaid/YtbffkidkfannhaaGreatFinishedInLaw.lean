/- What is proved: at every net and every list of numbers the function FinishedIn of the program answers as its model does, and writes into no argument. Conditions: none. -/
import Derived.Test.YtbffkidkfannhaaGreatRows
import Derived.Test.YtbffkidkfannhaaGreatMGoodNetw
import Derived.Test.YtbffkidkfannhaaGreatMGoodNety
import Derived.Test.YtbffkidkfannhaaGreatMGoodNeth
import Derived.Test.YtbffkidkfannhaaGreatMGoodNetu
import Derived.Test.YtbffkidkfannhaaGreatMGoodNetv
import Derived.Deep.DeepCutAuto
import Derived.WalkKit
import Derived.ProofKit
import Derived.OpenShut
import Derived.ShutString
import Derived.ChangeOld
import Derived.Below
namespace Go.Proofs.YtbffkidkfannhaaGreat.fnExactFinishedIn
open Go.ChangeShapes Go.WideShapes Go.ChangeAt Go.RowKit
set_option linter.unusedVariables false

theorem own : ownKnob Tryz.prog.godebug = none := by kernel_rfl
theorem laidOut : laidOutB Tryz.prog = true := by kernel_rfl

/-! ### The walk: the law's text returns true, and nothing that was there is turned. -/
theorem keep6 {wb W W' : World} {a b c a' b' c' : Addr} {u v r u' v' r' : Value} (x : Ext W W') (h : Ext wb W ∧ W.cell? a = some u ∧ W.cell? b = some v ∧ W.cell? c = some r ∧ W.cell? a' = some u' ∧ W.cell? b' = some v' ∧ W.cell? c' = some r') : Ext wb W' ∧ W'.cell? a = some u ∧ W'.cell? b = some v ∧ W'.cell? c = some r ∧ W'.cell? a' = some u' ∧ W'.cell? b' = some v' ∧ W'.cell? c' = some r' :=
  ⟨h.1.trans x, x.cell h.2.1, x.cell h.2.2.1, x.cell h.2.2.2.1, x.cell h.2.2.2.2.1, x.cell h.2.2.2.2.2.1, x.cell h.2.2.2.2.2.2⟩
set_option maxHeartbeats 4000000 in
theorem walk (v1 v2 v3 : Value) (R : List RepD) (M : List MsgD) (K : List AskD) (mv : Value) (m : List Int) (w : World) (w1 : NetL w v1 v2 v3 R M K) (wi : Ints w mv m ∧ ∀ x ∈ m, wf64 x) :
    Calls Tryz.prog 3 #[.agg #[v1, v2, v3], mv] w fun e w' => e = .returned (.bool true) ∧ Ext w w' := by
  have w2 := wi.1
  clear wi
  have x0 : Ext w (w.alloc (.cells #[v1, v2, v3] 26)) := Ext.alloc (Ext.refl _) _
  have b0 := boxV_new w [v1, v2, v3] 26
  obtain ⟨wb, hwb⟩ : ∃ wb, wb = w.alloc (.cells #[v1, v2, v3] 26) := ⟨_, rfl⟩
  have b0 : BoxV wb w.heap.size [v1, v2, v3] := by rw [hwb]; exact b0
  rw [← hwb] at x0
  have HW := Lib.hid hwb
  have HB := Lib.hid b0
  have HA := Lib.hid (w1.ext x0)
  have X0 := Lib.hid x0
  have HI := Lib.hid (w2.ext x0)
  obtain ⟨am, cm, rfl, hlm, _, _⟩ := w2
  unfold maxLen at hlm
  clear hwb b0 w1 x0
  have c0 := HB.out.cell 0 _ rfl
  have c1 := HB.out.cell 1 _ rfl
  have c2 := HB.out.cell 2 _ rfl
  by_cases hm1 : (1048576 : Int) < (m.length : Int)
  · go_enter Tryz.func3, Tryz.ntmps3
    rw [HW.out] at X0
    go_wp2
    go_ret
    exact ⟨rfl, X0.out⟩
  have HML : Hid (m.length ≤ 1048576) := Lib.hid (by omega)
  by_cases h1 : (1048576 : Int) < (bulkN R M K : Nat)
  · have L1 := Lib.hid (lessened_no h1)
    clear h1
    go_enter Tryz.func3, Tryz.ntmps3
    rw [HW.out] at c0 c1 c2
    go_wp2_with fail
    rw [← HW.out]
    refine (szNet_any _ _ _ _ _ _ _ _ HA.out (by omega) (by omega)).mono ?_
    rintro e W1 ⟨rfl, x1⟩
    rw [L1.out]
    have y1 := X0.out.trans x1
    clear x1 c0 c1 c2
    go_wp2
    go_ret
    exact ⟨rfl, y1⟩
  · obtain ⟨r, hr⟩ : ∃ r, r = (1048576 : Int) - (bulkN R M K : Nat) := ⟨_, rfl⟩
    have hr0 : 0 ≤ r := by omega
    have hl : bulkRep R ≤ 549755813888 ∧ bulkMes M ≤ 549755813888 ∧ bulkAsk K ≤ 549755813888 := by unfold bulkN at h1; omega
    have L1 : Hid (lessened 1048576 (bulkN R M K) = r) := Lib.hid (by rw [hr]; exact lessened_yes (by omega))
    have HL := Lib.hid hl
    clear h1 hr hl
    obtain ⟨g, hg⟩ : ∃ g, g = isF R M K m := ⟨_, rfl⟩
    obtain ⟨g', hg'⟩ : ∃ g', g' = okF R M K m := ⟨_, rfl⟩
    have cS : ∀ u v z y W, NetL W u v z R M K → Ints W y m → Calls Tryz.prog 7 #[.agg #[u, v, z], y] W (TwoB g g' W) := fun u v z y W h k => by rw [hg, hg']; exact specFinishedIn_any _ _ _ _ _ _ _ _ _ h k
    have cI : ∀ u v z y W, NetL W u v z R M K → Ints W y m → Calls Tryz.prog 10 #[.agg #[u, v, z], y] W (TwoB g g' W) := fun u v z y W h k => by rw [hg, hg']; exact implFinishedIn_any _ _ _ _ _ _ _ _ _ h k HL.out.1 HL.out.2.1
    have CS := Lib.hid cS
    have CI := Lib.hid cI
    clear cS cI hg hg'
    go_enter Tryz.func3, Tryz.ntmps3
    rw [HW.out] at c0 c1 c2
    go_wp2_with fail
    rw [← HW.out]
    refine (szNet_any _ _ _ _ _ _ _ _ HA.out (by omega) (by omega)).mono ?_
    rintro e W1 ⟨rfl, x1⟩
    rw [L1.out]
    clear c0 c1 c2
    have c0 := (HB.out.ext x1).cell 0 _ rfl
    have c1 := (HB.out.ext x1).cell 1 _ rfl
    have c2 := (HB.out.ext x1).cell 2 _ rfl
    go_wp2_with fail
    refine (toNet_any _ _ _ R M K _ (HA.out.ext x1) HL.out.1 HL.out.2.1 HL.out.2.2).mono ?_
    rintro e W2 ⟨p2, q2, s2, rfl, f2, x2⟩
    clear c0 c1 c2
    go_wp2_with fail
    refine (toIntS_any _ m _ (HI.out.ext (x1.trans x2)) (by have := HML.out; omega)).mono ?_
    rintro e Wa ⟨qa, rfl, fa, xa⟩
    go_wp2_with fail
    refine (CS.out _ _ _ _ _ (f2.reads.ext xa) fa.ints).mono ?_
    rintro e W3 ⟨rfl, x3⟩
    have y3 : Ext wb W3 := ((x1.trans x2).trans xa).trans x3
    clear f2 x1 x2 x3 fa xa
    have c0 := (HB.out.ext y3).cell 0 _ rfl
    have c1 := (HB.out.ext y3).cell 1 _ rfl
    have c2 := (HB.out.ext y3).cell 2 _ rfl
    go_wp2_with fail
    refine (toNet_any _ _ _ R M K _ (HA.out.ext y3) HL.out.1 HL.out.2.1 HL.out.2.2).mono ?_
    rintro e W4 ⟨p4, q4, s4, rfl, f4, x4⟩
    clear c0 c1 c2
    have h4 := f4.reads
    obtain ⟨⟨a4, k4, rfl⟩, ⟨a5, k5, rfl⟩, ⟨a6, k6, rfl⟩⟩ := f4.form
    have F4 := Lib.hid h4
    have x45 : Ext W4 (W4.alloc (.cells #[.slice a4 R.length k4, .slice a5 M.length k5, .slice a6 K.length k6] 35)) := Ext.alloc1 _ _
    have b4 := boxV_new W4 [.slice a4 R.length k4, .slice a5 M.length k5, .slice a6 K.length k6] 35
    have d0 : (W4.alloc (.cells #[.slice a4 R.length k4, .slice a5 M.length k5, .slice a6 K.length k6] 35)).cell? ⟨W4.heap.size, 0, none⟩ = some (.slice a4 R.length k4) := b4.cell 0 _ rfl
    have d1 : (W4.alloc (.cells #[.slice a4 R.length k4, .slice a5 M.length k5, .slice a6 K.length k6] 35)).cell? ⟨W4.heap.size, 1, none⟩ = some (.slice a5 M.length k5) := b4.cell 1 _ rfl
    have d2 : (W4.alloc (.cells #[.slice a4 R.length k4, .slice a5 M.length k5, .slice a6 K.length k6] 35)).cell? ⟨W4.heap.size, 2, none⟩ = some (.slice a6 K.length k6) := b4.cell 2 _ rfl
    have Y4 := Lib.hid ((y3.trans x4).trans x45)
    have F5 := Lib.hid (F4.out.ext x45)
    have HB4 := Lib.hid (show BoxV (W4.alloc (.cells #[.slice a4 R.length k4, .slice a5 M.length k5, .slice a6 K.length k6] 35)) W4.heap.size [.slice a4 R.length k4, .slice a5 M.length k5, .slice a6 K.length k6] from b4)
    clear f4 h4 x4 y3 x45 b4
    go_wp2_with fail
    refine (toIntS_any _ m _ (HI.out.ext Y4.out) (by have := HML.out; omega)).mono ?_
    rintro e Wb ⟨qb, rfl, fb, xb⟩
    obtain ⟨ab, cb, rfl⟩ := fb.form
    have d0 := (HB4.out.ext xb).cell 0 _ rfl
    have d1 := (HB4.out.ext xb).cell 1 _ rfl
    have d2 := (HB4.out.ext xb).cell 2 _ rfl
    have FB := Lib.hid fb
    have XB := Lib.hid xb
    clear fb xb
    go_wp2_with fail
    refine (CI.out _ _ _ _ _ (F5.out.ext XB.out) FB.out.ints).mono ?_
    rintro e W5 ⟨rfl, x5⟩
    have x5' := XB.out.trans x5
    have FB5 := Lib.hid (FB.out.ints.ext x5)
    clear FB
    have y5 : Ext wb W5 := Y4.out.trans x5'
    clear d0 d1 d2
    have c0 := (HB.out.ext y5).cell 0 _ rfl
    have c1 := (HB.out.ext y5).cell 1 _ rfl
    have c2 := (HB.out.ext y5).cell 2 _ rfl
    have d0 := (HB4.out.ext x5').cell 0 _ rfl
    have d1 := (HB4.out.ext x5').cell 1 _ rfl
    have d2 := (HB4.out.ext x5').cell 2 _ rfl
    have HI5 := Lib.hid (F5.out.ext x5')
    have HJ5 := Lib.hid (HA.out.ext y5)
    have X5 := Lib.hid (X0.out.trans y5)
    have Y5 := Lib.hid y5
    clear x5 x5' y5 F4 F5 HB4 Y4 XB
    have ng : (g != g) = false := by simp
    have ng' : (g' != g') = false := by simp
    go_wp2
    go_region_held3 (fun W => Ext W5 W ∧ W.cell? ⟨w.heap.size, 0, none⟩ = some v1 ∧ W.cell? ⟨w.heap.size, 1, none⟩ = some v2 ∧ W.cell? ⟨w.heap.size, 2, none⟩ = some v3 ∧ W.cell? ⟨W4.heap.size, 0, none⟩ = some (.slice a4 R.length k4) ∧ W.cell? ⟨W4.heap.size, 1, none⟩ = some (.slice a5 M.length k5) ∧ W.cell? ⟨W4.heap.size, 2, none⟩ = some (.slice a6 K.length k6)) (first | (with_reducible exact keep6 (by assumption) (by assumption)) | (exact ⟨Ext.drew (Ext.refl _), c0, c1, c2, d0, d1, d2⟩)) (first | (go_at_call 8; refine (toNet_any _ _ _ R M K _ (HJ5.out.ext (And.left (by assumption))) HL.out.1 HL.out.2.1 HL.out.2.2).mono ?_; rintro e W6 ⟨p6, q6, s6, rfl, f6, x6⟩) | (go_at_call 11; refine (eqNet_same _ _ _ _ _ _ R M K _ (HI5.out.ext (And.left (by assumption))) (NetM.reads (by assumption))).mono ?_; rintro e W7 ⟨rfl, x7⟩))
    rename_i hH
    have X7 := Lib.hid hH.1
    clear hH x6 x7 f6 c0 c1 c2 d0 d1 d2
    go_wp2_with fail
    refine (toIntS_any _ m _ (HI.out.ext (Y5.out.trans X7.out)) (by have := HML.out; omega)).mono ?_
    rintro e W8 ⟨q8, rfl, f8, x8⟩
    have F8 := Lib.hid f8
    have X8 := Lib.hid (X7.out.trans x8)
    clear f8 x8
    go_wp2_with fail
    refine (eqIntS_any _ _ _ _ _ (FB5.out.ext X8.out) F8.out.ints).mono ?_
    rintro e W9 ⟨rfl, x9⟩
    rw [decide_eq_true rfl]
    have X9 := Lib.hid (X5.out.trans (X8.out.trans x9))
    clear x9
    go_wp2
    go_ret
    exact ⟨rfl, X9.out⟩

/-! ### The frame -/
set_option maxRecDepth 100000 in
theorem lifted (os : Os) (started : os.Started) (H : Type) (enc : TypeId × Value → H) :
    ReturnsInHanded {} Tryz.checked os 3 .any (Rows.fnExactFinishedInSpec.pre6 enc Tryz.prog Tryz.f3 Rows.fnExactFinishedInRow.domain false) (Rows.fnExactFinishedInSpec.post enc Tryz.prog Tryz.f3 false true false false) := by
  refine returnsInHanded_of_change (C := Tryz.checked) own started (by kernel_rfl) Tryz.func3
    (ChangeSpec.witness6 (enc := enc) (C := Tryz.checked) false ⟨#[], #[.agg #[.slice none 0 0, .slice none 0 0, .slice none 0 0], .slice none 0 0], []⟩ 8 (by kernel_rfl) (by kernel_rfl) (by kernel_rfl) (by kernel_rfl)) ?_
  intro W base args ds gs before hval0 hW hcnd _
  have hval : ∀ (j : Nat) t v, Tryz.f3.params[j]? = some t → args[j]? = some v → Value.okWide Tryz.prog W .any base t v := hval0
  have hW' := hW
  obtain ⟨p, q, hA0, hV, rfl, hfz, hnd⟩ := hW
  have hA : DataW.TrodAll enc Tryz.prog W 0 (fun _ => true) true Tryz.f3.params.toList args.toList ds p := hA0
  rw [Tryz.params3] at hA hval
  obtain ⟨v0, vs0, d0, ds0, p0, q0, hargs, rfl, rfl, h0, r0⟩ := trodAll_cons hA
  obtain ⟨v1, vs1, d1, ds1, p1, q1, rfl, rfl, rfl, h1, r1⟩ := trodAll_cons r0
  obtain ⟨rfl, rfl, rfl⟩ := trodAll_nil r1
  obtain rfl : args = #[v0, v1] := by cases args; simp_all
  obtain ⟨rfl, rfl⟩ := trodVars_none hV
  have k0 := h0
  have lt0 : ∀ x ∈ p0, x.block < W.heap.size := by obtain ⟨m, hm⟩ := k0; exact DataW.trod_lt m _ _ _ hm
  obtain ⟨u0, x0, z0, l0, e0, g0, rfl, w0⟩ := open_net (hval 0 26 v0 rfl rfl) h0
  have k1 := h1
  have lt1 : ∀ x ∈ p1, x.block < W.heap.size := by obtain ⟨m, hm⟩ := k1; exact DataW.trod_lt m _ _ _ hm
  obtain ⟨l1, w1⟩ := open_intS (hval 1 27 v1 rfl rfl) h1
  clear hA0 hval0
  refine (walk u0 x0 z0 l0 e0 g0 v1 l1 W w0 w1).mono fun e W' ⟨he, bel⟩ => ?_
  subst he
  exact ⟨_, rfl, _, _, _, [], _, [], hW', trodAll_mk1 (shut_bool Tryz.underlying4 _), (trodAll_cons_mk (Below.trod laidOut (by kernel_rfl) (of_decide_eq_true (by kernel_rfl)) k0 bel lt0) (trodAll_cons_mk (Below.trod laidOut (by kernel_rfl) (of_decide_eq_true (by kernel_rfl)) k1 bel lt1) trodAll_mk0)), rfl, bel.frame _, fun h => by cases h⟩

theorem over : Rows.fnExactFinishedInRow.holds Tryz.pinned (OpenSpec.ofChange Rows.fnExactFinishedInSpec) :=
  OpenClaim.holds_of_wide 3 Tryz.f3 rfl rfl rfl rfl rfl rfl rfl ⟨rfl, rfl, rfl, rfl, rfl⟩ rfl rfl rfl rfl rfl (by kernel_rfl) Tryz.func3 (by kernel_rfl)
    (of_decide_eq_true (by kernel_rfl)) (by unfold Func.isWrapper; first | (rw [if_pos (by decide +kernel)]; kernel_rfl) | (rw [if_neg (by decide +kernel)]; exact ⟨rfl, rfl⟩))
    (fun os started H enc _ => lifted os started H enc)

/-- THE STATEMENT -/
theorem proved : Rows.FnExactFinishedInSaid := over
#print axioms proved
end Go.Proofs.YtbffkidkfannhaaGreat.fnExactFinishedIn
