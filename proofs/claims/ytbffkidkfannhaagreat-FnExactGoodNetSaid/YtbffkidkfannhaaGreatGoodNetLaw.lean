/- What is proved: at every net the function GoodNet of the program answers as its model does, and writes into no argument. Conditions: none. -/
import Derived.Test.YtbffkidkfannhaaGreatRows
import Derived.Test.YtbffkidkfannhaaGreatMGoodNett
import Derived.Test.YtbffkidkfannhaaGreatMGoodNetq4
import Derived.Test.YtbffkidkfannhaaGreatMGoodNetu
import Derived.Test.YtbffkidkfannhaaGreatMGoodNeth
import Derived.Deep.DeepCutAuto
import Derived.WalkKit
import Derived.ProofKit
import Derived.OpenShut
import Derived.ShutString
import Derived.ChangeOld
import Derived.Below
namespace Go.Proofs.YtbffkidkfannhaaGreat.fnExactGoodNet
open Go.ChangeShapes Go.WideShapes Go.ChangeAt Go.RowKit
set_option linter.unusedVariables false

theorem own : ownKnob Tryz.prog.godebug = none := by kernel_rfl
theorem laidOut : laidOutB Tryz.prog = true := by kernel_rfl

/-! ### The walk: the law's text returns true, and nothing that was there is turned. -/
theorem keep6 {wb W W' : World} {a b c a' b' c' : Addr} {u v r u' v' r' : Value} (x : Ext W W') (h : Ext wb W ∧ W.cell? a = some u ∧ W.cell? b = some v ∧ W.cell? c = some r ∧ W.cell? a' = some u' ∧ W.cell? b' = some v' ∧ W.cell? c' = some r') : Ext wb W' ∧ W'.cell? a = some u ∧ W'.cell? b = some v ∧ W'.cell? c = some r ∧ W'.cell? a' = some u' ∧ W'.cell? b' = some v' ∧ W'.cell? c' = some r' :=
  ⟨h.1.trans x, x.cell h.2.1, x.cell h.2.2.1, x.cell h.2.2.2.1, x.cell h.2.2.2.2.1, x.cell h.2.2.2.2.2.1, x.cell h.2.2.2.2.2.2⟩
set_option maxHeartbeats 4000000 in
theorem walk (v1 v2 v3 : Value) (R : List RepD) (M : List MsgD) (K : List AskD) (w : World) (w1 : NetL w v1 v2 v3 R M K) :
    Calls Tryz.prog 4 #[.agg #[v1, v2, v3]] w fun e w' => e = .returned (.bool true) ∧ Ext w w' := by
  have x0 : Ext w (w.alloc (.cells #[v1, v2, v3] 26)) := Ext.alloc (Ext.refl _) _
  have b0 := boxV_new w [v1, v2, v3] 26
  obtain ⟨wb, hwb⟩ : ∃ wb, wb = w.alloc (.cells #[v1, v2, v3] 26) := ⟨_, rfl⟩
  have b0 : BoxV wb w.heap.size [v1, v2, v3] := by rw [hwb]; exact b0
  rw [← hwb] at x0
  have HW := Lib.hid hwb
  have HB := Lib.hid b0
  have HA := Lib.hid (w1.ext x0)
  have X0 := Lib.hid x0
  clear hwb b0 w1 x0
  have c0 := HB.out.cell 0 _ rfl
  have c1 := HB.out.cell 1 _ rfl
  have c2 := HB.out.cell 2 _ rfl
  by_cases h1 : (1048576 : Int) < (bulkN R M K : Nat)
  · have L1 := Lib.hid (lessened_no h1)
    clear h1
    go_enter Tryz.func4, Tryz.ntmps4
    rw [HW.out] at c0 c1 c2
    go_wp2_with fail
    rw [← HW.out]
    refine (szNet_any _ _ _ _ _ _ _ _ HA.out (by omega) (by omega)).mono ?_
    rintro e W1 ⟨rfl, x1⟩
    rw [L1.out]
    have y1 := X0.out.trans x1
    clear x1 c0 c1 c2
    go_wp2
    go_ret
    exact ⟨rfl, y1⟩
  · obtain ⟨r, hr⟩ : ∃ r, r = (1048576 : Int) - (bulkN R M K : Nat) := ⟨_, rfl⟩
    have hr0 : 0 ≤ r := by omega
    have hl : bulkRep R ≤ 549755813888 ∧ bulkMes M ≤ 549755813888 ∧ bulkAsk K ≤ 549755813888 := by unfold bulkN at h1; omega
    have L1 : Hid (lessened 1048576 (bulkN R M K) = r) := Lib.hid (by rw [hr]; exact lessened_yes (by omega))
    have HL := Lib.hid hl
    clear h1 hr hl
    obtain ⟨g, hg⟩ : ∃ g, g = goodNet R M K := ⟨_, rfl⟩
    have cS : ∀ u v z W, NetL W u v z R M K → Calls Tryz.prog 13 #[.agg #[u, v, z]] W (BoolExt g W) := fun u v z W h => by rw [hg]; exact specGoodNet_any _ _ _ _ _ _ _ h
    have cI : ∀ u v z W, NetL W u v z R M K → Calls Tryz.prog 14 #[.agg #[u, v, z]] W (BoolExt g W) := fun u v z W h => by rw [hg]; exact implGoodNet_any _ _ _ _ _ _ _ h HL.out.1 HL.out.2.1
    have CS := Lib.hid cS
    have CI := Lib.hid cI
    clear cS cI hg
    go_enter Tryz.func4, Tryz.ntmps4
    rw [HW.out] at c0 c1 c2
    go_wp2_with fail
    rw [← HW.out]
    refine (szNet_any _ _ _ _ _ _ _ _ HA.out (by omega) (by omega)).mono ?_
    rintro e W1 ⟨rfl, x1⟩
    rw [L1.out]
    clear c0 c1 c2
    have c0 := (HB.out.ext x1).cell 0 _ rfl
    have c1 := (HB.out.ext x1).cell 1 _ rfl
    have c2 := (HB.out.ext x1).cell 2 _ rfl
    go_wp2_with fail
    refine (toNet_any _ _ _ R M K _ (HA.out.ext x1) HL.out.1 HL.out.2.1 HL.out.2.2).mono ?_
    rintro e W2 ⟨p2, q2, s2, rfl, f2, x2⟩
    clear c0 c1 c2
    go_wp2_with fail
    refine (CS.out _ _ _ _ f2.reads).mono ?_
    rintro e W3 ⟨rfl, x3⟩
    have y3 : Ext wb W3 := (x1.trans x2).trans x3
    clear f2 x1 x2 x3
    have c0 := (HB.out.ext y3).cell 0 _ rfl
    have c1 := (HB.out.ext y3).cell 1 _ rfl
    have c2 := (HB.out.ext y3).cell 2 _ rfl
    go_wp2_with fail
    refine (toNet_any _ _ _ R M K _ (HA.out.ext y3) HL.out.1 HL.out.2.1 HL.out.2.2).mono ?_
    rintro e W4 ⟨p4, q4, s4, rfl, f4, x4⟩
    clear c0 c1 c2
    have h4 := f4.reads
    obtain ⟨⟨a4, k4, rfl⟩, ⟨a5, k5, rfl⟩, ⟨a6, k6, rfl⟩⟩ := f4.form
    have F4 := Lib.hid h4
    have x45 : Ext W4 (W4.alloc (.cells #[.slice a4 R.length k4, .slice a5 M.length k5, .slice a6 K.length k6] 35)) := Ext.alloc1 _ _
    have b4 := boxV_new W4 [.slice a4 R.length k4, .slice a5 M.length k5, .slice a6 K.length k6] 35
    have d0 : (W4.alloc (.cells #[.slice a4 R.length k4, .slice a5 M.length k5, .slice a6 K.length k6] 35)).cell? ⟨W4.heap.size, 0, none⟩ = some (.slice a4 R.length k4) := b4.cell 0 _ rfl
    have d1 : (W4.alloc (.cells #[.slice a4 R.length k4, .slice a5 M.length k5, .slice a6 K.length k6] 35)).cell? ⟨W4.heap.size, 1, none⟩ = some (.slice a5 M.length k5) := b4.cell 1 _ rfl
    have d2 : (W4.alloc (.cells #[.slice a4 R.length k4, .slice a5 M.length k5, .slice a6 K.length k6] 35)).cell? ⟨W4.heap.size, 2, none⟩ = some (.slice a6 K.length k6) := b4.cell 2 _ rfl
    have Y4 := Lib.hid ((y3.trans x4).trans x45)
    have F5 := Lib.hid (F4.out.ext x45)
    have HB4 := Lib.hid (show BoxV (W4.alloc (.cells #[.slice a4 R.length k4, .slice a5 M.length k5, .slice a6 K.length k6] 35)) W4.heap.size [.slice a4 R.length k4, .slice a5 M.length k5, .slice a6 K.length k6] from b4)
    clear f4 h4 x4 y3 x45 b4
    go_wp2_with fail
    refine (CI.out _ _ _ _ F5.out).mono ?_
    rintro e W5 ⟨rfl, x5⟩
    have y5 : Ext wb W5 := Y4.out.trans x5
    clear d0 d1 d2
    have c0 := (HB.out.ext y5).cell 0 _ rfl
    have c1 := (HB.out.ext y5).cell 1 _ rfl
    have c2 := (HB.out.ext y5).cell 2 _ rfl
    have d0 := (HB4.out.ext x5).cell 0 _ rfl
    have d1 := (HB4.out.ext x5).cell 1 _ rfl
    have d2 := (HB4.out.ext x5).cell 2 _ rfl
    have HI5 := Lib.hid (F5.out.ext x5)
    have HJ5 := Lib.hid (HA.out.ext y5)
    have X5 := Lib.hid (X0.out.trans y5)
    clear x5 y5 F4 F5 HB4 Y4
    have ng : (g != g) = false := by simp
    go_wp2
    go_region_held3 (fun W => Ext W5 W ∧ W.cell? ⟨w.heap.size, 0, none⟩ = some v1 ∧ W.cell? ⟨w.heap.size, 1, none⟩ = some v2 ∧ W.cell? ⟨w.heap.size, 2, none⟩ = some v3 ∧ W.cell? ⟨W4.heap.size, 0, none⟩ = some (.slice a4 R.length k4) ∧ W.cell? ⟨W4.heap.size, 1, none⟩ = some (.slice a5 M.length k5) ∧ W.cell? ⟨W4.heap.size, 2, none⟩ = some (.slice a6 K.length k6)) (first | (with_reducible exact keep6 (by assumption) (by assumption)) | (exact ⟨Ext.drew (Ext.refl _), c0, c1, c2, d0, d1, d2⟩)) (first | (go_at_call 8; refine (toNet_any _ _ _ R M K _ (HJ5.out.ext (And.left (by assumption))) HL.out.1 HL.out.2.1 HL.out.2.2).mono ?_; rintro e W6 ⟨p6, q6, s6, rfl, f6, x6⟩) | (go_at_call 11; refine (eqNet_same _ _ _ _ _ _ R M K _ (HI5.out.ext (And.left (by assumption))) (NetM.reads (by assumption))).mono ?_; rintro e W7 ⟨rfl, x7⟩))
    rename_i hH
    have hx : Ext w W7 := X5.out.trans hH.1
    clear hH x6 x7 f6 c0 c1 c2 d0 d1 d2
    go_wp2
    go_ret
    exact ⟨rfl, hx⟩

/-! ### The frame -/
set_option maxRecDepth 100000 in
theorem lifted (os : Os) (started : os.Started) (H : Type) (enc : TypeId × Value → H) :
    ReturnsInHanded {} Tryz.checked os 4 .any (Rows.fnExactGoodNetSpec.pre6 enc Tryz.prog Tryz.f4 Rows.fnExactGoodNetRow.domain false) (Rows.fnExactGoodNetSpec.post enc Tryz.prog Tryz.f4 false true false false) := by
  refine returnsInHanded_of_change (C := Tryz.checked) own started (by kernel_rfl) Tryz.func4
    (ChangeSpec.witness6 (enc := enc) (C := Tryz.checked) false ⟨#[], #[.agg #[.slice none 0 0, .slice none 0 0, .slice none 0 0]], []⟩ 8 (by kernel_rfl) (by kernel_rfl) (by kernel_rfl) (by kernel_rfl)) ?_
  intro W base args ds gs before hval0 hW hcnd _
  have hval : ∀ (j : Nat) t v, Tryz.f4.params[j]? = some t → args[j]? = some v → Value.okWide Tryz.prog W .any base t v := hval0
  have hW' := hW
  obtain ⟨p, q, hA0, hV, rfl, hfz, hnd⟩ := hW
  have hA : DataW.TrodAll enc Tryz.prog W 0 (fun _ => true) true Tryz.f4.params.toList args.toList ds p := hA0
  rw [Tryz.params4] at hA hval
  obtain ⟨v0, vs0, d0, ds0, p0, q0, hargs, rfl, rfl, h0, r0⟩ := trodAll_cons hA
  obtain ⟨rfl, rfl, rfl⟩ := trodAll_nil r0
  obtain rfl : args = #[v0] := by cases args; simp_all
  obtain ⟨rfl, rfl⟩ := trodVars_none hV
  have k0 := h0
  have lt0 : ∀ x ∈ p0, x.block < W.heap.size := by obtain ⟨m, hm⟩ := k0; exact DataW.trod_lt m _ _ _ hm
  obtain ⟨u0, x0, z0, l0, e0, g0, rfl, w0⟩ := open_net (hval 0 26 v0 rfl rfl) h0
  clear hA0 hval0
  refine (walk u0 x0 z0 l0 e0 g0 W w0).mono fun e W' ⟨he, bel⟩ => ?_
  subst he
  exact ⟨_, rfl, _, _, _, [], _, [], hW', trodAll_mk1 (shut_bool Tryz.underlying4 _), (trodAll_cons_mk (Below.trod laidOut (by kernel_rfl) (of_decide_eq_true (by kernel_rfl)) k0 bel lt0) trodAll_mk0), rfl, bel.frame _, fun h => by cases h⟩

theorem over : Rows.fnExactGoodNetRow.holds Tryz.pinned (OpenSpec.ofChange Rows.fnExactGoodNetSpec) :=
  OpenClaim.holds_of_wide 4 Tryz.f4 rfl rfl rfl rfl rfl rfl rfl ⟨rfl, rfl, rfl, rfl, rfl⟩ rfl rfl rfl rfl rfl (by kernel_rfl) Tryz.func4 (by kernel_rfl)
    (of_decide_eq_true (by kernel_rfl)) (by unfold Func.isWrapper; first | (rw [if_pos (by decide +kernel)]; kernel_rfl) | (rw [if_neg (by decide +kernel)]; exact ⟨rfl, rfl⟩))
    (fun os started H enc _ => lifted os started H enc)

/-- THE STATEMENT -/
theorem proved : Rows.FnExactGoodNetSaid := over
#print axioms proved
end Go.Proofs.YtbffkidkfannhaaGreat.fnExactGoodNet
