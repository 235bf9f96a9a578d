/- What is proved: at every table the function OrderIn of the program answers as its model does, writes into no argument, and its answer owns its memory. Conditions: none. -/
import Derived.Test.YtcpmfcigciknlaaGreatRows
import Derived.Test.YtcpmfcigciknlaaGreatMOrderInr
import Derived.Test.YtcpmfcigciknlaaGreatMOrderInw
import Derived.Test.YtcpmfcigciknlaaGreatMOrderInq
import Derived.Test.YtcpmfcigciknlaaGreatMOrderIne
import Derived.Test.YtcpmfcigciknlaaGreatMOrderInb
import Derived.Deep.DeepCutAuto
import Derived.WalkKit
import Derived.ProofKit
import Derived.OpenShut
import Derived.ShutString
import Derived.ChangeOld
import Derived.Below
namespace Go.Proofs.YtcpmfcigciknlaaGreat.fnExactOrderIn
open Go.ChangeShapes Go.WideShapes Go.ChangeAt Go.RowKit
set_option linter.unusedVariables false

theorem own : ownKnob Tryz.prog.godebug = none := by kernel_rfl
theorem laidOut : laidOutB Tryz.prog = true := by kernel_rfl

/-! ### The walk: the law's text returns true, and nothing that was there is turned. -/
set_option maxHeartbeats 8000000 in
set_option maxRecDepth 100000 in
theorem walk (n : Int) (v1 : Value) (T : List (List RowD)) (w : World) (w1 : wf64 n ∧ Rowzz w v1 T) :
    Calls Tryz.prog 6 #[.agg #[.int .i64 n, v1]] w fun e w' => e = .returned (.bool true) ∧ Ext w w' := by
  obtain ⟨_, hA0⟩ := w1
  have x0 : Ext w (w.alloc (.cells #[.int .i64 n, v1] 24)) := Ext.alloc (Ext.refl _) _
  have b0 := attrAt_new w 24 n v1
  obtain ⟨wb, hwb⟩ : ∃ wb, wb = w.alloc (.cells #[.int .i64 n, v1] 24) := ⟨_, rfl⟩
  have sb : wb.heap.size = w.heap.size + 1 := by rw [hwb]; simp
  rw [← hwb] at x0 b0
  have HW := Lib.hid hwb
  have SB := Lib.hid sb
  clear hwb sb
  have hA := hA0.ext x0
  by_cases h1 : (1048576 : Int) < bulkT T
  · have L1 := Lib.hid (lessened_no h1)
    clear h1
    go_enter Tryz.func6, Tryz.ntmps6
    obtain ⟨c0, c1⟩ := b0
    go_wp2_with fail
    rw [← HW.out]
    refine (szTable_any _ _ _ _ _ hA (by omega) (by omega)).mono ?_
    rintro e W1 ⟨rfl, x1⟩
    rw [L1.out]
    have y1 := x0.trans x1
    clear x0 x1 c0 c1
    go_wp2
    go_ret
    exact ⟨rfl, y1⟩
  · obtain ⟨r, hr⟩ : ∃ r, r = (1048576 : Int) - bulkT T := ⟨_, rfl⟩
    have hr0 : 0 ≤ r := by omega
    have hl : bulkT T ≤ 1048576 := by omega
    have L1 : Hid (lessened 1048576 (bulkT T) = r) := Lib.hid (by rw [hr]; exact lessened_yes (by omega))
    have HL := Lib.hid hl
    clear h1 hr hl
    obtain ⟨g, hg⟩ : ∃ g, g = goodTab n T := ⟨_, rfl⟩
    obtain ⟨L, hL⟩ : ∃ L, L = orderR n T := ⟨_, rfl⟩
    have hbk : bulk L ≤ 1000 := by rw [hL]; exact orderR_bulk _ _
    have cS : ∀ u W, Rowzz W u T → Calls Tryz.prog 27 #[.agg #[.int .i64 n, u]] W (ReadSS L g W) := fun u W h => by rw [hg, hL]; exact specOrderIn_any _ _ _ _ h
    have cI : ∀ u W, Rowzz W u T → Calls Tryz.prog 28 #[.agg #[.int .i64 n, u]] W (TwoIntss L g W) := fun u W h => by rw [hg, hL]; exact implOrderIn_any _ _ _ _ h (by have := HL.out; omega)
    have CS := Lib.hid cS
    have CI := Lib.hid cI
    have HB := Lib.hid b0
    have HA := Lib.hid hA
    have HA0 := Lib.hid hA0
    have X0 := Lib.hid x0
    have hL2 : bulkT T ≤ 1099511627776 := by have := HL.out; omega
    have HL2 := Lib.hid hL2
    have HBK := Lib.hid hbk
    clear cS cI hg b0 hL hA hA0 x0 hL2 hbk
    go_enter Tryz.func6, Tryz.ntmps6
    go_wp2_with fail
    rw [← HW.out]
    refine (szTable_any _ _ _ _ _ HA.out (by omega) (by omega)).mono ?_
    rintro e W1 ⟨rfl, x1⟩
    rw [L1.out]
    obtain ⟨c0, c1⟩ := HB.out.ext x1
    go_wp2_with fail
    refine (toTable_any _ _ _ _ (HA.out.ext x1) HL2.out).mono ?_
    rintro e W2 ⟨u2, rfl, f2, x2⟩
    clear c0 c1
    go_wp2_with fail
    refine (CS.out _ _ f2.rows).mono ?_
    rintro e W3 ⟨v3, rfl, f3, x3⟩
    have I3 := Lib.hid f3
    obtain ⟨a3, k3, rfl, _⟩ := f3
    have y3 : Ext wb W3 := (x1.trans x2).trans x3
    have Y3 := Lib.hid y3
    have F3 := Lib.hid I3.out
    clear f2 x1 x2 x3 y3 I3
    obtain ⟨c0, c1⟩ := HB.out.ext Y3.out
    go_wp2_with fail
    refine (toTable_any _ _ _ _ (HA.out.ext Y3.out) HL2.out).mono ?_
    rintro e W4 ⟨u4, rfl, f4, x4⟩
    obtain ⟨a4, k4, rfl⟩ := f4.form
    have F4 := Lib.hid f4
    have X4 := Lib.hid x4
    have B4 := Lib.hid (attrAt_new W4 32 n (.slice a4 T.length k4))
    clear f4 x4 c0 c1
    go_wp2_with fail
    refine (CI.out _ _ (F4.out.rows.ext (Ext.alloc1 _ _))).mono ?_
    obtain ⟨w4, hw4⟩ : ∃ w4, w4 = W4.alloc (.cells #[.int .i64 n, .slice a4 T.length k4] 32) := ⟨_, rfl⟩
    have x44 : Ext W4 w4 := by rw [hw4]; exact Ext.alloc1 _ _
    have s4 : w4.heap.size = W4.heap.size + 1 := by rw [hw4]; simp
    have B4' := B4.out
    rw [← hw4] at B4' ⊢
    have B4'' := Lib.hid B4'
    have X44 := Lib.hid x44
    have S4 := Lib.hid s4
    clear hw4 B4 B4' x44 s4
    rintro e W5 ⟨v5, rfl, f5, x5⟩
    obtain ⟨a5, k5, rfl⟩ := f5.form
    have x35 := (X4.out.trans X44.out).trans x5
    have hlive : LiveQ w W3 W5 w.heap.size w4.heap.size n v1 (.slice a3 L.length k3) (.slice a5 L.length k5) L L :=
      ⟨(X0.out.trans Y3.out).trans x35, HB.out.ext (Y3.out.trans x35), x35, F3.out, f5⟩
    have ht4 : AttrAt W5 W4.heap.size n (.slice a4 T.length k4) := B4''.out.ext x5
    have hf4 : FreshT W3.heap.size W4.heap.size W5 (.slice a4 T.length k4) T := F4.out.kept (Stood.of_ext (X44.out.trans x5) (Nat.le_refl _))
    have hz : w.heap.size < W3.heap.size ∧ W3.heap.size ≤ W4.heap.size ∧ W4.heap.size < w4.heap.size ∧ w4.heap.size ≤ W5.heap.size := by
      have q1 := X0.out.size
      have q2 := Y3.out.size
      have q4 := X4.out.size
      have q5 := S4.out
      have q6 := x5.size
      have q7 := SB.out
      omega
    have LIVE := Lib.hid hlive
    have HT4 := Lib.hid ht4
    have HF4 := Lib.hid hf4
    have HZ := Lib.hid hz
    clear f5 x5 x35 hlive ht4 hf4 hz F3 F4 X4 X44 B4'' S4 Y3 SB
    go_wp2_with fail
    refine (eqIntSS_self _ _ L _ LIVE.out.f5.intss LIVE.out.read).mono ?_
    rintro e W6 ⟨rfl, x6⟩
    have l6 := LIVE.out.on x6
    have t6 := HT4.out.ext x6
    have f6 := HF4.out.kept (Stood.of_ext x6 (by have := HZ.out; omega))
    have i6 := f6.rows
    have s6 := x6.size
    obtain ⟨c0, c1⟩ := l6.arg
    obtain ⟨d0, d1⟩ := t6
    have J6 := Lib.hid (HA0.out.ext l6.ext)
    have I6 := Lib.hid i6
    have L6 := Lib.hid l6
    have F6 := Lib.hid f6
    have SZ6 := Lib.hid s6
    clear x6 l6 f6 i6 LIVE HT4 HF4 s6
    have ng : (g != g) = false := by simp
    go_wp2
    go_region_held3 (fun W => Ext W6 W ∧ W.cell? ⟨w.heap.size, 0, none⟩ = some (.int .i64 n) ∧ W.cell? ⟨w.heap.size, 1, none⟩ = some v1 ∧ W.cell? ⟨W4.heap.size, 0, none⟩ = some (.int .i64 n) ∧ W.cell? ⟨W4.heap.size, 1, none⟩ = some (.slice a4 T.length k4)) (first | (exact keep4 (by assumption) (by assumption)) | (exact ⟨Ext.drew (Ext.refl _), c0, c1, d0, d1⟩)) (first | (go_at_call 9; refine (toTable_any _ _ _ _ (J6.out.ext (And.left (by assumption))) HL2.out).mono ?_; rintro e W7 ⟨u7, rfl, f7, x7⟩) | (go_at_call 13; refine (eqTable_same _ _ _ T _ (I6.out.ext (And.left (by assumption))) (FreshT.rows (by assumption))).mono ?_; rintro e W8 ⟨rfl, x8⟩))
    rename_i hH
    have x68 : Ext W6 W8 := hH.1
    obtain ⟨_, _, _, e0, e1⟩ := hH
    have l8 := L6.out.on x68
    have f8 := F6.out.kept (Stood.of_ext x68 (by have := HZ.out; have := SZ6.out; omega))
    have z8 : W4.heap.size ≤ W8.heap.size := by have := HZ.out; have := SZ6.out; have := x68.size; omega
    have L8 := Lib.hid l8
    have F8 := Lib.hid f8
    have Z8 := Lib.hid z8
    have Z88 : Hid (w4.heap.size ≤ W8.heap.size) := Lib.hid (by have := HZ.out; have := SZ6.out; have := x68.size; omega)
    clear x7 x8 f7 c0 c1 d0 d1 x68 l8 f8 z8 L6 F6 J6 I6
    go_wp2_with fail
    refine (markTable_any W3.heap.size W4.heap.size n _ T 1 _ F8.out Z8.out (by omega) (by omega) (by have := HL.out; omega)).mono ?_
    rintro e W9 ⟨rfl, k9⟩
    obtain ⟨q, hq⟩ : ∃ q, q = (1 : Int) + ((weighs T).sum : Int) := ⟨_, rfl⟩
    have hq0 : 0 ≤ q := by omega
    rw [← hq]
    have l9 := L8.out.ins k9 (by have := HZ.out; omega) (by have := HZ.out; omega) (by have := HZ.out; omega) (by have := HZ.out; omega)
    have L9 := Lib.hid l9
    have Z9 : Hid (w4.heap.size ≤ W9.heap.size) := Lib.hid (by have := Z88.out; have := k9.size; omega)
    clear k9 hq l9 L8 F8 e0 e1 Z8 Z88
    go_wp2_with fail
    refine (eqIntSS_self _ _ L _ L9.out.f5.intss L9.out.read).mono ?_
    rintro e W10 ⟨rfl, x10⟩
    have l10 := L9.out.on x10
    have L10 := Lib.hid l10
    have Z10 : Hid (w4.heap.size ≤ W10.heap.size) := Lib.hid (by have := Z9.out; have := x10.size; omega)
    clear x10 l10 L9 Z9
    go_wp2_with fail
    refine (markIntSS_any w4.heap.size _ L 1 _ L10.out.f5 Z10.out (by omega) (by omega) (by have := HBK.out; omega)).mono ?_
    rintro e W11 ⟨rfl, m11, t11⟩
    have l11 := L10.out.mark t11 m11 (by have := HZ.out; omega) (by have := HZ.out; omega) (by have := HZ.out; omega)
    obtain ⟨m, hm⟩ : ∃ m, m = (1 : Int) + ((L.map List.length).sum : Int) := ⟨_, rfl⟩
    have hm0 : 0 ≤ m := by omega
    rw [← hm]
    have L11 := Lib.hid l11
    have HM := Lib.hid hm
    clear t11 m11 l11 L10 hm Z10
    go_wp2_with fail
    refine (heldIntSS_yes _ L 1 _ L11.out.f5.intss (by omega) (by omega) (by have := HBK.out; omega)).mono ?_
    rintro e W12 ⟨rfl, x12⟩
    rw [← HM.out]
    have nm : (m != m) = false := by simp
    have l12 := L11.out.on x12
    obtain ⟨c0, c1⟩ := l12.arg
    have L12 := Lib.hid l12
    clear x12 l12 L11
    go_wp2_with fail
    refine (toTable_any _ _ _ _ (HA0.out.ext L12.out.ext) HL2.out).mono ?_
    rintro e W13 ⟨u13, rfl, f13, x13⟩
    clear c0 c1
    go_wp2_with fail
    refine (CI.out _ _ f13.rows).mono ?_
    rintro e W14 ⟨v14, rfl, f14, x14⟩
    obtain ⟨a14, k14, rfl⟩ := f14.form
    have l14 := L12.out.on (x13.trans x14)
    have F14 := Lib.hid f14
    have L14 := Lib.hid l14
    clear f13 x13 x14 f14 l14 L12
    go_wp2_with fail
    refine (eqIntSS_self _ _ L _ F14.out.intss L14.out.read).mono ?_
    rintro e W15 ⟨rfl, x15⟩
    have l15 := L14.out.on x15
    have L15 := Lib.hid l15
    clear x15 l15 L14 F14
    go_wp2_with fail
    refine (heldIntSS_yes _ L 1 _ L15.out.f5.intss (by omega) (by omega) (by have := HBK.out; omega)).mono ?_
    rintro e W16 ⟨rfl, x16⟩
    rw [← HM.out]
    have hx := L15.out.ext.trans x16
    clear x16
    go_wp2
    go_ret
    exact ⟨rfl, hx⟩

/-! ### The frame -/
set_option maxRecDepth 100000 in
theorem lifted (os : Os) (started : os.Started) (H : Type) (enc : TypeId × Value → H) :
    ReturnsInHanded {} Tryz.checked os 6 .any (Rows.fnExactOrderInSpec.pre6 enc Tryz.prog Tryz.f6 Rows.fnExactOrderInRow.domain false) (Rows.fnExactOrderInSpec.post enc Tryz.prog Tryz.f6 false true false false) := by
  refine returnsInHanded_of_change (C := Tryz.checked) own started (by kernel_rfl) Tryz.func6
    (ChangeSpec.witness6 (enc := enc) (C := Tryz.checked) false ⟨#[], #[.agg #[.int .i64 0, .slice none 0 0]], []⟩ 8 (by kernel_rfl) (by kernel_rfl) (by kernel_rfl) (by kernel_rfl)) ?_
  intro W base args ds gs before hval0 hW hcnd _
  have hval : ∀ (j : Nat) t v, Tryz.f6.params[j]? = some t → args[j]? = some v → Value.okWide Tryz.prog W .any base t v := hval0
  have hW' := hW
  obtain ⟨p, q, hA0, hV, rfl, hfz, hnd⟩ := hW
  have hA : DataW.TrodAll enc Tryz.prog W 0 (fun _ => true) true Tryz.f6.params.toList args.toList ds p := hA0
  rw [Tryz.params6] at hA hval
  obtain ⟨v0, vs0, d0, ds0, p0, q0, hargs, rfl, rfl, h0, r0⟩ := trodAll_cons hA
  obtain ⟨rfl, rfl, rfl⟩ := trodAll_nil r0
  obtain rfl : args = #[v0] := by cases args; simp_all
  obtain ⟨rfl, rfl⟩ := trodVars_none hV
  have k0 := h0
  have lt0 : ∀ x ∈ p0, x.block < W.heap.size := by obtain ⟨m, hm⟩ := k0; exact DataW.trod_lt m _ _ _ hm
  obtain ⟨n0, u0, l0, rfl, w0⟩ := open_table (hval 0 24 v0 rfl rfl) h0
  clear hA0 hval0
  refine (walk n0 u0 l0 W w0).mono fun e W' ⟨he, bel⟩ => ?_
  subst he
  exact ⟨_, rfl, _, _, _, [], _, [], hW', trodAll_mk1 (shut_bool Tryz.underlying4 _), (trodAll_cons_mk (Below.trod laidOut (by kernel_rfl) (of_decide_eq_true (by kernel_rfl)) k0 bel lt0) trodAll_mk0), rfl, bel.frame _, fun h => by cases h⟩

theorem over : Rows.fnExactOrderInRow.holds Tryz.pinned (OpenSpec.ofChange Rows.fnExactOrderInSpec) :=
  OpenClaim.holds_of_wide 6 Tryz.f6 rfl rfl rfl rfl rfl rfl rfl ⟨rfl, rfl, rfl, rfl, rfl⟩ rfl rfl rfl rfl rfl (by kernel_rfl) Tryz.func6 (by kernel_rfl)
    (of_decide_eq_true (by kernel_rfl)) (by unfold Func.isWrapper; first | (rw [if_pos (by decide +kernel)]; kernel_rfl) | (rw [if_neg (by decide +kernel)]; exact ⟨rfl, rfl⟩))
    (fun os started H enc _ => lifted os started H enc)

/-- THE STATEMENT -/
theorem proved : Rows.FnExactOrderInSaid := over
#print axioms proved
end Go.Proofs.YtcpmfcigciknlaaGreat.fnExactOrderIn
