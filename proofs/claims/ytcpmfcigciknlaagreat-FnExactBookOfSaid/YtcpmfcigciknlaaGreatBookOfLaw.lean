/- What is proved: at every table the function BookOf of the program answers as its model does, every field, writes into no argument, and its answer owns its memory. Conditions: none. -/
import Derived.Test.YtcpmfcigciknlaaGreatRows
import Derived.Test.YtcpmfcigciknlaaGreatNBookOfx
import Derived.Test.YtcpmfcigciknlaaGreatNBookOfv
import Derived.Test.YtcpmfcigciknlaaGreatNBookOfd
import Derived.Test.YtcpmfcigciknlaaGreatNBookOfp
import Derived.Test.YtcpmfcigciknlaaGreatNBookOfb
import Derived.Deep.DeepCutAuto
import Derived.WalkKit
import Derived.ProofKit
import Derived.OpenShut
import Derived.ShutString
import Derived.ChangeOld
import Derived.Below
namespace Go.Proofs.YtcpmfcigciknlaaGreat.fnExactBookOf
open Go.ChangeShapes Go.WideShapes Go.ChangeAt Go.RowKit
set_option linter.unusedVariables false

theorem own : ownKnob Tryz.prog.godebug = none := by kernel_rfl
theorem laidOut : laidOutB Tryz.prog = true := by kernel_rfl

/-! ### The walk: the law's text returns true, and nothing that was there is turned. -/
set_option maxHeartbeats 8000000 in
set_option maxRecDepth 100000 in
theorem walk (n : Int) (v1 : Value) (T : List (List RowD)) (w : World) (w1 : wf64 n ∧ Rowzz w v1 T) :
    Calls Tryz.prog 3 #[.agg #[.int .i64 n, v1]] w fun e w' => e = .returned (.bool true) ∧ Ext w w' := by
  obtain ⟨_, hA0⟩ := w1
  have x0 : Ext w (w.alloc (.cells #[.int .i64 n, v1] 24)) := Ext.alloc (Ext.refl _) _
  have b0 := attrAt_new w 24 n v1
  obtain ⟨wb, hwb⟩ : ∃ wb, wb = w.alloc (.cells #[.int .i64 n, v1] 24) := ⟨_, rfl⟩
  have sb : wb.heap.size = w.heap.size + 1 := by rw [hwb]; simp
  rw [← hwb] at x0 b0
  have HW := Lib.hid hwb
  have SB := Lib.hid sb
  clear hwb sb
  have hA := hA0.ext x0
  by_cases h1 : (1048576 : Int) < bulkT T
  · have L1 := Lib.hid (lessened_no h1)
    clear h1
    go_enter Tryz.func3, Tryz.ntmps3
    obtain ⟨c0, c1⟩ := b0
    go_wp2_with fail
    rw [← HW.out]
    refine (szTable_any _ _ _ _ _ hA (by omega) (by omega)).mono ?_
    rintro e W1 ⟨rfl, x1⟩
    rw [L1.out]
    have y1 := x0.trans x1
    clear x0 x1 c0 c1
    go_wp2
    go_ret
    exact ⟨rfl, y1⟩
  · obtain ⟨r, hr⟩ : ∃ r, r = (1048576 : Int) - bulkT T := ⟨_, rfl⟩
    have hr0 : 0 ≤ r := by omega
    have hl : bulkT T ≤ 1048576 := by omega
    have L1 : Hid (lessened 1048576 (bulkT T) = r) := Lib.hid (by rw [hr]; exact lessened_yes (by omega))
    have HL := Lib.hid hl
    clear h1 hr hl
    obtain ⟨g, hg⟩ : ∃ g, g = goodTab n T := ⟨_, rfl⟩
    obtain ⟨S, hS⟩ : ∃ L, L = bookSR n T := ⟨_, rfl⟩
    obtain ⟨E, hE⟩ : ∃ L, L = bookER n T := ⟨_, rfl⟩
    have hsm : S.length ≤ 4 ∧ E.length ≤ 30 := by rw [hS, hE]; exact book_small _ _
    have cS : ∀ u W, Rowzz W u T → Calls Tryz.prog 8 #[.agg #[.int .i64 n, u]] W (BookedS S E g W) := fun u W h => by rw [hg, hS, hE]; exact specBook_any _ _ _ _ h
    have cI : ∀ u W, Rowzz W u T → Calls Tryz.prog 10 #[.agg #[.int .i64 n, u]] W (BookedI S E g W) := fun u W h => by rw [hg, hS, hE]; exact implBook_any _ _ _ _ h (by have := HL.out; omega)
    have CS := Lib.hid cS
    have CI := Lib.hid cI
    have HB := Lib.hid b0
    have HA := Lib.hid hA
    have HA0 := Lib.hid hA0
    have X0 := Lib.hid x0
    have hL2 : bulkT T ≤ 1099511627776 := by have := HL.out; omega
    have HL2 := Lib.hid hL2
    have HSM := Lib.hid hsm
    clear cS cI hg b0 hS hE hA hA0 x0 hL2 hsm
    go_enter Tryz.func3, Tryz.ntmps3
    go_wp2_with fail
    rw [← HW.out]
    refine (szTable_any _ _ _ _ _ HA.out (by omega) (by omega)).mono ?_
    rintro e W1 ⟨rfl, x1⟩
    rw [L1.out]
    obtain ⟨c0, c1⟩ := HB.out.ext x1
    go_wp2_with fail
    refine (toTable_any _ _ _ _ (HA.out.ext x1) HL2.out).mono ?_
    rintro e W2 ⟨u2, rfl, f2, x2⟩
    clear c0 c1
    go_wp2_with fail
    refine (CS.out _ _ f2.rows).mono ?_
    rintro e W3 ⟨v3, u3, rfl, f3, e3, x3⟩
    have y3 : Ext wb W3 := (x1.trans x2).trans x3
    have Y3 := Lib.hid y3
    have F3 := Lib.hid f3
    have E3 := Lib.hid e3
    clear f2 x1 x2 x3 y3 f3 e3
    obtain ⟨c0, c1⟩ := HB.out.ext Y3.out
    go_wp2_with fail
    refine (toTable_any _ _ _ _ (HA.out.ext Y3.out) HL2.out).mono ?_
    rintro e W4 ⟨u4, rfl, f4, x4⟩
    obtain ⟨a4, k4, rfl⟩ := f4.form
    have F4 := Lib.hid f4
    have X4 := Lib.hid x4
    have B4 := Lib.hid (attrAt_new W4 32 n (.slice a4 T.length k4))
    clear f4 x4 c0 c1
    go_wp2_with fail
    refine (CI.out _ _ (F4.out.rows.ext (Ext.alloc1 _ _))).mono ?_
    obtain ⟨w4, hw4⟩ : ∃ w4, w4 = W4.alloc (.cells #[.int .i64 n, .slice a4 T.length k4] 32) := ⟨_, rfl⟩
    have x44 : Ext W4 w4 := by rw [hw4]; exact Ext.alloc1 _ _
    have s4 : w4.heap.size = W4.heap.size + 1 := by rw [hw4]; simp
    have B4' := B4.out
    rw [← hw4] at B4' ⊢
    have B4'' := Lib.hid B4'
    have X44 := Lib.hid x44
    have S4 := Lib.hid s4
    clear hw4 B4 B4' x44 s4
    rintro e W5 ⟨v5, u5, rfl, f5, d5, x5⟩
    have x35 := (X4.out.trans X44.out).trans x5
    have hlive : LiveB w W3 W5 w.heap.size w4.heap.size n v1 v3 u3 v5 u5 S S E E :=
      ⟨(X0.out.trans Y3.out).trans x35, HB.out.ext (Y3.out.trans x35), x35, F3.out, E3.out, f5, d5⟩
    have ht4 : AttrAt W5 W4.heap.size n (.slice a4 T.length k4) := B4''.out.ext x5
    have hf4 : FreshT W3.heap.size W4.heap.size W5 (.slice a4 T.length k4) T := F4.out.kept (Stood.of_ext (X44.out.trans x5) (Nat.le_refl _))
    have hz : w.heap.size < W3.heap.size ∧ W3.heap.size ≤ W4.heap.size ∧ W4.heap.size < w4.heap.size ∧ w4.heap.size ≤ W5.heap.size := by
      have q1 := X0.out.size
      have q2 := Y3.out.size
      have q4 := X4.out.size
      have q5 := S4.out
      have q6 := x5.size
      have q7 := SB.out
      omega
    have LIVE := Lib.hid hlive
    have HT4 := Lib.hid ht4
    have HF4 := Lib.hid hf4
    have HZ := Lib.hid hz
    clear f5 d5 x5 x35 hlive ht4 hf4 hz F3 E3 F4 X4 X44 B4'' S4 Y3 SB
    go_wp2_with fail
    refine (eqIntS_any _ _ _ _ _ LIVE.out.f5.ints LIVE.out.readS).mono ?_
    rintro e W5' ⟨rfl, x5'⟩
    rw [decide_eq_true rfl]
    have X5' := Lib.hid x5'
    clear x5'
    go_wp2_with fail
    refine (eqEnS_same _ _ E _ (LIVE.out.on X5'.out).d5.reads (LIVE.out.on X5'.out).readE).mono ?_
    rintro e W6 ⟨rfl, x6'⟩
    have x6 := X5'.out.trans x6'
    clear x6' X5'
    have l6 := LIVE.out.on x6
    have t6 := HT4.out.ext x6
    have f6 := HF4.out.kept (Stood.of_ext x6 (by have := HZ.out; omega))
    have i6 := f6.rows
    have s6 := x6.size
    obtain ⟨c0, c1⟩ := l6.arg
    obtain ⟨d0, d1⟩ := t6
    have J6 := Lib.hid (HA0.out.ext l6.ext)
    have I6 := Lib.hid i6
    have L6 := Lib.hid l6
    have F6 := Lib.hid f6
    have SZ6 := Lib.hid s6
    clear x6 l6 f6 i6 LIVE HT4 HF4 s6
    have ng : (g != g) = false := by simp
    go_wp2
    go_region_held3 (fun W => Ext W6 W ∧ W.cell? ⟨w.heap.size, 0, none⟩ = some (.int .i64 n) ∧ W.cell? ⟨w.heap.size, 1, none⟩ = some v1 ∧ W.cell? ⟨W4.heap.size, 0, none⟩ = some (.int .i64 n) ∧ W.cell? ⟨W4.heap.size, 1, none⟩ = some (.slice a4 T.length k4)) (first | (exact keep4 (by assumption) (by assumption)) | (exact ⟨Ext.drew (Ext.refl _), c0, c1, d0, d1⟩)) (first | (go_at_call 9; refine (toTable_any _ _ _ _ (J6.out.ext (And.left (by assumption))) HL2.out).mono ?_; rintro e W7 ⟨u7, rfl, f7, x7⟩) | (go_at_call 13; refine (eqTable_same _ _ _ T _ (I6.out.ext (And.left (by assumption))) (FreshT.rows (by assumption))).mono ?_; rintro e W8 ⟨rfl, x8⟩))
    rename_i hH
    have x68 : Ext W6 W8 := hH.1
    obtain ⟨_, _, _, e0, e1⟩ := hH
    have l8 := L6.out.on x68
    have f8 := F6.out.kept (Stood.of_ext x68 (by have := HZ.out; have := SZ6.out; omega))
    have z8 : W4.heap.size ≤ W8.heap.size := by have := HZ.out; have := SZ6.out; have := x68.size; omega
    have L8 := Lib.hid l8
    have F8 := Lib.hid f8
    have Z8 := Lib.hid z8
    have Z88 : Hid (w4.heap.size ≤ W8.heap.size) := Lib.hid (by have := HZ.out; have := SZ6.out; have := x68.size; omega)
    clear x7 x8 f7 c0 c1 d0 d1 x68 l8 f8 z8 L6 F6 J6 I6
    go_wp2_with fail
    refine (markTable_any W3.heap.size W4.heap.size n _ T 1 _ F8.out Z8.out (by omega) (by omega) (by have := HL.out; omega)).mono ?_
    rintro e W9 ⟨rfl, k9⟩
    obtain ⟨q, hq⟩ : ∃ q, q = (1 : Int) + ((weighs T).sum : Int) := ⟨_, rfl⟩
    have hq0 : 0 ≤ q := by omega
    rw [← hq]
    have l9 := L8.out.ins k9 (by have := HZ.out; omega) (by have := HZ.out; omega) (by have := HZ.out; omega) (by have := HZ.out; omega)
    have L9 := Lib.hid l9
    have Z9 : Hid (w4.heap.size ≤ W9.heap.size) := Lib.hid (by have := Z88.out; have := k9.size; omega)
    clear k9 hq l9 L8 F8 e0 e1 Z8 Z88
    go_wp2_with fail
    refine (eqIntS_any _ _ _ _ _ L9.out.f5.ints L9.out.readS).mono ?_
    rintro e W9' ⟨rfl, x9'⟩
    rw [decide_eq_true rfl]
    have X9' := Lib.hid x9'
    clear x9'
    go_wp2_with fail
    refine (eqEnS_same _ _ E _ (L9.out.on X9'.out).d5.reads (L9.out.on X9'.out).readE).mono ?_
    rintro e W10 ⟨rfl, x10'⟩
    have x10 := X9'.out.trans x10'
    clear x10' X9'
    have l10 := L9.out.on x10
    have L10 := Lib.hid l10
    have Z10 : Hid (w4.heap.size ≤ W10.heap.size) := Lib.hid (by have := Z9.out; have := x10.size; omega)
    clear x10 l10 L9 Z9
    go_wp2_with fail
    refine (markIntS_any w4.heap.size _ S 1 _ L10.out.f5 (by omega) (by have := HSM.out; omega)).mono ?_
    rintro e W11 ⟨rfl, f11, t11⟩
    have l11 := L10.out.markS f11 t11 (by have := HZ.out; omega) (by have := HZ.out; omega) (by have := HZ.out; omega)
    obtain ⟨m1, hm1⟩ : ∃ m, m = (1 : Int) + (S.length : Int) := ⟨_, rfl⟩
    have hm10 : 1 ≤ m1 ∧ m1 ≤ 5 := by have := HSM.out; omega
    rw [← hm1]
    have L11 := Lib.hid l11
    have HM1 := Lib.hid hm1
    have HB1 := Lib.hid hm10
    clear t11 f11 l11 L10 hm1 Z10 hm10
    go_wp2_with fail
    refine (enApart_mark L11.out.d5 (by have := HB1.out; omega) (by have := HB1.out; omega) (by have := HSM.out; omega)).mono ?_
    rintro e W12 ⟨rfl, d12, rq, t12, hr12, ap12⟩
    have l12 := L11.out.markE d12 t12 hr12 ap12 (by have := HZ.out; omega) (by have := HZ.out; omega) (by have := HZ.out; omega)
    obtain ⟨m2, hm2⟩ : ∃ m, m = m1 + 9 * (E.length : Int) := ⟨_, rfl⟩
    have hm20 : 1 ≤ m2 := by have := HB1.out; omega
    rw [← hm2]
    have L12 := Lib.hid l12
    have HM2 := Lib.hid hm2
    have nd1 : decide (m1 < 0) = false := decide_eq_false (by have := HB1.out; omega)
    have nd2 : decide (m2 < 0) = false := decide_eq_false (by omega)
    have nm : (m2 != m2) = false := by simp
    have hm10 : 1 ≤ m1 := HB1.out.1
    clear d12 t12 hr12 ap12 l12 L11 hm2
    go_wp2_with fail
    refine (heldIntS_yes _ S.length 1 _ L12.out.f5.ints (by omega) (by have := HSM.out; omega)).mono ?_
    rintro e W13 ⟨rfl, x13⟩
    rw [← HM1.out]
    have L13 := Lib.hid (L12.out.on x13)
    clear x13 L12
    go_wp2_with fail
    refine (heldEnS_yes _ E.length m1 _ L13.out.d5.reads (by have := HB1.out; omega) (by have := HB1.out; omega) (by have := HSM.out; omega)).mono ?_
    rintro e W14 ⟨rfl, x14⟩
    rw [← HM2.out]
    have L14 := Lib.hid (L13.out.on x14)
    obtain ⟨c0, c1⟩ := L14.out.arg
    clear x14 L13
    go_wp2_with fail
    refine (toTable_any _ _ _ _ (HA0.out.ext L14.out.ext) HL2.out).mono ?_
    rintro e W15 ⟨u15, rfl, f15, x15⟩
    clear c0 c1
    go_wp2_with fail
    refine (CI.out _ _ f15.rows).mono ?_
    rintro e W16 ⟨v16, u16, rfl, f16, d16, x16⟩
    have F16 := Lib.hid f16.ints
    have D16 := Lib.hid d16.reads
    have L16 := Lib.hid (L14.out.on (x15.trans x16))
    clear f15 x15 x16 f16 d16 L14
    go_wp2_with fail
    refine (eqIntS_any _ _ _ _ _ F16.out L16.out.readS).mono ?_
    rintro e W17 ⟨rfl, x17⟩
    rw [decide_eq_true rfl]
    have L17 := Lib.hid (L16.out.on x17)
    have D17 := Lib.hid (D16.out.ext x17)
    clear x17 L16 F16 D16
    go_wp2_with fail
    refine (eqEnS_same _ _ E _ D17.out L17.out.readE).mono ?_
    rintro e W18 ⟨rfl, x18⟩
    have L18 := Lib.hid (L17.out.on x18)
    clear x18 L17 D17
    go_wp2_with fail
    refine (heldIntS_yes _ S.length 1 _ L18.out.f5.ints (by omega) (by have := HSM.out; omega)).mono ?_
    rintro e W19 ⟨rfl, x19⟩
    rw [← HM1.out]
    have L19 := Lib.hid (L18.out.on x19)
    clear x19 L18
    go_wp2_with fail
    refine (heldEnS_yes _ E.length m1 _ L19.out.d5.reads (by have := HB1.out; omega) (by have := HB1.out; omega) (by have := HSM.out; omega)).mono ?_
    rintro e W20 ⟨rfl, x20⟩
    rw [← HM2.out]
    have hx := L19.out.ext.trans x20
    clear x20
    go_wp2
    go_ret
    exact ⟨rfl, hx⟩

/-! ### The frame -/
set_option maxRecDepth 100000 in
theorem lifted (os : Os) (started : os.Started) (H : Type) (enc : TypeId × Value → H) :
    ReturnsInHanded {} Tryz.checked os 3 .any (Rows.fnExactBookOfSpec.pre6 enc Tryz.prog Tryz.f3 Rows.fnExactBookOfRow.domain false) (Rows.fnExactBookOfSpec.post enc Tryz.prog Tryz.f3 false true false false) := by
  refine returnsInHanded_of_change (C := Tryz.checked) own started (by kernel_rfl) Tryz.func3
    (ChangeSpec.witness6 (enc := enc) (C := Tryz.checked) false ⟨#[], #[.agg #[.int .i64 0, .slice none 0 0]], []⟩ 8 (by kernel_rfl) (by kernel_rfl) (by kernel_rfl) (by kernel_rfl)) ?_
  intro W base args ds gs before hval0 hW hcnd _
  have hval : ∀ (j : Nat) t v, Tryz.f3.params[j]? = some t → args[j]? = some v → Value.okWide Tryz.prog W .any base t v := hval0
  have hW' := hW
  obtain ⟨p, q, hA0, hV, rfl, hfz, hnd⟩ := hW
  have hA : DataW.TrodAll enc Tryz.prog W 0 (fun _ => true) true Tryz.f3.params.toList args.toList ds p := hA0
  rw [Tryz.params3] at hA hval
  obtain ⟨v0, vs0, d0, ds0, p0, q0, hargs, rfl, rfl, h0, r0⟩ := trodAll_cons hA
  obtain ⟨rfl, rfl, rfl⟩ := trodAll_nil r0
  obtain rfl : args = #[v0] := by cases args; simp_all
  obtain ⟨rfl, rfl⟩ := trodVars_none hV
  have k0 := h0
  have lt0 : ∀ x ∈ p0, x.block < W.heap.size := by obtain ⟨m, hm⟩ := k0; exact DataW.trod_lt m _ _ _ hm
  obtain ⟨n0, u0, l0, rfl, w0⟩ := open_table (hval 0 24 v0 rfl rfl) h0
  clear hA0 hval0
  refine (walk n0 u0 l0 W w0).mono fun e W' ⟨he, bel⟩ => ?_
  subst he
  exact ⟨_, rfl, _, _, _, [], _, [], hW', trodAll_mk1 (shut_bool Tryz.underlying4 _), (trodAll_cons_mk (Below.trod laidOut (by kernel_rfl) (of_decide_eq_true (by kernel_rfl)) k0 bel lt0) trodAll_mk0), rfl, bel.frame _, fun h => by cases h⟩

theorem over : Rows.fnExactBookOfRow.holds Tryz.pinned (OpenSpec.ofChange Rows.fnExactBookOfSpec) :=
  OpenClaim.holds_of_wide 3 Tryz.f3 rfl rfl rfl rfl rfl rfl rfl ⟨rfl, rfl, rfl, rfl, rfl⟩ rfl rfl rfl rfl rfl (by kernel_rfl) Tryz.func3 (by kernel_rfl)
    (of_decide_eq_true (by kernel_rfl)) (by unfold Func.isWrapper; first | (rw [if_pos (by decide +kernel)]; kernel_rfl) | (rw [if_neg (by decide +kernel)]; exact ⟨rfl, rfl⟩))
    (fun os started H enc _ => lifted os started H enc)

/-- THE STATEMENT -/
theorem proved : Rows.FnExactBookOfSaid := over
#print axioms proved
end Go.Proofs.YtcpmfcigciknlaaGreat.fnExactBookOf
