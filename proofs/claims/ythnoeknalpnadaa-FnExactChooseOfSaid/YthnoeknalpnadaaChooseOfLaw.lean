/- What is proved: at every number and every rows the function ChooseOf of the program answers as its model does, all four results, writes into no argument, and its answer owns its memory. Conditions: none. -/
import Derived.Test.YthnoeknalpnadaaRows
import Derived.Test.YthnoeknalpnadaaMChooseOfg
import Derived.Test.YthnoeknalpnadaaMChooseOfi
import Derived.Test.YthnoeknalpnadaaMChooseOfj
import Derived.Test.YthnoeknalpnadaaMChooseOff
import Derived.Test.YthnoeknalpnadaaMChooseOfe
import Derived.Test.YthnoeknalpnadaaMChooseOfb
import Derived.Deep.DeepCutAuto
import Derived.WalkKit
import Derived.ProofKit
import Derived.OpenShut
import Derived.ShutString
import Derived.ChangeOld
import Derived.Below
namespace Go.Proofs.Ythnoeknalpnadaa.fnExactChooseOf
open Go.ChangeShapes Go.WideShapes Go.ChangeAt Go.RowKit
set_option linter.unusedVariables false

theorem own : ownKnob Try.prog.godebug = none := by kernel_rfl
theorem laidOut : laidOutB Try.prog = true := by kernel_rfl

/-! ### The walk: the law's text returns true, and nothing that was there is turned. -/
theorem pick_len (n : Int) (S : List RowD) : (pickR n S).l.length ≤ 5 := by
  unfold pickR
  cases hk : chooseOk n S with
  | false => simp [zeroR]
  | true =>
    rw [if_pos rfl]
    have hk' := hk
    unfold chooseOk at hk'
    simp only [Bool.and_eq_true] at hk'
    obtain ⟨hg, hi, ht⟩ := hk'
    have h5 := (isGrp_bd hg).2
    have hpos : 0 < S.length := by
      unfold inB at hi
      simp only [Bool.and_eq_true, decide_eq_true_eq] at hi
      have := (isGrp_bd hg).1
      omega
    have hm : ∀ r ∈ S, r.l.length ≤ 5 := fun r hr => by
      have := told_len hg (List.all_eq_true.1 ht r hr)
      omega
    unfold pickOf
    split
    · rename_i h
      exact hm _ (inSt_mem (lastV_mem h)).1
    · split
      · refine hm _ ?_
        unfold head0
        rw [List.getElem?_eq_getElem hpos]
        exact List.getElem_mem hpos
      · split
        · have := joinL_len hg (inSt S 1)
          show (joinL_ n (inSt S 1)).length ≤ 5
          omega
        · exact noneL_len n
set_option maxHeartbeats 8000000 in
set_option maxRecDepth 100000 in
theorem walk (n : Int) (v1 : Value) (S : List RowD) (w : World) (w0 : wf64 n) (hA : Rowz w v1 S) :
    Calls Try.prog 4 #[.int .i64 n, v1] w fun e w' => e = .returned (.bool true) ∧ Ext w w' := by
  clear w0
  have HA := Lib.hid hA
  clear hA
  by_cases h1 : (1048576 : Int) < bulkR S
  · have L1 := Lib.hid (lessened_no h1)
    clear h1
    go_enter Try.func4, Try.ntmps4
    go_wp2_with fail
    refine (szRowS_any _ _ _ _ HA.out (by omega) (by omega)).mono ?_
    rintro e W1 ⟨rfl, x1⟩
    rw [L1.out]
    go_wp2
    go_ret
    exact ⟨rfl, x1⟩
  · obtain ⟨r, hr⟩ : ∃ r, r = (1048576 : Int) - bulkR S := ⟨_, rfl⟩
    have hr0 : 0 ≤ r := by omega
    have hl : bulkR S ≤ 1048576 := by omega
    have L1 : Hid (lessened 1048576 (bulkR S) = r) := Lib.hid (by rw [hr]; exact lessened_yes (by omega))
    have HL := Lib.hid hl
    clear h1 hr hl
    obtain ⟨g, hg⟩ : ∃ g, g = chooseOk n S := ⟨_, rfl⟩
    obtain ⟨y, hy⟩ : ∃ y, y = wayR n S := ⟨_, rfl⟩
    obtain ⟨m, hm⟩ : ∃ m, m = pickR n S := ⟨_, rfl⟩
    have hml : m.l.length ≤ 5 := by rw [hm]; exact pick_len n S
    have cS : ∀ u W, Rowz W u S → Calls Try.prog 21 #[.int .i64 n, u] W (FourW y m g W) := fun u W h => by rw [hg, hy, hm]; exact specChoose_any _ _ _ _ h
    have cI : ∀ u W, Rowz W u S → Calls Try.prog 23 #[.int .i64 n, u] W (FourW y m g W) := fun u W h => by rw [hg, hy, hm]; exact implChoose_any _ _ _ _ h (by have := HL.out; omega)
    have CS := Lib.hid cS
    have CI := Lib.hid cI
    have HML := Lib.hid hml
    have HL2 : Hid (bulkR S ≤ 1099511627776) := Lib.hid (by have := HL.out; omega)
    have ng : (g != g) = false := by simp
    have ny : (y != y) = false := by simp
    clear cS cI hg hy hm hml
    go_enter Try.func4, Try.ntmps4
    go_wp2_with fail
    refine (szRowS_any _ _ _ _ HA.out (by omega) (by omega)).mono ?_
    rintro e W1 ⟨rfl, x1⟩
    rw [L1.out]
    go_wp2_with fail
    refine (toRowS_any _ _ _ (HA.out.ext x1) HL2.out).mono ?_
    rintro e W2 ⟨u2, rfl, f2, x2⟩
    go_wp2_with fail
    refine (CS.out _ _ f2.rows).mono ?_
    rintro e W3 ⟨v3, rfl, f3, x3⟩
    obtain ⟨a3, k3, rfl⟩ := f3.form
    have X3 := Lib.hid ((x1.trans x2).trans x3)
    have F3 := Lib.hid f3
    clear f2 x1 x2 x3 f3
    go_wp2_with fail
    refine (toRowS_any _ S _ (HA.out.ext (X3.out.trans ((Ext.alloc1 _ _).alloc _))) HL2.out).mono ?_
    obtain ⟨w3, hw3⟩ : ∃ w3, w3 = (W3.alloc (.cells #[.int .i64 m.k, .int .i64 m.i, .int .i64 m.f, .int .i64 m.t, .int .i64 m.a] 36)).alloc (.cells #[.int .i64 m.s, .slice a3 m.l.length k3] 39) := ⟨_, rfl⟩
    have x33 : Ext W3 w3 := by rw [hw3]; exact (Ext.alloc1 _ _).alloc _
    have s3 : w3.heap.size = W3.heap.size + 2 := by rw [hw3]; simp
    have c3 : CmdAt w3 W3.heap.size m.k m.i m.f m.t m.a := by rw [hw3]; exact (cmdAt_new W3 36 m.k m.i m.f m.t m.a).ext (Ext.alloc1 _ _)
    have b3 : AttrAt w3 (W3.heap.size + 1) m.s (.slice a3 m.l.length k3) := by
      have h := attrAt_new (W3.alloc (.cells #[.int .i64 m.k, .int .i64 m.i, .int .i64 m.f, .int .i64 m.t, .int .i64 m.a] 36)) 39 m.s (.slice a3 m.l.length k3)
      rw [World.size_alloc, ← hw3] at h
      exact h
    rw [← hw3]
    have C3 := Lib.hid c3
    have B3 := Lib.hid b3
    have S3 := Lib.hid s3
    have X33 := Lib.hid (X3.out.trans x33)
    have F33 := Lib.hid (F3.out.ext x33)
    have U33 := Lib.hid F3.out.und
    clear hw3 x33 s3 c3 b3
    rintro e W4 ⟨u4, rfl, f4, x4⟩
    have X4 := Lib.hid x4
    have I4 := Lib.hid (f4.within (Nat.le_refl _))
    clear f4 x4
    go_wp2_with fail
    refine (CI.out _ _ I4.out.fresh.rows).mono ?_
    rintro e W5 ⟨v5, rfl, f5, x5⟩
    obtain ⟨a5, k5, rfl⟩ := f5.form
    obtain ⟨w5, hw5⟩ : ∃ w5, w5 = (W5.alloc (.cells #[.int .i64 m.k, .int .i64 m.i, .int .i64 m.f, .int .i64 m.t, .int .i64 m.a] 36)).alloc (.cells #[.int .i64 m.s, .slice a5 m.l.length k5] 39) := ⟨_, rfl⟩
    have x55 : Ext W5 w5 := by rw [hw5]; exact (Ext.alloc1 _ _).alloc _
    have c5 : CmdAt w5 W5.heap.size m.k m.i m.f m.t m.a := by rw [hw5]; exact (cmdAt_new W5 36 m.k m.i m.f m.t m.a).ext (Ext.alloc1 _ _)
    have b5 : AttrAt w5 (W5.heap.size + 1) m.s (.slice a5 m.l.length k5) := by
      have h := attrAt_new (W5.alloc (.cells #[.int .i64 m.k, .int .i64 m.i, .int .i64 m.f, .int .i64 m.t, .int .i64 m.a] 36)) 39 m.s (.slice a5 m.l.length k5)
      rw [World.size_alloc, ← hw5] at h
      exact h
    have x35 := (X4.out.trans x5).trans x55
    have hlive : LiveC w w5 W3.heap.size W5.heap.size W3.heap.size W4.heap.size (.slice a3 m.l.length k3) (.slice a5 m.l.length k5) m.k m.i m.f m.t m.a m.s m.l m.l :=
      ⟨X33.out.trans x35, C3.out.ext x35, B3.out.ext x35, (F33.out.ext x35).more (Nat.zero_le _), U33.out, c5, b5, f5.ext x55, f5.und⟩
    have hi4 : FreshI w3.heap.size W4.heap.size w5 u4 S := I4.out.kept (Stood.of_ext (x5.trans x55) (Nat.le_refl _))
    have hz : w.heap.size ≤ W3.heap.size ∧ W3.heap.size + 2 = w3.heap.size ∧ w3.heap.size ≤ W4.heap.size ∧ W4.heap.size ≤ W5.heap.size ∧ W5.heap.size + 2 = w5.heap.size := by
      have q1 := X3.out.size
      have q3 := S3.out
      have q4 := X4.out.size
      have q5 := x5.size
      have q6 : w5.heap.size = W5.heap.size + 2 := by rw [hw5]; simp
      omega
    have LIVE := Lib.hid hlive
    have HI4 := Lib.hid hi4
    have HZ := Lib.hid hz
    have HW5 := Lib.hid hw5
    clear x5 f5 hw5 x55 c5 b5 x35 hlive hi4 hz X33 C3 B3 F33 U33 X4 I4 S3 F3 X3
    obtain ⟨p0, p1, p2, p3, p4⟩ := LIVE.out.c3
    obtain ⟨q0, q1⟩ := LIVE.out.a3
    obtain ⟨r0, r1, r2, r3, r4⟩ := LIVE.out.c5
    obtain ⟨t0, t1⟩ := LIVE.out.a5
    rw [HW5.out] at p0 p1 p2 p3 p4 q0 q1 r0 r1 r2 r3 r4 t0 t1
    go_wp2_with fail
    rw [← HW5.out]
    refine (eqCmd_same _ _ _ _ _ _).mono ?_
    rintro e W6 ⟨rfl, x6⟩
    have l6 := LIVE.out.on x6
    have i6 := HI4.out.kept (Stood.of_ext x6 (by have := HZ.out; omega))
    have z6 := x6.size
    clear x6 p0 p1 p2 p3 p4 q0 q1 r0 r1 r2 r3 r4 t0 t1 LIVE HI4 HW5
    obtain ⟨q0, q1⟩ := l6.a3
    obtain ⟨t0, t1⟩ := l6.a5
    have L6 := Lib.hid l6
    have I6 := Lib.hid i6
    have Z6 := Lib.hid z6
    clear l6 i6 z6
    go_wp2_with fail
    refine (eqAttr_same _ _ _ m.l _ L6.out.f5.ints L6.out.f3.ints).mono ?_
    rintro e W7 ⟨rfl, x7⟩
    have l7 := L6.out.on x7
    have i7 := I6.out.kept (Stood.of_ext x7 (by have := HZ.out; have := Z6.out; omega))
    have z7 : w5.heap.size ≤ W7.heap.size := Nat.le_trans Z6.out x7.size
    have L7 := Lib.hid l7
    have I7 := Lib.hid i7
    have Z7 := Lib.hid z7
    clear x7 l7 i7 z7 L6 I6 Z6 q0 q1 t0 t1
    go_wp2_with fail
    refine (toRowS_any _ S _ (HA.out.ext L7.out.ext) HL2.out).mono ?_
    rintro e W8 ⟨u8, rfl, f8, x8⟩
    go_wp2_with fail
    refine (eqRowS_same _ _ S _ (I7.out.fresh.rows.ext x8) f8.rows).mono ?_
    rintro e W9 ⟨rfl, x9⟩
    have x79 := x8.trans x9
    have l9 := L7.out.on x79
    have i9 := I7.out.kept (Stood.of_ext x79 (by have := HZ.out; have := Z7.out; omega))
    have z9 : w5.heap.size ≤ W9.heap.size := Nat.le_trans Z7.out x79.size
    have L9 := Lib.hid l9
    have I9 := Lib.hid i9
    have Z9 := Lib.hid z9
    clear f8 x8 x9 x79 l9 i9 z9 L7 I7 Z7
    go_wp2_with fail
    refine (markRowS_any w3.heap.size W4.heap.size _ S 1 _ I9.out (by omega) (by omega) HL2.out).mono ?_
    rintro e W10 ⟨rfl, k10⟩
    obtain ⟨q, hq⟩ : ∃ q, q = (1 : Int) + ((weigh S).sum : Int) := ⟨_, rfl⟩
    have hq0 : 0 ≤ q := by omega
    rw [← hq]
    have l10 := L9.out.ins k10 (by have := HZ.out; omega) (by have := HZ.out; omega) (by have := HZ.out; omega) (Nat.le_refl _) (by have := HZ.out; omega)
    have L10 := Lib.hid l10
    clear k10 hq l10 L9 I9 Z9
    obtain ⟨p0, p1, p2, p3, p4⟩ := L10.out.c3
    obtain ⟨r0, r1, r2, r3, r4⟩ := L10.out.c5
    go_wp2_with fail
    refine (eqCmd_same _ _ _ _ _ _).mono ?_
    rintro e W11 ⟨rfl, x11⟩
    have L11 := Lib.hid (L10.out.on x11)
    clear x11 p0 p1 p2 p3 p4 r0 r1 r2 r3 r4 L10
    obtain ⟨q0, q1⟩ := L11.out.a3
    obtain ⟨t0, t1⟩ := L11.out.a5
    go_wp2_with fail
    refine (eqAttr_same _ _ _ m.l _ L11.out.f5.ints L11.out.f3.ints).mono ?_
    rintro e W12 ⟨rfl, x12⟩
    have L12 := Lib.hid (L11.out.on x12)
    clear x12 q0 q1 t0 t1 L11
    obtain ⟨t0, t1⟩ := L12.out.a5
    go_wp2_with fail
    refine (markAttr_any W4.heap.size m.s _ m.l 1 _ L12.out.f5 (by omega) (by have := HML.out; omega)).mono ?_
    rintro e W13 ⟨rfl, m13, g13⟩
    have L13 := Lib.hid (L12.out.mark g13 m13 (by have := HZ.out; omega) (by have := HZ.out; omega) (by have := HZ.out; omega))
    obtain ⟨nl, hnl⟩ : ∃ nl, nl = m.l.length := ⟨_, rfl⟩
    have HNL := Lib.hid hnl
    obtain ⟨z, hz⟩ : ∃ z, z = (1 : Int) + (m.l.length : Int) := ⟨_, rfl⟩
    have hz0 : 0 ≤ z := by omega
    rw [← hz]
    have HZZ := Lib.hid hz
    have nz : (z != z) = false := by simp
    clear m13 g13 t0 t1 hnl hz L12
    obtain ⟨t0, t1⟩ := L13.out.a5
    go_wp2_with fail
    refine (heldAttr_yes m.s _ m.l.length 1 _ L13.out.f5.ints (by omega) (by have := HML.out; omega)).mono ?_
    rintro e W14 ⟨rfl, x14⟩
    rw [← HZZ.out]
    have L14 := Lib.hid (L13.out.on x14)
    clear x14 t0 t1 L13
    go_wp2_with fail
    refine (toRowS_any _ S _ (HA.out.ext L14.out.ext) HL2.out).mono ?_
    rintro e W15 ⟨u15, rfl, f15, x15⟩
    go_wp2_with fail
    refine (CI.out _ _ f15.rows).mono ?_
    rintro e W16 ⟨v16, rfl, f16, x16⟩
    obtain ⟨a16, k16, rfl⟩ := f16.form
    obtain ⟨w16, hw16⟩ : ∃ w16, w16 = (W16.alloc (.cells #[.int .i64 m.k, .int .i64 m.i, .int .i64 m.f, .int .i64 m.t, .int .i64 m.a] 36)).alloc (.cells #[.int .i64 m.s, .slice a16 m.l.length k16] 39) := ⟨_, rfl⟩
    have x66 : Ext W16 w16 := by rw [hw16]; exact (Ext.alloc1 _ _).alloc _
    have c16 : CmdAt w16 W16.heap.size m.k m.i m.f m.t m.a := by rw [hw16]; exact (cmdAt_new W16 36 m.k m.i m.f m.t m.a).ext (Ext.alloc1 _ _)
    have b16 : AttrAt w16 (W16.heap.size + 1) m.s (.slice a16 m.l.length k16) := by
      have h := attrAt_new (W16.alloc (.cells #[.int .i64 m.k, .int .i64 m.i, .int .i64 m.f, .int .i64 m.t, .int .i64 m.a] 36)) 39 m.s (.slice a16 m.l.length k16)
      rw [World.size_alloc, ← hw16] at h
      exact h
    have L16 := Lib.hid (L14.out.on ((x15.trans x16).trans x66))
    have F16 := Lib.hid (f16.ext x66).ints
    have HW16 := Lib.hid hw16
    have B16 := Lib.hid b16
    obtain ⟨bh, hbh⟩ : ∃ bh, bh = W16.heap.size := ⟨_, rfl⟩
    rw [← hbh] at B16
    obtain ⟨r0, r1, r2, r3, r4⟩ := c16
    rw [← hbh] at r0 r1 r2 r3 r4
    have HBH := Lib.hid hbh
    clear f15 x15 f16 x16 hw16 x66 b16 hbh L14
    obtain ⟨p0, p1, p2, p3, p4⟩ := L16.out.c3
    rw [HW16.out] at p0 p1 p2 p3 p4 r0 r1 r2 r3 r4
    rw [HBH.out] at r0 r1 r2 r3 r4
    go_wp2_with fail
    rw [← HW16.out, ← HBH.out]
    refine (eqCmd_same _ _ _ _ _ _).mono ?_
    rintro e W17 ⟨rfl, x17⟩
    have L17 := Lib.hid (L16.out.on x17)
    have F17 := Lib.hid (F16.out.ext x17)
    obtain ⟨t0, t1⟩ := B16.out.ext x17
    clear x17 p0 p1 p2 p3 p4 r0 r1 r2 r3 r4 L16 F16 B16 HW16
    obtain ⟨q0, q1⟩ := L17.out.a3
    go_wp2_with fail
    refine (eqAttr_same _ _ _ m.l _ F17.out L17.out.f3.ints).mono ?_
    rintro e W18 ⟨rfl, x18⟩
    have L18 := Lib.hid (L17.out.on x18)
    clear x18 q0 q1 t0 t1 L17 F17
    obtain ⟨t0, t1⟩ := L18.out.a5
    go_wp2_with fail
    refine (heldAttr_yes m.s _ m.l.length 1 _ L18.out.f5.ints (by omega) (by have := HML.out; omega)).mono ?_
    rintro e W19 ⟨rfl, x19⟩
    rw [← HZZ.out]
    have hx := L18.out.ext.trans x19
    clear x19 t0 t1
    go_wp2
    go_ret
    exact ⟨rfl, hx⟩

/-! ### The frame -/
set_option maxRecDepth 100000 in
theorem lifted (os : Os) (started : os.Started) (H : Type) (enc : TypeId × Value → H) :
    ReturnsInHanded {} Try.checked os 4 .any (Rows.fnExactChooseOfSpec.pre6 enc Try.prog Try.f4 Rows.fnExactChooseOfRow.domain false) (Rows.fnExactChooseOfSpec.post enc Try.prog Try.f4 false true false false) := by
  refine returnsInHanded_of_change (C := Try.checked) own started (by kernel_rfl) Try.func4
    (ChangeSpec.witness6 (enc := enc) (C := Try.checked) false ⟨#[], #[.int .i64 0, .slice none 0 0], []⟩ 8 (by kernel_rfl) (by kernel_rfl) (by kernel_rfl) (by kernel_rfl)) ?_
  intro W base args ds gs before hval0 hW hcnd _
  have hval : ∀ (j : Nat) t v, Try.f4.params[j]? = some t → args[j]? = some v → Value.okWide Try.prog W .any base t v := hval0
  have hW' := hW
  obtain ⟨p, q, hA0, hV, rfl, hfz, hnd⟩ := hW
  have hA : DataW.TrodAll enc Try.prog W 0 (fun _ => true) true Try.f4.params.toList args.toList ds p := hA0
  rw [Try.params4] at hA hval
  obtain ⟨v0, vs0, d0, ds0, p0, q0, hargs, rfl, rfl, h0, r0⟩ := trodAll_cons hA
  obtain ⟨v1, vs1, d1, ds1, p1, q1, rfl, rfl, rfl, h1, r1⟩ := trodAll_cons r0
  obtain ⟨rfl, rfl, rfl⟩ := trodAll_nil r1
  obtain rfl : args = #[v0, v1] := by cases args; simp_all
  obtain ⟨rfl, rfl⟩ := trodVars_none hV
  have k0 := h0
  have lt0 : ∀ x ∈ p0, x.block < W.heap.size := by obtain ⟨m, hm⟩ := k0; exact DataW.trod_lt m _ _ _ hm
  obtain ⟨a0, rfl, _, _, w0⟩ := open_int Try.underlying3 (hval 0 3 v0 rfl rfl) h0
  have k1 := h1
  have lt1 : ∀ x ∈ p1, x.block < W.heap.size := by obtain ⟨m, hm⟩ := k1; exact DataW.trod_lt m _ _ _ hm
  obtain ⟨l1, w1⟩ := open_rowS (hval 1 33 v1 rfl rfl) h1
  clear hA0 hval0
  refine (walk a0 v1 l1 W w0 w1).mono fun e W' ⟨he, bel⟩ => ?_
  subst he
  exact ⟨_, rfl, _, _, _, [], _, [], hW', trodAll_mk1 (shut_bool Try.underlying4 _), (trodAll_cons_mk (Below.trod laidOut (by kernel_rfl) (of_decide_eq_true (by kernel_rfl)) k0 bel lt0) (trodAll_cons_mk (Below.trod laidOut (by kernel_rfl) (of_decide_eq_true (by kernel_rfl)) k1 bel lt1) trodAll_mk0)), rfl, bel.frame _, fun h => by cases h⟩

theorem over : Rows.fnExactChooseOfRow.holds Try.pinned (OpenSpec.ofChange Rows.fnExactChooseOfSpec) :=
  OpenClaim.holds_of_wide 4 Try.f4 rfl rfl rfl rfl rfl rfl rfl ⟨rfl, rfl, rfl, rfl, rfl⟩ rfl rfl rfl rfl rfl (by kernel_rfl) Try.func4 (by kernel_rfl)
    (of_decide_eq_true (by kernel_rfl)) (by unfold Func.isWrapper; first | (rw [if_pos (by decide +kernel)]; kernel_rfl) | (rw [if_neg (by decide +kernel)]; exact ⟨rfl, rfl⟩))
    (fun os started H enc _ => lifted os started H enc)

/-- THE STATEMENT -/
theorem proved : Rows.FnExactChooseOfSaid := over
#print axioms proved
end Go.Proofs.Ythnoeknalpnadaa.fnExactChooseOf
