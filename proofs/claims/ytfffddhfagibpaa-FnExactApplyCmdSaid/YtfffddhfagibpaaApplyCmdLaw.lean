/- What is proved: at every list of sums and command ApplyCmd of the program answers as its model does, every field, in memory of its own. Conditions: none. -/
import Derived.Test.YtfffddhfagibpaaRows
import Derived.Test.YtfffddhfagibpaaMApplyCmdd
import Derived.Test.YtfffddhfagibpaaMApplyCmda
import Derived.WalkKit
import Derived.ProofKit
import Derived.OpenShut
import Derived.ShutString
import Derived.ChangeOld
import Derived.Below
namespace Go.Proofs.Ytfffddhfagibpaa.fnExactApplyCmd
open Go.ChangeShapes Go.WideShapes Go.ChangeAt Go.RowKit
set_option linter.unusedVariables false

theorem own : ownKnob Try.prog.godebug = none := by kernel_rfl
theorem laidOut : laidOutB Try.prog = true := by kernel_rfl

/-! ### The walk: the law's text returns true, and nothing that was there is turned. -/
set_option maxHeartbeats 8000000 in
set_option maxRecDepth 100000 in
theorem walk (v0 : Value) (l : List Int) (k i f t a : Int) (w : World) (w0 : Ints w v0 l ∧ ∀ x ∈ l, wf64 x) (w1 : wf64 k ∧ wf64 i ∧ wf64 f ∧ wf64 t ∧ wf64 a) :
    Calls Try.prog 5 #[v0, .agg #[.int .i64 k, .int .i64 i, .int .i64 f, .int .i64 t, .int .i64 a]] w fun e w' => e = .returned (.bool true) ∧ Ext w w' := by
  obtain ⟨hA, _⟩ := w0
  clear w1
  obtain ⟨wb, hwb⟩ : ∃ wb, wb = w.alloc (.cells #[.int .i64 k, .int .i64 i, .int .i64 f, .int .i64 t, .int .i64 a] 30) := ⟨_, rfl⟩
  have x0 : Ext w wb := by rw [hwb]; exact Ext.alloc (Ext.refl _) _
  have b0 : CmdAt wb w.heap.size k i f t a := by rw [hwb]; exact cmdAt_new _ _ _ _ _ _ _
  have sz3 : w.heap.size < wb.heap.size := by rw [hwb]; simp
  have HW := Lib.hid hwb
  have HB := Lib.hid b0
  have X0 := Lib.hid x0
  obtain ⟨a1, len1, cap1, rfl, hlen⟩ : ∃ (ao : Option Addr) (n c : Nat), v0 = .slice ao n c ∧ l.length = n := by
    obtain ⟨ao, c, rfl, _⟩ := hA
    exact ⟨ao, l.length, c, rfl, rfl⟩
  have HA := Lib.hid (hA.ext x0)
  clear hA hwb b0 x0
  by_cases hbig : 1048576 < len1
  · clear hlen
    go_enter Try.func5, Try.ntmps5
    go_wp2
    go_ret
    exact ⟨rfl, Ext.alloc (Ext.refl _) _⟩
  have hl : l.length ≤ 1048576 := by omega
  have hlen1 : len1 ≤ 1048576 := by omega
  have HL := Lib.hid hlen
  have HL1 : Hid (l.length ≤ 35184372088831) := Lib.hid (by omega)
  have HL2 := Lib.hid hl
  clear hlen hbig
  obtain ⟨L, hL⟩ : ∃ L, L = if okA l k i f t a then didL k f t a l else [] := ⟨_, rfl⟩
  obtain ⟨c, hc⟩ : ∃ c, c = if okA l k i f t a then didC k f a l else 0 := ⟨_, rfl⟩
  obtain ⟨s, hs⟩ : ∃ s, s = if okA l k i f t a then didS k f l else 0 := ⟨_, rfl⟩
  obtain ⟨b, hb⟩ : ∃ b, b = okA l k i f t a := ⟨_, rfl⟩
  have hLl : L.length ≤ 4 := by
    rw [hL]
    cases h : okA l k i f t a with
    | false => simp
    | true =>
      unfold okA at h
      obtain ⟨hg, hc⟩ := (Bool.and_eq_true _ _ ▸ h : goodS l = true ∧ goodB k i f t a = true)
      rw [if_pos rfl]
      exact Nat.le_of_eq (goodS_get (good_didL hg hc)).1
  have cS : ∀ u W, Ints W u l → Calls Try.prog 18 #[u, .agg #[.int .i64 k, .int .i64 i, .int .i64 f, .int .i64 t, .int .i64 a]] W (Applied L c s b W) := fun u W h => by rw [hL, hc, hs, hb]; exact specApply_any u l k i f t a W h (by omega)
  have cI : ∀ u W, Ints W u l → Calls Try.prog 20 #[u, .agg #[.int .i64 k, .int .i64 i, .int .i64 f, .int .i64 t, .int .i64 a]] W (Applied L c s b W) := fun u W h => by rw [hL, hc, hs, hb]; exact implApply_any u l k i f t a W h
  have CS := Lib.hid cS
  have CI := Lib.hid cI
  have HLL := Lib.hid hLl
  clear cS cI hL hc hs hb hLl
  have nb : (b != b) = false := by simp
  obtain ⟨q0, q1, q2, q3, q4⟩ := HB.out
  have sz4 : w.heap.size ≠ wb.heap.size := Nat.ne_of_lt sz3
  go_enter Try.func5, Try.ntmps5
  go_upto_region 3 with fail
  rw [← HW.out]
  go_cut [5, 6, 7] (fun s5 s6 s7 wx => ∃ (v : Value) (g : Nat), s5 = v ∧ s6 = .pointer (some ⟨g, 0, none⟩) ∧ s7 = .bool b ∧ Fresh wb.heap.size wx v L ∧ BoxV wx g [.int .i64 c, .int .i64 s] ∧ Ext wb wx ∧ wb.heap.size ≤ g)
  case first =>
    go_region_law (first | (go_simp; go_at_call 11; refine (toIntS_any _ _ _ (Ints.ext HA.out (by repeat (first | assumption | exact Ext.refl _ | apply Ext.drew | apply Ext.alloc))) HL1.out).mono ?_; rintro e K3 ⟨u3, rfl, f3, x3⟩; have e3 : Ext wb K3 := Ext.trans (by repeat (first | assumption | exact Ext.refl _ | apply Ext.drew | apply Ext.alloc)) x3; have z3 := x3.size; (try simp at z3); clear q0 q1 q2 q3 q4; have l1K3 : w.heap.size < K3.heap.size := Nat.lt_of_lt_of_le sz3 (Ext.size e3); have l3K3 : w.heap.size ≠ K3.heap.size := Nat.ne_of_lt l1K3; obtain ⟨q0, q1, q2, q3, q4⟩ := CmdAt.ext HB.out e3; (first | (have PB := Lib.hid (BoxV.ext PB.out x3); have p0 := PB.out.cell 0 _ rfl; have p1 := PB.out.cell 1 _ rfl; have y0 := PB.out.free 0 (of_decide_eq_true rfl); have y1 := PB.out.free 1 (of_decide_eq_true rfl)) | (have PB := Lib.hid (BoxV.ext (boxV_new _ [.int .i64 0, .int .i64 0] _) (by first | exact x3 | exact Ext.trans (Ext.drew (Ext.refl _)) x3)); have p0 := PB.out.cell 0 _ rfl; have p1 := PB.out.cell 1 _ rfl; have y0 := PB.out.free 0 (of_decide_eq_true rfl); have y1 := PB.out.free 1 (of_decide_eq_true rfl)) | skip)) | (go_simp; go_at_call 19; refine (toCmd_any _ _ _ _ _ _).mono ?_; rintro e K4 ⟨rfl, x4⟩; have e4 : Ext wb K4 := Ext.trans (by repeat (first | assumption | exact Ext.refl _ | apply Ext.drew | apply Ext.alloc)) x4; have z4 := x4.size; (try simp at z4); clear q0 q1 q2 q3 q4; have l1K4 : w.heap.size < K4.heap.size := Nat.lt_of_lt_of_le sz3 (Ext.size e4); have l3K4 : w.heap.size ≠ K4.heap.size := Nat.ne_of_lt l1K4; obtain ⟨q0, q1, q2, q3, q4⟩ := CmdAt.ext HB.out e4; (first | (have PB := Lib.hid (BoxV.ext PB.out x4); have p0 := PB.out.cell 0 _ rfl; have p1 := PB.out.cell 1 _ rfl; have y0 := PB.out.free 0 (of_decide_eq_true rfl); have y1 := PB.out.free 1 (of_decide_eq_true rfl)) | (have PB := Lib.hid (BoxV.ext (boxV_new _ [.int .i64 0, .int .i64 0] _) (by first | exact x4 | exact Ext.trans (Ext.drew (Ext.refl _)) x4)); have p0 := PB.out.cell 0 _ rfl; have p1 := PB.out.cell 1 _ rfl; have y0 := PB.out.free 0 (of_decide_eq_true rfl); have y1 := PB.out.free 1 (of_decide_eq_true rfl)) | skip)) | (go_simp; go_at_call 18; refine (CS.out _ _ (Ints.ext (Fresh.ints f3) (by first | exact Ext.refl _ | exact Ext.trans (by repeat (first | assumption | exact Ext.refl _ | apply Ext.drew | apply Ext.alloc)) (Ext.trans x4 (by repeat (first | assumption | exact Ext.refl _ | apply Ext.drew | apply Ext.alloc)))))).mono ?_; rintro e K5 ⟨u5, rfl, f5, x5⟩; have e5 : Ext wb K5 := Ext.trans (by repeat (first | assumption | exact Ext.refl _ | apply Ext.drew | apply Ext.alloc)) x5; have z5 := x5.size; (try simp at z5); clear q0 q1 q2 q3 q4; have l1K5 : w.heap.size < K5.heap.size := Nat.lt_of_lt_of_le sz3 (Ext.size e5); have l3K5 : w.heap.size ≠ K5.heap.size := Nat.ne_of_lt l1K5; obtain ⟨q0, q1, q2, q3, q4⟩ := CmdAt.ext HB.out e5; (first | (have PB := Lib.hid (BoxV.ext PB.out x5); have p0 := PB.out.cell 0 _ rfl; have p1 := PB.out.cell 1 _ rfl; have y0 := PB.out.free 0 (of_decide_eq_true rfl); have y1 := PB.out.free 1 (of_decide_eq_true rfl)) | (have PB := Lib.hid (BoxV.ext (boxV_new _ [.int .i64 0, .int .i64 0] _) (by first | exact x5 | exact Ext.trans (Ext.drew (Ext.refl _)) x5)); have p0 := PB.out.cell 0 _ rfl; have p1 := PB.out.cell 1 _ rfl; have y0 := PB.out.free 0 (of_decide_eq_true rfl); have y1 := PB.out.free 1 (of_decide_eq_true rfl)) | skip)))
    all_goals
      go_wp2_with fail
      go_meet
      refine ⟨_, _, rfl, rfl, rfl, ?_⟩
      first
      | with_reducible refine endT_alloc e5 f5 ?_
      | with_reducible refine endT_set PB.out e5 f5 ?_ ?_ ?_
      | refine endT_alloc e5 f5 ?_
      all_goals first
      | with_reducible exact Nat.le_refl _
      | with_reducible exact Ext.size e3
      | with_reducible exact Ext.size e4
      | omega
      | (simp only [World.size_alloc]; omega)
      | (simp; done)
      | (simp; omega)
  case rest =>
    obtain ⟨_, g5, rfl, rfl, rfl, hf, hbx, hx, hge⟩ := hcut
    obtain ⟨w3, hw3⟩ : ∃ x : World, x = wc := ⟨_, rfl⟩
    subst hw3
    have F3 := Lib.hid hf
    have T3 := Lib.hid hbx
    have X3 := Lib.hid hx
    have sz5 : w.heap.size < w3.heap.size := Nat.lt_of_lt_of_le sz3 (Ext.size hx)
    clear hf hbx hx hge q0 q1 q2 q3 q4 sz3 sz4
    go_wp2_with fail
    refine (toIntS_any _ _ _ (HA.out.ext X3.out) HL1.out).mono ?_
    rintro e W4 ⟨v8, rfl, f4, x4⟩
    have F4 := Lib.hid f4
    have X4 := Lib.hid x4
    obtain ⟨q0, q1, q2, q3, q4⟩ := CmdAt.ext HB.out (X3.out.trans x4)
    clear f4 x4
    go_wp2_with fail
    refine (toCmd_any _ _ _ _ _ _).mono ?_
    rintro e W5 ⟨rfl, x5⟩
    have X5 := Lib.hid x5
    clear x5 q0 q1 q2 q3 q4
    go_wp2_with fail
    refine (CI.out _ _ (F4.out.ints.ext X5.out)).mono ?_
    rintro e W6 ⟨v9, rfl, f6, x6⟩
    obtain ⟨w6, hw6⟩ : ∃ w6, w6 = W6.alloc (.cells #[.int .i64 c, .int .i64 s] 32) := ⟨_, rfl⟩
    have x66 : Ext W6 w6 := by rw [hw6]; exact Ext.alloc (Ext.refl _) _
    have T6 : Hid (BoxV w6 W6.heap.size [.int .i64 c, .int .i64 s]) := Lib.hid (by rw [hw6]; exact boxV_new _ _ _)
    have F6 := Lib.hid (f6.ext x66)
    have X6 := Lib.hid (x6.trans x66)
    have HW6 := Lib.hid hw6
    have Y6 := Lib.hid (X4.out.trans (X5.out.trans (x6.trans x66)))
    have AP : Hid (v9.ownBlock = none ∨ v9.ownBlock ≠ v8.ownBlock) := Lib.hid (F4.out.apart f6 X5.out.size)
    have AQ : Hid (u5.ownBlock = none ∨ u5.ownBlock ≠ v8.ownBlock) := Lib.hid (F3.out.apart' F4.out (Nat.le_refl _))
    have AR : Hid (u5.ownBlock = none ∨ u5.ownBlock ≠ v9.ownBlock) := Lib.hid (F3.out.apart' f6 (X4.out.trans X5.out).size)
    have ZG : Hid (g5 < w3.heap.size ∧ w3.heap.size ≤ W4.heap.size ∧ W4.heap.size ≤ W5.heap.size ∧ W5.heap.size ≤ W6.heap.size ∧ ∀ q, v8.ownBlock = some q → q < W4.heap.size) := Lib.hid ⟨T3.out.lt, X4.out.size, X5.out.size, x6.size, fun q h => (World.ownsRow.lt F4.out q h).2⟩
    have ZH : Hid (∀ q, v9.ownBlock = some q → q < W6.heap.size) := Lib.hid fun q h => (World.ownsRow.lt f6 q h).2
    clear f6 x6 x66 hw6
    go_upto_region 6 with fail
    rw [← HW6.out]
    go_wp2_with fail
    refine (eqIntS_any _ _ _ _ _ F6.out.ints (F3.out.ext Y6.out).ints).mono ?_
    rintro e W7 ⟨rfl, x7⟩
    rw [decide_eq_true rfl]
    have d0 := (T6.out.ext x7).cell 0 _ rfl
    have d1 := (T6.out.ext x7).cell 1 _ rfl
    have c0 := (T3.out.ext (Y6.out.trans x7)).cell 0 _ rfl
    have c1 := (T3.out.ext (Y6.out.trans x7)).cell 1 _ rfl
    have X7 := Lib.hid x7
    clear x7
    go_wp2_with fail
    refine (eqTold_same _ _ _).mono ?_
    rintro e W8 ⟨rfl, x8⟩
    have X8 := Lib.hid (X7.out.trans x8)
    clear x8 c0 c1 d0 d1
    go_wp2_with fail
    refine (toIntS_any _ _ _ (HA.out.ext (X3.out.trans (Y6.out.trans X8.out))) HL1.out).mono ?_
    rintro e W9 ⟨v9', rfl, f9, x9⟩
    go_wp2_with fail
    refine (eqIntS_any _ _ _ _ _ (F4.out.ext (X5.out.trans (X6.out.trans (X8.out.trans x9)))).ints f9.ints).mono ?_
    rintro e W10 ⟨rfl, x10⟩
    rw [decide_eq_true rfl]
    have X10 := Lib.hid (X8.out.trans (x9.trans x10))
    have f4' := F4.out.ext (X5.out.trans (X6.out.trans X10.out))
    have F4' := Lib.hid f4'
    clear f9 x9 x10 X7 X8 f4'
    go_wp2_with fail
    refine (markIntS_any _ _ l 1 _ F4'.out (by omega) (by have := HL2.out; omega)).mono ?_
    rintro e W11 ⟨rfl, f11, t11⟩
    have F61 := Lib.hid ((F6.out.ext X10.out).touch t11 AP.out)
    have F31 := Lib.hid ((F3.out.ext (Y6.out.trans X10.out)).touch t11 AQ.out)
    have T61 := Lib.hid ((T6.out.ext X10.out).grown t11 (fun h => by have := ZG.out; have := ZG.out.2.2.2.2 _ h; omega))
    have T31 := Lib.hid ((T3.out.ext (Y6.out.trans X10.out)).grown t11 (fun h => by have := ZG.out; have := (World.ownsRow.lt F4.out _ h).1; omega))
    have Y11 := Lib.hid (Ext.touch (Y6.out.trans X10.out) F4'.out t11)
    have hk1 : decide ((1 : Int) + (l.length : Int) < 0) = false := decide_eq_false (by omega)
    clear f11 t11
    have d0 := T61.out.cell 0 _ rfl
    have d1 := T61.out.cell 1 _ rfl
    have c0 := T31.out.cell 0 _ rfl
    have c1 := T31.out.cell 1 _ rfl
    clear d0 d1 c0 c1
    go_wp2_with fail
    refine (eqIntS_any _ _ _ _ _ F61.out.ints F31.out.ints).mono ?_
    rintro e W12 ⟨rfl, x12⟩
    rw [decide_eq_true rfl]
    have d0 := (T61.out.ext x12).cell 0 _ rfl
    have d1 := (T61.out.ext x12).cell 1 _ rfl
    have c0 := (T31.out.ext x12).cell 0 _ rfl
    have c1 := (T31.out.ext x12).cell 1 _ rfl
    have X12 := Lib.hid x12
    clear x12
    go_wp2_with fail
    refine (eqTold_same _ _ _).mono ?_
    rintro e W13 ⟨rfl, x13⟩
    have X13 := Lib.hid (X12.out.trans x13)
    clear x13 c0 c1 d0 d1
    have F63 := Lib.hid (F61.out.ext X13.out)
    go_wp2_with fail
    refine (markIntS_any _ _ L 1 _ F63.out (by omega) (by have := HLL.out; omega)).mono ?_
    rintro e W14 ⟨rfl, f14, t14⟩
    have F14 := Lib.hid f14
    have F34 := Lib.hid ((F31.out.ext X13.out).touch t14 AR.out)
    have T34 := Lib.hid ((T31.out.ext X13.out).grown t14 (fun h => by have := ZG.out; have := (World.ownsRow.lt F63.out _ h).1; omega))
    have Y14 := Lib.hid (Ext.touch (Y11.out.trans X13.out) (F63.out.more (by have := ZG.out; omega)) t14)
    clear f14 t14
    go_wp2_with fail
    refine (heldIntS_yes _ L.length 1 _ F14.out.ints (by omega) (by have := HLL.out; omega)).mono ?_
    rintro e W15 ⟨rfl, x15⟩
    have F15 := Lib.hid (F14.out.ext x15)
    have F35 := Lib.hid (F34.out.ext x15)
    have T35 := Lib.hid (T34.out.ext x15)
    have Y15 := Lib.hid (Y14.out.trans x15)
    have HB := Lib.hid (CmdAt.ext HB.out (X3.out.trans Y15.out))
    have HA := Lib.hid (HA.out.ext (X3.out.trans Y15.out))
    obtain ⟨ms, hms⟩ : ∃ m, m = (1 : Int) + (L.length : Int) := ⟨_, rfl⟩
    have hm0 : 1 ≤ ms := by omega
    have nd : decide (ms < 0) = false := decide_eq_false (by omega)
    have nm : (ms != ms) = false := by simp
    rw [← hms]
    have HMS := Lib.hid hms
    have sz3 : w.heap.size < W15.heap.size := Nat.lt_of_lt_of_le sz5 (Ext.size Y15.out)
    have sz4 : w.heap.size ≠ W15.heap.size := Nat.ne_of_lt sz3
    clear x15 sz5 hms
    obtain ⟨q0, q1, q2, q3, q4⟩ := HB.out
    go_upto_region 22 with fail
    go_cut [15, 16, 17] (fun s5 s6 s7 wx => ∃ (v : Value) (g : Nat), s5 = v ∧ s6 = .pointer (some ⟨g, 0, none⟩) ∧ s7 = .bool b ∧ Fresh W15.heap.size wx v L ∧ BoxV wx g [.int .i64 c, .int .i64 s] ∧ Ext W15 wx ∧ W15.heap.size ≤ g)
    case first =>
      go_region_law (first | (go_simp; go_at_call 11; refine (toIntS_any _ _ _ (Ints.ext HA.out (by repeat (first | assumption | exact Ext.refl _ | apply Ext.drew | apply Ext.alloc))) HL1.out).mono ?_; rintro e K3 ⟨u3, rfl, f3, x3⟩; have e3 : Ext W15 K3 := Ext.trans (by repeat (first | assumption | exact Ext.refl _ | apply Ext.drew | apply Ext.alloc)) x3; have z3 := x3.size; (try simp at z3); clear q0 q1 q2 q3 q4; have l1K3 : w.heap.size < K3.heap.size := Nat.lt_of_lt_of_le sz3 (Ext.size e3); have l3K3 : w.heap.size ≠ K3.heap.size := Nat.ne_of_lt l1K3; obtain ⟨q0, q1, q2, q3, q4⟩ := CmdAt.ext HB.out e3; (first | (have PB := Lib.hid (BoxV.ext PB.out x3); have p0 := PB.out.cell 0 _ rfl; have p1 := PB.out.cell 1 _ rfl; have y0 := PB.out.free 0 (of_decide_eq_true rfl); have y1 := PB.out.free 1 (of_decide_eq_true rfl)) | (have PB := Lib.hid (BoxV.ext (boxV_new _ [.int .i64 0, .int .i64 0] _) (by first | exact x3 | exact Ext.trans (Ext.drew (Ext.refl _)) x3)); have p0 := PB.out.cell 0 _ rfl; have p1 := PB.out.cell 1 _ rfl; have y0 := PB.out.free 0 (of_decide_eq_true rfl); have y1 := PB.out.free 1 (of_decide_eq_true rfl)) | skip)) | (go_simp; go_at_call 19; refine (toCmd_any _ _ _ _ _ _).mono ?_; rintro e K4 ⟨rfl, x4⟩; have e4 : Ext W15 K4 := Ext.trans (by repeat (first | assumption | exact Ext.refl _ | apply Ext.drew | apply Ext.alloc)) x4; have z4 := x4.size; (try simp at z4); clear q0 q1 q2 q3 q4; have l1K4 : w.heap.size < K4.heap.size := Nat.lt_of_lt_of_le sz3 (Ext.size e4); have l3K4 : w.heap.size ≠ K4.heap.size := Nat.ne_of_lt l1K4; obtain ⟨q0, q1, q2, q3, q4⟩ := CmdAt.ext HB.out e4; (first | (have PB := Lib.hid (BoxV.ext PB.out x4); have p0 := PB.out.cell 0 _ rfl; have p1 := PB.out.cell 1 _ rfl; have y0 := PB.out.free 0 (of_decide_eq_true rfl); have y1 := PB.out.free 1 (of_decide_eq_true rfl)) | (have PB := Lib.hid (BoxV.ext (boxV_new _ [.int .i64 0, .int .i64 0] _) (by first | exact x4 | exact Ext.trans (Ext.drew (Ext.refl _)) x4)); have p0 := PB.out.cell 0 _ rfl; have p1 := PB.out.cell 1 _ rfl; have y0 := PB.out.free 0 (of_decide_eq_true rfl); have y1 := PB.out.free 1 (of_decide_eq_true rfl)) | skip)) | (go_simp; go_at_call 20; refine (CI.out _ _ (Ints.ext (Fresh.ints f3) (by first | exact Ext.refl _ | exact Ext.trans (by repeat (first | assumption | exact Ext.refl _ | apply Ext.drew | apply Ext.alloc)) (Ext.trans x4 (by repeat (first | assumption | exact Ext.refl _ | apply Ext.drew | apply Ext.alloc)))))).mono ?_; rintro e K5 ⟨u5, rfl, f5, x5⟩; have e5 : Ext W15 K5 := Ext.trans (by repeat (first | assumption | exact Ext.refl _ | apply Ext.drew | apply Ext.alloc)) x5; have z5 := x5.size; (try simp at z5); clear q0 q1 q2 q3 q4; have l1K5 : w.heap.size < K5.heap.size := Nat.lt_of_lt_of_le sz3 (Ext.size e5); have l3K5 : w.heap.size ≠ K5.heap.size := Nat.ne_of_lt l1K5; obtain ⟨q0, q1, q2, q3, q4⟩ := CmdAt.ext HB.out e5; (first | (have PB := Lib.hid (BoxV.ext PB.out x5); have p0 := PB.out.cell 0 _ rfl; have p1 := PB.out.cell 1 _ rfl; have y0 := PB.out.free 0 (of_decide_eq_true rfl); have y1 := PB.out.free 1 (of_decide_eq_true rfl)) | (have PB := Lib.hid (BoxV.ext (boxV_new _ [.int .i64 0, .int .i64 0] _) (by first | exact x5 | exact Ext.trans (Ext.drew (Ext.refl _)) x5)); have p0 := PB.out.cell 0 _ rfl; have p1 := PB.out.cell 1 _ rfl; have y0 := PB.out.free 0 (of_decide_eq_true rfl); have y1 := PB.out.free 1 (of_decide_eq_true rfl)) | skip)))
      all_goals
        go_wp2_with fail
        go_meet
        refine ⟨_, _, rfl, rfl, rfl, ?_⟩
        first
        | with_reducible refine endT_alloc e5 f5 ?_
        | with_reducible refine endT_set PB.out e5 f5 ?_ ?_ ?_
        | refine endT_alloc e5 f5 ?_
        all_goals first
        | with_reducible exact Nat.le_refl _
        | with_reducible exact Ext.size e3
        | with_reducible exact Ext.size e4
        | omega
        | (simp only [World.size_alloc]; omega)
        | (simp; done)
        | (simp; omega)
    case rest =>
      obtain ⟨_, g15, rfl, rfl, rfl, hf, hbx, hx, _⟩ := hcut
      obtain ⟨w17, hw17⟩ : ∃ x : World, x = wc := ⟨_, rfl⟩
      subst hw17
      have F17 := Lib.hid hf
      have T17 := Lib.hid hbx
      have X17 := Lib.hid hx
      clear hf hbx hx q0 q1 q2 q3 q4 sz3 sz4
      go_wp2_with fail
      refine (eqIntS_any _ _ _ _ _ F17.out.ints (F35.out.ext X17.out).ints).mono ?_
      rintro e W18 ⟨rfl, x18⟩
      rw [decide_eq_true rfl]
      have d0 := (T17.out.ext x18).cell 0 _ rfl
      have d1 := (T17.out.ext x18).cell 1 _ rfl
      have c0 := (T35.out.ext (X17.out.trans x18)).cell 0 _ rfl
      have c1 := (T35.out.ext (X17.out.trans x18)).cell 1 _ rfl
      have X18 := Lib.hid (X17.out.trans x18)
      clear x18
      go_wp2_with fail
      refine (eqTold_same _ _ _).mono ?_
      rintro e W19 ⟨rfl, x19⟩
      have X19 := Lib.hid (X18.out.trans x19)
      clear x19 c0 c1 d0 d1
      go_wp2_with fail
      refine (heldIntS_yes _ L.length 1 _ (F15.out.ext X19.out).ints (by omega) (by have := HLL.out; omega)).mono ?_
      rintro e W20 ⟨rfl, x20⟩
      rw [← HMS.out]
      have e20 : Ext w W20 := X0.out.trans (X3.out.trans (Y15.out.trans (X19.out.trans x20)))
      go_wp2
      go_ret
      exact ⟨rfl, e20⟩

/-! ### The frame -/
set_option maxRecDepth 100000 in
theorem lifted (os : Os) (started : os.Started) (H : Type) (enc : TypeId × Value → H) :
    ReturnsInHanded {} Try.checked os 5 .any (Rows.fnExactApplyCmdSpec.pre6 enc Try.prog Try.f5 Rows.fnExactApplyCmdRow.domain false) (Rows.fnExactApplyCmdSpec.post enc Try.prog Try.f5 false true false false) := by
  refine returnsInHanded_of_change (C := Try.checked) own started (by kernel_rfl) Try.func5
    (ChangeSpec.witness6 (enc := enc) (C := Try.checked) false ⟨#[], #[.slice none 0 0, .agg #[.int .i64 0, .int .i64 0, .int .i64 0, .int .i64 0, .int .i64 0]], []⟩ 8 (by kernel_rfl) (by kernel_rfl) (by kernel_rfl) (by kernel_rfl)) ?_
  intro W base args ds gs before hval0 hW hcnd _
  have hval : ∀ (j : Nat) t v, Try.f5.params[j]? = some t → args[j]? = some v → Value.okWide Try.prog W .any base t v := hval0
  have hW' := hW
  obtain ⟨p, q, hA0, hV, rfl, hfz, hnd⟩ := hW
  have hA : DataW.TrodAll enc Try.prog W 0 (fun _ => true) true Try.f5.params.toList args.toList ds p := hA0
  rw [Try.params5] at hA hval
  obtain ⟨v0, vs0, d0, ds0, p0, q0, hargs, rfl, rfl, h0, r0⟩ := trodAll_cons hA
  obtain ⟨v1, vs1, d1, ds1, p1, q1, rfl, rfl, rfl, h1, r1⟩ := trodAll_cons r0
  obtain ⟨rfl, rfl, rfl⟩ := trodAll_nil r1
  obtain rfl : args = #[v0, v1] := by cases args; simp_all
  obtain ⟨rfl, rfl⟩ := trodVars_none hV
  have k0 := h0
  have lt0 : ∀ x ∈ p0, x.block < W.heap.size := by obtain ⟨m, hm⟩ := k0; exact DataW.trod_lt m _ _ _ hm
  obtain ⟨l0, w0⟩ := open_intS (hval 0 22 v0 rfl rfl) h0
  have k1 := h1
  have lt1 : ∀ x ∈ p1, x.block < W.heap.size := by obtain ⟨m, hm⟩ := k1; exact DataW.trod_lt m _ _ _ hm
  obtain ⟨k1', i1, f1, t1, m1, rfl, w1⟩ := open_cmd (hval 1 30 v1 rfl rfl) h1
  clear hA0 hval0
  refine (walk v0 l0 k1' i1 f1 t1 m1 W w0 w1).mono fun e W' ⟨he, bel⟩ => ?_
  subst he
  exact ⟨_, rfl, _, _, _, [], _, [], hW', trodAll_mk1 (shut_bool Try.underlying4 _), (trodAll_cons_mk (Below.trod laidOut (by kernel_rfl) (of_decide_eq_true (by kernel_rfl)) k0 bel lt0) (trodAll_cons_mk (Below.trod laidOut (by kernel_rfl) (of_decide_eq_true (by kernel_rfl)) k1 bel lt1) trodAll_mk0)), rfl, bel.frame _, fun h => by cases h⟩

theorem over : Rows.fnExactApplyCmdRow.holds Try.pinned (OpenSpec.ofChange Rows.fnExactApplyCmdSpec) :=
  OpenClaim.holds_of_wide 5 Try.f5 rfl rfl rfl rfl rfl rfl rfl ⟨rfl, rfl, rfl, rfl, rfl⟩ rfl rfl rfl rfl rfl (by kernel_rfl) Try.func5 (by kernel_rfl)
    (of_decide_eq_true (by kernel_rfl)) (by unfold Func.isWrapper; first | (rw [if_pos (by decide +kernel)]; kernel_rfl) | (rw [if_neg (by decide +kernel)]; exact ⟨rfl, rfl⟩))
    (fun os started H enc _ => lifted os started H enc)

/-- THE STATEMENT -/
theorem proved : Rows.FnExactApplyCmdSaid := over
#print axioms proved
end Go.Proofs.Ytfffddhfagibpaa.fnExactApplyCmd
