/- What is proved: at every table, instance and row SetRow of the program answers as its model does, every field, in memory of its own. Conditions: none. -/
import Derived.Test.YtfffddhfagibpaaRows
import Derived.Test.YtfffddhfagibpaaMSetRowk
import Derived.Test.YtfffddhfagibpaaMSetRowb
import Derived.Test.YtfffddhfagibpaaMSetRowc
import Derived.Test.YtfffddhfagibpaaMSetRowg
import Derived.Test.YtfffddhfagibpaaMSetRowa
import Derived.Deep.DeepCutAuto
import Derived.WalkKit
import Derived.ProofKit
import Derived.OpenShut
import Derived.ShutString
import Derived.ChangeOld
import Derived.Below
namespace Go.Proofs.Ytfffddhfagibpaa.fnExactSetRow
open Go.ChangeShapes Go.WideShapes Go.ChangeAt Go.RowKit
set_option linter.unusedVariables false

theorem own : ownKnob Try.prog.godebug = none := by kernel_rfl
theorem laidOut : laidOutB Try.prog = true := by kernel_rfl

/-! ### The walk: the law's text returns true, and nothing that was there is turned. -/
theorem set_args (w : World) (n : Int) (u : Value) (r : RowD) (z : Value) (T T' : TypeId) :
    let W := (w.alloc (.cells #[.int .i64 n, u] T)).alloc (.cells #[.int .i64 r.b, .int .i64 r.v, .int .i64 r.st, .int .i64 r.k, .int .i64 r.i, .int .i64 r.f, .int .i64 r.t, .int .i64 r.a, .int .i64 r.s, z] T')
    Ext w W ∧ AttrAt W w.heap.size n u ∧ RowIn W (w.heap.size + 1) 0 r z ∧ W.heap.size = w.heap.size + 2 := put_boxes w n u r z T T'
set_option maxHeartbeats 8000000 in
set_option maxRecDepth 100000 in
theorem walk (n : Int) (v1 : Value) (T : List (List RowD)) (rep no : Int) (r : RowD) (z : Value) (w : World) (w1 : wf64 n ∧ Rowzz w v1 T) (w2 : wf64 rep) (w3 : wf64 no) (w4 : Ints w z r.l) :
    Calls Try.prog 9 #[.agg #[.int .i64 n, v1], .int .i64 rep, .int .i64 no, .agg #[.int .i64 r.b, .int .i64 r.v, .int .i64 r.st, .int .i64 r.k, .int .i64 r.i, .int .i64 r.f, .int .i64 r.t, .int .i64 r.a, .int .i64 r.s, z]] w fun e w' => e = .returned (.bool true) ∧ Ext w w' := by
  obtain ⟨_, hA⟩ := w1
  clear w2 w3
  obtain ⟨az, cz, rfl, _⟩ := id w4
  obtain ⟨av, cv, rfl, _⟩ := id hA
  obtain ⟨x0, b1, b2, sb⟩ := set_args w n (.slice av T.length cv) r (.slice az r.l.length cz) 58 62
  obtain ⟨wb, hwb⟩ : ∃ wb, wb = (w.alloc (.cells #[.int .i64 n, .slice av T.length cv] 58)).alloc (.cells #[.int .i64 r.b, .int .i64 r.v, .int .i64 r.st, .int .i64 r.k, .int .i64 r.i, .int .i64 r.f, .int .i64 r.t, .int .i64 r.a, .int .i64 r.s, .slice az r.l.length cz] 62) := ⟨_, rfl⟩
  rw [← hwb] at x0 b1 b2 sb
  have HW := Lib.hid hwb
  have HB1 := Lib.hid b1
  have HB2 := Lib.hid b2
  have HA := Lib.hid (hA.ext x0)
  have HZ := Lib.hid (w4.ext x0)
  have X0 := Lib.hid x0
  have SB := Lib.hid sb
  obtain ⟨c0, c1⟩ := HB1.out
  obtain ⟨q0, q1, q2, q3, q4, q5, q6, q7, q8, q9⟩ := HB2.out
  clear hwb x0 b1 b2 sb hA w4
  by_cases h1 : (1048576 : Int) < bulkT T
  · have L1 := Lib.hid (lessened_no h1)
    clear h1
    go_enter Try.func9, Try.ntmps9
    rw [HW.out] at c0 c1
    go_wp2_with fail
    rw [← HW.out]
    refine (szTable_any _ _ _ _ _ HA.out (by omega) (by omega)).mono ?_
    rintro e W1 ⟨rfl, x1⟩
    rw [L1.out]
    have y1 := X0.out.trans x1
    clear x1 c0 c1 q0 q1 q2 q3 q4 q5 q6 q7 q8 q9
    go_wp2
    go_ret
    exact ⟨rfl, y1⟩
  obtain ⟨t, ht⟩ : ∃ t, t = (1048576 : Int) - bulkT T := ⟨_, rfl⟩
  have ht0 : 0 ≤ t := by omega
  have ht1 : t ≤ 1048576 := by omega
  have L1 : Hid (lessened 1048576 (bulkT T) = t) := Lib.hid (by rw [ht]; exact lessened_yes (by omega))
  have hb0 : bulkT T ≤ 1048576 := by omega
  have HB0 := Lib.hid hb0
  clear h1 ht hb0
  by_cases h2 : t < r.l.length
  · have L2 := Lib.hid (lessened_no h2)
    clear h2
    go_enter Try.func9, Try.ntmps9
    rw [HW.out] at c0 c1
    go_wp2_with fail
    rw [← HW.out]
    refine (szTable_any _ _ _ _ _ HA.out (by omega) (by omega)).mono ?_
    rintro e W1 ⟨rfl, x1⟩
    rw [L1.out]
    clear c0 c1 q0 q1 q2 q3 q4 q5 q6 q7 q8 q9
    obtain ⟨q0, q1, q2, q3, q4, q5, q6, q7, q8, q9⟩ := HB2.out.ext x1
    go_wp2_with fail
    refine (szRow_any r _ _ _ (HZ.out.ext x1) ht0 (by omega)).mono ?_
    rintro e W2 ⟨rfl, x2⟩
    rw [L2.out]
    have y1 := (X0.out.trans x1).trans x2
    clear x1 x2 q0 q1 q2 q3 q4 q5 q6 q7 q8 q9
    go_wp2
    go_ret
    exact ⟨rfl, y1⟩
  obtain ⟨t2, ht2⟩ : ∃ t2, t2 = t - r.l.length := ⟨_, rfl⟩
  have ht3 : 0 ≤ t2 := by omega
  have L2 : Hid (lessened t r.l.length = t2) := Lib.hid (by rw [ht2]; exact lessened_yes (by omega))
  have hrl : r.l.length ≤ 1048576 := by omega
  have HL1 : Hid (bulkT T ≤ 1099511627776) := Lib.hid (Nat.le_trans HB0.out (by omega))
  have HR1 : Hid (r.l.length ≤ 35184372088831) := Lib.hid (by omega)
  obtain ⟨d, hd⟩ : ∃ d, d = setD n T rep no r := ⟨_, rfl⟩
  have cS : ∀ u z W, Rowzz W u T → Ints W z r.l → Calls Try.prog 37 #[.agg #[.int .i64 n, u], .int .i64 rep, .int .i64 no, .agg #[.int .i64 r.b, .int .i64 r.v, .int .i64 r.st, .int .i64 r.k, .int .i64 r.i, .int .i64 r.f, .int .i64 r.t, .int .i64 r.a, .int .i64 r.s, z]] W (SetSpec d W) := fun u z W h h' => by rw [hd]; exact specSetRow_any _ _ _ _ _ _ _ _ h h' hrl
  have cI : ∀ u z W, Rowzz W u T → Ints W z r.l → Calls Try.prog 40 #[.agg #[.int .i64 n, u], .int .i64 rep, .int .i64 no, .agg #[.int .i64 r.b, .int .i64 r.v, .int .i64 r.st, .int .i64 r.k, .int .i64 r.i, .int .i64 r.f, .int .i64 r.t, .int .i64 r.a, .int .i64 r.s, z]] W (SetImpl d W) := fun u z W h h' => by rw [hd]; exact implSetRow_any _ _ _ _ _ _ _ _ h h' HL1.out hrl
  have CS := Lib.hid cS
  have CI := Lib.hid cI
  have HRL := Lib.hid hrl
  have DL : Hid (bulkT d.T ≤ 10995116277) := Lib.hid (by rw [hd]; have := bulk_setD n T rep no r; have := HB0.out; omega)
  clear cS cI hd h2 ht2 hrl
  obtain ⟨N, D, b⟩ := d
  dsimp only at DL
  obtain ⟨ms, hms⟩ : ∃ ms, ms = (1 : Int) + ((weighs D).sum : Int) := ⟨_, rfl⟩
  have hm0 : 1 ≤ ms := by omega
  have CM : Hid (∀ lo hi u W, AnsW lo hi W u D → hi ≤ W.heap.size → Calls Try.prog 43 #[.agg #[.int .i64 N, u], .int .i64 1] W (fun e w' => e = .returned (.int .i64 ms) ∧ AnsM w' u D ∧ Ins lo hi W w')) := Lib.hid fun lo hi u W h hh => by rw [hms]; exact ansT_mark h hh DL.out
  have CH : Hid (∀ u W, AnsM W u D → Calls Try.prog 45 #[.agg #[.int .i64 N, u], .int .i64 1] W (IntExt ms W)) := Lib.hid fun u W h => by rw [hms]; exact ansT_held h DL.out
  clear hms
  have nm : (ms != ms) = false := by simp
  have nd : decide (ms < 0) = false := decide_eq_false (by omega)
  go_enter Try.func9, Try.ntmps9
  rw [HW.out] at c0 c1
  go_wp2_with fail
  rw [← HW.out]
  refine (szTable_any _ _ _ _ _ HA.out (by omega) (by omega)).mono ?_
  rintro e W1 ⟨rfl, x1⟩
  rw [L1.out]
  clear c0 c1 q0 q1 q2 q3 q4 q5 q6 q7 q8 q9
  obtain ⟨q0, q1, q2, q3, q4, q5, q6, q7, q8, q9⟩ := HB2.out.ext x1
  go_wp2_with fail
  refine (szRow_any r _ _ _ (HZ.out.ext x1) ht0 (by omega)).mono ?_
  rintro e W2 ⟨rfl, x2⟩
  rw [L2.out]
  have y2 := x1.trans x2
  clear q0 q1 q2 q3 q4 q5 q6 q7 q8 q9
  have X2 := Lib.hid (X0.out.trans y2)
  have HB1 := Lib.hid (HB1.out.ext y2)
  have HB2 := Lib.hid (HB2.out.ext y2)
  have HA := Lib.hid (HA.out.ext y2)
  have HZ := Lib.hid (HZ.out.ext y2)
  have sz2 : w.heap.size + 1 < W2.heap.size := by have := SB.out; have := y2.size; omega
  obtain ⟨c0, c1⟩ := HB1.out
  obtain ⟨q0, q1, q2, q3, q4, q5, q6, q7, q8, q9⟩ := HB2.out
  have sz3 : w.heap.size < W2.heap.size := by omega
  have sz4 : w.heap.size ≠ W2.heap.size := Nat.ne_of_lt sz3
  have sz5 : w.heap.size + 1 ≠ W2.heap.size := Nat.ne_of_lt sz2
  clear x1 x2 y2
  go_upto_region 8 with fail
  go_cut [10, 11] (fun s8 s9 wx => s9 = .bool b ∧ ∃ (g : Nat) (u : Value), s8 = .pointer (some ⟨g, 0, none⟩) ∧ AttrAt wx g N u ∧ Rowzz wx u D ∧ Ext W2 wx ∧ W2.heap.size ≤ g)
  case first =>
    go_region_law (first | (go_simp; go_at_call 38; refine (toTable_any _ _ _ _ (Rowzz.ext HA.out (by repeat (first | assumption | exact Ext.refl _ | apply Ext.drew | apply Ext.alloc))) HL1.out).mono ?_; rintro e K3 ⟨u3, rfl, f3, x3⟩; have e3 : Ext W2 K3 := Ext.trans (by repeat (first | assumption | exact Ext.refl _ | apply Ext.drew | apply Ext.alloc)) x3; have z3 := x3.size; (try simp at z3); clear c0 c1 q0 q1 q2 q3 q4 q5 q6 q7 q8 q9; have l1K3 : w.heap.size < K3.heap.size := Nat.lt_of_lt_of_le sz3 (Ext.size e3); have l2K3 : w.heap.size + 1 < K3.heap.size := Nat.lt_of_lt_of_le sz2 (Ext.size e3); have l3K3 : w.heap.size ≠ K3.heap.size := Nat.ne_of_lt l1K3; have l4K3 : w.heap.size + 1 ≠ K3.heap.size := Nat.ne_of_lt l2K3; obtain ⟨c0, c1⟩ := AttrAt.ext HB1.out e3; obtain ⟨q0, q1, q2, q3, q4, q5, q6, q7, q8, q9⟩ := RowIn.ext HB2.out e3; (first | (have PB := Lib.hid (OpenAt.ext PB.out x3); obtain ⟨⟨p0, p1⟩, y0, y1⟩ := PB.out) | (have PB := Lib.hid (OpenAt.ext (openAt_new _ _ _ _) (by first | exact x3 | exact Ext.trans (Ext.drew (Ext.refl _)) x3)); obtain ⟨⟨p0, p1⟩, y0, y1⟩ := PB.out) | skip)) | (go_simp; go_at_call 39; refine (toRow_any r _ _ (Ints.ext HZ.out (by repeat (first | assumption | exact Ext.refl _ | apply Ext.drew | apply Ext.alloc))) HR1.out).mono ?_; rintro e K4 ⟨u4, rfl, f4, x4⟩; obtain ⟨a4, k4, rfl⟩ := f4.form; have e4 : Ext W2 K4 := Ext.trans (by repeat (first | assumption | exact Ext.refl _ | apply Ext.drew | apply Ext.alloc)) x4; have z4 := x4.size; (try simp at z4); clear c0 c1 q0 q1 q2 q3 q4 q5 q6 q7 q8 q9; have l1K4 : w.heap.size < K4.heap.size := Nat.lt_of_lt_of_le sz3 (Ext.size e4); have l2K4 : w.heap.size + 1 < K4.heap.size := Nat.lt_of_lt_of_le sz2 (Ext.size e4); have l3K4 : w.heap.size ≠ K4.heap.size := Nat.ne_of_lt l1K4; have l4K4 : w.heap.size + 1 ≠ K4.heap.size := Nat.ne_of_lt l2K4; obtain ⟨c0, c1⟩ := AttrAt.ext HB1.out e4; obtain ⟨q0, q1, q2, q3, q4, q5, q6, q7, q8, q9⟩ := RowIn.ext HB2.out e4; (first | (have PB := Lib.hid (OpenAt.ext PB.out x4); obtain ⟨⟨p0, p1⟩, y0, y1⟩ := PB.out) | (have PB := Lib.hid (OpenAt.ext (openAt_new _ _ _ _) (by first | exact x4 | exact Ext.trans (Ext.drew (Ext.refl _)) x4)); obtain ⟨⟨p0, p1⟩, y0, y1⟩ := PB.out) | skip)) | (go_simp; go_at_call 37; refine (CS.out _ _ _ (Rowzz.ext (FreshT.rows f3) (Ext.trans (by repeat (first | assumption | exact Ext.refl _ | apply Ext.drew | apply Ext.alloc)) (Ext.trans x4 (by repeat (first | assumption | exact Ext.refl _ | apply Ext.drew | apply Ext.alloc))))) (Ints.ext (Fresh.ints f4) (by repeat (first | assumption | exact Ext.refl _ | apply Ext.drew | apply Ext.alloc)))).mono ?_; rintro e K5 ⟨u5, rfl, f5, x5⟩; obtain ⟨a5, k5, rfl, _⟩ := id f5.1; have e5 : Ext W2 K5 := Ext.trans (by repeat (first | assumption | exact Ext.refl _ | apply Ext.drew | apply Ext.alloc)) x5; have z5 := x5.size; (try simp at z5); clear c0 c1 q0 q1 q2 q3 q4 q5 q6 q7 q8 q9; have l1K5 : w.heap.size < K5.heap.size := Nat.lt_of_lt_of_le sz3 (Ext.size e5); have l2K5 : w.heap.size + 1 < K5.heap.size := Nat.lt_of_lt_of_le sz2 (Ext.size e5); have l3K5 : w.heap.size ≠ K5.heap.size := Nat.ne_of_lt l1K5; have l4K5 : w.heap.size + 1 ≠ K5.heap.size := Nat.ne_of_lt l2K5; obtain ⟨c0, c1⟩ := AttrAt.ext HB1.out e5; obtain ⟨q0, q1, q2, q3, q4, q5, q6, q7, q8, q9⟩ := RowIn.ext HB2.out e5; (first | (have PB := Lib.hid (OpenAt.ext PB.out x5); obtain ⟨⟨p0, p1⟩, y0, y1⟩ := PB.out) | (have PB := Lib.hid (OpenAt.ext (openAt_new _ _ _ _) (by first | exact x5 | exact Ext.trans (Ext.drew (Ext.refl _)) x5)); obtain ⟨⟨p0, p1⟩, y0, y1⟩ := PB.out) | skip)))
    all_goals
      go_wp2_with fail
      go_meet
      refine ⟨rfl, _, .slice a5 D.length k5, rfl, ?_⟩
      first
      | with_reducible refine end_alloc e5 f5.1
      | with_reducible refine end_set PB.out e5 f5 ?_ ?_
      | exact end_alloc e5 f5.1
      all_goals first
      | with_reducible exact Nat.le_refl _
      | with_reducible exact Ext.size e3
      | with_reducible exact Ext.size e4
      | omega
      | (simp only [World.size_alloc]; omega)
      | (simp; done)
      | (simp; omega)
  case rest =>
    obtain ⟨rfl, gc, uc, rfl, hc, hf, hx, hge⟩ := hcut
    obtain ⟨w3, hw3⟩ : ∃ x : World, x = wc := ⟨_, rfl⟩
    subst hw3
    obtain ⟨au, ku, rfl, _⟩ := id hf
    have C3 := Lib.hid hc
    have S3 := Lib.hid hf
    have X3 := Lib.hid (X2.out.trans hx)
    have HB1 := Lib.hid (HB1.out.ext hx)
    have HB2 := Lib.hid (HB2.out.ext hx)
    have HA := Lib.hid (HA.out.ext hx)
    have HZ := Lib.hid (HZ.out.ext hx)
    have hs3 : w.heap.size + 1 < w3.heap.size := by have := hx.size; omega
    have HS3 := Lib.hid hs3
    clear hc hf hx hge c0 c1 q0 q1 q2 q3 q4 q5 q6 q7 q8 q9 sz2 sz3 sz4 sz5 hs3 CS
    obtain ⟨c0, c1⟩ := HB1.out
    go_wp2_with fail
    refine (toTable_any _ _ _ _ HA.out HL1.out).mono ?_
    rintro e W4 ⟨u4, rfl, f4, x4⟩
    obtain ⟨a4, k4, rfl⟩ := f4.form
    obtain ⟨w4, hw4⟩ : ∃ w4, w4 = W4.alloc (.cells #[.int .i64 n, .slice a4 T.length k4] 67) := ⟨_, rfl⟩
    have x44 : Ext W4 w4 := by rw [hw4]; exact Ext.alloc1 _ _
    have s4 : w4.heap.size = W4.heap.size + 1 := by rw [hw4]; simp
    have B4 : AttrAt w4 W4.heap.size n (.slice a4 T.length k4) := by rw [hw4]; exact attrAt_new _ _ _ _
    have HW4 := Lib.hid hw4
    have HB4 := Lib.hid B4
    have F4 := Lib.hid (f4.kept (Stood.of_ext x44 (Nat.le_refl _)))
    have X4 := Lib.hid (x4.trans x44)
    have Z4 := Lib.hid (And.intro x4.size s4)
    clear c0 c1 f4 x4 x44 hw4 B4 s4
    obtain ⟨q0, q1, q2, q3, q4, q5, q6, q7, q8, q9⟩ := HB2.out.ext X4.out
    go_upto_region 10 with fail
    rw [← HW4.out]
    go_wp2_with fail
    refine (toRow_any r _ _ (HZ.out.ext X4.out) HR1.out).mono ?_
    rintro e W5 ⟨z5, rfl, f5, x5⟩
    obtain ⟨a5, k5, rfl⟩ := f5.form
    obtain ⟨w5, hw5⟩ : ∃ w5, w5 = W5.alloc (.cells #[.int .i64 r.b, .int .i64 r.v, .int .i64 r.st, .int .i64 r.k, .int .i64 r.i, .int .i64 r.f, .int .i64 r.t, .int .i64 r.a, .int .i64 r.s, .slice a5 r.l.length k5] 73) := ⟨_, rfl⟩
    have x55 : Ext W5 w5 := by rw [hw5]; exact Ext.alloc1 _ _
    have s5 : w5.heap.size = W5.heap.size + 1 := by rw [hw5]; simp
    have B5 : RowIn w5 W5.heap.size 0 r (.slice a5 r.l.length k5) := by rw [hw5]; exact rowIn_alloc _ _ _ _
    have HW5 := Lib.hid hw5
    have HB5 := Lib.hid B5
    have G5 := Lib.hid (fun g (h : (Value.slice a5 r.l.length k5).ownBlock = some g) => World.ownsRow.lt f5 g h)
    have F5 := Lib.hid (f5.ext x55)
    have X5 := Lib.hid (x5.trans x55)
    have Z5 := Lib.hid (And.intro x5.size s5)
    clear q0 q1 q2 q3 q4 q5 q6 q7 q8 q9 f5 x5 x55 hw5 B5 s5
    obtain ⟨c0, c1⟩ := HB4.out.ext X5.out
    obtain ⟨q0, q1, q2, q3, q4, q5, q6, q7, q8, q9⟩ := HB5.out
    go_upto_region 11 with fail
    rw [← HW5.out]
    go_wp2_with fail
    refine (CI.out _ _ _ (F4.out.rows.ext X5.out) F5.out.ints).mono ?_
    rintro e W6 ⟨u6, rfl, f6, x6⟩
    obtain ⟨a6, rfl⟩ := f6.form
    dsimp only at f6 ⊢
    obtain ⟨w6, hw6⟩ : ∃ w6, w6 = W6.alloc (.cells #[.int .i64 N, .slice a6 D.length D.length] 67) := ⟨_, rfl⟩
    have x66 : Ext W6 w6 := by rw [hw6]; exact Ext.alloc1 _ _
    have s6 : w6.heap.size = W6.heap.size + 1 := by rw [hw6]; simp
    have B6 : AttrAt w6 W6.heap.size N (.slice a6 D.length D.length) := by rw [hw6]; exact attrAt_new _ _ _ _
    have HW6 := Lib.hid hw6
    have HB6 := Lib.hid B6
    have F6 := Lib.hid (f6.ext x66)
    have X6 := Lib.hid (x6.trans x66)
    have Z6 := Lib.hid (And.intro x6.size s6)
    have Y6 := Lib.hid (X4.out.trans (X5.out.trans (x6.trans x66)))
    clear c0 c1 q0 q1 q2 q3 q4 q5 q6 q7 q8 q9 f6 x6 x66 hw6 B6 s6
    obtain ⟨c0, c1⟩ := HB6.out
    obtain ⟨d0, d1⟩ := C3.out.ext Y6.out
    go_upto_region 12 with fail
    rw [← HW6.out]
    go_wp2_with fail
    refine (eqTable_same _ _ _ D _ F6.out.reads (S3.out.ext Y6.out)).mono ?_
    rintro e W7 ⟨rfl, x7⟩
    have X7 := Lib.hid x7
    have HA7 := Lib.hid (HA.out.ext (Y6.out.trans x7))
    have HF7 := Lib.hid (F4.out.rows.ext (X5.out.trans (X6.out.trans x7)))
    clear c0 c1 d0 d1
    obtain ⟨c0, c1⟩ := HB1.out.ext (Y6.out.trans x7)
    obtain ⟨d0, d1⟩ := HB4.out.ext (X5.out.trans (X6.out.trans x7))
    clear x7
    have nb : (b != b) = false := by simp
    go_wp2
    go_region_held3 (fun W => Ext W7 W ∧ W.cell? ⟨w.heap.size, 0, none⟩ = some (.int .i64 n) ∧ W.cell? ⟨w.heap.size, 1, none⟩ = some (.slice av T.length cv) ∧ W.cell? ⟨W4.heap.size, 0, none⟩ = some (.int .i64 n) ∧ W.cell? ⟨W4.heap.size, 1, none⟩ = some (.slice a4 T.length k4)) (first | (exact keep4 (by assumption) (by assumption)) | (exact ⟨Ext.drew (Ext.refl _), c0, c1, d0, d1⟩)) (first | (go_at_call 38; refine (toTable_any _ _ _ _ (HA7.out.ext (And.left (by assumption))) HL1.out).mono ?_; rintro e W8 ⟨u8, rfl, f8, x8⟩) | (go_at_call 41; refine (eqTable_same _ _ _ T _ (HF7.out.ext (And.left (by assumption))) (FreshT.rows (by assumption))).mono ?_; rintro e W9 ⟨rfl, x9⟩))
    rename_i hH
    have x79 : Ext W7 W9 := hH.1
    have Y9 := Lib.hid (Y6.out.trans (X7.out.trans x79))
    have X9 := Lib.hid (X7.out.trans x79)
    clear hH x8 x9 f8 c0 c1 d0 d1 x79 HA7 HF7 X7
    have Q2 := Lib.hid (HB2.out.ext Y9.out)
    have Q5 := Lib.hid (HB5.out.ext (X6.out.trans X9.out))
    have HZ9 := Lib.hid (HZ.out.ext Y9.out)
    have HF9 := Lib.hid (F5.out.ints.ext (X6.out.trans X9.out))
    have Q25 := Lib.hid (And.intro Q2.out Q5.out)
    obtain ⟨q0, q1, q2, q3, q4, q5, q6, q7, q8, q9⟩ := Q2.out
    obtain ⟨p0, p1, p2, p3, p4, p5, p6, p7, p8, p9⟩ := Q5.out
    go_wp2
    go_region_held3 (fun W => Ext W9 W ∧ (W.cell? ⟨w.heap.size + 1, 0, none⟩ = some (.int .i64 r.b) ∧ W.cell? ⟨w.heap.size + 1, 1, none⟩ = some (.int .i64 r.v) ∧ W.cell? ⟨w.heap.size + 1, 2, none⟩ = some (.int .i64 r.st) ∧ W.cell? ⟨w.heap.size + 1, 3, none⟩ = some (.int .i64 r.k) ∧ W.cell? ⟨w.heap.size + 1, 4, none⟩ = some (.int .i64 r.i) ∧ W.cell? ⟨w.heap.size + 1, 5, none⟩ = some (.int .i64 r.f) ∧ W.cell? ⟨w.heap.size + 1, 6, none⟩ = some (.int .i64 r.t) ∧ W.cell? ⟨w.heap.size + 1, 7, none⟩ = some (.int .i64 r.a) ∧ W.cell? ⟨w.heap.size + 1, 8, none⟩ = some (.int .i64 r.s) ∧ W.cell? ⟨w.heap.size + 1, 9, none⟩ = some (.slice az r.l.length cz)) ∧ (W.cell? ⟨W5.heap.size, 0, none⟩ = some (.int .i64 r.b) ∧ W.cell? ⟨W5.heap.size, 1, none⟩ = some (.int .i64 r.v) ∧ W.cell? ⟨W5.heap.size, 2, none⟩ = some (.int .i64 r.st) ∧ W.cell? ⟨W5.heap.size, 3, none⟩ = some (.int .i64 r.k) ∧ W.cell? ⟨W5.heap.size, 4, none⟩ = some (.int .i64 r.i) ∧ W.cell? ⟨W5.heap.size, 5, none⟩ = some (.int .i64 r.f) ∧ W.cell? ⟨W5.heap.size, 6, none⟩ = some (.int .i64 r.t) ∧ W.cell? ⟨W5.heap.size, 7, none⟩ = some (.int .i64 r.a) ∧ W.cell? ⟨W5.heap.size, 8, none⟩ = some (.int .i64 r.s) ∧ W.cell? ⟨W5.heap.size, 9, none⟩ = some (.slice a5 r.l.length k5))) (first | (exact stepR (b := w.heap.size + 1) (o := 0) (b' := W5.heap.size) (o' := 0) (r := r) (d := r) (u := .slice az r.l.length cz) (v := .slice a5 r.l.length k5) (by assumption) (by assumption)) | (exact ⟨Ext.drew (Ext.refl _), Q25.out⟩)) (first | (go_at_call 39; refine (toRow_any r _ _ (HZ9.out.ext (And.left (by assumption))) HR1.out).mono ?_; rintro e W10 ⟨u10, rfl, f10, x10⟩) | (go_at_call 42; refine (eqRow_same r _ _ _ (HF9.out.ext (And.left (by assumption))) (Fresh.ints (by assumption))).mono ?_; rintro e W11 ⟨rfl, x11⟩))
    rename_i hH
    have x911 : Ext W9 W11 := hH.1
    have Y11 := Lib.hid (Y9.out.trans x911)
    have X11 := Lib.hid (X9.out.trans x911)
    clear hH x10 x11 f10 x911 q0 q1 q2 q3 q4 q5 q6 q7 q8 q9 p0 p1 p2 p3 p4 p5 p6 p7 p8 p9 Q2 Q5 Q25 HZ9 HF9 X9 Y9
    have Z11 := Lib.hid (Ext.size X11.out)
    obtain ⟨d0, d1⟩ := HB4.out.ext (X5.out.trans (X6.out.trans X11.out))
    have HZZ : Hid (w.heap.size + 1 < w3.heap.size ∧ w3.heap.size ≤ W4.heap.size ∧ w4.heap.size = W4.heap.size + 1 ∧ w4.heap.size ≤ W5.heap.size ∧ w5.heap.size = W5.heap.size + 1 ∧ w5.heap.size ≤ W6.heap.size ∧ w6.heap.size = W6.heap.size + 1 ∧ w6.heap.size ≤ W11.heap.size) := Lib.hid ⟨HS3.out, Z4.out.1, Z4.out.2, Z5.out.1, Z5.out.2, Z6.out.1, Z6.out.2, Z11.out⟩
    clear HS3 Z4 Z5 Z6 Z11
    go_wp2_with fail
    refine (markTable_any w3.heap.size W4.heap.size n _ T 1 _ (F4.out.kept (Stood.of_ext (X5.out.trans (X6.out.trans X11.out)) (by have := HZZ.out; omega))) (by have := HZZ.out; omega) (by omega) (by omega) (by have := HB0.out; omega)).mono ?_
    rintro e W12 ⟨rfl, k12⟩
    obtain ⟨kk, hkk⟩ : ∃ q, q = (1 : Int) + ((weighs T).sum : Int) := ⟨_, rfl⟩
    have hk0 : 0 ≤ kk ∧ kk ≤ 20000000 := by have := weighs_sum T; have := HB0.out; omega
    rw [← hkk]
    have Y12 := Lib.hid (k12.ext Y11.out (Nat.le_refl _))
    have B52 := Lib.hid (RowAt.ins (HB5.out.ext (X6.out.trans X11.out)) k12 (.inr (by have := HZZ.out; omega)))
    have F52 := Lib.hid (Fresh.ins_high (F5.out.ext (X6.out.trans X11.out)) k12 (by have := HZZ.out; omega))
    have B62 := Lib.hid (AttrAt.ins (HB6.out.ext X11.out) k12 (.inr (by have := HZZ.out; omega)))
    have F62 := Lib.hid ((F6.out.ext X11.out).ins k12 (by have := HZZ.out; omega))
    have Z12 := Lib.hid k12.size
    have HK0 := Lib.hid hk0
    clear k12 hkk d0 d1 hk0 X11 Y11
    obtain ⟨q0, q1, q2, q3, q4, q5, q6, q7, q8, q9⟩ := B52.out
    go_wp2_with fail
    refine (markRow_any w4.heap.size r _ kk _ F52.out HK0.out.1 (by have := HK0.out; have := HRL.out; omega)).mono ?_
    rintro e W13 ⟨rfl, f13, t13⟩
    have i13 : Ins w4.heap.size W5.heap.size W12 W13 := Ins.of_grown t13 (fun g h => G5.out g h)
    obtain ⟨k2, hk2⟩ : ∃ q, q = kk + (r.l.length : Int) := ⟨_, rfl⟩
    have hk3 : 0 ≤ k2 := by have := HK0.out; omega
    rw [← hk2]
    have Y13 := Lib.hid (i13.ext Y12.out (by have := HZZ.out; omega))
    have B63 := Lib.hid (AttrAt.ins B62.out i13 (.inr (by have := HZZ.out; omega)))
    have F63 := Lib.hid (F62.out.ins i13 (by have := HZZ.out; omega))
    have Z13 := Lib.hid (Nat.le_trans Z12.out i13.size)
    clear f13 t13 i13 hk2 q0 q1 q2 q3 q4 q5 q6 q7 q8 q9 B52 F52 B62 F62 Y12 Z12
    obtain ⟨c0, c1⟩ := B63.out
    obtain ⟨d0, d1⟩ := C3.out.ext Y13.out
    have kd : decide (k2 < 0) = false := decide_eq_false (by omega)
    go_wp2_with fail
    refine (eqTable_same _ _ _ D _ F63.out.reads (S3.out.ext Y13.out)).mono ?_
    rintro e W14 ⟨rfl, x14⟩
    have F64 := Lib.hid (F63.out.ext x14)
    have B64 := Lib.hid (B63.out.ext x14)
    have Y14 := Lib.hid (Y13.out.trans x14)
    have Z14 := Lib.hid (Nat.le_trans Z13.out x14.size)
    clear x14 c0 c1 d0 d1 F63 B63 Y13 Z13
    obtain ⟨c0, c1⟩ := B64.out
    go_wp2_with fail
    refine (CM.out _ _ _ _ F64.out (by have := HZZ.out; have := Z14.out; omega)).mono ?_
    rintro e W15 ⟨rfl, h15, i15⟩
    have H15 := Lib.hid h15
    have B65 := Lib.hid (AttrAt.ins B64.out i15 (.inr (Nat.le_refl _)))
    have Y15 := Lib.hid (i15.ext Y14.out (by have := HZZ.out; omega))
    clear h15 i15 c0 c1 F64 B64 Y14 Z14
    obtain ⟨c0, c1⟩ := B65.out
    go_wp2_with fail
    refine (CH.out _ _ H15.out).mono ?_
    rintro e W16 ⟨rfl, x16⟩
    have X16 := Lib.hid x16
    have Y16 := Lib.hid (Y15.out.trans x16)
    have HB1 := Lib.hid (HB1.out.ext Y16.out)
    have HB2 := Lib.hid (HB2.out.ext Y16.out)
    have HA := Lib.hid (HA.out.ext Y16.out)
    have HZ := Lib.hid (HZ.out.ext Y16.out)
    have sz2 : w.heap.size + 1 < W16.heap.size := by have := HZZ.out; have := Ext.size Y16.out; omega
    have sz3 : w.heap.size < W16.heap.size := by omega
    have sz4 : w.heap.size ≠ W16.heap.size := Nat.ne_of_lt sz3
    have sz5 : w.heap.size + 1 ≠ W16.heap.size := Nat.ne_of_lt sz2
    clear x16 c0 c1 HZZ
    obtain ⟨c0, c1⟩ := HB1.out
    obtain ⟨q0, q1, q2, q3, q4, q5, q6, q7, q8, q9⟩ := HB2.out
    go_upto_region 31 with fail
    go_cut [19, 20] (fun s8 s9 wx => s9 = .bool b ∧ ∃ (g : Nat) (u : Value), s8 = .pointer (some ⟨g, 0, none⟩) ∧ AttrAt wx g N u ∧ Rowzz wx u D ∧ Ext W16 wx ∧ W16.heap.size ≤ g)
    case first =>
      go_region_law (first | (go_simp; go_at_call 38; refine (toTable_any _ _ _ _ (Rowzz.ext HA.out (by repeat (first | assumption | exact Ext.refl _ | apply Ext.drew | apply Ext.alloc))) HL1.out).mono ?_; rintro e K3 ⟨u3, rfl, f3, x3⟩; have e3 : Ext W16 K3 := Ext.trans (by repeat (first | assumption | exact Ext.refl _ | apply Ext.drew | apply Ext.alloc)) x3; have z3 := x3.size; (try simp at z3); clear c0 c1 q0 q1 q2 q3 q4 q5 q6 q7 q8 q9; have l1K3 : w.heap.size < K3.heap.size := Nat.lt_of_lt_of_le sz3 (Ext.size e3); have l2K3 : w.heap.size + 1 < K3.heap.size := Nat.lt_of_lt_of_le sz2 (Ext.size e3); have l3K3 : w.heap.size ≠ K3.heap.size := Nat.ne_of_lt l1K3; have l4K3 : w.heap.size + 1 ≠ K3.heap.size := Nat.ne_of_lt l2K3; obtain ⟨c0, c1⟩ := AttrAt.ext HB1.out e3; obtain ⟨q0, q1, q2, q3, q4, q5, q6, q7, q8, q9⟩ := RowIn.ext HB2.out e3; (first | (have PB := Lib.hid (OpenAt.ext PB.out x3); obtain ⟨⟨p0, p1⟩, y0, y1⟩ := PB.out) | (have PB := Lib.hid (OpenAt.ext (openAt_new _ _ _ _) (by first | exact x3 | exact Ext.trans (Ext.drew (Ext.refl _)) x3)); obtain ⟨⟨p0, p1⟩, y0, y1⟩ := PB.out) | skip)) | (go_simp; go_at_call 39; refine (toRow_any r _ _ (Ints.ext HZ.out (by repeat (first | assumption | exact Ext.refl _ | apply Ext.drew | apply Ext.alloc))) HR1.out).mono ?_; rintro e K4 ⟨u4, rfl, f4, x4⟩; obtain ⟨a4, k4, rfl⟩ := f4.form; have e4 : Ext W16 K4 := Ext.trans (by repeat (first | assumption | exact Ext.refl _ | apply Ext.drew | apply Ext.alloc)) x4; have z4 := x4.size; (try simp at z4); clear c0 c1 q0 q1 q2 q3 q4 q5 q6 q7 q8 q9; have l1K4 : w.heap.size < K4.heap.size := Nat.lt_of_lt_of_le sz3 (Ext.size e4); have l2K4 : w.heap.size + 1 < K4.heap.size := Nat.lt_of_lt_of_le sz2 (Ext.size e4); have l3K4 : w.heap.size ≠ K4.heap.size := Nat.ne_of_lt l1K4; have l4K4 : w.heap.size + 1 ≠ K4.heap.size := Nat.ne_of_lt l2K4; obtain ⟨c0, c1⟩ := AttrAt.ext HB1.out e4; obtain ⟨q0, q1, q2, q3, q4, q5, q6, q7, q8, q9⟩ := RowIn.ext HB2.out e4; (first | (have PB := Lib.hid (OpenAt.ext PB.out x4); obtain ⟨⟨p0, p1⟩, y0, y1⟩ := PB.out) | (have PB := Lib.hid (OpenAt.ext (openAt_new _ _ _ _) (by first | exact x4 | exact Ext.trans (Ext.drew (Ext.refl _)) x4)); obtain ⟨⟨p0, p1⟩, y0, y1⟩ := PB.out) | skip)) | (go_simp; go_at_call 40; refine (CI.out _ _ _ (Rowzz.ext (FreshT.rows f3) (Ext.trans (by repeat (first | assumption | exact Ext.refl _ | apply Ext.drew | apply Ext.alloc)) (Ext.trans x4 (by repeat (first | assumption | exact Ext.refl _ | apply Ext.drew | apply Ext.alloc))))) (Ints.ext (Fresh.ints f4) (by repeat (first | assumption | exact Ext.refl _ | apply Ext.drew | apply Ext.alloc)))).mono ?_; rintro e K5 ⟨u5, rfl, f5, x5⟩; obtain ⟨a5, rfl⟩ := f5.form; dsimp only at f5; have e5 : Ext W16 K5 := Ext.trans (by repeat (first | assumption | exact Ext.refl _ | apply Ext.drew | apply Ext.alloc)) x5; have z5 := x5.size; (try simp at z5); clear c0 c1 q0 q1 q2 q3 q4 q5 q6 q7 q8 q9; have l1K5 : w.heap.size < K5.heap.size := Nat.lt_of_lt_of_le sz3 (Ext.size e5); have l2K5 : w.heap.size + 1 < K5.heap.size := Nat.lt_of_lt_of_le sz2 (Ext.size e5); have l3K5 : w.heap.size ≠ K5.heap.size := Nat.ne_of_lt l1K5; have l4K5 : w.heap.size + 1 ≠ K5.heap.size := Nat.ne_of_lt l2K5; obtain ⟨c0, c1⟩ := AttrAt.ext HB1.out e5; obtain ⟨q0, q1, q2, q3, q4, q5, q6, q7, q8, q9⟩ := RowIn.ext HB2.out e5; (first | (have PB := Lib.hid (OpenAt.ext PB.out x5); obtain ⟨⟨p0, p1⟩, y0, y1⟩ := PB.out) | (have PB := Lib.hid (OpenAt.ext (openAt_new _ _ _ _) (by first | exact x5 | exact Ext.trans (Ext.drew (Ext.refl _)) x5)); obtain ⟨⟨p0, p1⟩, y0, y1⟩ := PB.out) | skip)))
      all_goals
        go_wp2_with fail
        go_meet
        refine ⟨rfl, _, .slice a5 D.length D.length, rfl, ?_⟩
        first
        | with_reducible refine end_alloc e5 (AnsW.reads f5)
        | with_reducible refine end_setW PB.out e5 f5 ?_ ?_
        | exact end_alloc e5 (AnsW.reads f5)
        all_goals first
        | with_reducible exact Nat.le_refl _
        | with_reducible exact Ext.size e3
        | with_reducible exact Ext.size e4
        | omega
        | (simp only [World.size_alloc]; omega)
        | (simp; done)
        | (simp; omega)
    case rest =>
      obtain ⟨rfl, ge, ue, rfl, hc, hf, hx, _⟩ := hcut
      obtain ⟨w17, hw17⟩ : ∃ x : World, x = wc := ⟨_, rfl⟩
      subst hw17
      obtain ⟨ae, ke, rfl, _⟩ := id hf
      clear c0 c1 q0 q1 q2 q3 q4 q5 q6 q7 q8 q9 sz2 sz3 sz4 sz5
      have y17 := Y16.out.trans hx
      obtain ⟨c0, c1⟩ := hc
      obtain ⟨d0, d1⟩ := C3.out.ext y17
      have S17 := Lib.hid (S3.out.ext y17)
      have F17 := Lib.hid hf
      have B17 := Lib.hid (B65.out.ext (X16.out.trans hx))
      have H17 := Lib.hid (H15.out.ext (X16.out.trans hx))
      have Y17 := Lib.hid (X3.out.trans y17)
      clear y17 hf hx
      go_wp2_with fail
      refine (eqTable_same _ _ _ D _ F17.out S17.out).mono ?_
      rintro e W18 ⟨rfl, x18⟩
      clear c0 c1 d0 d1
      obtain ⟨c0, c1⟩ := B17.out.ext x18
      have X18 := Lib.hid x18
      clear x18
      go_wp2_with fail
      refine (CH.out _ _ (H17.out.ext X18.out)).mono ?_
      rintro e W19 ⟨rfl, x19⟩
      have e19 : Ext w W19 := Y17.out.trans (X18.out.trans x19)
      clear x19 c0 c1
      go_wp2
      go_ret
      exact ⟨rfl, e19⟩

/-! ### The frame -/
set_option maxRecDepth 100000 in
theorem lifted (os : Os) (started : os.Started) (H : Type) (enc : TypeId × Value → H) :
    ReturnsInHanded {} Try.checked os 9 .any (Rows.fnExactSetRowSpec.pre6 enc Try.prog Try.f9 Rows.fnExactSetRowRow.domain false) (Rows.fnExactSetRowSpec.post enc Try.prog Try.f9 false true false false) := by
  refine returnsInHanded_of_change (C := Try.checked) own started (by kernel_rfl) Try.func9
    (ChangeSpec.witness6 (enc := enc) (C := Try.checked) false ⟨#[], #[.agg #[.int .i64 0, .slice none 0 0], .int .i64 0, .int .i64 0, .agg #[.int .i64 0, .int .i64 0, .int .i64 0, .int .i64 0, .int .i64 0, .int .i64 0, .int .i64 0, .int .i64 0, .int .i64 0, .slice none 0 0]], []⟩ 8 (by kernel_rfl) (by kernel_rfl) (by kernel_rfl) (by kernel_rfl)) ?_
  intro W base args ds gs before hval0 hW hcnd _
  have hval : ∀ (j : Nat) t v, Try.f9.params[j]? = some t → args[j]? = some v → Value.okWide Try.prog W .any base t v := hval0
  have hW' := hW
  obtain ⟨p, q, hA0, hV, rfl, hfz, hnd⟩ := hW
  have hA : DataW.TrodAll enc Try.prog W 0 (fun _ => true) true Try.f9.params.toList args.toList ds p := hA0
  rw [Try.params9] at hA hval
  obtain ⟨v0, vs0, d0, ds0, p0, q0, hargs, rfl, rfl, h0, r0⟩ := trodAll_cons hA
  obtain ⟨v1, vs1, d1, ds1, p1, q1, rfl, rfl, rfl, h1, r1⟩ := trodAll_cons r0
  obtain ⟨v2, vs2, d2, ds2, p2, q2, rfl, rfl, rfl, h2, r2⟩ := trodAll_cons r1
  obtain ⟨v3, vs3, d3, ds3, p3, q3, rfl, rfl, rfl, h3, r3⟩ := trodAll_cons r2
  obtain ⟨rfl, rfl, rfl⟩ := trodAll_nil r3
  obtain rfl : args = #[v0, v1, v2, v3] := by cases args; simp_all
  obtain ⟨rfl, rfl⟩ := trodVars_none hV
  have k0 := h0
  have lt0 : ∀ x ∈ p0, x.block < W.heap.size := by obtain ⟨m, hm⟩ := k0; exact DataW.trod_lt m _ _ _ hm
  obtain ⟨n0, u0, l0, rfl, w0⟩ := open_table (hval 0 58 v0 rfl rfl) h0
  have k1 := h1
  have lt1 : ∀ x ∈ p1, x.block < W.heap.size := by obtain ⟨m, hm⟩ := k1; exact DataW.trod_lt m _ _ _ hm
  obtain ⟨a1, rfl, _, _, w1⟩ := open_int Try.underlying3 (hval 1 3 v1 rfl rfl) h1
  have k2 := h2
  have lt2 : ∀ x ∈ p2, x.block < W.heap.size := by obtain ⟨m, hm⟩ := k2; exact DataW.trod_lt m _ _ _ hm
  obtain ⟨a2, rfl, _, _, w2⟩ := open_int Try.underlying3 (hval 2 3 v2 rfl rfl) h2
  have k3 := h3
  have lt3 : ∀ x ∈ p3, x.block < W.heap.size := by obtain ⟨m, hm⟩ := k3; exact DataW.trod_lt m _ _ _ hm
  obtain ⟨g3, u3, rfl, w3⟩ := open_row (hval 3 62 v3 rfl rfl) h3
  clear hA0 hval0
  refine (walk n0 u0 l0 a1 a2 g3 u3 W w0 w1 w2 w3).mono fun e W' ⟨he, bel⟩ => ?_
  subst he
  exact ⟨_, rfl, _, _, _, [], _, [], hW', trodAll_mk1 (shut_bool Try.underlying4 _), (trodAll_cons_mk (Below.trod laidOut (by kernel_rfl) (of_decide_eq_true (by kernel_rfl)) k0 bel lt0) (trodAll_cons_mk (Below.trod laidOut (by kernel_rfl) (of_decide_eq_true (by kernel_rfl)) k1 bel lt1) (trodAll_cons_mk (Below.trod laidOut (by kernel_rfl) (of_decide_eq_true (by kernel_rfl)) k2 bel lt2) (trodAll_cons_mk (Below.trod laidOut (by kernel_rfl) (of_decide_eq_true (by kernel_rfl)) k3 bel lt3) trodAll_mk0)))), rfl, bel.frame _, fun h => by cases h⟩

theorem over : Rows.fnExactSetRowRow.holds Try.pinned (OpenSpec.ofChange Rows.fnExactSetRowSpec) :=
  OpenClaim.holds_of_wide 9 Try.f9 rfl rfl rfl rfl rfl rfl rfl ⟨rfl, rfl, rfl, rfl, rfl⟩ rfl rfl rfl rfl rfl (by kernel_rfl) Try.func9 (by kernel_rfl)
    (of_decide_eq_true (by kernel_rfl)) (by unfold Func.isWrapper; first | (rw [if_pos (by decide +kernel)]; kernel_rfl) | (rw [if_neg (by decide +kernel)]; exact ⟨rfl, rfl⟩))
    (fun os started H enc _ => lifted os started H enc)

/-- THE STATEMENT -/
theorem proved : Rows.FnExactSetRowSaid := over
#print axioms proved
end Go.Proofs.Ytfffddhfagibpaa.fnExactSetRow
