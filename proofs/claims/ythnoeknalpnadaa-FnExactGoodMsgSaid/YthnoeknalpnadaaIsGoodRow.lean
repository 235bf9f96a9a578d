/- Contract of the program's test of a row. -/
import Derived.Test.YthnoeknalpnadaaL4Row
namespace Go.Proofs.Ythnoeknalpnadaa
open Go.RowKit
set_option linter.unusedVariables false

set_option maxHeartbeats 1000000 in
theorem isGood_early (n : Int) (r : RowD) (u : Value) (w : World) (h : r.v < 0 ∨ r.b < r.v ∨ 9999 < r.b) :
    Calls Try.prog 106 #[.int .i64 n, .agg #[.int .i64 r.b, .int .i64 r.v, .int .i64 r.st, .int .i64 r.k, .int .i64 r.i, .int .i64 r.f, .int .i64 r.t, .int .i64 r.a, .int .i64 r.s, u]] w (BoolExt false w) := by
  by_cases h0 : r.v < 0
  · clear h
    go_enter Try.func106, Try.ntmps106
    go_wp2
    go_ret
    exact ⟨rfl, Ext.alloc1 _ _⟩
  · have g0 : 0 ≤ r.v := by omega
    by_cases h1 : r.b < r.v
    · clear h h0
      go_enter Try.func106, Try.ntmps106
      go_wp2
      go_ret
      exact ⟨rfl, Ext.alloc1 _ _⟩
    · have g1 : r.v ≤ r.b := by omega
      have g2 : 9999 < r.b := by omega
      clear h h0 h1
      go_enter Try.func106, Try.ntmps106
      go_wp2
      go_ret
      exact ⟨rfl, Ext.alloc1 _ _⟩

set_option maxHeartbeats 1000000 in
theorem isGood_else (n : Int) (r : RowD) (u : Value) (w : World) (g0 : 0 ≤ r.v) (g1 : r.v ≤ r.b) (g2 : r.b ≤ 9999) (e0 : (r.st == 0) = false) (e1 : (r.st == 1) = false) (e2 : (r.st == 2) = false) (e3 : (r.st == 3) = false) :
    Calls Try.prog 106 #[.int .i64 n, .agg #[.int .i64 r.b, .int .i64 r.v, .int .i64 r.st, .int .i64 r.k, .int .i64 r.i, .int .i64 r.f, .int .i64 r.t, .int .i64 r.a, .int .i64 r.s, u]] w (BoolExt false w) := by
  go_enter Try.func106, Try.ntmps106
  go_wp2
  go_ret
  exact ⟨rfl, Ext.alloc1 _ _⟩

set_option maxHeartbeats 2000000 in
theorem isGood_1 (n : Int) (r : RowD) (u : Value) (w : World) (hv : Ints w u r.l) (hn : isGrp n = true) (g0 : 0 ≤ r.v) (g1 : r.v ≤ r.b) (g2 : r.b ≤ 9999) (e0 : (r.st == 0) = false) (e1 : (r.st == 1) = true) :
    Calls Try.prog 106 #[.int .i64 n, .agg #[.int .i64 r.b, .int .i64 r.v, .int .i64 r.st, .int .i64 r.k, .int .i64 r.i, .int .i64 r.f, .int .i64 r.t, .int .i64 r.a, .int .i64 r.s, u]] w (BoolExt (fullB n r) w) := by
  have HE : Hid (goodD n r.s r.l = goodA n r.s r.l) := Lib.hid (by unfold goodA; rw [hn]; rfl)
  unfold fullB
  rw [HE.out]
  have HB := Lib.hid (rowAt_new w 71 r u)
  clear hn
  cases hg : goodB r.k r.i r.f r.t r.a with
  | false =>
    have HG := Lib.hid hg
    clear hg
    go_enter Try.func106, Try.ntmps106
    go_wp2_with fail
    refine (implGood_any _ _ _ _ _ _).mono ?_
    rintro e w1 ⟨rfl, x1⟩
    have hx := (Ext.alloc1 w _).trans x1
    clear x1 HB
    rw [HG.out]
    go_wp2
    go_ret
    exact ⟨rfl, hx⟩
  | true =>
    have HG := Lib.hid hg
    clear hg
    rw [Bool.true_and]
    go_enter Try.func106, Try.ntmps106
    go_wp2_with fail
    refine (implGood_any _ _ _ _ _ _).mono ?_
    rintro e w1 ⟨rfl, x1⟩
    have hx := (Ext.alloc1 w _).trans x1
    obtain ⟨q0, q1, q2, q3, q4, q5, q6, q7, q8, q9⟩ := HB.out.ext x1
    clear x1
    rw [HG.out]
    go_wp2_with fail
    refine (implGoodAttr_any _ _ _ r.l _ (hv.ext hx)).mono ?_
    rintro e w2 ⟨rfl, x2⟩
    have hy := hx.trans x2
    clear q0 q1 q2 q3 q4 q5 q6 q7 q8 q9 x2 hx g0 g1 g2
    cases hA : goodA n r.s r.l
    all_goals
      have HA := Lib.hid hA
      clear hA
      go_wp2
      go_ret
      exact ⟨by rw [HA.out]; rfl, hy⟩

set_option maxHeartbeats 2000000 in
theorem isGood_2 (n : Int) (r : RowD) (u : Value) (w : World) (hv : Ints w u r.l) (hn : isGrp n = true) (g0 : 0 ≤ r.v) (g1 : r.v ≤ r.b) (g2 : r.b ≤ 9999) (e0 : (r.st == 0) = false) (e1 : (r.st == 1) = false) (e2 : (r.st == 2) = true) :
    Calls Try.prog 106 #[.int .i64 n, .agg #[.int .i64 r.b, .int .i64 r.v, .int .i64 r.st, .int .i64 r.k, .int .i64 r.i, .int .i64 r.f, .int .i64 r.t, .int .i64 r.a, .int .i64 r.s, u]] w (BoolExt (fullB n r) w) := by
  have HE : Hid (goodD n r.s r.l = goodA n r.s r.l) := Lib.hid (by unfold goodA; rw [hn]; rfl)
  unfold fullB
  rw [HE.out]
  have HB := Lib.hid (rowAt_new w 71 r u)
  clear hn
  cases hg : goodB r.k r.i r.f r.t r.a with
  | false =>
    have HG := Lib.hid hg
    clear hg
    go_enter Try.func106, Try.ntmps106
    go_wp2_with fail
    refine (implGood_any _ _ _ _ _ _).mono ?_
    rintro e w1 ⟨rfl, x1⟩
    have hx := (Ext.alloc1 w _).trans x1
    clear x1 HB
    rw [HG.out]
    go_wp2
    go_ret
    exact ⟨rfl, hx⟩
  | true =>
    have HG := Lib.hid hg
    clear hg
    rw [Bool.true_and]
    go_enter Try.func106, Try.ntmps106
    go_wp2_with fail
    refine (implGood_any _ _ _ _ _ _).mono ?_
    rintro e w1 ⟨rfl, x1⟩
    have hx := (Ext.alloc1 w _).trans x1
    obtain ⟨q0, q1, q2, q3, q4, q5, q6, q7, q8, q9⟩ := HB.out.ext x1
    clear x1
    rw [HG.out]
    go_wp2_with fail
    refine (implGoodAttr_any _ _ _ r.l _ (hv.ext hx)).mono ?_
    rintro e w2 ⟨rfl, x2⟩
    have hy := hx.trans x2
    clear q0 q1 q2 q3 q4 q5 q6 q7 q8 q9 x2 hx g0 g1 g2
    cases hA : goodA n r.s r.l
    all_goals
      have HA := Lib.hid hA
      clear hA
      go_wp2
      go_ret
      exact ⟨by rw [HA.out]; rfl, hy⟩

set_option maxHeartbeats 2000000 in
theorem isGood_3 (n : Int) (r : RowD) (u : Value) (w : World) (hv : Ints w u r.l) (hn : isGrp n = true) (g0 : 0 ≤ r.v) (g1 : r.v ≤ r.b) (g2 : r.b ≤ 9999) (e0 : (r.st == 0) = false) (e1 : (r.st == 1) = false) (e2 : (r.st == 2) = false) (e3 : (r.st == 3) = true) :
    Calls Try.prog 106 #[.int .i64 n, .agg #[.int .i64 r.b, .int .i64 r.v, .int .i64 r.st, .int .i64 r.k, .int .i64 r.i, .int .i64 r.f, .int .i64 r.t, .int .i64 r.a, .int .i64 r.s, u]] w (BoolExt (fullB n r) w) := by
  have HE : Hid (goodD n r.s r.l = goodA n r.s r.l) := Lib.hid (by unfold goodA; rw [hn]; rfl)
  unfold fullB
  rw [HE.out]
  have HB := Lib.hid (rowAt_new w 71 r u)
  clear hn
  cases hg : goodB r.k r.i r.f r.t r.a with
  | false =>
    have HG := Lib.hid hg
    clear hg
    go_enter Try.func106, Try.ntmps106
    go_wp2_with fail
    refine (implGood_any _ _ _ _ _ _).mono ?_
    rintro e w1 ⟨rfl, x1⟩
    have hx := (Ext.alloc1 w _).trans x1
    clear x1 HB
    rw [HG.out]
    go_wp2
    go_ret
    exact ⟨rfl, hx⟩
  | true =>
    have HG := Lib.hid hg
    clear hg
    rw [Bool.true_and]
    go_enter Try.func106, Try.ntmps106
    go_wp2_with fail
    refine (implGood_any _ _ _ _ _ _).mono ?_
    rintro e w1 ⟨rfl, x1⟩
    have hx := (Ext.alloc1 w _).trans x1
    obtain ⟨q0, q1, q2, q3, q4, q5, q6, q7, q8, q9⟩ := HB.out.ext x1
    clear x1
    rw [HG.out]
    go_wp2_with fail
    refine (implGoodAttr_any _ _ _ r.l _ (hv.ext hx)).mono ?_
    rintro e w2 ⟨rfl, x2⟩
    have hy := hx.trans x2
    clear q0 q1 q2 q3 q4 q5 q6 q7 q8 q9 x2 hx g0 g1 g2
    cases hA : goodA n r.s r.l
    all_goals
      have HA := Lib.hid hA
      clear hA
      go_wp2
      go_ret
      exact ⟨by rw [HA.out]; rfl, hy⟩

set_option maxHeartbeats 2000000 in
theorem isGood_0 (n : Int) (r : RowD) (u : Value) (w : World) (hv : Ints w u r.l) (hsz : r.l.length ≤ 1099511627776) (hn : isGrp n = true) (g0 : 0 ≤ r.v) (g1 : r.v ≤ r.b) (g2 : r.b ≤ 9999) (h0 : (r.st == 0) = true) :
    Calls Try.prog 106 #[.int .i64 n, .agg #[.int .i64 r.b, .int .i64 r.v, .int .i64 r.st, .int .i64 r.k, .int .i64 r.i, .int .i64 r.f, .int .i64 r.t, .int .i64 r.a, .int .i64 r.s, u]] w (BoolExt (emptyB n r) w) := by
  unfold emptyB
  have HSZ := Lib.hid hsz
  clear hsz
  have HB := Lib.hid (rowAt_new w 71 r u)
  have HN := Lib.hid hn
  clear hn
  cases hv0 : (r.v == 0) with
  | false =>
    go_enter Try.func106, Try.ntmps106
    go_wp2_with fail
    go_quiet (fail)
    go_wp2
    go_ret
    exact ⟨rfl, by repeat (first | exact Ext.alloc1 _ _ | apply Ext.drewN)⟩
  | true =>
    have heq := fun W => eq_zero r.k r.i r.f r.t r.a W
    cases hz : zeroC r.k r.i r.f r.t r.a with
    | false =>
      rw [hz] at heq
      clear hz
      go_enter Try.func106, Try.ntmps106
      go_wp2_with fail
      go_quiet (fail)
      go_wp2
      go_ret
      exact ⟨rfl, by repeat (first | exact Ext.alloc1 _ _ | apply Ext.drewN)⟩
    | true =>
      rw [hz] at heq
      clear hz
      obtain ⟨wb, hwb⟩ : ∃ wb, wb = w.alloc (.cells #[.int .i64 r.b, .int .i64 r.v, .int .i64 r.st, .int .i64 r.k, .int .i64 r.i, .int .i64 r.f, .int .i64 r.t, .int .i64 r.a, .int .i64 r.s, u] 71) := ⟨_, rfl⟩
      have hb := HB.out
      rw [← hwb] at hb
      have xb : Ext w wb := by rw [hwb]; exact Ext.alloc1 _ _
      have HV := Lib.hid (hv.ext xb)
      have HWB := Lib.hid hwb
      have HBB := Lib.hid hb
      clear HB hwb hb hv
      go_enter Try.func106, Try.ntmps106
      go_wp2_with fail
      rw [← HWB.out]
      go_region_held3 (fun W => Ext wb W ∧ W.cell? ⟨w.heap.size, 0, none⟩ = some (.int .i64 r.b) ∧ W.cell? ⟨w.heap.size, 1, none⟩ = some (.int .i64 r.v) ∧ W.cell? ⟨w.heap.size, 2, none⟩ = some (.int .i64 r.st) ∧ W.cell? ⟨w.heap.size, 3, none⟩ = some (.int .i64 r.k) ∧ W.cell? ⟨w.heap.size, 4, none⟩ = some (.int .i64 r.i) ∧ W.cell? ⟨w.heap.size, 5, none⟩ = some (.int .i64 r.f) ∧ W.cell? ⟨w.heap.size, 6, none⟩ = some (.int .i64 r.t) ∧ W.cell? ⟨w.heap.size, 7, none⟩ = some (.int .i64 r.a) ∧ W.cell? ⟨w.heap.size, 8, none⟩ = some (.int .i64 r.s) ∧ W.cell? ⟨w.heap.size, 9, none⟩ = some u) (first | (exact stepRow (b := w.heap.size) (r := r) (u := u) (by assumption) (by assumption)) | (exact ⟨Ext.drew (Ext.refl _), HBB.out⟩)) (first | (go_at_call 90; refine (joinNone_any n _ HN.out).mono ?_; rintro e W ⟨z, rfl, f9, x9⟩; obtain ⟨az, cz, rfl⟩ := f9.form) | (go_at_call 149; refine (implSame_any _ _ _ _ r.l (noneL n) _ (HV.out.ext (And.left (by assumption))) (Fresh.ints (by assumption)) HSZ.out).mono ?_; rintro e W ⟨rfl, x8⟩))
      rename_i hH
      have hy : Ext w _ := xb.trans hH.1
      clear hH
      cases hs : sameA r.s 0 r.l (noneL n)
      all_goals
        have HS := Lib.hid hs
        clear hs
        go_wp2
        go_ret
        exact ⟨by rw [HS.out]; rfl, hy⟩

theorem isGoodRow_any (n : Int) (r : RowD) (u : Value) (w : World) (hv : Ints w u r.l) (hsz : r.l.length ≤ 1099511627776) (hn : isGrp n = true) :
    Calls Try.prog 106 #[.int .i64 n, .agg #[.int .i64 r.b, .int .i64 r.v, .int .i64 r.st, .int .i64 r.k, .int .i64 r.i, .int .i64 r.f, .int .i64 r.t, .int .i64 r.a, .int .i64 r.s, u]] w (BoolExt (goodRow n r) w) := by
  by_cases hb : r.v < 0 ∨ r.b < r.v ∨ 9999 < r.b
  · have e : headB r = false := by
      unfold headB
      rcases hb with h | h | h
      · rw [inB_no (n := r.v) (by omega), Bool.and_false, Bool.false_and]
      · rw [inB_no (n := r.v) (by omega), Bool.and_false, Bool.false_and]
      · rw [inB_no (n := r.b) (by omega), Bool.false_and, Bool.false_and]
    rw [goodRow_head e]
    exact isGood_early n r u w hb
  · have g0 : 0 ≤ r.v := by omega
    have g1 : r.v ≤ r.b := by omega
    have g2 : r.b ≤ 9999 := by omega
    have hh : headB r = inB r.st 0 3 := by unfold headB; rw [inB_yes (n := r.b) (by omega) g2, inB_yes (n := r.v) g0 g1]; rfl
    by_cases s0 : r.st = 0
    · have e0 : (r.st == 0) = true := by simp [s0]
      rw [goodRow_empty (by rw [hh]; exact inB_yes (by omega) (by omega)) e0]
      exact isGood_0 n r u w hv hsz hn g0 g1 g2 e0
    · have e0 : (r.st == 0) = false := by simp [s0]
      by_cases s1 : r.st = 1
      · rw [goodRow_full (by rw [hh]; exact inB_yes (by omega) (by omega)) e0]
        exact isGood_1 n r u w hv hn g0 g1 g2 e0 (by simp [s1])
      · by_cases s2 : r.st = 2
        · rw [goodRow_full (by rw [hh]; exact inB_yes (by omega) (by omega)) e0]
          exact isGood_2 n r u w hv hn g0 g1 g2 e0 (by simp [s1]) (by simp [s2])
        · by_cases s3 : r.st = 3
          · rw [goodRow_full (by rw [hh]; exact inB_yes (by omega) (by omega)) e0]
            exact isGood_3 n r u w hv hn g0 g1 g2 e0 (by simp [s1]) (by simp [s2]) (by simp [s3])
          · rw [goodRow_head (by rw [hh]; exact inB_no (by omega))]
            exact isGood_else n r u w g0 g1 g2 e0 (by simp [s1]) (by simp [s2]) (by simp [s3])

end Go.Proofs.Ythnoeknalpnadaa
