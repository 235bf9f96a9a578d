/- Contract of the model's test of a row. -/
import Derived.Test.YthnoeknalpnadaaRowEq
namespace Go.Proofs.Ythnoeknalpnadaa
open Go.RowKit
set_option linter.unusedVariables false

theorem Ext.alloc1 (w : World) (o : Obj) : Ext w (w.alloc o) := Ext.alloc (Ext.refl _) _

set_option maxHeartbeats 1000000 in
theorem l4Row_head (n : Int) (r : RowD) (u : Value) (w : World) (h : headB r = false) :
    Calls Try.prog 84 #[.int .i64 n, .agg #[.int .i64 r.b, .int .i64 r.v, .int .i64 r.st, .int .i64 r.k, .int .i64 r.i, .int .i64 r.f, .int .i64 r.t, .int .i64 r.a, .int .i64 r.s, u]] w (BoolExt false w) := by
  unfold headB at h
  cases h0 : inB r.b 0 9999 with
  | false =>
    clear h
    go_enter Try.func84, Try.ntmps84
    go_wp2_with (go_at_call 76; refine (l1In_any _ _ _ _).mono ?_; rintro e w' ⟨rfl, rfl⟩)
    go_ret
    exact ⟨rfl, Ext.alloc1 _ _⟩
  | true =>
    cases h1 : inB r.v 0 r.b with
    | false =>
      clear h
      go_enter Try.func84, Try.ntmps84
      go_wp2_with (go_at_call 76; refine (l1In_any _ _ _ _).mono ?_; rintro e w' ⟨rfl, rfl⟩)
      go_ret
      exact ⟨rfl, Ext.alloc1 _ _⟩
    | true =>
      have h2 : inB r.st 0 3 = false := by rw [h0, h1] at h; simpa using h
      clear h
      go_enter Try.func84, Try.ntmps84
      go_wp2_with (go_at_call 76; refine (l1In_any _ _ _ _).mono ?_; rintro e w' ⟨rfl, rfl⟩)
      go_ret
      exact ⟨rfl, Ext.alloc1 _ _⟩

theorem headB_of {r : RowD} (h : headB r = true) : inB r.b 0 9999 = true ∧ inB r.v 0 r.b = true ∧ inB r.st 0 3 = true := by
  unfold headB at h
  simp only [Bool.and_eq_true] at h
  exact ⟨h.1.1, h.1.2, h.2⟩

set_option maxHeartbeats 2000000 in
theorem l4Row_full (n : Int) (r : RowD) (u : Value) (w : World) (hv : Ints w u r.l) (h : headB r = true) (h0 : (r.st == 0) = false) :
    Calls Try.prog 84 #[.int .i64 n, .agg #[.int .i64 r.b, .int .i64 r.v, .int .i64 r.st, .int .i64 r.k, .int .i64 r.i, .int .i64 r.f, .int .i64 r.t, .int .i64 r.a, .int .i64 r.s, u]] w (BoolExt (fullB n r) w) := by
  obtain ⟨p0, p1, p2⟩ := headB_of h
  unfold fullB
  have HB := Lib.hid (rowAt_new w 71 r u)
  cases hg : goodB r.k r.i r.f r.t r.a with
  | false =>
    have HG := Lib.hid hg
    clear h hg
    go_enter Try.func84, Try.ntmps84
    go_wp2_with (go_at_call 76; refine (l1In_any _ _ _ _).mono ?_; rintro e w' ⟨rfl, rfl⟩)
    refine (specGood_any _ _ _ _ _ _).mono ?_
    rintro e w1 ⟨rfl, x1⟩
    have hx := (Ext.alloc1 w _).trans x1
    clear x1 HB
    rw [HG.out]
    go_wp2
    go_ret
    exact ⟨rfl, hx⟩
  | true =>
    have HG := Lib.hid hg
    clear h hg
    rw [Bool.true_and]
    go_enter Try.func84, Try.ntmps84
    go_wp2_with (go_at_call 76; refine (l1In_any _ _ _ _).mono ?_; rintro e w' ⟨rfl, rfl⟩)
    refine (specGood_any _ _ _ _ _ _).mono ?_
    rintro e w1 ⟨rfl, x1⟩
    have hx := (Ext.alloc1 w _).trans x1
    obtain ⟨q0, q1, q2, q3, q4, q5, q6, q7, q8, q9⟩ := HB.out.ext x1
    clear x1
    rw [HG.out]
    go_wp2_with fail
    refine (l3Attr_any _ _ _ r.l _ (hv.ext hx)).mono ?_
    rintro e w2 ⟨rfl, x2⟩
    have hy := hx.trans x2
    clear q0 q1 q2 q3 q4 q5 q6 q7 q8 q9 x2 hx p0 p1 p2 h0
    cases hA : goodD n r.s r.l
    all_goals
      have HA := Lib.hid hA
      clear hA
      go_wp2
      go_ret
      exact ⟨by rw [HA.out]; rfl, hy⟩

theorem stepRow {wb W W' : World} {b : Nat} {r : RowD} {u : Value} (x : Ext W W') (h : Ext wb W ∧ RowAt W b r u) : Ext wb W' ∧ RowAt W' b r u :=
  ⟨h.1.trans x, h.2.ext x⟩

set_option maxHeartbeats 2000000 in
theorem l4Row_empty (n : Int) (r : RowD) (u : Value) (w : World) (hv : Ints w u r.l) (hn : isGrp n = true) (h : headB r = true) (h0 : (r.st == 0) = true) :
    Calls Try.prog 84 #[.int .i64 n, .agg #[.int .i64 r.b, .int .i64 r.v, .int .i64 r.st, .int .i64 r.k, .int .i64 r.i, .int .i64 r.f, .int .i64 r.t, .int .i64 r.a, .int .i64 r.s, u]] w (BoolExt (emptyB n r) w) := by
  obtain ⟨p0, p1, p2⟩ := headB_of h
  unfold emptyB
  have HB := Lib.hid (rowAt_new w 71 r u)
  have HN := Lib.hid hn
  clear h hn
  cases hv0 : (r.v == 0) with
  | false =>
    go_enter Try.func84, Try.ntmps84
    go_wp2_with (go_at_call 76; refine (l1In_any _ _ _ _).mono ?_; rintro e w' ⟨rfl, rfl⟩)
    go_quiet (fail)
    go_wp2
    go_ret
    exact ⟨rfl, by repeat (first | exact Ext.alloc1 _ _ | apply Ext.drewN)⟩
  | true =>
    have heq := fun W => eq_zero r.k r.i r.f r.t r.a W
    cases hz : zeroC r.k r.i r.f r.t r.a with
    | false =>
      rw [hz] at heq
      clear hz
      go_enter Try.func84, Try.ntmps84
      go_wp2_with (go_at_call 76; refine (l1In_any _ _ _ _).mono ?_; rintro e w' ⟨rfl, rfl⟩)
      go_quiet (fail)
      go_wp2
      go_ret
      exact ⟨rfl, by repeat (first | exact Ext.alloc1 _ _ | apply Ext.drewN)⟩
    | true =>
      rw [hz] at heq
      clear hz
      obtain ⟨wb, hwb⟩ : ∃ wb, wb = w.alloc (.cells #[.int .i64 r.b, .int .i64 r.v, .int .i64 r.st, .int .i64 r.k, .int .i64 r.i, .int .i64 r.f, .int .i64 r.t, .int .i64 r.a, .int .i64 r.s, u] 71) := ⟨_, rfl⟩
      have hb := HB.out
      rw [← hwb] at hb
      have xb : Ext w wb := by rw [hwb]; exact Ext.alloc1 _ _
      have HV := Lib.hid (hv.ext xb)
      have HWB := Lib.hid hwb
      have HBB := Lib.hid hb
      clear HB hwb hb hv
      go_enter Try.func84, Try.ntmps84
      go_wp2_with (go_at_call 76; refine (l1In_any _ _ _ _).mono ?_; rintro e w' ⟨rfl, rfl⟩)
      rw [← HWB.out]
      go_region_held3 (fun W => Ext wb W ∧ W.cell? ⟨w.heap.size, 0, none⟩ = some (.int .i64 r.b) ∧ W.cell? ⟨w.heap.size, 1, none⟩ = some (.int .i64 r.v) ∧ W.cell? ⟨w.heap.size, 2, none⟩ = some (.int .i64 r.st) ∧ W.cell? ⟨w.heap.size, 3, none⟩ = some (.int .i64 r.k) ∧ W.cell? ⟨w.heap.size, 4, none⟩ = some (.int .i64 r.i) ∧ W.cell? ⟨w.heap.size, 5, none⟩ = some (.int .i64 r.f) ∧ W.cell? ⟨w.heap.size, 6, none⟩ = some (.int .i64 r.t) ∧ W.cell? ⟨w.heap.size, 7, none⟩ = some (.int .i64 r.a) ∧ W.cell? ⟨w.heap.size, 8, none⟩ = some (.int .i64 r.s) ∧ W.cell? ⟨w.heap.size, 9, none⟩ = some u) (first | (exact stepRow (b := w.heap.size) (r := r) (u := u) (by assumption) (by assumption)) | (exact ⟨Ext.drew (Ext.refl _), HBB.out⟩)) (first | (go_at_call 135; refine (l3None_any n _ HN.out).mono ?_; rintro e W ⟨z, rfl, f9, x9⟩; obtain ⟨az, cz, rfl⟩ := f9.form) | (go_at_call 134; refine (specSame_any _ _ _ _ r.l (noneL n) _ (HV.out.ext (And.left (by assumption))) (Fresh.ints (by assumption))).mono ?_; rintro e W ⟨rfl, x8⟩))
      rename_i hH
      have hy : Ext w _ := xb.trans hH.1
      clear hH
      cases hs : sameA r.s 0 r.l (noneL n)
      all_goals
        have HS := Lib.hid hs
        clear hs
        go_wp2
        go_ret
        exact ⟨by rw [HS.out]; rfl, hy⟩

theorem l4Row_any (n : Int) (r : RowD) (u : Value) (w : World) (hv : Ints w u r.l) (hn : isGrp n = true) :
    Calls Try.prog 84 #[.int .i64 n, .agg #[.int .i64 r.b, .int .i64 r.v, .int .i64 r.st, .int .i64 r.k, .int .i64 r.i, .int .i64 r.f, .int .i64 r.t, .int .i64 r.a, .int .i64 r.s, u]] w (BoolExt (goodRow n r) w) := by
  cases h : headB r with
  | false => rw [goodRow_head h]; exact l4Row_head n r u w h
  | true =>
    cases h0 : (r.st == 0) with
    | false => rw [goodRow_full h h0]; exact l4Row_full n r u w hv h h0
    | true => rw [goodRow_empty h h0]; exact l4Row_empty n r u w hv hn h h0

end Go.Proofs.Ythnoeknalpnadaa
