/- Texts of this proof, part d: words, plain facts, contracts. -/
import Derived.Test.YtfffddhfagibpaaMApplyCmdc
import Derived.Test.YtfffddhfagibpaaMApplyCmda
import Derived.Test.YtfffddhfagibpaaMApplyCmdb

namespace Go.Proofs.Ytfffddhfagibpaa
open Go.RowKit
set_option linter.unusedVariables false

/-- Sums in new memory and what is told come back. -/
def Applied2 (L : List Int) (c s : Int) (w : World) (e : Ending) (w' : World) : Prop :=
  ∃ v, e = .returned (.tuple #[v, .agg #[.int .i64 c, .int .i64 s]]) ∧ Fresh w.heap.size w' v L ∧ Ext w w'

theorem ints_cell {b off cap F : Nat} {w : World} {l : List Int} {x : Int} (hv : Ints w (.slice (some ⟨b, off, none⟩) l.length cap) l) (hx : l[F]? = some x) : w.cell? ⟨b, off + F, none⟩ = some (.int .i64 x) := by
  have hF := (List.getElem?_eq_some_iff.1 hx).1
  obtain ⟨ao, c, h, _, _, hc⟩ := hv
  obtain ⟨b', off', rfl, hd⟩ := hc (by omega)
  injection h with h1
  injection h1 with h1
  injection h1 with h2 h3
  subst h2
  subst h3
  rw [hd F hF, hx]
  rfl
theorem slice_at {v : Value} {l : List Int} {w : World} (hv : Ints w v l) (h4 : l.length = 4) : ∃ b off cap, v = .slice (some ⟨b, off, none⟩) l.length cap ∧ b < w.heap.size := by
  obtain ⟨av, cv, rfl, _, _, hc⟩ := hv
  obtain ⟨b, off, rfl, hd⟩ := hc (by omega)
  exact ⟨_, _, _, rfl, World.block_lt_of_cell? w _ (hd 0 (by omega))⟩

set_option maxRecDepth 100000 in
set_option maxHeartbeats 4000000 in
theorem l11Apply_2 (v : Value) (l : List Int) (i t a : Int) (F : Nat) (x : Int) (w : World) (hv : Ints w v l) (h4 : l.length = 4) (hF : F < 4) (hx : l[F]? = some x) :
    Calls Try.prog 49 #[v, .agg #[.int .i64 2, .int .i64 i, .int .i64 F, .int .i64 t, .int .i64 a]] w (Applied2 l 3 x w) := by
  obtain ⟨xa, ba, bt, _⟩ := apply_boxes w 2 i F t a 35 32
  have HV := Lib.hid (hv.ext xa)
  have HO := Lib.hid hv
  have XA := Lib.hid xa
  have BA := Lib.hid ba
  have BT := Lib.hid bt
  obtain ⟨b, off, cap, rfl, hbl⟩ := slice_at hv h4
  have HL : Hid (l.length ≤ 1048576) := Lib.hid (by omega)
  have H4 := Lib.hid h4
  rw [h4]
  have HX := Lib.hid hx
  clear hv xa ba bt h4 hx
  go_enter Try.func49, Try.ntmps49
  go_wp2_with fail
  refine (l1Own_any _ l _ (by rw [← H4.out]; exact HV.out) HL.out).mono ?_
  rintro e w1 ⟨v1, rfl, f1, x1⟩
  have F1 := Lib.hid f1
  have X1 := Lib.hid x1
  have ha := BA.out.ext x1
  have a0 := ha.cell 0 _ rfl
  have a2 := ha.cell 2 _ rfl
  have hb := BT.out.ext x1
  have d0 := hb.cell 0 _ rfl
  have d1 := hb.cell 1 _ rfl
  have z0 := hb.free 0 (of_decide_eq_true rfl)
  have z1 := hb.free 1 (of_decide_eq_true rfl)
  have gF := ints_cell (HO.out.ext (XA.out.trans x1)) HX.out
  have i1 : (0 : Int) ≤ (F : Int) := by omega
  have i2 : (F : Int) < 4 := by omega
  clear f1 x1 ha hb
  go_wp2
  go_region
  go_wp2
  have x7 : Ext w (((w1.setCell ⟨w.heap.size + 1, 0, none⟩ (.int .i64 3)).setCell ⟨w.heap.size + 1, 1, none⟩ (.int .i64 x)).drew) := Ext.drew (Below.setCell (Below.setCell (XA.out.trans X1.out) (Nat.le_succ _) _) (Nat.le_succ _) _)
  have hl2 : w.heap.size + 1 < ((w.alloc (.cells #[.int .i64 2, .int .i64 i, .int .i64 F, .int .i64 t, .int .i64 a] 35)).alloc (.cells #[.int .i64 0, .int .i64 0] 32)).heap.size := by simp
  have f7 := (((F1.out.set (w.heap.size + 1) 0 (.int .i64 3) hl2).set (w.heap.size + 1) 1 (.int .i64 x) hl2).ext (Ext.drew (Ext.refl _))).more (Nat.le_of_lt (Nat.lt_of_succ_lt hl2))
  exact bodyPost_ret (v := .tuple #[v1, .agg #[.int .i64 3, .int .i64 x]]) (by simp [results, Try.results49, go_sem, d0, d1]) rfl ⟨_, rfl, f7, x7⟩

set_option maxRecDepth 100000 in
set_option maxHeartbeats 4000000 in
theorem l11Apply_0 (v : Value) (l : List Int) (i t a : Int) (f : Int) (w : World) (hv : Ints w v l) (h4 : l.length = 4) :
    Calls Try.prog 49 #[v, .agg #[.int .i64 0, .int .i64 i, .int .i64 f, .int .i64 t, .int .i64 a]] w (Applied2 l 0 0 w) := by
  obtain ⟨xa, ba, bt, _⟩ := apply_boxes w 0 i f t a 35 32
  have HV := Lib.hid (hv.ext xa)
  have HO := Lib.hid hv
  have XA := Lib.hid xa
  have BA := Lib.hid ba
  have BT := Lib.hid bt
  obtain ⟨b, off, cap, rfl, hbl⟩ := slice_at hv h4
  have HL : Hid (l.length ≤ 1048576) := Lib.hid (by omega)
  have H4 := Lib.hid h4
  rw [h4]
  clear hv xa ba bt h4
  go_enter Try.func49, Try.ntmps49
  go_wp2_with fail
  refine (l1Own_any _ l _ (by rw [← H4.out]; exact HV.out) HL.out).mono ?_
  rintro e w1 ⟨v1, rfl, f1, x1⟩
  have F1 := Lib.hid f1
  have X1 := Lib.hid x1
  have ha := BA.out.ext x1
  have a0 := ha.cell 0 _ rfl
  have a2 := ha.cell 2 _ rfl
  have hb := BT.out.ext x1
  have d0 := hb.cell 0 _ rfl
  have d1 := hb.cell 1 _ rfl
  have z0 := hb.free 0 (of_decide_eq_true rfl)
  have z1 := hb.free 1 (of_decide_eq_true rfl)
  clear f1 x1 ha hb
  go_wp2
  have x7 : Ext w (((w1.setCell ⟨w.heap.size + 1, 0, none⟩ (.int .i64 0)).setCell ⟨w.heap.size + 1, 1, none⟩ (.int .i64 0))) := (Below.setCell (Below.setCell (XA.out.trans X1.out) (Nat.le_succ _) _) (Nat.le_succ _) _)
  have hl2 : w.heap.size + 1 < ((w.alloc (.cells #[.int .i64 0, .int .i64 i, .int .i64 f, .int .i64 t, .int .i64 a] 35)).alloc (.cells #[.int .i64 0, .int .i64 0] 32)).heap.size := by simp
  have f7 := (((F1.out.set (w.heap.size + 1) 0 (.int .i64 0) hl2).set (w.heap.size + 1) 1 (.int .i64 0) hl2)).more (Nat.le_of_lt (Nat.lt_of_succ_lt hl2))
  exact bodyPost_ret (v := .tuple #[v1, .agg #[.int .i64 0, .int .i64 0]]) (by simp [results, Try.results49, go_sem, d0, d1]) rfl ⟨_, rfl, f7, x7⟩

set_option maxRecDepth 100000 in
set_option maxHeartbeats 4000000 in
theorem l11Apply_poor (v : Value) (l : List Int) (i a : Int) (F T : Nat) (x : Int) (w : World) (hv : Ints w v l) (h4 : l.length = 4) (hF : F < 4) (hT : T < 4) (hx : l[F]? = some x) (hp : x < a) :
    Calls Try.prog 49 #[v, .agg #[.int .i64 1, .int .i64 i, .int .i64 F, .int .i64 T, .int .i64 a]] w (Applied2 l 2 0 w) := by
  obtain ⟨xa, ba, bt, _⟩ := apply_boxes w 1 i F T a 35 32
  have HV := Lib.hid (hv.ext xa)
  have HO := Lib.hid hv
  have XA := Lib.hid xa
  have BA := Lib.hid ba
  have BT := Lib.hid bt
  obtain ⟨b, off, cap, rfl, hbl⟩ := slice_at hv h4
  have HL : Hid (l.length ≤ 1048576) := Lib.hid (by omega)
  have H4 := Lib.hid h4
  rw [h4]
  have HX := Lib.hid hx
  clear hv xa ba bt h4 hx
  go_enter Try.func49, Try.ntmps49
  go_wp2_with fail
  refine (l1Own_any _ l _ (by rw [← H4.out]; exact HV.out) HL.out).mono ?_
  rintro e w1 ⟨v1, rfl, f1, x1⟩
  have F1 := Lib.hid f1
  have X1 := Lib.hid x1
  have ha := BA.out.ext x1
  have a0 := ha.cell 0 _ rfl
  have a2 := ha.cell 2 _ rfl
  have a3 := ha.cell 3 _ rfl
  have a4 := ha.cell 4 _ rfl
  have hb := BT.out.ext x1
  have d0 := hb.cell 0 _ rfl
  have d1 := hb.cell 1 _ rfl
  have z0 := hb.free 0 (of_decide_eq_true rfl)
  have z1 := hb.free 1 (of_decide_eq_true rfl)
  have gF := ints_cell (HO.out.ext (XA.out.trans x1)) HX.out
  have i1 : (0 : Int) ≤ (F : Int) := by omega
  have i2 : (F : Int) < 4 := by omega
  clear f1 x1 ha hb
  go_wp2
  go_quiet (fail)
  go_wp2
  have x7 : Ext w ((((w1.drewN nq).setCell ⟨w.heap.size + 1, 0, none⟩ (.int .i64 2)).setCell ⟨w.heap.size + 1, 1, none⟩ (.int .i64 0))) := (Below.setCell (Below.setCell ((XA.out.trans X1.out).drewN nq) (Nat.le_succ _) _) (Nat.le_succ _) _)
  have hl2 : w.heap.size + 1 < ((w.alloc (.cells #[.int .i64 1, .int .i64 i, .int .i64 F, .int .i64 T, .int .i64 a] 35)).alloc (.cells #[.int .i64 0, .int .i64 0] 32)).heap.size := by simp
  have f7 := (((F1.out.ext (Ext.drewN (Ext.refl _) nq)).set (w.heap.size + 1) 0 (.int .i64 2) hl2).set (w.heap.size + 1) 1 (.int .i64 0) hl2).more (Nat.le_of_lt (Nat.lt_of_succ_lt hl2))
  exact bodyPost_ret (v := .tuple #[v1, .agg #[.int .i64 2, .int .i64 0]]) (by simp [results, Try.results49, go_sem, d0, d1]) rfl ⟨_, rfl, f7, x7⟩

set_option maxRecDepth 100000 in
set_option maxHeartbeats 4000000 in
theorem l11Apply_done (v : Value) (l : List Int) (i a : Int) (F T : Nat) (x y : Int) (w : World) (hv : Ints w v l) (h4 : l.length = 4) (hF : F < 4) (hT : T < 4) (hx : l[F]? = some x) (hy : l[T]? = some y) (hne : F ≠ T) (hp : a ≤ x) (ha0 : 1 ≤ a) (ha1 : a ≤ 1000) (hx1 : x ≤ 400) (hy0 : 0 ≤ y) (hy1 : y ≤ 400) :
    Calls Try.prog 49 #[v, .agg #[.int .i64 1, .int .i64 i, .int .i64 F, .int .i64 T, .int .i64 a]] w (Applied2 ((l.set F (x - a)).set T (y + a)) 1 0 w) := by
  obtain ⟨xa, ba, bt, _⟩ := apply_boxes w 1 i F T a 35 32
  have HV := Lib.hid (hv.ext xa)
  have HO := Lib.hid hv
  have XA := Lib.hid xa
  have BA := Lib.hid ba
  have BT := Lib.hid bt
  obtain ⟨b, off, cap, rfl, hbl⟩ := slice_at hv h4
  have HL : Hid (l.length ≤ 1048576) := Lib.hid (by omega)
  have H4 := Lib.hid h4
  rw [h4]
  have HX := Lib.hid hx
  have HY := Lib.hid hy
  clear hv xa ba bt h4 hx hy
  go_enter Try.func49, Try.ntmps49
  go_wp2_with fail
  refine (l1Own_any _ l _ (by rw [← H4.out]; exact HV.out) HL.out).mono ?_
  rintro e w1 ⟨v1, rfl, f1, x1⟩
  have F1 := Lib.hid f1
  have X1 := Lib.hid x1
  have ha := BA.out.ext x1
  have a0 := ha.cell 0 _ rfl
  have a2 := ha.cell 2 _ rfl
  have a3 := ha.cell 3 _ rfl
  have a4 := ha.cell 4 _ rfl
  have hb := BT.out.ext x1
  have d0 := hb.cell 0 _ rfl
  have d1 := hb.cell 1 _ rfl
  have z0 := hb.free 0 (of_decide_eq_true rfl)
  have z1 := hb.free 1 (of_decide_eq_true rfl)
  have gF := ints_cell (HO.out.ext (XA.out.trans x1)) HX.out
  have i1 : (0 : Int) ≤ (F : Int) := by omega
  have i2 : (F : Int) < 4 := by omega
  obtain ⟨g, cg, rfl, hg1, hg2⟩ := fresh_at f1 H4.out
  have hg3 : w.heap.size + 1 < g := by simp at hg1; omega
  have n1 : w.heap.size ≠ g := by omega
  have n2 : w.heap.size + 1 ≠ g := by omega
  have hne' : T ≠ F := fun h => hne h.symm
  have j1 : (0 : Int) ≤ (T : Int) := by omega
  have j2 : (T : Int) < 4 := by omega
  have w1' : wrap64 (x - a) = x - a := by unfold wrap64; omega
  have w2' : wrap64 (y + a) = y + a := by unfold wrap64; omega
  have q1 := fresh_cell f1 H4.out HX.out
  have q2 := fresh_frozen f1 H4.out F
  have q3 := fresh_cell f1 H4.out HY.out
  have q4 := fresh_frozen f1 H4.out T
  clear f1 x1 ha hb
  go_wp2
  go_quiet (fail)
  go_wp2
  go_region
  go_wp2
  go_region
  go_wp2
  have x7 : Ext w ((((((w1.drewN (nq + 1)).setCell ⟨g, F, none⟩ (.int .i64 (x - a))).setCell ⟨g, T, none⟩ (.int .i64 (y + a))).setCell ⟨w.heap.size + 1, 0, none⟩ (.int .i64 1)).setCell ⟨w.heap.size + 1, 1, none⟩ (.int .i64 0)).drew) :=
    Ext.drew (Below.setCell (Below.setCell (Below.setCell (Below.setCell ((XA.out.trans X1.out).drewN (nq + 1)) (Nat.le_of_lt (Nat.lt_of_succ_lt hg3)) _) (Nat.le_of_lt (Nat.lt_of_succ_lt hg3)) _) (Nat.le_succ _) _) (Nat.le_succ _) _)
  have hl2 : w.heap.size + 1 < ((w.alloc (.cells #[.int .i64 1, .int .i64 i, .int .i64 F, .int .i64 T, .int .i64 a] 35)).alloc (.cells #[.int .i64 0, .int .i64 0] 32)).heap.size := by simp
  have f5 := (fresh_put (fresh_put (F1.out.ext (Ext.drewN (Ext.refl _) (nq + 1))) H4.out F (x - a)).1 (by simp [H4.out]) T (y + a)).1
  have f7 := (((f5.set (w.heap.size + 1) 0 (.int .i64 1) hl2).set (w.heap.size + 1) 1 (.int .i64 0) hl2).ext (Ext.drew (Ext.refl _))).more (Nat.le_of_lt (Nat.lt_of_succ_lt hl2))
  exact bodyPost_ret (v := .tuple #[.slice (some ⟨g, 0, none⟩) 4 cg, .agg #[.int .i64 1, .int .i64 0]]) (by simp [results, Try.results49, go_sem, d0, d1, n1, n2, hne, hne']) rfl ⟨_, rfl, f7, x7⟩

theorem l11Apply_any (v : Value) (l : List Int) (k i f t a : Int) (w : World) (hv : Ints w v l) (hg : goodS l = true) (hc : goodB k i f t a = true) :
    Calls Try.prog 49 #[v, .agg #[.int .i64 k, .int .i64 i, .int .i64 f, .int .i64 t, .int .i64 a]] w (Applied2 (didL k f t a l) (didC k f a l) (didS k f l) w) := by
  have h4 := (goodS_get hg).1
  rcases good_kind hc with rfl | rfl | rfl
  · exact l11Apply_0 v l i t a f w hv h4
  · obtain ⟨F, T, rfl, rfl, hF, hT, hne, ha, ha1⟩ := good_1 hc
    obtain ⟨x, hx, hx0, hx1⟩ := goodS_at hg hF
    obtain ⟨y, hy, hy0, hy1⟩ := goodS_at hg hT
    have e1 : l[((F : Int)).toNat]? = some x := hx
    have e2 : l[((T : Int)).toNat]? = some y := hy
    have k1 : (1 : Int) = 1 ↔ True := by decide
    have k2 : (1 : Int) = 2 ↔ False := by decide
    simp only [didL, didC, didS, e1, e2, Option.getD_some, k1, k2, if_true, if_false]
    by_cases h : x < a
    · rw [if_pos h, if_pos h]
      exact l11Apply_poor v l i a F T x w hv h4 hF hT hx h
    · rw [if_neg h, if_neg h]
      exact l11Apply_done v l i a F T x y w hv h4 hF hT hx hy hne (by omega) ha ha1 hx1 hy0 hy1
  · obtain ⟨F, rfl, hF⟩ := good_2 hc
    obtain ⟨x, hx, hx0, hx1⟩ := goodS_at hg hF
    have e1 : l[((F : Int)).toNat]? = some x := hx
    have k1 : (2 : Int) = 1 ↔ False := by decide
    have k2 : (2 : Int) = 2 ↔ True := by decide
    simp only [didL, didC, didS, e1, Option.getD_some, k1, k2, if_true, if_false]
    exact l11Apply_2 v l i t a F x w hv h4 hF hx

set_option maxRecDepth 100000 in
set_option maxHeartbeats 2000000 in
theorem specApply_no (v : Value) (l : List Int) (k i f t a : Int) (w : World) (hv : Ints w v l) (hs : l.length ≤ 1099511627776) (hno : okA l k i f t a = false) :
    Calls Try.prog 18 #[v, .agg #[.int .i64 k, .int .i64 i, .int .i64 f, .int .i64 t, .int .i64 a]] w (Applied [] 0 0 false w) := by
  obtain ⟨xa, ba, bt, _⟩ := apply_boxes w k i f t a 35 32
  have HC := Lib.hid (specGoodSums_any v l _ (hv.ext xa) hs)
  have XA := Lib.hid xa
  have BA := Lib.hid ba
  have BT := Lib.hid bt
  cases h : goodS l with
  | false =>
    rw [h] at HC
    clear hno hv xa ba bt
    go_enter Try.func18, Try.ntmps18
    go_wp2_with fail
    refine HC.out.mono ?_
    rintro e w1 ⟨rfl, x1⟩
    have hb := BT.out.ext x1
    have d0 := hb.cell 0 _ rfl
    have d1 := hb.cell 1 _ rfl
    have z0 := hb.free 0 (of_decide_eq_true rfl)
    have z1 := hb.free 1 (of_decide_eq_true rfl)
    go_wp2
    have x3 : Ext w ((w1.setCell ⟨w.heap.size + 1, 0, none⟩ (.int .i64 0)).setCell ⟨w.heap.size + 1, 1, none⟩ (.int .i64 0)) := Below.setCell (Below.setCell (XA.out.trans x1) (Nat.le_succ _) _) (Nat.le_succ _) _
    exact bodyPost_ret (v := .tuple #[.slice none 0 0, .agg #[.int .i64 0, .int .i64 0], .bool false]) (by simp [results, Try.results18, go_sem, d0, d1]) rfl ⟨_, rfl, fresh_nil _ _, x3⟩
  | true =>
    have hk : goodB k i f t a = false := by unfold okA at hno; rw [h] at hno; simpa using hno
    rw [h] at HC
    have HK := Lib.hid hk
    clear hno hv xa ba bt hk
    go_enter Try.func18, Try.ntmps18
    go_wp2_with fail
    refine HC.out.mono ?_
    rintro e w1 ⟨rfl, x1⟩
    have hb := BA.out.ext x1
    have a0 := hb.cell 0 _ rfl
    have a1 := hb.cell 1 _ rfl
    have a2 := hb.cell 2 _ rfl
    have a3 := hb.cell 3 _ rfl
    have a4 := hb.cell 4 _ rfl
    go_wp2_with fail
    refine (specGood_any _ _ _ _ _ _).mono ?_
    rintro e w2 ⟨rfl, x2⟩
    rw [HK.out]
    have x12 := x1.trans x2
    clear x1 x2 hb a0 a1 a2 a3 a4
    have hb := BT.out.ext x12
    have d0 := hb.cell 0 _ rfl
    have d1 := hb.cell 1 _ rfl
    have z0 := hb.free 0 (of_decide_eq_true rfl)
    have z1 := hb.free 1 (of_decide_eq_true rfl)
    go_wp2
    have x3 : Ext w ((w2.setCell ⟨w.heap.size + 1, 0, none⟩ (.int .i64 0)).setCell ⟨w.heap.size + 1, 1, none⟩ (.int .i64 0)) := Below.setCell (Below.setCell (XA.out.trans x12) (Nat.le_succ _) _) (Nat.le_succ _) _
    exact bodyPost_ret (v := .tuple #[.slice none 0 0, .agg #[.int .i64 0, .int .i64 0], .bool false]) (by simp [results, Try.results18, go_sem, d0, d1]) rfl ⟨_, rfl, fresh_nil _ _, x3⟩

set_option maxRecDepth 100000 in
set_option maxHeartbeats 2000000 in
theorem specApply_yes (v : Value) (l : List Int) (k i f t a : Int) (w : World) (hv : Ints w v l) (hg : goodS l = true) (hc : goodB k i f t a = true) :
    Calls Try.prog 18 #[v, .agg #[.int .i64 k, .int .i64 i, .int .i64 f, .int .i64 t, .int .i64 a]] w (Applied (didL k f t a l) (didC k f a l) (didS k f l) true w) := by
  obtain ⟨xa, ba, bt, _⟩ := apply_boxes w k i f t a 35 32
  have HC := Lib.hid (specGoodSums_any v l _ (hv.ext xa) (by have := (goodS_get hg).1; omega))
  have HV := Lib.hid (hv.ext xa)
  have XA := Lib.hid xa
  have BA := Lib.hid ba
  have BT := Lib.hid bt
  rw [hg] at HC
  have HK := Lib.hid hc
  have HG := Lib.hid hg
  clear hv xa ba bt hc hg
  go_enter Try.func18, Try.ntmps18
  go_wp2_with fail
  refine HC.out.mono ?_
  rintro e w1 ⟨rfl, x1⟩
  have hb := BA.out.ext x1
  have a0 := hb.cell 0 _ rfl
  have a1 := hb.cell 1 _ rfl
  have a2 := hb.cell 2 _ rfl
  have a3 := hb.cell 3 _ rfl
  have a4 := hb.cell 4 _ rfl
  go_wp2_with fail
  refine (specGood_any _ _ _ _ _ _).mono ?_
  rintro e w2 ⟨rfl, x2⟩
  rw [HK.out]
  have X2 := Lib.hid (x1.trans x2)
  clear x1 x2 hb a0 a1 a2 a3 a4
  have hb := BA.out.ext X2.out
  have a0 := hb.cell 0 _ rfl
  have a1 := hb.cell 1 _ rfl
  have a2 := hb.cell 2 _ rfl
  have a3 := hb.cell 3 _ rfl
  have a4 := hb.cell 4 _ rfl
  go_wp2_with fail
  refine (l11Apply_any _ l _ _ _ _ _ _ (HV.out.ext X2.out) HG.out HK.out).mono ?_
  rintro e w5 ⟨v3, rfl, f5, x5⟩
  have XW : Hid (Ext w w2) := Lib.hid (XA.out.trans X2.out)
  have F5 := Lib.hid f5
  have X5 := Lib.hid x5
  clear f5 x5 hb a0 a1 a2 a3 a4
  obtain ⟨c, hc⟩ : ∃ c, c = didC k f a l := ⟨_, rfl⟩
  obtain ⟨s, hs⟩ : ∃ s, s = didS k f l := ⟨_, rfl⟩
  rw [← hc, ← hs]
  have HCC := Lib.hid hc
  have HSS := Lib.hid hs
  clear hc hs
  obtain ⟨w6, hw6⟩ : ∃ w6, w6 = w5.alloc (.cells #[.int .i64 c, .int .i64 s] 32) := ⟨_, rfl⟩
  have x6 : Ext w5 w6 := by rw [hw6]; exact Ext.alloc (Ext.refl _) _
  have hn : BoxV w6 w5.heap.size [.int .i64 c, .int .i64 s] := by rw [hw6]; exact boxV_new _ _ _
  have hb := BT.out.ext (X2.out.trans (X5.out.trans x6))
  have d0 := hb.cell 0 _ rfl
  have d1 := hb.cell 1 _ rfl
  have z0 := hb.free 0 (of_decide_eq_true rfl)
  have z1 := hb.free 1 (of_decide_eq_true rfl)
  have e0 := hn.cell 0 _ rfl
  have e1 := hn.cell 1 _ rfl
  have HW6 := Lib.hid hw6
  have X6 := Lib.hid x6
  clear hb hn hw6 x6
  go_upto_region 4 with fail
  rw [← HW6.out]
  go_region
  go_wp2
  have hl2 : w.heap.size + 1 < w2.heap.size := (BT.out.ext X2.out).lt
  have x7 : Ext w (((w6.setCell ⟨w.heap.size + 1, 0, none⟩ (.int .i64 c)).setCell ⟨w.heap.size + 1, 1, none⟩ (.int .i64 s)).drew) := Ext.drew (Below.setCell (Below.setCell (XW.out.trans (X5.out.trans X6.out)) (Nat.le_succ _) _) (Nat.le_succ _) _)
  have f7 := ((((F5.out.ext X6.out).set (w.heap.size + 1) 0 (.int .i64 c) hl2).set (w.heap.size + 1) 1 (.int .i64 s) hl2).ext (Ext.drew (Ext.refl _))).more (Nat.le_of_lt (Nat.lt_of_succ_lt hl2))
  rw [← HCC.out, ← HSS.out]
  exact bodyPost_ret (v := .tuple #[v3, .agg #[.int .i64 c, .int .i64 s], .bool true]) (by simp [results, Try.results18, go_sem, d0, d1]) rfl ⟨_, rfl, f7, x7⟩

theorem specApply_any (v : Value) (l : List Int) (k i f t a : Int) (w : World) (hv : Ints w v l) (hs : l.length ≤ 1099511627776) :
    Calls Try.prog 18 #[v, .agg #[.int .i64 k, .int .i64 i, .int .i64 f, .int .i64 t, .int .i64 a]] w
      (Applied (if okA l k i f t a then didL k f t a l else []) (if okA l k i f t a then didC k f a l else 0) (if okA l k i f t a then didS k f l else 0) (okA l k i f t a) w) := by
  cases h : okA l k i f t a with
  | false => exact specApply_no v l k i f t a w hv hs h
  | true =>
    have h2 := h
    unfold okA at h2
    obtain ⟨hg, hc⟩ := (Bool.and_eq_true _ _ ▸ h2 : goodS l = true ∧ goodB k i f t a = true)
    exact specApply_yes v l k i f t a w hv hg hc

end Go.Proofs.Ytfffddhfagibpaa

namespace Go.Proofs.Ytfffddhfagibpaa
open Go.RowKit

/-- A command lies in the block b. -/
def CmdAt (w : World) (b : Nat) (k i f t a : Int) : Prop :=
  w.cell? ⟨b, 0, none⟩ = some (.int .i64 k) ∧ w.cell? ⟨b, 1, none⟩ = some (.int .i64 i) ∧ w.cell? ⟨b, 2, none⟩ = some (.int .i64 f) ∧ w.cell? ⟨b, 3, none⟩ = some (.int .i64 t) ∧ w.cell? ⟨b, 4, none⟩ = some (.int .i64 a)
theorem CmdAt.ext {w w' : World} {b : Nat} {k i f t a : Int} (h : CmdAt w b k i f t a) (e : Ext w w') : CmdAt w' b k i f t a :=
  ⟨e.cell h.1, e.cell h.2.1, e.cell h.2.2.1, e.cell h.2.2.2.1, e.cell h.2.2.2.2⟩
theorem cmdAt_new (w : World) (T : TypeId) (k i f t a : Int) : CmdAt (w.alloc (.cells #[.int .i64 k, .int .i64 i, .int .i64 f, .int .i64 t, .int .i64 a] T)) w.heap.size k i f t a := by
  refine ⟨?_, ?_, ?_, ?_, ?_⟩ <;> go_simp

theorem cmdAt_new2 (w : World) (o : Obj) (T : TypeId) (k i f t a : Int) : CmdAt ((w.alloc o).alloc (.cells #[.int .i64 k, .int .i64 i, .int .i64 f, .int .i64 t, .int .i64 a] T)) (w.heap.size + 1) k i f t a := by
  refine ⟨?_, ?_, ?_, ?_, ?_⟩ <;> go_simp

def CmdExt (k i f t a : Int) (w : World) (e : Ending) (w' : World) : Prop := e = .returned (.agg #[.int .i64 k, .int .i64 i, .int .i64 f, .int .i64 t, .int .i64 a]) ∧ Ext w w'

end Go.Proofs.Ytfffddhfagibpaa

namespace Go.Proofs.Ytfffddhfagibpaa
open Go.RowKit

set_option maxHeartbeats 1000000 in
theorem toCmd_any (k i f t a : Int) (w : World) :
    Calls Try.prog 19 #[.agg #[.int .i64 k, .int .i64 i, .int .i64 f, .int .i64 t, .int .i64 a]] w (CmdExt k i f t a w) := by
  go_enter Try.func19, Try.ntmps19
  go_wp2
  exact bodyPost_ret (v := .agg #[.int .i64 k, .int .i64 i, .int .i64 f, .int .i64 t, .int .i64 a]) (by simp [results, Try.results19, go_sem]) rfl ⟨rfl, by repeat (first | exact Ext.refl _ | apply Ext.drew | apply Ext.alloc)⟩

end Go.Proofs.Ytfffddhfagibpaa

namespace Go.Proofs.Ytfffddhfagibpaa
open Go.RowKit
set_option linter.unusedVariables false

theorem endT_alloc {W K : World} {c s : Int} {v : Value} {L : List Int} {n0 : Nat} {T : TypeId} (h1 : Ext W K) (h2 : Fresh n0 K v L) (h3 : W.heap.size ≤ n0) :
    Fresh W.heap.size (K.alloc (.cells #[.int .i64 c, .int .i64 s] T)) v L ∧ BoxV (K.alloc (.cells #[.int .i64 c, .int .i64 s] T)) K.heap.size [.int .i64 c, .int .i64 s] ∧ Ext W (K.alloc (.cells #[.int .i64 c, .int .i64 s] T)) ∧ W.heap.size ≤ K.heap.size :=
  ⟨(h2.ext (Ext.alloc (Ext.refl _) _)).more h3, boxV_new _ _ _, h1.alloc _, h1.size⟩
theorem endT_set {W K : World} {g n0 : Nat} {c s : Int} {a b : Value} {v : Value} {L : List Int} (hp : BoxV K g [a, b]) (h1 : Ext W K) (h2 : Fresh n0 K v L) (h3 : W.heap.size ≤ n0) (h4 : W.heap.size ≤ g) (h5 : g < n0) :
    Fresh W.heap.size ((K.setCell ⟨g, 0, none⟩ (.int .i64 c)).setCell ⟨g, 1, none⟩ (.int .i64 s)) v L ∧ BoxV ((K.setCell ⟨g, 0, none⟩ (.int .i64 c)).setCell ⟨g, 1, none⟩ (.int .i64 s)) g [.int .i64 c, .int .i64 s] ∧ Ext W ((K.setCell ⟨g, 0, none⟩ (.int .i64 c)).setCell ⟨g, 1, none⟩ (.int .i64 s)) ∧ W.heap.size ≤ g :=
  ⟨((h2.set g 0 _ h5).set g 1 _ h5).more h3, (hp.set 0 (.int .i64 c) (by simp)).set 1 (.int .i64 s) (by simp), (h1.setc h4).setc h4, h4⟩

set_option maxHeartbeats 1000000 in
theorem eqTold_same (c s : Int) (w : World) :
    Calls Try.prog 21 #[.agg #[.int .i64 c, .int .i64 s], .agg #[.int .i64 c, .int .i64 s]] w (BoolExt true w) := by
  have e0 : (c != c) = false := by simp
  have e1 : (s != s) = false := by simp
  go_enter Try.func21, Try.ntmps21
  go_wp2
  go_ret
  exact ⟨rfl, Ext.alloc (Ext.alloc (Ext.refl _) _) _⟩

theorem BoxV.grown {w w' : World} {b : Nat} {vs : List Value} {r : Option Nat} (h : BoxV w b vs) (t : w.grownBy w' r) (hne : r ≠ some b) : BoxV w' b vs := by
  have hb := t.block b h.lt (fun e => hne e.symm)
  refine ⟨fun j v hj => ?_, fun j hj => ?_, Nat.lt_of_lt_of_le h.lt t.size⟩
  · have := h.cell j v hj
    unfold World.cell? at this ⊢
    rw [hb]
    exact this
  · have := h.free j hj
    unfold World.frozen? at this ⊢
    rw [hb]
    exact this

end Go.Proofs.Ytfffddhfagibpaa
