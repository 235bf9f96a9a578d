/- Texts of this proof, part f: words, plain facts, contracts. -/
import Derived.Test.YtfffddhfagibpaaMPlayCmdse
import Derived.Test.YtfffddhfagibpaaMPlayCmdsc
import Derived.Test.YtfffddhfagibpaaMPlayCmdsb
import Derived.Deep.DeepCutAuto
import Derived.Test.YtfffddhfagibpaaMPlayCmdsa
import Derived.Test.YtfffddhfagibpaaMPlayCmdsd

namespace Go.Proofs.Ytfffddhfagibpaa
open Go.RowKit
set_option linter.unusedVariables false

def okA (l : List Int) (k i f t a : Int) : Bool := goodS l && goodB k i f t a

theorem apply_boxes (w : World) (k i f t a : Int) (T T' : TypeId) :
    let W := (w.alloc (.cells #[.int .i64 k, .int .i64 i, .int .i64 f, .int .i64 t, .int .i64 a] T)).alloc (.cells #[.int .i64 0, .int .i64 0] T')
    Ext w W ∧ BoxV W w.heap.size [.int .i64 k, .int .i64 i, .int .i64 f, .int .i64 t, .int .i64 a] ∧ BoxV W (w.heap.size + 1) [.int .i64 0, .int .i64 0] ∧ W.heap.size = w.heap.size + 2 := by
  intro W
  have h1 := boxV_new w [.int .i64 k, .int .i64 i, .int .i64 f, .int .i64 t, .int .i64 a] T
  have h2 := boxV_new (w.alloc (.cells #[.int .i64 k, .int .i64 i, .int .i64 f, .int .i64 t, .int .i64 a] T)) [.int .i64 0, .int .i64 0] T'
  rw [World.size_alloc] at h2
  exact ⟨Ext.alloc (Ext.alloc (Ext.refl _) _) _, h1.ext (Ext.alloc (Ext.refl _) _), h2, by simp [W]⟩

set_option maxRecDepth 100000 in
set_option maxHeartbeats 2000000 in
theorem implApply_no (v : Value) (l : List Int) (k i f t a : Int) (w : World) (hv : Ints w v l) (hno : okA l k i f t a = false) :
    Calls Try.prog 20 #[v, .agg #[.int .i64 k, .int .i64 i, .int .i64 f, .int .i64 t, .int .i64 a]] w (Applied [] 0 0 false w) := by
  obtain ⟨xa, ba, bt, _⟩ := apply_boxes w k i f t a 35 32
  have HC := Lib.hid (implGoodSums_any v l _ (hv.ext xa))
  have XA := Lib.hid xa
  have BA := Lib.hid ba
  have BT := Lib.hid bt
  cases h : goodS l with
  | false =>
    rw [h] at HC
    clear hno hv xa ba bt
    go_enter Try.func20, Try.ntmps20
    go_wp2_with fail
    refine HC.out.mono ?_
    rintro e w1 ⟨rfl, x1⟩
    have hb := BT.out.ext x1
    have d0 := hb.cell 0 _ rfl
    have d1 := hb.cell 1 _ rfl
    have z0 := hb.free 0 (of_decide_eq_true rfl)
    have z1 := hb.free 1 (of_decide_eq_true rfl)
    go_wp2
    have x3 : Ext w ((w1.setCell ⟨w.heap.size + 1, 0, none⟩ (.int .i64 0)).setCell ⟨w.heap.size + 1, 1, none⟩ (.int .i64 0)) := Below.setCell (Below.setCell (XA.out.trans x1) (Nat.le_succ _) _) (Nat.le_succ _) _
    exact bodyPost_ret (v := .tuple #[.slice none 0 0, .agg #[.int .i64 0, .int .i64 0], .bool false]) (by simp [results, Try.results20, go_sem, d0, d1]) rfl ⟨_, rfl, fresh_nil _ _, x3⟩
  | true =>
    have hk : goodB k i f t a = false := by unfold okA at hno; rw [h] at hno; simpa using hno
    rw [h] at HC
    have HK := Lib.hid hk
    clear hno hv xa ba bt hk
    go_enter Try.func20, Try.ntmps20
    go_wp2_with fail
    refine HC.out.mono ?_
    rintro e w1 ⟨rfl, x1⟩
    have hb := BA.out.ext x1
    have a0 := hb.cell 0 _ rfl
    have a1 := hb.cell 1 _ rfl
    have a2 := hb.cell 2 _ rfl
    have a3 := hb.cell 3 _ rfl
    have a4 := hb.cell 4 _ rfl
    go_wp2_with fail
    refine (implGood_any _ _ _ _ _ _).mono ?_
    rintro e w2 ⟨rfl, x2⟩
    rw [HK.out]
    have x12 := x1.trans x2
    clear x1 x2 hb a0 a1 a2 a3 a4
    have hb := BT.out.ext x12
    have d0 := hb.cell 0 _ rfl
    have d1 := hb.cell 1 _ rfl
    have z0 := hb.free 0 (of_decide_eq_true rfl)
    have z1 := hb.free 1 (of_decide_eq_true rfl)
    go_wp2
    have x3 : Ext w ((w2.setCell ⟨w.heap.size + 1, 0, none⟩ (.int .i64 0)).setCell ⟨w.heap.size + 1, 1, none⟩ (.int .i64 0)) := Below.setCell (Below.setCell (XA.out.trans x12) (Nat.le_succ _) _) (Nat.le_succ _) _
    exact bodyPost_ret (v := .tuple #[.slice none 0 0, .agg #[.int .i64 0, .int .i64 0], .bool false]) (by simp [results, Try.results20, go_sem, d0, d1]) rfl ⟨_, rfl, fresh_nil _ _, x3⟩

theorem slice_of {v : Value} {l : List Int} {w : World} (hv : Ints w v l) (h4 : l.length = 4) : ∃ ad cap, v = .slice (some ad) l.length cap := by
  obtain ⟨av, cv, rfl, _, _, hc⟩ := hv
  obtain ⟨b, off, rfl, _⟩ := hc (by omega)
  exact ⟨_, _, rfl⟩

theorem meth_1 (f t a : Int) (w : World) : (method 269 117 (.agg #[.int .i64 f, .int .i64 t, .int .i64 a]) "loop.example/g00698/impl.doTo").run Try.prog w = .ok (134, .agg #[.int .i64 f, .int .i64 t, .int .i64 a]) w := by kernel_rfl
theorem meth_2 (f : Int) (w : World) : (method 269 119 (.agg #[.int .i64 f]) "loop.example/g00698/impl.doTo").run Try.prog w = .ok (135, .agg #[.int .i64 f]) w := by kernel_rfl
theorem meth_0 (w : World) : (method 269 121 (.agg #[]) "loop.example/g00698/impl.doTo").run Try.prog w = .ok (136, .agg #[]) w := by kernel_rfl

set_option maxRecDepth 100000 in
set_option maxHeartbeats 2000000 in
theorem implApply_1 (v : Value) (l : List Int) (i f t a : Int) (w : World) (hv : Ints w v l) (hg : goodS l = true) (hc : goodB 1 i f t a = true) :
    Calls Try.prog 20 #[v, .agg #[.int .i64 1, .int .i64 i, .int .i64 f, .int .i64 t, .int .i64 a]] w (Applied (didL 1 f t a l) (didC 1 f a l) (didS 1 f l) true w) := by
  obtain ⟨xa, ba, bt, _⟩ := apply_boxes w 1 i f t a 35 32
  have HC := Lib.hid (implGoodSums_any v l _ (hv.ext xa))
  have HV := Lib.hid (hv.ext xa)
  have XA := Lib.hid xa
  have BA := Lib.hid ba
  have BT := Lib.hid bt
  have h4 := (goodS_get hg).1
  obtain ⟨ad, cap, rfl⟩ := slice_of hv h4
  rw [hg] at HC
  have HK := Lib.hid hc
  have HG := Lib.hid hg
  have hl : l.length ≤ 1048576 := by omega
  have HL := Lib.hid hl
  clear hv xa ba bt hc hg h4 hl
  go_enter Try.func20, Try.ntmps20
  go_wp2_with fail
  refine HC.out.mono ?_
  rintro e w1 ⟨rfl, x1⟩
  have hb := BA.out.ext x1
  have a0 := hb.cell 0 _ rfl
  have a1 := hb.cell 1 _ rfl
  have a2 := hb.cell 2 _ rfl
  have a3 := hb.cell 3 _ rfl
  have a4 := hb.cell 4 _ rfl
  go_wp2_with fail
  refine (implGood_any _ _ _ _ _ _).mono ?_
  rintro e w2 ⟨rfl, x2⟩
  rw [HK.out]
  have X2 := Lib.hid (x1.trans x2)
  clear x1 x2 hb a0 a1 a2 a3 a4
  go_wp2_with fail
  refine (clone_any ad cap l _ (HV.out.ext X2.out) HL.out).mono ?_
  rintro e w3 ⟨v3, rfl, f3, x3⟩
  have F3 := Lib.hid f3
  have X3 := Lib.hid x3
  have hb := BA.out.ext (X2.out.trans x3)
  have a0 := hb.cell 0 _ rfl
  have a1 := hb.cell 1 _ rfl
  have a2 := hb.cell 2 _ rfl
  have a3 := hb.cell 3 _ rfl
  have a4 := hb.cell 4 _ rfl
  clear f3 x3
  go_wp2_with fail
  refine (deedOf_1 _ _ _ _ _).mono ?_
  rintro e w4 ⟨rfl, x4⟩
  have F4 := Lib.hid (F3.out.ext x4)
  have X4 := Lib.hid (X3.out.trans x4)
  clear x4 hb a0 a1 a2 a3 a4
  have hm := meth_1 f t a
  unfold deedV
  rw [if_pos rfl]
  go_wp2_with fail
  refine (did_1 HG.out HK.out F4.out).mono ?_
  rintro e w5 ⟨rfl, f5, g5⟩
  have XW : Hid (Ext w w2) := Lib.hid (XA.out.trans X2.out)
  have x5 : Ext w2 w5 := Ext.touch X4.out F4.out g5
  have F5 := Lib.hid f5
  have X5 := Lib.hid x5
  clear f5 g5 x5 hm
  obtain ⟨c, hc⟩ : ∃ c, c = didC 1 f a l := ⟨_, rfl⟩
  obtain ⟨s, hs⟩ : ∃ s, s = didS 1 f l := ⟨_, rfl⟩
  rw [← hc, ← hs]
  have HCC := Lib.hid hc
  have HSS := Lib.hid hs
  clear hc hs
  obtain ⟨w6, hw6⟩ : ∃ w6, w6 = w5.alloc (.cells #[.int .i64 c, .int .i64 s] 32) := ⟨_, rfl⟩
  have x6 : Ext w5 w6 := by rw [hw6]; exact Ext.alloc (Ext.refl _) _
  have hn : BoxV w6 w5.heap.size [.int .i64 c, .int .i64 s] := by rw [hw6]; exact boxV_new _ _ _
  have hb := BT.out.ext (X2.out.trans (X5.out.trans x6))
  have d0 := hb.cell 0 _ rfl
  have d1 := hb.cell 1 _ rfl
  have z0 := hb.free 0 (of_decide_eq_true rfl)
  have z1 := hb.free 1 (of_decide_eq_true rfl)
  have e0 := hn.cell 0 _ rfl
  have e1 := hn.cell 1 _ rfl
  have HW6 := Lib.hid hw6
  have X6 := Lib.hid x6
  clear hb hn hw6 x6
  go_upto_region 5 with fail
  rw [← HW6.out]
  go_region
  go_wp2
  have hl2 : w.heap.size + 1 < w2.heap.size := (BT.out.ext X2.out).lt
  have x7 : Ext w (((w6.setCell ⟨w.heap.size + 1, 0, none⟩ (.int .i64 c)).setCell ⟨w.heap.size + 1, 1, none⟩ (.int .i64 s)).drew) := Ext.drew (Below.setCell (Below.setCell (XW.out.trans (X5.out.trans X6.out)) (Nat.le_succ _) _) (Nat.le_succ _) _)
  have f7 := ((((F5.out.ext X6.out).set (w.heap.size + 1) 0 (.int .i64 c) hl2).set (w.heap.size + 1) 1 (.int .i64 s) hl2).ext (Ext.drew (Ext.refl _))).more (Nat.le_of_lt (Nat.lt_of_succ_lt hl2))
  rw [← HCC.out, ← HSS.out]
  exact bodyPost_ret (v := .tuple #[v3, .agg #[.int .i64 c, .int .i64 s], .bool true]) (by simp [results, Try.results20, go_sem, d0, d1]) rfl ⟨_, rfl, f7, x7⟩

set_option maxRecDepth 100000 in
set_option maxHeartbeats 2000000 in
theorem implApply_2 (v : Value) (l : List Int) (i f t a : Int) (w : World) (hv : Ints w v l) (hg : goodS l = true) (hc : goodB 2 i f t a = true) :
    Calls Try.prog 20 #[v, .agg #[.int .i64 2, .int .i64 i, .int .i64 f, .int .i64 t, .int .i64 a]] w (Applied (didL 2 f t a l) (didC 2 f a l) (didS 2 f l) true w) := by
  obtain ⟨xa, ba, bt, _⟩ := apply_boxes w 2 i f t a 35 32
  have HC := Lib.hid (implGoodSums_any v l _ (hv.ext xa))
  have HV := Lib.hid (hv.ext xa)
  have XA := Lib.hid xa
  have BA := Lib.hid ba
  have BT := Lib.hid bt
  have h4 := (goodS_get hg).1
  obtain ⟨ad, cap, rfl⟩ := slice_of hv h4
  rw [hg] at HC
  have HK := Lib.hid hc
  have HG := Lib.hid hg
  have hl : l.length ≤ 1048576 := by omega
  have HL := Lib.hid hl
  clear hv xa ba bt hc hg h4 hl
  go_enter Try.func20, Try.ntmps20
  go_wp2_with fail
  refine HC.out.mono ?_
  rintro e w1 ⟨rfl, x1⟩
  have hb := BA.out.ext x1
  have a0 := hb.cell 0 _ rfl
  have a1 := hb.cell 1 _ rfl
  have a2 := hb.cell 2 _ rfl
  have a3 := hb.cell 3 _ rfl
  have a4 := hb.cell 4 _ rfl
  go_wp2_with fail
  refine (implGood_any _ _ _ _ _ _).mono ?_
  rintro e w2 ⟨rfl, x2⟩
  rw [HK.out]
  have X2 := Lib.hid (x1.trans x2)
  clear x1 x2 hb a0 a1 a2 a3 a4
  go_wp2_with fail
  refine (clone_any ad cap l _ (HV.out.ext X2.out) HL.out).mono ?_
  rintro e w3 ⟨v3, rfl, f3, x3⟩
  have F3 := Lib.hid f3
  have X3 := Lib.hid x3
  have hb := BA.out.ext (X2.out.trans x3)
  have a0 := hb.cell 0 _ rfl
  have a1 := hb.cell 1 _ rfl
  have a2 := hb.cell 2 _ rfl
  have a3 := hb.cell 3 _ rfl
  have a4 := hb.cell 4 _ rfl
  clear f3 x3
  go_wp2_with fail
  refine (deedOf_2 _ _ _ _ _).mono ?_
  rintro e w4 ⟨rfl, x4⟩
  have F4 := Lib.hid (F3.out.ext x4)
  have X4 := Lib.hid (X3.out.trans x4)
  clear x4 hb a0 a1 a2 a3 a4
  have hm := meth_2 f
  unfold deedV
  rw [if_neg (by decide), if_pos rfl]
  go_wp2_with fail
  refine (did_2 HG.out HK.out F4.out).mono ?_
  rintro e w5 ⟨rfl, f5, g5⟩
  have XW : Hid (Ext w w2) := Lib.hid (XA.out.trans X2.out)
  have x5 : Ext w2 w5 := Ext.touch X4.out F4.out g5
  have F5 := Lib.hid f5
  have X5 := Lib.hid x5
  clear f5 g5 x5 hm
  obtain ⟨c, hc⟩ : ∃ c, c = didC 2 f a l := ⟨_, rfl⟩
  obtain ⟨s, hs⟩ : ∃ s, s = didS 2 f l := ⟨_, rfl⟩
  rw [← hc, ← hs]
  have HCC := Lib.hid hc
  have HSS := Lib.hid hs
  clear hc hs
  obtain ⟨w6, hw6⟩ : ∃ w6, w6 = w5.alloc (.cells #[.int .i64 c, .int .i64 s] 32) := ⟨_, rfl⟩
  have x6 : Ext w5 w6 := by rw [hw6]; exact Ext.alloc (Ext.refl _) _
  have hn : BoxV w6 w5.heap.size [.int .i64 c, .int .i64 s] := by rw [hw6]; exact boxV_new _ _ _
  have hb := BT.out.ext (X2.out.trans (X5.out.trans x6))
  have d0 := hb.cell 0 _ rfl
  have d1 := hb.cell 1 _ rfl
  have z0 := hb.free 0 (of_decide_eq_true rfl)
  have z1 := hb.free 1 (of_decide_eq_true rfl)
  have e0 := hn.cell 0 _ rfl
  have e1 := hn.cell 1 _ rfl
  have HW6 := Lib.hid hw6
  have X6 := Lib.hid x6
  clear hb hn hw6 x6
  go_upto_region 5 with fail
  rw [← HW6.out]
  go_region
  go_wp2
  have hl2 : w.heap.size + 1 < w2.heap.size := (BT.out.ext X2.out).lt
  have x7 : Ext w (((w6.setCell ⟨w.heap.size + 1, 0, none⟩ (.int .i64 c)).setCell ⟨w.heap.size + 1, 1, none⟩ (.int .i64 s)).drew) := Ext.drew (Below.setCell (Below.setCell (XW.out.trans (X5.out.trans X6.out)) (Nat.le_succ _) _) (Nat.le_succ _) _)
  have f7 := ((((F5.out.ext X6.out).set (w.heap.size + 1) 0 (.int .i64 c) hl2).set (w.heap.size + 1) 1 (.int .i64 s) hl2).ext (Ext.drew (Ext.refl _))).more (Nat.le_of_lt (Nat.lt_of_succ_lt hl2))
  rw [← HCC.out, ← HSS.out]
  exact bodyPost_ret (v := .tuple #[v3, .agg #[.int .i64 c, .int .i64 s], .bool true]) (by simp [results, Try.results20, go_sem, d0, d1]) rfl ⟨_, rfl, f7, x7⟩

set_option maxRecDepth 100000 in
set_option maxHeartbeats 2000000 in
theorem implApply_0 (v : Value) (l : List Int) (i f t a : Int) (w : World) (hv : Ints w v l) (hg : goodS l = true) (hc : goodB 0 i f t a = true) :
    Calls Try.prog 20 #[v, .agg #[.int .i64 0, .int .i64 i, .int .i64 f, .int .i64 t, .int .i64 a]] w (Applied (didL 0 f t a l) (didC 0 f a l) (didS 0 f l) true w) := by
  obtain ⟨xa, ba, bt, _⟩ := apply_boxes w 0 i f t a 35 32
  have HC := Lib.hid (implGoodSums_any v l _ (hv.ext xa))
  have HV := Lib.hid (hv.ext xa)
  have XA := Lib.hid xa
  have BA := Lib.hid ba
  have BT := Lib.hid bt
  have h4 := (goodS_get hg).1
  obtain ⟨ad, cap, rfl⟩ := slice_of hv h4
  rw [hg] at HC
  have HK := Lib.hid hc
  have HG := Lib.hid hg
  have hl : l.length ≤ 1048576 := by omega
  have HL := Lib.hid hl
  clear hv xa ba bt hc hg h4 hl
  go_enter Try.func20, Try.ntmps20
  go_wp2_with fail
  refine HC.out.mono ?_
  rintro e w1 ⟨rfl, x1⟩
  have hb := BA.out.ext x1
  have a0 := hb.cell 0 _ rfl
  have a1 := hb.cell 1 _ rfl
  have a2 := hb.cell 2 _ rfl
  have a3 := hb.cell 3 _ rfl
  have a4 := hb.cell 4 _ rfl
  go_wp2_with fail
  refine (implGood_any _ _ _ _ _ _).mono ?_
  rintro e w2 ⟨rfl, x2⟩
  rw [HK.out]
  have X2 := Lib.hid (x1.trans x2)
  clear x1 x2 hb a0 a1 a2 a3 a4
  go_wp2_with fail
  refine (clone_any ad cap l _ (HV.out.ext X2.out) HL.out).mono ?_
  rintro e w3 ⟨v3, rfl, f3, x3⟩
  have F3 := Lib.hid f3
  have X3 := Lib.hid x3
  have hb := BA.out.ext (X2.out.trans x3)
  have a0 := hb.cell 0 _ rfl
  have a1 := hb.cell 1 _ rfl
  have a2 := hb.cell 2 _ rfl
  have a3 := hb.cell 3 _ rfl
  have a4 := hb.cell 4 _ rfl
  clear f3 x3
  go_wp2_with fail
  refine (deedOf_0 _ _ _ _ _).mono ?_
  rintro e w4 ⟨rfl, x4⟩
  have F4 := Lib.hid (F3.out.ext x4)
  have X4 := Lib.hid (X3.out.trans x4)
  clear x4 hb a0 a1 a2 a3 a4
  have hm := meth_0
  unfold deedV
  rw [if_neg (by decide), if_neg (by decide)]
  go_wp2_with fail
  refine (did_0 (f := f) (t := t) (a := a) F4.out).mono ?_
  rintro e w5 ⟨rfl, f5, g5⟩
  have XW : Hid (Ext w w2) := Lib.hid (XA.out.trans X2.out)
  have x5 : Ext w2 w5 := Ext.touch X4.out F4.out g5
  have F5 := Lib.hid f5
  have X5 := Lib.hid x5
  clear f5 g5 x5 hm
  obtain ⟨c, hc⟩ : ∃ c, c = didC 0 f a l := ⟨_, rfl⟩
  obtain ⟨s, hs⟩ : ∃ s, s = didS 0 f l := ⟨_, rfl⟩
  rw [← hc, ← hs]
  have HCC := Lib.hid hc
  have HSS := Lib.hid hs
  clear hc hs
  obtain ⟨w6, hw6⟩ : ∃ w6, w6 = w5.alloc (.cells #[.int .i64 c, .int .i64 s] 32) := ⟨_, rfl⟩
  have x6 : Ext w5 w6 := by rw [hw6]; exact Ext.alloc (Ext.refl _) _
  have hn : BoxV w6 w5.heap.size [.int .i64 c, .int .i64 s] := by rw [hw6]; exact boxV_new _ _ _
  have hb := BT.out.ext (X2.out.trans (X5.out.trans x6))
  have d0 := hb.cell 0 _ rfl
  have d1 := hb.cell 1 _ rfl
  have z0 := hb.free 0 (of_decide_eq_true rfl)
  have z1 := hb.free 1 (of_decide_eq_true rfl)
  have e0 := hn.cell 0 _ rfl
  have e1 := hn.cell 1 _ rfl
  have HW6 := Lib.hid hw6
  have X6 := Lib.hid x6
  clear hb hn hw6 x6
  go_upto_region 5 with fail
  rw [← HW6.out]
  go_region
  go_wp2
  have hl2 : w.heap.size + 1 < w2.heap.size := (BT.out.ext X2.out).lt
  have x7 : Ext w (((w6.setCell ⟨w.heap.size + 1, 0, none⟩ (.int .i64 c)).setCell ⟨w.heap.size + 1, 1, none⟩ (.int .i64 s)).drew) := Ext.drew (Below.setCell (Below.setCell (XW.out.trans (X5.out.trans X6.out)) (Nat.le_succ _) _) (Nat.le_succ _) _)
  have f7 := ((((F5.out.ext X6.out).set (w.heap.size + 1) 0 (.int .i64 c) hl2).set (w.heap.size + 1) 1 (.int .i64 s) hl2).ext (Ext.drew (Ext.refl _))).more (Nat.le_of_lt (Nat.lt_of_succ_lt hl2))
  rw [← HCC.out, ← HSS.out]
  exact bodyPost_ret (v := .tuple #[v3, .agg #[.int .i64 c, .int .i64 s], .bool true]) (by simp [results, Try.results20, go_sem, d0, d1]) rfl ⟨_, rfl, f7, x7⟩

theorem implApply_any (v : Value) (l : List Int) (k i f t a : Int) (w : World) (hv : Ints w v l) :
    Calls Try.prog 20 #[v, .agg #[.int .i64 k, .int .i64 i, .int .i64 f, .int .i64 t, .int .i64 a]] w
      (Applied (if okA l k i f t a then didL k f t a l else []) (if okA l k i f t a then didC k f a l else 0) (if okA l k i f t a then didS k f l else 0) (okA l k i f t a) w) := by
  cases h : okA l k i f t a with
  | false => exact implApply_no v l k i f t a w hv h
  | true =>
    have h2 := h
    unfold okA at h2
    obtain ⟨hg, hc⟩ := (Bool.and_eq_true _ _ ▸ h2 : goodS l = true ∧ goodB k i f t a = true)
    rcases good_kind hc with rfl | rfl | rfl
    · exact implApply_0 v l i f t a w hv hg hc
    · exact implApply_1 v l i f t a w hv hg hc
    · exact implApply_2 v l i f t a w hv hg hc

end Go.Proofs.Ytfffddhfagibpaa

namespace Go.Proofs.Ytfffddhfagibpaa
open Go.RowKit
set_option linter.unusedVariables false

set_option maxHeartbeats 1000000 in
theorem l1Own_any (u : Value) (l : List Int) (w : World) (hu : Ints w u l) (hl : l.length ≤ 1048576) :
    Calls Try.prog 82 #[u] w (NewInts l w) := by
  have hb1 : ([] : List Int).length + l.length ≤ 1099511627776 := by simp; omega
  have HB := Lib.hid hb1
  have HU := Lib.hid hu
  clear hb1 hu hl
  go_enter Try.func82, Try.ntmps82
  go_wp2_with (at_builtin; refine wpList_join rfl _ _ rfl w.heap.size _ _ [] l rfl (fresh_lit w [] #[] _ rfl (Nat.le_refl _) (Nat.zero_le _)) rfl (HU.out.ext (Ext.alloc (Ext.refl _) _)) HB.out (size_alloc_le (Nat.le_refl _)) ?_)
  intro v1 w1 f1 g1 k1
  have e1' : Ext w w1 := k1 w (Ext.alloc (Ext.refl _) _) (Nat.le_refl _)
  clear g1 k1
  go_wp2
  go_ret
  exact ⟨_, rfl, by simpa using f1, e1'⟩

end Go.Proofs.Ytfffddhfagibpaa

namespace Go.Proofs.Ytfffddhfagibpaa
open Go.RowKit
set_option linter.unusedVariables false
set_option linter.unusedSimpArgs false

/-- Sums in new memory and what is told come back. -/
def Applied2 (L : List Int) (c s : Int) (w : World) (e : Ending) (w' : World) : Prop :=
  ∃ v, e = .returned (.tuple #[v, .agg #[.int .i64 c, .int .i64 s]]) ∧ Fresh w.heap.size w' v L ∧ Ext w w'

theorem ints_cell {b off cap F : Nat} {w : World} {l : List Int} {x : Int} (hv : Ints w (.slice (some ⟨b, off, none⟩) l.length cap) l) (hx : l[F]? = some x) : w.cell? ⟨b, off + F, none⟩ = some (.int .i64 x) := by
  have hF := (List.getElem?_eq_some_iff.1 hx).1
  obtain ⟨ao, c, h, _, _, hc⟩ := hv
  obtain ⟨b', off', rfl, hd⟩ := hc (by omega)
  injection h with h1
  injection h1 with h1
  injection h1 with h2 h3
  subst h2
  subst h3
  rw [hd F hF, hx]
  rfl
theorem slice_at {v : Value} {l : List Int} {w : World} (hv : Ints w v l) (h4 : l.length = 4) : ∃ b off cap, v = .slice (some ⟨b, off, none⟩) l.length cap ∧ b < w.heap.size := by
  obtain ⟨av, cv, rfl, _, _, hc⟩ := hv
  obtain ⟨b, off, rfl, hd⟩ := hc (by omega)
  exact ⟨_, _, _, rfl, World.block_lt_of_cell? w _ (hd 0 (by omega))⟩

set_option maxRecDepth 100000 in
set_option maxHeartbeats 4000000 in
theorem l11Apply_2 (v : Value) (l : List Int) (i t a : Int) (F : Nat) (x : Int) (w : World) (hv : Ints w v l) (h4 : l.length = 4) (hF : F < 4) (hx : l[F]? = some x) :
    Calls Try.prog 49 #[v, .agg #[.int .i64 2, .int .i64 i, .int .i64 F, .int .i64 t, .int .i64 a]] w (Applied2 l 3 x w) := by
  obtain ⟨xa, ba, bt, _⟩ := apply_boxes w 2 i F t a 35 32
  have HV := Lib.hid (hv.ext xa)
  have HO := Lib.hid hv
  have XA := Lib.hid xa
  have BA := Lib.hid ba
  have BT := Lib.hid bt
  obtain ⟨b, off, cap, rfl, hbl⟩ := slice_at hv h4
  have HL : Hid (l.length ≤ 1048576) := Lib.hid (by omega)
  have H4 := Lib.hid h4
  rw [h4]
  have HX := Lib.hid hx
  clear hv xa ba bt h4 hx
  go_enter Try.func49, Try.ntmps49
  go_wp2_with fail
  refine (l1Own_any _ l _ (by rw [← H4.out]; exact HV.out) HL.out).mono ?_
  rintro e w1 ⟨v1, rfl, f1, x1⟩
  have F1 := Lib.hid f1
  have X1 := Lib.hid x1
  have ha := BA.out.ext x1
  have a0 := ha.cell 0 _ rfl
  have a2 := ha.cell 2 _ rfl
  have hb := BT.out.ext x1
  have d0 := hb.cell 0 _ rfl
  have d1 := hb.cell 1 _ rfl
  have z0 := hb.free 0 (of_decide_eq_true rfl)
  have z1 := hb.free 1 (of_decide_eq_true rfl)
  have gF := ints_cell (HO.out.ext (XA.out.trans x1)) HX.out
  have i1 : (0 : Int) ≤ (F : Int) := by omega
  have i2 : (F : Int) < 4 := by omega
  clear f1 x1 ha hb
  go_wp2
  go_region
  go_wp2
  have x7 : Ext w (((w1.setCell ⟨w.heap.size + 1, 0, none⟩ (.int .i64 3)).setCell ⟨w.heap.size + 1, 1, none⟩ (.int .i64 x)).drew) := Ext.drew (Below.setCell (Below.setCell (XA.out.trans X1.out) (Nat.le_succ _) _) (Nat.le_succ _) _)
  have hl2 : w.heap.size + 1 < ((w.alloc (.cells #[.int .i64 2, .int .i64 i, .int .i64 F, .int .i64 t, .int .i64 a] 35)).alloc (.cells #[.int .i64 0, .int .i64 0] 32)).heap.size := by simp
  have f7 := (((F1.out.set (w.heap.size + 1) 0 (.int .i64 3) hl2).set (w.heap.size + 1) 1 (.int .i64 x) hl2).ext (Ext.drew (Ext.refl _))).more (Nat.le_of_lt (Nat.lt_of_succ_lt hl2))
  exact bodyPost_ret (v := .tuple #[v1, .agg #[.int .i64 3, .int .i64 x]]) (by simp [results, Try.results49, go_sem, d0, d1]) rfl ⟨_, rfl, f7, x7⟩

set_option maxRecDepth 100000 in
set_option maxHeartbeats 4000000 in
theorem l11Apply_0 (v : Value) (l : List Int) (i t a : Int) (f : Int) (w : World) (hv : Ints w v l) (h4 : l.length = 4) :
    Calls Try.prog 49 #[v, .agg #[.int .i64 0, .int .i64 i, .int .i64 f, .int .i64 t, .int .i64 a]] w (Applied2 l 0 0 w) := by
  obtain ⟨xa, ba, bt, _⟩ := apply_boxes w 0 i f t a 35 32
  have HV := Lib.hid (hv.ext xa)
  have HO := Lib.hid hv
  have XA := Lib.hid xa
  have BA := Lib.hid ba
  have BT := Lib.hid bt
  obtain ⟨b, off, cap, rfl, hbl⟩ := slice_at hv h4
  have HL : Hid (l.length ≤ 1048576) := Lib.hid (by omega)
  have H4 := Lib.hid h4
  rw [h4]
  clear hv xa ba bt h4
  go_enter Try.func49, Try.ntmps49
  go_wp2_with fail
  refine (l1Own_any _ l _ (by rw [← H4.out]; exact HV.out) HL.out).mono ?_
  rintro e w1 ⟨v1, rfl, f1, x1⟩
  have F1 := Lib.hid f1
  have X1 := Lib.hid x1
  have ha := BA.out.ext x1
  have a0 := ha.cell 0 _ rfl
  have a2 := ha.cell 2 _ rfl
  have hb := BT.out.ext x1
  have d0 := hb.cell 0 _ rfl
  have d1 := hb.cell 1 _ rfl
  have z0 := hb.free 0 (of_decide_eq_true rfl)
  have z1 := hb.free 1 (of_decide_eq_true rfl)
  clear f1 x1 ha hb
  go_wp2
  have x7 : Ext w (((w1.setCell ⟨w.heap.size + 1, 0, none⟩ (.int .i64 0)).setCell ⟨w.heap.size + 1, 1, none⟩ (.int .i64 0))) := (Below.setCell (Below.setCell (XA.out.trans X1.out) (Nat.le_succ _) _) (Nat.le_succ _) _)
  have hl2 : w.heap.size + 1 < ((w.alloc (.cells #[.int .i64 0, .int .i64 i, .int .i64 f, .int .i64 t, .int .i64 a] 35)).alloc (.cells #[.int .i64 0, .int .i64 0] 32)).heap.size := by simp
  have f7 := (((F1.out.set (w.heap.size + 1) 0 (.int .i64 0) hl2).set (w.heap.size + 1) 1 (.int .i64 0) hl2)).more (Nat.le_of_lt (Nat.lt_of_succ_lt hl2))
  exact bodyPost_ret (v := .tuple #[v1, .agg #[.int .i64 0, .int .i64 0]]) (by simp [results, Try.results49, go_sem, d0, d1]) rfl ⟨_, rfl, f7, x7⟩

set_option maxRecDepth 100000 in
set_option maxHeartbeats 4000000 in
theorem l11Apply_poor (v : Value) (l : List Int) (i a : Int) (F T : Nat) (x : Int) (w : World) (hv : Ints w v l) (h4 : l.length = 4) (hF : F < 4) (hT : T < 4) (hx : l[F]? = some x) (hp : x < a) :
    Calls Try.prog 49 #[v, .agg #[.int .i64 1, .int .i64 i, .int .i64 F, .int .i64 T, .int .i64 a]] w (Applied2 l 2 0 w) := by
  obtain ⟨xa, ba, bt, _⟩ := apply_boxes w 1 i F T a 35 32
  have HV := Lib.hid (hv.ext xa)
  have HO := Lib.hid hv
  have XA := Lib.hid xa
  have BA := Lib.hid ba
  have BT := Lib.hid bt
  obtain ⟨b, off, cap, rfl, hbl⟩ := slice_at hv h4
  have HL : Hid (l.length ≤ 1048576) := Lib.hid (by omega)
  have H4 := Lib.hid h4
  rw [h4]
  have HX := Lib.hid hx
  clear hv xa ba bt h4 hx
  go_enter Try.func49, Try.ntmps49
  go_wp2_with fail
  refine (l1Own_any _ l _ (by rw [← H4.out]; exact HV.out) HL.out).mono ?_
  rintro e w1 ⟨v1, rfl, f1, x1⟩
  have F1 := Lib.hid f1
  have X1 := Lib.hid x1
  have ha := BA.out.ext x1
  have a0 := ha.cell 0 _ rfl
  have a2 := ha.cell 2 _ rfl
  have a3 := ha.cell 3 _ rfl
  have a4 := ha.cell 4 _ rfl
  have hb := BT.out.ext x1
  have d0 := hb.cell 0 _ rfl
  have d1 := hb.cell 1 _ rfl
  have z0 := hb.free 0 (of_decide_eq_true rfl)
  have z1 := hb.free 1 (of_decide_eq_true rfl)
  have gF := ints_cell (HO.out.ext (XA.out.trans x1)) HX.out
  have i1 : (0 : Int) ≤ (F : Int) := by omega
  have i2 : (F : Int) < 4 := by omega
  clear f1 x1 ha hb
  go_wp2
  go_quiet (fail)
  go_wp2
  have x7 : Ext w ((((w1.drewN nq).setCell ⟨w.heap.size + 1, 0, none⟩ (.int .i64 2)).setCell ⟨w.heap.size + 1, 1, none⟩ (.int .i64 0))) := (Below.setCell (Below.setCell ((XA.out.trans X1.out).drewN nq) (Nat.le_succ _) _) (Nat.le_succ _) _)
  have hl2 : w.heap.size + 1 < ((w.alloc (.cells #[.int .i64 1, .int .i64 i, .int .i64 F, .int .i64 T, .int .i64 a] 35)).alloc (.cells #[.int .i64 0, .int .i64 0] 32)).heap.size := by simp
  have f7 := (((F1.out.ext (Ext.drewN (Ext.refl _) nq)).set (w.heap.size + 1) 0 (.int .i64 2) hl2).set (w.heap.size + 1) 1 (.int .i64 0) hl2).more (Nat.le_of_lt (Nat.lt_of_succ_lt hl2))
  exact bodyPost_ret (v := .tuple #[v1, .agg #[.int .i64 2, .int .i64 0]]) (by simp [results, Try.results49, go_sem, d0, d1]) rfl ⟨_, rfl, f7, x7⟩

set_option maxRecDepth 100000 in
set_option maxHeartbeats 4000000 in
theorem l11Apply_done (v : Value) (l : List Int) (i a : Int) (F T : Nat) (x y : Int) (w : World) (hv : Ints w v l) (h4 : l.length = 4) (hF : F < 4) (hT : T < 4) (hx : l[F]? = some x) (hy : l[T]? = some y) (hne : F ≠ T) (hp : a ≤ x) (ha0 : 1 ≤ a) (ha1 : a ≤ 1000) (hx1 : x ≤ 400) (hy0 : 0 ≤ y) (hy1 : y ≤ 400) :
    Calls Try.prog 49 #[v, .agg #[.int .i64 1, .int .i64 i, .int .i64 F, .int .i64 T, .int .i64 a]] w (Applied2 ((l.set F (x - a)).set T (y + a)) 1 0 w) := by
  obtain ⟨xa, ba, bt, _⟩ := apply_boxes w 1 i F T a 35 32
  have HV := Lib.hid (hv.ext xa)
  have HO := Lib.hid hv
  have XA := Lib.hid xa
  have BA := Lib.hid ba
  have BT := Lib.hid bt
  obtain ⟨b, off, cap, rfl, hbl⟩ := slice_at hv h4
  have HL : Hid (l.length ≤ 1048576) := Lib.hid (by omega)
  have H4 := Lib.hid h4
  rw [h4]
  have HX := Lib.hid hx
  have HY := Lib.hid hy
  clear hv xa ba bt h4 hx hy
  go_enter Try.func49, Try.ntmps49
  go_wp2_with fail
  refine (l1Own_any _ l _ (by rw [← H4.out]; exact HV.out) HL.out).mono ?_
  rintro e w1 ⟨v1, rfl, f1, x1⟩
  have F1 := Lib.hid f1
  have X1 := Lib.hid x1
  have ha := BA.out.ext x1
  have a0 := ha.cell 0 _ rfl
  have a2 := ha.cell 2 _ rfl
  have a3 := ha.cell 3 _ rfl
  have a4 := ha.cell 4 _ rfl
  have hb := BT.out.ext x1
  have d0 := hb.cell 0 _ rfl
  have d1 := hb.cell 1 _ rfl
  have z0 := hb.free 0 (of_decide_eq_true rfl)
  have z1 := hb.free 1 (of_decide_eq_true rfl)
  have gF := ints_cell (HO.out.ext (XA.out.trans x1)) HX.out
  have i1 : (0 : Int) ≤ (F : Int) := by omega
  have i2 : (F : Int) < 4 := by omega
  obtain ⟨g, cg, rfl, hg1, hg2⟩ := fresh_at f1 H4.out
  have hg3 : w.heap.size + 1 < g := by simp at hg1; omega
  have n1 : w.heap.size ≠ g := by omega
  have n2 : w.heap.size + 1 ≠ g := by omega
  have hne' : T ≠ F := fun h => hne h.symm
  have j1 : (0 : Int) ≤ (T : Int) := by omega
  have j2 : (T : Int) < 4 := by omega
  have w1' : wrap64 (x - a) = x - a := by unfold wrap64; omega
  have w2' : wrap64 (y + a) = y + a := by unfold wrap64; omega
  have q1 := fresh_cell f1 H4.out HX.out
  have q2 := fresh_frozen f1 H4.out F
  have q3 := fresh_cell f1 H4.out HY.out
  have q4 := fresh_frozen f1 H4.out T
  clear f1 x1 ha hb
  go_wp2
  go_quiet (fail)
  go_wp2
  go_region
  go_wp2
  go_region
  go_wp2
  have x7 : Ext w ((((((w1.drewN (nq + 1)).setCell ⟨g, F, none⟩ (.int .i64 (x - a))).setCell ⟨g, T, none⟩ (.int .i64 (y + a))).setCell ⟨w.heap.size + 1, 0, none⟩ (.int .i64 1)).setCell ⟨w.heap.size + 1, 1, none⟩ (.int .i64 0)).drew) :=
    Ext.drew (Below.setCell (Below.setCell (Below.setCell (Below.setCell ((XA.out.trans X1.out).drewN (nq + 1)) (Nat.le_of_lt (Nat.lt_of_succ_lt hg3)) _) (Nat.le_of_lt (Nat.lt_of_succ_lt hg3)) _) (Nat.le_succ _) _) (Nat.le_succ _) _)
  have hl2 : w.heap.size + 1 < ((w.alloc (.cells #[.int .i64 1, .int .i64 i, .int .i64 F, .int .i64 T, .int .i64 a] 35)).alloc (.cells #[.int .i64 0, .int .i64 0] 32)).heap.size := by simp
  have f5 := (fresh_put (fresh_put (F1.out.ext (Ext.drewN (Ext.refl _) (nq + 1))) H4.out F (x - a)).1 (by simp [H4.out]) T (y + a)).1
  have f7 := (((f5.set (w.heap.size + 1) 0 (.int .i64 1) hl2).set (w.heap.size + 1) 1 (.int .i64 0) hl2).ext (Ext.drew (Ext.refl _))).more (Nat.le_of_lt (Nat.lt_of_succ_lt hl2))
  exact bodyPost_ret (v := .tuple #[.slice (some ⟨g, 0, none⟩) 4 cg, .agg #[.int .i64 1, .int .i64 0]]) (by simp [results, Try.results49, go_sem, d0, d1, n1, n2, hne, hne']) rfl ⟨_, rfl, f7, x7⟩

theorem l11Apply_any (v : Value) (l : List Int) (k i f t a : Int) (w : World) (hv : Ints w v l) (hg : goodS l = true) (hc : goodB k i f t a = true) :
    Calls Try.prog 49 #[v, .agg #[.int .i64 k, .int .i64 i, .int .i64 f, .int .i64 t, .int .i64 a]] w (Applied2 (didL k f t a l) (didC k f a l) (didS k f l) w) := by
  have h4 := (goodS_get hg).1
  rcases good_kind hc with rfl | rfl | rfl
  · exact l11Apply_0 v l i t a f w hv h4
  · obtain ⟨F, T, rfl, rfl, hF, hT, hne, ha, ha1⟩ := good_1 hc
    obtain ⟨x, hx, hx0, hx1⟩ := goodS_at hg hF
    obtain ⟨y, hy, hy0, hy1⟩ := goodS_at hg hT
    have e1 : l[((F : Int)).toNat]? = some x := hx
    have e2 : l[((T : Int)).toNat]? = some y := hy
    have k1 : (1 : Int) = 1 ↔ True := by decide
    have k2 : (1 : Int) = 2 ↔ False := by decide
    simp only [didL, didC, didS, e1, e2, Option.getD_some, k1, k2, if_true, if_false]
    by_cases h : x < a
    · rw [if_pos h, if_pos h]
      exact l11Apply_poor v l i a F T x w hv h4 hF hT hx h
    · rw [if_neg h, if_neg h]
      exact l11Apply_done v l i a F T x y w hv h4 hF hT hx hy hne (by omega) ha ha1 hx1 hy0 hy1
  · obtain ⟨F, rfl, hF⟩ := good_2 hc
    obtain ⟨x, hx, hx0, hx1⟩ := goodS_at hg hF
    have e1 : l[((F : Int)).toNat]? = some x := hx
    have k1 : (2 : Int) = 1 ↔ False := by decide
    have k2 : (2 : Int) = 2 ↔ True := by decide
    simp only [didL, didC, didS, e1, Option.getD_some, k1, k2, if_true, if_false]
    exact l11Apply_2 v l i t a F x w hv h4 hF hx

set_option maxRecDepth 100000 in
set_option maxHeartbeats 2000000 in
theorem specApply_no (v : Value) (l : List Int) (k i f t a : Int) (w : World) (hv : Ints w v l) (hs : l.length ≤ 1099511627776) (hno : okA l k i f t a = false) :
    Calls Try.prog 18 #[v, .agg #[.int .i64 k, .int .i64 i, .int .i64 f, .int .i64 t, .int .i64 a]] w (Applied [] 0 0 false w) := by
  obtain ⟨xa, ba, bt, _⟩ := apply_boxes w k i f t a 35 32
  have HC := Lib.hid (specGoodSums_any v l _ (hv.ext xa) hs)
  have XA := Lib.hid xa
  have BA := Lib.hid ba
  have BT := Lib.hid bt
  cases h : goodS l with
  | false =>
    rw [h] at HC
    clear hno hv xa ba bt
    go_enter Try.func18, Try.ntmps18
    go_wp2_with fail
    refine HC.out.mono ?_
    rintro e w1 ⟨rfl, x1⟩
    have hb := BT.out.ext x1
    have d0 := hb.cell 0 _ rfl
    have d1 := hb.cell 1 _ rfl
    have z0 := hb.free 0 (of_decide_eq_true rfl)
    have z1 := hb.free 1 (of_decide_eq_true rfl)
    go_wp2
    have x3 : Ext w ((w1.setCell ⟨w.heap.size + 1, 0, none⟩ (.int .i64 0)).setCell ⟨w.heap.size + 1, 1, none⟩ (.int .i64 0)) := Below.setCell (Below.setCell (XA.out.trans x1) (Nat.le_succ _) _) (Nat.le_succ _) _
    exact bodyPost_ret (v := .tuple #[.slice none 0 0, .agg #[.int .i64 0, .int .i64 0], .bool false]) (by simp [results, Try.results18, go_sem, d0, d1]) rfl ⟨_, rfl, fresh_nil _ _, x3⟩
  | true =>
    have hk : goodB k i f t a = false := by unfold okA at hno; rw [h] at hno; simpa using hno
    rw [h] at HC
    have HK := Lib.hid hk
    clear hno hv xa ba bt hk
    go_enter Try.func18, Try.ntmps18
    go_wp2_with fail
    refine HC.out.mono ?_
    rintro e w1 ⟨rfl, x1⟩
    have hb := BA.out.ext x1
    have a0 := hb.cell 0 _ rfl
    have a1 := hb.cell 1 _ rfl
    have a2 := hb.cell 2 _ rfl
    have a3 := hb.cell 3 _ rfl
    have a4 := hb.cell 4 _ rfl
    go_wp2_with fail
    refine (specGood_any _ _ _ _ _ _).mono ?_
    rintro e w2 ⟨rfl, x2⟩
    rw [HK.out]
    have x12 := x1.trans x2
    clear x1 x2 hb a0 a1 a2 a3 a4
    have hb := BT.out.ext x12
    have d0 := hb.cell 0 _ rfl
    have d1 := hb.cell 1 _ rfl
    have z0 := hb.free 0 (of_decide_eq_true rfl)
    have z1 := hb.free 1 (of_decide_eq_true rfl)
    go_wp2
    have x3 : Ext w ((w2.setCell ⟨w.heap.size + 1, 0, none⟩ (.int .i64 0)).setCell ⟨w.heap.size + 1, 1, none⟩ (.int .i64 0)) := Below.setCell (Below.setCell (XA.out.trans x12) (Nat.le_succ _) _) (Nat.le_succ _) _
    exact bodyPost_ret (v := .tuple #[.slice none 0 0, .agg #[.int .i64 0, .int .i64 0], .bool false]) (by simp [results, Try.results18, go_sem, d0, d1]) rfl ⟨_, rfl, fresh_nil _ _, x3⟩

set_option maxRecDepth 100000 in
set_option maxHeartbeats 2000000 in
theorem specApply_yes (v : Value) (l : List Int) (k i f t a : Int) (w : World) (hv : Ints w v l) (hg : goodS l = true) (hc : goodB k i f t a = true) :
    Calls Try.prog 18 #[v, .agg #[.int .i64 k, .int .i64 i, .int .i64 f, .int .i64 t, .int .i64 a]] w (Applied (didL k f t a l) (didC k f a l) (didS k f l) true w) := by
  obtain ⟨xa, ba, bt, _⟩ := apply_boxes w k i f t a 35 32
  have HC := Lib.hid (specGoodSums_any v l _ (hv.ext xa) (by have := (goodS_get hg).1; omega))
  have HV := Lib.hid (hv.ext xa)
  have XA := Lib.hid xa
  have BA := Lib.hid ba
  have BT := Lib.hid bt
  rw [hg] at HC
  have HK := Lib.hid hc
  have HG := Lib.hid hg
  clear hv xa ba bt hc hg
  go_enter Try.func18, Try.ntmps18
  go_wp2_with fail
  refine HC.out.mono ?_
  rintro e w1 ⟨rfl, x1⟩
  have hb := BA.out.ext x1
  have a0 := hb.cell 0 _ rfl
  have a1 := hb.cell 1 _ rfl
  have a2 := hb.cell 2 _ rfl
  have a3 := hb.cell 3 _ rfl
  have a4 := hb.cell 4 _ rfl
  go_wp2_with fail
  refine (specGood_any _ _ _ _ _ _).mono ?_
  rintro e w2 ⟨rfl, x2⟩
  rw [HK.out]
  have X2 := Lib.hid (x1.trans x2)
  clear x1 x2 hb a0 a1 a2 a3 a4
  have hb := BA.out.ext X2.out
  have a0 := hb.cell 0 _ rfl
  have a1 := hb.cell 1 _ rfl
  have a2 := hb.cell 2 _ rfl
  have a3 := hb.cell 3 _ rfl
  have a4 := hb.cell 4 _ rfl
  go_wp2_with fail
  refine (l11Apply_any _ l _ _ _ _ _ _ (HV.out.ext X2.out) HG.out HK.out).mono ?_
  rintro e w5 ⟨v3, rfl, f5, x5⟩
  have XW : Hid (Ext w w2) := Lib.hid (XA.out.trans X2.out)
  have F5 := Lib.hid f5
  have X5 := Lib.hid x5
  clear f5 x5 hb a0 a1 a2 a3 a4
  obtain ⟨c, hc⟩ : ∃ c, c = didC k f a l := ⟨_, rfl⟩
  obtain ⟨s, hs⟩ : ∃ s, s = didS k f l := ⟨_, rfl⟩
  rw [← hc, ← hs]
  have HCC := Lib.hid hc
  have HSS := Lib.hid hs
  clear hc hs
  obtain ⟨w6, hw6⟩ : ∃ w6, w6 = w5.alloc (.cells #[.int .i64 c, .int .i64 s] 32) := ⟨_, rfl⟩
  have x6 : Ext w5 w6 := by rw [hw6]; exact Ext.alloc (Ext.refl _) _
  have hn : BoxV w6 w5.heap.size [.int .i64 c, .int .i64 s] := by rw [hw6]; exact boxV_new _ _ _
  have hb := BT.out.ext (X2.out.trans (X5.out.trans x6))
  have d0 := hb.cell 0 _ rfl
  have d1 := hb.cell 1 _ rfl
  have z0 := hb.free 0 (of_decide_eq_true rfl)
  have z1 := hb.free 1 (of_decide_eq_true rfl)
  have e0 := hn.cell 0 _ rfl
  have e1 := hn.cell 1 _ rfl
  have HW6 := Lib.hid hw6
  have X6 := Lib.hid x6
  clear hb hn hw6 x6
  go_upto_region 4 with fail
  rw [← HW6.out]
  go_region
  go_wp2
  have hl2 : w.heap.size + 1 < w2.heap.size := (BT.out.ext X2.out).lt
  have x7 : Ext w (((w6.setCell ⟨w.heap.size + 1, 0, none⟩ (.int .i64 c)).setCell ⟨w.heap.size + 1, 1, none⟩ (.int .i64 s)).drew) := Ext.drew (Below.setCell (Below.setCell (XW.out.trans (X5.out.trans X6.out)) (Nat.le_succ _) _) (Nat.le_succ _) _)
  have f7 := ((((F5.out.ext X6.out).set (w.heap.size + 1) 0 (.int .i64 c) hl2).set (w.heap.size + 1) 1 (.int .i64 s) hl2).ext (Ext.drew (Ext.refl _))).more (Nat.le_of_lt (Nat.lt_of_succ_lt hl2))
  rw [← HCC.out, ← HSS.out]
  exact bodyPost_ret (v := .tuple #[v3, .agg #[.int .i64 c, .int .i64 s], .bool true]) (by simp [results, Try.results18, go_sem, d0, d1]) rfl ⟨_, rfl, f7, x7⟩

theorem specApply_any (v : Value) (l : List Int) (k i f t a : Int) (w : World) (hv : Ints w v l) (hs : l.length ≤ 1099511627776) :
    Calls Try.prog 18 #[v, .agg #[.int .i64 k, .int .i64 i, .int .i64 f, .int .i64 t, .int .i64 a]] w
      (Applied (if okA l k i f t a then didL k f t a l else []) (if okA l k i f t a then didC k f a l else 0) (if okA l k i f t a then didS k f l else 0) (okA l k i f t a) w) := by
  cases h : okA l k i f t a with
  | false => exact specApply_no v l k i f t a w hv hs h
  | true =>
    have h2 := h
    unfold okA at h2
    obtain ⟨hg, hc⟩ := (Bool.and_eq_true _ _ ▸ h2 : goodS l = true ∧ goodB k i f t a = true)
    exact specApply_yes v l k i f t a w hv hg hc

end Go.Proofs.Ytfffddhfagibpaa

namespace Go.Proofs.Ytfffddhfagibpaa
open Go.RowKit
set_option linter.unusedVariables false

theorem endT_alloc {W K : World} {c s : Int} {v : Value} {L : List Int} {n0 : Nat} {T : TypeId} (h1 : Ext W K) (h2 : Fresh n0 K v L) (h3 : W.heap.size ≤ n0) :
    Fresh W.heap.size (K.alloc (.cells #[.int .i64 c, .int .i64 s] T)) v L ∧ BoxV (K.alloc (.cells #[.int .i64 c, .int .i64 s] T)) K.heap.size [.int .i64 c, .int .i64 s] ∧ Ext W (K.alloc (.cells #[.int .i64 c, .int .i64 s] T)) ∧ W.heap.size ≤ K.heap.size :=
  ⟨(h2.ext (Ext.alloc (Ext.refl _) _)).more h3, boxV_new _ _ _, h1.alloc _, h1.size⟩
theorem endT_set {W K : World} {g n0 : Nat} {c s : Int} {a b : Value} {v : Value} {L : List Int} (hp : BoxV K g [a, b]) (h1 : Ext W K) (h2 : Fresh n0 K v L) (h3 : W.heap.size ≤ n0) (h4 : W.heap.size ≤ g) (h5 : g < n0) :
    Fresh W.heap.size ((K.setCell ⟨g, 0, none⟩ (.int .i64 c)).setCell ⟨g, 1, none⟩ (.int .i64 s)) v L ∧ BoxV ((K.setCell ⟨g, 0, none⟩ (.int .i64 c)).setCell ⟨g, 1, none⟩ (.int .i64 s)) g [.int .i64 c, .int .i64 s] ∧ Ext W ((K.setCell ⟨g, 0, none⟩ (.int .i64 c)).setCell ⟨g, 1, none⟩ (.int .i64 s)) ∧ W.heap.size ≤ g :=
  ⟨((h2.set g 0 _ h5).set g 1 _ h5).more h3, (hp.set 0 (.int .i64 c) (by simp)).set 1 (.int .i64 s) (by simp), (h1.setc h4).setc h4, h4⟩

set_option maxHeartbeats 1000000 in
theorem eqTold_same (c s : Int) (w : World) :
    Calls Try.prog 21 #[.agg #[.int .i64 c, .int .i64 s], .agg #[.int .i64 c, .int .i64 s]] w (BoolExt true w) := by
  have e0 : (c != c) = false := by simp
  have e1 : (s != s) = false := by simp
  go_enter Try.func21, Try.ntmps21
  go_wp2
  go_ret
  exact ⟨rfl, Ext.alloc (Ext.alloc (Ext.refl _) _) _⟩

theorem BoxV.grown {w w' : World} {b : Nat} {vs : List Value} {r : Option Nat} (h : BoxV w b vs) (t : w.grownBy w' r) (hne : r ≠ some b) : BoxV w' b vs := by
  have hb := t.block b h.lt (fun e => hne e.symm)
  refine ⟨fun j v hj => ?_, fun j hj => ?_, Nat.lt_of_lt_of_le h.lt t.size⟩
  · have := h.cell j v hj
    unfold World.cell? at this ⊢
    rw [hb]
    exact this
  · have := h.free j hj
    unfold World.frozen? at this ⊢
    rw [hb]
    exact this

end Go.Proofs.Ytfffddhfagibpaa

namespace Go.Proofs.Ytfffddhfagibpaa
open Go.RowKit
set_option linter.unusedVariables false

/-- A world that is W with new blocks. -/
def ExtOf (W : World) := {w' : World // Ext W w'}
instance (W : World) : Nonempty (ExtOf W) := ⟨⟨W, Ext.refl W⟩⟩
theorem ExtOf.cell {W : World} (e : ExtOf W) {a : Addr} {v : Value} (h : W.cell? a = some v) : e.1.cell? a = some v := Ext.cell e.2 h
theorem wp_region_ext_lit {P : Program} {id : Nat} {Q : Exit → Act → World → Prop} {a : Act} {w : World} {l : List Oper} (hm : P.follows .mixedOrders = true) (hB : Region.lexB .any l.toArray = true)
    (h : wpQuiet P l.toArray (fun w' => ∃ e : ExtOf w, w' = e.1) (fun a' => ∀ w', (∃ e : ExtOf w, w' = e.1) → Q .normal a' w') l a) : (Code.region id l.toArray true).wp P Q a w :=
  wp_region_quiet (C := fun w' => ∃ e : ExtOf w, w' = e.1) hm hB ⟨⟨w.drew, Ext.drew (Ext.refl w)⟩, rfl⟩ (by simpa using h)
/-- A callee's contract, met in such a world. -/
theorem Calls.ext_of {P : Program} {f : FuncId} {args : Array Value} {W : World} {v : Value} (e : ExtOf W)
    (h : Calls P f args e.1 fun x w' => x = .returned v ∧ Ext e.1 w') : Calls P f args e.1 fun x w'' => x = .returned v ∧ ∃ e' : ExtOf W, w'' = e'.1 :=
  h.mono fun _ w' ⟨he, hx⟩ => ⟨he, ⟨w', e.2.trans hx⟩, rfl⟩

end Go.Proofs.Ytfffddhfagibpaa

namespace Go.Proofs.Ytfffddhfagibpaa
open Go.RowKit
set_option linter.unusedVariables false

set_option maxHeartbeats 4000000 in
set_option maxRecDepth 100000 in
theorem eqTdS_same (u v : Value) (L : List TldD) (w : World) (hu : Tdz w u L) (hv : Tdz w v L) :
    Calls Try.prog 26 #[u, v] w (BoolExt true w) := by
  obtain ⟨au, cu, rfl, hlu, _, hcu⟩ := hu
  obtain ⟨av, cv, rfl, hlv, _, hcv⟩ := hv
  unfold maxLen at hlu hlv
  have e0 : ((L.length : Int) != (L.length : Int)) = false := by simp
  go_enter Try.func26, Try.ntmps26
  go_wp2
  go_loopw [5] (fun i wr => ∃ k : Nat, k ≤ L.length ∧ i = .int .i64 k ∧ Ext w wr) (fun i _ => L.length - (intOf i).toNat)
  case atStart => exact ⟨0, Nat.zero_le _, rfl, Ext.refl _⟩
  case round =>
    obtain ⟨k, hk, rfl, hx⟩ := hrel
    by_cases hlt : k < L.length
    · obtain ⟨bu, ou, rfl, du⟩ := hcu (by omega)
      obtain ⟨bv, ov, rfl, dv⟩ := hcv (by omega)
      have hx1 := du k hlt
      have hy1 := dv k hlt
      obtain ⟨d, hd⟩ : ∃ d, d = L[k] := ⟨_, rfl⟩
      rw [← hd] at hx1 hy1
      obtain ⟨p0, p1⟩ := tdIn_cells (hx1.ext hx)
      obtain ⟨q0, q1⟩ := tdIn_cells (hy1.ext hx)
      have cE : ∀ E : ExtOf wr, Calls Try.prog 21 #[.agg #[.int .i64 d.c, .int .i64 d.s], .agg #[.int .i64 d.c, .int .i64 d.s]] E.1 (BoolExt true E.1) := fun E => eqTold_same d.c d.s _
      have p0 := fun E : ExtOf wr => E.cell p0
      have q0 := fun E : ExtOf wr => E.cell q0
      have p1 := fun E : ExtOf wr => E.cell p1
      have q1 := fun E : ExtOf wr => E.cell q1
      have HX := Lib.hid hx
      have HLT := Lib.hid hlt
      clear hcu hcv du dv hx1 hy1 hd hx
      go_wp2_with fail
      refine wp_region_ext_lit (by kernel_rfl) (by kernel_rfl) ?_
      repeat (go_big_quiet_step (first | (go_at_call 21; with_reducible exact Calls.ext_of _ (cE _))))
      refine wpQuiet_nil ?_
      rintro _ ⟨E, rfl⟩
      have hx2 : Ext w E.1 := HX.out.trans E.2
      clear cE p0 p1 q0 q1
      go_wp2
      go_roundw
      case rel => exact ⟨k + 1, by have := HLT.out; omega, by go_num, hx2⟩
      case measure => simp [intOf]; have := HLT.out; omega
    · obtain rfl : k = L.length := by omega
      go_wp2
      go_ret
      exact ⟨rfl, hx⟩
end Go.Proofs.Ytfffddhfagibpaa

namespace Go.Proofs.Ytfffddhfagibpaa
open Go.RowKit
set_option linter.unusedVariables false

/-- How many marks rows bear. -/
def weigh (R : List RowD) : List Nat := R.map fun r => 9 + r.l.length
theorem weigh_len (R : List RowD) : (weigh R).length = R.length := by simp [weigh]
theorem weigh_get {R : List RowD} {k : Nat} (h : k < R.length) : (weigh R)[k]'(by rw [weigh_len]; exact h) = 9 + R[k].l.length := by simp [weigh]
theorem weigh_sum (R : List RowD) : (weigh R).sum ≤ 10 * bulkR R := by
  unfold weigh bulkR
  induction R with
  | nil => simp
  | cons r R ih => simp at ih ⊢; omega

set_option maxHeartbeats 4000000 in
set_option maxRecDepth 100000 in
theorem markRowS_any (lo hi : Nat) (v : Value) (R : List RowD) (k : Int) (w : World) (hv : FreshI lo hi w v R) (h0 : 0 ≤ k) (hk : k ≤ 1099511627776) (h1 : bulkR R ≤ 1099511627776) :
    Calls Try.prog 104 #[v, .int .i64 k] w (fun e w' => e = .returned (.int .i64 (k + (weigh R).sum)) ∧ Ins lo hi w w') := by
  obtain ⟨xs, us, ho, hC, hR, hout, hU, hUs⟩ := hv
  have hul : us.length = R.length := by have := hR.len; simpa using this
  have hws := weigh_sum R
  rcases ho.2 with ⟨rfl, hn⟩ | ⟨g, cap, cur, rfl, hb, hg, hnc, hcm, hcs, htake⟩
  · obtain rfl : R = [] := List.eq_nil_of_length_eq_zero hn
    clear h1 hws
    go_enter Try.func104, Try.ntmps104
    go_wp2
    refine wp_loop_rounds 1 ?_; rw [rounds_succ]
    go_wp2
    go_ret
    exact ⟨by simp [weigh], Ins.refl _ _ _⟩
  · have hout' : ∀ (j : Nat) (u : Value), us[j]? = some u → u.ownBlock = none ∨ u.ownBlock ≠ some g := hout
    have hgi : lo ≤ g ∧ g < hi := ⟨hb, hU g rfl⟩
    have hfr : Hid (∀ i (h : i < R.length) (h' : i < us.length), 0 ≤ i → Fresh lo w us[i] R[i].l) := Lib.hid fun i h h' _ => hR.row i _ _ (List.getElem?_eq_getElem h') (by simp [List.getElem?_eq_getElem h])
    have hxr : Hid (∀ i (h : i < R.length) (h' : i < us.length), 0 ≤ i → XRow xs (i * 10) R[i] us[i]) := Lib.hid fun i h h' _ => hC i h h'
    have HOUT := Lib.hid hout'
    have HAP := Lib.hid hR.apart
    have HUS := Lib.hid hUs
    have HUL := Lib.hid hul
    have HWS := Lib.hid hws
    have HGI := Lib.hid hgi
    have H1 := Lib.hid h1
    have hLen : R.length ≤ 1099511627776 := by unfold bulkR at h1; omega
    clear hg hnc hcm hcs htake cur hb hout hout' hU hUs hul hR hC hws hgi h1
    go_enter Try.func104, Try.ntmps104
    go_wp2
    go_loopw [1, 5] (fun m i wr => ∃ (j : Nat) (r : Int) (ys : List Value), j ≤ R.length ∧ i = .int .i64 j ∧ m = .int .i64 r ∧ Hid (r = k + sumN (weigh R) j) ∧ wr.ownsRow lo 73 10 (.slice (some ⟨g, 0, none⟩) R.length cap) R.length ys ∧ Hid (∀ i (h : i < R.length) (h' : i < us.length), j ≤ i → Fresh lo wr us[i] R[i].l) ∧ Hid (∀ i (h : i < R.length) (h' : i < us.length), j ≤ i → XRow ys (i * 10) R[i] us[i]) ∧ Ins lo hi w wr) (fun _ i _ => R.length - (intOf i).toNat)
    case atStart => exact ⟨0, k, xs, Nat.zero_le _, rfl, rfl, Lib.hid (by rw [sumN_zero]; simp), ho, hfr, hxr, Ins.refl _ _ _⟩
    case round =>
      clear ho hfr hxr
      obtain ⟨j, r, ys, hj, rfl, rfl, hr, ho, hF, hX, hI⟩ := hrel
      by_cases hlt : j < R.length
      · have hju : j < us.length := by rw [HUL.out]; exact hlt
        obtain ⟨d, hd⟩ : ∃ d, d = R[j] := ⟨_, rfl⟩
        obtain ⟨u, hu⟩ : ∃ u, u = us[j] := ⟨_, rfl⟩
        have hx := hX.out j hlt hju (Nat.le_refl _)
        have hf := hF.out j hlt hju (Nat.le_refl _)
        rw [← hd, ← hu] at hx hf
        have hlen : d.l.length ≤ 1099511627776 := by rw [hd]; have := bulkR_row hlt; have := H1.out; omega
        have hr0 : 0 ≤ r := by have := hr.out; omega
        have hr1 : r ≤ 21990232555520 := by
          have h := hr.out
          have h2 := sumN_mono (g := weigh R) (k := j) (by rw [weigh_len]; omega)
          have := HWS.out; have := H1.out; omega
        obtain ⟨g0, g1, g2, g3, g4, g5, g6, g7, g8, g9⟩ := hx.rowIn ho hlt
        have gf : ∀ q, wr.frozen? ⟨g, q, none⟩ = false := fun q => ho.frozenAt q
        obtain ⟨au, cu, rfl⟩ := hf.form
        have HO := Lib.hid ho
        have HFF := Lib.hid hf
        have HD := Lib.hid hd
        have HU := Lib.hid hu
        clear ho hf hx hd hu
        have hst := ownsRow_stores [.int .i64 r, .int .i64 (r + 1), .int .i64 (r + 1 + 1), .int .i64 (r + 1 + 1 + 1), .int .i64 (r + 1 + 1 + 1 + 1), .int .i64 (r + 1 + 1 + 1 + 1 + 1), .int .i64 (r + 1 + 1 + 1 + 1 + 1 + 1), .int .i64 (r + 1 + 1 + 1 + 1 + 1 + 1 + 1), .int .i64 (r + 1 + 1 + 1 + 1 + 1 + 1 + 1 + 1)] (j * 10) wr ys HO.out
        have hub : ∀ b, (Value.slice au d.l.length cu).ownBlock = some b → lo ≤ b ∧ b < hi ∧ b ≠ g := fun b e => by
          have h1 := (World.ownsRow.lt HFF.out b e).1
          have hju' : us[j]? = some (.slice au d.l.length cu) := by rw [List.getElem?_eq_getElem hju, HU.out]
          have h2 := HUS.out j _ hju' b e
          refine ⟨h1, h2, fun e' => ?_⟩
          rcases HOUT.out j _ hju' with h | h
          · rw [h] at e; cases e
          · exact h (by rw [e, e'])
        have hf9 : Fresh lo (wr.setCells g (j * 10) [.int .i64 r, .int .i64 (r + 1), .int .i64 (r + 1 + 1), .int .i64 (r + 1 + 1 + 1), .int .i64 (r + 1 + 1 + 1 + 1), .int .i64 (r + 1 + 1 + 1 + 1 + 1), .int .i64 (r + 1 + 1 + 1 + 1 + 1 + 1), .int .i64 (r + 1 + 1 + 1 + 1 + 1 + 1 + 1), .int .i64 (r + 1 + 1 + 1 + 1 + 1 + 1 + 1 + 1)]) (.slice au d.l.length cu) d.l := World.ownsRow.kept HFF.out hst.2 (by
          cases hob : (Value.slice au d.l.length cu).ownBlock with
          | none => exact .inl rfl
          | some b => exact .inr fun e => (hub b hob).2.2 (Option.some.inj e))
        have hi9 : Ins lo hi wr (wr.setCells g (j * 10) [.int .i64 r, .int .i64 (r + 1), .int .i64 (r + 1 + 1), .int .i64 (r + 1 + 1 + 1), .int .i64 (r + 1 + 1 + 1 + 1), .int .i64 (r + 1 + 1 + 1 + 1 + 1), .int .i64 (r + 1 + 1 + 1 + 1 + 1 + 1), .int .i64 (r + 1 + 1 + 1 + 1 + 1 + 1 + 1), .int .i64 (r + 1 + 1 + 1 + 1 + 1 + 1 + 1 + 1)]) := Ins.of_grown hst.2 (fun q e => by rw [← Option.some.inj e]; exact HGI.out)
        have HST := Lib.hid hst
        have HUB := Lib.hid hub
        have HF9 := Lib.hid hf9
        have HI9 := Lib.hid hi9
        clear hst hub hf9 hi9
        go_wp2_with fail
        refine (markIntS_any lo _ d.l _ (wr.setCells g (j * 10) [.int .i64 r, .int .i64 (r + 1), .int .i64 (r + 1 + 1), .int .i64 (r + 1 + 1 + 1), .int .i64 (r + 1 + 1 + 1 + 1), .int .i64 (r + 1 + 1 + 1 + 1 + 1), .int .i64 (r + 1 + 1 + 1 + 1 + 1 + 1), .int .i64 (r + 1 + 1 + 1 + 1 + 1 + 1 + 1), .int .i64 (r + 1 + 1 + 1 + 1 + 1 + 1 + 1 + 1)]) HF9.out (by omega) (by omega)).mono ?_
        rintro e w3 ⟨rfl, f3, t3⟩
        have T3 := Lib.hid t3
        have hs := sumN_succ (g := weigh R) (k := j) (by rw [weigh_len]; exact hlt)
        rw [weigh_get hlt, ← HD.out] at hs
        have HS := Lib.hid hs
        clear f3 t3 hs g0 g1 g2 g3 g4 g5 g6 g7 g8 g9 gf
        obtain ⟨q, hq⟩ : ∃ q, q = r + 1 + 1 + 1 + 1 + 1 + 1 + 1 + 1 + 1 + (d.l.length : Int) := ⟨_, rfl⟩
        have hq0 : 0 ≤ q := by omega
        rw [← hq]
        have HQ := Lib.hid hq
        clear hq
        go_wp2
        go_roundw
        case rel =>
          have hju' : us[j]? = some (.slice au d.l.length cu) := by rw [List.getElem?_eq_getElem hju, HU.out]
          refine ⟨j + 1, q, _, by omega, by go_num, rfl, Lib.hid (by have h1 := hr.out; have h2 := HS.out; have h3 := HQ.out; omega), World.ownsRow.kept HST.out.1 T3.out ?_, Lib.hid fun i h h' hij => ?_, Lib.hid fun i h h' hij => ?_, (hI.trans HI9.out).trans (Ins.of_grown T3.out (fun b e => ⟨(HUB.out b e).1, (HUB.out b e).2.1⟩))⟩
          · refine .inr fun e => ?_
            have := (HUB.out g e.symm).2.2
            exact this rfl
          · have h9 : Fresh lo (wr.setCells g (j * 10) [.int .i64 r, .int .i64 (r + 1), .int .i64 (r + 1 + 1), .int .i64 (r + 1 + 1 + 1), .int .i64 (r + 1 + 1 + 1 + 1), .int .i64 (r + 1 + 1 + 1 + 1 + 1), .int .i64 (r + 1 + 1 + 1 + 1 + 1 + 1), .int .i64 (r + 1 + 1 + 1 + 1 + 1 + 1 + 1), .int .i64 (r + 1 + 1 + 1 + 1 + 1 + 1 + 1 + 1)]) us[i] R[i].l := World.ownsRow.kept (hF.out i h h' (by omega)) HST.out.2 (HOUT.out i _ (List.getElem?_eq_getElem h'))
            exact World.ownsRow.kept h9 T3.out (HAP.out i j _ _ (by omega) (List.getElem?_eq_getElem h') hju')
          · have hl9 : ∀ (vs : List Value), vs.length = 9 → XRow (putL ys (j * 10) vs) (i * 10) R[i] us[i] := fun vs hvs => by
              obtain ⟨p0, p1, p2, p3, p4, p5, p6, p7, p8, p9⟩ := hX.out i h h' (by omega)
              refine ⟨?_, ?_, ?_, ?_, ?_, ?_, ?_, ?_, ?_, ?_⟩ <;> (rw [putL_out _ _ _ _ (by rw [hvs]; omega)]; assumption)
            exact hl9 _ rfl
        case measure => simp [intOf]; omega
      · obtain rfl : j = R.length := by omega
        go_wp2
        go_ret
        refine ⟨?_, hI⟩
        have h := hr.out
        have h2 := sumN_all (weigh R)
        rw [weigh_len] at h2
        rw [h2] at h
        rw [h]; rfl

end Go.Proofs.Ytfffddhfagibpaa
