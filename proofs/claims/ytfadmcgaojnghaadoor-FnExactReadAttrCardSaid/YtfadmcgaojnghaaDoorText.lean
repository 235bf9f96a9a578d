/- Contracts of CmdText of the model: the text of a good command. -/
import Derived.Test.YtfadmcgaojnghaaDoorDec
import Derived.Test.YtfadmcgaojnghaaDoorTouch
import Derived.Deep.RegionHeld3
namespace Go.Proofs.YtfadmcgaojnghaaDoor
open Go.RowKit
set_option linter.unusedVariables false

def textM (i f t a : Int) : List UInt8 := [109, 111, 118, 101, 32] ++ decI i ++ [32] ++ decI f ++ [32] ++ decI t ++ [32] ++ decI a
def textR (i f : Int) : List UInt8 := [114, 101, 97, 100, 32] ++ decI i ++ [32] ++ decI f

set_option maxRecDepth 100000 in
set_option maxHeartbeats 2000000 in
theorem l2Text_read (i f t a : Int) (w : World) (hi : 0 ≤ i ∧ i ≤ 99999) (hf : 0 ≤ f ∧ f ≤ 99999) :
    Calls Tryd.prog 36 #[.agg #[.int .i64 2, .int .i64 i, .int .i64 f, .int .i64 t, .int .i64 a]] w (StrExt (textR i f) w) := by
  have hli := decI_len hi.2
  have hlf := decI_len hf.2
  have ci := num_at i hi.1 hi.2
  have cf := num_at f hf.1 hf.2
  unfold textR
  obtain ⟨x, hx⟩ : ∃ x, x = decI i := ⟨_, rfl⟩
  obtain ⟨y, hy⟩ : ∃ y, y = decI f := ⟨_, rfl⟩
  rw [← hx] at hli ci
  rw [← hy] at hlf cf
  rw [← hx, ← hy]
  have CI := Lib.hid ci
  have CF := Lib.hid cf
  obtain ⟨p1, h1⟩ : ∃ p, p = ([114, 101, 97, 100, 32] ++ x : List UInt8) := ⟨_, rfl⟩
  obtain ⟨p2, h2⟩ : ∃ p, p = p1 ++ ([32] : List UInt8) := ⟨_, rfl⟩
  obtain ⟨p3, h3⟩ : ∃ p, p = p2 ++ y := ⟨_, rfl⟩
  have hl1 : p1.length ≤ 25 := by rw [h1]; simp; omega
  have hl2 : p2.length ≤ 26 := by rw [h2]; simp; omega
  have b1 : ∀ W : World, (Op.stringOp .add ⟨#[114, 101, 97, 100, 32]⟩ ⟨x.toArray⟩).run Tryd.prog W = .ok (.string ⟨p1.toArray⟩) W := fun W => by rw [h1]; exact cat_run W [114, 101, 97, 100, 32] x (by first | omega | (simp; omega))
  have b2 : ∀ W : World, (Op.stringOp .add ⟨p1.toArray⟩ ⟨#[32]⟩).run Tryd.prog W = .ok (.string ⟨p2.toArray⟩) W := fun W => by rw [h2]; exact cat_run W p1 [32] (by first | omega | (simp; omega))
  have b3 : ∀ W : World, (Op.stringOp .add ⟨p2.toArray⟩ ⟨y.toArray⟩).run Tryd.prog W = .ok (.string ⟨p3.toArray⟩) W := fun W => by rw [h3]; exact cat_run W p2 y (by omega)
  rw [← h1, ← h2, ← h3]
  clear hx hy ci cf hi hf h1 h2 h3
  have hb := cmdAt_new w 25 2 i f t a
  have g1 := hb.2.1
  have g2 := hb.2.2.1
  obtain ⟨wb, hwb⟩ : ∃ wb, wb = w.alloc (.cells #[.int .i64 2, .int .i64 i, .int .i64 f, .int .i64 t, .int .i64 a] 25) := ⟨_, rfl⟩
  have x0 : Ext w wb := by rw [hwb]; exact Ext.alloc (Ext.refl _) _
  rw [← hwb] at g1 g2
  have HW := Lib.hid hwb
  clear hwb hb
  go_enter Tryd.func36, Tryd.ntmps36
  go_wp2
  rw [← HW.out]
  go_region_held3 (fun W => Ext wb W ∧ W.cell? ⟨w.heap.size, 1, none⟩ = some (.int .i64 i) ∧ W.cell? ⟨w.heap.size, 2, none⟩ = some (.int .i64 f)) (first | (exact step2 (by assumption) (by assumption)) | (exact ⟨Ext.drew (Ext.refl _), g1, g2⟩)) (first | (go_at_call_of 65 (Value.int IntKind.i64 i); refine (CI.out _).mono ?_; rintro e W ⟨rfl, x⟩) | (go_at_call_of 65 (Value.int IntKind.i64 f); refine (CF.out _).mono ?_; rintro e W ⟨rfl, x⟩))
  rename_i hH
  have hx : Ext w W := x0.trans hH.1
  clear hH x b1 b2 b3 g1 g2 x0
  go_wp2
  go_ret
  exact ⟨rfl, hx⟩

set_option maxRecDepth 100000 in
set_option maxHeartbeats 4000000 in
theorem l2Text_move (i f t a : Int) (w : World) (hi : 0 ≤ i ∧ i ≤ 99999) (hf : 0 ≤ f ∧ f ≤ 99999) (ht : 0 ≤ t ∧ t ≤ 99999) (ha : 0 ≤ a ∧ a ≤ 99999) :
    Calls Tryd.prog 36 #[.agg #[.int .i64 1, .int .i64 i, .int .i64 f, .int .i64 t, .int .i64 a]] w (StrExt (textM i f t a) w) := by
  have hli := decI_len hi.2
  have ci := num_at i hi.1 hi.2
  have hlf := decI_len hf.2
  have cf := num_at f hf.1 hf.2
  have hlt := decI_len ht.2
  have ct := num_at t ht.1 ht.2
  have hla := decI_len ha.2
  have ca := num_at a ha.1 ha.2
  unfold textM
  obtain ⟨x, hx⟩ : ∃ x, x = decI i := ⟨_, rfl⟩
  rw [← hx] at hli ci
  obtain ⟨y, hy⟩ : ∃ x, x = decI f := ⟨_, rfl⟩
  rw [← hy] at hlf cf
  obtain ⟨z, hz⟩ : ∃ x, x = decI t := ⟨_, rfl⟩
  rw [← hz] at hlt ct
  obtain ⟨u, hu⟩ : ∃ x, x = decI a := ⟨_, rfl⟩
  rw [← hu] at hla ca
  rw [← hx, ← hy, ← hz, ← hu]
  have Ci := Lib.hid ci
  have Cf := Lib.hid cf
  have Ct := Lib.hid ct
  have Ca := Lib.hid ca
  obtain ⟨p1, h1⟩ : ∃ p, p = ([109, 111, 118, 101, 32] : List UInt8) ++ x := ⟨_, rfl⟩
  have hl1 : p1.length ≤ 25 := by rw [h1]; simp; omega
  have b1 : ∀ W : World, (Op.stringOp .add ⟨#[109, 111, 118, 101, 32]⟩ ⟨x.toArray⟩).run Tryd.prog W = .ok (.string ⟨p1.toArray⟩) W := fun W => by rw [h1]; exact cat_run W ([109, 111, 118, 101, 32] : List UInt8) x (by first | omega | (simp; omega))
  obtain ⟨p2, h2⟩ : ∃ p, p = p1 ++ ([32] : List UInt8) := ⟨_, rfl⟩
  have hl2 : p2.length ≤ 26 := by rw [h2]; simp; omega
  have b2 : ∀ W : World, (Op.stringOp .add ⟨p1.toArray⟩ ⟨#[32]⟩).run Tryd.prog W = .ok (.string ⟨p2.toArray⟩) W := fun W => by rw [h2]; exact cat_run W p1 ([32] : List UInt8) (by first | omega | (simp; omega))
  obtain ⟨p3, h3⟩ : ∃ p, p = p2 ++ y := ⟨_, rfl⟩
  have hl3 : p3.length ≤ 46 := by rw [h3]; simp; omega
  have b3 : ∀ W : World, (Op.stringOp .add ⟨p2.toArray⟩ ⟨y.toArray⟩).run Tryd.prog W = .ok (.string ⟨p3.toArray⟩) W := fun W => by rw [h3]; exact cat_run W p2 y (by first | omega | (simp; omega))
  obtain ⟨p4, h4⟩ : ∃ p, p = p3 ++ ([32] : List UInt8) := ⟨_, rfl⟩
  have hl4 : p4.length ≤ 47 := by rw [h4]; simp; omega
  have b4 : ∀ W : World, (Op.stringOp .add ⟨p3.toArray⟩ ⟨#[32]⟩).run Tryd.prog W = .ok (.string ⟨p4.toArray⟩) W := fun W => by rw [h4]; exact cat_run W p3 ([32] : List UInt8) (by first | omega | (simp; omega))
  obtain ⟨p5, h5⟩ : ∃ p, p = p4 ++ z := ⟨_, rfl⟩
  have hl5 : p5.length ≤ 67 := by rw [h5]; simp; omega
  have b5 : ∀ W : World, (Op.stringOp .add ⟨p4.toArray⟩ ⟨z.toArray⟩).run Tryd.prog W = .ok (.string ⟨p5.toArray⟩) W := fun W => by rw [h5]; exact cat_run W p4 z (by first | omega | (simp; omega))
  obtain ⟨p6, h6⟩ : ∃ p, p = p5 ++ ([32] : List UInt8) := ⟨_, rfl⟩
  have hl6 : p6.length ≤ 68 := by rw [h6]; simp; omega
  have b6 : ∀ W : World, (Op.stringOp .add ⟨p5.toArray⟩ ⟨#[32]⟩).run Tryd.prog W = .ok (.string ⟨p6.toArray⟩) W := fun W => by rw [h6]; exact cat_run W p5 ([32] : List UInt8) (by first | omega | (simp; omega))
  obtain ⟨p7, h7⟩ : ∃ p, p = p6 ++ u := ⟨_, rfl⟩
  have hl7 : p7.length ≤ 88 := by rw [h7]; simp; omega
  have b7 : ∀ W : World, (Op.stringOp .add ⟨p6.toArray⟩ ⟨u.toArray⟩).run Tryd.prog W = .ok (.string ⟨p7.toArray⟩) W := fun W => by rw [h7]; exact cat_run W p6 u (by first | omega | (simp; omega))
  rw [← h1, ← h2, ← h3, ← h4, ← h5, ← h6, ← h7]
  clear hx hy hz hu ci cf ct ca hi hf ht ha h1 h2 h3 h4 h5 h6 h7
  have hb := cmdAt_new w 25 1 i f t a
  have g1 := hb.2.1
  have g2 := hb.2.2.1
  have g3 := hb.2.2.2.1
  have g4 := hb.2.2.2.2
  obtain ⟨wb, hwb⟩ : ∃ wb, wb = w.alloc (.cells #[.int .i64 1, .int .i64 i, .int .i64 f, .int .i64 t, .int .i64 a] 25) := ⟨_, rfl⟩
  have x0 : Ext w wb := by rw [hwb]; exact Ext.alloc (Ext.refl _) _
  rw [← hwb] at g1 g2 g3 g4
  have HW := Lib.hid hwb
  clear hwb hb
  go_enter Tryd.func36, Tryd.ntmps36
  go_wp2
  rw [← HW.out]
  go_region_held3 (fun W => Ext wb W ∧ W.cell? ⟨w.heap.size, 1, none⟩ = some (.int .i64 i) ∧ W.cell? ⟨w.heap.size, 2, none⟩ = some (.int .i64 f) ∧ W.cell? ⟨w.heap.size, 3, none⟩ = some (.int .i64 t) ∧ W.cell? ⟨w.heap.size, 4, none⟩ = some (.int .i64 a)) (first | (exact step4 (by assumption) (by assumption)) | (exact ⟨Ext.drew (Ext.refl _), g1, g2, g3, g4⟩)) (first | (go_at_call_of 65 (Value.int IntKind.i64 i); refine (Ci.out _).mono ?_; rintro e W ⟨rfl, x⟩) | (go_at_call_of 65 (Value.int IntKind.i64 f); refine (Cf.out _).mono ?_; rintro e W ⟨rfl, x⟩) | (go_at_call_of 65 (Value.int IntKind.i64 t); refine (Ct.out _).mono ?_; rintro e W ⟨rfl, x⟩) | (go_at_call_of 65 (Value.int IntKind.i64 a); refine (Ca.out _).mono ?_; rintro e W ⟨rfl, x⟩))
  rename_i hH
  have hx : Ext w W := x0.trans hH.1
  clear hH x b1 b2 b3 b4 b5 b6 b7 g1 g2 g3 g4 x0
  go_wp2
  go_ret
  exact ⟨rfl, hx⟩

set_option maxHeartbeats 1000000 in
theorem l2Text_none (w : World) :
    Calls Tryd.prog 36 #[.agg #[.int .i64 0, .int .i64 0, .int .i64 0, .int .i64 0, .int .i64 0]] w (StrExt [45] w) := by
  go_enter Tryd.func36, Tryd.ntmps36
  go_wp2
  go_ret
  exact ⟨rfl, Ext.alloc (Ext.refl _) _⟩

/-- The text of a command, where it is good. -/
def textOf (k i f t a : Int) : List UInt8 := if k == 1 then textM i f t a else if k == 2 then textR i f else [45]
theorem inB_of {n lo hi : Int} (h : inB n lo hi = true) : lo ≤ n ∧ n ≤ hi := by unfold inB at h; simpa using h

theorem l2Text_good (k i f t a : Int) (w : World) (hg : goodB k i f t a = true) :
    Calls Tryd.prog 36 #[.agg #[.int .i64 k, .int .i64 i, .int .i64 f, .int .i64 t, .int .i64 a]] w (StrExt (textOf k i f t a) w) := by
  rcases goodB_cases hg with ⟨rfl, rfl, rfl, rfl, rfl⟩ | ⟨rfl, hc⟩ | ⟨rfl, hc, rfl, rfl⟩
  · exact l2Text_none w
  · obtain ⟨hf, ht, _, hi, ha⟩ := codeM_good hc
    have hi' := inB_of hi
    have ha' := inB_of ha
    exact l2Text_move i f t a w (by omega) (by omega) (by omega) (by omega)
  · obtain ⟨hf, hi⟩ := codeR_good hc
    have hi' := inB_of hi
    exact l2Text_read i f 0 0 w (by omega) (by omega)

def cmdText (k i f t a : Int) : List UInt8 := if goodB k i f t a then textOf k i f t a else []
theorem cmdText_good {k i f t a : Int} (h : goodB k i f t a = true) : cmdText k i f t a = textOf k i f t a := by unfold cmdText; rw [h]; rfl
theorem cmdText_bad {k i f t a : Int} (h : goodB k i f t a = false) : cmdText k i f t a = [] := by unfold cmdText; rw [h]; rfl

set_option maxHeartbeats 1000000 in
theorem specText_any (k i f t a : Int) (w : World) :
    Calls Tryd.prog 10 #[.agg #[.int .i64 k, .int .i64 i, .int .i64 f, .int .i64 t, .int .i64 a]] w (TwoStr (cmdText k i f t a) (goodB k i f t a) w) := by
  cases hg : goodB k i f t a with
  | false =>
    rw [cmdText_bad hg]
    have HG := Lib.hid hg
    clear hg
    go_enter Tryd.func10, Tryd.ntmps10
    go_wp2_with fail
    refine (specGood_any _ _ _ _ _ _).mono ?_
    rintro e w1 ⟨rfl, x1⟩
    rw [HG.out]
    go_wp2
    go_ret2
    exact ⟨rfl, (Ext.alloc (Ext.refl _) _).trans x1⟩
  | true =>
    rw [cmdText_good hg]
    have HG := Lib.hid hg
    clear hg
    go_enter Tryd.func10, Tryd.ntmps10
    go_wp2_with fail
    refine (specGood_any _ _ _ _ _ _).mono ?_
    rintro e w1 ⟨rfl, x1⟩
    rw [HG.out]
    obtain ⟨c0, c1, c2, c3, c4⟩ := (cmdAt_new w 25 k i f t a).ext x1
    go_wp2_with fail
    refine (l2Text_good _ _ _ _ _ _ HG.out).mono ?_
    rintro e w2 ⟨rfl, x2⟩
    have hx : Ext w w2 := ((Ext.alloc (Ext.refl _) _).trans x1).trans x2
    clear c0 c1 c2 c3 c4 x1 x2
    go_wp2
    go_ret2
    exact ⟨rfl, hx⟩

end Go.Proofs.YtfadmcgaojnghaaDoor
