/- What is proved: at every replica the function CrashOf of the program answers as its model does, its answer owns its memory, and it writes into no argument. Conditions: none. -/
import Derived.Test.YtbffkidkfannhaaRows
import Derived.Test.YtbffkidkfannhaaMGoodReplicaq
import Derived.Test.YtbffkidkfannhaaMGoodReplicam
import Derived.Test.YtbffkidkfannhaaMGoodReplicab
import Derived.Deep.DeepCutAuto
import Derived.WalkKit
import Derived.ProofKit
import Derived.OpenShut
import Derived.ShutString
import Derived.ChangeOld
import Derived.Below
namespace Go.Proofs.Ytbffkidkfannhaa.fnExactCrashOf
open Go.ChangeShapes Go.WideShapes Go.ChangeAt Go.RowKit
set_option linter.unusedVariables false

theorem own : ownKnob Try.prog.godebug = none := by kernel_rfl
theorem laidOut : laidOutB Try.prog = true := by kernel_rfl

/-! ### The walk: the law's text returns true, and nothing that was there is turned. -/
set_option maxHeartbeats 8000000 in
set_option maxRecDepth 100000 in
theorem walk (me n : Int) (v1 v2 : Value) (T : List (List RowD)) (L : List LeadD) (w : World) (w1 : wf64 me ∧ wf64 n ∧ Rowzz w v1 T ∧ Leadz w v2 L) :
    Calls Try.prog 4 #[.agg #[.int .i64 me, .int .i64 n, v1, v2]] w fun e w' => e = .returned (.bool true) ∧ Ext w w' := by
  obtain ⟨_, _, hA, hZ⟩ := w1
  have x0 : Ext w (w.alloc (.cells #[.int .i64 me, .int .i64 n, v1, v2] 27)) := Ext.alloc (Ext.refl _) _
  have b0 := boxV_new w [.int .i64 me, .int .i64 n, v1, v2] 27
  obtain ⟨wb, hwb⟩ : ∃ wb, wb = w.alloc (.cells #[.int .i64 me, .int .i64 n, v1, v2] 27) := ⟨_, rfl⟩
  have b0 : BoxV wb w.heap.size [.int .i64 me, .int .i64 n, v1, v2] := by rw [hwb]; exact b0
  rw [← hwb] at x0
  have HW := Lib.hid hwb
  have HB := Lib.hid b0
  have HA := Lib.hid (hA.ext x0)
  have HZ := Lib.hid (hZ.ext x0)
  have X0 := Lib.hid x0
  clear hwb b0 hA hZ x0
  have c0 := HB.out.cell 0 _ rfl
  have c1 := HB.out.cell 1 _ rfl
  have c2 := HB.out.cell 2 _ rfl
  have c3 := HB.out.cell 3 _ rfl
  by_cases h1 : (1048576 : Int) < (bulkT T + bulkL L : Nat)
  · have L1 := Lib.hid (lessened_no h1)
    clear h1
    go_enter Try.func4, Try.ntmps4
    rw [HW.out] at c0 c1 c2 c3
    go_wp2_with fail
    rw [← HW.out]
    refine (szReplica_any _ _ _ _ _ _ _ _ HA.out HZ.out (by omega) (by omega)).mono ?_
    rintro e W1 ⟨rfl, x1⟩
    rw [L1.out]
    have y1 := X0.out.trans x1
    clear x1 c0 c1 c2 c3
    go_wp2
    go_ret
    exact ⟨rfl, y1⟩
  · obtain ⟨r, hr⟩ : ∃ r, r = (1048576 : Int) - (bulkT T + bulkL L : Nat) := ⟨_, rfl⟩
    have hr0 : 0 ≤ r := by omega
    have hl : bulkT T ≤ 1048576 ∧ bulkL L ≤ 1048576 := by omega
    have L1 : Hid (lessened 1048576 (bulkT T + bulkL L) = r) := Lib.hid (by rw [hr]; exact lessened_yes (by omega))
    have HL := Lib.hid hl
    have HL1 : Hid (bulkT T ≤ 1099511627776) := Lib.hid (Nat.le_trans hl.1 (by omega))
    have HL2 : Hid (bulkL L ≤ 549755813888) := Lib.hid (Nat.le_trans hl.2 (by omega))
    obtain ⟨d, hd⟩ : ∃ d, d = crashD me n T L := ⟨_, rfl⟩
    have DL : Hid (bulkT d.T ≤ 10995116277) := Lib.hid (by rw [hd]; have := crashD_le me n T L; omega)
    have cS : ∀ u v W, Rowzz W u T → Leadz W v L → Calls Try.prog 11 #[.agg #[.int .i64 me, .int .i64 n, u, v]] W (CrashS d W) := fun u v W h h' => by rw [hd]; exact specCrash_any _ _ _ _ _ _ _ h h'
    have cI : ∀ u v W, Rowzz W u T → Leadz W v L → Calls Try.prog 12 #[.agg #[.int .i64 me, .int .i64 n, u, v]] W (CrashI d W) := fun u v W h h' => by rw [hd]; exact implCrash_any _ _ _ _ _ _ _ h h' HL1.out HL2.out
    have CS := Lib.hid cS
    have CI := Lib.hid cI
    clear cS cI hd h1 hr hl
    obtain ⟨M, N, D, b⟩ := d
    dsimp only at DL
    obtain ⟨ms, hms⟩ : ∃ ms, ms = (1 : Int) + ((weighs D).sum : Int) := ⟨_, rfl⟩
    have hm0 : 1 ≤ ms := by omega
    have CM : Hid (∀ lo hi u W, AnsW lo hi W u D → hi ≤ W.heap.size → Calls Try.prog 13 #[.agg #[.int .i64 M, .int .i64 N, u, .slice none 0 0], .int .i64 1] W (fun e w' => e = .returned (.int .i64 ms) ∧ AnsM w' u D ∧ Ins lo hi W w')) := Lib.hid fun lo hi u W h hh => by rw [hms]; exact ansW_mark h hh DL.out
    have CH : Hid (∀ u W, AnsM W u D → Calls Try.prog 14 #[.agg #[.int .i64 M, .int .i64 N, u, .slice none 0 0], .int .i64 1] W (IntExt ms W)) := Lib.hid fun u W h => by rw [hms]; exact ansM_held h DL.out
    clear hms
    have nb : (b != b) = false := by simp
    have nm : (ms != ms) = false := by simp
    have nd : decide (ms < 0) = false := decide_eq_false (by omega)
    go_enter Try.func4, Try.ntmps4
    rw [HW.out] at c0 c1 c2 c3
    go_wp2_with fail
    rw [← HW.out]
    refine (szReplica_any _ _ _ _ _ _ _ _ HA.out HZ.out (by omega) (by omega)).mono ?_
    rintro e W1 ⟨rfl, x1⟩
    rw [L1.out]
    clear c0 c1 c2 c3
    have c0 := (HB.out.ext x1).cell 0 _ rfl
    have c1 := (HB.out.ext x1).cell 1 _ rfl
    have c2 := (HB.out.ext x1).cell 2 _ rfl
    have c3 := (HB.out.ext x1).cell 3 _ rfl
    go_wp2_with fail
    refine (toReplica_any _ _ _ _ T L _ (HA.out.ext x1) (HZ.out.ext x1) HL1.out HL2.out).mono ?_
    rintro e W2 ⟨u2, z2, rfl, f2, g2, x2⟩
    clear c0 c1 c2 c3
    go_wp2_with fail
    refine (CS.out _ _ _ f2 g2).mono ?_
    rintro e W3 ⟨us, rfl, fs, x3⟩
    obtain ⟨ao, ks, rfl, _⟩ := id fs
    have x3a : Ext W3 (W3.alloc (.cells #[.int .i64 M, .int .i64 N, (.slice ao D.length ks), .slice none 0 0] 35)) := Ext.alloc1 _ _
    have y3 : Ext wb (W3.alloc (.cells #[.int .i64 M, .int .i64 N, (.slice ao D.length ks), .slice none 0 0] 35)) := ((x1.trans x2).trans x3).trans x3a
    have BW3 := Lib.hid (boxV_new W3 [.int .i64 M, .int .i64 N, (.slice ao D.length ks), .slice none 0 0] 35)
    have S3 := Lib.hid (fs.ext x3a)
    have c0 := (HB.out.ext y3).cell 0 _ rfl
    have c1 := (HB.out.ext y3).cell 1 _ rfl
    have c2 := (HB.out.ext y3).cell 2 _ rfl
    have c3 := (HB.out.ext y3).cell 3 _ rfl
    have Y3 := Lib.hid y3
    clear f2 g2 x1 x2 x3 fs x3a y3
    go_wp2_with fail
    refine (toReplica_new _ _ _ _ T L _ (HA.out.ext Y3.out) (HZ.out.ext Y3.out) HL1.out HL2.out).mono ?_
    obtain ⟨wc, hwc⟩ : ∃ wc, wc = W3.alloc (.cells #[.int .i64 M, .int .i64 N, (.slice ao D.length ks), .slice none 0 0] 35) := ⟨_, rfl⟩
    have BW : BoxV wc W3.heap.size [.int .i64 M, .int .i64 N, (.slice ao D.length ks), .slice none 0 0] := by rw [hwc]; exact BW3.out
    have Sc : Rowzz wc (.slice ao D.length ks) D := by rw [hwc]; exact S3.out
    have Yc : Ext wb wc := by rw [hwc]; exact Y3.out
    rw [← hwc] at c0 c1 c2 c3 ⊢
    have BW := Lib.hid BW
    have Sc := Lib.hid Sc
    have Yc := Lib.hid Yc
    clear hwc BW3 S3 Y3 c0 c1 c2 c3
    rintro e W4 ⟨u4, z4, rfl, f4, x4⟩
    obtain ⟨a4, k4, rfl⟩ : ∃ a k, u4 = .slice a T.length k := by obtain ⟨_, _, _, h, _⟩ := f4; exact h.form
    obtain ⟨a5, k5, rfl⟩ : ∃ a k, z4 = .slice a L.length k := by obtain ⟨_, _, _, _, h⟩ := f4; exact h.form
    have x45 : Ext W4 (W4.alloc (.cells #[.int .i64 me, .int .i64 n, .slice a4 T.length k4, .slice a5 L.length k5] 35)) := Ext.alloc1 _ _
    have B4 := Lib.hid (boxV_new W4 [.int .i64 me, .int .i64 n, .slice a4 T.length k4, .slice a5 L.length k5] 35)
    have G4 := Lib.hid (f4.kept (Stood.of_ext x45 (Nat.le_refl _)))
    have X4 := Lib.hid (x4.trans x45)
    have Z4 : Hid (wc.heap.size ≤ W4.heap.size ∧ W4.heap.size ≤ (W4.alloc (.cells #[.int .i64 me, .int .i64 n, .slice a4 T.length k4, .slice a5 L.length k5] 35)).heap.size) := Lib.hid ⟨x4.size, x45.size⟩
    have R4 : Hid (Rowzz (W4.alloc (.cells #[.int .i64 me, .int .i64 n, .slice a4 T.length k4, .slice a5 L.length k5] 35)) (.slice a4 T.length k4) T ∧ Leadz (W4.alloc (.cells #[.int .i64 me, .int .i64 n, .slice a4 T.length k4, .slice a5 L.length k5] 35)) (.slice a5 L.length k5) L) := Lib.hid (by obtain ⟨_, _, _, h1, h2⟩ := G4.out; exact ⟨h1.rows, h2.reads⟩)
    clear f4 x4 x45
    go_wp2_with fail
    refine (CI.out _ _ _ R4.out.1 R4.out.2).mono ?_
    obtain ⟨wx, hwx⟩ : ∃ wx, wx = W4.alloc (.cells #[.int .i64 me, .int .i64 n, .slice a4 T.length k4, .slice a5 L.length k5] 35) := ⟨_, rfl⟩
    rw [← hwx] at B4 G4 X4 Z4 R4 ⊢
    clear hwx
    rintro e W5 ⟨ui, rfl, fg, x5⟩
    obtain ⟨ai, rfl⟩ := fg.form
    have x56 : Ext W5 (W5.alloc (.cells #[.int .i64 M, .int .i64 N, .slice ai D.length D.length, .slice none 0 0] 35)) := Ext.alloc1 _ _
    have B5 := Lib.hid (boxV_new W5 [.int .i64 M, .int .i64 N, .slice ai D.length D.length, .slice none 0 0] 35)
    have F5 := Lib.hid (fg.ext x56)
    have X5 := Lib.hid (x5.trans x56)
    have Z5 : Hid (wx.heap.size ≤ W5.heap.size ∧ W5.heap.size ≤ (W5.alloc (.cells #[.int .i64 M, .int .i64 N, .slice ai D.length D.length, .slice none 0 0] 35)).heap.size) := Lib.hid ⟨x5.size, x56.size⟩
    have hb := BW.out.ext (X4.out.trans X5.out)
    have c0 := hb.cell 0 _ rfl
    have c1 := hb.cell 1 _ rfl
    have c2 := hb.cell 2 _ rfl
    have c3 := hb.cell 3 _ rfl
    clear fg x5 x56 hb
    go_wp2_with fail
    refine (eqReplica_nil _ _ _ _ D _ F5.out.reads (Sc.out.ext (X4.out.trans X5.out))).mono ?_
    obtain ⟨wg, hwg⟩ : ∃ wg, wg = W5.alloc (.cells #[.int .i64 M, .int .i64 N, .slice ai D.length D.length, .slice none 0 0] 35) := ⟨_, rfl⟩
    rw [← hwg] at B5 F5 X5 Z5 ⊢
    clear hwg c0 c1 c2 c3
    rintro e W6 ⟨rfl, x6⟩
    have X6 := Lib.hid (X5.out.trans x6)
    have B6 := Lib.hid (B5.out.ext x6)
    have F6 := Lib.hid (F5.out.ext x6)
    have Y6 := Lib.hid (Yc.out.trans (X4.out.trans X6.out))
    have ZZ : Hid (W5.heap.size ≤ W6.heap.size) := Lib.hid (Nat.le_trans Z5.out.2 x6.size)
    have c0 := (HB.out.ext Y6.out).cell 0 _ rfl
    have c1 := (HB.out.ext Y6.out).cell 1 _ rfl
    have c2 := (HB.out.ext Y6.out).cell 2 _ rfl
    have c3 := (HB.out.ext Y6.out).cell 3 _ rfl
    have d0 := (B4.out.ext X6.out).cell 0 _ rfl
    have d1 := (B4.out.ext X6.out).cell 1 _ rfl
    have d2 := (B4.out.ext X6.out).cell 2 _ rfl
    have d3 := (B4.out.ext X6.out).cell 3 _ rfl
    have HI6 := Lib.hid (R4.out.1.ext X6.out)
    have HK6 := Lib.hid (R4.out.2.ext X6.out)
    have HJ6 := Lib.hid (HA.out.ext Y6.out)
    have HM6 := Lib.hid (HZ.out.ext Y6.out)
    clear x6 X5 B5 F5
    go_wp2
    go_region_held3 (fun W => Ext W6 W ∧ W.cell? ⟨w.heap.size, 0, none⟩ = some (.int .i64 me) ∧ W.cell? ⟨w.heap.size, 1, none⟩ = some (.int .i64 n) ∧ W.cell? ⟨w.heap.size, 2, none⟩ = some v1 ∧ W.cell? ⟨w.heap.size, 3, none⟩ = some v2 ∧ W.cell? ⟨W4.heap.size, 0, none⟩ = some (.int .i64 me) ∧ W.cell? ⟨W4.heap.size, 1, none⟩ = some (.int .i64 n) ∧ W.cell? ⟨W4.heap.size, 2, none⟩ = some (.slice a4 T.length k4) ∧ W.cell? ⟨W4.heap.size, 3, none⟩ = some (.slice a5 L.length k5)) (first | (with_reducible exact keep8 (by assumption) (by assumption)) | (exact ⟨Ext.drew (Ext.refl _), c0, c1, c2, c3, d0, d1, d2, d3⟩)) (first | (go_at_call 8; refine (toReplica_any _ _ _ _ _ _ _ (HJ6.out.ext (And.left (by assumption))) (HM6.out.ext (And.left (by assumption))) HL1.out HL2.out).mono ?_; rintro e W71 ⟨u6, z6, rfl, f6, g6, x71⟩) | (go_at_call 10; refine (eqReplica_same _ _ _ _ _ _ T L _ (HI6.out.ext (And.left (by assumption))) (HK6.out.ext (And.left (by assumption))) (by assumption) (by assumption)).mono ?_; rintro e W7 ⟨rfl, x7⟩))
    rename_i hH
    have X7 := Lib.hid (X6.out.trans hH.1)
    have F7 := Lib.hid (F6.out.ext hH.1)
    have B7 := Lib.hid (B6.out.ext hH.1)
    have Z7 : Hid (W5.heap.size ≤ W7.heap.size ∧ wx.heap.size ≤ W7.heap.size) := Lib.hid ⟨Nat.le_trans ZZ.out hH.1.size, (X6.out.trans hH.1).size⟩
    clear hH x71 x7 f6 g6 c0 c1 c2 c3 d0 d1 d2 d3 X6 F6 B6 HI6 HK6 HJ6 HM6 Y6
    have d0 := (B4.out.ext X7.out).cell 0 _ rfl
    have d1 := (B4.out.ext X7.out).cell 1 _ rfl
    have d2 := (B4.out.ext X7.out).cell 2 _ rfl
    have d3 := (B4.out.ext X7.out).cell 3 _ rfl
    go_wp2_with fail
    refine (markReplica_any wc.heap.size W4.heap.size me n _ _ T L 1 _ (G4.out.kept (Stood.of_ext X7.out Z4.out.2)) (Nat.le_trans Z4.out.2 Z7.out.2) (by omega) (by omega) HL.out.1 HL.out.2).mono ?_
    rintro e W8 ⟨kk, rfl, kn, i8⟩
    clear d0 d1 d2 d3
    have F8 := Lib.hid (F7.out.ins i8 Z4.out.2)
    have B8 := Lib.hid (B7.out.ins' i8 (.inr (Nat.le_trans Z4.out.2 Z5.out.1)))
    have Y8 := Lib.hid (i8.ext (X4.out.trans X7.out) (Nat.le_refl _))
    have Z8 : Hid (W5.heap.size ≤ W8.heap.size) := Lib.hid (Nat.le_trans Z7.out.1 i8.size)
    have kd : decide (kk < 0) = false := decide_eq_false (by omega)
    have d0 := B8.out.cell 0 _ rfl
    have d1 := B8.out.cell 1 _ rfl
    have d2 := B8.out.cell 2 _ rfl
    have d3 := B8.out.cell 3 _ rfl
    have c0 := (BW.out.ext Y8.out).cell 0 _ rfl
    have c1 := (BW.out.ext Y8.out).cell 1 _ rfl
    have c2 := (BW.out.ext Y8.out).cell 2 _ rfl
    have c3 := (BW.out.ext Y8.out).cell 3 _ rfl
    clear i8 X7 F7 B7
    go_wp2_with fail
    refine (eqReplica_nil _ _ _ _ D _ F8.out.reads (Sc.out.ext Y8.out)).mono ?_
    rintro e W9 ⟨rfl, x9⟩
    have F9 := Lib.hid (F8.out.ext x9)
    have B9 := Lib.hid (B8.out.ext x9)
    have Y9 := Lib.hid (Y8.out.trans x9)
    have Z9 : Hid (W5.heap.size ≤ W9.heap.size) := Lib.hid (Nat.le_trans Z8.out x9.size)
    clear x9 F8 B8 Y8 c0 c1 c2 c3 d0 d1 d2 d3
    have d0 := B9.out.cell 0 _ rfl
    have d1 := B9.out.cell 1 _ rfl
    have d2 := B9.out.cell 2 _ rfl
    have d3 := B9.out.cell 3 _ rfl
    go_wp2_with fail
    refine (CM.out _ _ _ _ F9.out Z9.out).mono ?_
    rintro e W10 ⟨rfl, h10, i10⟩
    have H10 := Lib.hid h10
    have B10 := Lib.hid (B9.out.ins' i10 (.inr (Nat.le_refl _)))
    have Y10 := Lib.hid (i10.ext Y9.out (Nat.le_trans Z4.out.1 Z4.out.2))
    clear h10 i10 F9 B9 Y9 d0 d1 d2 d3
    have d0 := B10.out.cell 0 _ rfl
    have d1 := B10.out.cell 1 _ rfl
    have d2 := B10.out.cell 2 _ rfl
    have d3 := B10.out.cell 3 _ rfl
    go_wp2_with fail
    refine (CH.out _ _ H10.out).mono ?_
    rintro e W11 ⟨rfl, x11⟩
    have X11 := Lib.hid x11
    have Y11 := Lib.hid (Yc.out.trans (Y10.out.trans x11))
    clear x11 d0 d1 d2 d3
    have c0 := (HB.out.ext Y11.out).cell 0 _ rfl
    have c1 := (HB.out.ext Y11.out).cell 1 _ rfl
    have c2 := (HB.out.ext Y11.out).cell 2 _ rfl
    have c3 := (HB.out.ext Y11.out).cell 3 _ rfl
    go_wp2_with fail
    refine (toReplica_any _ _ _ _ T L _ (HA.out.ext Y11.out) (HZ.out.ext Y11.out) HL1.out HL2.out).mono ?_
    rintro e W12 ⟨u12, z12, rfl, f12, g12, x12⟩
    clear c0 c1 c2 c3
    go_wp2_with fail
    refine (CI.out _ _ _ f12 g12).mono ?_
    rintro e W13 ⟨u13, rfl, f13, x13⟩
    obtain ⟨aj, rfl⟩ := f13.form
    have x14 : Ext W13 (W13.alloc (.cells #[.int .i64 M, .int .i64 N, .slice aj D.length D.length, .slice none 0 0] 35)) := Ext.alloc1 _ _
    have X13 := Lib.hid (((X11.out.trans x12).trans x13).trans x14)
    have R13 := Lib.hid (f13.reads.ext x14)
    have hb := BW.out.ext (Y10.out.trans X13.out)
    have c0 := hb.cell 0 _ rfl
    have c1 := hb.cell 1 _ rfl
    have c2 := hb.cell 2 _ rfl
    have c3 := hb.cell 3 _ rfl
    clear f12 g12 f13 x12 x13 x14 hb
    go_wp2_with fail
    refine (eqReplica_nil _ _ _ _ D _ R13.out (Sc.out.ext (Y10.out.trans X13.out))).mono ?_
    rintro e W14 ⟨rfl, x14⟩
    have X14 := Lib.hid (X13.out.trans x14)
    clear x14 c0 c1 c2 c3
    have hb := B10.out.ext X14.out
    have d0 := hb.cell 0 _ rfl
    have d1 := hb.cell 1 _ rfl
    have d2 := hb.cell 2 _ rfl
    have d3 := hb.cell 3 _ rfl
    clear hb
    go_wp2_with fail
    refine (CH.out _ _ (H10.out.ext X14.out)).mono ?_
    rintro e W15 ⟨rfl, x15⟩
    have e15 : Ext w W15 := X0.out.trans (Yc.out.trans (Y10.out.trans (X14.out.trans x15)))
    clear x15 d0 d1 d2 d3
    go_wp2
    go_ret
    exact ⟨rfl, e15⟩

/-! ### The frame -/
set_option maxRecDepth 100000 in
theorem lifted (os : Os) (started : os.Started) (H : Type) (enc : TypeId × Value → H) :
    ReturnsInHanded {} Try.checked os 4 .any (Rows.fnExactCrashOfSpec.pre6 enc Try.prog Try.f4 Rows.fnExactCrashOfRow.domain false) (Rows.fnExactCrashOfSpec.post enc Try.prog Try.f4 false true false false) := by
  refine returnsInHanded_of_change (C := Try.checked) own started (by kernel_rfl) Try.func4
    (ChangeSpec.witness6 (enc := enc) (C := Try.checked) false ⟨#[], #[.agg #[.int .i64 0, .int .i64 0, .slice none 0 0, .slice none 0 0]], []⟩ 8 (by kernel_rfl) (by kernel_rfl) (by kernel_rfl) (by kernel_rfl)) ?_
  intro W base args ds gs before hval0 hW hcnd _
  have hval : ∀ (j : Nat) t v, Try.f4.params[j]? = some t → args[j]? = some v → Value.okWide Try.prog W .any base t v := hval0
  have hW' := hW
  obtain ⟨p, q, hA0, hV, rfl, hfz, hnd⟩ := hW
  have hA : DataW.TrodAll enc Try.prog W 0 (fun _ => true) true Try.f4.params.toList args.toList ds p := hA0
  rw [Try.params4] at hA hval
  obtain ⟨v0, vs0, d0, ds0, p0, q0, hargs, rfl, rfl, h0, r0⟩ := trodAll_cons hA
  obtain ⟨rfl, rfl, rfl⟩ := trodAll_nil r0
  obtain rfl : args = #[v0] := by cases args; simp_all
  obtain ⟨rfl, rfl⟩ := trodVars_none hV
  have k0 := h0
  have lt0 : ∀ x ∈ p0, x.block < W.heap.size := by obtain ⟨m, hm⟩ := k0; exact DataW.trod_lt m _ _ _ hm
  obtain ⟨m0, n0, u0, z0, l0, e0, rfl, w0⟩ := open_rep (hval 0 27 v0 rfl rfl) h0
  clear hA0 hval0
  refine (walk m0 n0 u0 z0 l0 e0 W w0).mono fun e W' ⟨he, bel⟩ => ?_
  subst he
  exact ⟨_, rfl, _, _, _, [], _, [], hW', trodAll_mk1 (shut_bool Try.underlying4 _), (trodAll_cons_mk (Below.trod laidOut (by kernel_rfl) (of_decide_eq_true (by kernel_rfl)) k0 bel lt0) trodAll_mk0), rfl, bel.frame _, fun h => by cases h⟩

theorem over : Rows.fnExactCrashOfRow.holds Try.pinned (OpenSpec.ofChange Rows.fnExactCrashOfSpec) :=
  OpenClaim.holds_of_wide 4 Try.f4 rfl rfl rfl rfl rfl rfl rfl ⟨rfl, rfl, rfl, rfl, rfl⟩ rfl rfl rfl rfl rfl (by kernel_rfl) Try.func4 (by kernel_rfl)
    (of_decide_eq_true (by kernel_rfl)) (by unfold Func.isWrapper; first | (rw [if_pos (by decide +kernel)]; kernel_rfl) | (rw [if_neg (by decide +kernel)]; exact ⟨rfl, rfl⟩))
    (fun os started H enc _ => lifted os started H enc)

/-- THE STATEMENT -/
theorem proved : Rows.FnExactCrashOfSaid := over
#print axioms proved
end Go.Proofs.Ytbffkidkfannhaa.fnExactCrashOf
