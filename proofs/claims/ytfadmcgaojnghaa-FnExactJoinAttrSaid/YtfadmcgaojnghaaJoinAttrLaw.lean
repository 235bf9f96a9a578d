/- What is proved: at every group size and two attributes the function JoinAttr of the program answers as its model does, both results, in memory of its own, and writes into no argument. Conditions: none. -/
import Derived.Test.YtfadmcgaojnghaaRows
import Derived.Test.YtfadmcgaojnghaaJoinLive
import Derived.Deep.DeepCutAuto
import Derived.Test.YtfadmcgaojnghaaFrameAttr
import Derived.WalkKit
import Derived.ProofKit
import Derived.OpenShut
import Derived.ShutString
import Derived.ChangeOld
import Derived.Below
namespace Go.Proofs.Ytfadmcgaojnghaa.fnExactJoinAttr
open Go.ChangeShapes Go.WideShapes Go.ChangeAt Go.RowKit
set_option linter.unusedVariables false

theorem own : ownKnob Try.prog.godebug = none := by kernel_rfl
theorem laidOut : laidOutB Try.prog = true := by kernel_rfl

/-! ### The walk: the law's text returns true, and nothing that was there is turned. -/
set_option maxRecDepth 100000 in
set_option maxHeartbeats 8000000 in
theorem walk (a0 : Int) (s0 : Int) (u0 : Value) (l0 : List Int) (s1 : Int) (u1 : Value) (l1 : List Int) (w : World) (w0 : wf64 a0) (w1 : wf64 s0 ∧ Ints w u0 l0 ∧ ∀ x ∈ l0, wf64 x) (w2 : wf64 s1 ∧ Ints w u1 l1 ∧ ∀ x ∈ l1, wf64 x) :
    Calls Try.prog 5 #[.int .i64 a0, .agg #[.int .i64 s0, u0], .agg #[.int .i64 s1, u1]] w fun e w' => e = .returned (.bool true) ∧ Ext w w' := by
  obtain ⟨_, hA0, _⟩ := w1
  obtain ⟨_, hB0, _⟩ := w2
  clear w0
  have HA0 := Lib.hid hA0
  have HB0 := Lib.hid hB0
  have xb : Ext w ((w.alloc (.cells #[.int .i64 s0, u0] 24)).alloc (.cells #[.int .i64 s1, u1] 24)) := Ext.alloc2 _ _ _
  have bb := box2 w s0 s1 u0 u1 24
  have zb : ((w.alloc (.cells #[.int .i64 s0, u0] 24)).alloc (.cells #[.int .i64 s1, u1] 24)).heap.size = w.heap.size + 2 := by simp
  obtain ⟨wb, hwb⟩ : ∃ wb, wb = (w.alloc (.cells #[.int .i64 s0, u0] 24)).alloc (.cells #[.int .i64 s1, u1] 24) := ⟨_, rfl⟩
  rw [← hwb] at xb bb zb
  have hA := hA0.ext xb
  have hB := hB0.ext xb
  obtain ⟨⟨c0, c1⟩, d0, d1⟩ := bb
  have HW := Lib.hid hwb
  have HX := Lib.hid xb
  have HZB := Lib.hid zb
  clear hwb xb zb hA0 hB0
  by_cases h1 : (1048576 : Int) < l0.length
  · have L1 := Lib.hid (lessened_no h1)
    clear h1
    go_enter Try.func5, Try.ntmps5
    go_wp2_with fail
    rw [← HW.out]
    refine (szAttr_any _ _ _ _ _ hA (by omega) (by omega)).mono ?_
    rintro e W1 ⟨rfl, x1⟩
    rw [L1.out]
    have y1 := HX.out.trans x1
    clear x1 c0 c1 d0 d1
    go_wp2
    go_ret
    exact ⟨rfl, y1⟩
  · obtain ⟨r, hr⟩ : ∃ r, r = (1048576 : Int) - l0.length := ⟨_, rfl⟩
    have hr0 : 0 ≤ r := by omega
    have hr1 : r ≤ 1048576 := by omega
    have hl0 : l0.length ≤ 1048576 := by omega
    have L1 : Hid (lessened 1048576 l0.length = r) := Lib.hid (by rw [hr]; exact lessened_yes (by omega))
    have HL0 := Lib.hid hl0
    clear h1 hr hl0
    by_cases h2 : r < l1.length
    · have L2 := Lib.hid (lessened_no h2)
      clear h2
      go_enter Try.func5, Try.ntmps5
      go_wp2_with fail
      rw [← HW.out]
      refine (szAttr_any _ _ _ _ _ hA (by omega) (by omega)).mono ?_
      rintro e W1 ⟨rfl, x1⟩
      rw [L1.out]
      have d0' := x1.cell d0
      have d1' := x1.cell d1
      clear c0 c1 d0 d1
      go_wp2_with fail
      refine (szAttr_any _ _ _ _ _ (hB.ext x1) hr0 (by omega)).mono ?_
      rintro e W2 ⟨rfl, x2⟩
      rw [L2.out]
      have y2 := (HX.out.trans x1).trans x2
      clear x1 x2 d0' d1'
      go_wp2
      go_ret
      exact ⟨rfl, y2⟩
    · obtain ⟨q, hq⟩ : ∃ q, q = r - (l1.length : Int) := ⟨_, rfl⟩
      have hq0 : 0 ≤ q := by omega
      have hl1 : l1.length ≤ 1048576 := by omega
      have L2 : Hid (lessened r l1.length = q) := Lib.hid (by rw [hq]; exact lessened_yes (by omega))
      have HL1 := Lib.hid hl1
      clear h2 hq hl1
      obtain ⟨ok, hok⟩ : ∃ x, x = joinOk a0 s0 s1 l0 l1 := ⟨_, rfl⟩
      obtain ⟨J, hJ⟩ : ∃ x, x = joinL a0 s0 s1 l0 l1 := ⟨_, rfl⟩
      obtain ⟨m, hm⟩ : ∃ x, x = joinS a0 s0 s1 l0 l1 := ⟨_, rfl⟩
      have hJl : J.length ≤ 5 := by rw [hJ]; exact joinL_len _ _ _ _ _
      have cS : ∀ u v W, Ints W u l0 → Ints W v l1 → Calls Try.prog 17 #[.int .i64 a0, .agg #[.int .i64 s0, u], .agg #[.int .i64 s1, v]] W (TwoAttr m J ok W) := fun u v W h h' => by rw [hm, hJ, hok]; exact specJoin_any _ _ _ _ _ _ _ _ h h'
      have cI : ∀ u v W, Ints W u l0 → Ints W v l1 → Calls Try.prog 18 #[.int .i64 a0, .agg #[.int .i64 s0, u], .agg #[.int .i64 s1, v]] W (TwoAttr m J ok W) := fun u v W h h' => by rw [hm, hJ, hok]; exact implJoin_any _ _ _ _ _ _ _ _ h h'
      have tA : ∀ W, Ints W u0 l0 → Calls Try.prog 10 #[.agg #[.int .i64 s0, u0]] W (NewAttr s0 l0 W) := fun W h => toAttr_any _ _ _ _ h (by have := HL0.out; omega)
      have tB : ∀ W, Ints W u1 l1 → Calls Try.prog 10 #[.agg #[.int .i64 s1, u1]] W (NewAttr s1 l1 W) := fun W h => toAttr_any _ _ _ _ h (by have := HL1.out; omega)
      have CS := Lib.hid cS
      have CI := Lib.hid cI
      have TA := Lib.hid tA
      have TB := Lib.hid tB
      have HJL := Lib.hid hJl
      clear cS cI tA tB hok hJ hm hJl
      have nok : (ok != ok) = false := by simp
      go_enter Try.func5, Try.ntmps5
      go_wp2_with fail
      rw [← HW.out]
      refine (szAttr_any _ _ _ _ _ hA (by omega) (by omega)).mono ?_
      rintro e W1 ⟨rfl, x1⟩
      rw [L1.out]
      have c0 := x1.cell c0
      have c1 := x1.cell c1
      have d0 := x1.cell d0
      have d1 := x1.cell d1
      go_wp2_with fail
      refine (szAttr_any _ _ _ _ _ (hB.ext x1) hr0 (by omega)).mono ?_
      rintro e W2 ⟨rfl, x2⟩
      rw [L2.out]
      have c0 := x2.cell c0
      have c1 := x2.cell c1
      have d0 := x2.cell d0
      have d1 := x2.cell d1
      have A2 := Lib.hid ((hA.ext x1).ext x2)
      have B2 := Lib.hid ((hB.ext x1).ext x2)
      have X2 := Lib.hid ((HX.out.trans x1).trans x2)
      have q1 : w.heap.size < W2.heap.size := World.block_lt_of_cell? W2 _ c0
      have q2 : w.heap.size + 1 < W2.heap.size := World.block_lt_of_cell? W2 _ d0
      clear x1 x2 hA hB
      go_upto_region 8 with fail
      go_cut [8, 9] (fun s8 s9 wx => s9 = .bool ok ∧ ∃ (g : Nat) (a : Option Addr) (k : Nat), s8 = .pointer (some ⟨g, 0, none⟩) ∧ AttrAt wx g m (.slice a J.length k) ∧ Fresh w.heap.size wx (.slice a J.length k) J ∧ Ext W2 wx)
      case first =>
        go_region_held3 (fun W => W.cell? ⟨w.heap.size, 0, none⟩ = some (.int .i64 s0) ∧ W.cell? ⟨w.heap.size, 1, none⟩ = some u0 ∧ W.cell? ⟨w.heap.size + 1, 0, none⟩ = some (.int .i64 s1) ∧ W.cell? ⟨w.heap.size + 1, 1, none⟩ = some u1) (first | assumption | (exact ⟨c0, c1, d0, d1⟩) | (exact keepJ (by assumption) (by assumption)) | (exact keepJ (Ext.alloc (Ext.refl _) _) (by assumption)) | (exact keepA (by dsimp only; omega) (by dsimp only; omega) (by dsimp only; omega) (by dsimp only; omega) (by assumption)) | (exact keepJS (by dsimp only; omega) (by dsimp only; omega) (by dsimp only; omega) (by dsimp only; omega) (keepJS (by dsimp only; omega) (by dsimp only; omega) (by dsimp only; omega) (by dsimp only; omega) (by assumption)))) (first | (go_at_call_of 10 (Value.agg #[Value.int IntKind.i64 s0, u0]); refine (TA.out _ (A2.out.ext (by repeat (first | assumption | exact Ext.refl _ | apply Ext.drew | apply Ext.alloc)))).mono ?_; rintro e W3 ⟨u3, rfl, f3, x3⟩; have z3 := x3.size; (try simp at z3); (first | (have PB := Lib.hid (OpenAt.ext PB.out x3); obtain ⟨⟨p0, p1⟩, y0, y1⟩ := PB.out) | (have PB := Lib.hid (OpenAt.ext (openAt_new _ _ _ _) (by first | exact x3 | exact Ext.trans (Ext.drew (Ext.refl _)) x3)); obtain ⟨⟨p0, p1⟩, y0, y1⟩ := PB.out) | skip)) | (go_at_call_of 10 (Value.agg #[Value.int IntKind.i64 s1, u1]); refine (TB.out _ (B2.out.ext (by first | exact Ext.trans (by repeat (first | exact Ext.refl _ | apply Ext.drew | apply Ext.alloc)) x3 | exact Ext.trans (by repeat (first | exact Ext.refl _ | apply Ext.drew | apply Ext.alloc)) (Ext.trans x3 (by repeat (first | exact Ext.refl _ | apply Ext.drew | apply Ext.alloc)))))).mono ?_; rintro e W4 ⟨u4, rfl, f4, x4⟩; have z4 := x4.size; (try simp at z4); (first | (have PB := Lib.hid (OpenAt.ext PB.out x4); obtain ⟨⟨p0, p1⟩, y0, y1⟩ := PB.out) | (have PB := Lib.hid (OpenAt.ext (openAt_new _ _ _ _) (by first | exact x4 | exact Ext.trans (Ext.drew (Ext.refl _)) x4)); obtain ⟨⟨p0, p1⟩, y0, y1⟩ := PB.out) | skip)) | (go_at_call 17; refine (CS.out _ _ _ ((Fresh.ints f3).ext (by first | assumption | exact Ext.trans (by repeat (first | exact Ext.refl _ | apply Ext.drew | apply Ext.alloc)) x4 | exact Ext.trans x4 (by repeat (first | exact Ext.refl _ | apply Ext.drew | apply Ext.alloc)))) (Ints.ext (Fresh.ints f4) (by repeat (first | exact Ext.refl _ | apply Ext.drew | apply Ext.alloc)))).mono ?_; rintro e W5 ⟨u5, rfl, f5, x5⟩; obtain ⟨a5, k5, rfl⟩ := f5.form; have z5 := x5.size; (try simp at z5); (first | (have PB := Lib.hid (OpenAt.ext PB.out x5); obtain ⟨⟨p0, p1⟩, y0, y1⟩ := PB.out) | (have PB := Lib.hid (OpenAt.ext (openAt_new _ _ _ _) (by first | exact x5 | exact Ext.trans (Ext.drew (Ext.refl _)) x5)); obtain ⟨⟨p0, p1⟩, y0, y1⟩ := PB.out) | skip)))
        all_goals
          have e3 : Ext W2 W3 := Ext.trans (by repeat (first | exact Ext.refl _ | apply Ext.drew | apply Ext.alloc)) x3
          have e4 : Ext W2 W4 := e3.trans (Ext.trans (by repeat (first | exact Ext.refl _ | apply Ext.drew | apply Ext.alloc)) x4)
          have e5 : Ext W2 W5 := e4.trans (Ext.trans (by repeat (first | exact Ext.refl _ | apply Ext.drew | apply Ext.alloc)) x5)
          have y2 := X2.out.size
          have F5 : Fresh W2.heap.size W5 (.slice a5 J.length k5) J := f5.more (by first | exact e4.size | (simp; omega))
          have hz4 := e4.size
          go_wp2_with fail
          go_meet
          refine ⟨rfl, _, a5, k5, rfl, ?_, ?_, ?_⟩
          · first | exact attrAt_new _ _ _ _ | (refine ⟨?_, ?_⟩ <;> go_simp)
          · first | exact (F5.ext (Ext.alloc (Ext.refl _) _)).more y2 | exact ((f5.set _ _ _ (by first | omega | (simp; done) | (simp; omega))).set _ _ _ (by first | omega | (simp; done) | (simp; omega))).more (by first | omega | (simp; done) | (simp; omega))
          · first | exact e5.alloc _ | exact (e5.setc (by dsimp only; omega)).setc (by dsimp only; omega)
      case rest =>
        obtain ⟨rfl, gc, ac, kc, rfl, hc, hf, hx⟩ := hcut
        have c0 := hx.cell c0
        have c1 := hx.cell c1
        have d0 := hx.cell d0
        have d1 := hx.cell d1
        have C := Lib.hid hc
        have LA : Hid (AttrAt wc w.heap.size s0 u0 ∧ AttrAt wc (w.heap.size + 1) s1 u1) := Lib.hid ⟨⟨c0, c1⟩, d0, d1⟩
        have F := Lib.hid hf
        have XC := Lib.hid (X2.out.trans hx)
        have A3 := Lib.hid (A2.out.ext hx)
        have B3 := Lib.hid (B2.out.ext hx)
        have qc : gc < wc.heap.size := World.block_lt_of_cell? wc _ hc.1
        have r1 : w.heap.size < wc.heap.size := World.block_lt_of_cell? wc _ c0
        have r2 : w.heap.size + 1 < wc.heap.size := World.block_lt_of_cell? wc _ d0
        clear hx hc hf q1 q2
        go_wp2_with fail
        refine (TA.out _ A3.out).mono ?_
        rintro e W3 ⟨u3, rfl, f3, x3⟩
        obtain ⟨a3, k3, rfl⟩ := f3.form
        have d0 := x3.cell d0
        have d1 := x3.cell d1
        have b3 := attrAt_new W3 27 s0 (.slice a3 l0.length k3)
        have F3 := Lib.hid f3
        have C3 := Lib.hid (C.out.ext x3)
        have X3 := Lib.hid (XC.out.trans x3)
        have E3 := Lib.hid x3
        have B4 := Lib.hid ((B3.out.ext x3).ext (Ext.alloc (Ext.refl W3) (.cells #[.int .i64 s0, .slice a3 l0.length k3] 27)))
        have z3 : wc.heap.size ≤ W3.heap.size := x3.size
        have ne1 : w.heap.size + 1 ≠ W3.heap.size := by omega
        have lt1 : w.heap.size + 1 < W3.heap.size := by omega
        clear f3 x3 c0 c1
        go_wp2_with fail
        refine (TB.out _ B4.out).mono ?_
        rintro e W4 ⟨u4, rfl, f4, x4⟩
        obtain ⟨a4, k4, rfl⟩ := f4.form
        rw [World.size_alloc] at f4
        have z4 : W3.heap.size + 1 ≤ W4.heap.size := by have := x4.size; rw [World.size_alloc] at this; exact this
        have E4 := Lib.hid ((Ext.alloc (Ext.refl W3) _).trans x4)
        have b3 := b3.ext x4
        have b4 := attrAt_new W4 27 s1 (.slice a4 l1.length k4)
        have F4 := Lib.hid f4
        have I3 := Lib.hid ((F3.out.ints.ext E4.out).ext (Ext.alloc (Ext.refl W4) (.cells #[.int .i64 s1, .slice a4 l1.length k4] 27)))
        have I4 := Lib.hid (f4.ints.ext (Ext.alloc (Ext.refl W4) (.cells #[.int .i64 s1, .slice a4 l1.length k4] 27)))
        have B3X := Lib.hid b3
        obtain ⟨g0, g1⟩ := b3
        have ne2 : W3.heap.size ≠ W4.heap.size := by omega
        have lt2 : W3.heap.size < W4.heap.size := by omega
        clear f4 x4 d0 d1
        go_wp2_with fail
        refine (CI.out _ _ _ I3.out I4.out).mono ?_
        rintro e W5 ⟨u5, rfl, f5, x5⟩
        obtain ⟨a5, k5, rfl⟩ := f5.form
        rw [World.size_alloc] at f5
        have z5 : W4.heap.size + 1 ≤ W5.heap.size := by have := x5.size; rw [World.size_alloc] at this; exact this
        have E5 := Lib.hid ((Ext.alloc (Ext.refl W4) _).trans x5)
        have F5 := Lib.hid f5
        have b4 := b4.ext x5
        have b5 := attrAt_new W5 27 m (.slice a5 J.length k5)
        have EA := Lib.hid (Ext.alloc (Ext.refl W5) (.cells #[.int .i64 m, .slice a5 J.length k5] 27))
        have EX := Lib.hid (((E3.out.trans E4.out).trans E5.out).trans EA.out)
        have L5 := Lib.hid (show Live w (W5.alloc (.cells #[.int .i64 m, .slice a5 J.length k5] 27)) w.heap.size (w.heap.size + 1) gc W5.heap.size w.heap.size (W4.heap.size + 1) s0 s1 m u0 u1 (.slice ac J.length kc) (.slice a5 J.length k5) J from
          ⟨XC.out.trans EX.out, LA.out.1.ext EX.out, LA.out.2.ext EX.out, C.out.ext EX.out, F.out.ext EX.out, b5, F5.out.ext EA.out⟩)
        obtain ⟨h0, h1⟩ := C.out.ext ((E3.out.trans E4.out).trans E5.out)
        have ne3 : gc ≠ W5.heap.size := by omega
        have lt3 : gc < W5.heap.size := by omega
        have Y3 := Lib.hid ((B3X.out.ext E5.out).ext EA.out)
        have Y4 := Lib.hid (b4.ext EA.out)
        clear g0 g1 b4 b5 LA
        go_wp2_with fail
        refine (eqAttr_same _ _ _ J _ L5.out.fg.ints L5.out.fc.ints).mono ?_
        rintro e W6 ⟨rfl, x6⟩
        have L6 := Lib.hid (L5.out.ext x6)
        have Z3 := Lib.hid (Y3.out.ext x6)
        have Z4 := Lib.hid (Y4.out.ext x6)
        have P3 := Lib.hid (((F3.out.ext E4.out).ext E5.out).ext (EA.out.trans x6))
        have P4 := Lib.hid ((F4.out.ext E5.out).ext (EA.out.trans x6))
        have z6 : W5.heap.size < W6.heap.size := World.block_lt_of_cell? W6 _ L6.out.g.1
        clear x6 h0 h1
        obtain ⟨a0', a1'⟩ := L6.out.a
        obtain ⟨b0', b1'⟩ := Z3.out
        go_wp2
        go_region_held3 (fun W => Ext W6 W ∧ W.cell? ⟨w.heap.size, 0, none⟩ = some (.int .i64 s0) ∧ W.cell? ⟨w.heap.size, 1, none⟩ = some u0 ∧ W.cell? ⟨W3.heap.size, 0, none⟩ = some (.int .i64 s0) ∧ W.cell? ⟨W3.heap.size, 1, none⟩ = some (.slice a3 l0.length k3)) (first | (exact keep4 (by assumption) (by assumption)) | (exact ⟨Ext.drew (Ext.refl _), a0', a1', b0', b1'⟩)) (first | (go_at_call 10; refine (TA.out _ ((HA0.out.ext L6.out.X).ext (And.left (by assumption)))).mono ?_; rintro e W7 ⟨u7, rfl, f7, x7⟩) | (go_at_call 12; refine (eqAttr_same _ _ _ l0 _ (P3.out.ints.ext (And.left (by assumption))) (Fresh.ints f7)).mono ?_; rintro e W8 ⟨rfl, x8⟩))
        rename_i hH
        have e8 := hH.1
        have L8 := Lib.hid (L6.out.ext e8)
        have Q3 := Lib.hid (P3.out.ext e8)
        have Q4 := Lib.hid (P4.out.ext e8)
        have V3 := Lib.hid (Z3.out.ext e8)
        have V4 := Lib.hid (Z4.out.ext e8)
        clear hH x7 x8 f7 a0' a1' b0' b1' e8
        obtain ⟨a0', a1'⟩ := L8.out.b
        obtain ⟨b0', b1'⟩ := V4.out
        go_wp2
        go_region_held3 (fun W => Ext W8 W ∧ W.cell? ⟨w.heap.size + 1, 0, none⟩ = some (.int .i64 s1) ∧ W.cell? ⟨w.heap.size + 1, 1, none⟩ = some u1 ∧ W.cell? ⟨W4.heap.size, 0, none⟩ = some (.int .i64 s1) ∧ W.cell? ⟨W4.heap.size, 1, none⟩ = some (.slice a4 l1.length k4)) (first | (exact keep4 (by assumption) (by assumption)) | (exact ⟨Ext.drew (Ext.refl _), a0', a1', b0', b1'⟩)) (first | (go_at_call 10; refine (TB.out _ ((HB0.out.ext L8.out.X).ext (And.left (by assumption)))).mono ?_; rintro e W9 ⟨u9', rfl, f9, x9⟩) | (go_at_call 12; refine (eqAttr_same _ _ _ l1 _ (Q4.out.ints.ext (And.left (by assumption))) (Fresh.ints f9)).mono ?_; rintro e W10 ⟨rfl, x10⟩))
        rename_i hH
        have e10 := hH.1
        have L10 := Lib.hid (L8.out.ext e10)
        have R3 := Lib.hid (Q3.out.ext e10)
        have R4 := Lib.hid (Q4.out.ext e10)
        have U3 := Lib.hid (V3.out.ext e10)
        have U4 := Lib.hid (V4.out.ext e10)
        clear hH x9 x10 f9 a0' a1' b0' b1' e10
        have ml0 : (l0.length : Int) ≤ 1048576 := by have := HL0.out; omega
        have ml1 : (l1.length : Int) ≤ 1048576 := by have := HL1.out; omega
        have mJ : (J.length : Int) ≤ 5 := by have := HJL.out; omega
        obtain ⟨b0', b1'⟩ := U3.out
        go_wp2_with fail
        refine (markAttr_any _ _ _ l0 1 _ R3.out (by omega) (by omega)).mono ?_
        rintro e W11 ⟨rfl, f11, t11⟩
        have L11 := Lib.hid (L10.out.mark F3.out t11 (by omega) (by omega) (by omega) (by omega) (.inr (by omega)) (F.out.apart' F3.out (Nat.le_refl _)) (F3.out.ext E4.out |>.apart F5.out (by omega)))
        have U4' := Lib.hid (attr_marked F3.out t11 U4.out (.inr (by omega)))
        have R4' := Lib.hid (R4.out.touch t11 (F3.out.apart F4.out (by omega)))
        clear f11 t11 b0' b1'
        obtain ⟨b0', b1'⟩ := U4'.out
        go_wp2_with fail
        refine (markAttr_any _ _ _ l1 (1 + l0.length) _ R4'.out (by omega) (by omega)).mono ?_
        rintro e W12 ⟨rfl, f12, t12⟩
        have L12 := Lib.hid (L11.out.mark F4.out t12 (by omega) (by omega) (by omega) (by omega) (.inr (by omega)) (F.out.ext E3.out |>.apart' F4.out (by omega)) (F4.out.apart F5.out (by omega)))
        clear f12 t12 b0' b1'
        obtain ⟨b0', b1'⟩ := L12.out.g
        obtain ⟨c0', c1'⟩ := L12.out.c
        have mk0 : 0 ≤ 1 + (l0.length : Int) + (l1.length : Int) := by omega
        go_wp2_with fail
        refine (eqAttr_same _ _ _ J _ L12.out.fg.ints L12.out.fc.ints).mono ?_
        rintro e W13 ⟨rfl, x13⟩
        have L13 := Lib.hid (L12.out.ext x13)
        clear x13 b0' b1' c0' c1'
        obtain ⟨b0', b1'⟩ := L13.out.g
        go_wp2_with fail
        refine (markAttr_any _ _ _ J 1 _ L13.out.fg (by omega) (by omega)).mono ?_
        rintro e W14 ⟨rfl, f14, t14⟩
        have X14 := ext_marked F5.out t14 L13.out.X (by omega)
        have A14 := attr_marked F5.out t14 L13.out.a (.inl (by omega))
        have B14 := attr_marked F5.out t14 L13.out.b (.inl (by omega))
        have C14 := attr_marked F5.out t14 L13.out.c (.inl (by omega))
        have G14 := attr_marked F5.out t14 L13.out.g (.inr (Nat.le_refl _))
        have S14 := L13.out.fc.touch t14 (F.out.apart' F5.out (by omega))
        have M14 := Lib.hid (And.intro X14 (And.intro A14 (And.intro B14 (And.intro C14 (And.intro G14 (And.intro S14 f14))))))
        clear X14 A14 B14 C14 S14 f14 t14 b0' b1'
        obtain ⟨b0', b1'⟩ := G14
        go_wp2_with fail
        refine (heldAttr_yes _ _ _ _ _ M14.out.2.2.2.2.2.2.ints (by omega) (by omega)).mono ?_
        rintro e W15 ⟨rfl, x15⟩
        have X15 := Lib.hid (M14.out.1.trans x15)
        have A15 := Lib.hid (HA0.out.ext X15.out)
        have B15 := Lib.hid (HB0.out.ext X15.out)
        have N15 := Lib.hid (And.intro (M14.out.2.2.2.1.ext x15) (And.intro (M14.out.2.2.2.2.1.ext x15) (And.intro (M14.out.2.2.2.2.2.1.ext x15) (M14.out.2.2.2.2.2.2.ext x15))))
        clear b0' b1'
        obtain ⟨a0', a1'⟩ := M14.out.2.1.ext x15
        obtain ⟨b0', b1'⟩ := M14.out.2.2.1.ext x15
        clear x15
        have q1 : w.heap.size < W15.heap.size := World.block_lt_of_cell? W15 _ a0'
        have q2 : w.heap.size + 1 < W15.heap.size := World.block_lt_of_cell? W15 _ b0'
        have n1 : ((1 + (J.length : Int)) != 1 + (J.length : Int)) = false := by simp
        go_upto_region 31 with fail
        go_cut [17, 18] (fun s8 s9 wx => s9 = .bool ok ∧ ∃ (g : Nat) (a : Option Addr) (k : Nat), s8 = .pointer (some ⟨g, 0, none⟩) ∧ AttrAt wx g m (.slice a J.length k) ∧ Fresh w.heap.size wx (.slice a J.length k) J ∧ Ext W15 wx)
        case first =>
          go_region_held3 (fun W => W.cell? ⟨w.heap.size, 0, none⟩ = some (.int .i64 s0) ∧ W.cell? ⟨w.heap.size, 1, none⟩ = some u0 ∧ W.cell? ⟨w.heap.size + 1, 0, none⟩ = some (.int .i64 s1) ∧ W.cell? ⟨w.heap.size + 1, 1, none⟩ = some u1) (first | assumption | (exact ⟨a0', a1', b0', b1'⟩) | (exact keepJ (by assumption) (by assumption)) | (exact keepJ (Ext.alloc (Ext.refl _) _) (by assumption)) | (exact keepA (by dsimp only; omega) (by dsimp only; omega) (by dsimp only; omega) (by dsimp only; omega) (by assumption)) | (exact keepJS (by dsimp only; omega) (by dsimp only; omega) (by dsimp only; omega) (by dsimp only; omega) (keepJS (by dsimp only; omega) (by dsimp only; omega) (by dsimp only; omega) (by dsimp only; omega) (by assumption)))) (first | (go_at_call_of 10 (Value.agg #[Value.int IntKind.i64 s0, u0]); refine (TA.out _ (A15.out.ext (by repeat (first | assumption | exact Ext.refl _ | apply Ext.drew | apply Ext.alloc)))).mono ?_; rintro e K3 ⟨v3, rfl, i3, x3⟩; have z3 := x3.size; (try simp at z3); (first | (have PB := Lib.hid (OpenAt.ext PB.out x3); obtain ⟨⟨p0, p1⟩, y0, y1⟩ := PB.out) | (have PB := Lib.hid (OpenAt.ext (openAt_new _ _ _ _) (by first | exact x3 | exact Ext.trans (Ext.drew (Ext.refl _)) x3)); obtain ⟨⟨p0, p1⟩, y0, y1⟩ := PB.out) | skip)) | (go_at_call_of 10 (Value.agg #[Value.int IntKind.i64 s1, u1]); refine (TB.out _ (B15.out.ext (by first | exact Ext.trans (by repeat (first | exact Ext.refl _ | apply Ext.drew | apply Ext.alloc)) x3 | exact Ext.trans (by repeat (first | exact Ext.refl _ | apply Ext.drew | apply Ext.alloc)) (Ext.trans x3 (by repeat (first | exact Ext.refl _ | apply Ext.drew | apply Ext.alloc)))))).mono ?_; rintro e K4 ⟨v4, rfl, i4, x4⟩; have z4 := x4.size; (try simp at z4); (first | (have PB := Lib.hid (OpenAt.ext PB.out x4); obtain ⟨⟨p0, p1⟩, y0, y1⟩ := PB.out) | (have PB := Lib.hid (OpenAt.ext (openAt_new _ _ _ _) (by first | exact x4 | exact Ext.trans (Ext.drew (Ext.refl _)) x4)); obtain ⟨⟨p0, p1⟩, y0, y1⟩ := PB.out) | skip)) | (go_at_call 18; refine (CI.out _ _ _ ((Fresh.ints i3).ext (by first | assumption | exact Ext.trans (by repeat (first | exact Ext.refl _ | apply Ext.drew | apply Ext.alloc)) x4 | exact Ext.trans x4 (by repeat (first | exact Ext.refl _ | apply Ext.drew | apply Ext.alloc)))) (Ints.ext (Fresh.ints i4) (by repeat (first | exact Ext.refl _ | apply Ext.drew | apply Ext.alloc)))).mono ?_; rintro e K5 ⟨v5, rfl, i5, x5⟩; obtain ⟨j5, h5, rfl⟩ := i5.form; have z5 := x5.size; (try simp at z5); (first | (have PB := Lib.hid (OpenAt.ext PB.out x5); obtain ⟨⟨p0, p1⟩, y0, y1⟩ := PB.out) | (have PB := Lib.hid (OpenAt.ext (openAt_new _ _ _ _) (by first | exact x5 | exact Ext.trans (Ext.drew (Ext.refl _)) x5)); obtain ⟨⟨p0, p1⟩, y0, y1⟩ := PB.out) | skip)))
          all_goals
            have e3 : Ext W15 K3 := Ext.trans (by repeat (first | exact Ext.refl _ | apply Ext.drew | apply Ext.alloc)) x3
            have e4 : Ext W15 K4 := e3.trans (Ext.trans (by repeat (first | exact Ext.refl _ | apply Ext.drew | apply Ext.alloc)) x4)
            have e5 : Ext W15 K5 := e4.trans (Ext.trans (by repeat (first | exact Ext.refl _ | apply Ext.drew | apply Ext.alloc)) x5)
            have y2 := X15.out.size
            have F5 : Fresh W15.heap.size K5 (.slice j5 J.length h5) J := i5.more (by first | exact e4.size | (simp; omega))
            have hz4 := e4.size
            go_wp2_with fail
            go_meet
            refine ⟨rfl, _, j5, h5, rfl, ?_, ?_, ?_⟩
            · first | exact attrAt_new _ _ _ _ | (refine ⟨?_, ?_⟩ <;> go_simp)
            · first | exact (F5.ext (Ext.alloc (Ext.refl _) _)).more y2 | exact ((i5.set _ _ _ (by first | omega | (simp; done) | (simp; omega))).set _ _ _ (by first | omega | (simp; done) | (simp; omega))).more (by first | omega | (simp; done) | (simp; omega))
            · first | exact e5.alloc _ | exact (e5.setc (by dsimp only; omega)).setc (by dsimp only; omega)
        case rest =>
          obtain ⟨rfl, gd, ad, kd, rfl, hc, hf, hx⟩ := hcut
          obtain ⟨d0, d1⟩ := hc
          obtain ⟨c0', c1'⟩ := N15.out.1.ext hx
          have G16 := Lib.hid (N15.out.2.1.ext hx)
          have S16 := Lib.hid (N15.out.2.2.1.ext hx)
          have K16 := Lib.hid (N15.out.2.2.2.ext hx)
          have F16 := Lib.hid hf
          have X16 := Lib.hid (X15.out.trans hx)
          clear hf hx a0' a1' b0' b1'
          go_wp2_with fail
          refine (eqAttr_same _ _ _ J _ F16.out.ints S16.out.ints).mono ?_
          rintro e W17 ⟨rfl, x17⟩
          obtain ⟨b0', b1'⟩ := G16.out.ext x17
          have X17 := Lib.hid (X16.out.trans x17)
          have K17 := Lib.hid (K16.out.ext x17)
          clear x17 d0 d1 c0' c1'
          go_wp2_with fail
          refine (heldAttr_yes _ _ _ _ _ K17.out.ints (by omega) (by omega)).mono ?_
          rintro e W18 ⟨rfl, x18⟩
          have X18 := X17.out.trans x18
          clear x18 b0' b1'
          go_wp2
          go_ret
          exact ⟨rfl, X18⟩

/-! ### The frame -/
set_option maxRecDepth 100000 in
theorem lifted (os : Os) (started : os.Started) (H : Type) (enc : TypeId × Value → H) :
    ReturnsInHanded {} Try.checked os 5 .any (Rows.fnExactJoinAttrSpec.pre6 enc Try.prog Try.f5 Rows.fnExactJoinAttrRow.domain false) (Rows.fnExactJoinAttrSpec.post enc Try.prog Try.f5 false true false false) := by
  refine returnsInHanded_of_change (C := Try.checked) own started (by kernel_rfl) Try.func5
    (ChangeSpec.witness6 (enc := enc) (C := Try.checked) false ⟨#[], #[.int .i64 0, .agg #[.int .i64 0, .slice none 0 0], .agg #[.int .i64 0, .slice none 0 0]], []⟩ 8 (by kernel_rfl) (by kernel_rfl) (by kernel_rfl) (by kernel_rfl)) ?_
  intro W base args ds gs before hval0 hW hcnd _
  have hval : ∀ (j : Nat) t v, Try.f5.params[j]? = some t → args[j]? = some v → Value.okWide Try.prog W .any base t v := hval0
  have hW' := hW
  obtain ⟨p, q, hA0, hV, rfl, hfz, hnd⟩ := hW
  have hA : DataW.TrodAll enc Try.prog W 0 (fun _ => true) true Try.f5.params.toList args.toList ds p := hA0
  rw [Try.params5] at hA hval
  obtain ⟨v0, vs0, d0, ds0, p0, q0, hargs, rfl, rfl, h0, r0⟩ := trodAll_cons hA
  obtain ⟨v1, vs1, d1, ds1, p1, q1, rfl, rfl, rfl, h1, r1⟩ := trodAll_cons r0
  obtain ⟨v2, vs2, d2, ds2, p2, q2, rfl, rfl, rfl, h2, r2⟩ := trodAll_cons r1
  obtain ⟨rfl, rfl, rfl⟩ := trodAll_nil r2
  obtain rfl : args = #[v0, v1, v2] := by cases args; simp_all
  obtain ⟨rfl, rfl⟩ := trodVars_none hV
  have k0 := h0
  have lt0 : ∀ x ∈ p0, x.block < W.heap.size := by obtain ⟨m, hm⟩ := k0; exact DataW.trod_lt m _ _ _ hm
  obtain ⟨a0, rfl, _, _, w0⟩ := open_int Try.underlying3 (hval 0 3 v0 rfl rfl) h0
  have k1 := h1
  have lt1 : ∀ x ∈ p1, x.block < W.heap.size := by obtain ⟨m, hm⟩ := k1; exact DataW.trod_lt m _ _ _ hm
  obtain ⟨s1, u1, l1, rfl, w1⟩ := open_attr (hval 1 24 v1 rfl rfl) h1
  have k2 := h2
  have lt2 : ∀ x ∈ p2, x.block < W.heap.size := by obtain ⟨m, hm⟩ := k2; exact DataW.trod_lt m _ _ _ hm
  obtain ⟨s2, u2, l2, rfl, w2⟩ := open_attr (hval 2 24 v2 rfl rfl) h2
  clear hA0 hval0
  refine (walk a0 s1 u1 l1 s2 u2 l2 W w0 w1 w2).mono fun e W' ⟨he, bel⟩ => ?_
  subst he
  exact ⟨_, rfl, _, _, _, [], _, [], hW', trodAll_mk1 (shut_bool Try.underlying4 _), (trodAll_cons_mk (Below.trod laidOut (by kernel_rfl) (of_decide_eq_true (by kernel_rfl)) k0 bel lt0) (trodAll_cons_mk (Below.trod laidOut (by kernel_rfl) (of_decide_eq_true (by kernel_rfl)) k1 bel lt1) (trodAll_cons_mk (Below.trod laidOut (by kernel_rfl) (of_decide_eq_true (by kernel_rfl)) k2 bel lt2) trodAll_mk0))), rfl, bel.frame _, fun h => by cases h⟩

theorem over : Rows.fnExactJoinAttrRow.holds Try.pinned (OpenSpec.ofChange Rows.fnExactJoinAttrSpec) :=
  OpenClaim.holds_of_wide 5 Try.f5 rfl rfl rfl rfl rfl rfl rfl ⟨rfl, rfl, rfl, rfl, rfl⟩ rfl rfl rfl rfl rfl (by kernel_rfl) Try.func5 (by kernel_rfl)
    (of_decide_eq_true (by kernel_rfl)) (by unfold Func.isWrapper; first | (rw [if_pos (by decide +kernel)]; kernel_rfl) | (rw [if_neg (by decide +kernel)]; exact ⟨rfl, rfl⟩))
    (fun os started H enc _ => lifted os started H enc)

/-- THE STATEMENT -/
theorem proved : Rows.FnExactJoinAttrSaid := over
#print axioms proved
end Go.Proofs.Ytfadmcgaojnghaa.fnExactJoinAttr
