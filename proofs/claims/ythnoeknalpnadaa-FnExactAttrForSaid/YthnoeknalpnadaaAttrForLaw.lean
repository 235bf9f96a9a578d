/- What is proved: at every table, command and two numbers the function AttrFor of the program answers as its model does, writes into no argument, and its answer owns its memory. Conditions: none. -/
import Derived.Test.YthnoeknalpnadaaRows
import Derived.Test.YthnoeknalpnadaaMAttrForg
import Derived.Test.YthnoeknalpnadaaMAttrFord
import Derived.Test.YthnoeknalpnadaaMAttrForh
import Derived.Test.YthnoeknalpnadaaMAttrForc
import Derived.Test.YthnoeknalpnadaaMAttrFora
import Derived.Test.YthnoeknalpnadaaMAttrForb
import Derived.Deep.DeepCutAuto
import Derived.WalkKit
import Derived.ProofKit
import Derived.OpenShut
import Derived.ShutString
import Derived.ChangeOld
import Derived.Below
namespace Go.Proofs.Ythnoeknalpnadaa.fnExactAttrFor
open Go.ChangeShapes Go.WideShapes Go.ChangeAt Go.RowKit
set_option linter.unusedVariables false

theorem own : ownKnob Try.prog.godebug = none := by kernel_rfl
theorem laidOut : laidOutB Try.prog = true := by kernel_rfl

/-! ### The walk: the law's text returns true, and nothing that was there is turned. -/
theorem two_args (w : World) (n : Int) (u : Value) (T T' : TypeId) (k i f t a : Int) :
    AttrAt ((w.alloc (.cells #[.int .i64 n, u] T)).alloc (.cells #[.int .i64 k, .int .i64 i, .int .i64 f, .int .i64 t, .int .i64 a] T')) w.heap.size n u ∧
    CmdAt ((w.alloc (.cells #[.int .i64 n, u] T)).alloc (.cells #[.int .i64 k, .int .i64 i, .int .i64 f, .int .i64 t, .int .i64 a] T')) (w.heap.size + 1) k i f t a := by
  refine ⟨⟨?_, ?_⟩, ⟨?_, ?_, ?_, ?_, ?_⟩⟩ <;> go_simp

set_option maxHeartbeats 16000000 in
set_option maxRecDepth 100000 in
theorem walk (n : Int) (v1 : Value) (T : List (List RowD)) (ck ci cf ct ca : Int) (rep no : Int) (w : World) (w1 : wf64 n ∧ Rowzz w v1 T) (w2 : wf64 ck ∧ wf64 ci ∧ wf64 cf ∧ wf64 ct ∧ wf64 ca) (w3 : wf64 rep) (w4 : wf64 no) :
    Calls Try.prog 11 #[.agg #[.int .i64 n, v1], .agg #[.int .i64 ck, .int .i64 ci, .int .i64 cf, .int .i64 ct, .int .i64 ca], .int .i64 rep, .int .i64 no] w fun e w' => e = .returned (.bool true) ∧ Ext w w' := by
  obtain ⟨_, hA0⟩ := w1
  clear w2 w3 w4
  obtain ⟨wb, hwb⟩ : ∃ wb, wb = (w.alloc (.cells #[.int .i64 n, v1] 52)).alloc (.cells #[.int .i64 ck, .int .i64 ci, .int .i64 cf, .int .i64 ct, .int .i64 ca] 61) := ⟨_, rfl⟩
  have b0 := two_args w n v1 52 61 ck ci cf ct ca
  have x0 : Ext w wb := by rw [hwb]; exact ((Ext.refl w).alloc _).alloc _
  have sb : wb.heap.size = w.heap.size + 2 := by rw [hwb]; simp
  rw [← hwb] at b0
  have HW := Lib.hid hwb
  have SB := Lib.hid sb
  clear hwb sb
  have hA := hA0.ext x0
  by_cases h1 : (1048576 : Int) < bulkT T
  · have L1 := Lib.hid (lessened_no h1)
    clear h1
    go_enter Try.func11, Try.ntmps11
    go_wp2_with fail
    rw [← HW.out]
    refine (szTable_any _ _ _ _ _ hA (by omega) (by omega)).mono ?_
    rintro e W1 ⟨rfl, x1⟩
    rw [L1.out]
    have y1 := x0.trans x1
    clear x0 x1 b0
    go_wp2
    go_ret
    exact ⟨rfl, y1⟩
  · obtain ⟨r, hr⟩ : ∃ r, r = (1048576 : Int) - bulkT T := ⟨_, rfl⟩
    have hr0 : 0 ≤ r := by omega
    have hl : bulkT T ≤ 1048576 := by omega
    have L1 : Hid (lessened 1048576 (bulkT T) = r) := Lib.hid (by rw [hr]; exact lessened_yes (by omega))
    have HL := Lib.hid hl
    clear h1 hr hl
    obtain ⟨g, hg⟩ : ∃ g, g = okA n T ck ci cf ct ca rep no := ⟨_, rfl⟩
    obtain ⟨s, hs⟩ : ∃ s, s = attrS n T ck ci cf ct ca rep no := ⟨_, rfl⟩
    obtain ⟨L, hL⟩ : ∃ L, L = attrL n T ck ci cf ct ca rep no := ⟨_, rfl⟩
    have hdl : L.length ≤ 5 := by rw [hL]; exact attrL_len _ _ _ _ _ _ _ _ _
    have cS : ∀ u W, Rowzz W u T → Calls Try.prog 57 #[.agg #[.int .i64 n, u], .agg #[.int .i64 ck, .int .i64 ci, .int .i64 cf, .int .i64 ct, .int .i64 ca], .int .i64 rep, .int .i64 no] W (TwoAttr s L g W) := fun u W h => by rw [hg, hs, hL]; exact specAttrFor_any _ _ _ _ _ _ _ _ _ _ _ h
    have cI : ∀ u W, Rowzz W u T → Calls Try.prog 59 #[.agg #[.int .i64 n, u], .agg #[.int .i64 ck, .int .i64 ci, .int .i64 cf, .int .i64 ct, .int .i64 ca], .int .i64 rep, .int .i64 no] W (TwoAttr s L g W) := fun u W h => by rw [hg, hs, hL]; exact implAttrFor_any _ _ _ _ _ _ _ _ _ _ _ h (by have := HL.out; omega)
    have CS := Lib.hid cS
    have CI := Lib.hid cI
    have HB := Lib.hid b0
    have HA := Lib.hid hA
    have HA0 := Lib.hid hA0
    have X0 := Lib.hid x0
    have hL2 : bulkT T ≤ 1099511627776 := by have := HL.out; omega
    have HL2 := Lib.hid hL2
    have HDL := Lib.hid hdl
    clear cS cI hg b0 hs hL hA hA0 x0 hL2 hdl
    go_enter Try.func11, Try.ntmps11
    go_wp2_with fail
    rw [← HW.out]
    refine (szTable_any _ _ _ _ _ HA.out (by omega) (by omega)).mono ?_
    rintro e W1 ⟨rfl, x1⟩
    rw [L1.out]
    obtain ⟨⟨c0, c1⟩, q0, q1, q2, q3, q4⟩ := And.intro (HB.out.1.ext x1) (HB.out.2.ext x1)
    have X1 := Lib.hid (X0.out.trans x1)
    have WB1 := Lib.hid x1
    have A1 := Lib.hid (HA.out.ext x1)
    have sz1 : w.heap.size + 1 < W1.heap.size := by have := SB.out; have := x1.size; omega
    clear x1
    go_upto_region 5 with fail
    go_cut [10, 11] (fun s8 s9 wx => s9 = .bool g ∧ ∃ (b : Nat) (a : Option Addr) (k : Nat), s8 = .pointer (some ⟨b, 0, none⟩) ∧ AttrAt wx b s (.slice a L.length k) ∧ Fresh W1.heap.size wx (.slice a L.length k) L ∧ Ext W1 wx ∧ Off b (.slice a L.length k) ∧ W1.heap.size ≤ b)
    case first =>
      go_region_held3 (fun W => (W.cell? ⟨w.heap.size, 0, none⟩ = some (.int .i64 n) ∧ W.cell? ⟨w.heap.size, 1, none⟩ = some v1) ∧ W.cell? ⟨w.heap.size + 1, 0, none⟩ = some (.int .i64 ck) ∧ W.cell? ⟨w.heap.size + 1, 1, none⟩ = some (.int .i64 ci) ∧ W.cell? ⟨w.heap.size + 1, 2, none⟩ = some (.int .i64 cf) ∧ W.cell? ⟨w.heap.size + 1, 3, none⟩ = some (.int .i64 ct) ∧ W.cell? ⟨w.heap.size + 1, 4, none⟩ = some (.int .i64 ca)) (first | assumption | (exact ⟨⟨c0, c1⟩, q0, q1, q2, q3, q4⟩) | (exact keep7 (by assumption) (by assumption)) | (exact keep7 (Ext.alloc (Ext.refl _) _) (by assumption)) | (exact keep7A (by dsimp only; omega) (by dsimp only; omega) (by dsimp only; omega) (by dsimp only; omega) (by dsimp only; omega) (by dsimp only; omega) (by dsimp only; omega) (by assumption)) | (exact keep7S (by dsimp only; omega) (by dsimp only; omega) (by dsimp only; omega) (by dsimp only; omega) (by dsimp only; omega) (by dsimp only; omega) (by dsimp only; omega) (keep7S (by dsimp only; omega) (by dsimp only; omega) (by dsimp only; omega) (by dsimp only; omega) (by dsimp only; omega) (by dsimp only; omega) (by dsimp only; omega) (by assumption)))) (first | (go_at_call 39; refine (toTable_any _ _ _ _ (A1.out.ext (by repeat (first | assumption | exact Ext.refl _ | apply Ext.drew | apply Ext.alloc))) HL2.out).mono ?_; rintro e K3 ⟨u3, rfl, f3, x3⟩; have z3 := x3.size; (try simp at z3); (first | (have PB := Lib.hid (OpenAt.ext PB.out x3); obtain ⟨⟨p0, p1⟩, y0, y1⟩ := PB.out) | (have PB := Lib.hid (OpenAt.ext (openAt_new _ _ _ _) (by first | exact x3 | exact Ext.trans (Ext.drew (Ext.refl _)) x3)); obtain ⟨⟨p0, p1⟩, y0, y1⟩ := PB.out) | skip)) | (go_at_call 58; refine (toCmd_any _ _ _ _ _ _).mono ?_; rintro e K4 ⟨rfl, x4⟩; have z4 := x4.size; (try simp at z4); (first | (have PB := Lib.hid (OpenAt.ext PB.out x4); obtain ⟨⟨p0, p1⟩, y0, y1⟩ := PB.out) | (have PB := Lib.hid (OpenAt.ext (openAt_new _ _ _ _) (by first | exact x4 | exact Ext.trans (Ext.drew (Ext.refl _)) x4)); obtain ⟨⟨p0, p1⟩, y0, y1⟩ := PB.out) | skip)) | (go_at_call 57; refine (CS.out _ _ (Rowzz.ext (FreshT.rows f3) (by first | exact Ext.trans (by repeat (first | exact Ext.refl _ | apply Ext.drew | apply Ext.alloc)) (Ext.trans x4 (by repeat (first | exact Ext.refl _ | apply Ext.drew | apply Ext.alloc)))))).mono ?_; rintro e K5 ⟨u5, rfl, f5, x5⟩; obtain ⟨a5, k5, rfl⟩ := f5.form; have z5 := x5.size; (try simp at z5); (first | (have PB := Lib.hid (OpenAt.ext PB.out x5); obtain ⟨⟨p0, p1⟩, y0, y1⟩ := PB.out) | (have PB := Lib.hid (OpenAt.ext (openAt_new _ _ _ _) (by first | exact x5 | exact Ext.trans (Ext.drew (Ext.refl _)) x5)); obtain ⟨⟨p0, p1⟩, y0, y1⟩ := PB.out) | skip)))
      all_goals
        have e3 : Ext W1 K3 := Ext.trans (by repeat (first | exact Ext.refl _ | apply Ext.drew | apply Ext.alloc)) x3
        have e4 : Ext W1 K4 := e3.trans (Ext.trans (by repeat (first | exact Ext.refl _ | apply Ext.drew | apply Ext.alloc)) x4)
        have e5 : Ext W1 K5 := e4.trans (Ext.trans (by repeat (first | exact Ext.refl _ | apply Ext.drew | apply Ext.alloc)) x5)
        have F5 : Fresh W1.heap.size K5 (.slice a5 L.length k5) L := f5.more (by first | exact e4.size | (simp; omega))
        have hz4 := e4.size
        have hz3 := e3.size
        go_wp2_with fail
        go_meet
        refine ⟨rfl, _, a5, k5, rfl, ?_, ?_, ?_, ?_, ?_⟩
        · first | exact attrAt_new _ _ _ _ | (refine ⟨?_, ?_⟩ <;> go_simp)
        · first | exact F5.ext (Ext.alloc (Ext.refl _) _) | exact ((f5.set _ _ _ (by first | omega | (simp; done) | (simp; omega))).set _ _ _ (by first | omega | (simp; done) | (simp; omega))).more (by first | exact hz4 | omega | (simp; done) | (simp; omega))
        · first | exact e5.alloc _ | exact (e5.setc (by dsimp only; omega)).setc (by dsimp only; omega)
        · intro q hq
          have h5 := World.ownsRow.lt f5 q hq
          first | omega | (simp at h5; omega) | (simp at h5 ⊢; omega)
        · first | exact Nat.le_refl _ | exact e3.size | exact e4.size | exact e5.size | omega | (simp; omega)

    case rest =>
      obtain ⟨rfl, gc, ac, kc, rfl, hc, hf, hx, hoff, hge⟩ := hcut
      obtain ⟨w3, hw3⟩ : ∃ x : World, x = wc := ⟨_, rfl⟩
      subst hw3
      have c0 := hx.cell c0
      have c1 := hx.cell c1
      have C3 := Lib.hid hc
      have F3 := Lib.hid hf
      have X3 := Lib.hid (X1.out.trans hx)
      have Y3 := Lib.hid hx
      have A3 := Lib.hid (A1.out.ext hx)
      have hgc : gc < w3.heap.size := World.block_lt_of_cell? w3 _ hc.1
      have hsz3 : w.heap.size + 1 < w3.heap.size := by have := hx.size; omega
      clear hc hf hx hoff hge A1
      go_wp2_with fail
      refine (toTable_any _ _ _ _ A3.out HL2.out).mono ?_
      rintro e W4 ⟨u4, rfl, f4, x4⟩
      obtain ⟨a4, k4, rfl⟩ := f4.form
      have F4 := Lib.hid f4
      have X4 := Lib.hid x4
      obtain ⟨w4, hw4⟩ : ∃ w4, w4 = W4.alloc (.cells #[.int .i64 n, .slice a4 T.length k4] 24) := ⟨_, rfl⟩
      have x44 : Ext W4 w4 := by rw [hw4]; exact Ext.alloc1 _ _
      have s4 : W4.heap.size < w4.heap.size := by rw [hw4]; simp
      have B4 := attrAt_new W4 24 n (.slice a4 T.length k4)
      rw [← hw4] at B4
      have q0' := (x4.trans x44).cell (Y3.out.cell q0)
      have q1' := (x4.trans x44).cell (Y3.out.cell q1)
      have q2' := (x4.trans x44).cell (Y3.out.cell q2)
      have q3' := (x4.trans x44).cell (Y3.out.cell q3)
      have q4' := (x4.trans x44).cell (Y3.out.cell q4)
      have hsz4 := x4.size
      have A1 := Lib.hid (f4.rows.ext x44)
      have X44 := Lib.hid x44
      have HW4 := Lib.hid hw4
      clear q0 q1 q2 q3 q4
      have q0 := q0'
      have q1 := q1'
      have q2 := q2'
      have q3 := q3'
      have q4 := q4'
      clear q0' q1' q2' q3' q4' c0 c1 f4 x4 x44 hw4
      obtain ⟨c0, c1⟩ := B4
      go_upto_region 7 with fail
      rw [← HW4.out]
      go_cut [13, 14] (fun s8 s9 wx => s9 = .bool g ∧ ∃ (b : Nat) (a : Option Addr) (k : Nat), s8 = .pointer (some ⟨b, 0, none⟩) ∧ AttrAt wx b s (.slice a L.length k) ∧ Fresh w4.heap.size wx (.slice a L.length k) L ∧ Ext w4 wx ∧ Off b (.slice a L.length k) ∧ w4.heap.size ≤ b)
      case first =>
        go_region_held3 (fun W => (W.cell? ⟨W4.heap.size, 0, none⟩ = some (.int .i64 n) ∧ W.cell? ⟨W4.heap.size, 1, none⟩ = some (.slice a4 T.length k4)) ∧ W.cell? ⟨w.heap.size + 1, 0, none⟩ = some (.int .i64 ck) ∧ W.cell? ⟨w.heap.size + 1, 1, none⟩ = some (.int .i64 ci) ∧ W.cell? ⟨w.heap.size + 1, 2, none⟩ = some (.int .i64 cf) ∧ W.cell? ⟨w.heap.size + 1, 3, none⟩ = some (.int .i64 ct) ∧ W.cell? ⟨w.heap.size + 1, 4, none⟩ = some (.int .i64 ca)) (first | assumption | (exact ⟨⟨c0, c1⟩, q0, q1, q2, q3, q4⟩) | (exact keep7 (by assumption) (by assumption)) | (exact keep7 (Ext.alloc (Ext.refl _) _) (by assumption)) | (exact keep7A (by dsimp only; omega) (by dsimp only; omega) (by dsimp only; omega) (by dsimp only; omega) (by dsimp only; omega) (by dsimp only; omega) (by dsimp only; omega) (by assumption)) | (exact keep7S (by dsimp only; omega) (by dsimp only; omega) (by dsimp only; omega) (by dsimp only; omega) (by dsimp only; omega) (by dsimp only; omega) (by dsimp only; omega) (keep7S (by dsimp only; omega) (by dsimp only; omega) (by dsimp only; omega) (by dsimp only; omega) (by dsimp only; omega) (by dsimp only; omega) (by dsimp only; omega) (by assumption)))) (first | (go_at_call 58; refine (toCmd_any _ _ _ _ _ _).mono ?_; rintro e K4 ⟨rfl, x4⟩; have z4 := x4.size; (try simp at z4); (first | (have PB := Lib.hid (OpenAt.ext PB.out x4); obtain ⟨⟨p0, p1⟩, y0, y1⟩ := PB.out) | (have PB := Lib.hid (OpenAt.ext (openAt_new _ _ _ _) (by first | exact x4 | exact Ext.trans (Ext.drew (Ext.refl _)) x4)); obtain ⟨⟨p0, p1⟩, y0, y1⟩ := PB.out) | skip)) | (go_at_call 59; refine (CI.out _ _ (Rowzz.ext A1.out (by first | exact Ext.trans (by repeat (first | exact Ext.refl _ | apply Ext.drew | apply Ext.alloc)) (Ext.trans x4 (by repeat (first | exact Ext.refl _ | apply Ext.drew | apply Ext.alloc)))))).mono ?_; rintro e K5 ⟨u5, rfl, f5, x5⟩; obtain ⟨a5, k5, rfl⟩ := f5.form; have z5 := x5.size; (try simp at z5); (first | (have PB := Lib.hid (OpenAt.ext PB.out x5); obtain ⟨⟨p0, p1⟩, y0, y1⟩ := PB.out) | (have PB := Lib.hid (OpenAt.ext (openAt_new _ _ _ _) (by first | exact x5 | exact Ext.trans (Ext.drew (Ext.refl _)) x5)); obtain ⟨⟨p0, p1⟩, y0, y1⟩ := PB.out) | skip)))
        all_goals
          have e4 : Ext w4 K4 := Ext.trans (by repeat (first | exact Ext.refl _ | apply Ext.drew | apply Ext.alloc)) x4
          have e5 : Ext w4 K5 := e4.trans (Ext.trans (by repeat (first | exact Ext.refl _ | apply Ext.drew | apply Ext.alloc)) x5)
          have F5 : Fresh w4.heap.size K5 (.slice a5 L.length k5) L := f5.more (by first | exact e4.size | (simp; omega))
          have hz4 := e4.size
          skip
          go_wp2_with fail
          go_meet
          refine ⟨rfl, _, a5, k5, rfl, ?_, ?_, ?_, ?_, ?_⟩
          · first | exact attrAt_new _ _ _ _ | (refine ⟨?_, ?_⟩ <;> go_simp)
          · first | exact F5.ext (Ext.alloc (Ext.refl _) _) | exact ((f5.set _ _ _ (by first | omega | (simp; done) | (simp; omega))).set _ _ _ (by first | omega | (simp; done) | (simp; omega))).more (by first | exact hz4 | omega | (simp; done) | (simp; omega))
          · first | exact e5.alloc _ | exact (e5.setc (by dsimp only; omega)).setc (by dsimp only; omega)
          · intro q hq
            have h5 := World.ownsRow.lt f5 q hq
            first | omega | (simp at h5; omega) | (simp at h5 ⊢; omega)
          · first | exact Nat.le_refl _ | exact e4.size | exact e5.size | omega | (simp; omega)

      case rest =>
        obtain ⟨rfl, gd, ad, kd, rfl, hc, hf, hx, hoff, hge⟩ := hcut
        obtain ⟨w5, hw5⟩ : ∃ x : World, x = wc := ⟨_, rfl⟩
        subst hw5
        have x35 := (X4.out.trans X44.out).trans hx
        have hlive : LiveT w w5 w.heap.size gc gd w3.heap.size w4.heap.size n v1 (.slice ac L.length kc) (.slice ad L.length kd) ck ci cf ct ca s L L :=
          ⟨X3.out.trans x35, HB.out.1.ext ((WB1.out.trans Y3.out).trans x35), HB.out.2.ext ((WB1.out.trans Y3.out).trans x35), C3.out.ext x35, (F3.out.ext x35).more (Nat.zero_le _), hc, hf, F3.out.und, hoff⟩
        have ht4 : AttrAt w5 W4.heap.size n (.slice a4 T.length k4) := AttrAt.ext (w := w4) ⟨c0, c1⟩ hx
        have hf4 : FreshT w3.heap.size W4.heap.size w5 (.slice a4 T.length k4) T := F4.out.kept (Stood.of_ext (X44.out.trans hx) (Nat.le_refl _))
        have hz : w.heap.size + 1 < w3.heap.size ∧ gc < w3.heap.size ∧ w3.heap.size ≤ W4.heap.size ∧ W4.heap.size < w4.heap.size ∧ w4.heap.size ≤ gd ∧ w4.heap.size ≤ w5.heap.size := by
          have := hx.size
          omega
        have LIVE := Lib.hid hlive
        have HT4 := Lib.hid ht4
        have HF4 := Lib.hid hf4
        have HZ := Lib.hid hz
        obtain ⟨p0, p1⟩ := hlive.2.2.2.1
        obtain ⟨r0, r1⟩ := hlive.2.2.2.2.2.1
        clear hc hf hx hoff hge x35 hlive ht4 hf4 hz C3 F3 F4 X4 X44 Y3 c0 c1 q0 q1 q2 q3 q4 A1 A3 hgc hsz3 hsz4 s4
        go_wp2_with fail
        refine (eqAttr_same _ _ _ L _ LIVE.out.2.2.2.2.2.2.1.ints LIVE.out.2.2.2.2.1.ints).mono ?_
        rintro e W6 ⟨rfl, x6⟩
        have l6 := LIVE.out.ext x6
        have t6 := HT4.out.ext x6
        have f6 := HF4.out.kept (Stood.of_ext x6 (by have := HZ.out; omega))
        have i6 := f6.rows
        have s6 := x6.size
        obtain ⟨c0, c1⟩ := l6.2.1
        obtain ⟨d0, d1⟩ := t6
        have J6 := Lib.hid (HA0.out.ext l6.1)
        have I6 := Lib.hid i6
        have L6 := Lib.hid l6
        have F6 := Lib.hid f6
        have SZ6 := Lib.hid s6
        clear x6 l6 f6 i6 LIVE HT4 HF4 s6 p0 p1 r0 r1
        have ng : (g != g) = false := by simp
        go_wp2
        go_region_held3 (fun W => Ext W6 W ∧ W.cell? ⟨w.heap.size, 0, none⟩ = some (.int .i64 n) ∧ W.cell? ⟨w.heap.size, 1, none⟩ = some v1 ∧ W.cell? ⟨W4.heap.size, 0, none⟩ = some (.int .i64 n) ∧ W.cell? ⟨W4.heap.size, 1, none⟩ = some (.slice a4 T.length k4)) (first | (exact keep4 (by assumption) (by assumption)) | (exact ⟨Ext.drew (Ext.refl _), c0, c1, d0, d1⟩)) (first | (go_at_call 39; refine (toTable_any _ _ _ _ (J6.out.ext (And.left (by assumption))) HL2.out).mono ?_; rintro e W7 ⟨u7, rfl, f7, x7⟩) | (go_at_call 42; refine (eqTable_same _ _ _ T _ (I6.out.ext (And.left (by assumption))) (FreshT.rows (by assumption))).mono ?_; rintro e W8 ⟨rfl, x8⟩))
        rename_i hH
        have x68 : Ext W6 W8 := hH.1
        obtain ⟨_, _, _, e0, e1⟩ := hH
        have l8 := L6.out.ext x68
        have f8 := F6.out.kept (Stood.of_ext x68 (by have := HZ.out; have := SZ6.out; omega))
        have z8 : W4.heap.size ≤ W8.heap.size := by have := HZ.out; have := SZ6.out; have := x68.size; omega
        have L8 := Lib.hid l8
        have F8 := Lib.hid f8
        have Z8 := Lib.hid z8
        clear x7 x8 f7 c0 c1 d0 d1 x68 l8 f8 z8 L6 F6 J6 I6
        go_wp2_with fail
        refine (markTable_any w3.heap.size W4.heap.size n _ T 1 _ F8.out Z8.out (by omega) (by omega) (by have := HL.out; omega)).mono ?_
        rintro e W9 ⟨rfl, k9⟩
        obtain ⟨q, hq⟩ : ∃ q, q = (1 : Int) + ((weighs T).sum : Int) := ⟨_, rfl⟩
        have hq0 : 0 ≤ q := by omega
        rw [← hq]
        have l9 := L8.out.ins k9 (by have := HZ.out; omega) (by have := HZ.out; omega) (by have := HZ.out; omega) (by have := HZ.out; omega) (by have := HZ.out; omega) (by have := HZ.out; omega)
        obtain ⟨p0, p1⟩ := l9.2.2.2.1
        obtain ⟨r0, r1⟩ := l9.2.2.2.2.2.1
        have L9 := Lib.hid l9
        clear k9 hq l9 L8 F8 e0 e1 Z8
        go_wp2_with fail
        refine (eqAttr_same _ _ _ L _ L9.out.2.2.2.2.2.2.1.ints L9.out.2.2.2.2.1.ints).mono ?_
        rintro e W10 ⟨rfl, x10⟩
        have l10 := L9.out.ext x10
        clear p0 p1 r0 r1
        obtain ⟨r0, r1⟩ := l10.2.2.2.2.2.1
        have L10 := Lib.hid l10
        clear x10 l10 L9
        have hdl : (L.length : Int) ≤ 5 := by have := HDL.out; omega
        go_wp2_with fail
        refine (markAttr_any w4.heap.size _ _ L 1 _ L10.out.2.2.2.2.2.2.1 (by omega) (by omega)).mono ?_
        rintro e W11 ⟨rfl, m11, t11⟩
        have l11 := L10.out.mark t11 m11 (by have := HZ.out; omega) (by have := HZ.out; omega) (by have := HZ.out; omega) (by have := HZ.out; omega)
        clear r0 r1
        obtain ⟨r0, r1⟩ := l11.2.2.2.2.2.1
        obtain ⟨m, hm⟩ : ∃ m, m = (1 : Int) + (L.length : Int) := ⟨_, rfl⟩
        have hm0 : 0 ≤ m := by omega
        rw [← hm]
        have L11 := Lib.hid l11
        have HM := Lib.hid hm
        clear t11 m11 l11 L10 hm
        go_wp2_with fail
        refine (heldAttr_yes _ _ L.length 1 _ L11.out.2.2.2.2.2.2.1.ints (by omega) (by omega)).mono ?_
        rintro e W12 ⟨rfl, x12⟩
        rw [← HM.out]
        have nm : (m != m) = false := by simp
        have l12 := L11.out.ext x12
        clear r0 r1
        obtain ⟨c0, c1⟩ := l12.2.1
        obtain ⟨q0, q1, q2, q3, q4⟩ := l12.2.2.1
        have L12 := Lib.hid l12
        have A1 := Lib.hid (HA0.out.ext l12.1)
        have sz12 : w.heap.size + 1 < W12.heap.size := World.block_lt_of_cell? W12 _ q0
        clear x12 l12 L11
        go_upto_region 24 with fail
        go_cut [18, 19] (fun s8 s9 wx => s9 = .bool g ∧ ∃ (b : Nat) (a : Option Addr) (k : Nat), s8 = .pointer (some ⟨b, 0, none⟩) ∧ AttrAt wx b s (.slice a L.length k) ∧ Fresh W12.heap.size wx (.slice a L.length k) L ∧ Ext W12 wx ∧ Off b (.slice a L.length k) ∧ W12.heap.size ≤ b)
        case first =>
          go_region_held3 (fun W => (W.cell? ⟨w.heap.size, 0, none⟩ = some (.int .i64 n) ∧ W.cell? ⟨w.heap.size, 1, none⟩ = some v1) ∧ W.cell? ⟨w.heap.size + 1, 0, none⟩ = some (.int .i64 ck) ∧ W.cell? ⟨w.heap.size + 1, 1, none⟩ = some (.int .i64 ci) ∧ W.cell? ⟨w.heap.size + 1, 2, none⟩ = some (.int .i64 cf) ∧ W.cell? ⟨w.heap.size + 1, 3, none⟩ = some (.int .i64 ct) ∧ W.cell? ⟨w.heap.size + 1, 4, none⟩ = some (.int .i64 ca)) (first | assumption | (exact ⟨⟨c0, c1⟩, q0, q1, q2, q3, q4⟩) | (exact keep7 (by assumption) (by assumption)) | (exact keep7 (Ext.alloc (Ext.refl _) _) (by assumption)) | (exact keep7A (by dsimp only; omega) (by dsimp only; omega) (by dsimp only; omega) (by dsimp only; omega) (by dsimp only; omega) (by dsimp only; omega) (by dsimp only; omega) (by assumption)) | (exact keep7S (by dsimp only; omega) (by dsimp only; omega) (by dsimp only; omega) (by dsimp only; omega) (by dsimp only; omega) (by dsimp only; omega) (by dsimp only; omega) (keep7S (by dsimp only; omega) (by dsimp only; omega) (by dsimp only; omega) (by dsimp only; omega) (by dsimp only; omega) (by dsimp only; omega) (by dsimp only; omega) (by assumption)))) (first | (go_at_call 39; refine (toTable_any _ _ _ _ (A1.out.ext (by repeat (first | assumption | exact Ext.refl _ | apply Ext.drew | apply Ext.alloc))) HL2.out).mono ?_; rintro e K3 ⟨u3, rfl, f3, x3⟩; have z3 := x3.size; (try simp at z3); (first | (have PB := Lib.hid (OpenAt.ext PB.out x3); obtain ⟨⟨p0, p1⟩, y0, y1⟩ := PB.out) | (have PB := Lib.hid (OpenAt.ext (openAt_new _ _ _ _) (by first | exact x3 | exact Ext.trans (Ext.drew (Ext.refl _)) x3)); obtain ⟨⟨p0, p1⟩, y0, y1⟩ := PB.out) | skip)) | (go_at_call 58; refine (toCmd_any _ _ _ _ _ _).mono ?_; rintro e K4 ⟨rfl, x4⟩; have z4 := x4.size; (try simp at z4); (first | (have PB := Lib.hid (OpenAt.ext PB.out x4); obtain ⟨⟨p0, p1⟩, y0, y1⟩ := PB.out) | (have PB := Lib.hid (OpenAt.ext (openAt_new _ _ _ _) (by first | exact x4 | exact Ext.trans (Ext.drew (Ext.refl _)) x4)); obtain ⟨⟨p0, p1⟩, y0, y1⟩ := PB.out) | skip)) | (go_at_call 59; refine (CI.out _ _ (Rowzz.ext (FreshT.rows f3) (by first | exact Ext.trans (by repeat (first | exact Ext.refl _ | apply Ext.drew | apply Ext.alloc)) (Ext.trans x4 (by repeat (first | exact Ext.refl _ | apply Ext.drew | apply Ext.alloc)))))).mono ?_; rintro e K5 ⟨u5, rfl, f5, x5⟩; obtain ⟨a5, k5, rfl⟩ := f5.form; have z5 := x5.size; (try simp at z5); (first | (have PB := Lib.hid (OpenAt.ext PB.out x5); obtain ⟨⟨p0, p1⟩, y0, y1⟩ := PB.out) | (have PB := Lib.hid (OpenAt.ext (openAt_new _ _ _ _) (by first | exact x5 | exact Ext.trans (Ext.drew (Ext.refl _)) x5)); obtain ⟨⟨p0, p1⟩, y0, y1⟩ := PB.out) | skip)))
          all_goals
            have e3 : Ext W12 K3 := Ext.trans (by repeat (first | exact Ext.refl _ | apply Ext.drew | apply Ext.alloc)) x3
            have e4 : Ext W12 K4 := e3.trans (Ext.trans (by repeat (first | exact Ext.refl _ | apply Ext.drew | apply Ext.alloc)) x4)
            have e5 : Ext W12 K5 := e4.trans (Ext.trans (by repeat (first | exact Ext.refl _ | apply Ext.drew | apply Ext.alloc)) x5)
            have F5 : Fresh W12.heap.size K5 (.slice a5 L.length k5) L := f5.more (by first | exact e4.size | (simp; omega))
            have hz4 := e4.size
            have hz3 := e3.size
            go_wp2_with fail
            go_meet
            refine ⟨rfl, _, a5, k5, rfl, ?_, ?_, ?_, ?_, ?_⟩
            · first | exact attrAt_new _ _ _ _ | (refine ⟨?_, ?_⟩ <;> go_simp)
            · first | exact F5.ext (Ext.alloc (Ext.refl _) _) | exact ((f5.set _ _ _ (by first | omega | (simp; done) | (simp; omega))).set _ _ _ (by first | omega | (simp; done) | (simp; omega))).more (by first | exact hz4 | omega | (simp; done) | (simp; omega))
            · first | exact e5.alloc _ | exact (e5.setc (by dsimp only; omega)).setc (by dsimp only; omega)
            · intro q hq
              have h5 := World.ownsRow.lt f5 q hq
              first | omega | (simp at h5; omega) | (simp at h5 ⊢; omega)
            · first | exact Nat.le_refl _ | exact e3.size | exact e4.size | exact e5.size | omega | (simp; omega)

        case rest =>
          obtain ⟨rfl, ge, ae, ke, rfl, hc, hf, hx, hoff, hge⟩ := hcut
          obtain ⟨w14, hw14⟩ : ∃ x : World, x = wc := ⟨_, rfl⟩
          subst hw14
          have l14 := L12.out.ext hx
          obtain ⟨p0, p1⟩ := l14.2.2.2.1
          obtain ⟨r0, r1⟩ := hc
          have F14 := Lib.hid hf
          have L14 := Lib.hid l14
          clear hf hx hoff hge l14 L12 c0 c1 q0 q1 q2 q3 q4
          go_wp2_with fail
          refine (eqAttr_same _ _ _ L _ F14.out.ints L14.out.2.2.2.2.1.ints).mono ?_
          rintro e W15 ⟨rfl, x15⟩
          have l15 := L14.out.ext x15
          clear p0 p1 r0 r1
          obtain ⟨r0, r1⟩ := l15.2.2.2.2.2.1
          have L15 := Lib.hid l15
          clear x15 l15 L14 F14
          go_wp2_with fail
          refine (heldAttr_yes _ _ L.length 1 _ L15.out.2.2.2.2.2.2.1.ints (by omega) (by omega)).mono ?_
          rintro e W16 ⟨rfl, x16⟩
          rw [← HM.out]
          have hx := L15.out.1.trans x16
          clear x16 r0 r1
          go_wp2
          go_ret
          exact ⟨rfl, hx⟩

/-! ### The frame -/
set_option maxRecDepth 100000 in
theorem lifted (os : Os) (started : os.Started) (H : Type) (enc : TypeId × Value → H) :
    ReturnsInHanded {} Try.checked os 11 .any (Rows.fnExactAttrForSpec.pre6 enc Try.prog Try.f11 Rows.fnExactAttrForRow.domain false) (Rows.fnExactAttrForSpec.post enc Try.prog Try.f11 false true false false) := by
  refine returnsInHanded_of_change (C := Try.checked) own started (by kernel_rfl) Try.func11
    (ChangeSpec.witness6 (enc := enc) (C := Try.checked) false ⟨#[], #[.agg #[.int .i64 0, .slice none 0 0], .agg #[.int .i64 0, .int .i64 0, .int .i64 0, .int .i64 0, .int .i64 0], .int .i64 0, .int .i64 0], []⟩ 8 (by kernel_rfl) (by kernel_rfl) (by kernel_rfl) (by kernel_rfl)) ?_
  intro W base args ds gs before hval0 hW hcnd _
  have hval : ∀ (j : Nat) t v, Try.f11.params[j]? = some t → args[j]? = some v → Value.okWide Try.prog W .any base t v := hval0
  have hW' := hW
  obtain ⟨p, q, hA0, hV, rfl, hfz, hnd⟩ := hW
  have hA : DataW.TrodAll enc Try.prog W 0 (fun _ => true) true Try.f11.params.toList args.toList ds p := hA0
  rw [Try.params11] at hA hval
  obtain ⟨v0, vs0, d0, ds0, p0, q0, hargs, rfl, rfl, h0, r0⟩ := trodAll_cons hA
  obtain ⟨v1, vs1, d1, ds1, p1, q1, rfl, rfl, rfl, h1, r1⟩ := trodAll_cons r0
  obtain ⟨v2, vs2, d2, ds2, p2, q2, rfl, rfl, rfl, h2, r2⟩ := trodAll_cons r1
  obtain ⟨v3, vs3, d3, ds3, p3, q3, rfl, rfl, rfl, h3, r3⟩ := trodAll_cons r2
  obtain ⟨rfl, rfl, rfl⟩ := trodAll_nil r3
  obtain rfl : args = #[v0, v1, v2, v3] := by cases args; simp_all
  obtain ⟨rfl, rfl⟩ := trodVars_none hV
  have k0 := h0
  have lt0 : ∀ x ∈ p0, x.block < W.heap.size := by obtain ⟨m, hm⟩ := k0; exact DataW.trod_lt m _ _ _ hm
  obtain ⟨n0, u0, l0, rfl, w0⟩ := open_table (hval 0 52 v0 rfl rfl) h0
  have k1 := h1
  have lt1 : ∀ x ∈ p1, x.block < W.heap.size := by obtain ⟨m, hm⟩ := k1; exact DataW.trod_lt m _ _ _ hm
  obtain ⟨k1', i1, f1, t1, m1, rfl, w1⟩ := open_cmd (hval 1 61 v1 rfl rfl) h1
  have k2 := h2
  have lt2 : ∀ x ∈ p2, x.block < W.heap.size := by obtain ⟨m, hm⟩ := k2; exact DataW.trod_lt m _ _ _ hm
  obtain ⟨a2, rfl, _, _, w2⟩ := open_int Try.underlying3 (hval 2 3 v2 rfl rfl) h2
  have k3 := h3
  have lt3 : ∀ x ∈ p3, x.block < W.heap.size := by obtain ⟨m, hm⟩ := k3; exact DataW.trod_lt m _ _ _ hm
  obtain ⟨a3, rfl, _, _, w3⟩ := open_int Try.underlying3 (hval 3 3 v3 rfl rfl) h3
  clear hA0 hval0
  refine (walk n0 u0 l0 k1' i1 f1 t1 m1 a2 a3 W w0 w1 w2 w3).mono fun e W' ⟨he, bel⟩ => ?_
  subst he
  exact ⟨_, rfl, _, _, _, [], _, [], hW', trodAll_mk1 (shut_bool Try.underlying4 _), (trodAll_cons_mk (Below.trod laidOut (by kernel_rfl) (of_decide_eq_true (by kernel_rfl)) k0 bel lt0) (trodAll_cons_mk (Below.trod laidOut (by kernel_rfl) (of_decide_eq_true (by kernel_rfl)) k1 bel lt1) (trodAll_cons_mk (Below.trod laidOut (by kernel_rfl) (of_decide_eq_true (by kernel_rfl)) k2 bel lt2) (trodAll_cons_mk (Below.trod laidOut (by kernel_rfl) (of_decide_eq_true (by kernel_rfl)) k3 bel lt3) trodAll_mk0)))), rfl, bel.frame _, fun h => by cases h⟩

theorem over : Rows.fnExactAttrForRow.holds Try.pinned (OpenSpec.ofChange Rows.fnExactAttrForSpec) :=
  OpenClaim.holds_of_wide 11 Try.f11 rfl rfl rfl rfl rfl rfl rfl ⟨rfl, rfl, rfl, rfl, rfl⟩ rfl rfl rfl rfl rfl (by kernel_rfl) Try.func11 (by kernel_rfl)
    (of_decide_eq_true (by kernel_rfl)) (by unfold Func.isWrapper; first | (rw [if_pos (by decide +kernel)]; kernel_rfl) | (rw [if_neg (by decide +kernel)]; exact ⟨rfl, rfl⟩))
    (fun os started H enc _ => lifted os started H enc)

/-- THE STATEMENT -/
theorem proved : Rows.FnExactAttrForSaid := over
#print axioms proved
end Go.Proofs.Ythnoeknalpnadaa.fnExactAttrFor
