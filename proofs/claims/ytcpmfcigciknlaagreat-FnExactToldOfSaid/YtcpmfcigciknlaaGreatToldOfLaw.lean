/- What is proved: at every table and instance the function ToldOf of the program answers as its model does, every field, and writes into no argument. Conditions: none. -/
import Derived.Test.YtcpmfcigciknlaaGreatRows
import Derived.Test.YtcpmfcigciknlaaGreatNBookOfx
import Derived.Test.YtcpmfcigciknlaaGreatNBookOfp
import Derived.Test.YtcpmfcigciknlaaGreatNBookOfd
import Derived.Test.YtcpmfcigciknlaaGreatNBookOfb
import Derived.Deep.DeepCutAuto
import Derived.WalkKit
import Derived.ProofKit
import Derived.OpenShut
import Derived.ShutString
import Derived.ChangeOld
import Derived.Below
namespace Go.Proofs.YtcpmfcigciknlaaGreat.fnExactToldOf
open Go.ChangeShapes Go.WideShapes Go.ChangeAt Go.RowKit
set_option linter.unusedVariables false

theorem own : ownKnob Tryz.prog.godebug = none := by kernel_rfl
theorem laidOut : laidOutB Tryz.prog = true := by kernel_rfl

/-! ### The walk: the law's text returns true, and nothing that was there is turned. -/
set_option maxHeartbeats 8000000 in
set_option maxRecDepth 100000 in
theorem walk (n : Int) (v1 : Value) (T : List (List RowD)) (rep no : Int) (w : World) (w1 : wf64 n ∧ Rowzz w v1 T) (w2 : wf64 rep) (w3 : wf64 no) :
    Calls Tryz.prog 4 #[.agg #[.int .i64 n, v1], .int .i64 rep, .int .i64 no] w fun e w' => e = .returned (.bool true) ∧ Ext w w' := by
  obtain ⟨_, hA⟩ := w1
  clear w2 w3
  have x0 : Ext w (w.alloc (.cells #[.int .i64 n, v1] 24)) := Ext.alloc (Ext.refl _) _
  have b0 := attrAt_new w 24 n v1
  obtain ⟨wb, hwb⟩ : ∃ wb, wb = w.alloc (.cells #[.int .i64 n, v1] 24) := ⟨_, rfl⟩
  rw [← hwb] at x0 b0
  have HW := Lib.hid hwb
  clear hwb
  have hA := hA.ext x0
  by_cases h1 : (1048576 : Int) < bulkT T
  · have L1 := Lib.hid (lessened_no h1)
    clear h1
    go_enter Tryz.func4, Tryz.ntmps4
    obtain ⟨c0, c1⟩ := b0
    go_wp2_with fail
    rw [← HW.out]
    refine (szTable_any _ _ _ _ _ hA (by omega) (by omega)).mono ?_
    rintro e W1 ⟨rfl, x1⟩
    rw [L1.out]
    have y1 := x0.trans x1
    clear x0 x1 c0 c1
    go_wp2
    go_ret
    exact ⟨rfl, y1⟩
  · obtain ⟨r, hr⟩ : ∃ r, r = (1048576 : Int) - bulkT T := ⟨_, rfl⟩
    have hr0 : 0 ≤ r := by omega
    have hl : bulkT T ≤ 1099511627776 := by omega
    have L1 : Hid (lessened 1048576 (bulkT T) = r) := Lib.hid (by rw [hr]; exact lessened_yes (by omega))
    have HL := Lib.hid hl
    clear h1 hr hl
    obtain ⟨g, hg⟩ : ∃ g, g = toldK (bookER n T) rep no := ⟨_, rfl⟩
    obtain ⟨x, hxv⟩ : ∃ x, x = toldC (bookER n T) rep no := ⟨_, rfl⟩
    obtain ⟨y, hyv⟩ : ∃ x, x = toldS (bookER n T) rep no := ⟨_, rfl⟩
    have cS : ∀ u W, Rowzz W u T → Calls Tryz.prog 19 #[.agg #[.int .i64 n, u], .int .i64 rep, .int .i64 no] W (ToldRes x y g W) := fun u W h => by rw [hg, hxv, hyv]; exact specTold_any _ _ _ _ _ _ h
    have cI : ∀ u W, Rowzz W u T → Calls Tryz.prog 20 #[.agg #[.int .i64 n, u], .int .i64 rep, .int .i64 no] W (ToldRes x y g W) := fun u W h => by rw [hg, hxv, hyv]; exact implTold_any _ _ _ _ _ _ h HL.out
    have CS := Lib.hid cS
    have CI := Lib.hid cI
    have HB := Lib.hid b0
    clear cS cI hg hxv hyv b0
    go_enter Tryz.func4, Tryz.ntmps4
    go_wp2_with fail
    rw [← HW.out]
    refine (szTable_any _ _ _ _ _ hA (by omega) (by omega)).mono ?_
    rintro e W1 ⟨rfl, x1⟩
    rw [L1.out]
    obtain ⟨c0, c1⟩ := HB.out.ext x1
    go_wp2_with fail
    refine (toTable_any _ _ _ _ (hA.ext x1) HL.out).mono ?_
    rintro e W2 ⟨u2, rfl, f2, x2⟩
    clear c0 c1
    go_wp2_with fail
    refine (CS.out _ _ f2.rows).mono ?_
    rintro e W3 ⟨rfl, x3⟩
    obtain ⟨W3b, hW3⟩ : ∃ z, z = W3.alloc (.cells #[.int .i64 x, .int .i64 y] 42) := ⟨_, rfl⟩
    have x3b : Ext W3 W3b := by rw [hW3]; exact Ext.alloc (Ext.refl _) _
    have bx3 : BoxV W3b W3.heap.size [.int .i64 x, .int .i64 y] := by rw [hW3]; exact boxV_new W3 [.int .i64 x, .int .i64 y] 42
    have y3 : Ext wb W3b := ((x1.trans x2).trans x3).trans x3b
    have HW3 := Lib.hid hW3
    have BX3 := Lib.hid bx3
    clear f2 x1 x2 x3 x3b bx3
    obtain ⟨c0, c1⟩ := HB.out.ext y3
    rw [hW3] at c0 c1
    clear hW3
    go_wp2_with fail
    rw [← HW3.out]
    refine (toTable_any _ _ _ _ (hA.ext y3) HL.out).mono ?_
    rintro e W4 ⟨u4, rfl, f4, x4⟩
    clear c0 c1
    obtain ⟨a4, k4, rfl⟩ := f4.form
    have F4 := Lib.hid f4.rows
    have b4 := attrAt_new W4 32 n (.slice a4 T.length k4)
    have B4 := Lib.hid b4
    have BX4 := Lib.hid (BX3.out.ext x4)
    have Y4 := Lib.hid (y3.trans x4)
    clear b4 x4 y3 f4 BX3
    go_wp2_with fail
    refine (CI.out _ _ (F4.out.ext (Ext.alloc (Ext.refl _) _))).mono ?_
    rintro e W5 ⟨rfl, x5⟩
    obtain ⟨W5b, hW5⟩ : ∃ z, z = W5.alloc (.cells #[.int .i64 x, .int .i64 y] 42) := ⟨_, rfl⟩
    have x5b : Ext W5 W5b := by rw [hW5]; exact Ext.alloc (Ext.refl _) _
    have bx5 : BoxV W5b W5.heap.size [.int .i64 x, .int .i64 y] := by rw [hW5]; exact boxV_new W5 [.int .i64 x, .int .i64 y] 42
    have z5 := (Ext.alloc (Ext.refl W4) (.cells #[.int .i64 n, .slice a4 T.length k4] 32)).trans (x5.trans x5b)
    have p0 := bx5.cell 0 _ rfl
    have p1 := bx5.cell 1 _ rfl
    have q0 := (BX4.out.ext z5).cell 0 _ rfl
    have q1 := (BX4.out.ext z5).cell 1 _ rfl
    rw [hW5] at p0 p1 q0 q1
    have B5 := Lib.hid (B4.out.ext (x5.trans x5b))
    have Z5 := Lib.hid z5
    have HW5 := Lib.hid hW5
    clear hW5 x5b bx5 x5 z5 B4 BX4
    go_wp2_with fail
    rw [← HW5.out]
    refine (eqTold_same _ _ _).mono ?_
    rintro e W6 ⟨rfl, x6⟩
    clear p0 p1 q0 q1
    have y6 : Ext wb W6 := (Y4.out.trans Z5.out).trans x6
    obtain ⟨c0, c1⟩ := HB.out.ext y6
    obtain ⟨d0, d1⟩ := B5.out.ext x6
    have HI5 := Lib.hid (F4.out.ext (Z5.out.trans x6))
    have HJ5 := Lib.hid (hA.ext y6)
    have X6 := Lib.hid (x0.trans y6)
    clear x6 y6 hA x0 B5 Z5 Y4 F4
    have ng : (g != g) = false := by simp
    go_wp2
    go_region_held3 (fun W => Ext W6 W ∧ W.cell? ⟨w.heap.size, 0, none⟩ = some (.int .i64 n) ∧ W.cell? ⟨w.heap.size, 1, none⟩ = some v1 ∧ W.cell? ⟨W4.heap.size, 0, none⟩ = some (.int .i64 n) ∧ W.cell? ⟨W4.heap.size, 1, none⟩ = some (.slice a4 T.length k4)) (first | (exact keep4 (by assumption) (by assumption)) | (exact ⟨Ext.drew (Ext.refl _), c0, c1, d0, d1⟩)) (first | (go_at_call 9; refine (toTable_any _ _ _ _ (HJ5.out.ext (And.left (by assumption))) HL.out).mono ?_; rintro e W7 ⟨u7, rfl, f7, x7⟩) | (go_at_call 13; refine (eqTable_same _ _ _ T _ (HI5.out.ext (And.left (by assumption))) (FreshT.rows (by assumption))).mono ?_; rintro e W8 ⟨rfl, x8⟩))
    rename_i hH
    have hx : Ext w W8 := X6.out.trans hH.1
    clear hH x7 x8 f7 c0 c1 d0 d1
    go_wp2
    go_ret
    exact ⟨rfl, hx⟩

/-! ### The frame -/
set_option maxRecDepth 100000 in
theorem lifted (os : Os) (started : os.Started) (H : Type) (enc : TypeId × Value → H) :
    ReturnsInHanded {} Tryz.checked os 4 .any (Rows.fnExactToldOfSpec.pre6 enc Tryz.prog Tryz.f4 Rows.fnExactToldOfRow.domain false) (Rows.fnExactToldOfSpec.post enc Tryz.prog Tryz.f4 false true false false) := by
  refine returnsInHanded_of_change (C := Tryz.checked) own started (by kernel_rfl) Tryz.func4
    (ChangeSpec.witness6 (enc := enc) (C := Tryz.checked) false ⟨#[], #[.agg #[.int .i64 0, .slice none 0 0], .int .i64 0, .int .i64 0], []⟩ 8 (by kernel_rfl) (by kernel_rfl) (by kernel_rfl) (by kernel_rfl)) ?_
  intro W base args ds gs before hval0 hW hcnd _
  have hval : ∀ (j : Nat) t v, Tryz.f4.params[j]? = some t → args[j]? = some v → Value.okWide Tryz.prog W .any base t v := hval0
  have hW' := hW
  obtain ⟨p, q, hA0, hV, rfl, hfz, hnd⟩ := hW
  have hA : DataW.TrodAll enc Tryz.prog W 0 (fun _ => true) true Tryz.f4.params.toList args.toList ds p := hA0
  rw [Tryz.params4] at hA hval
  obtain ⟨v0, vs0, d0, ds0, p0, q0, hargs, rfl, rfl, h0, r0⟩ := trodAll_cons hA
  obtain ⟨v1, vs1, d1, ds1, p1, q1, rfl, rfl, rfl, h1, r1⟩ := trodAll_cons r0
  obtain ⟨v2, vs2, d2, ds2, p2, q2, rfl, rfl, rfl, h2, r2⟩ := trodAll_cons r1
  obtain ⟨rfl, rfl, rfl⟩ := trodAll_nil r2
  obtain rfl : args = #[v0, v1, v2] := by cases args; simp_all
  obtain ⟨rfl, rfl⟩ := trodVars_none hV
  have k0 := h0
  have lt0 : ∀ x ∈ p0, x.block < W.heap.size := by obtain ⟨m, hm⟩ := k0; exact DataW.trod_lt m _ _ _ hm
  obtain ⟨n0, u0, l0, rfl, w0⟩ := open_table (hval 0 24 v0 rfl rfl) h0
  have k1 := h1
  have lt1 : ∀ x ∈ p1, x.block < W.heap.size := by obtain ⟨m, hm⟩ := k1; exact DataW.trod_lt m _ _ _ hm
  obtain ⟨a1, rfl, _, _, w1⟩ := open_int Tryz.underlying3 (hval 1 3 v1 rfl rfl) h1
  have k2 := h2
  have lt2 : ∀ x ∈ p2, x.block < W.heap.size := by obtain ⟨m, hm⟩ := k2; exact DataW.trod_lt m _ _ _ hm
  obtain ⟨a2, rfl, _, _, w2⟩ := open_int Tryz.underlying3 (hval 2 3 v2 rfl rfl) h2
  clear hA0 hval0
  refine (walk n0 u0 l0 a1 a2 W w0 w1 w2).mono fun e W' ⟨he, bel⟩ => ?_
  subst he
  exact ⟨_, rfl, _, _, _, [], _, [], hW', trodAll_mk1 (shut_bool Tryz.underlying4 _), (trodAll_cons_mk (Below.trod laidOut (by kernel_rfl) (of_decide_eq_true (by kernel_rfl)) k0 bel lt0) (trodAll_cons_mk (Below.trod laidOut (by kernel_rfl) (of_decide_eq_true (by kernel_rfl)) k1 bel lt1) (trodAll_cons_mk (Below.trod laidOut (by kernel_rfl) (of_decide_eq_true (by kernel_rfl)) k2 bel lt2) trodAll_mk0))), rfl, bel.frame _, fun h => by cases h⟩

theorem over : Rows.fnExactToldOfRow.holds Tryz.pinned (OpenSpec.ofChange Rows.fnExactToldOfSpec) :=
  OpenClaim.holds_of_wide 4 Tryz.f4 rfl rfl rfl rfl rfl rfl rfl ⟨rfl, rfl, rfl, rfl, rfl⟩ rfl rfl rfl rfl rfl (by kernel_rfl) Tryz.func4 (by kernel_rfl)
    (of_decide_eq_true (by kernel_rfl)) (by unfold Func.isWrapper; first | (rw [if_pos (by decide +kernel)]; kernel_rfl) | (rw [if_neg (by decide +kernel)]; exact ⟨rfl, rfl⟩))
    (fun os started H enc _ => lifted os started H enc)

/-- THE STATEMENT -/
theorem proved : Rows.FnExactToldOfSaid := over
#print axioms proved
end Go.Proofs.YtcpmfcigciknlaaGreat.fnExactToldOf
