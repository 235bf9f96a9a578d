/- What is proved: at every group size and attribute the function AttrText of the program answers as its model does, both results, and writes into no argument. The card ties the listed variables to the program's text. Conditions: none. -/
import Derived.Test.YtfadmcgaojnghaaDoorCards
import Derived.Test.YtfadmcgaojnghaaDoorTie
import Derived.Test.YtfadmcgaojnghaaDoorImplAttrText
import Derived.Test.YtfadmcgaojnghaaDoorLaidPow
import Derived.Test.YtfadmcgaojnghaaDoorFrameAttr
import Derived.WalkKit
import Derived.ProofKit
import Derived.OpenShut
import Derived.OpenVars
import Derived.Below
import Derived.Deep.DeepHandedRow
import Derived.Deep.DeepLaidRun
import Derived.Lib.LaidTab
import Derived.Stop.LaidErr
namespace Go.Proofs.YtfadmcgaojnghaaDoor.fnExactAttrText
open Go.ChangeShapes Go.WideShapes Go.ChangeAt Go.RowKit
set_option linter.unusedVariables false

theorem own : ownKnob Tryd.prog.godebug = none := by kernel_rfl
theorem laidOut : laidOutB Tryd.prog = true := by kernel_rfl

/-! ### The walk: the law's text returns true, and nothing that was there is turned. -/
set_option maxHeartbeats 2000000 in
theorem walk (a0 : Int) (s1 : Int) (v1 : Value) (l1 : List Int) (w : World) (w0 : wf64 a0) (w1 : wf64 s1 ∧ Ints w v1 l1 ∧ ∀ x ∈ l1, wf64 x) (hp : Pow w) :
    Calls Tryd.prog 5 #[.int .i64 a0, .agg #[.int .i64 s1, v1]] w fun e w' => e = .returned (.bool true) ∧ Ext w w' := by
  obtain ⟨_, hA, _⟩ := w1
  clear w0
  have HP := Lib.hid hp
  clear hp
  have x0 : Ext w (w.alloc (.cells #[.int .i64 s1, v1] 44)) := Ext.alloc (Ext.refl _) _
  have b0 := attrAt_new w 44 s1 v1
  obtain ⟨wb, hwb⟩ : ∃ wb, wb = w.alloc (.cells #[.int .i64 s1, v1] 44) := ⟨_, rfl⟩
  rw [← hwb] at x0 b0
  have HW := Lib.hid hwb
  clear hwb
  have hA := hA.ext x0
  by_cases h1 : (1048576 : Int) < l1.length
  · have L1 := Lib.hid (lessened_no h1)
    clear h1
    go_enter Tryd.func5, Tryd.ntmps5
    obtain ⟨c0, c1⟩ := b0
    go_wp2_with fail
    rw [← HW.out]
    refine (szAttr_any _ _ _ _ _ hA (by omega) (by omega)).mono ?_
    rintro e W1 ⟨rfl, x1⟩
    rw [L1.out]
    have y1 := x0.trans x1
    clear x0 x1 c0 c1
    go_wp2
    go_ret
    exact ⟨rfl, y1⟩
  · obtain ⟨r, hr⟩ : ∃ r, r = (1048576 : Int) - l1.length := ⟨_, rfl⟩
    have hr0 : 0 ≤ r := by omega
    have hl : l1.length ≤ 35184372088831 := by omega
    have L1 : Hid (lessened 1048576 l1.length = r) := Lib.hid (by rw [hr]; exact lessened_yes (by omega))
    have HL := Lib.hid hl
    clear h1 hr hl
    obtain ⟨g, hg⟩ : ∃ g, g = attrText a0 s1 l1 := ⟨_, rfl⟩
    obtain ⟨y, hy⟩ : ∃ y, y = goodA a0 s1 l1 := ⟨_, rfl⟩
    have cS : ∀ u W, Ints W u l1 → Calls Tryd.prog 25 #[.int .i64 a0, .agg #[.int .i64 s1, u]] W (TwoStr g y W) := fun u W h => by rw [hg, hy]; exact specAttrText_any _ _ _ _ _ h
    have cI : ∀ u W, Ints W u l1 → Pow W → Calls Tryd.prog 27 #[.int .i64 a0, .agg #[.int .i64 s1, u]] W (TwoStr g y W) := fun u W h h' => by rw [hg, hy]; exact implAttrText_any _ _ _ _ _ h h'
    have CS := Lib.hid cS
    have CI := Lib.hid cI
    have HB := Lib.hid b0
    clear cS cI hg hy b0
    go_enter Tryd.func5, Tryd.ntmps5
    go_wp2_with fail
    rw [← HW.out]
    refine (szAttr_any _ _ _ _ _ hA (by omega) (by omega)).mono ?_
    rintro e W1 ⟨rfl, x1⟩
    rw [L1.out]
    obtain ⟨c0, c1⟩ := HB.out.ext x1
    go_wp2_with fail
    refine (toAttr_any _ _ _ _ (hA.ext x1) HL.out).mono ?_
    rintro e W2 ⟨u2, rfl, f2, x2⟩
    clear c0 c1
    go_wp2_with fail
    refine (CS.out _ _ f2.ints).mono ?_
    rintro e W3 ⟨rfl, x3⟩
    have y3 : Ext wb W3 := (x1.trans x2).trans x3
    clear f2 x1 x2 x3
    obtain ⟨c0, c1⟩ := HB.out.ext y3
    go_wp2_with fail
    refine (toAttr_any _ _ _ _ (hA.ext y3) HL.out).mono ?_
    rintro e W4 ⟨u4, rfl, f4, x4⟩
    clear c0 c1
    obtain ⟨a4, k4, rfl⟩ := f4.form
    have F4 := Lib.hid f4
    have b4 := attrAt_new W4 47 s1 (.slice a4 l1.length k4)
    go_wp2_with fail
    refine (CI.out _ _ (F4.out.ints.ext (Ext.alloc (Ext.refl _) _)) (HP.out.ext (x0.trans ((y3.trans x4).trans (Ext.alloc (Ext.refl _) _))))).mono ?_
    rintro e W5 ⟨rfl, x5⟩
    have y5 : Ext wb W5 := ((y3.trans x4).trans (Ext.alloc (Ext.refl _) _)).trans x5
    obtain ⟨c0, c1⟩ := HB.out.ext y5
    obtain ⟨d0, d1⟩ := b4.ext x5
    have i5 : Ints W5 (.slice a4 l1.length k4) l1 := (F4.out.ints.ext (Ext.alloc (Ext.refl _) _)).ext x5
    have j5 : Ints W5 v1 l1 := hA.ext y5
    have HL' := HL.out
    have HI5 := Lib.hid i5
    have HJ5 := Lib.hid j5
    have X5 := Lib.hid (x0.trans y5)
    clear x4 x5 y3 y5 f4 b4 i5 j5 hA x0 HL'
    have ny : (y != y) = false := by simp
    go_wp2
    go_region_held3 (fun W => Ext W5 W ∧ W.cell? ⟨w.heap.size, 0, none⟩ = some (.int .i64 s1) ∧ W.cell? ⟨w.heap.size, 1, none⟩ = some v1 ∧ W.cell? ⟨W4.heap.size, 0, none⟩ = some (.int .i64 s1) ∧ W.cell? ⟨W4.heap.size, 1, none⟩ = some (.slice a4 l1.length k4)) (first | (exact keep4 (by assumption) (by assumption)) | (exact ⟨Ext.drew (Ext.refl _), c0, c1, d0, d1⟩)) (first | (go_at_call 26; refine (toAttr_any _ _ _ _ (HJ5.out.ext (And.left (by assumption))) HL.out).mono ?_; rintro e W6 ⟨u6, rfl, f6, x6⟩) | (go_at_call 28; refine (eqAttr_same _ _ _ _ _ (HI5.out.ext (And.left (by assumption))) (Fresh.ints (by assumption))).mono ?_; rintro e W7 ⟨rfl, x7⟩))
    rename_i hH
    have hx : Ext w W7 := X5.out.trans hH.1
    clear hH x6 x7 f6 c0 c1 d0 d1
    go_wp2
    go_ret
    exact ⟨rfl, hx⟩

/-! ### What the walk gives, for every argument and every world that holds the listed variables -/
set_option maxRecDepth 100000 in
theorem contract (H : Type) (enc : TypeId × Value → H) (W : World) (base : Nat) (args : Array Value) (ds gs : List (DataW H)) (before : List MemPlace)
    (hval : ∀ (j : Nat) t v, Tryd.f5.params[j]? = some t → args[j]? = some v → Value.okWide Tryd.prog W .any base t v)
    (hW : DataW.Whole enc Tryd.prog Tryd.f5.params.toList Rows.fnExactAttrTextSpec.vars false W args.toList ds gs before) (hL : laidMet Tryd.prog Rows.fnExactAttrTextRow.laid W) :
    Calls Tryd.prog 5 args W fun e W' => ∃ v, e = .returned v ∧ Rows.fnExactAttrTextSpec.post enc Tryd.prog Tryd.f5 false true false false W args v W' := by
  have hW' := hW
  obtain ⟨p, q, hA0, hV, rfl, hfz, hnd⟩ := hW
  have hA : DataW.TrodAll enc Tryd.prog W 0 (fun _ => true) true Tryd.f5.params.toList args.toList ds p := hA0
  rw [Tryd.params5] at hA hval
  obtain ⟨v0, vs0, d0, ds0, p0, q0, hargs, rfl, rfl, h0, r0⟩ := trodAll_cons hA
  obtain ⟨v1, vs1, d1, ds1, p1, q1, rfl, rfl, rfl, h1, r1⟩ := trodAll_cons r0
  obtain ⟨rfl, rfl, rfl⟩ := trodAll_nil r1
  obtain rfl : args = #[v0, v1] := by cases args; simp_all
  obtain ⟨rfl, rfl⟩ := trodVars_none hV
  have k0 := h0
  have lt0 : ∀ x ∈ p0, x.block < W.heap.size := by obtain ⟨m, hm⟩ := k0; exact DataW.trod_lt m _ _ _ hm
  obtain ⟨a0, rfl, _, _, w0⟩ := open_int Tryd.underlying3 (hval 0 3 v0 rfl rfl) h0
  have k1 := h1
  have lt1 : ∀ x ∈ p1, x.block < W.heap.size := by obtain ⟨m, hm⟩ := k1; exact DataW.trod_lt m _ _ _ hm
  obtain ⟨s1, u1, l1, rfl, w1⟩ := open_attr (hval 1 44 v1 rfl rfl) h1
  have hf0 : Pow W := Pow_of (rest := _) (hL.tail.tail)
  clear hA0
  refine (walk a0 s1 u1 l1 W w0 w1 hf0).mono fun e W' ⟨he, bel⟩ => ?_
  subst he
  exact ⟨_, rfl, _, _, _, [], _, _, hW', trodAll_mk1 (shut_bool Tryd.underlying4 _), (trodAll_cons_mk (Below.trod laidOut (by kernel_rfl) (of_decide_eq_true (by kernel_rfl)) k0 bel lt0) (trodAll_cons_mk (Below.trod laidOut (by kernel_rfl) (of_decide_eq_true (by kernel_rfl)) k1 bel lt1) trodAll_mk0)), rfl, bel.frame _, fun h => by cases h⟩

/-! ### A world for the witness: the settled one, the listed variables holding what their initialisers lay -/
def put (g : Nat) (cs : Array Value) (w : World) : World := { w with heap := w.heap.modify g fun o => match o with | .cells _ t frozen => .cells cs t frozen | o => o }
noncomputable def laidWorld (os : Os) : World := (put 2 #[.int .u64 1, .int .u64 10, .int .u64 100, .int .u64 1000, .int .u64 10000, .int .u64 100000, .int .u64 1000000, .int .u64 10000000, .int .u64 100000000, .int .u64 1000000000, .int .u64 10000000000, .int .u64 100000000000, .int .u64 1000000000000, .int .u64 10000000000000, .int .u64 100000000000000, .int .u64 1000000000000000, .int .u64 10000000000000000, .int .u64 100000000000000000, .int .u64 1000000000000000000, .int .u64 10000000000000000000] (put 8 #[.int .u8 0, .int .u8 1, .int .u8 56, .int .u8 2, .int .u8 57, .int .u8 49, .int .u8 28, .int .u8 3, .int .u8 61, .int .u8 58, .int .u8 42, .int .u8 50, .int .u8 38, .int .u8 29, .int .u8 17, .int .u8 4, .int .u8 62, .int .u8 47, .int .u8 59, .int .u8 36, .int .u8 45, .int .u8 43, .int .u8 51, .int .u8 22, .int .u8 53, .int .u8 39, .int .u8 33, .int .u8 30, .int .u8 24, .int .u8 18, .int .u8 12, .int .u8 5, .int .u8 63, .int .u8 55, .int .u8 48, .int .u8 27, .int .u8 60, .int .u8 41, .int .u8 37, .int .u8 16, .int .u8 46, .int .u8 35, .int .u8 44, .int .u8 21, .int .u8 52, .int .u8 32, .int .u8 23, .int .u8 11, .int .u8 54, .int .u8 26, .int .u8 40, .int .u8 15, .int .u8 34, .int .u8 20, .int .u8 31, .int .u8 10, .int .u8 25, .int .u8 14, .int .u8 19, .int .u8 9, .int .u8 13, .int .u8 8, .int .u8 7, .int .u8 6] (put 7 #[.int .u8 0, .int .u8 1, .int .u8 28, .int .u8 2, .int .u8 29, .int .u8 14, .int .u8 24, .int .u8 3, .int .u8 30, .int .u8 22, .int .u8 20, .int .u8 15, .int .u8 25, .int .u8 17, .int .u8 4, .int .u8 8, .int .u8 31, .int .u8 27, .int .u8 13, .int .u8 23, .int .u8 21, .int .u8 19, .int .u8 16, .int .u8 7, .int .u8 26, .int .u8 12, .int .u8 18, .int .u8 6, .int .u8 11, .int .u8 5, .int .u8 10, .int .u8 9] (World.holding Tryd.prog os ⟨#[], #[], []⟩))))
theorem laid_met (os : Os) : laidMet Tryd.prog Rows.fnExactAttrTextRow.laid ((laidWorld os).forCall (fun _ _ => 0) ⟨#[], #[.int .i64 0, .agg #[.int .i64 0, .slice none 0 0]], []⟩).memory :=
  laidMet_of_run3 8 (by kernel_rfl) (by kernel_rfl) (by kernel_rfl)
theorem reads (os : Os) {H : Type} (enc : TypeId × Value → H) : ∃ places, DataW.whole enc Tryd.prog ((laidWorld os).forCall (fun _ _ => 0) ⟨#[], #[.int .i64 0, .agg #[.int .i64 0, .slice none 0 0]], []⟩).memory Tryd.f5.params.toList Rows.fnExactAttrTextSpec.vars false (#[(.int .i64 0 : Value), (.agg #[.int .i64 0, .slice none 0 0] : Value)]).toList 8 = some ([.lit (.int .i64 0), .agg [.lit (.int .i64 0), .nil]], [], places) :=
  ⟨((DataW.whole enc Tryd.prog ((laidWorld os).forCall (fun _ _ => 0) ⟨#[], #[.int .i64 0, .agg #[.int .i64 0, .slice none 0 0]], []⟩).memory Tryd.f5.params.toList Rows.fnExactAttrTextSpec.vars false (#[(.int .i64 0 : Value), (.agg #[.int .i64 0, .slice none 0 0] : Value)]).toList 8).map fun x => x.2.2).getD [], by kernel_rfl⟩

set_option maxRecDepth 100000 in
theorem lifted (os : Os) (started : os.Started) (H : Type) (enc : TypeId × Value → H) (F : Stop.Interp) :
    ReturnsInHanded {} Tryd.checked os 5 .any ((OpenSpec.ofChange Rows.fnExactAttrTextSpec).preRow enc Tryd.prog Tryd.f5 Rows.fnExactAttrTextRow.domain false Rows.fnExactAttrTextRow.laid) (((OpenSpec.ofChange Rows.fnExactAttrTextSpec).at F).post enc Tryd.prog Tryd.f5 false true false false) := by
  obtain ⟨places, hx⟩ := reads os enc
  refine returnsInHanded_of_row (C := Tryd.checked) (s := OpenSpec.ofChange Rows.fnExactAttrTextSpec) own started (by kernel_rfl) Tryd.func5
    (witness_row_at (enc := enc) (C := Tryd.checked) false (laidWorld os) #[.int .i64 0, .agg #[.int .i64 0, .slice none 0 0]] rfl (by kernel_rfl) (by kernel_rfl) (by kernel_rfl)
      (OpenSpec.preRow_of_cond 8 hx (by kernel_rfl) (fun k hk => by cases hk) (by kernel_rfl) (laid_met os))) ?_
  intro W base args ds gs before hval hW _ _ _ hL _ _
  exact contract H enc W base args ds gs before hval hW hL

theorem said : Rows.FnExactAttrTextSaid :=
  OpenClaim.holds_of_cond 5 Tryd.f5 rfl rfl rfl rfl rfl rfl rfl ⟨rfl, rfl, rfl, rfl, rfl⟩ rfl rfl rfl rfl rfl (by kernel_rfl) Tryd.func5 (by kernel_rfl)
    (of_decide_eq_true (by kernel_rfl)) (by unfold Func.isWrapper; first | (rw [if_pos (by decide +kernel)]; kernel_rfl) | (rw [if_neg (by decide +kernel)]; exact ⟨rfl, rfl⟩))
    (fun os started H enc _ F => by rw [OpenClaim.pre_eq_preRow]; exact lifted os started H enc F)

/-- No parameter wants a stand-in; the program's own looks are off. -/
theorem plain (f : FuncId) (fn : Func) (hf : Tryd.pinned.checked.prog.funcNamed Rows.fnExactAttrTextRow.func = some f) (hfn : Tryd.pinned.checked.prog.funcs[f]? = some fn) :
    true = Tryd.pinned.checked.prog.looks [] ∧ ∀ (j : Nat) t, fn.params[j]? = some t → Tryd.pinned.checked.prog.wantsStandIn t = false := by
  obtain rfl : f = 5 := Option.some.inj ((show Tryd.prog.funcNamed Rows.fnExactAttrTextRow.func = some 5 by kernel_rfl).symm.trans hf) |>.symm
  obtain rfl : fn = Tryd.f5 := (Option.some.inj (Tryd.func5.symm.trans hfn)).symm
  refine ⟨by kernel_rfl, fun j t ht => ?_⟩
  rw [Tryd.params5] at ht
  have hm := Array.mem_of_getElem? ht
  simp only [List.mem_toArray, List.mem_cons, List.mem_nil_iff, or_false] at hm
  rcases hm with rfl | rfl
  · exact (show Tryd.prog.wantsStandIn 3 = false by kernel_rfl)
  · exact (show Tryd.prog.wantsStandIn 44 = false by kernel_rfl)

/-- THE CARD -/
theorem card : Rows.FnExactAttrTextCardSaid :=
  Claim7.holds_tied_plain_at .later [] _ _ _ _ said (fun _ h => by cases h) (by kernel_rfl) (fun _ h => by cases h) fnExactAttrText_row_tie rfl ⟨rfl, rfl⟩ (by kernel_rfl) rfl plain (by kernel_rfl)
#print axioms card
end Go.Proofs.YtfadmcgaojnghaaDoor.fnExactAttrText
