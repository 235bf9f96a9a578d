/- What is proved: at every group size and every text the function ReadAttr of the program answers as its model does, both results, in memory of its own. The card ties the listed variables to the program's text. Conditions: none. -/
import Derived.Test.YtfadmcgaojnghaaDoorCards
import Derived.Test.YtfadmcgaojnghaaDoorTie
import Derived.Test.YtfadmcgaojnghaaDoorReadJoinA
import Derived.Test.YtfadmcgaojnghaaDoorLaidReadA
import Derived.Test.YtfadmcgaojnghaaDoorFrameStr
import Derived.Lay
import Derived.Deep.DeepWitnessRowRef
import Derived.WalkKit
import Derived.ProofKit
import Derived.OpenShut
import Derived.OpenVars
import Derived.Below
import Derived.Deep.DeepHandedRow
import Derived.Deep.DeepLaidRun
import Derived.Lib.LaidTab
import Derived.Stop.LaidErr
namespace Go.Proofs.YtfadmcgaojnghaaDoor.fnExactReadAttr
open Go.ChangeShapes Go.WideShapes Go.ChangeAt Go.RowKit
set_option linter.unusedVariables false

theorem own : ownKnob Tryd.prog.godebug = none := by kernel_rfl
theorem laidOut : laidOutB Tryd.prog = true := by kernel_rfl

/-! ### The walk: the law's text returns true, and nothing that was there is turned. -/
set_option maxRecDepth 100000 in
set_option maxHeartbeats 4000000 in
theorem walk (a0 : Int) (s1 : ByteArray) (w : World) (w0 : wf64 a0) (w1 : s1.size ≤ maxLen) (hp : Pow w) (he : ErrAt w) (hmx : LongAt w) :
    Calls Tryd.prog 6 #[.int .i64 a0, .string s1] w fun e w' => e = .returned (.bool true) ∧ Ext w w' := by
  clear w0
  unfold maxLen at w1
  by_cases hs : 1048576 < s1.size
  · clear hp he hmx
    go_enter Tryd.func6, Tryd.ntmps6
    go_wp2
    go_ret
    exact ⟨rfl, Ext.refl _⟩
  · have hs' : s1.size ≤ 1048576 := by omega
    obtain ⟨S, A, b, hAl, cS, cI⟩ := readA_same a0 s1 hs'
    have CS := Lib.hid cS
    have CI := Lib.hid (fun W h => cI W (hp.ext h) (he.ext h) (hmx.ext h))
    have HAL := Lib.hid hAl
    have nb : (b != b) = false := by simp
    clear hp he hmx cS cI hAl hs
    go_enter Tryd.func6, Tryd.ntmps6
    go_wp2_with fail
    refine (CS.out _).mono ?_
    rintro e W1 ⟨v1, rfl, f1, x1⟩
    obtain ⟨a1, k1, rfl⟩ := f1.form
    have b1 := attrAt_new W1 47 S (.slice a1 A.length k1)
    have F1 := Lib.hid f1
    have hsz : w.heap.size ≤ W1.heap.size := x1.size
    clear f1
    go_wp2_with fail
    refine (CI.out _ (x1.alloc (.cells #[.int .i64 S, .slice a1 A.length k1] 47))).mono ?_
    rintro e W2 ⟨v2, rfl, f2, x2⟩
    obtain ⟨a2, k2, rfl⟩ := f2.form
    have z1 : (W1.alloc (.cells #[.int .i64 S, .slice a1 A.length k1] 47)).heap.size = W1.heap.size + 1 := by simp
    have xx : Ext W1 W2 := (Ext.alloc (Ext.refl _) _).trans x2
    have b1 := b1.ext x2
    rw [z1] at f2
    have F2 := Lib.hid f2
    have b2 := attrAt_new W2 47 S (.slice a2 A.length k2)
    have b1' := b1.ext (Ext.alloc (Ext.refl W2) (.cells #[.int .i64 S, .slice a2 A.length k2] 47))
    have q1 : W1.heap.size < W2.heap.size := World.block_lt_of_cell? W2 _ b1.1
    have q2 : W1.heap.size ≠ W2.heap.size := by omega
    have S2 := Lib.hid (F1.out.ext (xx.trans (Ext.alloc (Ext.refl W2) (.cells #[.int .i64 S, .slice a2 A.length k2] 47))))
    have G2 := Lib.hid (F2.out.ext (Ext.alloc (Ext.refl W2) (.cells #[.int .i64 S, .slice a2 A.length k2] 47)))
    have X2 := Lib.hid ((x1.trans xx).trans (Ext.alloc (Ext.refl W2) (.cells #[.int .i64 S, .slice a2 A.length k2] 47)))
    have B1 := Lib.hid b1'
    have B2 := Lib.hid b2
    have ap := F1.out.apart' F2.out (by omega)
    have AP := Lib.hid ap
    obtain ⟨c0, c1⟩ := b1
    clear f2 x1 x2 xx z1 b1' b2 ap
    go_wp2_with fail
    refine (eqAttr_same _ _ _ A _ G2.out.ints S2.out.ints).mono ?_
    rintro e W3 ⟨rfl, x3⟩
    have S3 := Lib.hid (S2.out.ext x3)
    have G3 := Lib.hid (G2.out.ext x3)
    have X3 := Lib.hid (X2.out.trans x3)
    have B13 := Lib.hid (B1.out.ext x3)
    have B23 := Lib.hid (B2.out.ext x3)
    clear c0 c1 x3
    obtain ⟨c0, c1⟩ := B13.out
    obtain ⟨d0, d1⟩ := B23.out
    go_wp2_with fail
    refine (markAttr_any _ _ _ A 1 _ G3.out (by omega) (by have := HAL.out; omega)).mono ?_
    rintro e W4 ⟨rfl, f4, t4⟩
    have hm0 : (0 : Int) ≤ 1 + (A.length : Int) := by omega
    have hm1 : (A.length : Int) ≤ 5 := by have := HAL.out; omega
    have c0 := cell_marked F2.out t4 c0 (.inl (by omega))
    have c1 := cell_marked F2.out t4 c1 (.inl (by omega))
    have d0 := cell_marked F2.out t4 d0 (.inr (Nat.le_refl _))
    have d1 := cell_marked F2.out t4 d1 (.inr (Nat.le_refl _))
    have S4 := Lib.hid (S3.out.touch t4 AP.out)
    have X4 := Lib.hid (X3.out.touch (G3.out.more (by omega)) t4)
    have F4 := Lib.hid f4
    clear f4 t4
    go_wp2_with fail
    refine (heldAttr_yes _ _ _ _ _ F4.out.ints (by omega) (by omega)).mono ?_
    rintro e W5 ⟨rfl, x5⟩
    have c0 := x5.cell c0
    have c1 := x5.cell c1
    have d0 := x5.cell d0
    have d1 := x5.cell d1
    have n1 : ((1 + (A.length : Int)) != 1 + (A.length : Int)) = false := by simp
    go_wp2_with fail
    refine (CI.out _ (X4.out.trans x5)).mono ?_
    rintro e W6 ⟨v6, rfl, f6, x6⟩
    obtain ⟨a6, k6, rfl⟩ := f6.form
    have b6 := attrAt_new W6 47 S (.slice a6 A.length k6)
    have c0 := x6.cell c0
    have c1 := x6.cell c1
    have d0 := x6.cell d0
    have d1 := x6.cell d1
    have q3 : W1.heap.size < W6.heap.size := World.block_lt_of_cell? W6 _ c0
    have q4 : W1.heap.size ≠ W6.heap.size := by omega
    have q5 : W2.heap.size < W6.heap.size := World.block_lt_of_cell? W6 _ d0
    have q6 : W2.heap.size ≠ W6.heap.size := by omega
    have xx := (x5.trans x6).trans (Ext.alloc (Ext.refl W6) (.cells #[.int .i64 S, .slice a6 A.length k6] 47))
    have S6 := Lib.hid (S4.out.ext xx)
    have G6 := Lib.hid (F4.out.ext xx)
    have X6 := Lib.hid (X4.out.trans xx)
    have H6 := Lib.hid (f6.ext (Ext.alloc (Ext.refl W6) (.cells #[.int .i64 S, .slice a6 A.length k6] 47)))
    have D := Lib.hid (And.intro ((Ext.alloc (Ext.refl W6) (.cells #[.int .i64 S, .slice a6 A.length k6] 47)).cell d0) ((Ext.alloc (Ext.refl W6) (.cells #[.int .i64 S, .slice a6 A.length k6] 47)).cell d1))
    clear x5 x6 f6 xx
    go_wp2_with fail
    refine (eqAttr_same _ _ _ A _ H6.out.ints S6.out.ints).mono ?_
    rintro e W7 ⟨rfl, x7⟩
    have d0' := x7.cell D.out.1
    have d1' := x7.cell D.out.2
    have G7 := Lib.hid (G6.out.ext x7)
    have X7 := Lib.hid (X6.out.trans x7)
    clear x7 c0 c1 d0 d1 b6
    go_wp2_with fail
    refine (heldAttr_yes _ _ _ _ _ G7.out.ints (by omega) (by omega)).mono ?_
    rintro e W8 ⟨rfl, x8⟩
    have X8 := Lib.hid (X7.out.trans x8)
    clear x8 d0' d1'
    go_wp2
    go_ret
    exact ⟨rfl, X8.out⟩

/-! ### What the walk gives, for every argument and every world that holds the listed variables -/
set_option maxRecDepth 100000 in
theorem contract (H : Type) (enc : TypeId × Value → H) (W : World) (base : Nat) (args : Array Value) (ds gs : List (DataW H)) (before : List MemPlace)
    (hval : ∀ (j : Nat) t v, Tryd.f6.params[j]? = some t → args[j]? = some v → Value.okWide Tryd.prog W .any base t v)
    (hW : DataW.Whole enc Tryd.prog Tryd.f6.params.toList Rows.fnExactReadAttrSpec.vars false W args.toList ds gs before) (hL : laidMet Tryd.prog Rows.fnExactReadAttrRow.laid W) (hsh : W.ShapedOpen Tryd.prog) :
    Calls Tryd.prog 6 args W fun e W' => ∃ v, e = .returned v ∧ Rows.fnExactReadAttrSpec.post enc Tryd.prog Tryd.f6 false true false false W args v W' := by
  have hW' := hW
  obtain ⟨p, q, hA0, hV, rfl, hfz, hnd⟩ := hW
  have hA : DataW.TrodAll enc Tryd.prog W 0 (fun _ => true) true Tryd.f6.params.toList args.toList ds p := hA0
  rw [Tryd.params6] at hA hval
  obtain ⟨v0, vs0, d0, ds0, p0, q0, hargs, rfl, rfl, h0, r0⟩ := trodAll_cons hA
  obtain ⟨v1, vs1, d1, ds1, p1, q1, rfl, rfl, rfl, h1, r1⟩ := trodAll_cons r0
  obtain ⟨rfl, rfl, rfl⟩ := trodAll_nil r1
  obtain rfl : args = #[v0, v1] := by cases args; simp_all
  obtain ⟨rfl, rfl⟩ := trodVars_none hV
  have k0 := h0
  have lt0 : ∀ x ∈ p0, x.block < W.heap.size := by obtain ⟨m, hm⟩ := k0; exact DataW.trod_lt m _ _ _ hm
  obtain ⟨a0, rfl, _, _, w0⟩ := open_int Tryd.underlying3 (hval 0 3 v0 rfl rfl) h0
  have k1 := h1
  have lt1 : ∀ x ∈ p1, x.block < W.heap.size := by obtain ⟨m, hm⟩ := k1; exact DataW.trod_lt m _ _ _ hm
  obtain ⟨s1, rfl, w1⟩ := open_str (hval 1 9 v1 rfl rfl) h1
  have hf0 : Pow W := Pow_of (rest := _) (hL.tail.tail)
  have hf1 : ErrAt W := ErrAt_of (rest := _) (hL.tail.tail.tail.tail.tail)
  have hf2 : LongAt W := LongAt_of hsh
  clear hA0
  refine (walk a0 s1 W w0 w1 hf0 hf1 hf2).mono fun e W' ⟨he, bel⟩ => ?_
  subst he
  exact ⟨_, rfl, _, _, _, [], _, _, hW', trodAll_mk1 (shut_bool Tryd.underlying4 _), (trodAll_cons_mk (Below.trod laidOut (by kernel_rfl) (of_decide_eq_true (by kernel_rfl)) k0 bel lt0) (trodAll_cons_mk (Below.trod laidOut (by kernel_rfl) (of_decide_eq_true (by kernel_rfl)) k1 bel lt1) trodAll_mk0)), rfl, bel.frame _, fun h => by cases h⟩

/-! ### A world for the witness: the settled one, the listed variables holding what their initialisers lay -/
noncomputable def laidWorld (os : Os) : World := World.laidAll Tryd.prog os Rows.fnExactReadAttrRow.laid
theorem laid_met (os : Os) : laidMet Tryd.prog Rows.fnExactReadAttrRow.laid ((laidWorld os).forCall (fun _ _ => 0) ⟨#[], #[.int .i64 0, .string ⟨#[]⟩], []⟩).memory :=
  laidMet_laidAll _ (by kernel_rfl) (by kernel_rfl)
theorem reads (os : Os) {H : Type} (enc : TypeId × Value → H) : ∃ places, DataW.whole enc Tryd.prog ((laidWorld os).forCall (fun _ _ => 0) ⟨#[], #[.int .i64 0, .string ⟨#[]⟩], []⟩).memory Tryd.f6.params.toList Rows.fnExactReadAttrSpec.vars false (#[(.int .i64 0 : Value), (.string ⟨#[]⟩ : Value)]).toList 8 = some ([.lit (.int .i64 0), .lit (.string [])], [], places) :=
  ⟨((DataW.whole enc Tryd.prog ((laidWorld os).forCall (fun _ _ => 0) ⟨#[], #[.int .i64 0, .string ⟨#[]⟩], []⟩).memory Tryd.f6.params.toList Rows.fnExactReadAttrSpec.vars false (#[(.int .i64 0 : Value), (.string ⟨#[]⟩ : Value)]).toList 8).map fun x => x.2.2).getD [], by kernel_rfl⟩

set_option maxRecDepth 100000 in
theorem lifted (os : Os) (started : os.Started) (H : Type) (enc : TypeId × Value → H) (F : Stop.Interp) :
    ReturnsInHanded {} Tryd.checked os 6 .any ((OpenSpec.ofChange Rows.fnExactReadAttrSpec).preRow enc Tryd.prog Tryd.f6 Rows.fnExactReadAttrRow.domain false Rows.fnExactReadAttrRow.laid) (((OpenSpec.ofChange Rows.fnExactReadAttrSpec).at F).post enc Tryd.prog Tryd.f6 false true false false) := by
  obtain ⟨places, hx⟩ := reads os enc
  refine returnsInHanded_of_row (C := Tryd.checked) (s := OpenSpec.ofChange Rows.fnExactReadAttrSpec) own started (by kernel_rfl) Tryd.func6
    (witness_row_atRef (enc := enc) (C := Tryd.checked) false (laidWorld os) #[.int .i64 0, .string ⟨#[]⟩] (World.laidAll_os _ _ _) (by kernel_rfl) (by kernel_rfl) (by kernel_rfl)
      (OpenSpec.preRow_of_cond 8 hx (by kernel_rfl) (fun k hk => by cases hk) (by kernel_rfl) (laid_met os))) ?_
  intro W base args ds gs before hval hW _ _ _ hL hsh _
  exact contract H enc W base args ds gs before hval hW hL hsh

theorem said : Rows.FnExactReadAttrSaid :=
  OpenClaim.holds_of_cond 6 Tryd.f6 rfl rfl rfl rfl rfl rfl rfl ⟨rfl, rfl, rfl, rfl, rfl⟩ rfl rfl rfl rfl rfl (by kernel_rfl) Tryd.func6 (by kernel_rfl)
    (of_decide_eq_true (by kernel_rfl)) (by unfold Func.isWrapper; first | (rw [if_pos (by decide +kernel)]; kernel_rfl) | (rw [if_neg (by decide +kernel)]; exact ⟨rfl, rfl⟩))
    (fun os started H enc _ F => by rw [OpenClaim.pre_eq_preRow]; exact lifted os started H enc F)

/-- No parameter wants a stand-in; the program's own looks are off. -/
theorem plain (f : FuncId) (fn : Func) (hf : Tryd.pinned.checked.prog.funcNamed Rows.fnExactReadAttrRow.func = some f) (hfn : Tryd.pinned.checked.prog.funcs[f]? = some fn) :
    true = Tryd.pinned.checked.prog.looks [] ∧ ∀ (j : Nat) t, fn.params[j]? = some t → Tryd.pinned.checked.prog.wantsStandIn t = false := by
  obtain rfl : f = 6 := Option.some.inj ((show Tryd.prog.funcNamed Rows.fnExactReadAttrRow.func = some 6 by kernel_rfl).symm.trans hf) |>.symm
  obtain rfl : fn = Tryd.f6 := (Option.some.inj (Tryd.func6.symm.trans hfn)).symm
  refine ⟨by kernel_rfl, fun j t ht => ?_⟩
  rw [Tryd.params6] at ht
  have hm := Array.mem_of_getElem? ht
  simp only [List.mem_toArray, List.mem_cons, List.mem_nil_iff, or_false] at hm
  rcases hm with rfl | rfl
  · exact (show Tryd.prog.wantsStandIn 3 = false by kernel_rfl)
  · exact (show Tryd.prog.wantsStandIn 9 = false by kernel_rfl)

/-- THE CARD -/
theorem card : Rows.FnExactReadAttrCardSaid :=
  Claim7.holds_tied_plain_at .later [] _ _ _ _ said (fun _ h => by cases h) (by kernel_rfl) (fun _ h => by cases h) fnExactReadAttr_row_tie rfl ⟨rfl, rfl⟩ (by kernel_rfl) rfl plain (by kernel_rfl)
#print axioms card
end Go.Proofs.YtfadmcgaojnghaaDoor.fnExactReadAttr
