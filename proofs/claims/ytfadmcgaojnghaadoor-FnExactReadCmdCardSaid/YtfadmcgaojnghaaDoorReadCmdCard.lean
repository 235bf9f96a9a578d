/- What is proved: at every text the function ReadCmd of the program answers as its model does, all three results. The card ties the listed variables to the program's text. Conditions: none. -/
import Derived.Test.YtfadmcgaojnghaaDoorCards
import Derived.Test.YtfadmcgaojnghaaDoorTie
import Derived.Test.YtfadmcgaojnghaaDoorReadJoin
import Derived.Test.YtfadmcgaojnghaaDoorLaidRead
import Derived.Test.YtfadmcgaojnghaaDoorEqCmd
import Derived.Test.YtfadmcgaojnghaaDoorFrameStr
import Derived.Lay
import Derived.Deep.DeepWitnessRowRef
import Derived.WalkKit
import Derived.ProofKit
import Derived.OpenShut
import Derived.OpenVars
import Derived.Below
import Derived.Deep.DeepHandedRow
import Derived.Deep.DeepLaidRun
import Derived.Lib.LaidTab
import Derived.Stop.LaidErr
namespace Go.Proofs.YtfadmcgaojnghaaDoor.fnExactReadCmd
open Go.ChangeShapes Go.WideShapes Go.ChangeAt Go.RowKit
set_option linter.unusedVariables false

theorem own : ownKnob Tryd.prog.godebug = none := by kernel_rfl
theorem laidOut : laidOutB Tryd.prog = true := by kernel_rfl

/-! ### The walk: the law's text returns true, and nothing that was there is turned. -/
set_option maxHeartbeats 2000000 in
theorem walk (s0 : ByteArray) (w : World) (w0 : s0.size ≤ maxLen) (hp : Pow w) (he : ErrAt w) (hfm : Forms w) (hmx : MaxAt w) :
    Calls Tryd.prog 4 #[.string s0] w fun e w' => e = .returned (.bool true) ∧ Ext w w' := by
  unfold maxLen at w0
  by_cases hs : 1048576 < s0.size
  · clear hp he hfm hmx
    go_enter Tryd.func4, Tryd.ntmps4
    go_wp2
    go_ret
    exact ⟨rfl, Ext.refl _⟩
  · have hs' : s0.size ≤ 1048576 := by omega
    obtain ⟨k, i, f, t, a, code, ok, cS, cI⟩ := read_same s0 hs'
    have CS := Lib.hid cS
    have CI := Lib.hid (fun W h => cI W (hp.ext h) (he.ext h) (hfm.ext h) (hmx.ext h))
    have n1 : (code != code) = false := by simp
    have n2 : (ok != ok) = false := by simp
    clear hp he hfm hmx cS cI hs
    go_enter Tryd.func4, Tryd.ntmps4
    go_wp2_with fail
    refine (CS.out _).mono ?_
    rintro e W1 ⟨rfl, x1⟩
    have b1 := cmdAt_new W1 25 k i f t a
    have X1 := Lib.hid (x1.alloc (.cells #[.int .i64 k, .int .i64 i, .int .i64 f, .int .i64 t, .int .i64 a] 25))
    clear x1
    go_wp2_with fail
    refine (CI.out _ X1.out).mono ?_
    rintro e W2 ⟨rfl, x2⟩
    obtain ⟨c0, c1, c2, c3, c4⟩ := b1.ext x2
    have X2 := Lib.hid (X1.out.trans x2)
    have q1 : W1.heap.size < W2.heap.size := World.block_lt_of_cell? W2 _ c0
    have q2 : W1.heap.size ≠ W2.heap.size := by omega
    clear x2 b1
    go_wp2_with fail
    refine (eqCmd_same _ _ _ _ _ _).mono ?_
    rintro e W3 ⟨rfl, x3⟩
    have hx := (X2.out.alloc _).trans x3
    clear x3 c0 c1 c2 c3 c4 q1 q2
    go_wp2
    go_ret
    exact ⟨rfl, hx⟩

/-! ### What the walk gives, for every argument and every world that holds the listed variables -/
set_option maxRecDepth 100000 in
theorem contract (H : Type) (enc : TypeId × Value → H) (W : World) (base : Nat) (args : Array Value) (ds gs : List (DataW H)) (before : List MemPlace)
    (hval : ∀ (j : Nat) t v, Tryd.f4.params[j]? = some t → args[j]? = some v → Value.okWide Tryd.prog W .any base t v)
    (hW : DataW.Whole enc Tryd.prog Tryd.f4.params.toList Rows.fnExactReadCmdSpec.vars false W args.toList ds gs before) (hL : laidMet Tryd.prog Rows.fnExactReadCmdRow.laid W) (hsh : W.ShapedOpen Tryd.prog) :
    Calls Tryd.prog 4 args W fun e W' => ∃ v, e = .returned v ∧ Rows.fnExactReadCmdSpec.post enc Tryd.prog Tryd.f4 false true false false W args v W' := by
  have hW' := hW
  obtain ⟨p, q, hA0, hV, rfl, hfz, hnd⟩ := hW
  have hA : DataW.TrodAll enc Tryd.prog W 0 (fun _ => true) true Tryd.f4.params.toList args.toList ds p := hA0
  rw [Tryd.params4] at hA hval
  obtain ⟨v0, vs0, d0, ds0, p0, q0, hargs, rfl, rfl, h0, r0⟩ := trodAll_cons hA
  obtain ⟨rfl, rfl, rfl⟩ := trodAll_nil r0
  obtain rfl : args = #[v0] := by cases args; simp_all
  obtain ⟨g1, rfl⟩ := one_var hV
  have k0 := h0
  have lt0 : ∀ x ∈ p0, x.block < W.heap.size := by obtain ⟨m, hm⟩ := k0; exact DataW.trod_lt m _ _ _ hm
  obtain ⟨s0, rfl, w0⟩ := open_str (hval 0 9 v0 rfl rfl) h0
  have hf0 : Pow W := Pow_of (rest := _) (hL.tail.tail)
  have hf1 : ErrAt W := ErrAt_of (rest := _) (hL.tail.tail.tail.tail.tail)
  have hf2 : Forms W := Forms_of (rest := _) (hL.tail.tail.tail.tail.tail.tail)
  have hf3 : MaxAt W := MaxAt_of hsh
  clear hA0
  refine (walk s0 W w0 hf0 hf1 hf2 hf3).mono fun e W' ⟨he, bel⟩ => ?_
  subst he
  exact ⟨_, rfl, _, _, _, [], _, _, hW', trodAll_mk1 (shut_bool Tryd.underlying4 _), (trodAll_cons_mk (Below.trod laidOut (by kernel_rfl) (of_decide_eq_true (by kernel_rfl)) k0 bel lt0) trodAll_mk0), Below.trodVars laidOut bel (by kernel_rfl) hV, bel.frame _, fun h => by cases h⟩

/-! ### A world for the witness: the settled one, the listed variables holding what their initialisers lay -/
noncomputable def laidWorld (os : Os) : World := World.laidAll Tryd.prog os Rows.fnExactReadCmdRow.laid
theorem laid_met (os : Os) : laidMet Tryd.prog Rows.fnExactReadCmdRow.laid ((laidWorld os).forCall (fun _ _ => 0) ⟨#[], #[.string ⟨#[]⟩], []⟩).memory :=
  laidMet_laidAll _ (by kernel_rfl) (by kernel_rfl)
theorem reads (os : Os) {H : Type} (enc : TypeId × Value → H) : ∃ places, DataW.whole enc Tryd.prog ((laidWorld os).forCall (fun _ _ => 0) ⟨#[], #[.string ⟨#[]⟩], []⟩).memory Tryd.f4.params.toList Rows.fnExactReadCmdSpec.vars false (#[(.string ⟨#[]⟩ : Value)]).toList 8 = some ([.lit (.string [])], [Rows.laid_loop_example_g00698_impl_cmdForms], places) :=
  ⟨((DataW.whole enc Tryd.prog ((laidWorld os).forCall (fun _ _ => 0) ⟨#[], #[.string ⟨#[]⟩], []⟩).memory Tryd.f4.params.toList Rows.fnExactReadCmdSpec.vars false (#[(.string ⟨#[]⟩ : Value)]).toList 8).map fun x => x.2.2).getD [], by kernel_rfl⟩

set_option maxRecDepth 100000 in
theorem lifted (os : Os) (started : os.Started) (H : Type) (enc : TypeId × Value → H) (F : Stop.Interp) :
    ReturnsInHanded {} Tryd.checked os 4 .any ((OpenSpec.ofChange Rows.fnExactReadCmdSpec).preRow enc Tryd.prog Tryd.f4 Rows.fnExactReadCmdRow.domain false Rows.fnExactReadCmdRow.laid) (((OpenSpec.ofChange Rows.fnExactReadCmdSpec).at F).post enc Tryd.prog Tryd.f4 false true false false) := by
  obtain ⟨places, hx⟩ := reads os enc
  refine returnsInHanded_of_row (C := Tryd.checked) (s := OpenSpec.ofChange Rows.fnExactReadCmdSpec) own started (by kernel_rfl) Tryd.func4
    (witness_row_atRef (enc := enc) (C := Tryd.checked) false (laidWorld os) #[.string ⟨#[]⟩] (World.laidAll_os _ _ _) (by kernel_rfl) (by kernel_rfl) (by kernel_rfl)
      (OpenSpec.preRow_of_cond 8 hx (by kernel_rfl) (fun k hk => by cases hk) (by kernel_rfl) (laid_met os))) ?_
  intro W base args ds gs before hval hW _ _ _ hL hsh _
  exact contract H enc W base args ds gs before hval hW hL hsh

theorem said : Rows.FnExactReadCmdSaid :=
  OpenClaim.holds_of_cond 4 Tryd.f4 rfl rfl rfl rfl rfl rfl rfl ⟨rfl, rfl, rfl, rfl, rfl⟩ rfl rfl rfl rfl rfl (by kernel_rfl) Tryd.func4 (by kernel_rfl)
    (of_decide_eq_true (by kernel_rfl)) (by unfold Func.isWrapper; first | (rw [if_pos (by decide +kernel)]; kernel_rfl) | (rw [if_neg (by decide +kernel)]; exact ⟨rfl, rfl⟩))
    (fun os started H enc _ F => by rw [OpenClaim.pre_eq_preRow]; exact lifted os started H enc F)

/-- No parameter wants a stand-in; the program's own looks are off. -/
theorem plain (f : FuncId) (fn : Func) (hf : Tryd.pinned.checked.prog.funcNamed Rows.fnExactReadCmdRow.func = some f) (hfn : Tryd.pinned.checked.prog.funcs[f]? = some fn) :
    true = Tryd.pinned.checked.prog.looks [] ∧ ∀ (j : Nat) t, fn.params[j]? = some t → Tryd.pinned.checked.prog.wantsStandIn t = false := by
  obtain rfl : f = 4 := Option.some.inj ((show Tryd.prog.funcNamed Rows.fnExactReadCmdRow.func = some 4 by kernel_rfl).symm.trans hf) |>.symm
  obtain rfl : fn = Tryd.f4 := (Option.some.inj (Tryd.func4.symm.trans hfn)).symm
  refine ⟨by kernel_rfl, fun j t ht => ?_⟩
  rw [Tryd.params4] at ht
  have hm := Array.mem_of_getElem? ht
  simp only [List.mem_toArray, List.mem_cons, List.mem_nil_iff, or_false] at hm
  subst hm
  exact (show Tryd.prog.wantsStandIn 9 = false by kernel_rfl)

/-- THE CARD -/
theorem card : Rows.FnExactReadCmdCardSaid :=
  Claim7.holds_tied_plain_at .later [] _ _ _ _ said (fun _ h => by cases h) (by kernel_rfl) (fun _ h => by cases h) fnExactReadCmd_row_tie rfl ⟨rfl, rfl⟩ (by kernel_rfl) rfl plain (by kernel_rfl)
#print axioms card
end Go.Proofs.YtfadmcgaojnghaaDoor.fnExactReadCmd
