/- What is proved: at every number the function NewNet of the program answers as its model does, and its answer owns its memory. Conditions: none. -/
import Derived.Test.YtjkmhphnefpdoaaRows
import Derived.Test.YtjkmhphnefpdoaaMNewNeti
import Derived.WalkKit
import Derived.ProofKit
import Derived.OpenShut
import Derived.ShutString
import Derived.ChangeOld
import Derived.Below
namespace Go.Proofs.Ytjkmhphnefpdoaa.fnExactNewNet
open Go.ChangeShapes Go.WideShapes Go.ChangeAt Go.RowKit
set_option linter.unusedVariables false

theorem own : ownKnob Try.prog.godebug = none := by kernel_rfl
theorem laidOut : laidOutB Try.prog = true := by kernel_rfl

/-! ### The walk: the law's text returns true, and nothing that was there is turned. -/
set_option maxHeartbeats 4000000 in
set_option maxRecDepth 100000 in
theorem walk0 (n : Int) (w : World) (hg : isGrp n = false) : Calls Try.prog 6 #[.int .i64 n] w fun e w' => e = .returned (.bool true) ∧ Ext w w' := by
  have CS : Hid (∀ W, Calls Try.prog 27 #[.int .i64 n] W (NewNetP [] false W)) := Lib.hid (fun W => by have h := specNewNet_any n W; rw [hg, repsOf_no hg] at h; exact h)
  have CI : Hid (∀ W, Calls Try.prog 28 #[.int .i64 n] W (fun e w' => e = .returned (.tuple #[.agg #[.slice none 0 0, .slice none 0 0, .slice none 0 0], .bool false]) ∧ Ext W w')) := Lib.hid (fun W => (implNewNet_any n W).mono (by
    rintro e w' (⟨_, h⟩ | ⟨_, _, _, _, _, _, _, h, _⟩)
    · exact h
    · rw [hg] at h; cases h))
  clear hg
  go_enter Try.func6, Try.ntmps6
  go_wp2_with fail
  refine (CS.out _).mono ?_
  rintro e W1 ⟨v, rfl, h1, x1⟩
  have X1 := Lib.hid x1
  have H1 := Lib.hid (h1.ext (Ext.alloc1 W1 (.cells #[v, .slice none 0 0, .slice none 0 0] 68)))
  have B1 := Lib.hid (boxV_new W1 [v, .slice none 0 0, .slice none 0 0] 68)
  obtain ⟨a1, k1, rfl, _⟩ := id h1
  clear h1 x1
  obtain ⟨w1, hw1⟩ : ∃ w1, w1 = W1.alloc (.cells #[.slice a1 0 k1, .slice none 0 0, .slice none 0 0] 68) := ⟨_, rfl⟩
  have Y1 : Hid (Ext w w1) := Lib.hid (by rw [hw1]; exact X1.out.alloc _)
  have B1 : Hid (BoxV w1 W1.heap.size [.slice a1 0 k1, .slice none 0 0, .slice none 0 0]) := Lib.hid (by rw [hw1]; exact B1.out)
  have H1 : Hid (Repz w1 (.slice a1 0 k1) []) := Lib.hid (by rw [hw1]; exact H1.out)
  go_wp2_with fail
  rw [← hw1]
  clear hw1 X1
  refine (CI.out _).mono ?_
  rintro e W2 ⟨rfl, x2⟩
  obtain ⟨w2, hw2⟩ : ∃ w2, w2 = W2.alloc (.cells #[.slice none 0 0, .slice none 0 0, .slice none 0 0] 68) := ⟨_, rfl⟩
  have xx : Ext W2 w2 := by rw [hw2]; exact Ext.alloc1 _ _
  have B2 : Hid (BoxV w2 W2.heap.size [.slice none 0 0, .slice none 0 0, .slice none 0 0]) := Lib.hid (by rw [hw2]; exact boxV_new W2 [.slice none 0 0, .slice none 0 0, .slice none 0 0] 68)
  have Z2 := Lib.hid (x2.trans xx)
  have HW2 := Lib.hid hw2
  clear x2 xx
  have c0 := (B1.out.ext Z2.out).cell 0 _ rfl
  have c1 := (B1.out.ext Z2.out).cell 1 _ rfl
  have c2 := (B1.out.ext Z2.out).cell 2 _ rfl
  have d0 := B2.out.cell 0 _ rfl
  have d1 := B2.out.cell 1 _ rfl
  have d2 := B2.out.cell 2 _ rfl
  rw [hw2] at c0 c1 c2 d0 d1 d2
  clear hw2
  go_wp2_with fail
  rw [← HW2.out]
  refine (eqNet_rep _ _ [] _ (Repz.nil _) (H1.out.ext Z2.out)).mono ?_
  rintro e W3 ⟨rfl, x3⟩
  have Z3 := Lib.hid x3
  clear x3 c0 c1 c2 d0 d1 d2 HW2
  have d0 := (B2.out.ext Z3.out).cell 0 _ rfl
  have d1 := (B2.out.ext Z3.out).cell 1 _ rfl
  have d2 := (B2.out.ext Z3.out).cell 2 _ rfl
  go_wp2_with fail
  refine (markNet_nil _ _).mono ?_
  rintro e W4 ⟨rfl, x4⟩
  have Z4 := Lib.hid (Z3.out.trans x4)
  clear x4 d0 d1 d2
  have d0 := (B2.out.ext Z4.out).cell 0 _ rfl
  have d1 := (B2.out.ext Z4.out).cell 1 _ rfl
  have d2 := (B2.out.ext Z4.out).cell 2 _ rfl
  go_wp2_with fail
  refine (heldNet_nil _ _ (by omega)).mono ?_
  rintro e W5 ⟨rfl, x5⟩
  have Z5 := Lib.hid (Z4.out.trans x5)
  clear x5 d0 d1 d2
  have n1 : ((1 : Int) != 1) = false := rfl
  go_wp2_with fail
  refine (CI.out _).mono ?_
  rintro e W6 ⟨rfl, x6⟩
  obtain ⟨w6, hw6⟩ : ∃ w6, w6 = W6.alloc (.cells #[.slice none 0 0, .slice none 0 0, .slice none 0 0] 68) := ⟨_, rfl⟩
  have xx : Ext W6 w6 := by rw [hw6]; exact Ext.alloc1 _ _
  have B6 : Hid (BoxV w6 W6.heap.size [.slice none 0 0, .slice none 0 0, .slice none 0 0]) := Lib.hid (by rw [hw6]; exact boxV_new W6 [.slice none 0 0, .slice none 0 0, .slice none 0 0] 68)
  have Z6 := Lib.hid (Z5.out.trans (x6.trans xx))
  have HW6 := Lib.hid hw6
  clear x6 xx
  have c0 := (B1.out.ext (Z2.out.trans Z6.out)).cell 0 _ rfl
  have c1 := (B1.out.ext (Z2.out.trans Z6.out)).cell 1 _ rfl
  have c2 := (B1.out.ext (Z2.out.trans Z6.out)).cell 2 _ rfl
  have d0 := B6.out.cell 0 _ rfl
  have d1 := B6.out.cell 1 _ rfl
  have d2 := B6.out.cell 2 _ rfl
  rw [hw6] at c0 c1 c2 d0 d1 d2
  clear hw6
  go_wp2_with fail
  rw [← HW6.out]
  refine (eqNet_rep _ _ [] _ (Repz.nil _) (H1.out.ext (Z2.out.trans Z6.out))).mono ?_
  rintro e W7 ⟨rfl, x7⟩
  have Z7 := Lib.hid (Z6.out.trans x7)
  clear x7 c0 c1 c2 d0 d1 d2 HW6
  have d0 := (B2.out.ext Z7.out).cell 0 _ rfl
  have d1 := (B2.out.ext Z7.out).cell 1 _ rfl
  have d2 := (B2.out.ext Z7.out).cell 2 _ rfl
  go_wp2_with fail
  refine (heldNet_nil _ _ (by omega)).mono ?_
  rintro e W8 ⟨rfl, x8⟩
  have hx := Y1.out.trans (Z2.out.trans (Z7.out.trans x8))
  clear x8 d0 d1 d2
  go_wp2
  go_ret
  exact ⟨rfl, hx⟩
/-- What the program hands back for a group. -/
def OwnG (m : Nat) (w : World) (e : Ending) (w' : World) : Prop := ∃ (G B : Nat) (me nn : Nat → Int) (tb : Nat → Nat), e = .returned (.tuple #[.agg #[.slice (some ⟨G, 0, none⟩) m m, .slice none 0 0, .slice none 0 0], .bool true]) ∧ w.heap.size ≤ G ∧ RO m m B G w' me nn tb ∧ Repz w' (.slice (some ⟨G, 0, none⟩) m m) (newReps m) ∧ Ext w w'
set_option maxHeartbeats 4000000 in
set_option maxRecDepth 100000 in
theorem walk1 (m : Nat) (hm : m = 3 ∨ m = 5) (w : World) : Calls Try.prog 6 #[.int .i64 m] w fun e w' => e = .returned (.bool true) ∧ Ext w w' := by
  have hg : isGrp (m : Int) = true := by rcases hm with rfl | rfl <;> rfl
  have CS : Hid (∀ W, Calls Try.prog 27 #[.int .i64 m] W (NewNetP (newReps m) true W)) := Lib.hid (fun W => by have h := specNewNet_any m W; rw [hg, repsOf_yes hg] at h; exact h)
  have CI : Hid (∀ W, Calls Try.prog 28 #[.int .i64 m] W (OwnG m W)) := Lib.hid (fun W => (implNewNet_any m W).mono (by
    rintro e w' (⟨h, _⟩ | ⟨m', G, B, me, nn, tb, h1, _, h2, h3, h4, h5, h6, h7, h8⟩)
    · rw [hg] at h; cases h
    · have : m = m' := by omega
      subst this
      exact ⟨G, B, me, nn, tb, h3, h4, h5, h5.reads (by omega) h6 h7, h8⟩))
  have hm5 : m ≤ 5 := by omega
  clear hg hm
  go_enter Try.func6, Try.ntmps6
  go_wp2_with fail
  refine (CS.out _).mono ?_
  rintro e W1 ⟨v, rfl, h1, x1⟩
  have X1 := Lib.hid x1
  have H1 := Lib.hid (h1.ext (Ext.alloc1 W1 (.cells #[v, .slice none 0 0, .slice none 0 0] 68)))
  have B1 := Lib.hid (boxV_new W1 [v, .slice none 0 0, .slice none 0 0] 68)
  obtain ⟨a1, k1, rfl, _⟩ := id h1
  clear h1 x1
  obtain ⟨w1, hw1⟩ : ∃ w1, w1 = W1.alloc (.cells #[.slice a1 (newReps m).length k1, .slice none 0 0, .slice none 0 0] 68) := ⟨_, rfl⟩
  have Y1 : Hid (Ext w w1) := Lib.hid (by rw [hw1]; exact X1.out.alloc _)
  have B1 : Hid (BoxV w1 W1.heap.size [.slice a1 (newReps m).length k1, .slice none 0 0, .slice none 0 0]) := Lib.hid (by rw [hw1]; exact B1.out)
  have H1 : Hid (Repz w1 (.slice a1 (newReps m).length k1) (newReps m)) := Lib.hid (by rw [hw1]; exact H1.out)
  go_wp2_with fail
  rw [← hw1]
  clear hw1 X1
  refine (CI.out _).mono ?_
  rintro e W2 ⟨G, B, me, nn, tb, rfl, hG, hro, hrz, x2⟩
  obtain ⟨w2, hw2⟩ : ∃ w2, w2 = W2.alloc (.cells #[.slice (some ⟨G, 0, none⟩) m m, .slice none 0 0, .slice none 0 0] 68) := ⟨_, rfl⟩
  have xx : Ext W2 w2 := by rw [hw2]; exact Ext.alloc1 _ _
  have B2 : Hid (BoxV w2 W2.heap.size [.slice (some ⟨G, 0, none⟩) m m, .slice none 0 0, .slice none 0 0]) := Lib.hid (by rw [hw2]; exact boxV_new W2 [.slice (some ⟨G, 0, none⟩) m m, .slice none 0 0, .slice none 0 0] 68)
  have Z2 := Lib.hid (x2.trans xx)
  have RO2 := Lib.hid (hro.ext xx)
  have RZ2 := Lib.hid (hrz.ext xx)
  have HG := Lib.hid hG
  have HGA : Hid (G + 1 ≤ W2.heap.size) := Lib.hid hro.lt
  have HW2 := Lib.hid hw2
  clear x2 xx hro hrz hG
  have c0 := (B1.out.ext Z2.out).cell 0 _ rfl
  have c1 := (B1.out.ext Z2.out).cell 1 _ rfl
  have c2 := (B1.out.ext Z2.out).cell 2 _ rfl
  have d0 := B2.out.cell 0 _ rfl
  have d1 := B2.out.cell 1 _ rfl
  have d2 := B2.out.cell 2 _ rfl
  rw [hw2] at c0 c1 c2 d0 d1 d2
  clear hw2
  go_wp2_with fail
  rw [← HW2.out]
  refine (eqNet_rep _ _ (newReps m) _ RZ2.out (H1.out.ext Z2.out)).mono ?_
  rintro e W3 ⟨rfl, x3⟩
  have Z3 := Lib.hid x3
  clear x3 c0 c1 c2 d0 d1 d2 HW2
  have d0 := (B2.out.ext Z3.out).cell 0 _ rfl
  have d1 := (B2.out.ext Z3.out).cell 1 _ rfl
  have d2 := (B2.out.ext Z3.out).cell 2 _ rfl
  go_wp2_with fail
  refine (markNet_ro m B G me nn tb _ _ (RO2.out.ext Z3.out) hm5 (by omega) (by omega)).mono ?_
  rintro e W4 ⟨me4, nn4, rfl, hr4, e1, e2, ki⟩
  have R4 := Lib.hid hr4
  have E1 := Lib.hid e1
  have E2 := Lib.hid e2
  have B4 := Lib.hid ((B2.out.ext Z3.out).ins ki (.inr HGA.out))
  have Z4 : Hid (Ext w1 W4) := Lib.hid (ki.ext (Z2.out.trans Z3.out) HG.out)
  clear d0 d1 d2 hr4 e1 e2 ki B2 Z2 Z3
  have d0 := B4.out.cell 0 _ rfl
  have d1 := B4.out.cell 1 _ rfl
  have d2 := B4.out.cell 2 _ rfl
  go_wp2_with fail
  refine (heldNet_ro m B G me4 nn4 tb _ _ R4.out hm5 (by omega) (by omega) E1.out E2.out).mono ?_
  rintro e W5 ⟨rfl, x5⟩
  have Z5 := Lib.hid x5
  clear x5 d0 d1 d2
  have n1 : ((1 + 2 * (m : Int)) != (1 + 2 * (m : Int))) = false := by simp
  have n2 : ¬ (1 + 2 * (m : Int) < 0) := by omega
  go_wp2_with fail
  refine (CI.out _).mono ?_
  rintro e W6 ⟨G', B', me', nn', tb', rfl, _, _, hrz, x6⟩
  obtain ⟨w6, hw6⟩ : ∃ w6, w6 = W6.alloc (.cells #[.slice (some ⟨G', 0, none⟩) m m, .slice none 0 0, .slice none 0 0] 68) := ⟨_, rfl⟩
  have xx : Ext W6 w6 := by rw [hw6]; exact Ext.alloc1 _ _
  have B6 : Hid (BoxV w6 W6.heap.size [.slice (some ⟨G', 0, none⟩) m m, .slice none 0 0, .slice none 0 0]) := Lib.hid (by rw [hw6]; exact boxV_new W6 [.slice (some ⟨G', 0, none⟩) m m, .slice none 0 0, .slice none 0 0] 68)
  have Z6 := Lib.hid (Z5.out.trans (x6.trans xx))
  have RZ6 := Lib.hid (hrz.ext xx)
  have HW6 := Lib.hid hw6
  clear x6 xx hrz
  have c0 := (B1.out.ext (Z4.out.trans Z6.out)).cell 0 _ rfl
  have c1 := (B1.out.ext (Z4.out.trans Z6.out)).cell 1 _ rfl
  have c2 := (B1.out.ext (Z4.out.trans Z6.out)).cell 2 _ rfl
  have d0 := B6.out.cell 0 _ rfl
  have d1 := B6.out.cell 1 _ rfl
  have d2 := B6.out.cell 2 _ rfl
  rw [hw6] at c0 c1 c2 d0 d1 d2
  clear hw6
  go_wp2_with fail
  rw [← HW6.out]
  refine (eqNet_rep _ _ (newReps m) _ RZ6.out (H1.out.ext (Z4.out.trans Z6.out))).mono ?_
  rintro e W7 ⟨rfl, x7⟩
  have Z7 := Lib.hid (Z6.out.trans x7)
  clear x7 c0 c1 c2 d0 d1 d2 HW6
  have d0 := (B4.out.ext Z7.out).cell 0 _ rfl
  have d1 := (B4.out.ext Z7.out).cell 1 _ rfl
  have d2 := (B4.out.ext Z7.out).cell 2 _ rfl
  go_wp2_with fail
  refine (heldNet_ro m B G me4 nn4 tb _ _ (R4.out.ext Z7.out) hm5 (by omega) (by omega) E1.out E2.out).mono ?_
  rintro e W8 ⟨rfl, x8⟩
  have hx := Y1.out.trans (Z4.out.trans (Z7.out.trans x8))
  clear x8 d0 d1 d2
  go_wp2
  go_ret
  exact ⟨rfl, hx⟩
theorem walk (n : Int) (w : World) (w1 : wf64 n) : Calls Try.prog 6 #[.int .i64 n] w fun e w' => e = .returned (.bool true) ∧ Ext w w' := by
  clear w1
  cases hg : isGrp n with
  | false => exact walk0 n w hg
  | true =>
    obtain ⟨m, rfl, hm⟩ := nat_of_grp hg
    exact walk1 m hm w

/-! ### The frame -/
set_option maxRecDepth 100000 in
theorem lifted (os : Os) (started : os.Started) (H : Type) (enc : TypeId × Value → H) :
    ReturnsInHanded {} Try.checked os 6 .any (Rows.fnExactNewNetSpec.pre6 enc Try.prog Try.f6 Rows.fnExactNewNetRow.domain false) (Rows.fnExactNewNetSpec.post enc Try.prog Try.f6 false true false false) := by
  refine returnsInHanded_of_change (C := Try.checked) own started (by kernel_rfl) Try.func6
    (ChangeSpec.witness6 (enc := enc) (C := Try.checked) false ⟨#[], #[.int .i64 0], []⟩ 8 (by kernel_rfl) (by kernel_rfl) (by kernel_rfl) (by kernel_rfl)) ?_
  intro W base args ds gs before hval0 hW hcnd _
  have hval : ∀ (j : Nat) t v, Try.f6.params[j]? = some t → args[j]? = some v → Value.okWide Try.prog W .any base t v := hval0
  have hW' := hW
  obtain ⟨p, q, hA0, hV, rfl, hfz, hnd⟩ := hW
  have hA : DataW.TrodAll enc Try.prog W 0 (fun _ => true) true Try.f6.params.toList args.toList ds p := hA0
  rw [Try.params6] at hA hval
  obtain ⟨v0, vs0, d0, ds0, p0, q0, hargs, rfl, rfl, h0, r0⟩ := trodAll_cons hA
  obtain ⟨rfl, rfl, rfl⟩ := trodAll_nil r0
  obtain rfl : args = #[v0] := by cases args; simp_all
  obtain ⟨rfl, rfl⟩ := trodVars_none hV
  have k0 := h0
  have lt0 : ∀ x ∈ p0, x.block < W.heap.size := by obtain ⟨m, hm⟩ := k0; exact DataW.trod_lt m _ _ _ hm
  obtain ⟨a0, rfl, _, _, w0⟩ := open_int Try.underlying3 (hval 0 3 v0 rfl rfl) h0
  clear hA0 hval0
  refine (walk a0 W w0).mono fun e W' ⟨he, bel⟩ => ?_
  subst he
  exact ⟨_, rfl, _, _, _, [], _, [], hW', trodAll_mk1 (shut_bool Try.underlying4 _), (trodAll_cons_mk (Below.trod laidOut (by kernel_rfl) (of_decide_eq_true (by kernel_rfl)) k0 bel lt0) trodAll_mk0), rfl, bel.frame _, fun h => by cases h⟩

theorem over : Rows.fnExactNewNetRow.holds Try.pinned (OpenSpec.ofChange Rows.fnExactNewNetSpec) :=
  OpenClaim.holds_of_wide 6 Try.f6 rfl rfl rfl rfl rfl rfl rfl ⟨rfl, rfl, rfl, rfl, rfl⟩ rfl rfl rfl rfl rfl (by kernel_rfl) Try.func6 (by kernel_rfl)
    (of_decide_eq_true (by kernel_rfl)) (by unfold Func.isWrapper; first | (rw [if_pos (by decide +kernel)]; kernel_rfl) | (rw [if_neg (by decide +kernel)]; exact ⟨rfl, rfl⟩))
    (fun os started H enc _ => lifted os started H enc)

/-- THE STATEMENT -/
theorem proved : Rows.FnExactNewNetSaid := over
#print axioms proved
end Go.Proofs.Ytjkmhphnefpdoaa.fnExactNewNet
