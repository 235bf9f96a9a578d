/- What is proved: at every replica the function GoodReplica of the program answers as its model does, and writes into no argument. Conditions: none. -/
import Derived.Test.YtbffkidkfannhaaRows
import Derived.Test.YtbffkidkfannhaaMGoodReplical
import Derived.Test.YtbffkidkfannhaaMGoodReplicak
import Derived.Test.YtbffkidkfannhaaMGoodReplicam
import Derived.Test.YtbffkidkfannhaaMGoodReplicab
import Derived.Deep.DeepCutAuto
import Derived.WalkKit
import Derived.ProofKit
import Derived.OpenShut
import Derived.ShutString
import Derived.ChangeOld
import Derived.Below
namespace Go.Proofs.Ytbffkidkfannhaa.fnExactGoodReplica
open Go.ChangeShapes Go.WideShapes Go.ChangeAt Go.RowKit
set_option linter.unusedVariables false

theorem own : ownKnob Try.prog.godebug = none := by kernel_rfl
theorem laidOut : laidOutB Try.prog = true := by kernel_rfl

/-! ### The walk: the law's text returns true, and nothing that was there is turned. -/
set_option maxHeartbeats 4000000 in
theorem walk (me n : Int) (v1 v2 : Value) (T : List (List RowD)) (L : List LeadD) (w : World) (w1 : wf64 me ∧ wf64 n ∧ Rowzz w v1 T ∧ Leadz w v2 L) :
    Calls Try.prog 3 #[.agg #[.int .i64 me, .int .i64 n, v1, v2]] w fun e w' => e = .returned (.bool true) ∧ Ext w w' := by
  obtain ⟨_, _, hA, hZ⟩ := w1
  have x0 : Ext w (w.alloc (.cells #[.int .i64 me, .int .i64 n, v1, v2] 27)) := Ext.alloc (Ext.refl _) _
  have b0 := repAt_new w 27 me n v1 v2
  obtain ⟨wb, hwb⟩ : ∃ wb, wb = w.alloc (.cells #[.int .i64 me, .int .i64 n, v1, v2] 27) := ⟨_, rfl⟩
  rw [← hwb] at x0 b0
  have HW := Lib.hid hwb
  clear hwb
  have hA := hA.ext x0
  have hZ := hZ.ext x0
  by_cases h1 : (1048576 : Int) < (bulkT T + bulkL L : Nat)
  · have L1 := Lib.hid (lessened_no h1)
    clear h1
    go_enter Try.func3, Try.ntmps3
    obtain ⟨c0, c1, c2, c3⟩ := b0
    go_wp2_with fail
    rw [← HW.out]
    refine (szReplica_any _ _ _ _ _ _ _ _ hA hZ (by omega) (by omega)).mono ?_
    rintro e W1 ⟨rfl, x1⟩
    rw [L1.out]
    have y1 := x0.trans x1
    clear x0 x1 c0 c1 c2 c3
    go_wp2
    go_ret
    exact ⟨rfl, y1⟩
  · obtain ⟨r, hr⟩ : ∃ r, r = (1048576 : Int) - (bulkT T + bulkL L : Nat) := ⟨_, rfl⟩
    have hr0 : 0 ≤ r := by omega
    have hl : bulkT T ≤ 1099511627776 := by omega
    have hl2 : bulkL L ≤ 549755813888 := by omega
    have L1 : Hid (lessened 1048576 (bulkT T + bulkL L) = r) := Lib.hid (by rw [hr]; exact lessened_yes (by omega))
    have HL := Lib.hid hl
    have HL2 := Lib.hid hl2
    clear h1 hr hl hl2
    obtain ⟨g, hg⟩ : ∃ g, g = goodRep me n T L := ⟨_, rfl⟩
    have cS : ∀ u v W, Rowzz W u T → Leadz W v L → Calls Try.prog 7 #[.agg #[.int .i64 me, .int .i64 n, u, v]] W (BoolExt g W) := fun u v W h h' => by rw [hg]; exact specGoodRep_any _ _ _ _ _ _ _ h h'
    have cI : ∀ u v W, Rowzz W u T → Leadz W v L → Calls Try.prog 9 #[.agg #[.int .i64 me, .int .i64 n, u, v]] W (BoolExt g W) := fun u v W h h' => by rw [hg]; exact implGoodRep_any _ _ _ _ _ _ _ h h' HL.out HL2.out
    have CS := Lib.hid cS
    have CI := Lib.hid cI
    have HB := Lib.hid b0
    clear cS cI hg b0
    go_enter Try.func3, Try.ntmps3
    obtain ⟨c0, c1, c2, c3⟩ := HB.out
    go_wp2_with fail
    rw [← HW.out]
    refine (szReplica_any _ _ _ _ _ _ _ _ hA hZ (by omega) (by omega)).mono ?_
    rintro e W1 ⟨rfl, x1⟩
    rw [L1.out]
    obtain ⟨c0, c1, c2, c3⟩ := HB.out.ext x1
    go_wp2_with fail
    refine (toReplica_any _ _ _ _ _ _ _ (hA.ext x1) (hZ.ext x1) HL.out HL2.out).mono ?_
    rintro e W2 ⟨u2, z2, rfl, f2, g2, x2⟩
    clear c0 c1 c2 c3
    go_wp2_with fail
    refine (CS.out _ _ _ f2 g2).mono ?_
    rintro e W3 ⟨rfl, x3⟩
    have y3 : Ext wb W3 := (x1.trans x2).trans x3
    clear f2 g2 x1 x2 x3
    obtain ⟨c0, c1, c2, c3⟩ := HB.out.ext y3
    go_wp2_with fail
    refine (toReplica_any _ _ _ _ _ _ _ (hA.ext y3) (hZ.ext y3) HL.out HL2.out).mono ?_
    rintro e W4 ⟨u4, z4, rfl, f4, g4, x4⟩
    clear c0 c1 c2 c3
    obtain ⟨a4, k4, rfl, _⟩ := id f4
    obtain ⟨a5, k5, rfl, _⟩ := id g4
    have F4 := Lib.hid f4
    have G4 := Lib.hid g4
    have b4 := repAt_new W4 35 me n (.slice a4 T.length k4) (.slice a5 L.length k5)
    go_wp2_with fail
    refine (CI.out _ _ _ (F4.out.ext (Ext.alloc (Ext.refl _) _)) (G4.out.ext (Ext.alloc (Ext.refl _) _))).mono ?_
    rintro e W5 ⟨rfl, x5⟩
    have y5 : Ext wb W5 := ((y3.trans x4).trans (Ext.alloc (Ext.refl _) _)).trans x5
    obtain ⟨c0, c1, c2, c3⟩ := HB.out.ext y5
    obtain ⟨d0, d1, d2, d3⟩ := b4.ext x5
    have i5 : Rowzz W5 (.slice a4 T.length k4) T := (F4.out.ext (Ext.alloc (Ext.refl _) _)).ext x5
    have l5 : Leadz W5 (.slice a5 L.length k5) L := (G4.out.ext (Ext.alloc (Ext.refl _) _)).ext x5
    have j5 : Rowzz W5 v1 T := hA.ext y5
    have m5 : Leadz W5 v2 L := hZ.ext y5
    have HI5 := Lib.hid i5
    have HJ5 := Lib.hid j5
    have HK5 := Lib.hid l5
    have HM5 := Lib.hid m5
    have X5 := Lib.hid (x0.trans y5)
    clear x4 x5 y3 y5 f4 g4 b4 i5 j5 l5 m5 hA hZ x0
    have ng : (g != g) = false := by simp
    go_wp2
    go_region_held3 (fun W => Ext W5 W ∧ W.cell? ⟨w.heap.size, 0, none⟩ = some (.int .i64 me) ∧ W.cell? ⟨w.heap.size, 1, none⟩ = some (.int .i64 n) ∧ W.cell? ⟨w.heap.size, 2, none⟩ = some v1 ∧ W.cell? ⟨w.heap.size, 3, none⟩ = some v2 ∧ W.cell? ⟨W4.heap.size, 0, none⟩ = some (.int .i64 me) ∧ W.cell? ⟨W4.heap.size, 1, none⟩ = some (.int .i64 n) ∧ W.cell? ⟨W4.heap.size, 2, none⟩ = some (.slice a4 T.length k4) ∧ W.cell? ⟨W4.heap.size, 3, none⟩ = some (.slice a5 L.length k5)) (first | (with_reducible exact keep8 (by assumption) (by assumption)) | (exact ⟨Ext.drew (Ext.refl _), c0, c1, c2, c3, d0, d1, d2, d3⟩)) (first | (go_at_call 8; refine (toReplica_any _ _ _ _ _ _ _ (HJ5.out.ext (And.left (by assumption))) (HM5.out.ext (And.left (by assumption))) HL.out HL2.out).mono ?_; rintro e W6 ⟨u6, z6, rfl, f6, g6, x6⟩) | (go_at_call 10; refine (eqReplica_same _ _ _ _ _ _ T L _ (HI5.out.ext (And.left (by assumption))) (HK5.out.ext (And.left (by assumption))) (by assumption) (by assumption)).mono ?_; rintro e W7 ⟨rfl, x7⟩))
    rename_i hH
    have hx : Ext w W7 := X5.out.trans hH.1
    clear hH x6 x7 f6 g6 c0 c1 c2 c3 d0 d1 d2 d3
    go_wp2
    go_ret
    exact ⟨rfl, hx⟩

/-! ### The frame -/
set_option maxRecDepth 100000 in
theorem lifted (os : Os) (started : os.Started) (H : Type) (enc : TypeId × Value → H) :
    ReturnsInHanded {} Try.checked os 3 .any (Rows.fnExactGoodReplicaSpec.pre6 enc Try.prog Try.f3 Rows.fnExactGoodReplicaRow.domain false) (Rows.fnExactGoodReplicaSpec.post enc Try.prog Try.f3 false true false false) := by
  refine returnsInHanded_of_change (C := Try.checked) own started (by kernel_rfl) Try.func3
    (ChangeSpec.witness6 (enc := enc) (C := Try.checked) false ⟨#[], #[.agg #[.int .i64 0, .int .i64 0, .slice none 0 0, .slice none 0 0]], []⟩ 8 (by kernel_rfl) (by kernel_rfl) (by kernel_rfl) (by kernel_rfl)) ?_
  intro W base args ds gs before hval0 hW hcnd _
  have hval : ∀ (j : Nat) t v, Try.f3.params[j]? = some t → args[j]? = some v → Value.okWide Try.prog W .any base t v := hval0
  have hW' := hW
  obtain ⟨p, q, hA0, hV, rfl, hfz, hnd⟩ := hW
  have hA : DataW.TrodAll enc Try.prog W 0 (fun _ => true) true Try.f3.params.toList args.toList ds p := hA0
  rw [Try.params3] at hA hval
  obtain ⟨v0, vs0, d0, ds0, p0, q0, hargs, rfl, rfl, h0, r0⟩ := trodAll_cons hA
  obtain ⟨rfl, rfl, rfl⟩ := trodAll_nil r0
  obtain rfl : args = #[v0] := by cases args; simp_all
  obtain ⟨rfl, rfl⟩ := trodVars_none hV
  have k0 := h0
  have lt0 : ∀ x ∈ p0, x.block < W.heap.size := by obtain ⟨m, hm⟩ := k0; exact DataW.trod_lt m _ _ _ hm
  obtain ⟨m0, n0, u0, z0, l0, e0, rfl, w0⟩ := open_rep (hval 0 27 v0 rfl rfl) h0
  clear hA0 hval0
  refine (walk m0 n0 u0 z0 l0 e0 W w0).mono fun e W' ⟨he, bel⟩ => ?_
  subst he
  exact ⟨_, rfl, _, _, _, [], _, [], hW', trodAll_mk1 (shut_bool Try.underlying4 _), (trodAll_cons_mk (Below.trod laidOut (by kernel_rfl) (of_decide_eq_true (by kernel_rfl)) k0 bel lt0) trodAll_mk0), rfl, bel.frame _, fun h => by cases h⟩

theorem over : Rows.fnExactGoodReplicaRow.holds Try.pinned (OpenSpec.ofChange Rows.fnExactGoodReplicaSpec) :=
  OpenClaim.holds_of_wide 3 Try.f3 rfl rfl rfl rfl rfl rfl rfl ⟨rfl, rfl, rfl, rfl, rfl⟩ rfl rfl rfl rfl rfl (by kernel_rfl) Try.func3 (by kernel_rfl)
    (of_decide_eq_true (by kernel_rfl)) (by unfold Func.isWrapper; first | (rw [if_pos (by decide +kernel)]; kernel_rfl) | (rw [if_neg (by decide +kernel)]; exact ⟨rfl, rfl⟩))
    (fun os started H enc _ => lifted os started H enc)

/-- THE STATEMENT -/
theorem proved : Rows.FnExactGoodReplicaSaid := over
#print axioms proved
end Go.Proofs.Ytbffkidkfannhaa.fnExactGoodReplica
