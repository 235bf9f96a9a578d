/- Texts of this proof, part q3: words, plain facts, contracts. -/
import Derived.Test.YtbffkidkfannhaaGreatMGoodNetk
import Derived.Deep.RegionWith
import Derived.Deep.DeepCutAuto
import Derived.BigQuiet

namespace Go.Proofs.YtbffkidkfannhaaGreat
open Go.RowKit
set_option linter.unusedVariables false

set_option maxHeartbeats 8000000 in
set_option maxRecDepth 100000 in
theorem implGoodMsg_6 (n : Int) (r : MsgD) (u : Value) (w : World) (hv : Ints w u r.l) (hs : r.l.length ≤ 1099511627776) (hk : r.kd = 6) :
    Calls Tryz.prog 70 #[.int .i64 n, .agg #[.int .i64 r.kd, .int .i64 r.fr, .int .i64 r.tt, .int .i64 r.rp, .int .i64 r.no, .int .i64 r.b, .int .i64 r.v, .int .i64 r.st, .int .i64 r.k, .int .i64 r.i, .int .i64 r.f, .int .i64 r.t, .int .i64 r.a, .int .i64 r.s, u]] w (BoolExt (wayB n r && (ballotB r && (contB n r && sameM r (onlyM n r)))) w) := by
  obtain ⟨wb, hwb⟩ : ∃ wb, wb = w.alloc (.cells #[.int .i64 r.kd, .int .i64 r.fr, .int .i64 r.tt, .int .i64 r.rp, .int .i64 r.no, .int .i64 r.b, .int .i64 r.v, .int .i64 r.st, .int .i64 r.k, .int .i64 r.i, .int .i64 r.f, .int .i64 r.t, .int .i64 r.a, .int .i64 r.s, u] 77) := ⟨_, rfl⟩
  have xb : Ext w wb := by rw [hwb]; exact Ext.alloc1 _ _
  have hb := msgAt_new w 77 r u
  rw [← hwb] at hb
  have HWB := Lib.hid hwb
  have HB := Lib.hid hb
  have HK := Lib.hid hk
  have HV := Lib.hid (hv.ext xb)
  have HS := Lib.hid hs
  have hbal : ballotB r = (inB r.b 0 9999) := by unfold ballotB; rw [if_neg (by omega)]
  have hcon : contB n r = true := by unfold contB; rw [if_neg (by omega), if_neg (by omega), if_pos (by omega)]
  have honl : onlyM n r = ⟨r.kd, r.fr, r.tt, r.rp, r.no, r.b, 0, 0, 0, 0, 0, 0, 0, 0, noneL n⟩ := by unfold onlyM; rw [if_neg (by omega), if_neg (by omega), if_pos (by omega)]
  have HCON := Lib.hid hcon
  have HONL := Lib.hid honl
  rw [hbal]
  clear hwb hb hv hs hbal hcon honl hk
  cases hw : wayB n r
  · have HW := Lib.hid hw
    clear hw
    go_enter Tryz.func70, Tryz.ntmps70
    go_wp2_with fail
    rw [← HWB.out]
    refine (contentOf_6 r _ _ HK.out).mono ?_
    rintro e w1 ⟨rfl, x1⟩
    obtain ⟨c0, c1, c2, c3, c4, c5, c6, c7, c8, c9, c10, c11, c12, c13, c14⟩ := HB.out.ext x1
    go_wp2_with fail
    refine (isGoodWay_any n r _ _).mono ?_
    rintro e w2 ⟨rfl, x2⟩
    rw [HW.out]
    have hx := (xb.trans x1).trans x2
    clear x1 x2 c0 c1 c2 c3 c4 c5 c6 c7 c8 c9 c10 c11 c12 c13 c14
    go_wp2
    go_ret
    exact ⟨rfl, hx⟩
  · have HW := Lib.hid hw
    have HN := Lib.hid (wayB_grp hw)
    clear hw
    cases hb : (inB r.b 0 9999)
    · have HBB := Lib.hid hb
      clear hb
      go_enter Tryz.func70, Tryz.ntmps70
      go_wp2_with fail
      rw [← HWB.out]
      refine (contentOf_6 r _ _ HK.out).mono ?_
      rintro e w1 ⟨rfl, x1⟩
      obtain ⟨c0, c1, c2, c3, c4, c5, c6, c7, c8, c9, c10, c11, c12, c13, c14⟩ := HB.out.ext x1
      go_wp2_with fail
      refine (isGoodWay_any n r _ _).mono ?_
      rintro e w2 ⟨rfl, x2⟩
      rw [HW.out]
      obtain ⟨c0, c1, c2, c3, c4, c5, c6, c7, c8, c9, c10, c11, c12, c13, c14⟩ := HB.out.ext (x1.trans x2)
      go_wp2_with fail
      refine (isGoodBallot_nothing r.b _ _).mono ?_
      rintro e w3 ⟨rfl, x3⟩
      rw [HBB.out]
      have hx := ((xb.trans x1).trans x2).trans x3
      clear x1 x2 x3 c0 c1 c2 c3 c4 c5 c6 c7 c8 c9 c10 c11 c12 c13 c14
      go_wp2
      go_ret
      exact ⟨rfl, hx⟩
    · have HBB := Lib.hid hb
      clear hb
      obtain ⟨cb, hcb⟩ : ∃ cb, cb = contB n r := ⟨_, rfl⟩
      obtain ⟨sb, hsb⟩ : ∃ sb, sb = sameM r (onlyM n r) := ⟨_, rfl⟩
      rw [← hcb, ← hsb]
      have HCB := Lib.hid hcb
      have HSB := Lib.hid hsb
      clear hcb hsb
      go_enter Tryz.func70, Tryz.ntmps70
      go_wp2_with fail
      rw [← HWB.out]
      refine (contentOf_6 r _ _ HK.out).mono ?_
      rintro e w1 ⟨rfl, x1⟩
      obtain ⟨c0, c1, c2, c3, c4, c5, c6, c7, c8, c9, c10, c11, c12, c13, c14⟩ := HB.out.ext x1
      go_wp2_with fail
      refine (isGoodWay_any n r _ _).mono ?_
      rintro e w2 ⟨rfl, x2⟩
      rw [HW.out]
      obtain ⟨c0, c1, c2, c3, c4, c5, c6, c7, c8, c9, c10, c11, c12, c13, c14⟩ := HB.out.ext (x1.trans x2)
      go_wp2_with fail
      refine (isGoodBallot_nothing r.b _ _).mono ?_
      rintro e w3 ⟨rfl, x3⟩
      rw [HBB.out]
      have hx := ((xb.trans x1).trans x2).trans x3
      obtain ⟨c0, c1, c2, c3, c4, c5, c6, c7, c8, c9, c10, c11, c12, c13, c14⟩ := HB.out.ext ((x1.trans x2).trans x3)
      have HVV := Lib.hid (HV.out.ext ((x1.trans x2).trans x3))
      clear x1 x2 x3
      obtain ⟨w4, hw4⟩ : ∃ w4, w4 = w3 := ⟨_, rfl⟩
      rw [← hw4] at hx HVV c0 c1 c2 c3 c4 c5 c6 c7 c8 c9 c10 c11 c12 c13 c14 ⊢
      clear hw4
      have HC4 := Lib.hid (show MsgAt w4 w.heap.size r u from ⟨c0, c1, c2, c3, c4, c5, c6, c7, c8, c9, c10, c11, c12, c13, c14⟩)
      have mt := fun W : World => meth_nothing r u W
      have cS4 : ∀ (y : Value) (W : World), Ints W u r.l → Ints W y (noneL n) → Calls Tryz.prog 100 #[.agg #[.int .i64 r.kd, .int .i64 r.fr, .int .i64 r.tt, .int .i64 r.rp, .int .i64 r.no, .int .i64 r.b, .int .i64 r.v, .int .i64 r.st, .int .i64 r.k, .int .i64 r.i, .int .i64 r.f, .int .i64 r.t, .int .i64 r.a, .int .i64 r.s, u], .agg #[.int .i64 r.kd, .int .i64 r.fr, .int .i64 r.tt, .int .i64 r.rp, .int .i64 r.no, .int .i64 r.b, .int .i64 0, .int .i64 0, .int .i64 0, .int .i64 0, .int .i64 0, .int .i64 0, .int .i64 0, .int .i64 0, y]] W (BoolExt sb W) := fun y W h h' => by
        rw [HSB.out, HONL.out]
        exact implSameMsg_any r ⟨r.kd, r.fr, r.tt, r.rp, r.no, r.b, 0, 0, 0, 0, 0, 0, 0, 0, noneL n⟩ u y W h h' HS.out
      have CS4 := Lib.hid cS4
      have cb1 : cb = true := by rw [HCB.out, HCON.out]
      subst cb1
      clear c0 c1 c2 c3 c4 c5 c6 c7 c8 c9 c10 c11 c12 c13 c14 HCB HCON HB HV HSB cS4
      go_wp2_with fail
      go_region_with (first | (go_at_call 164; refine (isGood_nothing n _).mono ?_; rintro e w5 ⟨rfl, x5⟩; have y5 := (Ext.drew (Ext.refl w4)).trans x5; obtain ⟨c0, c1, c2, c3, c4, c5, c6, c7, c8, c9, c10, c11, c12, c13, c14⟩ := HC4.out.ext y5) | (go_at_call 101; refine (withOnly_nothing n r u _ (HVV.out.ext (by assumption)) HN.out).mono ?_; rintro e w6 ⟨z6, rfl, f6, x6⟩; obtain ⟨a6, k6, rfl⟩ := f6.form; have y6 := Ext.trans y5 x6; obtain ⟨d0, d1, d2, d3, d4, d5, d6, d7, d8, d9, d10, d11, d12, d13, d14⟩ := HC4.out.ext y6) | (go_at_call 100; refine (CS4.out _ _ (HVV.out.ext (by assumption)) f6.ints).mono ?_; rintro e w7 ⟨rfl, x7⟩; have y7 := Ext.trans y6 x7))
      all_goals
        clear c0 c1 c2 c3 c4 c5 c6 c7 c8 c9 c10 c11 c12 c13 c14 d0 d1 d2 d3 d4 d5 d6 d7 d8 d9 d10 d11 d12 d13 d14
        cases sb
        all_goals
          go_wp2
          go_ret
          exact ⟨rfl, hx.trans y7⟩
end Go.Proofs.YtbffkidkfannhaaGreat
