/- Texts of this proof, part p5: words, plain facts, contracts. -/
import Derived.Test.YtbffkidkfannhaaGreatMGoodNetk
import Derived.Deep.RegionWith
import Derived.Deep.DeepCutAuto
import Derived.BigQuiet

namespace Go.Proofs.YtbffkidkfannhaaGreat
open Go.RowKit
set_option linter.unusedVariables false

set_option maxHeartbeats 8000000 in
set_option maxRecDepth 100000 in
theorem implGoodMsg_3 (n : Int) (r : MsgD) (u : Value) (w : World) (hv : Ints w u r.l) (hs : r.l.length ≤ 1099511627776) (hk : r.kd = 3) :
    Calls Tryz.prog 70 #[.int .i64 n, .agg #[.int .i64 r.kd, .int .i64 r.fr, .int .i64 r.tt, .int .i64 r.rp, .int .i64 r.no, .int .i64 r.b, .int .i64 r.v, .int .i64 r.st, .int .i64 r.k, .int .i64 r.i, .int .i64 r.f, .int .i64 r.t, .int .i64 r.a, .int .i64 r.s, u]] w (BoolExt (wayB n r && (ballotB r && (contB n r && sameM r (onlyM n r)))) w) := by
  obtain ⟨wb, hwb⟩ : ∃ wb, wb = w.alloc (.cells #[.int .i64 r.kd, .int .i64 r.fr, .int .i64 r.tt, .int .i64 r.rp, .int .i64 r.no, .int .i64 r.b, .int .i64 r.v, .int .i64 r.st, .int .i64 r.k, .int .i64 r.i, .int .i64 r.f, .int .i64 r.t, .int .i64 r.a, .int .i64 r.s, u] 77) := ⟨_, rfl⟩
  have xb : Ext w wb := by rw [hwb]; exact Ext.alloc1 _ _
  have hb := msgAt_new w 77 r u
  rw [← hwb] at hb
  have HWB := Lib.hid hwb
  have HB := Lib.hid hb
  have HK := Lib.hid hk
  have HV := Lib.hid (hv.ext xb)
  have HS := Lib.hid hs
  have hbal : ballotB r = (inB r.b 0 9999) := by unfold ballotB; rw [if_neg (by omega)]
  have hcon : contB n r = (goodB r.k r.i r.f r.t r.a && goodA n r.s r.l) := by unfold contB; rw [if_neg (by omega), if_neg (by omega), if_neg (by omega)]
  have honl : onlyM n r = ⟨r.kd, r.fr, r.tt, r.rp, r.no, r.b, 0, 0, r.k, r.i, r.f, r.t, r.a, r.s, r.l⟩ := by unfold onlyM; rw [if_neg (by omega), if_neg (by omega), if_neg (by omega)]
  have HCON := Lib.hid hcon
  have HONL := Lib.hid honl
  rw [hbal]
  clear hwb hb hv hs hbal hcon honl hk
  cases hw : wayB n r
  · have HW := Lib.hid hw
    clear hw
    go_enter Tryz.func70, Tryz.ntmps70
    go_wp2_with fail
    rw [← HWB.out]
    refine (contentOf_3 r _ _ HK.out).mono ?_
    rintro e w1 ⟨rfl, x1⟩
    obtain ⟨c0, c1, c2, c3, c4, c5, c6, c7, c8, c9, c10, c11, c12, c13, c14⟩ := HB.out.ext x1
    go_wp2_with fail
    refine (isGoodWay_any n r _ _).mono ?_
    rintro e w2 ⟨rfl, x2⟩
    rw [HW.out]
    have hx := (xb.trans x1).trans x2
    clear x1 x2 c0 c1 c2 c3 c4 c5 c6 c7 c8 c9 c10 c11 c12 c13 c14
    go_wp2
    go_ret
    exact ⟨rfl, hx⟩
  · have HW := Lib.hid hw
    have HN := Lib.hid (wayB_grp hw)
    clear hw
    cases hb : (inB r.b 0 9999)
    · have HBB := Lib.hid hb
      clear hb
      go_enter Tryz.func70, Tryz.ntmps70
      go_wp2_with fail
      rw [← HWB.out]
      refine (contentOf_3 r _ _ HK.out).mono ?_
      rintro e w1 ⟨rfl, x1⟩
      obtain ⟨c0, c1, c2, c3, c4, c5, c6, c7, c8, c9, c10, c11, c12, c13, c14⟩ := HB.out.ext x1
      go_wp2_with fail
      refine (isGoodWay_any n r _ _).mono ?_
      rintro e w2 ⟨rfl, x2⟩
      rw [HW.out]
      obtain ⟨c0, c1, c2, c3, c4, c5, c6, c7, c8, c9, c10, c11, c12, c13, c14⟩ := HB.out.ext (x1.trans x2)
      go_wp2_with fail
      refine (isGoodBallot_proposal r.b _ _).mono ?_
      rintro e w3 ⟨rfl, x3⟩
      rw [HBB.out]
      have hx := ((xb.trans x1).trans x2).trans x3
      clear x1 x2 x3 c0 c1 c2 c3 c4 c5 c6 c7 c8 c9 c10 c11 c12 c13 c14
      go_wp2
      go_ret
      exact ⟨rfl, hx⟩
    · have HBB := Lib.hid hb
      clear hb
      obtain ⟨cb, hcb⟩ : ∃ cb, cb = contB n r := ⟨_, rfl⟩
      obtain ⟨sb, hsb⟩ : ∃ sb, sb = sameM r (onlyM n r) := ⟨_, rfl⟩
      rw [← hcb, ← hsb]
      have HCB := Lib.hid hcb
      have HSB := Lib.hid hsb
      clear hcb hsb
      go_enter Tryz.func70, Tryz.ntmps70
      go_wp2_with fail
      rw [← HWB.out]
      refine (contentOf_3 r _ _ HK.out).mono ?_
      rintro e w1 ⟨rfl, x1⟩
      obtain ⟨c0, c1, c2, c3, c4, c5, c6, c7, c8, c9, c10, c11, c12, c13, c14⟩ := HB.out.ext x1
      go_wp2_with fail
      refine (isGoodWay_any n r _ _).mono ?_
      rintro e w2 ⟨rfl, x2⟩
      rw [HW.out]
      obtain ⟨c0, c1, c2, c3, c4, c5, c6, c7, c8, c9, c10, c11, c12, c13, c14⟩ := HB.out.ext (x1.trans x2)
      go_wp2_with fail
      refine (isGoodBallot_proposal r.b _ _).mono ?_
      rintro e w3 ⟨rfl, x3⟩
      rw [HBB.out]
      have hx := ((xb.trans x1).trans x2).trans x3
      obtain ⟨c0, c1, c2, c3, c4, c5, c6, c7, c8, c9, c10, c11, c12, c13, c14⟩ := HB.out.ext ((x1.trans x2).trans x3)
      have HVV := Lib.hid (HV.out.ext ((x1.trans x2).trans x3))
      clear x1 x2 x3
      obtain ⟨w4, hw4⟩ : ∃ w4, w4 = w3 := ⟨_, rfl⟩
      rw [← hw4] at hx HVV c0 c1 c2 c3 c4 c5 c6 c7 c8 c9 c10 c11 c12 c13 c14 ⊢
      clear hw4
      have c0 := fun E : ExtOf w4 => E.cell c0
      have c1 := fun E : ExtOf w4 => E.cell c1
      have c2 := fun E : ExtOf w4 => E.cell c2
      have c3 := fun E : ExtOf w4 => E.cell c3
      have c4 := fun E : ExtOf w4 => E.cell c4
      have c5 := fun E : ExtOf w4 => E.cell c5
      have c6 := fun E : ExtOf w4 => E.cell c6
      have c7 := fun E : ExtOf w4 => E.cell c7
      have c8 := fun E : ExtOf w4 => E.cell c8
      have c9 := fun E : ExtOf w4 => E.cell c9
      have c10 := fun E : ExtOf w4 => E.cell c10
      have c11 := fun E : ExtOf w4 => E.cell c11
      have c12 := fun E : ExtOf w4 => E.cell c12
      have c13 := fun E : ExtOf w4 => E.cell c13
      have c14 := fun E : ExtOf w4 => E.cell c14
      have mt := fun E : ExtOf w4 => meth_proposal r u E.1
      have cG : ∀ E : ExtOf w4, Calls Tryz.prog 161 #[.agg #[.int .i64 r.k, .int .i64 r.i, .int .i64 r.f, .int .i64 r.t, .int .i64 r.a, .int .i64 r.s, u], .int .i64 n] E.1 (fun x w' => x = .returned (.bool cb) ∧ Ext E.1 w') := fun E => by
        rw [HCB.out, HCON.out]
        exact isGood_proposal n r u _ (HVV.out.ext E.2)
      have cW : ∀ E : ExtOf w4, Calls Tryz.prog 101 #[.int .i64 n, .agg #[.int .i64 r.kd, .int .i64 r.fr, .int .i64 r.tt, .int .i64 r.rp, .int .i64 r.no, .int .i64 r.b, .int .i64 r.v, .int .i64 r.st, .int .i64 r.k, .int .i64 r.i, .int .i64 r.f, .int .i64 r.t, .int .i64 r.a, .int .i64 r.s, u], .iface 174 (.agg #[.int .i64 r.k, .int .i64 r.i, .int .i64 r.f, .int .i64 r.t, .int .i64 r.a, .int .i64 r.s, u])] E.1 (fun x w' => x = .returned (.agg #[.int .i64 r.kd, .int .i64 r.fr, .int .i64 r.tt, .int .i64 r.rp, .int .i64 r.no, .int .i64 r.b, .int .i64 0, .int .i64 0, .int .i64 r.k, .int .i64 r.i, .int .i64 r.f, .int .i64 r.t, .int .i64 r.a, .int .i64 r.s, u]) ∧ Ext E.1 w') := fun E =>
        (withOnly_proposal n r u E.1 (HVV.out.ext E.2) HN.out).mono (by rintro x w' ⟨y, rfl, rfl, hxx⟩; exact ⟨rfl, hxx⟩)
      have cS : ∀ E : ExtOf w4, Calls Tryz.prog 100 #[.agg #[.int .i64 r.kd, .int .i64 r.fr, .int .i64 r.tt, .int .i64 r.rp, .int .i64 r.no, .int .i64 r.b, .int .i64 r.v, .int .i64 r.st, .int .i64 r.k, .int .i64 r.i, .int .i64 r.f, .int .i64 r.t, .int .i64 r.a, .int .i64 r.s, u], .agg #[.int .i64 r.kd, .int .i64 r.fr, .int .i64 r.tt, .int .i64 r.rp, .int .i64 r.no, .int .i64 r.b, .int .i64 0, .int .i64 0, .int .i64 r.k, .int .i64 r.i, .int .i64 r.f, .int .i64 r.t, .int .i64 r.a, .int .i64 r.s, u]] E.1 (fun x w' => x = .returned (.bool sb) ∧ Ext E.1 w') := fun E => by
        rw [HSB.out, HONL.out]
        exact implSameMsg_any r ⟨r.kd, r.fr, r.tt, r.rp, r.no, r.b, 0, 0, r.k, r.i, r.f, r.t, r.a, r.s, r.l⟩ u u _ (HVV.out.ext E.2) (HVV.out.ext E.2) HS.out
      clear HCB HSB HCON HONL HB HV HVV
      cases cb with
      | false =>
        go_wp2_with fail
        refine wp_region_ext_lit (by kernel_rfl) (by kernel_rfl) ?_
        repeat (go_big_quiet_step (first | (go_at_call 161; with_reducible exact Calls.ext_of _ (cG _))))
        refine wpQuiet_nil ?_
        rintro _ ⟨E, rfl⟩
        clear cG cW cS mt c0 c1 c2 c3 c4 c5 c6 c7 c8 c9 c10 c11 c12 c13 c14
        go_wp2
        go_ret
        exact ⟨rfl, hx.trans E.2⟩
      | true =>
        cases sb
        all_goals
          go_wp2_with fail
          refine wp_region_ext_lit (by kernel_rfl) (by kernel_rfl) ?_
          repeat (go_big_quiet_step (first | (go_at_call 161; with_reducible exact Calls.ext_of _ (cG _)) | (go_at_call 101; with_reducible exact Calls.ext_of _ (cW _)) | (go_at_call 100; with_reducible exact Calls.ext_of _ (cS _))))
          refine wpQuiet_nil ?_
          rintro _ ⟨E, rfl⟩
          clear cG cW cS mt c0 c1 c2 c3 c4 c5 c6 c7 c8 c9 c10 c11 c12 c13 c14
          go_wp2
          go_ret
          exact ⟨rfl, hx.trans E.2⟩

end Go.Proofs.YtbffkidkfannhaaGreat
